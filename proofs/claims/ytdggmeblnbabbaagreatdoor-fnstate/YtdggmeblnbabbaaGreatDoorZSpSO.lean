/-
  What spec.StateOf answers: a contract over the seat's program. (Made by mkso.py.)
-/
import Derived.Test.YtdggmeblnbabbaaGreatDoorZStNx3
import Derived.Test.YtdggmeblnbabbaaGreatDoorZSpOf
namespace Go.Proofs.YtdggmeblnbabbaaGreatDoor
open Go.RowKit Go.Maps Go.WideMaps Go.Sort

set_option maxRecDepth 100000 in
set_option maxHeartbeats 4000000 in
theorem specStateOf_any (a1 a2 a6 : Option Addr) (k1 k2 k6 : Nat) (ss : List ByteArray) (fs : List Pr) (es : List Ev) (w : World) (hD : DefSl w a1 a2 k1 k2 ss fs) (hE : EvSl w (.slice a6 es.length k6) es) (F1 : ∀ i, (h : i < ss.length) → ss[i].size ≤ maxLen) (FE : ∀ i, (h : i < es.length) → es[i].step.size ≤ maxLen) (n1 : ss.length ≤ maxLen) (n2 : fs.length ≤ maxLen) :
    Calls Tryz.prog 14 #[defV a1 a2 k1 k2 ss fs, .slice a6 es.length k6] w fun x w' => StepPost w.heap.size w (soS ss fs es).1 (soS ss fs es).2 x w' := by
  have hbW : Below w.heap.size w ((w.alloc (.cells #[.slice a1 ss.length k1, .slice a2 fs.length k2] 26)).alloc (.cells #[.int .i64 0, .int .i64 0, .int .i64 0, .slice none 0 0, .slice none 0 0, .slice none 0 0, .int .i64 0, .int .i64 0] 35)) := ((Below.refl _ _).alloc (Nat.le_refl _) _).alloc (by simp) _
  have hWs : ((w.alloc (.cells #[.slice a1 ss.length k1, .slice a2 fs.length k2] 26)).alloc (.cells #[.int .i64 0, .int .i64 0, .int .i64 0, .slice none 0 0, .slice none 0 0, .slice none 0 0, .int .i64 0, .int .i64 0] 35)).heap.size = w.heap.size + 1 + 1 := by simp
  have HRW := hid (show ((w.alloc (.cells #[.slice a1 ss.length k1, .slice a2 fs.length k2] 26)).alloc (.cells #[.int .i64 0, .int .i64 0, .int .i64 0, .slice none 0 0, .slice none 0 0, .slice none 0 0, .int .i64 0, .int .i64 0] 35)).heap[w.heap.size + 1]? = some (.cells #[.int .i64 0, .int .i64 0, .int .i64 0, .slice none 0 0, .slice none 0 0, .slice none 0 0, .int .i64 0, .int .i64 0] 35 (0, 0)) from by
    have h := heap_alloc_new (w.alloc (.cells #[.slice a1 ss.length k1, .slice a2 fs.length k2] 26)) (.cells #[.int .i64 0, .int .i64 0, .int .i64 0, .slice none 0 0, .slice none 0 0, .slice none 0 0, .int .i64 0, .int .i64 0] 35 (0, 0))
    rw [show (w.alloc (.cells #[.slice a1 ss.length k1, .slice a2 fs.length k2] 26)).heap.size = w.heap.size + 1 by simp] at h
    exact h)
  have HDW := hid (hD.stay hbW)
  have HEW := hid (hE.stay hbW (Nat.le_refl _))
  have cR := hid (specDefRight_any a1 a2 k1 k2 ss fs _ HDW.out.h1 HDW.out.h2 F1 n1 n2)
  have HBW := hid hbW
  have HFE := hid FE
  clear hD hE hbW F1 FE n1 n2
  have D0 := hid (show ((w.alloc (.cells #[.slice a1 ss.length k1, .slice a2 fs.length k2] 26)).alloc (.cells #[.int .i64 0, .int .i64 0, .int .i64 0, .slice none 0 0, .slice none 0 0, .slice none 0 0, .int .i64 0, .int .i64 0] 35)).cell? ⟨w.heap.size, 0, none⟩ = some (.slice a1 ss.length k1) by simp [go_sem])
  have D1 := hid (show ((w.alloc (.cells #[.slice a1 ss.length k1, .slice a2 fs.length k2] 26)).alloc (.cells #[.int .i64 0, .int .i64 0, .int .i64 0, .slice none 0 0, .slice none 0 0, .slice none 0 0, .int .i64 0, .int .i64 0] 35)).cell? ⟨w.heap.size, 1, none⟩ = some (.slice a2 fs.length k2) by simp [go_sem])
  by_cases h4 : 400 < es.length
  · have HFIN := hid (soS_big ss fs h4)
    clear cR HDW HEW D0 D1
    go_enter Tryz.func14, Tryz.ntmps14
    go_upto_region 1 with fail
    generalize ((w.alloc (.cells #[.slice a1 ss.length k1, .slice a2 fs.length k2] 26)).alloc (.cells #[.int .i64 0, .int .i64 0, .int .i64 0, .slice none 0 0, .slice none 0 0, .slice none 0 0, .int .i64 0, .int .i64 0] 35)) = W at *
    have r0 : W.cell? ⟨w.heap.size + 1, 0, none⟩ = some (.int .i64 0) := by rw [Lib.cell_of_heap HRW.out]; rfl
    have r1 : W.cell? ⟨w.heap.size + 1, 1, none⟩ = some (.int .i64 0) := by rw [Lib.cell_of_heap HRW.out]; rfl
    have r2 : W.cell? ⟨w.heap.size + 1, 2, none⟩ = some (.int .i64 0) := by rw [Lib.cell_of_heap HRW.out]; rfl
    have r3 : W.cell? ⟨w.heap.size + 1, 3, none⟩ = some (.slice none 0 0) := by rw [Lib.cell_of_heap HRW.out]; rfl
    have r4 : W.cell? ⟨w.heap.size + 1, 4, none⟩ = some (.slice none 0 0) := by rw [Lib.cell_of_heap HRW.out]; rfl
    have r5 : W.cell? ⟨w.heap.size + 1, 5, none⟩ = some (.slice none 0 0) := by rw [Lib.cell_of_heap HRW.out]; rfl
    have r6 : W.cell? ⟨w.heap.size + 1, 6, none⟩ = some (.int .i64 0) := by rw [Lib.cell_of_heap HRW.out]; rfl
    have r7 : W.cell? ⟨w.heap.size + 1, 7, none⟩ = some (.int .i64 0) := by rw [Lib.cell_of_heap HRW.out]; rfl
    have rf := Lib.frozen_of_heap HRW.out
    go_wp2_with fail
    have hCR : Chg (fun j => j = w.heap.size + 1) W ((((((((W.setCell ⟨w.heap.size + 1, 0, none⟩ (.int .i64 0)).setCell ⟨w.heap.size + 1, 1, none⟩ (.int .i64 0)).setCell ⟨w.heap.size + 1, 2, none⟩ (.int .i64 0)).setCell ⟨w.heap.size + 1, 3, none⟩ (.slice none 0 0)).setCell ⟨w.heap.size + 1, 4, none⟩ (.slice none 0 0)).setCell ⟨w.heap.size + 1, 5, none⟩ (.slice none 0 0)).setCell ⟨w.heap.size + 1, 6, none⟩ (.int .i64 0)).setCell ⟨w.heap.size + 1, 7, none⟩ (.int .i64 2)) := (((((((chg_set _ _ _ _).trans (chg_set _ _ _ _)).trans (chg_set _ _ _ _)).trans (chg_set _ _ _ _)).trans (chg_set _ _ _ _)).trans (chg_set _ _ _ _)).trans (chg_set _ _ _ _)).trans (chg_set _ _ _ _)
    refine bodyPost_ret (v := outV 2 z0 (.slice none 0 0) (.slice none 0 0) (.slice none 0 0)) (by simp [results, Tryz.results14, go_sem, outV, z0, r0, r1, r2, r3, r4, r5, r6, r7]) rfl ?_
    show StepPost _ _ (soS ss fs es).1 (soS ss fs es).2 _ _
    rw [HFIN.out]
    exact ⟨_, _, _, rfl, StOwn.none _ _, HBW.out.trans (hCR.below (by omega) (fun j (h : j = _) => by omega))⟩
  · go_enter Tryz.func14, Tryz.ntmps14
    go_wp2_with fail
    refine cR.out.mono ?_
    generalize ((w.alloc (.cells #[.slice a1 ss.length k1, .slice a2 fs.length k2] 26)).alloc (.cells #[.int .i64 0, .int .i64 0, .int .i64 0, .slice none 0 0, .slice none 0 0, .slice none 0 0, .int .i64 0, .int .i64 0] 35)) = W at *
    rintro x W1 ⟨⟨B1, rfl, T⟩, hb1⟩
    have HB1 := hid (HBW.out.trans (hb1.mono HBW.out.size))
    have hz1 := hb1.size
    have d0 := (hb1.cell (p := ⟨w.heap.size, 0, none⟩) (by show w.heap.size < _; omega)).trans D0.out
    have d1 := (hb1.cell (p := ⟨w.heap.size, 1, none⟩) (by show w.heap.size < _; omega)).trans D1.out
    have HR1 := hid ((hb1.block (w.heap.size + 1) (by omega)).trans HRW.out)
    have r0 : W1.cell? ⟨w.heap.size + 1, 0, none⟩ = some (.int .i64 0) := by rw [Lib.cell_of_heap HR1.out]; rfl
    have r1 : W1.cell? ⟨w.heap.size + 1, 1, none⟩ = some (.int .i64 0) := by rw [Lib.cell_of_heap HR1.out]; rfl
    have r2 : W1.cell? ⟨w.heap.size + 1, 2, none⟩ = some (.int .i64 0) := by rw [Lib.cell_of_heap HR1.out]; rfl
    have r3 : W1.cell? ⟨w.heap.size + 1, 3, none⟩ = some (.slice none 0 0) := by rw [Lib.cell_of_heap HR1.out]; rfl
    have r4 : W1.cell? ⟨w.heap.size + 1, 4, none⟩ = some (.slice none 0 0) := by rw [Lib.cell_of_heap HR1.out]; rfl
    have r5 : W1.cell? ⟨w.heap.size + 1, 5, none⟩ = some (.slice none 0 0) := by rw [Lib.cell_of_heap HR1.out]; rfl
    have r6 : W1.cell? ⟨w.heap.size + 1, 6, none⟩ = some (.int .i64 0) := by rw [Lib.cell_of_heap HR1.out]; rfl
    have r7 : W1.cell? ⟨w.heap.size + 1, 7, none⟩ = some (.int .i64 0) := by rw [Lib.cell_of_heap HR1.out]; rfl
    have rf := Lib.frozen_of_heap HR1.out
    have HT := hid T
    have HD1 := hid (HDW.out.stay hb1)
    have HE1 := hid (HEW.out.stay hb1 (Nat.le_refl _))
    have hRl : w.heap.size + 1 < W1.heap.size := by omega
    clear T hb1 cR HRW HDW HEW D0 D1
    cases B1 with
    | false =>
      have HFIN := hid (soS_no ss fs h4 (fun h => absurd (HT.out.yes h.1) (by decide)))
      go_wp2_with fail
      have hCR : Chg (fun j => j = w.heap.size + 1) W1 ((((((((W1.setCell ⟨w.heap.size + 1, 0, none⟩ (.int .i64 0)).setCell ⟨w.heap.size + 1, 1, none⟩ (.int .i64 0)).setCell ⟨w.heap.size + 1, 2, none⟩ (.int .i64 0)).setCell ⟨w.heap.size + 1, 3, none⟩ (.slice none 0 0)).setCell ⟨w.heap.size + 1, 4, none⟩ (.slice none 0 0)).setCell ⟨w.heap.size + 1, 5, none⟩ (.slice none 0 0)).setCell ⟨w.heap.size + 1, 6, none⟩ (.int .i64 0)).setCell ⟨w.heap.size + 1, 7, none⟩ (.int .i64 1)) := (((((((chg_set _ _ _ _).trans (chg_set _ _ _ _)).trans (chg_set _ _ _ _)).trans (chg_set _ _ _ _)).trans (chg_set _ _ _ _)).trans (chg_set _ _ _ _)).trans (chg_set _ _ _ _)).trans (chg_set _ _ _ _)
      refine bodyPost_ret (v := outV 1 z0 (.slice none 0 0) (.slice none 0 0) (.slice none 0 0)) (by simp [results, Tryz.results14, go_sem, outV, z0, r0, r1, r2, r3, r4, r5, r6, r7]) rfl ?_
      show StepPost _ _ (soS ss fs es).1 (soS ss fs es).2 _ _
      rw [HFIN.out]
      exact ⟨_, _, _, rfl, StOwn.none _ _, HB1.out.trans (hCR.below (by omega) (fun j (h : j = _) => by omega))⟩
    | true =>
      have HY := hid (show DefP ss fs from HT.out.1 rfl)
      by_cases h2 : es.length ≤ 200
      case neg =>
        have HFIN := hid (soS_no ss fs h4 (fun h => h2 h.2))
        go_wp2_with fail
        have hCR : Chg (fun j => j = w.heap.size + 1) W1 ((((((((W1.setCell ⟨w.heap.size + 1, 0, none⟩ (.int .i64 0)).setCell ⟨w.heap.size + 1, 1, none⟩ (.int .i64 0)).setCell ⟨w.heap.size + 1, 2, none⟩ (.int .i64 0)).setCell ⟨w.heap.size + 1, 3, none⟩ (.slice none 0 0)).setCell ⟨w.heap.size + 1, 4, none⟩ (.slice none 0 0)).setCell ⟨w.heap.size + 1, 5, none⟩ (.slice none 0 0)).setCell ⟨w.heap.size + 1, 6, none⟩ (.int .i64 0)).setCell ⟨w.heap.size + 1, 7, none⟩ (.int .i64 1)) := (((((((chg_set _ _ _ _).trans (chg_set _ _ _ _)).trans (chg_set _ _ _ _)).trans (chg_set _ _ _ _)).trans (chg_set _ _ _ _)).trans (chg_set _ _ _ _)).trans (chg_set _ _ _ _)).trans (chg_set _ _ _ _)
        refine bodyPost_ret (v := outV 1 z0 (.slice none 0 0) (.slice none 0 0) (.slice none 0 0)) (by simp [results, Tryz.results14, go_sem, outV, z0, r0, r1, r2, r3, r4, r5, r6, r7]) rfl ?_
        show StepPost _ _ (soS ss fs es).1 (soS ss fs es).2 _ _
        rw [HFIN.out]
        exact ⟨_, _, _, rfl, StOwn.none _ _, HB1.out.trans (hCR.below (by omega) (fun j (h : j = _) => by omega))⟩
      case pos =>
        have HFIN := hid (soS_yes ss fs h4 HY.out h2)
        have cS := hid (l03Of_any a1 a2 a6 k1 k2 k6 ss fs es W1 HD1.out HE1.out HY.out HFE.out (by omega))
        change Hid (Calls _ _ #[defV a1 a2 k1 k2 ss fs, .slice a6 es.length k6] _ _) at cS
        generalize hst : ofS ss fs es z0 = cs at *
        have HST := hid hst
        clear hst
        obtain ⟨c, S'⟩ := cs
        go_wp2_with fail
        refine cS.out.mono ?_
        rintro x W3 ⟨u3, u4, u5, rfl, hO, hb⟩
        obtain ⟨x3a, x4a, x5a, x3c, x4c, x5c, rfl, rfl, rfl⟩ := hO.forms
        have HO := hid hO
        have HR3 := hid ((hb.block (w.heap.size + 1) (by omega)).trans HR1.out)
        have hz9 := hb.size
        have HBF := hid (HB1.out.trans (hb.mono HB1.out.size))
        clear hO hb d0 d1 r0 r1 r2 r3 r4 r5 r6 r7 rf
        have r0 : W3.cell? ⟨w.heap.size + 1, 0, none⟩ = some (.int .i64 0) := by rw [Lib.cell_of_heap HR3.out]; rfl
        have r1 : W3.cell? ⟨w.heap.size + 1, 1, none⟩ = some (.int .i64 0) := by rw [Lib.cell_of_heap HR3.out]; rfl
        have r2 : W3.cell? ⟨w.heap.size + 1, 2, none⟩ = some (.int .i64 0) := by rw [Lib.cell_of_heap HR3.out]; rfl
        have r3 : W3.cell? ⟨w.heap.size + 1, 3, none⟩ = some (.slice none 0 0) := by rw [Lib.cell_of_heap HR3.out]; rfl
        have r4 : W3.cell? ⟨w.heap.size + 1, 4, none⟩ = some (.slice none 0 0) := by rw [Lib.cell_of_heap HR3.out]; rfl
        have r5 : W3.cell? ⟨w.heap.size + 1, 5, none⟩ = some (.slice none 0 0) := by rw [Lib.cell_of_heap HR3.out]; rfl
        have r6 : W3.cell? ⟨w.heap.size + 1, 6, none⟩ = some (.int .i64 0) := by rw [Lib.cell_of_heap HR3.out]; rfl
        have r7 : W3.cell? ⟨w.heap.size + 1, 7, none⟩ = some (.int .i64 0) := by rw [Lib.cell_of_heap HR3.out]; rfl
        have rf := Lib.frozen_of_heap HR3.out
        unfold outV
        go_wp2_with fail
        have hCR : Chg (fun j => j = w.heap.size + 1) W3 ((((((((W3.setCell ⟨w.heap.size + 1, 0, none⟩ (.int .i64 S'.status)).setCell ⟨w.heap.size + 1, 1, none⟩ (.int .i64 S'.begun)).setCell ⟨w.heap.size + 1, 2, none⟩ (.int .i64 S'.last)).setCell ⟨w.heap.size + 1, 3, none⟩ (.slice x3a S'.wait.length x3c)).setCell ⟨w.heap.size + 1, 4, none⟩ (.slice x4a S'.busy.length x4c)).setCell ⟨w.heap.size + 1, 5, none⟩ (.slice x5a S'.vars.length x5c)).setCell ⟨w.heap.size + 1, 6, none⟩ (.int .i64 S'.faults)).setCell ⟨w.heap.size + 1, 7, none⟩ (.int .i64 c)) := (((((((chg_set _ _ _ _).trans (chg_set _ _ _ _)).trans (chg_set _ _ _ _)).trans (chg_set _ _ _ _)).trans (chg_set _ _ _ _)).trans (chg_set _ _ _ _)).trans (chg_set _ _ _ _)).trans (chg_set _ _ _ _)
        refine bodyPost_ret (v := outV c S' (.slice x3a S'.wait.length x3c) (.slice x4a S'.busy.length x4c) (.slice x5a S'.vars.length x5c)) (by simp [results, Tryz.results14, go_sem, outV, r0, r1, r2, r3, r4, r5, r6, r7]) rfl ?_
        show StepPost _ _ (soS ss fs es).1 (soS ss fs es).2 _ _
        rw [HFIN.out]
        exact ⟨_, _, _, rfl, (HO.out.turn hCR HR3.out (by decide) (by decide)).le (by omega), HBF.out.trans (hCR.below (by omega) (fun j (h : j = _) => by omega))⟩
end Go.Proofs.YtdggmeblnbabbaaGreatDoor
