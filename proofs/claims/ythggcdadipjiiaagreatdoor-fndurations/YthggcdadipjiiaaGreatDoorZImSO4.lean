/-
  Texts put together: ImSO, ImHist, DuZ, Mark.
-/
import Derived.Test.YthggcdadipjiiaaGreatDoorZSpStA5
import Derived.Test.YthggcdadipjiiaaGreatDoorZImTold2
import Derived.Test.YthggcdadipjiiaaGreatDoorZImDef2
import Derived.Test.YthggcdadipjiiaaGreatDoorZShRun2
import Derived.Test.YthggcdadipjiiaaGreatDoorZImRis4
import Derived.Test.YthggcdadipjiiaaGreatDoorZItr6
import Derived.Deep.RegionHeld3
import Derived.Test.YthggcdadipjiiaaGreatDoorZSpDur
import Derived.Test.YthggcdadipjiiaaGreatDoorZSpHist3
import Derived.Test.YthggcdadipjiiaaGreatDoorZImDur
import Derived.Test.YthggcdadipjiiaaGreatDoorZGen4
/-
  What impl.StateOf answers: a contract over the seat's program. (Made by mkso.py.)
-/
namespace Go.Proofs.YthggcdadipjiiaaGreatDoor
open Go.RowKit Go.Maps Go.WideMaps Go.Sort

set_option maxRecDepth 100000 in
set_option maxHeartbeats 4000000 in
theorem implStateOf_any (a1 a2 a6 : Option Addr) (k1 k2 k6 : Nat) (ss : List ByteArray) (fs : List Pr) (es : List Ev) (w : World) (hD : DefSl w a1 a2 k1 k2 ss fs) (hE : EvSl w (.slice a6 es.length k6) es) (F1 : ∀ i, (h : i < ss.length) → ss[i].size ≤ maxLen) (F2 : FitP fs) (FE : ∀ i, (h : i < es.length) → es[i].step.size ≤ maxLen) (n1 : ss.length ≤ maxLen) (n2 : fs.length ≤ maxLen) (e0 e1 e2 e3 e4 : Addr) (hEr : ErrsAt w e0 e1 e2 e3 e4) :
    Calls Tryz.prog 55 #[defV a1 a2 k1 k2 ss fs, .slice a6 es.length k6] w fun x w' => StepPost w.heap.size w (soS ss fs es).1 (soS ss fs es).2 x w' := by
  have hbW : Below w.heap.size w ((w.alloc (.cells #[.slice a1 ss.length k1, .slice a2 fs.length k2] 26)).alloc (.cells #[.int .i64 0, .int .i64 0, .int .i64 0, .slice none 0 0, .slice none 0 0, .slice none 0 0, .int .i64 0, .int .i64 0] 93)) := ((Below.refl _ _).alloc (Nat.le_refl _) _).alloc (by simp) _
  have hWs : ((w.alloc (.cells #[.slice a1 ss.length k1, .slice a2 fs.length k2] 26)).alloc (.cells #[.int .i64 0, .int .i64 0, .int .i64 0, .slice none 0 0, .slice none 0 0, .slice none 0 0, .int .i64 0, .int .i64 0] 93)).heap.size = w.heap.size + 1 + 1 := by simp
  have HRW := hid (show ((w.alloc (.cells #[.slice a1 ss.length k1, .slice a2 fs.length k2] 26)).alloc (.cells #[.int .i64 0, .int .i64 0, .int .i64 0, .slice none 0 0, .slice none 0 0, .slice none 0 0, .int .i64 0, .int .i64 0] 93)).heap[w.heap.size + 1]? = some (.cells #[.int .i64 0, .int .i64 0, .int .i64 0, .slice none 0 0, .slice none 0 0, .slice none 0 0, .int .i64 0, .int .i64 0] 93 (0, 0)) from by
    have h := heap_alloc_new (w.alloc (.cells #[.slice a1 ss.length k1, .slice a2 fs.length k2] 26)) (.cells #[.int .i64 0, .int .i64 0, .int .i64 0, .slice none 0 0, .slice none 0 0, .slice none 0 0, .int .i64 0, .int .i64 0] 93 (0, 0))
    rw [show (w.alloc (.cells #[.slice a1 ss.length k1, .slice a2 fs.length k2] 26)).heap.size = w.heap.size + 1 by simp] at h
    exact h)
  have HDW := hid (hD.stay hbW)
  have HEW := hid (hE.stay hbW (Nat.le_refl _))
  have HER := hid (hEr.stay hbW)
  clear hEr
  have cR := hid (implDefRight_any a1 a2 k1 k2 ss fs _ HDW.out.h1 HDW.out.h2 F1 n1 n2)
  have HBW := hid hbW
  have HF1 := hid F1
  have HF2 := hid F2
  clear F2
  have HFE := hid FE
  clear hD hE hbW F1 FE n1 n2
  have D0 := hid (show ((w.alloc (.cells #[.slice a1 ss.length k1, .slice a2 fs.length k2] 26)).alloc (.cells #[.int .i64 0, .int .i64 0, .int .i64 0, .slice none 0 0, .slice none 0 0, .slice none 0 0, .int .i64 0, .int .i64 0] 93)).cell? ⟨w.heap.size, 0, none⟩ = some (.slice a1 ss.length k1) by simp [go_sem])
  have D1 := hid (show ((w.alloc (.cells #[.slice a1 ss.length k1, .slice a2 fs.length k2] 26)).alloc (.cells #[.int .i64 0, .int .i64 0, .int .i64 0, .slice none 0 0, .slice none 0 0, .slice none 0 0, .int .i64 0, .int .i64 0] 93)).cell? ⟨w.heap.size, 1, none⟩ = some (.slice a2 fs.length k2) by simp [go_sem])
  by_cases h4 : 400 < es.length
  · have HFIN := hid (soS_big ss fs h4)
    clear cR HDW HEW D0 D1
    go_enter Tryz.func55, Tryz.ntmps55
    go_upto_region 1 with fail
    generalize ((w.alloc (.cells #[.slice a1 ss.length k1, .slice a2 fs.length k2] 26)).alloc (.cells #[.int .i64 0, .int .i64 0, .int .i64 0, .slice none 0 0, .slice none 0 0, .slice none 0 0, .int .i64 0, .int .i64 0] 93)) = W at *
    have r0 : W.cell? ⟨w.heap.size + 1, 0, none⟩ = some (.int .i64 0) := by rw [Lib.cell_of_heap HRW.out]; rfl
    have r1 : W.cell? ⟨w.heap.size + 1, 1, none⟩ = some (.int .i64 0) := by rw [Lib.cell_of_heap HRW.out]; rfl
    have r2 : W.cell? ⟨w.heap.size + 1, 2, none⟩ = some (.int .i64 0) := by rw [Lib.cell_of_heap HRW.out]; rfl
    have r3 : W.cell? ⟨w.heap.size + 1, 3, none⟩ = some (.slice none 0 0) := by rw [Lib.cell_of_heap HRW.out]; rfl
    have r4 : W.cell? ⟨w.heap.size + 1, 4, none⟩ = some (.slice none 0 0) := by rw [Lib.cell_of_heap HRW.out]; rfl
    have r5 : W.cell? ⟨w.heap.size + 1, 5, none⟩ = some (.slice none 0 0) := by rw [Lib.cell_of_heap HRW.out]; rfl
    have r6 : W.cell? ⟨w.heap.size + 1, 6, none⟩ = some (.int .i64 0) := by rw [Lib.cell_of_heap HRW.out]; rfl
    have r7 : W.cell? ⟨w.heap.size + 1, 7, none⟩ = some (.int .i64 0) := by rw [Lib.cell_of_heap HRW.out]; rfl
    have rf := Lib.frozen_of_heap HRW.out
    go_wp2_with fail
    have hCR : Chg (fun j => j = w.heap.size + 1) W ((((((((W.setCell ⟨w.heap.size + 1, 0, none⟩ (.int .i64 0)).setCell ⟨w.heap.size + 1, 1, none⟩ (.int .i64 0)).setCell ⟨w.heap.size + 1, 2, none⟩ (.int .i64 0)).setCell ⟨w.heap.size + 1, 3, none⟩ (.slice none 0 0)).setCell ⟨w.heap.size + 1, 4, none⟩ (.slice none 0 0)).setCell ⟨w.heap.size + 1, 5, none⟩ (.slice none 0 0)).setCell ⟨w.heap.size + 1, 6, none⟩ (.int .i64 0)).setCell ⟨w.heap.size + 1, 7, none⟩ (.int .i64 2)) := (((((((chg_set _ _ _ _).trans (chg_set _ _ _ _)).trans (chg_set _ _ _ _)).trans (chg_set _ _ _ _)).trans (chg_set _ _ _ _)).trans (chg_set _ _ _ _)).trans (chg_set _ _ _ _)).trans (chg_set _ _ _ _)
    refine bodyPost_ret (v := outV 2 z0 (.slice none 0 0) (.slice none 0 0) (.slice none 0 0)) (by simp [results, Tryz.results55, go_sem, outV, z0, r0, r1, r2, r3, r4, r5, r6, r7]) rfl ?_
    show StepPost _ _ (soS ss fs es).1 (soS ss fs es).2 _ _
    rw [HFIN.out]
    exact ⟨_, _, _, rfl, StOwn.none _ _, HBW.out.trans (hCR.below (by omega) (fun j (h : j = _) => by omega))⟩
  · go_enter Tryz.func55, Tryz.ntmps55
    go_wp2_with fail
    refine cR.out.mono ?_
    generalize ((w.alloc (.cells #[.slice a1 ss.length k1, .slice a2 fs.length k2] 26)).alloc (.cells #[.int .i64 0, .int .i64 0, .int .i64 0, .slice none 0 0, .slice none 0 0, .slice none 0 0, .int .i64 0, .int .i64 0] 93)) = W at *
    rintro x W1 ⟨⟨B1, rfl, T⟩, hb1⟩
    have HB1 := hid (HBW.out.trans (hb1.mono HBW.out.size))
    have hz1 := hb1.size
    have d0 := (hb1.cell (p := ⟨w.heap.size, 0, none⟩) (by show w.heap.size < _; omega)).trans D0.out
    have d1 := (hb1.cell (p := ⟨w.heap.size, 1, none⟩) (by show w.heap.size < _; omega)).trans D1.out
    have HR1 := hid ((hb1.block (w.heap.size + 1) (by omega)).trans HRW.out)
    have r0 : W1.cell? ⟨w.heap.size + 1, 0, none⟩ = some (.int .i64 0) := by rw [Lib.cell_of_heap HR1.out]; rfl
    have r1 : W1.cell? ⟨w.heap.size + 1, 1, none⟩ = some (.int .i64 0) := by rw [Lib.cell_of_heap HR1.out]; rfl
    have r2 : W1.cell? ⟨w.heap.size + 1, 2, none⟩ = some (.int .i64 0) := by rw [Lib.cell_of_heap HR1.out]; rfl
    have r3 : W1.cell? ⟨w.heap.size + 1, 3, none⟩ = some (.slice none 0 0) := by rw [Lib.cell_of_heap HR1.out]; rfl
    have r4 : W1.cell? ⟨w.heap.size + 1, 4, none⟩ = some (.slice none 0 0) := by rw [Lib.cell_of_heap HR1.out]; rfl
    have r5 : W1.cell? ⟨w.heap.size + 1, 5, none⟩ = some (.slice none 0 0) := by rw [Lib.cell_of_heap HR1.out]; rfl
    have r6 : W1.cell? ⟨w.heap.size + 1, 6, none⟩ = some (.int .i64 0) := by rw [Lib.cell_of_heap HR1.out]; rfl
    have r7 : W1.cell? ⟨w.heap.size + 1, 7, none⟩ = some (.int .i64 0) := by rw [Lib.cell_of_heap HR1.out]; rfl
    have rf := Lib.frozen_of_heap HR1.out
    have HT := hid T
    have HD1 := hid (HDW.out.stay hb1)
    have HE1 := hid (HEW.out.stay hb1 (Nat.le_refl _))
    have HER1 := hid (HER.out.stay hb1)
    have hRl : w.heap.size + 1 < W1.heap.size := by omega
    clear T hb1 cR HRW HDW HEW D0 D1
    cases B1 with
    | false =>
      have HFIN := hid (soS_no ss fs h4 (fun h => absurd (HT.out.yes h.1) (by decide)))
      go_wp2_with fail
      have hCR : Chg (fun j => j = w.heap.size + 1) W1 ((((((((W1.setCell ⟨w.heap.size + 1, 0, none⟩ (.int .i64 0)).setCell ⟨w.heap.size + 1, 1, none⟩ (.int .i64 0)).setCell ⟨w.heap.size + 1, 2, none⟩ (.int .i64 0)).setCell ⟨w.heap.size + 1, 3, none⟩ (.slice none 0 0)).setCell ⟨w.heap.size + 1, 4, none⟩ (.slice none 0 0)).setCell ⟨w.heap.size + 1, 5, none⟩ (.slice none 0 0)).setCell ⟨w.heap.size + 1, 6, none⟩ (.int .i64 0)).setCell ⟨w.heap.size + 1, 7, none⟩ (.int .i64 1)) := (((((((chg_set _ _ _ _).trans (chg_set _ _ _ _)).trans (chg_set _ _ _ _)).trans (chg_set _ _ _ _)).trans (chg_set _ _ _ _)).trans (chg_set _ _ _ _)).trans (chg_set _ _ _ _)).trans (chg_set _ _ _ _)
      refine bodyPost_ret (v := outV 1 z0 (.slice none 0 0) (.slice none 0 0) (.slice none 0 0)) (by simp [results, Tryz.results55, go_sem, outV, z0, r0, r1, r2, r3, r4, r5, r6, r7]) rfl ?_
      show StepPost _ _ (soS ss fs es).1 (soS ss fs es).2 _ _
      rw [HFIN.out]
      exact ⟨_, _, _, rfl, StOwn.none _ _, HB1.out.trans (hCR.below (by omega) (fun j (h : j = _) => by omega))⟩
    | true =>
      have HY := hid (show DefP ss fs from HT.out.1 rfl)
      by_cases h2 : es.length ≤ 200
      case neg =>
        have HFIN := hid (soS_no ss fs h4 (fun h => h2 h.2))
        go_wp2_with fail
        have hCR : Chg (fun j => j = w.heap.size + 1) W1 ((((((((W1.setCell ⟨w.heap.size + 1, 0, none⟩ (.int .i64 0)).setCell ⟨w.heap.size + 1, 1, none⟩ (.int .i64 0)).setCell ⟨w.heap.size + 1, 2, none⟩ (.int .i64 0)).setCell ⟨w.heap.size + 1, 3, none⟩ (.slice none 0 0)).setCell ⟨w.heap.size + 1, 4, none⟩ (.slice none 0 0)).setCell ⟨w.heap.size + 1, 5, none⟩ (.slice none 0 0)).setCell ⟨w.heap.size + 1, 6, none⟩ (.int .i64 0)).setCell ⟨w.heap.size + 1, 7, none⟩ (.int .i64 1)) := (((((((chg_set _ _ _ _).trans (chg_set _ _ _ _)).trans (chg_set _ _ _ _)).trans (chg_set _ _ _ _)).trans (chg_set _ _ _ _)).trans (chg_set _ _ _ _)).trans (chg_set _ _ _ _)).trans (chg_set _ _ _ _)
        refine bodyPost_ret (v := outV 1 z0 (.slice none 0 0) (.slice none 0 0) (.slice none 0 0)) (by simp [results, Tryz.results55, go_sem, outV, z0, r0, r1, r2, r3, r4, r5, r6, r7]) rfl ?_
        show StepPost _ _ (soS ss fs es).1 (soS ss fs es).2 _ _
        rw [HFIN.out]
        exact ⟨_, _, _, rfl, StOwn.none _ _, HB1.out.trans (hCR.below (by omega) (fun j (h : j = _) => by omega))⟩
      case pos =>
        have HFIN := hid (soS_yes ss fs h4 HY.out h2)
        have cS := hid (happened_any a1 a2 none none none a6 k1 k2 0 0 0 k6 ss fs z0 es e0 e1 e2 e3 e4 W1 HD1.out (z0_sl _) HE1.out HER1.out HY.out (z0_right ss) HF1.out HF2.out HFE.out (by omega))
        change Hid (Calls _ _ #[defV a1 a2 k1 k2 ss fs, .agg #[.int .i64 0, .int .i64 0, .int .i64 0, .slice none 0 0, .slice none 0 0, .slice none 0 0, .int .i64 0], .slice a6 es.length k6] _ _) at cS
        generalize hst : ofS ss fs es z0 = cs at *
        have HST := hid hst
        clear hst
        obtain ⟨c, S'⟩ := cs
        go_wp2_with fail
        refine cS.out.mono ?_
        rintro x W3 ⟨u3, u4, u5, rfl, hO, hb⟩
        obtain ⟨x3a, x4a, x5a, x3c, x4c, x5c, rfl, rfl, rfl⟩ := hO.forms
        have HO := hid hO
        have HR3 := hid ((hb.block (w.heap.size + 1) (by omega)).trans HR1.out)
        have hz9 := hb.size
        have HBF := hid (HB1.out.trans (hb.mono HB1.out.size))
        clear hO hb d0 d1 r0 r1 r2 r3 r4 r5 r6 r7 rf
        have r0 : W3.cell? ⟨w.heap.size + 1, 0, none⟩ = some (.int .i64 0) := by rw [Lib.cell_of_heap HR3.out]; rfl
        have r1 : W3.cell? ⟨w.heap.size + 1, 1, none⟩ = some (.int .i64 0) := by rw [Lib.cell_of_heap HR3.out]; rfl
        have r2 : W3.cell? ⟨w.heap.size + 1, 2, none⟩ = some (.int .i64 0) := by rw [Lib.cell_of_heap HR3.out]; rfl
        have r3 : W3.cell? ⟨w.heap.size + 1, 3, none⟩ = some (.slice none 0 0) := by rw [Lib.cell_of_heap HR3.out]; rfl
        have r4 : W3.cell? ⟨w.heap.size + 1, 4, none⟩ = some (.slice none 0 0) := by rw [Lib.cell_of_heap HR3.out]; rfl
        have r5 : W3.cell? ⟨w.heap.size + 1, 5, none⟩ = some (.slice none 0 0) := by rw [Lib.cell_of_heap HR3.out]; rfl
        have r6 : W3.cell? ⟨w.heap.size + 1, 6, none⟩ = some (.int .i64 0) := by rw [Lib.cell_of_heap HR3.out]; rfl
        have r7 : W3.cell? ⟨w.heap.size + 1, 7, none⟩ = some (.int .i64 0) := by rw [Lib.cell_of_heap HR3.out]; rfl
        have rf := Lib.frozen_of_heap HR3.out
        unfold outV
        go_wp2_with fail
        have hCR : Chg (fun j => j = w.heap.size + 1) W3 ((((((((W3.setCell ⟨w.heap.size + 1, 0, none⟩ (.int .i64 S'.status)).setCell ⟨w.heap.size + 1, 1, none⟩ (.int .i64 S'.begun)).setCell ⟨w.heap.size + 1, 2, none⟩ (.int .i64 S'.last)).setCell ⟨w.heap.size + 1, 3, none⟩ (.slice x3a S'.wait.length x3c)).setCell ⟨w.heap.size + 1, 4, none⟩ (.slice x4a S'.busy.length x4c)).setCell ⟨w.heap.size + 1, 5, none⟩ (.slice x5a S'.vars.length x5c)).setCell ⟨w.heap.size + 1, 6, none⟩ (.int .i64 S'.faults)).setCell ⟨w.heap.size + 1, 7, none⟩ (.int .i64 c)) := (((((((chg_set _ _ _ _).trans (chg_set _ _ _ _)).trans (chg_set _ _ _ _)).trans (chg_set _ _ _ _)).trans (chg_set _ _ _ _)).trans (chg_set _ _ _ _)).trans (chg_set _ _ _ _)).trans (chg_set _ _ _ _)
        refine bodyPost_ret (v := outV c S' (.slice x3a S'.wait.length x3c) (.slice x4a S'.busy.length x4c) (.slice x5a S'.vars.length x5c)) (by simp [results, Tryz.results55, go_sem, outV, r0, r1, r2, r3, r4, r5, r6, r7]) rfl ?_
        show StepPost _ _ (soS ss fs es).1 (soS ss fs es).2 _ _
        rw [HFIN.out]
        exact ⟨_, _, _, rfl, (HO.out.turn hCR HR3.out (by decide) (by decide)).le (by omega), HBF.out.trans (hCR.below (by omega) (fun j (h : j = _) => by omega))⟩
end Go.Proofs.YthggcdadipjiiaaGreatDoor

/-
  What impl.HistoryRight answers: a contract over the seat's program.
-/
namespace Go.Proofs.YthggcdadipjiiaaGreatDoor
open Go.RowKit Go.Sort Go.Shelf

set_option maxRecDepth 100000 in
set_option maxHeartbeats 4000000 in
theorem implHistoryRight_any (a1 a2 a6 : Option Addr) (k1 k2 k6 : Nat) (ss : List ByteArray) (fs : List Pr) (es : List Ev) (w : World) (hD : DefSl w a1 a2 k1 k2 ss fs) (hE : EvSl w (.slice a6 es.length k6) es) (F1 : ∀ i, (h : i < ss.length) → ss[i].size ≤ maxLen) (F2 : FitP fs) (FE : ∀ i, (h : i < es.length) → es[i].step.size ≤ maxLen) (n1 : ss.length ≤ maxLen) (n2 : fs.length ≤ maxLen) (n6 : es.length ≤ maxLen) (e0 e1 e2 e3 e4 : Addr) (hEr : ErrsAt w e0 e1 e2 e3 e4) :
    Calls Tryz.prog 21 #[defV a1 a2 k1 k2 ss fs, .slice a6 es.length k6] w fun x w' => RetB x (HistP ss fs es) ∧ Below w.heap.size w w' := by
  have hbW : Below w.heap.size w (w.alloc (.cells #[.slice a1 ss.length k1, .slice a2 fs.length k2] 26)) := (Below.refl _ _).alloc (Nat.le_refl _) _
  have HX := hid (heap_alloc_new w (.cells #[.slice a1 ss.length k1, .slice a2 fs.length k2] 26))
  have HDW := hid (hD.stay hbW)
  have HEW := hid (hE.stay hbW (Nat.le_refl _))
  have HER := hid (hEr.stay hbW)
  have HBW := hid hbW
  have cR := hid (implDefRight_any a1 a2 k1 k2 ss fs _ HDW.out.h1 HDW.out.h2 F1 n1 n2)
  have HF1 := hid F1
  have HF2 := hid F2
  have HFE := hid FE
  have N1 := hid n1
  have N2 := hid n2
  have N6 := hid n6
  have hn6 : es.length ≤ 9223372036854775807 := by unfold maxLen at n6; omega
  clear hD hE hEr hbW F1 F2 FE n1 n2 n6
  go_enter Tryz.func21, Tryz.ntmps21
  go_wp2_with fail
  refine cR.out.mono ?_
  generalize hW : w.alloc (.cells #[.slice a1 ss.length k1, .slice a2 fs.length k2] 26) = W at *
  have hzW : W.heap.size = w.heap.size + 1 := by rw [← hW]; simp
  clear hW cR
  rintro x W1 ⟨⟨B1, rfl, T⟩, hb1⟩
  have HB1 := hid hb1
  have HT := hid T
  have hz1 := hb1.size
  clear T hb1
  cases B1 with
  | false =>
    have HN := hid (show ¬ HistP ss fs es from fun h => absurd (HT.out.yes h.d) (by decide))
    go_wp2
    go_ret
    exact ⟨retB_f HN.out, HBW.out.trans (HB1.out.mono (by omega))⟩
  | true =>
    have HY := hid (show DefP ss fs from HT.out.1 rfl)
    by_cases h2 : es.length ≤ 200
    case neg =>
      have HN := hid (show ¬ HistP ss fs es from fun h => h2 h.n)
      go_wp2
      go_ret
      exact ⟨retB_f HN.out, HBW.out.trans (HB1.out.mono (by omega))⟩
    case pos =>
      have cI := hid (risingSeqs_any a6 k6 es W1 (HEW.out.stay HB1.out (Nat.le_refl _)) N6.out)
      go_wp2_with fail
      refine cI.out.mono ?_
      rintro x W2 ⟨⟨B2, rfl, T2⟩, hb2⟩
      have HB2 := hid (HB1.out.trans (hb2.mono hz1))
      have HT2 := hid T2
      have hz2 := hb2.size
      clear T2 hb2 cI
      cases B2 with
      | false =>
        have HN := hid (show ¬ HistP ss fs es from fun h => absurd (HT2.out.yes h.r) (by decide))
        go_wp2
        go_ret
        exact ⟨retB_f HN.out, HBW.out.trans (HB2.out.mono (by omega))⟩
      | true =>
        have HY2 := hid (show RiseP es from HT2.out.1 rfl)
        have cU := hid (runsOf_any a6 k6 es W2 (HEW.out.stay HB2.out (Nat.le_refl _)) (by omega))
        go_wp2_with fail
        refine cU.out.mono ?_
        rintro x W3 ⟨v, rs, rfl, hR, hI, hb3⟩
        obtain ⟨ra, rc, rfl⟩ := hI.form
        have hrl := hR.len
        have HR := hid hR
        have HI := hid hI
        have HB3 := hid (HB2.out.trans (hb3.mono (by omega)))
        have hz3 := hb3.size
        clear hR hI hb3 cU
        go_wp2
        go_loopw [23] (fun i wr => ∃ k : Nat, k ≤ rs.length ∧ i = .int .i64 k ∧ (∀ j, (hj : j < rs.length) → j < k → (ofS ss fs (ofRun es rs[j]) z0).1 = 0) ∧ Below W3.heap.size W3 wr) (fun i _ => rs.length - (intOf i).toNat)
        case atStart => exact ⟨0, Nat.zero_le _, rfl, fun j _ hj => absurd hj (by omega), Below.refl _ _⟩
        case round =>
          obtain ⟨k, hk, rfl, hall, hbel⟩ := hrel
          have HA := hid hall
          have HBr := hid hbel
          have hzr := hbel.size
          have HBW' := hid (HB3.out.trans (hbel.mono (by omega)))
          clear hall hbel
          by_cases hlt : k < rs.length
          · obtain ⟨g, o, rfl, hg, hc⟩ := HI.out.row (by omega)
            have c0 := (HBr.out.cell (p := ⟨g, o + k, none⟩) hg).trans (hc k hlt)
            have hx := (HBW'.out.block _ (lt_heap HX.out)).trans HX.out
            have d0 : wr.cell? ⟨w.heap.size, 0, none⟩ = some (.slice a1 ss.length k1) := by rw [Lib.cell_of_heap hx]; rfl
            have d1 : wr.cell? ⟨w.heap.size, 1, none⟩ = some (.slice a2 fs.length k2) := by rw [Lib.cell_of_heap hx]; rfl
            have HST := hid (fun h : (ofS ss fs (ofRun es rs[k]) z0).1 = 0 => show ∀ j, (hj : j < rs.length) → j < k + 1 → (ofS ss fs (ofRun es rs[j]) z0).1 = 0 from fun j hj hjk => by
              by_cases e : j = k
              · subst e; exact h
              · exact HA.out j hj (by omega))
            have HNO := hid (fun h : ¬ (ofS ss fs (ofRun es rs[k]) z0).1 = 0 => histP_no HR.out hlt h)
            clear hc hx
            generalize rs[k] = r at *
            have hlen := Nat.le_trans (ofRun_len es r) h2
            have HSO := hid (soS_yes ss fs (es := ofRun es r) (by omega) HY.out hlen)
            have hbR : Below wr.heap.size wr wr.drew := (Below.refl _ _).drew
            have cA := hid (fun (X : World) (hX : Below wr.heap.size wr X) => eventsOf_any a6 k6 es r X (HEW.out.stay (HBW'.out.trans (hX.mono (by omega))) (Nat.le_refl _)) N6.out)
            have cB := hid (fun (X : World) (lb : Array Value) (hS : Sq tyE Tryz.prog 92 lb evA X.heap.size (ofRun es r) X) => collect_any 92 X.heap.size lb (ofRun es r) X (enters_of Tryz.func92 (by kernel_rfl) rfl) hS (Nat.le_refl _) (by omega))
            have cC := hid (fun (X : World) (a : Option Addr) (c : Nat) (hX : Below wr.heap.size wr X) (hS : EvSl X (.slice a (ofRun es r).length c) (ofRun es r)) => implStateOf_any a1 a2 a k1 k2 c ss fs (ofRun es r) X (HDW.out.stay (HBW'.out.trans (hX.mono (by omega)))) hS HF1.out HF2.out (ofRun_step es r (p := fun e => e.step.size ≤ maxLen) HFE.out) N1.out N2.out e0 e1 e2 e3 e4 (HER.out.stay (HBW'.out.trans (hX.mono (by omega)))))
            rw [HSO.out] at cC
            generalize hst : ofS ss fs (ofRun es r) z0 = cs at *
            clear hst
            obtain ⟨cc, S'⟩ := cs
            have hfd : ∀ (x0 x1 x2 x6 x7 : Int) (y3 y4 y5 : Option Addr) (n3 n4 n5 m3 m4 m5 : Nat) (w : World), (Instr.field 93 (.agg #[.int .i64 x0, .int .i64 x1, .int .i64 x2, .slice y3 n3 m3, .slice y4 n4 m4, .slice y5 n5 m5, .int .i64 x6, .int .i64 x7]) 1).run Tryz.prog w = .ok (.int .i64 x7) w := fun _ _ _ _ _ _ _ _ _ _ _ _ _ _ _ => by kernel_rfl
            have ld : w.heap.size < wr.heap.size := by omega
            go_wp2_with fail
            go_region_held3 (fun w' => w'.cell? ⟨w.heap.size, 0, none⟩ = some (.slice a1 ss.length k1) ∧ w'.cell? ⟨w.heap.size, 1, none⟩ = some (.slice a2 fs.length k2)) (go_keep) (first
              | (go_at_call 26; refine (cA.out _ hbR).mono ?_; rintro x V1 ⟨lb, rfl, hS1, hq1⟩; have hb1 : Below wr.heap.size wr V1 := hbR.trans (hq1.mono hbR.size); have v10 := (hb1.cell (p := ⟨w.heap.size, 0, none⟩) ld).trans d0; have v11 := (hb1.cell (p := ⟨w.heap.size, 1, none⟩) ld).trans d1)
              | (go_at_call 56; refine (cB.out _ _ (hS1 tyE (by decide))).mono ?_; rintro x V2 ⟨v2, rfl, ho2, hq2⟩; obtain ⟨va, vc, rfl⟩ := ownB_form ho2; have hb2 : Below wr.heap.size wr V2 := hb1.trans (hq2.mono hb1.size); have v20 := (hb2.cell (p := ⟨w.heap.size, 0, none⟩) ld).trans d0; have v21 := (hb2.cell (p := ⟨w.heap.size, 1, none⟩) ld).trans d1)
              | (go_at_call 55; refine (cC.out _ _ _ hb2 (sl_of_own ho2)).mono ?_; rintro x V3 ⟨u3, u4, u5, rfl, hO3, hq3⟩; obtain ⟨x3a, x4a, x5a, x3c, x4c, x5c, rfl, rfl, rfl⟩ := hO3.forms; unfold outV; have hb3 : Below wr.heap.size wr V3 := hb2.trans (hq3.mono hb2.size); have v30 := (hb3.cell (p := ⟨w.heap.size, 0, none⟩) ld).trans d0; have v31 := (hb3.cell (p := ⟨w.heap.size, 1, none⟩) ld).trans d1))
            have HB9 := hid hb3
            clear hb1 hb2 hb3 hq1 hq2 hq3 hO3 ho2 hS1 v10 v11 v20 v21 v30 v31 d0 d1 c0 cA cB cC hfd HSO
            by_cases hcc : cc = 0
            · subst hcc
              go_wp2
              go_roundw
              case rel => exact ⟨k + 1, by omega, by go_num, HST.out rfl, HBr.out.trans (HB9.out.mono (by omega))⟩
              case measure => simp [intOf]; omega
            · have hce : (cc != 0) = true := by simpa using hcc
              rw [hce]
              go_wp2
              go_ret
              exact ⟨retB_f (HNO.out hcc), HBW.out.trans ((HBW'.out.trans (HB9.out.mono (by omega))).mono (by omega))⟩
          · have HPH := hid (histP_yes HR.out HY.out h2 HY2.out (fun j hj => HA.out j hj (by omega)))
            go_wp2
            go_ret
            exact ⟨retB_t HPH.out, HBW.out.trans (HBW'.out.mono (by omega))⟩
end Go.Proofs.YthggcdadipjiiaaGreatDoor

/-
  What Durations answers, in spec and in impl, in the same words: contracts over the seat's program.
-/
namespace Go.Proofs.YthggcdadipjiiaaGreatDoor
open Go.RowKit Go.Sort

/-- What is told of the steps of a history: of none where it is not right. -/
def DuAns (ss : List ByteArray) (fs : List Pr) (es : List Ev) (l : List Dur) : Prop := (HistP ss fs es → l = dursI es es.length) ∧ (¬ HistP ss fs es → l = [])
theorem duAns (ss : List ByteArray) (fs : List Pr) (es : List Ev) : ∃ l, DuAns ss fs es l ∧ l.length ≤ 200 := by
  by_cases h : HistP ss fs es
  · exact ⟨dursI es es.length, ⟨fun _ => rfl, fun h' => absurd h h'⟩, Nat.le_trans (dursI_len es es.length) h.n⟩
  · exact ⟨[], ⟨fun h' => absurd h' h, fun _ => rfl⟩, Nat.zero_le _⟩
theorem DuAns.eq {ss : List ByteArray} {fs : List Pr} {es : List Ev} {l m : List Dur} (h : DuAns ss fs es l) (k : DuAns ss fs es m) : l = m := by
  by_cases q : HistP ss fs es
  · rw [h.1 q, k.1 q]
  · rw [h.2 q, k.2 q]
theorem specDurations_any (a1 a2 a6 : Option Addr) (k1 k2 k6 : Nat) (ss : List ByteArray) (fs : List Pr) (es : List Ev) (l : List Dur) (hl : DuAns ss fs es l) (w : World) (hD : DefSl w a1 a2 k1 k2 ss fs) (hE : EvSl w (.slice a6 es.length k6) es) (F1 : ∀ i, (h : i < ss.length) → ss[i].size ≤ maxLen) (FE : Fit es) (n1 : ss.length ≤ maxLen) (n2 : fs.length ≤ maxLen) (n6 : es.length ≤ maxLen) :
    Calls Tryz.prog 7 #[defV a1 a2 k1 k2 ss fs, .slice a6 es.length k6] w fun e w' => ∃ v, e = .returned v ∧ RowL w' w.heap.size 35 5 v l.length (dflat l) ∧ Below w.heap.size w w' := by
  refine (spDur_of a1 a2 a6 k1 k2 k6 ss fs es w hE n6 (fun X hX => specHistoryRight_any a1 a2 a6 k1 k2 k6 ss fs es X (hD.stay hX) (hE.stay hX (Nat.le_refl _)) F1 FE n1 n2 n6)).mono ?_
  rintro e w' ⟨m, b, c, rfl, ho, hb, h1, h2⟩
  obtain rfl := hl.eq ⟨h1, h2⟩
  exact ⟨_, rfl, RowL.of_own ho, hb⟩
theorem implDurations_any (a1 a2 a6 : Option Addr) (k1 k2 k6 : Nat) (ss : List ByteArray) (fs : List Pr) (es : List Ev) (l : List Dur) (hl : DuAns ss fs es l) (w : World) (hD : DefSl w a1 a2 k1 k2 ss fs) (hE : EvSl w (.slice a6 es.length k6) es) (F1 : ∀ i, (h : i < ss.length) → ss[i].size ≤ maxLen) (F2 : FitP fs) (FE : Fit es) (n1 : ss.length ≤ maxLen) (n2 : fs.length ≤ maxLen) (n6 : es.length ≤ maxLen) (e0 e1 e2 e3 e4 : Addr) (hEr : ErrsAt w e0 e1 e2 e3 e4) :
    Calls Tryz.prog 6 #[defV a1 a2 k1 k2 ss fs, .slice a6 es.length k6] w fun e w' => ∃ v, e = .returned v ∧ RowL w' w.heap.size 35 5 v l.length (dflat l) ∧ Below w.heap.size w w' := by
  refine (imDur_of a1 a2 a6 k1 k2 k6 ss fs es w hD hE n6 (fun X hX => implHistoryRight_any a1 a2 a6 k1 k2 k6 ss fs es X (hD.stay hX) (hE.stay hX (Nat.le_refl _)) F1 F2 (fun i h => (FE i h).1) n1 n2 n6 e0 e1 e2 e3 e4 (hEr.stay hX))).mono ?_
  rintro e w' ⟨m, v, rfl, ho, hb, h1, h2⟩
  obtain rfl := hl.eq ⟨h1, h2⟩
  exact ⟨_, rfl, ho, hb⟩
end Go.Proofs.YthggcdadipjiiaaGreatDoor

/-
  What laws.markText answers, for every number from 1 on: a contract over the seat's program.
-/
namespace Go.Proofs.YthggcdadipjiiaaGreatDoor
open Go.RowKit

def digS (k : Nat) : ByteArray := ⟨[UInt8.ofNat (48 + k % 10)].toArray⟩
/-- The digits of a number ahead of a text. -/
def decT : Nat → Nat → ByteArray → ByteArray
  | 0, _, acc => acc
  | f + 1, k, acc => if k = 0 then acc else decT f (k / 10) (digS k ++ acc)
def markT (k : Int) : ByteArray := ⟨#[109]⟩ ++ decT 20 k.toNat ByteArray.empty
end Go.Proofs.YthggcdadipjiiaaGreatDoor
