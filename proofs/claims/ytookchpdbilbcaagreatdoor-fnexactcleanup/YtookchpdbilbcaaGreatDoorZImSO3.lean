/-
 Texts put together: ImSO, ImHist, ImSvR.
-/
import Derived.Test.YtookchpdbilbcaaGreatDoorZDfV7
import Derived.Test.YtookchpdbilbcaaGreatDoorZImTold2
import Derived.Test.YtookchpdbilbcaaGreatDoorZItrE4
import Derived.Test.YtookchpdbilbcaaGreatDoorZTkM5
import Derived.Test.YtookchpdbilbcaaGreatDoorZImRis3
import Derived.Deep.RegionHeld3
set_option maxRecDepth 100000
set_option maxHeartbeats 4000000
/-
 What impl.StateOf answers: a contract over the seat's program. (Made by mkso.py.)
-/
namespace Go.Proofs.YtookchpdbilbcaaGreatDoor
open Go.RowKit Go.Maps Go.WideMaps Go.Sort
theorem ZDC (a1 a2 a6 : Option Addr) (k1 k2 k6 : Nat) (ss : List ByteArray) (fs : List Pr) (es : List Ev) (w : World) (hD : DefSl w a1 a2 k1 k2 ss fs) (hE : EvSl w (.slice a6 es.length k6) es) (F1 : ∀ i, (h : i < ss.length) → ss[i].size ≤ maxLen) (F2 : FitP fs) (FE : ∀ i, (h : i < es.length) → es[i].step.size ≤ maxLen) (n1 : ss.length ≤ maxLen) (n2 : fs.length ≤ maxLen) (e0 e1 e2 e3 e4 : Addr) (hEr : ErrsAt w e0 e1 e2 e3 e4) :
  Calls Tryz.prog 86 #[defV a1 a2 k1 k2 ss fs, .slice a6 es.length k6] w fun x w' => StepPost w.heap.size w (soS ss fs es).1 (soS ss fs es).2 x w' := by
 have hbW : Below w.heap.size w ((w.alloc (.cells #[.slice a1 ss.length k1, .slice a2 fs.length k2] 33)).alloc (.cells #[.int .i64 0, .int .i64 0, .int .i64 0, .slice none 0 0, .slice none 0 0, .slice none 0 0, .int .i64 0, .int .i64 0] 83)) := ((bR _ _).alloc nL _).alloc (by simp) _
 have hWs : ((w.alloc (.cells #[.slice a1 ss.length k1, .slice a2 fs.length k2] 33)).alloc (.cells #[.int .i64 0, .int .i64 0, .int .i64 0, .slice none 0 0, .slice none 0 0, .slice none 0 0, .int .i64 0, .int .i64 0] 83)).heap.size = w.heap.size + 1 + 1 := by simp
 have HRW := hid (show ((w.alloc (.cells #[.slice a1 ss.length k1, .slice a2 fs.length k2] 33)).alloc (.cells #[.int .i64 0, .int .i64 0, .int .i64 0, .slice none 0 0, .slice none 0 0, .slice none 0 0, .int .i64 0, .int .i64 0] 83)).heap[w.heap.size + 1]? = some (.cells #[.int .i64 0, .int .i64 0, .int .i64 0, .slice none 0 0, .slice none 0 0, .slice none 0 0, .int .i64 0, .int .i64 0] 83 (0, 0)) from by
  have h := heap_alloc_new (w.alloc (.cells #[.slice a1 ss.length k1, .slice a2 fs.length k2] 33)) (.cells #[.int .i64 0, .int .i64 0, .int .i64 0, .slice none 0 0, .slice none 0 0, .slice none 0 0, .int .i64 0, .int .i64 0] 83 (0, 0))
  rw [show (w.alloc (.cells #[.slice a1 ss.length k1, .slice a2 fs.length k2] 33)).heap.size = w.heap.size + 1 by simp] at h
  exact h)
 have HDW := hid (hD.stay hbW)
 have HEW := hid (hE.stay hbW nL)
 have HER := hid (hEr.stay hbW)
 clear hEr
 have cR := hid (ZBJ a1 a2 k1 k2 ss fs _ HDW.out.h1 HDW.out.h2 F1 n1 n2)
 have HBW := hid hbW
 have HF1 := hid F1
 have HF2 := hid F2
 clear F2
 have HFE := hid FE
 clear hD hE hbW F1 FE n1 n2
 have D0 := hid (show ((w.alloc (.cells #[.slice a1 ss.length k1, .slice a2 fs.length k2] 33)).alloc (.cells #[.int .i64 0, .int .i64 0, .int .i64 0, .slice none 0 0, .slice none 0 0, .slice none 0 0, .int .i64 0, .int .i64 0] 83)).cell? ⟨w.heap.size, 0, none⟩ = some (.slice a1 ss.length k1) by simp [go_sem])
 have D1 := hid (show ((w.alloc (.cells #[.slice a1 ss.length k1, .slice a2 fs.length k2] 33)).alloc (.cells #[.int .i64 0, .int .i64 0, .int .i64 0, .slice none 0 0, .slice none 0 0, .slice none 0 0, .int .i64 0, .int .i64 0] 83)).cell? ⟨w.heap.size, 1, none⟩ = some (.slice a2 fs.length k2) by simp [go_sem])
 by_cases h4 : 400 < es.length
 ·have HFIN := hid (soS_big ss fs h4)
  clear cR HDW HEW D0 D1
  go_enter Tryz.func86, Tryz.ntmps86
  go_upto_region 1 with fail
  generalize ((w.alloc (.cells #[.slice a1 ss.length k1, .slice a2 fs.length k2] 33)).alloc (.cells #[.int .i64 0, .int .i64 0, .int .i64 0, .slice none 0 0, .slice none 0 0, .slice none 0 0, .int .i64 0, .int .i64 0] 83)) = W at *
  have r0 : W.cell? ⟨w.heap.size + 1, 0, none⟩ = some (.int .i64 0) := ce HRW.out rfl
  have r1 : W.cell? ⟨w.heap.size + 1, 1, none⟩ = some (.int .i64 0) := ce HRW.out rfl
  have r2 : W.cell? ⟨w.heap.size + 1, 2, none⟩ = some (.int .i64 0) := ce HRW.out rfl
  have r3 : W.cell? ⟨w.heap.size + 1, 3, none⟩ = some (.slice none 0 0) := ce HRW.out rfl
  have r4 : W.cell? ⟨w.heap.size + 1, 4, none⟩ = some (.slice none 0 0) := ce HRW.out rfl
  have r5 : W.cell? ⟨w.heap.size + 1, 5, none⟩ = some (.slice none 0 0) := ce HRW.out rfl
  have r6 : W.cell? ⟨w.heap.size + 1, 6, none⟩ = some (.int .i64 0) := ce HRW.out rfl
  have r7 : W.cell? ⟨w.heap.size + 1, 7, none⟩ = some (.int .i64 0) := ce HRW.out rfl
  have rf := Lib.frozen_of_heap HRW.out
  go_wp2_with fail
  have hCR : Chg (fun j => j = w.heap.size + 1) W ((((((((W.setCell ⟨w.heap.size + 1, 0, none⟩ (.int .i64 0)).setCell ⟨w.heap.size + 1, 1, none⟩ (.int .i64 0)).setCell ⟨w.heap.size + 1, 2, none⟩ (.int .i64 0)).setCell ⟨w.heap.size + 1, 3, none⟩ (.slice none 0 0)).setCell ⟨w.heap.size + 1, 4, none⟩ (.slice none 0 0)).setCell ⟨w.heap.size + 1, 5, none⟩ (.slice none 0 0)).setCell ⟨w.heap.size + 1, 6, none⟩ (.int .i64 0)).setCell ⟨w.heap.size + 1, 7, none⟩ (.int .i64 2)) := (((((((ZAC _ _ _ _).trans (ZAC _ _ _ _)).trans (ZAC _ _ _ _)).trans (ZAC _ _ _ _)).trans (ZAC _ _ _ _)).trans (ZAC _ _ _ _)).trans (ZAC _ _ _ _)).trans (ZAC _ _ _ _)
  refine bodyPost_ret (v := outV 2 z0 (.slice none 0 0) (.slice none 0 0) (.slice none 0 0)) (by simp [results, Tryz.results86, go_sem, outV, z0, r0, r1, r2, r3, r4, r5, r6, r7]) rfl ?_
  show StepPost _ _ (soS ss fs es).1 (soS ss fs es).2 _ _
  rw [HFIN.out]
  exact ⟨_, _, _, rfl, StOwn.none _ _, HBW.out.trans (hCR.below (by omega) (fun j (h : j = _) => by omega))⟩
 ·go_enter Tryz.func86, Tryz.ntmps86
  go_wp2_with fail
  refine cR.out.mono ?_
  generalize ((w.alloc (.cells #[.slice a1 ss.length k1, .slice a2 fs.length k2] 33)).alloc (.cells #[.int .i64 0, .int .i64 0, .int .i64 0, .slice none 0 0, .slice none 0 0, .slice none 0 0, .int .i64 0, .int .i64 0] 83)) = W at *
  rintro x W1 ⟨⟨B1, rfl, T⟩, hb1⟩
  have HB1 := hid (HBW.out.trans (hb1.mono HBW.out.size))
  have hz1 := hb1.size
  have d0 := (hb1.cell (p := ⟨w.heap.size, 0, none⟩) (by show w.heap.size < _; omega)).trans D0.out
  have d1 := (hb1.cell (p := ⟨w.heap.size, 1, none⟩) (by show w.heap.size < _; omega)).trans D1.out
  have HR1 := hid ((hb1.block (w.heap.size + 1) (by omega)).trans HRW.out)
  have r0 : W1.cell? ⟨w.heap.size + 1, 0, none⟩ = some (.int .i64 0) := ce HR1.out rfl
  have r1 : W1.cell? ⟨w.heap.size + 1, 1, none⟩ = some (.int .i64 0) := ce HR1.out rfl
  have r2 : W1.cell? ⟨w.heap.size + 1, 2, none⟩ = some (.int .i64 0) := ce HR1.out rfl
  have r3 : W1.cell? ⟨w.heap.size + 1, 3, none⟩ = some (.slice none 0 0) := ce HR1.out rfl
  have r4 : W1.cell? ⟨w.heap.size + 1, 4, none⟩ = some (.slice none 0 0) := ce HR1.out rfl
  have r5 : W1.cell? ⟨w.heap.size + 1, 5, none⟩ = some (.slice none 0 0) := ce HR1.out rfl
  have r6 : W1.cell? ⟨w.heap.size + 1, 6, none⟩ = some (.int .i64 0) := ce HR1.out rfl
  have r7 : W1.cell? ⟨w.heap.size + 1, 7, none⟩ = some (.int .i64 0) := ce HR1.out rfl
  have rf := Lib.frozen_of_heap HR1.out
  have HT := hid T
  have HD1 := hid (HDW.out.stay hb1)
  have HE1 := hid (HEW.out.stay hb1 nL)
  have HER1 := hid (HER.out.stay hb1)
  have hRl : w.heap.size + 1 < W1.heap.size := by omega
  clear T hb1 cR HRW HDW HEW D0 D1
  cases B1 with
  | false =>
   have HFIN := hid (soS_no ss fs h4 (fun h => absurd (HT.out.yes h.1) (by decide)))
   go_wp2_with fail
   have hCR : Chg (fun j => j = w.heap.size + 1) W1 ((((((((W1.setCell ⟨w.heap.size + 1, 0, none⟩ (.int .i64 0)).setCell ⟨w.heap.size + 1, 1, none⟩ (.int .i64 0)).setCell ⟨w.heap.size + 1, 2, none⟩ (.int .i64 0)).setCell ⟨w.heap.size + 1, 3, none⟩ (.slice none 0 0)).setCell ⟨w.heap.size + 1, 4, none⟩ (.slice none 0 0)).setCell ⟨w.heap.size + 1, 5, none⟩ (.slice none 0 0)).setCell ⟨w.heap.size + 1, 6, none⟩ (.int .i64 0)).setCell ⟨w.heap.size + 1, 7, none⟩ (.int .i64 1)) := (((((((ZAC _ _ _ _).trans (ZAC _ _ _ _)).trans (ZAC _ _ _ _)).trans (ZAC _ _ _ _)).trans (ZAC _ _ _ _)).trans (ZAC _ _ _ _)).trans (ZAC _ _ _ _)).trans (ZAC _ _ _ _)
   refine bodyPost_ret (v := outV 1 z0 (.slice none 0 0) (.slice none 0 0) (.slice none 0 0)) (by simp [results, Tryz.results86, go_sem, outV, z0, r0, r1, r2, r3, r4, r5, r6, r7]) rfl ?_
   show StepPost _ _ (soS ss fs es).1 (soS ss fs es).2 _ _
   rw [HFIN.out]
   exact ⟨_, _, _, rfl, StOwn.none _ _, HB1.out.trans (hCR.below (by omega) (fun j (h : j = _) => by omega))⟩
  | true =>
   have HY := hid (show DefP ss fs from HT.out.1 rfl)
   by_cases h2 : es.length ≤ 200
   case neg =>
    have HFIN := hid (soS_no ss fs h4 (fun h => h2 h.2))
    go_wp2_with fail
    have hCR : Chg (fun j => j = w.heap.size + 1) W1 ((((((((W1.setCell ⟨w.heap.size + 1, 0, none⟩ (.int .i64 0)).setCell ⟨w.heap.size + 1, 1, none⟩ (.int .i64 0)).setCell ⟨w.heap.size + 1, 2, none⟩ (.int .i64 0)).setCell ⟨w.heap.size + 1, 3, none⟩ (.slice none 0 0)).setCell ⟨w.heap.size + 1, 4, none⟩ (.slice none 0 0)).setCell ⟨w.heap.size + 1, 5, none⟩ (.slice none 0 0)).setCell ⟨w.heap.size + 1, 6, none⟩ (.int .i64 0)).setCell ⟨w.heap.size + 1, 7, none⟩ (.int .i64 1)) := (((((((ZAC _ _ _ _).trans (ZAC _ _ _ _)).trans (ZAC _ _ _ _)).trans (ZAC _ _ _ _)).trans (ZAC _ _ _ _)).trans (ZAC _ _ _ _)).trans (ZAC _ _ _ _)).trans (ZAC _ _ _ _)
    refine bodyPost_ret (v := outV 1 z0 (.slice none 0 0) (.slice none 0 0) (.slice none 0 0)) (by simp [results, Tryz.results86, go_sem, outV, z0, r0, r1, r2, r3, r4, r5, r6, r7]) rfl ?_
    show StepPost _ _ (soS ss fs es).1 (soS ss fs es).2 _ _
    rw [HFIN.out]
    exact ⟨_, _, _, rfl, StOwn.none _ _, HB1.out.trans (hCR.below (by omega) (fun j (h : j = _) => by omega))⟩
   case pos =>
    have HFIN := hid (ZHz ss fs h4 HY.out h2)
    have cS := hid (ZCF a1 a2 none none none a6 k1 k2 0 0 0 k6 ss fs z0 es e0 e1 e2 e3 e4 W1 HD1.out (z0_sl _) HE1.out HER1.out HY.out (ZEG ss) HF1.out HF2.out HFE.out (by omega))
    change Hid (Calls _ _ #[defV a1 a2 k1 k2 ss fs, .agg #[.int .i64 0, .int .i64 0, .int .i64 0, .slice none 0 0, .slice none 0 0, .slice none 0 0, .int .i64 0], .slice a6 es.length k6] _ _) at cS
    generalize hst : ofS ss fs es z0 = cs at *
    have HST := hid hst
    clear hst
    obtain ⟨c, S'⟩ := cs
    go_wp2_with fail
    refine cS.out.mono ?_
    rintro x W3 ⟨u3, u4, u5, rfl, hO, hb⟩
    obtain ⟨x3a, x4a, x5a, x3c, x4c, x5c, rfl, rfl, rfl⟩ := hO.forms
    have HO := hid hO
    have HR3 := hid ((hb.block (w.heap.size + 1) (by omega)).trans HR1.out)
    have hz9 := hb.size
    have HBF := hid (HB1.out.trans (hb.mono HB1.out.size))
    clear hO hb d0 d1 r0 r1 r2 r3 r4 r5 r6 r7 rf
    have r0 : W3.cell? ⟨w.heap.size + 1, 0, none⟩ = some (.int .i64 0) := ce HR3.out rfl
    have r1 : W3.cell? ⟨w.heap.size + 1, 1, none⟩ = some (.int .i64 0) := ce HR3.out rfl
    have r2 : W3.cell? ⟨w.heap.size + 1, 2, none⟩ = some (.int .i64 0) := ce HR3.out rfl
    have r3 : W3.cell? ⟨w.heap.size + 1, 3, none⟩ = some (.slice none 0 0) := ce HR3.out rfl
    have r4 : W3.cell? ⟨w.heap.size + 1, 4, none⟩ = some (.slice none 0 0) := ce HR3.out rfl
    have r5 : W3.cell? ⟨w.heap.size + 1, 5, none⟩ = some (.slice none 0 0) := ce HR3.out rfl
    have r6 : W3.cell? ⟨w.heap.size + 1, 6, none⟩ = some (.int .i64 0) := ce HR3.out rfl
    have r7 : W3.cell? ⟨w.heap.size + 1, 7, none⟩ = some (.int .i64 0) := ce HR3.out rfl
    have rf := Lib.frozen_of_heap HR3.out
    unfold outV
    go_wp2_with fail
    have hCR : Chg (fun j => j = w.heap.size + 1) W3 ((((((((W3.setCell ⟨w.heap.size + 1, 0, none⟩ (.int .i64 S'.status)).setCell ⟨w.heap.size + 1, 1, none⟩ (.int .i64 S'.begun)).setCell ⟨w.heap.size + 1, 2, none⟩ (.int .i64 S'.last)).setCell ⟨w.heap.size + 1, 3, none⟩ (.slice x3a S'.wait.length x3c)).setCell ⟨w.heap.size + 1, 4, none⟩ (.slice x4a S'.busy.length x4c)).setCell ⟨w.heap.size + 1, 5, none⟩ (.slice x5a S'.vars.length x5c)).setCell ⟨w.heap.size + 1, 6, none⟩ (.int .i64 S'.faults)).setCell ⟨w.heap.size + 1, 7, none⟩ (.int .i64 c)) := (((((((ZAC _ _ _ _).trans (ZAC _ _ _ _)).trans (ZAC _ _ _ _)).trans (ZAC _ _ _ _)).trans (ZAC _ _ _ _)).trans (ZAC _ _ _ _)).trans (ZAC _ _ _ _)).trans (ZAC _ _ _ _)
    refine bodyPost_ret (v := outV c S' (.slice x3a S'.wait.length x3c) (.slice x4a S'.busy.length x4c) (.slice x5a S'.vars.length x5c)) (by simp [results, Tryz.results86, go_sem, outV, r0, r1, r2, r3, r4, r5, r6, r7]) rfl ?_
    show StepPost _ _ (soS ss fs es).1 (soS ss fs es).2 _ _
    rw [HFIN.out]
    exact ⟨_, _, _, rfl, (HO.out.turn hCR HR3.out (by decide) (by decide)).le (by omega), HBF.out.trans (hCR.below (by omega) (fun j (h : j = _) => by omega))⟩
end Go.Proofs.YtookchpdbilbcaaGreatDoor
/-
 What impl.HistoryRight answers: a contract over the seat's program.
-/
namespace Go.Proofs.YtookchpdbilbcaaGreatDoor
open Go.RowKit Go.Sort Go.Shelf
theorem ZBc (a1 a2 a6 : Option Addr) (k1 k2 k6 : Nat) (ss : List ByteArray) (fs : List Pr) (es : List Ev) (w : World) (hD : DefSl w a1 a2 k1 k2 ss fs) (hE : EvSl w (.slice a6 es.length k6) es) (F1 : ∀ i, (h : i < ss.length) → ss[i].size ≤ maxLen) (F2 : FitP fs) (FE : ∀ i, (h : i < es.length) → es[i].step.size ≤ maxLen) (n1 : ss.length ≤ maxLen) (n2 : fs.length ≤ maxLen) (n6 : es.length ≤ maxLen) (e0 e1 e2 e3 e4 : Addr) (hEr : ErrsAt w e0 e1 e2 e3 e4) :
  Calls Tryz.prog 68 #[defV a1 a2 k1 k2 ss fs, .slice a6 es.length k6] w fun x w' => RetB x (HistP ss fs es) ∧ Below w.heap.size w w' := by
 have hbW : Below w.heap.size w (w.alloc (.cells #[.slice a1 ss.length k1, .slice a2 fs.length k2] 33)) := (bR _ _).alloc nL _
 have HX := hid (heap_alloc_new w (.cells #[.slice a1 ss.length k1, .slice a2 fs.length k2] 33))
 have HDW := hid (hD.stay hbW)
 have HEW := hid (hE.stay hbW nL)
 have HER := hid (hEr.stay hbW)
 have HBW := hid hbW
 have cR := hid (ZBJ a1 a2 k1 k2 ss fs _ HDW.out.h1 HDW.out.h2 F1 n1 n2)
 have HF1 := hid F1
 have HF2 := hid F2
 have HFE := hid FE
 have N1 := hid n1
 have N2 := hid n2
 have N6 := hid n6
 have hn6 : es.length ≤ 9223372036854775807 := by unfold maxLen at n6; omega
 clear hD hE hEr hbW F1 F2 FE n1 n2 n6
 go_enter Tryz.func68, Tryz.ntmps68
 go_wp2_with fail
 refine cR.out.mono ?_
 generalize hW : w.alloc (.cells #[.slice a1 ss.length k1, .slice a2 fs.length k2] 33) = W at *
 have hzW : W.heap.size = w.heap.size + 1 := by rw [← hW]; simp
 clear hW cR
 rintro x W1 ⟨⟨B1, rfl, T⟩, hb1⟩
 have HB1 := hid hb1
 have HT := hid T
 have hz1 := hb1.size
 clear T hb1
 cases B1 with
 | false =>
  have HN := hid (show ¬ HistP ss fs es from fun h => absurd (HT.out.yes h.d) (by decide))
  go_wp2
  go_ret
  exact ⟨ZAT HN.out, HBW.out.trans (HB1.out.mono (by omega))⟩
 | true =>
  have HY := hid (show DefP ss fs from HT.out.1 rfl)
  by_cases h2 : es.length ≤ 200
  case neg =>
   have HN := hid (show ¬ HistP ss fs es from fun h => h2 h.n)
   go_wp2
   go_ret
   exact ⟨ZAT HN.out, HBW.out.trans (HB1.out.mono (by omega))⟩
  case pos =>
   have cI := hid (ZDO a6 k6 es W1 (HEW.out.stay HB1.out nL) N6.out)
   go_wp2_with fail
   refine cI.out.mono ?_
   rintro x W2 ⟨⟨B2, rfl, T2⟩, hb2⟩
   have HB2 := hid (HB1.out.trans (hb2.mono hz1))
   have HT2 := hid T2
   have hz2 := hb2.size
   clear T2 hb2 cI
   cases B2 with
   | false =>
    have HN := hid (show ¬ HistP ss fs es from fun h => absurd (HT2.out.yes h.r) (by decide))
    go_wp2
    go_ret
    exact ⟨ZAT HN.out, HBW.out.trans (HB2.out.mono (by omega))⟩
   | true =>
    have HY2 := hid (show RiseP es from HT2.out.1 rfl)
    have cU := hid (ZDh a6 k6 es W2 (HEW.out.stay HB2.out nL) (by omega))
    go_wp2_with fail
    refine cU.out.mono ?_
    rintro x W3 ⟨v, rs, rfl, hR, hI, hb3⟩
    obtain ⟨ra, rc, rfl⟩ := hI.form
    have hrl := hR.len
    have HR := hid hR
    have HI := hid hI
    have HB3 := hid (HB2.out.trans (hb3.mono (by omega)))
    have hz3 := hb3.size
    clear hR hI hb3 cU
    go_wp2
    go_loopw [23] (fun i wr => ∃ k : Nat, k ≤ rs.length ∧ i = .int .i64 k ∧ (∀ j, (hj : j < rs.length) → j < k → (ofS ss fs (ofRun es rs[j]) z0).1 = 0) ∧ Below W3.heap.size W3 wr) (fun i _ => rs.length - (intOf i).toNat)
    case atStart => exact ⟨0, Nat.zero_le _, rfl, fun j _ hj => absurd hj (by omega), Below.refl _ _⟩
    case round =>
     obtain ⟨k, hk, rfl, hall, hbel⟩ := hrel
     have HA := hid hall
     have HBr := hid hbel
     have hzr := hbel.size
     have HBW' := hid (HB3.out.trans (hbel.mono (by omega)))
     clear hall hbel
     by_cases hlt : k < rs.length
     ·obtain ⟨g, o, rfl, hg, hc⟩ := HI.out.row (by omega)
      have c0 := (HBr.out.cell (p := ⟨g, o + k, none⟩) hg).trans (hc k hlt)
      have hx := (HBW'.out.block _ (ZAA HX.out)).trans HX.out
      have d0 : wr.cell? ⟨w.heap.size, 0, none⟩ = some (.slice a1 ss.length k1) := ce hx rfl
      have d1 : wr.cell? ⟨w.heap.size, 1, none⟩ = some (.slice a2 fs.length k2) := ce hx rfl
      have HST := hid (fun h : (ofS ss fs (ofRun es rs[k]) z0).1 = 0 => show ∀ j, (hj : j < rs.length) → j < k + 1 → (ofS ss fs (ofRun es rs[j]) z0).1 = 0 from fun j hj hjk => by
       by_cases e : j = k
       ·subst e; exact h
       ·exact HA.out j hj (by omega))
      have HNO := hid (fun h : ¬ (ofS ss fs (ofRun es rs[k]) z0).1 = 0 => ZGL HR.out hlt h)
      clear hc hx
      generalize rs[k] = r at *
      have hlen := Nat.le_trans (ZC4 es r) h2
      have HSO := hid (ZHz ss fs (es := ofRun es r) (by omega) HY.out hlen)
      have hbR : Below wr.heap.size wr wr.drew := (bR _ _).drew
      have cA := hid (fun (X : World) (hX : Below wr.heap.size wr X) => ZE5 a6 k6 es r X (HEW.out.stay (HBW'.out.trans (hX.mono (by omega))) nL) N6.out)
      have cB := hid (fun (X : World) (lb : Array Value) (hS : Sq tyE Tryz.prog 122 lb evA X.heap.size (ofRun es r) X) => ZFs 122 X.heap.size lb (ofRun es r) X (enters_of Tryz.func122 (by kernel_rfl) rfl) hS nL (by omega))
      have cC := hid (fun (X : World) (a : Option Addr) (c : Nat) (hX : Below wr.heap.size wr X) (hS : EvSl X (.slice a (ofRun es r).length c) (ofRun es r)) => ZDC a1 a2 a k1 k2 c ss fs (ofRun es r) X (HDW.out.stay (HBW'.out.trans (hX.mono (by omega)))) hS HF1.out HF2.out (ZDs es r (p := fun e => e.step.size ≤ maxLen) HFE.out) N1.out N2.out e0 e1 e2 e3 e4 (HER.out.stay (HBW'.out.trans (hX.mono (by omega)))))
      rw [HSO.out] at cC
      generalize hst : ofS ss fs (ofRun es r) z0 = cs at *
      clear hst
      obtain ⟨cc, S'⟩ := cs
      have hfd : ∀ (x0 x1 x2 x6 x7 : Int) (y3 y4 y5 : Option Addr) (n3 n4 n5 m3 m4 m5 : Nat) (w : World), (Instr.field 83 (.agg #[.int .i64 x0, .int .i64 x1, .int .i64 x2, .slice y3 n3 m3, .slice y4 n4 m4, .slice y5 n5 m5, .int .i64 x6, .int .i64 x7]) 1).run Tryz.prog w = .ok (.int .i64 x7) w := fun _ _ _ _ _ _ _ _ _ _ _ _ _ _ _ => by kernel_rfl
      have ld : w.heap.size < wr.heap.size := by omega
      go_wp2_with fail
      go_region_held3 (fun w' => w'.cell? ⟨w.heap.size, 0, none⟩ = some (.slice a1 ss.length k1) ∧ w'.cell? ⟨w.heap.size, 1, none⟩ = some (.slice a2 fs.length k2)) (go_keep) (first
       | (go_at_call 88; refine (cA.out _ hbR).mono ?_; rintro x V1 ⟨lb, rfl, hS1, hq1⟩; have hb1 : Below wr.heap.size wr V1 := hbR.trans (hq1.mono hbR.size); have v10 := (hb1.cell (p := ⟨w.heap.size, 0, none⟩) ld).trans d0; have v11 := (hb1.cell (p := ⟨w.heap.size, 1, none⟩) ld).trans d1)
       | (go_at_call 87; refine (cB.out _ _ (hS1 tyE (by decide))).mono ?_; rintro x V2 ⟨v2, rfl, ho2, hq2⟩; obtain ⟨va, vc, rfl⟩ := ZAD ho2; have hb2 : Below wr.heap.size wr V2 := hb1.trans (hq2.mono hb1.size); have v20 := (hb2.cell (p := ⟨w.heap.size, 0, none⟩) ld).trans d0; have v21 := (hb2.cell (p := ⟨w.heap.size, 1, none⟩) ld).trans d1)
       | (go_at_call 86; refine (cC.out _ _ _ hb2 (ZAi ho2)).mono ?_; rintro x V3 ⟨u3, u4, u5, rfl, hO3, hq3⟩; obtain ⟨x3a, x4a, x5a, x3c, x4c, x5c, rfl, rfl, rfl⟩ := hO3.forms; unfold outV; have hb3 : Below wr.heap.size wr V3 := hb2.trans (hq3.mono hb2.size); have v30 := (hb3.cell (p := ⟨w.heap.size, 0, none⟩) ld).trans d0; have v31 := (hb3.cell (p := ⟨w.heap.size, 1, none⟩) ld).trans d1))
      have HB9 := hid hb3
      clear hb1 hb2 hb3 hq1 hq2 hq3 hO3 ho2 hS1 v10 v11 v20 v21 v30 v31 d0 d1 c0 cA cB cC hfd HSO
      by_cases hcc : cc = 0
      ·subst hcc
       go_wp2
       go_roundw
       case rel => exact ⟨k + 1, by omega, by go_num, HST.out rfl, HBr.out.trans (HB9.out.mono (by omega))⟩
       case measure => simp [intOf]; omega
      ·have hce : (cc != 0) = true := by simpa using hcc
       rw [hce]
       go_wp2
       go_ret
       exact ⟨ZAT (HNO.out hcc), HBW.out.trans ((HBW'.out.trans (HB9.out.mono (by omega))).mono (by omega))⟩
     ·have HPH := hid (ZFG HR.out HY.out h2 HY2.out (fun j hj => HA.out j hj (by omega)))
      go_wp2
      go_ret
      exact ⟨ZBG HPH.out, HBW.out.trans (HBW'.out.mono (by omega))⟩
end Go.Proofs.YtookchpdbilbcaaGreatDoor
/-
 What impl.ServiceRight answers: a contract over the seat's program. (Made by mksvr.py.)
-/
namespace Go.Proofs.YtookchpdbilbcaaGreatDoor
open Go.RowKit Go.Sort
theorem ZBa (a1 a2 a6 : Option Addr) (k1 k2 k6 : Nat) (ss : List ByteArray) (fs : List Pr) (es : List Ev) (nx : Int) (w : World) (hD : DefSl w a1 a2 k1 k2 ss fs) (hE : EvSl w (.slice a6 es.length k6) es) (F1 : ∀ i, (h : i < ss.length) → ss[i].size ≤ maxLen) (F2 : FitP fs) (FE : Fit es) (n1 : ss.length ≤ maxLen) (n2 : fs.length ≤ maxLen) (n6 : es.length ≤ maxLen) (e0 e1 e2 e3 e4 : Addr) (hEr : ErrsAt w e0 e1 e2 e3 e4) :
  Calls Tryz.prog 49 #[svV a1 a2 a6 k1 k2 k6 ss fs es nx] w fun x w' => RetB x (SvP ss fs es nx) ∧ Below w.heap.size w w' := by
 have hbW : Below w.heap.size w (w.alloc (.cells #[.slice a1 ss.length k1, .slice a2 fs.length k2, .slice a6 es.length k6, .int .i64 nx] 36)) := (bR _ _).alloc nL _
 have HX := hid (heap_alloc_new w (.cells #[.slice a1 ss.length k1, .slice a2 fs.length k2, .slice a6 es.length k6, .int .i64 nx] 36))
 have HDW := hid (hD.stay hbW)
 have HEW := hid (hE.stay hbW nL)
 have HBW := hid hbW
 have HER := hid (hEr.stay hbW)
 have cR := hid (fun X (hX : Below (w.alloc (.cells #[.slice a1 ss.length k1, .slice a2 fs.length k2, .slice a6 es.length k6, .int .i64 nx] 36)).heap.size (w.alloc (.cells #[.slice a1 ss.length k1, .slice a2 fs.length k2, .slice a6 es.length k6, .int .i64 nx] 36)) X) => ZBc a1 a2 a6 k1 k2 k6 ss fs es X (HDW.out.stay hX) (HEW.out.stay hX nL) F1 F2 (fun i h => (FE i h).1) n1 n2 n6 e0 e1 e2 e3 e4 (HER.out.stay hX))
 change Hid (∀ X (hX : Below _ _ X), Calls _ _ #[.agg #[.slice a1 ss.length k1, .slice a2 fs.length k2], .slice a6 es.length k6] _ _) at cR
 have hn6 : es.length ≤ 9223372036854775807 := by unfold maxLen at n6; omega
 clear hD hE hbW F1 FE n1 n2 n6 F2 hEr
 go_enter Tryz.func49, Tryz.ntmps49
 go_wp2_with fail
 generalize hW : (w.alloc (.cells #[.slice a1 ss.length k1, .slice a2 fs.length k2, .slice a6 es.length k6, .int .i64 nx] 36)) = W at *
 have hzW : W.heap.size = w.heap.size + 1 := by rw [← hW]; simp
 clear hW
 have cN := ZBN nx W
 have HBn := hid (Below.refl W.heap.size W)
 cases hnu : numB nx with
 | false =>
  have HN := hid (show ¬ SvP ss fs es nx from fun h => by have := h.n; rw [hnu] at this; cases this)
  rw [hnu] at cN
  clear hnu
  refine cN.mono ?_
  rintro x _ ⟨rfl, rfl⟩
  go_wp2
  go_ret
  exact ⟨ZAT HN.out, HBW.out⟩
 | true =>
  have HNU := hid hnu
  rw [hnu] at cN
  clear hnu
  refine cN.mono ?_
  rintro x W1 ⟨rfl, hw1⟩
  subst hw1
  clear cN
  have c0 : W1.cell? ⟨w.heap.size, 0, none⟩ = some (.slice a1 ss.length k1) := ce HX.out rfl
  have c1 : W1.cell? ⟨w.heap.size, 1, none⟩ = some (.slice a2 fs.length k2) := ce HX.out rfl
  have c2 : W1.cell? ⟨w.heap.size, 2, none⟩ = some (.slice a6 es.length k6) := ce HX.out rfl
  have c3 : W1.cell? ⟨w.heap.size, 3, none⟩ = some (.int .i64 nx) := ce HX.out rfl
  go_wp2_with fail
  refine (cR.out _ HBn.out).mono ?_
  rintro x W2 ⟨⟨B1, rfl, T⟩, hb1⟩
  clear HBn c0 c1 c2 c3
  have HBn := hid hb1
  have HT := hid T
  have hz1 := hb1.size
  have HXn := hid ((hb1.block _ (ZAA HX.out)).trans HX.out)
  clear T hb1 cR
  cases B1 with
  | false =>
   have HN := hid (show ¬ SvP ss fs es nx from fun h => absurd (HT.out.yes h.h) (by decide))
   go_wp2
   go_ret
   exact ⟨ZAT HN.out, HBW.out.trans (HBn.out.mono (by omega))⟩
  | true =>
   have HP := hid (show HistP ss fs es from HT.out.1 rfl)
   have fz := Lib.frozen_of_heap HXn.out
   have c0 : W2.cell? ⟨w.heap.size, 0, none⟩ = some (.slice a1 ss.length k1) := ce HXn.out rfl
   have c1 : W2.cell? ⟨w.heap.size, 1, none⟩ = some (.slice a2 fs.length k2) := ce HXn.out rfl
   have c2 : W2.cell? ⟨w.heap.size, 2, none⟩ = some (.slice a6 es.length k6) := ce HXn.out rfl
   have c3 : W2.cell? ⟨w.heap.size, 3, none⟩ = some (.int .i64 nx) := ce HXn.out rfl
   have hbox := ZAA HXn.out
   by_cases hL : 0 < es.length
   ·obtain ⟨g, o, rfl, hQ⟩ := HEW.out.row hL
    have q0 := ((hQ.stay HBn.out nL).2 (es.length - 1) (by omega)).c0
    have HYES := hid (show es[es.length - 1].seq < nx → SvP ss fs es nx from fun h => ⟨HP.out, HNU.out, fun _ => h⟩)
    have HNOT := hid (show ¬ es[es.length - 1].seq < nx → ¬ SvP ss fs es nx from fun h H => h (H.l hL))
    have d0 : W2.drew.cell? ⟨w.heap.size, 0, none⟩ = some (.slice a1 ss.length k1) := c0
    have d2 : W2.drew.cell? ⟨w.heap.size, 2, none⟩ = some (.slice (some ⟨g, o, none⟩) es.length k6) := c2
    have d3 : W2.drew.cell? ⟨w.heap.size, 3, none⟩ = some (.int .i64 nx) := c3
    have d4 : W2.drew.cell? ⟨g, o + (es.length - 1) * 6, none⟩ = some (.int .i64 es[es.length - 1].seq) := q0
    clear hQ q0
    generalize es[es.length - 1].seq = sq at *
    have HB9 := hid (HBW.out.trans ((HBn.out.drew).mono (by omega)))
    clear HBn HBW HEW HP
    generalize es.length = n at *
    obtain ⟨m, rfl⟩ : ∃ m, n = m + 1 := ⟨n - 1, by omega⟩
    rw [Nat.add_sub_cancel] at d4
    have e1 : (((m + 1 : Nat) : Int) - 1) = (m : Int) := by omega
    have r1 : (((m : Int) + 1) == 0) = false := by simp; omega
    have r2 : (m : Int) < (m : Int) + 1 := by omega
    have r3 : decide ((m : Int) < 0) = false := by simp
    have r4 : (0 : Int) ≤ (m : Int) := by omega
    have r5 : IntKind.i64.wrap (m : Int) = (m : Int) := by rw [IntKind.wrap_i64]; omega
    by_cases hsq : sq < nx
    ·go_wp2_with fail
     go_region
     go_wp2
     go_ret
     exact ⟨ZBG (HYES.out hsq), HB9.out⟩
    ·go_wp2_with fail
     go_region
     go_wp2
     go_ret
     refine ⟨?_, HB9.out⟩
     show RetB (.returned (.bool (decide (sq < nx)))) _
     rw [decide_eq_false (Int.not_lt.2 hsq)]
     exact ZAT (HNOT.out hsq)
   ·have HYES := hid (show SvP ss fs es nx from ⟨HP.out, HNU.out, fun h => absurd h hL⟩)
    have hL0 : es.length = 0 := by omega
    have HB9 := hid (HBW.out.trans ((HBn.out.drew).mono (by omega)))
    clear HBn HBW HEW HP
    rw [hL0] at c2
    go_wp2_with fail
    go_region
    go_wp2
    go_ret
    exact ⟨ZBG HYES.out, HB9.out⟩
end Go.Proofs.YtookchpdbilbcaaGreatDoor
