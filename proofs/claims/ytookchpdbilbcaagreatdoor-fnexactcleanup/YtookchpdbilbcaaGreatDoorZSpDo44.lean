/-
 Texts put together: SpDo4, KeyM, PutM, FlM.
-/
import Derived.Test.YtookchpdbilbcaaGreatDoorZSpDo1
import Derived.Test.YtookchpdbilbcaaGreatDoorZSpSet23
import Derived.Test.YtookchpdbilbcaaGreatDoorZEvI8
import Derived.Deep.RegionWith
import Derived.Test.YtookchpdbilbcaaGreatDoorZSpOut4
import Derived.Sort.Walk0
import Derived.Test.YtookchpdbilbcaaGreatDoorZImLv
set_option maxRecDepth 100000
set_option maxHeartbeats 4000000
/-
 What spec.l03Do does where a var is set: contracts over the seat's program. (Made by mkdo4.py.)
-/
namespace Go.Proofs.YtookchpdbilbcaaGreatDoor
open Go.RowKit Go.Sort
theorem ZDJ (a1 a2 a3 a4 a5 : Option Addr) (k1 k2 k3 k4 k5 B : Nat) (ss : List ByteArray) (fs : List Pr) (st bg la fa q t r : Int) (wt bs : List ByteArray) (vs : List Pr) (s v : ByteArray) (w : World) (hS : SaB w B st bg la (.slice a3 wt.length k3) (.slice a4 bs.length k4) (.slice a5 vs.length k5) fa) (h3 : StrSl w (.slice a3 wt.length k3) wt) (h4 : StrSl w (.slice a4 bs.length k4) bs) (n3 : wt.length ≤ maxLen) (n4 : bs.length ≤ maxLen) (b5 : Nat) (hO5 : w.ownsRow b5 143 2 (.slice a5 vs.length k5) vs.length (vs.flatMap Pr.cells)) (m5 : vs.length ≤ 1048576) (hf : 20 < (setV vs ⟨s, v⟩).length) :
  Calls Tryz.prog 83 #[.agg #[.slice a1 ss.length k1, .slice a2 fs.length k2], .pointer (some ⟨B, 0, none⟩), .agg #[.int .i64 q, .int .i64 t, .int .i64 r, .int .i64 4, .string s, .string v]] w fun e w' => e = .returned (.int .i64 9) ∧ Chg (fun j => j = B) w w' := by
 have HO5 := hid hO5
 skip
 clear hO5
 have mixed : Tryz.prog.follows .mixedOrders = true := by kernel_rfl
 have hbW : Below w.heap.size w ((w.alloc (.cells #[.slice a1 ss.length k1, .slice a2 fs.length k2] 33)).alloc (.cells #[.int .i64 q, .int .i64 t, .int .i64 r, .int .i64 4, .string s, .string v] 57)) := below2 _ _ _
 have HS := hid (hS.stay hbW)
 have H3 := hid (h3.stay hbW nL)
 have H4 := hid (h4.stay hbW nL)
 have y1 : ((w.alloc (.cells #[.slice a1 ss.length k1, .slice a2 fs.length k2] 33)).alloc (.cells #[.int .i64 q, .int .i64 t, .int .i64 r, .int .i64 4, .string s, .string v] 57)).cell? ⟨w.heap.size + 1, 1, none⟩ = some (.int .i64 t) := by simp [go_sem]
 have y3 : ((w.alloc (.cells #[.slice a1 ss.length k1, .slice a2 fs.length k2] 33)).alloc (.cells #[.int .i64 q, .int .i64 t, .int .i64 r, .int .i64 4, .string s, .string v] 57)).cell? ⟨w.heap.size + 1, 3, none⟩ = some (.int .i64 4) := by simp [go_sem]
 have y4 : ((w.alloc (.cells #[.slice a1 ss.length k1, .slice a2 fs.length k2] 33)).alloc (.cells #[.int .i64 q, .int .i64 t, .int .i64 r, .int .i64 4, .string s, .string v] 57)).cell? ⟨w.heap.size + 1, 4, none⟩ = some (.string s) := by simp [go_sem]
 have HY := hid (And.intro y1 (And.intro y3 y4))
 have hne : ¬ w.heap.size + 1 = B := by have := hS.lt; omega
 have hne2 : ¬ B = w.heap.size + 1 := by omega
 have HV := hid (show ((w.alloc (.cells #[.slice a1 ss.length k1, .slice a2 fs.length k2] 33)).alloc (.cells #[.int .i64 q, .int .i64 t, .int .i64 r, .int .i64 4, .string s, .string v] 57)).cell? ⟨w.heap.size + 1, 5, none⟩ = some (.string v) by simp [go_sem])
 have HBW := hid hbW
 clear h3 h4 hS hbW y1 y3 y4
 go_enter Tryz.func83, Tryz.ntmps83
 go_wp2
 generalize ((w.alloc (.cells #[.slice a1 ss.length k1, .slice a2 fs.length k2] 33)).alloc (.cells #[.int .i64 q, .int .i64 t, .int .i64 r, .int .i64 4, .string s, .string v] 57)) = W at *
 have x3 := HS.out.cell 3
 have y4 := HY.out.2.2
 skip
 have x' := cell_regrown x3
 have y' := cell_regrown y4
 have d1 := fun d os => Calls.regrown_of (w := W) (d := d) (os := os) (ZAK (ZAO _ wt s _ (H3.out.stay (below_regrown W d os) nL) n3))
 clear x3 y4
 refine wp_region_quiet_below mixed (by kernel_rfl) ?_
 repeat (go_big_quiet_step ((go_at_call 80; exact d1 _ _)))
 refine wpQuiet_nil ?_
 intro W1 hw'
 have HR1 := hid (show Below W.heap.size W W1 by obtain ⟨⟨dq, osq⟩, hw''⟩ := hw'; subst hw''; exact below_regrown W dq osq)
 clear hw' x' y' d1
 have HS1 := hid (HS.out.stay HR1.out)
 have HV1 := hid ((HR1.out.cell (block_lt_of_cell HV.out)).trans HV.out)
 have H31 := hid (H3.out.stay HR1.out nL)
 have H41 := hid (H4.out.stay HR1.out nL)
 have HY1 := hid (show W1.cell? ⟨w.heap.size + 1, 1, none⟩ = some (.int .i64 t) ∧ W1.cell? ⟨w.heap.size + 1, 3, none⟩ = some (.int .i64 4) ∧ W1.cell? ⟨w.heap.size + 1, 4, none⟩ = some (.string s) from ⟨(HR1.out.cell (block_lt_of_cell HY.out.1)).trans HY.out.1, (HR1.out.cell (block_lt_of_cell HY.out.2.1)).trans HY.out.2.1, (HR1.out.cell (block_lt_of_cell HY.out.2.2)).trans HY.out.2.2⟩)
 have HB1 := hid (HBW.out.trans (HR1.out.mono HBW.out.size))
 have x4 := HS1.out.cell 4
 have y4 := HY1.out.2.2
 go_wp2
 have x' := cell_regrown x4
 have y' := cell_regrown y4
 have d1 := fun d os => Calls.regrown_of (w := W1) (d := d) (os := os) (ZAK (ZAO _ bs s _ (H41.out.stay (below_regrown W1 d os) nL) n4))
 clear x4 y4
 refine wp_region_quiet_below mixed (by kernel_rfl) ?_
 repeat (go_big_quiet_step ((go_at_call 80; exact d1 _ _)))
 refine wpQuiet_nil ?_
 intro W2 hw'
 have HR2 := hid (show Below W1.heap.size W1 W2 by obtain ⟨⟨dq, osq⟩, hw''⟩ := hw'; subst hw''; exact below_regrown W1 dq osq)
 clear hw' x' y' d1
 have HS2 := hid (HS1.out.stay HR2.out)
 have HV2 := hid ((HR2.out.cell (block_lt_of_cell HV1.out)).trans HV1.out)
 have H32 := hid (H31.out.stay HR2.out nL)
 have H42 := hid (H41.out.stay HR2.out nL)
 have HY2 := hid (show W2.cell? ⟨w.heap.size + 1, 1, none⟩ = some (.int .i64 t) ∧ W2.cell? ⟨w.heap.size + 1, 3, none⟩ = some (.int .i64 4) ∧ W2.cell? ⟨w.heap.size + 1, 4, none⟩ = some (.string s) from ⟨(HR2.out.cell (block_lt_of_cell HY1.out.1)).trans HY1.out.1, (HR2.out.cell (block_lt_of_cell HY1.out.2.1)).trans HY1.out.2.1, (HR2.out.cell (block_lt_of_cell HY1.out.2.2)).trans HY1.out.2.2⟩)
 have HB2 := hid (HB1.out.trans (HR2.out.mono HB1.out.size))
 have y1 := HY2.out.1
 have y3 := HY2.out.2.1
 have x0 : W2.cell? ⟨B, 0, none⟩ = some (.int .i64 st) := HS2.out.cell 0
 have x3 : W2.cell? ⟨B, 3, none⟩ = some (.slice a3 wt.length k3) := HS2.out.cell 3
 have x4 : W2.cell? ⟨B, 4, none⟩ = some (.slice a4 bs.length k4) := HS2.out.cell 4
 have x2 : W2.cell? ⟨B, 2, none⟩ = some (.int .i64 la) := HS2.out.cell 2
 have x6 : W2.cell? ⟨B, 6, none⟩ = some (.int .i64 fa) := HS2.out.cell 6
 have z := HS2.out.frozen
 generalize atI bs s = ib at *
 generalize atI wt s = iw at *
 have x5 : W2.cell? ⟨B, 5, none⟩ = some (.slice a5 vs.length k5) := HS2.out.cell 5
 have y4 := HY2.out.2.2
 have y5 := HV2.out
 have hbd : Below W2.heap.size W2 W2.drew := (bR _ _).drew
 have cP := hid (ZDg b5 _ vs ⟨s, v⟩ W2.drew (ZAE (ZAE HO5.out HB2.out) hbd) m5)
 have hBV := HS2.out.lt
 have hEV : w.heap.size + 1 < W2.heap.size := block_lt_of_cell y1
 generalize hsv : setV vs ⟨s, v⟩ = sv at *
 have HSV := hid hsv
 clear hsv x0 x2 x3 x4 x6 z HO5
 go_wp2
 go_region_with (first | (go_at_call 102; refine cP.out.mono ?_; rintro e W4 ⟨c5, e5, rfl, hO5', hb4⟩; have HB4 := hid (hbd.trans (hb4.mono hbd.size)); have HS4 := hid (HS2.out.stay HB4.out); have HN4 := hid hO5'; have xx5 : W4.cell? ⟨B, 5, none⟩ = some (.slice a5 vs.length k5) := HS4.out.cell 5; have xx2 : W4.cell? ⟨B, 2, none⟩ = some (.int .i64 la) := HS4.out.cell 2; have yy1 := (HB4.out.cell (p := ⟨w.heap.size + 1, 1, none⟩) hEV).trans y1; have zz := HS4.out.frozen; clear hO5' hb4))
 all_goals go_wp2
 all_goals go_ret
 all_goals exact ⟨rfl, ((Chg.of_below HB2.out).trans (Chg.of_below HB4.out)).trans (ZAC _ B _ _)⟩
theorem ZEP (a1 a2 a3 a4 a5 : Option Addr) (k1 k2 k3 k4 k5 B : Nat) (ss : List ByteArray) (fs : List Pr) (st bg la fa q t r : Int) (wt bs : List ByteArray) (vs : List Pr) (s v : ByteArray) (w : World) (hS : SaB w B st bg la (.slice a3 wt.length k3) (.slice a4 bs.length k4) (.slice a5 vs.length k5) fa) (h3 : StrSl w (.slice a3 wt.length k3) wt) (h4 : StrSl w (.slice a4 bs.length k4) bs) (n3 : wt.length ≤ maxLen) (n4 : bs.length ≤ maxLen) (b5 : Nat) (hO5 : w.ownsRow b5 143 2 (.slice a5 vs.length k5) vs.length (vs.flatMap Pr.cells)) (m5 : vs.length ≤ 1048576) (hf : ¬ 20 < (setV vs ⟨s, v⟩).length) :
  Calls Tryz.prog 83 #[.agg #[.slice a1 ss.length k1, .slice a2 fs.length k2], .pointer (some ⟨B, 0, none⟩), .agg #[.int .i64 q, .int .i64 t, .int .i64 r, .int .i64 4, .string s, .string v]] w fun e w' => ∃ c5 e5, e = .returned (.int .i64 0) ∧ SaB w' B st bg t (.slice a3 wt.length k3) (.slice a4 bs.length k4) (.slice c5 (setV vs ⟨s, v⟩).length e5) fa ∧ w'.ownsRow w.heap.size 143 2 (.slice c5 (setV vs ⟨s, v⟩).length e5) (setV vs ⟨s, v⟩).length ((setV vs ⟨s, v⟩).flatMap Pr.cells) ∧ Chg (fun j => j = B) w w' := by
 have HO5 := hid hO5
 skip
 clear hO5
 have mixed : Tryz.prog.follows .mixedOrders = true := by kernel_rfl
 have hbW : Below w.heap.size w ((w.alloc (.cells #[.slice a1 ss.length k1, .slice a2 fs.length k2] 33)).alloc (.cells #[.int .i64 q, .int .i64 t, .int .i64 r, .int .i64 4, .string s, .string v] 57)) := below2 _ _ _
 have HS := hid (hS.stay hbW)
 have H3 := hid (h3.stay hbW nL)
 have H4 := hid (h4.stay hbW nL)
 have y1 : ((w.alloc (.cells #[.slice a1 ss.length k1, .slice a2 fs.length k2] 33)).alloc (.cells #[.int .i64 q, .int .i64 t, .int .i64 r, .int .i64 4, .string s, .string v] 57)).cell? ⟨w.heap.size + 1, 1, none⟩ = some (.int .i64 t) := by simp [go_sem]
 have y3 : ((w.alloc (.cells #[.slice a1 ss.length k1, .slice a2 fs.length k2] 33)).alloc (.cells #[.int .i64 q, .int .i64 t, .int .i64 r, .int .i64 4, .string s, .string v] 57)).cell? ⟨w.heap.size + 1, 3, none⟩ = some (.int .i64 4) := by simp [go_sem]
 have y4 : ((w.alloc (.cells #[.slice a1 ss.length k1, .slice a2 fs.length k2] 33)).alloc (.cells #[.int .i64 q, .int .i64 t, .int .i64 r, .int .i64 4, .string s, .string v] 57)).cell? ⟨w.heap.size + 1, 4, none⟩ = some (.string s) := by simp [go_sem]
 have HY := hid (And.intro y1 (And.intro y3 y4))
 have hne : ¬ w.heap.size + 1 = B := by have := hS.lt; omega
 have hne2 : ¬ B = w.heap.size + 1 := by omega
 have HV := hid (show ((w.alloc (.cells #[.slice a1 ss.length k1, .slice a2 fs.length k2] 33)).alloc (.cells #[.int .i64 q, .int .i64 t, .int .i64 r, .int .i64 4, .string s, .string v] 57)).cell? ⟨w.heap.size + 1, 5, none⟩ = some (.string v) by simp [go_sem])
 have HBW := hid hbW
 clear h3 h4 hS hbW y1 y3 y4
 go_enter Tryz.func83, Tryz.ntmps83
 go_wp2
 generalize ((w.alloc (.cells #[.slice a1 ss.length k1, .slice a2 fs.length k2] 33)).alloc (.cells #[.int .i64 q, .int .i64 t, .int .i64 r, .int .i64 4, .string s, .string v] 57)) = W at *
 have x3 := HS.out.cell 3
 have y4 := HY.out.2.2
 skip
 have x' := cell_regrown x3
 have y' := cell_regrown y4
 have d1 := fun d os => Calls.regrown_of (w := W) (d := d) (os := os) (ZAK (ZAO _ wt s _ (H3.out.stay (below_regrown W d os) nL) n3))
 clear x3 y4
 refine wp_region_quiet_below mixed (by kernel_rfl) ?_
 repeat (go_big_quiet_step ((go_at_call 80; exact d1 _ _)))
 refine wpQuiet_nil ?_
 intro W1 hw'
 have HR1 := hid (show Below W.heap.size W W1 by obtain ⟨⟨dq, osq⟩, hw''⟩ := hw'; subst hw''; exact below_regrown W dq osq)
 clear hw' x' y' d1
 have HS1 := hid (HS.out.stay HR1.out)
 have HV1 := hid ((HR1.out.cell (block_lt_of_cell HV.out)).trans HV.out)
 have H31 := hid (H3.out.stay HR1.out nL)
 have H41 := hid (H4.out.stay HR1.out nL)
 have HY1 := hid (show W1.cell? ⟨w.heap.size + 1, 1, none⟩ = some (.int .i64 t) ∧ W1.cell? ⟨w.heap.size + 1, 3, none⟩ = some (.int .i64 4) ∧ W1.cell? ⟨w.heap.size + 1, 4, none⟩ = some (.string s) from ⟨(HR1.out.cell (block_lt_of_cell HY.out.1)).trans HY.out.1, (HR1.out.cell (block_lt_of_cell HY.out.2.1)).trans HY.out.2.1, (HR1.out.cell (block_lt_of_cell HY.out.2.2)).trans HY.out.2.2⟩)
 have HB1 := hid (HBW.out.trans (HR1.out.mono HBW.out.size))
 have x4 := HS1.out.cell 4
 have y4 := HY1.out.2.2
 go_wp2
 have x' := cell_regrown x4
 have y' := cell_regrown y4
 have d1 := fun d os => Calls.regrown_of (w := W1) (d := d) (os := os) (ZAK (ZAO _ bs s _ (H41.out.stay (below_regrown W1 d os) nL) n4))
 clear x4 y4
 refine wp_region_quiet_below mixed (by kernel_rfl) ?_
 repeat (go_big_quiet_step ((go_at_call 80; exact d1 _ _)))
 refine wpQuiet_nil ?_
 intro W2 hw'
 have HR2 := hid (show Below W1.heap.size W1 W2 by obtain ⟨⟨dq, osq⟩, hw''⟩ := hw'; subst hw''; exact below_regrown W1 dq osq)
 clear hw' x' y' d1
 have HS2 := hid (HS1.out.stay HR2.out)
 have HV2 := hid ((HR2.out.cell (block_lt_of_cell HV1.out)).trans HV1.out)
 have H32 := hid (H31.out.stay HR2.out nL)
 have H42 := hid (H41.out.stay HR2.out nL)
 have HY2 := hid (show W2.cell? ⟨w.heap.size + 1, 1, none⟩ = some (.int .i64 t) ∧ W2.cell? ⟨w.heap.size + 1, 3, none⟩ = some (.int .i64 4) ∧ W2.cell? ⟨w.heap.size + 1, 4, none⟩ = some (.string s) from ⟨(HR2.out.cell (block_lt_of_cell HY1.out.1)).trans HY1.out.1, (HR2.out.cell (block_lt_of_cell HY1.out.2.1)).trans HY1.out.2.1, (HR2.out.cell (block_lt_of_cell HY1.out.2.2)).trans HY1.out.2.2⟩)
 have HB2 := hid (HB1.out.trans (HR2.out.mono HB1.out.size))
 have y1 := HY2.out.1
 have y3 := HY2.out.2.1
 have x0 : W2.cell? ⟨B, 0, none⟩ = some (.int .i64 st) := HS2.out.cell 0
 have x3 : W2.cell? ⟨B, 3, none⟩ = some (.slice a3 wt.length k3) := HS2.out.cell 3
 have x4 : W2.cell? ⟨B, 4, none⟩ = some (.slice a4 bs.length k4) := HS2.out.cell 4
 have x2 : W2.cell? ⟨B, 2, none⟩ = some (.int .i64 la) := HS2.out.cell 2
 have x6 : W2.cell? ⟨B, 6, none⟩ = some (.int .i64 fa) := HS2.out.cell 6
 have z := HS2.out.frozen
 generalize atI bs s = ib at *
 generalize atI wt s = iw at *
 have x5 : W2.cell? ⟨B, 5, none⟩ = some (.slice a5 vs.length k5) := HS2.out.cell 5
 have y4 := HY2.out.2.2
 have y5 := HV2.out
 have hbd : Below W2.heap.size W2 W2.drew := (bR _ _).drew
 have cP := hid (ZDg b5 _ vs ⟨s, v⟩ W2.drew (ZAE (ZAE HO5.out HB2.out) hbd) m5)
 have hBV := HS2.out.lt
 have hEV : w.heap.size + 1 < W2.heap.size := block_lt_of_cell y1
 generalize hsv : setV vs ⟨s, v⟩ = sv at *
 have HSV := hid hsv
 clear hsv x0 x2 x3 x4 x6 z HO5
 go_wp2
 go_region_with (first | (go_at_call 102; refine cP.out.mono ?_; rintro e W4 ⟨c5, e5, rfl, hO5', hb4⟩; have HB4 := hid (hbd.trans (hb4.mono hbd.size)); have HS4 := hid (HS2.out.stay HB4.out); have HN4 := hid hO5'; have xx5 : W4.cell? ⟨B, 5, none⟩ = some (.slice a5 vs.length k5) := HS4.out.cell 5; have xx2 : W4.cell? ⟨B, 2, none⟩ = some (.int .i64 la) := HS4.out.cell 2; have yy1 := (HB4.out.cell (p := ⟨w.heap.size + 1, 1, none⟩) hEV).trans y1; have zz := HS4.out.frozen; clear hO5' hb4))
 all_goals go_wp2
 all_goals go_ret
 all_goals have hS5 : SaB ((W4.setCell ⟨B, 5, none⟩ (.slice c5 sv.length e5)).setCell ⟨B, 2, none⟩ (.int .i64 t)) B st bg t (.slice a3 wt.length k3) (.slice a4 bs.length k4) (.slice c5 sv.length e5) fa := ZAG (HS4.out.set 5 (.slice c5 sv.length e5)) (.int .i64 t)
 all_goals have hC5 : Chg (fun j => j = B) W4 ((W4.setCell ⟨B, 5, none⟩ (.slice c5 sv.length e5)).setCell ⟨B, 2, none⟩ (.int .i64 t)) := (ZAC _ B _ _).trans (ZAC _ B _ _)
 all_goals have hv := HSV.out
 all_goals subst hv
 all_goals exact ⟨c5, e5, rfl, hS5, ZAI (ZAJ HN4.out hC5 (ZAL HN4.out HS4.out (by decide))) HB2.out.size, ((Chg.of_below HB2.out).trans (Chg.of_below HB4.out)).trans hC5⟩
end Go.Proofs.YtookchpdbilbcaaGreatDoor
/-
 The keys of a map that counts texts, sorted, each as often as it is counted: that is the sorted list of the texts. Of no function.
-/
namespace Go.Proofs.YtookchpdbilbcaaGreatDoor
open Go.RowKit Go.Maps
def srt (l : List Tx) : List Tx := l.mergeSort leB
theorem ZGF (a b c : Tx) (h1 : leB a b = true) (h2 : leB b c = true) : leB a c = true := by simp only [leB, decide_eq_true_eq] at *; exact List.le_trans h1 h2
theorem leB_to (a b : Tx) : (leB a b || leB b a) = true := by simp only [leB, Bool.or_eq_true, decide_eq_true_eq]; exact List.le_total a b
theorem ZIx {a b : Tx} (h1 : leB a b = true) (h2 : leB b a = true) : a = b := by simp only [leB, decide_eq_true_eq] at h1 h2; exact List.le_antisymm h1 h2
def Asc (l : List Tx) : Prop := l.Pairwise (fun a b => leB a b = true)
theorem ZCa (l : List Tx) : Asc (srt l) := List.pairwise_mergeSort ZGF leB_to l
theorem ZBZ (l : List Tx) : (srt l).Perm l := List.mergeSort_perm l leB
theorem ZEg {l l' : List Tx} (h : Asc l) (h' : Asc l') (hp : l.Perm l') : l = l' := List.Perm.eq_of_pairwise (le := fun a b => leB a b = true) (fun _ _ _ _ h1 h2 => ZIx h1 h2) h h' hp
theorem ZGm {l : List Tx} (h : Asc l) : srt l = l := ZEg (ZCa l) h (ZBZ l)
theorem ZC0 (l : List Tx) : (srt l).length = l.length := (ZBZ l).length_eq
/-- The keys of a map that counts these texts. -/
theorem keys_of {w : World} {b n : Nat} {D : DataW Unit} {l : List Tx} (hown : w.ownsMap Tryz.prog 9 (plainElem (H := Unit) Tryz.prog 2) b n D) (hD : MapOf D l) :
  (strKeys D).Nodup ∧ (∀ t, t ∈ strKeys D ↔ t ∈ l) ∧ Maps.size D = (strKeys D).length ∧ ∀ t ∈ strKeys D, t.length ≤ maxLen := by
 have hle := strKeys_le hown Tryz.underlying9
 obtain ⟨es, hE, hpw, _⟩ := hown.entries Tryz.strKeyed
 obtain ⟨es', hE', hko⟩ := hown.keysOf
 obtain rfl : es = es' := by rw [hE] at hE'; simpa using hE'
 subst hE
 have hk : ∀ p ∈ es, ∃ x, p.1 = .string x := fun p hp => by obtain ⟨v, hv⟩ := hko p hp; obtain ⟨x, _, hx, _⟩ := Maps.keyOf_str Tryz.underlying9 hv; exact ⟨x, hx⟩
 refine ⟨?_, fun x => ?_, by simp [Maps.size, strKeys], hle⟩
 ·show (es.map fun p => strOf p.1).Nodup
  refine List.pairwise_map.2 (hpw.imp_of_mem fun {p q} hp' hq' hne e => hne ?_)
  obtain ⟨a, ha⟩ := hk p hp'
  obtain ⟨b, hb⟩ := hk q hq'
  rw [ha, hb] at e ⊢
  exact congrArg _ e
 ·have h2 := (hD.2 x).2
  rw [has_eq] at h2
  refine Iff.trans ?_ (List.count_pos_iff (a := x) (l := l))
  rw [← decide_eq_true_iff (p := 0 < l.count x), ← h2, List.any_eq_true]
  show x ∈ es.map (fun p => strOf p.1) ↔ _
  rw [List.mem_map]
  constructor
  ·rintro ⟨p, hp', rfl⟩
   obtain ⟨a, ha⟩ := hk p hp'
   exact ⟨p, hp', by rw [ha]; simp [Lit.sameKey, strOf]⟩
  ·rintro ⟨p, hp', hs⟩
   obtain ⟨a, ha⟩ := hk p hp'
   rw [ha] at hs
   exact ⟨p, hp', by rw [ha]; simpa [Lit.sameKey, strOf] using hs⟩
/-- Each key as often as it is counted. -/
def expd (l : List Tx) (ks : List Tx) : List Tx := ks.flatMap (fun t => List.replicate (l.count t) t)
theorem ZDi (l : List Tx) (u : Tx) : ∀ ks : List Tx, ks.Nodup → (expd l ks).count u = if u ∈ ks then l.count u else 0
 | [], _ => by simp [expd]
 | t :: ks, h => by
  have ih := ZDi l u ks (List.nodup_cons.1 h).2
  show (List.replicate (l.count t) t ++ expd l ks).count u = _
  rw [List.count_append, ih, List.count_replicate]
  by_cases e : t = u
  ·subst e
   rw [if_neg (List.nodup_cons.1 h).1]
   simp
  ·have e' : ¬ u = t := fun h => e h.symm
   simp [e, e']
theorem ZGR (l : List Tx) : ∀ ks : List Tx, Asc ks → Asc (expd l ks)
 | [], _ => List.Pairwise.nil
 | t :: ks, h => by
  obtain ⟨h1, h2⟩ := List.pairwise_cons.1 h
  show (List.replicate (l.count t) t ++ expd l ks).Pairwise _
  refine List.pairwise_append.2 ⟨?_, ZGR l ks h2, fun a ha b hb => ?_⟩
  ·rw [List.pairwise_replicate]; right; simp
  ·rw [(List.mem_replicate.1 ha).2]
   obtain ⟨k, hk, hb'⟩ := List.mem_flatMap.1 hb
   rw [(List.mem_replicate.1 hb').2]
   exact h1 k hk
theorem ZGJ {l ks : List Tx} (hnd : ks.Nodup) (hm : ∀ t, t ∈ ks ↔ t ∈ l) (ha : Asc ks) : expd l ks = srt l := by
 refine ZEg (ZGR l ks ha) (ZCa l) ?_
 rw [List.perm_iff_count]
 intro u
 rw [(ZBZ l).count_eq, ZDi l u ks hnd]
 by_cases h : u ∈ ks
 ·rw [if_pos h]
 ·rw [if_neg h, List.count_eq_zero_of_not_mem (fun h' => h ((hm u).2 h'))]
theorem ZIF {l ks : List Tx} {k : Nat} (h : k < ks.length) : expd l (ks.take (k + 1)) = expd l (ks.take k) ++ List.replicate (l.count ks[k]) ks[k] := by
 unfold expd
 rw [List.take_succ_eq_append_getElem h, List.flatMap_append]; simp
theorem ZFy {l ks : List Tx} (hnd : ks.Nodup) (hm : ∀ t, t ∈ ks ↔ t ∈ l) (ha : Asc ks) (k : Nat) : (expd l (ks.take k)).length ≤ l.length := by
 have h1 : expd l ks = expd l (ks.take k) ++ expd l (ks.drop k) := by
  unfold expd; rw [← List.flatMap_append, List.take_append_drop]
 have h2 := congrArg List.length (ZGJ hnd hm ha)
 rw [h1, List.length_append, ZC0] at h2
 omega
end Go.Proofs.YtookchpdbilbcaaGreatDoor
/-
 What putT and outT do to a row in its order: it stays in its order.
-/
namespace Go.Proofs.YtookchpdbilbcaaGreatDoor
open Go.RowKit Go.Sort
theorem ZGD (a b : ByteArray) : lt a b = decide (txt a < txt b) := by
 unfold lt txt
 rw [bytesLess_eq, ByteArray.toList_eq, ByteArray.toList_eq]
theorem ZHS {a b : ByteArray} (h : lt a b = true) : leB (txt a) (txt b) = true := by
 rw [ZGD, decide_eq_true_eq] at h
 simp only [leB, decide_eq_true_eq]
 exact List.le_of_lt h
theorem ZBW {a b : ByteArray} (h : lt b a = false) : leB (txt a) (txt b) = true := by
 rw [ZGD, decide_eq_false_iff_not] at h
 simp only [leB, decide_eq_true_eq]
 exact List.not_lt.1 h
theorem leT_leB {a b : ByteArray} (h : leT a b = true) : leB (txt a) (txt b) = true := by
 unfold leT at h
 rcases Bool.or_eq_true_iff.1 h with h | h
 ·exact ZHS h
 ·have : a = b := toList_inj (by simpa using h)
  subst this
  exact ZBW (ZBs _)
theorem leT_not {a b : ByteArray} (h : leT a b = false) : leB (txt b) (txt a) = true := by
 unfold leT at h
 exact ZBW (Bool.or_eq_false_iff.1 h).1
theorem ZFI {l : List ByteArray} (h : Sorted l) : ∀ d i, (h' : i + d < l.length) → leB (txt l[i]) (txt l[i + d]) = true
 | 0, i, _ => ZBW (ZBs _)
 | d + 1, i, h' => ZGF _ _ _ (ZFI h d i (by omega)) (ZBW (h (i + d) (by omega)))
theorem ZG9 {l : List ByteArray} (h : Sorted l) : Asc (l.map txt) := by
 unfold Asc
 rw [List.pairwise_map, List.pairwise_iff_getElem]
 intro i j hi hj hij
 have := ZFI h (j - i) i (by omega)
 rwa [show l[i + (j - i)]'(by omega) = l[j] from by congr 1; omega] at this
theorem ZGc {l : List ByteArray} (h : Asc (l.map txt)) : Sorted l := by
 intro i hi
 unfold Asc at h
 rw [List.pairwise_map, List.pairwise_iff_getElem] at h
 have := h i (i + 1) (by omega) hi (by omega)
 rw [ZGD, decide_eq_false_iff_not]
 simp only [leB, decide_eq_true_eq] at this
 exact List.not_lt.2 this
theorem ZBY (l : List ByteArray) (t : ByteArray) : (putT l t).Perm (t :: l) := by
 unfold putT
 rw [List.append_assoc]
 refine (List.perm_middle (a := t) (l₁ := l.take (kI l t)) (l₂ := l.drop (kI l t))).trans ?_
 rw [List.take_append_drop]
theorem ZB8 {α : Type} (p : α → Bool) : ∀ l : List α, l.take (l.takeWhile p).length = l.takeWhile p
 | [] => rfl
 | x :: r => by
  cases hp : p x with
  | true => rw [List.takeWhile_cons_of_pos hp, List.length_cons, List.take_succ_cons, ZB8 p r]
  | false => rw [List.takeWhile_cons_of_neg (by rw [hp]; simp)]; rfl
theorem ZBz {α : Type} (p : α → Bool) : ∀ l : List α, l.drop (l.takeWhile p).length = l.dropWhile p
 | [] => rfl
 | x :: r => by
  cases hp : p x with
  | true => rw [List.takeWhile_cons_of_pos hp, List.length_cons, List.drop_succ_cons, ZBz p r, List.dropWhile_cons_of_pos hp]
  | false => rw [List.takeWhile_cons_of_neg (by rw [hp]; simp), List.dropWhile_cons_of_neg (by rw [hp]; simp)]; rfl
theorem ZIZ {l : List ByteArray} (h : Asc (l.map txt)) (t : ByteArray) : Asc ((putT l t).map txt) := by
 have hk : l.take (kI l t) = l.takeWhile (leT · t) := ZB8 _ l
 have hd : l.drop (kI l t) = l.dropWhile (leT · t) := ZBz _ l
 have hall : ∀ a ∈ l.take (kI l t), leB (txt a) (txt t) = true := fun a ha => by
  rw [hk] at ha
  exact leT_leB (List.all_eq_true.1 List.all_takeWhile a ha)
 have hrest : ∀ a ∈ l.drop (kI l t), leB (txt t) (txt a) = true := by
  have hs : Asc ((l.drop (kI l t)).map txt) := by
   unfold Asc at *
   rw [List.map_drop]
   exact h.sublist (List.drop_sublist _ _)
  rw [hd] at hs ⊢
  have h0 := List.head?_dropWhile_not (leT · t) l
  cases hc : l.dropWhile (leT · t) with
  | nil => intro a ha; simp at ha
  | cons x r =>
   rw [hc] at hs h0
   have hx : leT x t = false := by simpa using h0
   have h1 := leT_not hx
   intro a ha
   rcases List.mem_cons.1 ha with rfl | ha
   ·exact h1
   ·unfold Asc at hs
    rw [List.map_cons, List.pairwise_cons] at hs
    exact ZGF _ _ _ h1 (hs.1 _ (List.mem_map_of_mem ha))
 unfold Asc at *
 unfold putT
 rw [List.append_assoc, List.map_append, List.pairwise_append]
 refine ⟨?_, ?_, ?_⟩
 ·rw [List.map_take]; exact h.sublist (List.take_sublist _ _)
 ·show List.Pairwise _ (txt t :: (l.drop (kI l t)).map txt)
  rw [List.pairwise_cons]
  refine ⟨fun a ha => ?_, ?_⟩
  ·obtain ⟨x, hx, rfl⟩ := List.mem_map.1 ha
   exact hrest x hx
  ·rw [List.map_drop]; exact h.sublist (List.drop_sublist _ _)
 ·intro a ha b hb
  obtain ⟨x, hx, rfl⟩ := List.mem_map.1 ha
  obtain ⟨y, hy, rfl⟩ := List.mem_map.1 hb
  rcases List.mem_append.1 hy with hy | hy
  ·obtain rfl := List.mem_singleton.1 hy
   exact hall x hx
  ·exact ZGF _ _ _ (hall x hx) (hrest y hy)
theorem out_asc {l : List ByteArray} (h : Asc (l.map txt)) (k : Nat) : Asc ((outT l k).map txt) := by
 unfold Asc at *
 unfold outT
 rw [← List.eraseIdx_eq_take_drop_succ]
 exact h.sublist ((List.eraseIdx_sublist l k).map txt)
theorem ZIk {l : List ByteArray} {k : Nat} (hk : k < l.length) : (l[k] :: outT l k).Perm l := by
 unfold outT
 refine (List.perm_middle (a := l[k]) (l₁ := l.take k) (l₂ := l.drop (k + 1))).symm.trans ?_
 rw [← List.drop_eq_getElem_cons hk, List.take_append_drop]
end Go.Proofs.YtookchpdbilbcaaGreatDoor
/-
 The marks that a step's flows put: spec's row, one put after another, is the order of what the stand's map counts.
-/
namespace Go.Proofs.YtookchpdbilbcaaGreatDoor
open Go.RowKit Go.Sort
/-- One put for each flow from s, the first flow first. -/
def putF (s : ByteArray) : List Pr → List ByteArray → List ByteArray
 | [], l => l
 | f :: r, l => putF s r (if f.fst = s then putT l f.snd else l)
theorem ZCc (s : ByteArray) : ∀ (a b : List Pr) (l : List ByteArray), putF s (a ++ b) l = putF s b (putF s a l)
 | [], _, _ => rfl
 | f :: r, b, l => ZCc s r b (if f.fst = s then putT l f.snd else l)
theorem ZC3 {s : ByteArray} {fs : List Pr} {k : Nat} (h : k < fs.length) (l : List ByteArray) : putF s (fs.take (k + 1)) l = if fs[k].fst = s then putT (putF s (fs.take k) l) fs[k].snd else putF s (fs.take k) l := by
 rw [List.take_succ_eq_append_getElem h, ZCc]
 rfl
theorem ZFF (s : ByteArray) (l : List ByteArray) (h : Asc (l.map txt)) (fs : List Pr) : ∀ k, k ≤ fs.length → Asc ((putF s (fs.take k) l).map txt) ∧ ((putF s (fs.take k) l).map txt).Perm (addF s (fs.take k) (l.map txt))
 | 0, _ => ⟨h, List.Perm.refl _⟩
 | k + 1, hk => by
  obtain ⟨h1, h2⟩ := ZFF s l h fs k (by omega)
  rw [ZC3 (by omega), ZCW (by omega)]
  by_cases e : fs[k].fst = s
  ·rw [if_pos e, if_pos e]
   exact ⟨ZIZ h1 _, ((ZBY _ _).map txt).trans (h2.cons _)⟩
  ·rw [if_neg e, if_neg e]
   exact ⟨h1, h2⟩
theorem ZD5 (s : ByteArray) {l : List ByteArray} (h : Asc (l.map txt)) (fs : List Pr) : (putF s fs l).map txt = srt (addF s fs (l.map txt)) := by
 obtain ⟨h1, h2⟩ := ZFF s l h fs fs.length nL
 rw [List.take_length] at h1 h2
 exact ZEg h1 (ZCa _) (h2.trans (ZBZ _).symm)
theorem ZIj (s : ByteArray) {l : List ByteArray} (h : Asc (l.map txt)) (fs : List Pr) : (putF s fs l).length = (addF s fs (l.map txt)).length := by
 have := congrArg List.length (ZD5 s h fs)
 rwa [List.length_map, ZC0] at this
end Go.Proofs.YtookchpdbilbcaaGreatDoor
