/-
  What spec.l03Do does where a var is set: contracts over the seat's program. (Made by mkdo4.py.)
-/
import Derived.Test.YthggcdadipjiiaaGreatDoorZSpDo1
import Derived.Test.YthggcdadipjiiaaGreatDoorZSpSet24
import Derived.Test.YthggcdadipjiiaaGreatDoorZSpDo24
import Derived.Deep.RegionWith
namespace Go.Proofs.YthggcdadipjiiaaGreatDoor
open Go.RowKit Go.Sort

set_option maxRecDepth 100000 in
set_option maxHeartbeats 4000000 in
theorem l03Do_set_full (a1 a2 a3 a4 a5 : Option Addr) (k1 k2 k3 k4 k5 B : Nat) (ss : List ByteArray) (fs : List Pr) (st bg la fa q t r : Int) (wt bs : List ByteArray) (vs : List Pr) (s v : ByteArray) (w : World) (hS : SaB w B st bg la (.slice a3 wt.length k3) (.slice a4 bs.length k4) (.slice a5 vs.length k5) fa) (h3 : StrSl w (.slice a3 wt.length k3) wt) (h4 : StrSl w (.slice a4 bs.length k4) bs) (n3 : wt.length ≤ maxLen) (n4 : bs.length ≤ maxLen) (b5 : Nat) (hO5 : w.ownsRow b5 138 2 (.slice a5 vs.length k5) vs.length (vs.flatMap Pr.cells)) (m5 : vs.length ≤ 1048576) (hf : 20 < (setV vs ⟨s, v⟩).length) :
    Calls Tryz.prog 80 #[.agg #[.slice a1 ss.length k1, .slice a2 fs.length k2], .pointer (some ⟨B, 0, none⟩), .agg #[.int .i64 q, .int .i64 t, .int .i64 r, .int .i64 4, .string s, .string v]] w fun e w' => e = .returned (.int .i64 9) ∧ Chg (fun j => j = B) w w' := by
  have HO5 := hid hO5
  skip
  clear hO5
  have mixed : Tryz.prog.follows .mixedOrders = true := by kernel_rfl
  have hbW : Below w.heap.size w ((w.alloc (.cells #[.slice a1 ss.length k1, .slice a2 fs.length k2] 26)).alloc (.cells #[.int .i64 q, .int .i64 t, .int .i64 r, .int .i64 4, .string s, .string v] 33)) := below2 _ _ _
  have HS := hid (hS.stay hbW)
  have H3 := hid (h3.stay hbW (Nat.le_refl _))
  have H4 := hid (h4.stay hbW (Nat.le_refl _))
  have y1 : ((w.alloc (.cells #[.slice a1 ss.length k1, .slice a2 fs.length k2] 26)).alloc (.cells #[.int .i64 q, .int .i64 t, .int .i64 r, .int .i64 4, .string s, .string v] 33)).cell? ⟨w.heap.size + 1, 1, none⟩ = some (.int .i64 t) := by simp [go_sem]
  have y3 : ((w.alloc (.cells #[.slice a1 ss.length k1, .slice a2 fs.length k2] 26)).alloc (.cells #[.int .i64 q, .int .i64 t, .int .i64 r, .int .i64 4, .string s, .string v] 33)).cell? ⟨w.heap.size + 1, 3, none⟩ = some (.int .i64 4) := by simp [go_sem]
  have y4 : ((w.alloc (.cells #[.slice a1 ss.length k1, .slice a2 fs.length k2] 26)).alloc (.cells #[.int .i64 q, .int .i64 t, .int .i64 r, .int .i64 4, .string s, .string v] 33)).cell? ⟨w.heap.size + 1, 4, none⟩ = some (.string s) := by simp [go_sem]
  have HY := hid (And.intro y1 (And.intro y3 y4))
  have hne : ¬ w.heap.size + 1 = B := by have := hS.lt; omega
  have hne2 : ¬ B = w.heap.size + 1 := by omega
  have HV := hid (show ((w.alloc (.cells #[.slice a1 ss.length k1, .slice a2 fs.length k2] 26)).alloc (.cells #[.int .i64 q, .int .i64 t, .int .i64 r, .int .i64 4, .string s, .string v] 33)).cell? ⟨w.heap.size + 1, 5, none⟩ = some (.string v) by simp [go_sem])
  have HBW := hid hbW
  clear h3 h4 hS hbW y1 y3 y4
  go_enter Tryz.func80, Tryz.ntmps80
  go_wp2
  generalize ((w.alloc (.cells #[.slice a1 ss.length k1, .slice a2 fs.length k2] 26)).alloc (.cells #[.int .i64 q, .int .i64 t, .int .i64 r, .int .i64 4, .string s, .string v] 33)) = W at *
  have x3 := HS.out.cell 3
  have y4 := HY.out.2.2
  skip
  have x' := cell_regrown x3
  have y' := cell_regrown y4
  have d1 := fun d os => Calls.regrown_of (w := W) (d := d) (os := os) (calls_below (l03At_any _ wt s _ (H3.out.stay (below_regrown W d os) (Nat.le_refl _)) n3))
  clear x3 y4
  refine wp_region_quiet_below mixed (by kernel_rfl) ?_
  repeat (go_big_quiet_step ((go_at_call 77; exact d1 _ _)))
  refine wpQuiet_nil ?_
  intro W1 hw'
  have HR1 := hid (show Below W.heap.size W W1 by obtain ⟨⟨dq, osq⟩, hw''⟩ := hw'; subst hw''; exact below_regrown W dq osq)
  clear hw' x' y' d1
  have HS1 := hid (HS.out.stay HR1.out)
  have HV1 := hid ((HR1.out.cell (block_lt_of_cell HV.out)).trans HV.out)
  have H31 := hid (H3.out.stay HR1.out (Nat.le_refl _))
  have H41 := hid (H4.out.stay HR1.out (Nat.le_refl _))
  have HY1 := hid (show W1.cell? ⟨w.heap.size + 1, 1, none⟩ = some (.int .i64 t) ∧ W1.cell? ⟨w.heap.size + 1, 3, none⟩ = some (.int .i64 4) ∧ W1.cell? ⟨w.heap.size + 1, 4, none⟩ = some (.string s) from ⟨(HR1.out.cell (block_lt_of_cell HY.out.1)).trans HY.out.1, (HR1.out.cell (block_lt_of_cell HY.out.2.1)).trans HY.out.2.1, (HR1.out.cell (block_lt_of_cell HY.out.2.2)).trans HY.out.2.2⟩)
  have HB1 := hid (HBW.out.trans (HR1.out.mono HBW.out.size))
  have x4 := HS1.out.cell 4
  have y4 := HY1.out.2.2
  go_wp2
  have x' := cell_regrown x4
  have y' := cell_regrown y4
  have d1 := fun d os => Calls.regrown_of (w := W1) (d := d) (os := os) (calls_below (l03At_any _ bs s _ (H41.out.stay (below_regrown W1 d os) (Nat.le_refl _)) n4))
  clear x4 y4
  refine wp_region_quiet_below mixed (by kernel_rfl) ?_
  repeat (go_big_quiet_step ((go_at_call 77; exact d1 _ _)))
  refine wpQuiet_nil ?_
  intro W2 hw'
  have HR2 := hid (show Below W1.heap.size W1 W2 by obtain ⟨⟨dq, osq⟩, hw''⟩ := hw'; subst hw''; exact below_regrown W1 dq osq)
  clear hw' x' y' d1
  have HS2 := hid (HS1.out.stay HR2.out)
  have HV2 := hid ((HR2.out.cell (block_lt_of_cell HV1.out)).trans HV1.out)
  have H32 := hid (H31.out.stay HR2.out (Nat.le_refl _))
  have H42 := hid (H41.out.stay HR2.out (Nat.le_refl _))
  have HY2 := hid (show W2.cell? ⟨w.heap.size + 1, 1, none⟩ = some (.int .i64 t) ∧ W2.cell? ⟨w.heap.size + 1, 3, none⟩ = some (.int .i64 4) ∧ W2.cell? ⟨w.heap.size + 1, 4, none⟩ = some (.string s) from ⟨(HR2.out.cell (block_lt_of_cell HY1.out.1)).trans HY1.out.1, (HR2.out.cell (block_lt_of_cell HY1.out.2.1)).trans HY1.out.2.1, (HR2.out.cell (block_lt_of_cell HY1.out.2.2)).trans HY1.out.2.2⟩)
  have HB2 := hid (HB1.out.trans (HR2.out.mono HB1.out.size))
  have y1 := HY2.out.1
  have y3 := HY2.out.2.1
  have x0 : W2.cell? ⟨B, 0, none⟩ = some (.int .i64 st) := HS2.out.cell 0
  have x3 : W2.cell? ⟨B, 3, none⟩ = some (.slice a3 wt.length k3) := HS2.out.cell 3
  have x4 : W2.cell? ⟨B, 4, none⟩ = some (.slice a4 bs.length k4) := HS2.out.cell 4
  have x2 : W2.cell? ⟨B, 2, none⟩ = some (.int .i64 la) := HS2.out.cell 2
  have x6 : W2.cell? ⟨B, 6, none⟩ = some (.int .i64 fa) := HS2.out.cell 6
  have z := HS2.out.frozen
  generalize atI bs s = ib at *
  generalize atI wt s = iw at *
  have x5 : W2.cell? ⟨B, 5, none⟩ = some (.slice a5 vs.length k5) := HS2.out.cell 5
  have y4 := HY2.out.2.2
  have y5 := HV2.out
  have hbd : Below W2.heap.size W2 W2.drew := (Below.refl _ _).drew
  have cP := hid (l03Set_own b5 _ vs ⟨s, v⟩ W2.drew (ownB_stay (ownB_stay HO5.out HB2.out) hbd) m5)
  have hBV := HS2.out.lt
  have hEV : w.heap.size + 1 < W2.heap.size := block_lt_of_cell y1
  generalize hsv : setV vs ⟨s, v⟩ = sv at *
  have HSV := hid hsv
  clear hsv x0 x2 x3 x4 x6 z HO5
  go_wp2
  go_region_with (first | (go_at_call 99; refine cP.out.mono ?_; rintro e W4 ⟨c5, e5, rfl, hO5', hb4⟩; have HB4 := hid (hbd.trans (hb4.mono hbd.size)); have HS4 := hid (HS2.out.stay HB4.out); have HN4 := hid hO5'; have xx5 : W4.cell? ⟨B, 5, none⟩ = some (.slice a5 vs.length k5) := HS4.out.cell 5; have xx2 : W4.cell? ⟨B, 2, none⟩ = some (.int .i64 la) := HS4.out.cell 2; have yy1 := (HB4.out.cell (p := ⟨w.heap.size + 1, 1, none⟩) hEV).trans y1; have zz := HS4.out.frozen; clear hO5' hb4))
  all_goals go_wp2
  all_goals go_ret
  all_goals exact ⟨rfl, ((Chg.of_below HB2.out).trans (Chg.of_below HB4.out)).trans (chg_set _ B _ _)⟩
set_option maxRecDepth 100000 in
set_option maxHeartbeats 4000000 in
theorem l03Do_set_yes (a1 a2 a3 a4 a5 : Option Addr) (k1 k2 k3 k4 k5 B : Nat) (ss : List ByteArray) (fs : List Pr) (st bg la fa q t r : Int) (wt bs : List ByteArray) (vs : List Pr) (s v : ByteArray) (w : World) (hS : SaB w B st bg la (.slice a3 wt.length k3) (.slice a4 bs.length k4) (.slice a5 vs.length k5) fa) (h3 : StrSl w (.slice a3 wt.length k3) wt) (h4 : StrSl w (.slice a4 bs.length k4) bs) (n3 : wt.length ≤ maxLen) (n4 : bs.length ≤ maxLen) (b5 : Nat) (hO5 : w.ownsRow b5 138 2 (.slice a5 vs.length k5) vs.length (vs.flatMap Pr.cells)) (m5 : vs.length ≤ 1048576) (hf : ¬ 20 < (setV vs ⟨s, v⟩).length) :
    Calls Tryz.prog 80 #[.agg #[.slice a1 ss.length k1, .slice a2 fs.length k2], .pointer (some ⟨B, 0, none⟩), .agg #[.int .i64 q, .int .i64 t, .int .i64 r, .int .i64 4, .string s, .string v]] w fun e w' => ∃ c5 e5, e = .returned (.int .i64 0) ∧ SaB w' B st bg t (.slice a3 wt.length k3) (.slice a4 bs.length k4) (.slice c5 (setV vs ⟨s, v⟩).length e5) fa ∧ w'.ownsRow w.heap.size 138 2 (.slice c5 (setV vs ⟨s, v⟩).length e5) (setV vs ⟨s, v⟩).length ((setV vs ⟨s, v⟩).flatMap Pr.cells) ∧ Chg (fun j => j = B) w w' := by
  have HO5 := hid hO5
  skip
  clear hO5
  have mixed : Tryz.prog.follows .mixedOrders = true := by kernel_rfl
  have hbW : Below w.heap.size w ((w.alloc (.cells #[.slice a1 ss.length k1, .slice a2 fs.length k2] 26)).alloc (.cells #[.int .i64 q, .int .i64 t, .int .i64 r, .int .i64 4, .string s, .string v] 33)) := below2 _ _ _
  have HS := hid (hS.stay hbW)
  have H3 := hid (h3.stay hbW (Nat.le_refl _))
  have H4 := hid (h4.stay hbW (Nat.le_refl _))
  have y1 : ((w.alloc (.cells #[.slice a1 ss.length k1, .slice a2 fs.length k2] 26)).alloc (.cells #[.int .i64 q, .int .i64 t, .int .i64 r, .int .i64 4, .string s, .string v] 33)).cell? ⟨w.heap.size + 1, 1, none⟩ = some (.int .i64 t) := by simp [go_sem]
  have y3 : ((w.alloc (.cells #[.slice a1 ss.length k1, .slice a2 fs.length k2] 26)).alloc (.cells #[.int .i64 q, .int .i64 t, .int .i64 r, .int .i64 4, .string s, .string v] 33)).cell? ⟨w.heap.size + 1, 3, none⟩ = some (.int .i64 4) := by simp [go_sem]
  have y4 : ((w.alloc (.cells #[.slice a1 ss.length k1, .slice a2 fs.length k2] 26)).alloc (.cells #[.int .i64 q, .int .i64 t, .int .i64 r, .int .i64 4, .string s, .string v] 33)).cell? ⟨w.heap.size + 1, 4, none⟩ = some (.string s) := by simp [go_sem]
  have HY := hid (And.intro y1 (And.intro y3 y4))
  have hne : ¬ w.heap.size + 1 = B := by have := hS.lt; omega
  have hne2 : ¬ B = w.heap.size + 1 := by omega
  have HV := hid (show ((w.alloc (.cells #[.slice a1 ss.length k1, .slice a2 fs.length k2] 26)).alloc (.cells #[.int .i64 q, .int .i64 t, .int .i64 r, .int .i64 4, .string s, .string v] 33)).cell? ⟨w.heap.size + 1, 5, none⟩ = some (.string v) by simp [go_sem])
  have HBW := hid hbW
  clear h3 h4 hS hbW y1 y3 y4
  go_enter Tryz.func80, Tryz.ntmps80
  go_wp2
  generalize ((w.alloc (.cells #[.slice a1 ss.length k1, .slice a2 fs.length k2] 26)).alloc (.cells #[.int .i64 q, .int .i64 t, .int .i64 r, .int .i64 4, .string s, .string v] 33)) = W at *
  have x3 := HS.out.cell 3
  have y4 := HY.out.2.2
  skip
  have x' := cell_regrown x3
  have y' := cell_regrown y4
  have d1 := fun d os => Calls.regrown_of (w := W) (d := d) (os := os) (calls_below (l03At_any _ wt s _ (H3.out.stay (below_regrown W d os) (Nat.le_refl _)) n3))
  clear x3 y4
  refine wp_region_quiet_below mixed (by kernel_rfl) ?_
  repeat (go_big_quiet_step ((go_at_call 77; exact d1 _ _)))
  refine wpQuiet_nil ?_
  intro W1 hw'
  have HR1 := hid (show Below W.heap.size W W1 by obtain ⟨⟨dq, osq⟩, hw''⟩ := hw'; subst hw''; exact below_regrown W dq osq)
  clear hw' x' y' d1
  have HS1 := hid (HS.out.stay HR1.out)
  have HV1 := hid ((HR1.out.cell (block_lt_of_cell HV.out)).trans HV.out)
  have H31 := hid (H3.out.stay HR1.out (Nat.le_refl _))
  have H41 := hid (H4.out.stay HR1.out (Nat.le_refl _))
  have HY1 := hid (show W1.cell? ⟨w.heap.size + 1, 1, none⟩ = some (.int .i64 t) ∧ W1.cell? ⟨w.heap.size + 1, 3, none⟩ = some (.int .i64 4) ∧ W1.cell? ⟨w.heap.size + 1, 4, none⟩ = some (.string s) from ⟨(HR1.out.cell (block_lt_of_cell HY.out.1)).trans HY.out.1, (HR1.out.cell (block_lt_of_cell HY.out.2.1)).trans HY.out.2.1, (HR1.out.cell (block_lt_of_cell HY.out.2.2)).trans HY.out.2.2⟩)
  have HB1 := hid (HBW.out.trans (HR1.out.mono HBW.out.size))
  have x4 := HS1.out.cell 4
  have y4 := HY1.out.2.2
  go_wp2
  have x' := cell_regrown x4
  have y' := cell_regrown y4
  have d1 := fun d os => Calls.regrown_of (w := W1) (d := d) (os := os) (calls_below (l03At_any _ bs s _ (H41.out.stay (below_regrown W1 d os) (Nat.le_refl _)) n4))
  clear x4 y4
  refine wp_region_quiet_below mixed (by kernel_rfl) ?_
  repeat (go_big_quiet_step ((go_at_call 77; exact d1 _ _)))
  refine wpQuiet_nil ?_
  intro W2 hw'
  have HR2 := hid (show Below W1.heap.size W1 W2 by obtain ⟨⟨dq, osq⟩, hw''⟩ := hw'; subst hw''; exact below_regrown W1 dq osq)
  clear hw' x' y' d1
  have HS2 := hid (HS1.out.stay HR2.out)
  have HV2 := hid ((HR2.out.cell (block_lt_of_cell HV1.out)).trans HV1.out)
  have H32 := hid (H31.out.stay HR2.out (Nat.le_refl _))
  have H42 := hid (H41.out.stay HR2.out (Nat.le_refl _))
  have HY2 := hid (show W2.cell? ⟨w.heap.size + 1, 1, none⟩ = some (.int .i64 t) ∧ W2.cell? ⟨w.heap.size + 1, 3, none⟩ = some (.int .i64 4) ∧ W2.cell? ⟨w.heap.size + 1, 4, none⟩ = some (.string s) from ⟨(HR2.out.cell (block_lt_of_cell HY1.out.1)).trans HY1.out.1, (HR2.out.cell (block_lt_of_cell HY1.out.2.1)).trans HY1.out.2.1, (HR2.out.cell (block_lt_of_cell HY1.out.2.2)).trans HY1.out.2.2⟩)
  have HB2 := hid (HB1.out.trans (HR2.out.mono HB1.out.size))
  have y1 := HY2.out.1
  have y3 := HY2.out.2.1
  have x0 : W2.cell? ⟨B, 0, none⟩ = some (.int .i64 st) := HS2.out.cell 0
  have x3 : W2.cell? ⟨B, 3, none⟩ = some (.slice a3 wt.length k3) := HS2.out.cell 3
  have x4 : W2.cell? ⟨B, 4, none⟩ = some (.slice a4 bs.length k4) := HS2.out.cell 4
  have x2 : W2.cell? ⟨B, 2, none⟩ = some (.int .i64 la) := HS2.out.cell 2
  have x6 : W2.cell? ⟨B, 6, none⟩ = some (.int .i64 fa) := HS2.out.cell 6
  have z := HS2.out.frozen
  generalize atI bs s = ib at *
  generalize atI wt s = iw at *
  have x5 : W2.cell? ⟨B, 5, none⟩ = some (.slice a5 vs.length k5) := HS2.out.cell 5
  have y4 := HY2.out.2.2
  have y5 := HV2.out
  have hbd : Below W2.heap.size W2 W2.drew := (Below.refl _ _).drew
  have cP := hid (l03Set_own b5 _ vs ⟨s, v⟩ W2.drew (ownB_stay (ownB_stay HO5.out HB2.out) hbd) m5)
  have hBV := HS2.out.lt
  have hEV : w.heap.size + 1 < W2.heap.size := block_lt_of_cell y1
  generalize hsv : setV vs ⟨s, v⟩ = sv at *
  have HSV := hid hsv
  clear hsv x0 x2 x3 x4 x6 z HO5
  go_wp2
  go_region_with (first | (go_at_call 99; refine cP.out.mono ?_; rintro e W4 ⟨c5, e5, rfl, hO5', hb4⟩; have HB4 := hid (hbd.trans (hb4.mono hbd.size)); have HS4 := hid (HS2.out.stay HB4.out); have HN4 := hid hO5'; have xx5 : W4.cell? ⟨B, 5, none⟩ = some (.slice a5 vs.length k5) := HS4.out.cell 5; have xx2 : W4.cell? ⟨B, 2, none⟩ = some (.int .i64 la) := HS4.out.cell 2; have yy1 := (HB4.out.cell (p := ⟨w.heap.size + 1, 1, none⟩) hEV).trans y1; have zz := HS4.out.frozen; clear hO5' hb4))
  all_goals go_wp2
  all_goals go_ret
  all_goals have hS5 : SaB ((W4.setCell ⟨B, 5, none⟩ (.slice c5 sv.length e5)).setCell ⟨B, 2, none⟩ (.int .i64 t)) B st bg t (.slice a3 wt.length k3) (.slice a4 bs.length k4) (.slice c5 sv.length e5) fa := blk_set (HS4.out.set 5 (.slice c5 sv.length e5)) (.int .i64 t)
  all_goals have hC5 : Chg (fun j => j = B) W4 ((W4.setCell ⟨B, 5, none⟩ (.slice c5 sv.length e5)).setCell ⟨B, 2, none⟩ (.int .i64 t)) := (chg_set _ B _ _).trans (chg_set _ B _ _)
  all_goals have hv := HSV.out
  all_goals subst hv
  all_goals exact ⟨c5, e5, rfl, hS5, ownB_le (own_chg HN4.out hC5 (own_ne HN4.out HS4.out (by decide))) HB2.out.size, ((Chg.of_below HB2.out).trans (Chg.of_below HB4.out)).trans hC5⟩
end Go.Proofs.YthggcdadipjiiaaGreatDoor
