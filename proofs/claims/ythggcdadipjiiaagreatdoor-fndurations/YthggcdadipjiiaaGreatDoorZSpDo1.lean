/-
  What spec.l03Do does at a fault and at an end: contracts over the seat's program. (Made by mkdo.py.)
-/
import Derived.Test.YthggcdadipjiiaaGreatDoorZSpSet24
import Derived.Test.YthggcdadipjiiaaGreatDoorZImLv
namespace Go.Proofs.YthggcdadipjiiaaGreatDoor
open Go.RowKit Go.Sort

/-- A State's cells. -/
def saL (st bg la : Int) (v3 v4 v5 : Value) (fa : Int) : List Value := [.int .i64 st, .int .i64 bg, .int .i64 la, v3, v4, v5, .int .i64 fa]
def SaB (w : World) (B : Nat) (st bg la : Int) (v3 v4 v5 : Value) (fa : Int) : Prop := w.heap[B]? = some (.cells (saL st bg la v3 v4 v5 fa).toArray 91 (0, 0))
theorem SaB.lt {w : World} {B : Nat} {st bg la fa : Int} {v3 v4 v5 : Value} (h : SaB w B st bg la v3 v4 v5 fa) : B < w.heap.size := lt_heap h
theorem SaB.cell {w : World} {B : Nat} {st bg la fa : Int} {v3 v4 v5 : Value} (h : SaB w B st bg la v3 v4 v5 fa) (o : Nat) : w.cell? ⟨B, o, none⟩ = (saL st bg la v3 v4 v5 fa)[o]? := by rw [Lib.cell_of_heap h]; simp
theorem SaB.frozen {w : World} {B : Nat} {st bg la fa : Int} {v3 v4 v5 : Value} (h : SaB w B st bg la v3 v4 v5 fa) (o : Nat) : w.frozen? ⟨B, o, none⟩ = false := Lib.frozen_of_heap h o
theorem SaB.stay {w w' : World} {B : Nat} {st bg la fa : Int} {v3 v4 v5 : Value} (h : SaB w B st bg la v3 v4 v5 fa) (hb : Below w.heap.size w w') : SaB w' B st bg la v3 v4 v5 fa := (hb.block B h.lt).trans h
theorem SaB.set {w : World} {B : Nat} {st bg la fa : Int} {v3 v4 v5 : Value} (h : SaB w B st bg la v3 v4 v5 fa) (i : Nat) (x : Value) : (w.setCell ⟨B, i, none⟩ x).heap[B]? = some (.cells ((saL st bg la v3 v4 v5 fa).set i x).toArray 91 (0, 0)) := blk_set h x
set_option maxRecDepth 100000 in
set_option maxHeartbeats 4000000 in
theorem l03Do_fault_none (a1 a2 a3 a4 : Option Addr) (k1 k2 k3 k4 B : Nat) (ss : List ByteArray) (fs : List Pr) (st bg la fa q t r : Int) (wt bs : List ByteArray) (v5 : Value) (s v : ByteArray) (w : World) (hS : SaB w B st bg la (.slice a3 wt.length k3) (.slice a4 bs.length k4) v5 fa) (h3 : StrSl w (.slice a3 wt.length k3) wt) (h4 : StrSl w (.slice a4 bs.length k4) bs) (n3 : wt.length ≤ maxLen) (n4 : bs.length ≤ maxLen) (hm : atI bs s < 0) :
    Calls Tryz.prog 80 #[.agg #[.slice a1 ss.length k1, .slice a2 fs.length k2], .pointer (some ⟨B, 0, none⟩), .agg #[.int .i64 q, .int .i64 t, .int .i64 r, .int .i64 5, .string s, .string v]] w fun e w' => e = .returned (.int .i64 6) ∧ Below w.heap.size w w' := by
  have mixed : Tryz.prog.follows .mixedOrders = true := by kernel_rfl
  have hbW : Below w.heap.size w ((w.alloc (.cells #[.slice a1 ss.length k1, .slice a2 fs.length k2] 26)).alloc (.cells #[.int .i64 q, .int .i64 t, .int .i64 r, .int .i64 5, .string s, .string v] 33)) := below2 _ _ _
  have HS := hid (hS.stay hbW)
  have H3 := hid (h3.stay hbW (Nat.le_refl _))
  have H4 := hid (h4.stay hbW (Nat.le_refl _))
  have y1 : ((w.alloc (.cells #[.slice a1 ss.length k1, .slice a2 fs.length k2] 26)).alloc (.cells #[.int .i64 q, .int .i64 t, .int .i64 r, .int .i64 5, .string s, .string v] 33)).cell? ⟨w.heap.size + 1, 1, none⟩ = some (.int .i64 t) := by simp [go_sem]
  have y3 : ((w.alloc (.cells #[.slice a1 ss.length k1, .slice a2 fs.length k2] 26)).alloc (.cells #[.int .i64 q, .int .i64 t, .int .i64 r, .int .i64 5, .string s, .string v] 33)).cell? ⟨w.heap.size + 1, 3, none⟩ = some (.int .i64 5) := by simp [go_sem]
  have y4 : ((w.alloc (.cells #[.slice a1 ss.length k1, .slice a2 fs.length k2] 26)).alloc (.cells #[.int .i64 q, .int .i64 t, .int .i64 r, .int .i64 5, .string s, .string v] 33)).cell? ⟨w.heap.size + 1, 4, none⟩ = some (.string s) := by simp [go_sem]
  have HY := hid (And.intro y1 (And.intro y3 y4))
  have hne : ¬ w.heap.size + 1 = B := by have := hS.lt; omega
  have hne2 : ¬ B = w.heap.size + 1 := by omega
  have HBW := hid hbW
  clear h3 h4 hS hbW y1 y3 y4
  go_enter Tryz.func80, Tryz.ntmps80
  go_wp2
  generalize ((w.alloc (.cells #[.slice a1 ss.length k1, .slice a2 fs.length k2] 26)).alloc (.cells #[.int .i64 q, .int .i64 t, .int .i64 r, .int .i64 5, .string s, .string v] 33)) = W at *
  have x3 := HS.out.cell 3
  have y4 := HY.out.2.2
  skip
  have x' := cell_regrown x3
  have y' := cell_regrown y4
  have d1 := fun d os => Calls.regrown_of (w := W) (d := d) (os := os) (calls_below (l03At_any _ wt s _ (H3.out.stay (below_regrown W d os) (Nat.le_refl _)) n3))
  clear x3 y4
  refine wp_region_quiet_below mixed (by kernel_rfl) ?_
  repeat (go_big_quiet_step ((go_at_call 77; exact d1 _ _)))
  refine wpQuiet_nil ?_
  intro W1 hw'
  have HR1 := hid (show Below W.heap.size W W1 by obtain ⟨⟨dq, osq⟩, hw''⟩ := hw'; subst hw''; exact below_regrown W dq osq)
  clear hw' x' y' d1
  have HS1 := hid (HS.out.stay HR1.out)
  have H31 := hid (H3.out.stay HR1.out (Nat.le_refl _))
  have H41 := hid (H4.out.stay HR1.out (Nat.le_refl _))
  have HY1 := hid (show W1.cell? ⟨w.heap.size + 1, 1, none⟩ = some (.int .i64 t) ∧ W1.cell? ⟨w.heap.size + 1, 3, none⟩ = some (.int .i64 5) ∧ W1.cell? ⟨w.heap.size + 1, 4, none⟩ = some (.string s) from ⟨(HR1.out.cell (block_lt_of_cell HY.out.1)).trans HY.out.1, (HR1.out.cell (block_lt_of_cell HY.out.2.1)).trans HY.out.2.1, (HR1.out.cell (block_lt_of_cell HY.out.2.2)).trans HY.out.2.2⟩)
  have HB1 := hid (HBW.out.trans (HR1.out.mono HBW.out.size))
  have x4 := HS1.out.cell 4
  have y4 := HY1.out.2.2
  go_wp2
  have x' := cell_regrown x4
  have y' := cell_regrown y4
  have d1 := fun d os => Calls.regrown_of (w := W1) (d := d) (os := os) (calls_below (l03At_any _ bs s _ (H41.out.stay (below_regrown W1 d os) (Nat.le_refl _)) n4))
  clear x4 y4
  refine wp_region_quiet_below mixed (by kernel_rfl) ?_
  repeat (go_big_quiet_step ((go_at_call 77; exact d1 _ _)))
  refine wpQuiet_nil ?_
  intro W2 hw'
  have HR2 := hid (show Below W1.heap.size W1 W2 by obtain ⟨⟨dq, osq⟩, hw''⟩ := hw'; subst hw''; exact below_regrown W1 dq osq)
  clear hw' x' y' d1
  have HS2 := hid (HS1.out.stay HR2.out)
  have H32 := hid (H31.out.stay HR2.out (Nat.le_refl _))
  have H42 := hid (H41.out.stay HR2.out (Nat.le_refl _))
  have HY2 := hid (show W2.cell? ⟨w.heap.size + 1, 1, none⟩ = some (.int .i64 t) ∧ W2.cell? ⟨w.heap.size + 1, 3, none⟩ = some (.int .i64 5) ∧ W2.cell? ⟨w.heap.size + 1, 4, none⟩ = some (.string s) from ⟨(HR2.out.cell (block_lt_of_cell HY1.out.1)).trans HY1.out.1, (HR2.out.cell (block_lt_of_cell HY1.out.2.1)).trans HY1.out.2.1, (HR2.out.cell (block_lt_of_cell HY1.out.2.2)).trans HY1.out.2.2⟩)
  have HB2 := hid (HB1.out.trans (HR2.out.mono HB1.out.size))
  have y1 := HY2.out.1
  have y3 := HY2.out.2.1
  have x0 : W2.cell? ⟨B, 0, none⟩ = some (.int .i64 st) := HS2.out.cell 0
  have x3 : W2.cell? ⟨B, 3, none⟩ = some (.slice a3 wt.length k3) := HS2.out.cell 3
  have x4 : W2.cell? ⟨B, 4, none⟩ = some (.slice a4 bs.length k4) := HS2.out.cell 4
  have x2 : W2.cell? ⟨B, 2, none⟩ = some (.int .i64 la) := HS2.out.cell 2
  have x6 : W2.cell? ⟨B, 6, none⟩ = some (.int .i64 fa) := HS2.out.cell 6
  have z := HS2.out.frozen
  generalize atI bs s = ib at *
  generalize atI wt s = iw at *
  go_wp2
  go_ret
  exact ⟨rfl, HB2.out⟩
set_option maxRecDepth 100000 in
set_option maxHeartbeats 4000000 in
theorem l03Do_fault_full (a1 a2 a3 a4 : Option Addr) (k1 k2 k3 k4 B : Nat) (ss : List ByteArray) (fs : List Pr) (st bg la fa q t r : Int) (wt bs : List ByteArray) (v5 : Value) (s v : ByteArray) (w : World) (hS : SaB w B st bg la (.slice a3 wt.length k3) (.slice a4 bs.length k4) v5 fa) (h3 : StrSl w (.slice a3 wt.length k3) wt) (h4 : StrSl w (.slice a4 bs.length k4) bs) (n3 : wt.length ≤ maxLen) (n4 : bs.length ≤ maxLen) (hm : 0 ≤ atI bs s) (hf : 1000000 ≤ fa) :
    Calls Tryz.prog 80 #[.agg #[.slice a1 ss.length k1, .slice a2 fs.length k2], .pointer (some ⟨B, 0, none⟩), .agg #[.int .i64 q, .int .i64 t, .int .i64 r, .int .i64 5, .string s, .string v]] w fun e w' => e = .returned (.int .i64 9) ∧ Below w.heap.size w w' := by
  have mixed : Tryz.prog.follows .mixedOrders = true := by kernel_rfl
  have hbW : Below w.heap.size w ((w.alloc (.cells #[.slice a1 ss.length k1, .slice a2 fs.length k2] 26)).alloc (.cells #[.int .i64 q, .int .i64 t, .int .i64 r, .int .i64 5, .string s, .string v] 33)) := below2 _ _ _
  have HS := hid (hS.stay hbW)
  have H3 := hid (h3.stay hbW (Nat.le_refl _))
  have H4 := hid (h4.stay hbW (Nat.le_refl _))
  have y1 : ((w.alloc (.cells #[.slice a1 ss.length k1, .slice a2 fs.length k2] 26)).alloc (.cells #[.int .i64 q, .int .i64 t, .int .i64 r, .int .i64 5, .string s, .string v] 33)).cell? ⟨w.heap.size + 1, 1, none⟩ = some (.int .i64 t) := by simp [go_sem]
  have y3 : ((w.alloc (.cells #[.slice a1 ss.length k1, .slice a2 fs.length k2] 26)).alloc (.cells #[.int .i64 q, .int .i64 t, .int .i64 r, .int .i64 5, .string s, .string v] 33)).cell? ⟨w.heap.size + 1, 3, none⟩ = some (.int .i64 5) := by simp [go_sem]
  have y4 : ((w.alloc (.cells #[.slice a1 ss.length k1, .slice a2 fs.length k2] 26)).alloc (.cells #[.int .i64 q, .int .i64 t, .int .i64 r, .int .i64 5, .string s, .string v] 33)).cell? ⟨w.heap.size + 1, 4, none⟩ = some (.string s) := by simp [go_sem]
  have HY := hid (And.intro y1 (And.intro y3 y4))
  have hne : ¬ w.heap.size + 1 = B := by have := hS.lt; omega
  have hne2 : ¬ B = w.heap.size + 1 := by omega
  have HBW := hid hbW
  clear h3 h4 hS hbW y1 y3 y4
  go_enter Tryz.func80, Tryz.ntmps80
  go_wp2
  generalize ((w.alloc (.cells #[.slice a1 ss.length k1, .slice a2 fs.length k2] 26)).alloc (.cells #[.int .i64 q, .int .i64 t, .int .i64 r, .int .i64 5, .string s, .string v] 33)) = W at *
  have x3 := HS.out.cell 3
  have y4 := HY.out.2.2
  skip
  have x' := cell_regrown x3
  have y' := cell_regrown y4
  have d1 := fun d os => Calls.regrown_of (w := W) (d := d) (os := os) (calls_below (l03At_any _ wt s _ (H3.out.stay (below_regrown W d os) (Nat.le_refl _)) n3))
  clear x3 y4
  refine wp_region_quiet_below mixed (by kernel_rfl) ?_
  repeat (go_big_quiet_step ((go_at_call 77; exact d1 _ _)))
  refine wpQuiet_nil ?_
  intro W1 hw'
  have HR1 := hid (show Below W.heap.size W W1 by obtain ⟨⟨dq, osq⟩, hw''⟩ := hw'; subst hw''; exact below_regrown W dq osq)
  clear hw' x' y' d1
  have HS1 := hid (HS.out.stay HR1.out)
  have H31 := hid (H3.out.stay HR1.out (Nat.le_refl _))
  have H41 := hid (H4.out.stay HR1.out (Nat.le_refl _))
  have HY1 := hid (show W1.cell? ⟨w.heap.size + 1, 1, none⟩ = some (.int .i64 t) ∧ W1.cell? ⟨w.heap.size + 1, 3, none⟩ = some (.int .i64 5) ∧ W1.cell? ⟨w.heap.size + 1, 4, none⟩ = some (.string s) from ⟨(HR1.out.cell (block_lt_of_cell HY.out.1)).trans HY.out.1, (HR1.out.cell (block_lt_of_cell HY.out.2.1)).trans HY.out.2.1, (HR1.out.cell (block_lt_of_cell HY.out.2.2)).trans HY.out.2.2⟩)
  have HB1 := hid (HBW.out.trans (HR1.out.mono HBW.out.size))
  have x4 := HS1.out.cell 4
  have y4 := HY1.out.2.2
  go_wp2
  have x' := cell_regrown x4
  have y' := cell_regrown y4
  have d1 := fun d os => Calls.regrown_of (w := W1) (d := d) (os := os) (calls_below (l03At_any _ bs s _ (H41.out.stay (below_regrown W1 d os) (Nat.le_refl _)) n4))
  clear x4 y4
  refine wp_region_quiet_below mixed (by kernel_rfl) ?_
  repeat (go_big_quiet_step ((go_at_call 77; exact d1 _ _)))
  refine wpQuiet_nil ?_
  intro W2 hw'
  have HR2 := hid (show Below W1.heap.size W1 W2 by obtain ⟨⟨dq, osq⟩, hw''⟩ := hw'; subst hw''; exact below_regrown W1 dq osq)
  clear hw' x' y' d1
  have HS2 := hid (HS1.out.stay HR2.out)
  have H32 := hid (H31.out.stay HR2.out (Nat.le_refl _))
  have H42 := hid (H41.out.stay HR2.out (Nat.le_refl _))
  have HY2 := hid (show W2.cell? ⟨w.heap.size + 1, 1, none⟩ = some (.int .i64 t) ∧ W2.cell? ⟨w.heap.size + 1, 3, none⟩ = some (.int .i64 5) ∧ W2.cell? ⟨w.heap.size + 1, 4, none⟩ = some (.string s) from ⟨(HR2.out.cell (block_lt_of_cell HY1.out.1)).trans HY1.out.1, (HR2.out.cell (block_lt_of_cell HY1.out.2.1)).trans HY1.out.2.1, (HR2.out.cell (block_lt_of_cell HY1.out.2.2)).trans HY1.out.2.2⟩)
  have HB2 := hid (HB1.out.trans (HR2.out.mono HB1.out.size))
  have y1 := HY2.out.1
  have y3 := HY2.out.2.1
  have x0 : W2.cell? ⟨B, 0, none⟩ = some (.int .i64 st) := HS2.out.cell 0
  have x3 : W2.cell? ⟨B, 3, none⟩ = some (.slice a3 wt.length k3) := HS2.out.cell 3
  have x4 : W2.cell? ⟨B, 4, none⟩ = some (.slice a4 bs.length k4) := HS2.out.cell 4
  have x2 : W2.cell? ⟨B, 2, none⟩ = some (.int .i64 la) := HS2.out.cell 2
  have x6 : W2.cell? ⟨B, 6, none⟩ = some (.int .i64 fa) := HS2.out.cell 6
  have z := HS2.out.frozen
  generalize atI bs s = ib at *
  generalize atI wt s = iw at *
  have hm' : ¬ ib < 0 := by omega
  clear hm
  go_wp2
  go_ret
  exact ⟨rfl, HB2.out⟩
set_option maxRecDepth 100000 in
set_option maxHeartbeats 4000000 in
theorem l03Do_fault_yes (a1 a2 a3 a4 : Option Addr) (k1 k2 k3 k4 B : Nat) (ss : List ByteArray) (fs : List Pr) (st bg la fa q t r : Int) (wt bs : List ByteArray) (v5 : Value) (s v : ByteArray) (w : World) (hS : SaB w B st bg la (.slice a3 wt.length k3) (.slice a4 bs.length k4) v5 fa) (h3 : StrSl w (.slice a3 wt.length k3) wt) (h4 : StrSl w (.slice a4 bs.length k4) bs) (n3 : wt.length ≤ maxLen) (n4 : bs.length ≤ maxLen) (hm : 0 ≤ atI bs s) (hf : fa < 1000000) (hf0 : 0 ≤ fa) :
    Calls Tryz.prog 80 #[.agg #[.slice a1 ss.length k1, .slice a2 fs.length k2], .pointer (some ⟨B, 0, none⟩), .agg #[.int .i64 q, .int .i64 t, .int .i64 r, .int .i64 5, .string s, .string v]] w fun e w' => e = .returned (.int .i64 0) ∧ SaB w' B st bg t (.slice a3 wt.length k3) (.slice a4 bs.length k4) v5 (fa + 1) ∧ Chg (fun j => j = B) w w' := by
  have mixed : Tryz.prog.follows .mixedOrders = true := by kernel_rfl
  have hbW : Below w.heap.size w ((w.alloc (.cells #[.slice a1 ss.length k1, .slice a2 fs.length k2] 26)).alloc (.cells #[.int .i64 q, .int .i64 t, .int .i64 r, .int .i64 5, .string s, .string v] 33)) := below2 _ _ _
  have HS := hid (hS.stay hbW)
  have H3 := hid (h3.stay hbW (Nat.le_refl _))
  have H4 := hid (h4.stay hbW (Nat.le_refl _))
  have y1 : ((w.alloc (.cells #[.slice a1 ss.length k1, .slice a2 fs.length k2] 26)).alloc (.cells #[.int .i64 q, .int .i64 t, .int .i64 r, .int .i64 5, .string s, .string v] 33)).cell? ⟨w.heap.size + 1, 1, none⟩ = some (.int .i64 t) := by simp [go_sem]
  have y3 : ((w.alloc (.cells #[.slice a1 ss.length k1, .slice a2 fs.length k2] 26)).alloc (.cells #[.int .i64 q, .int .i64 t, .int .i64 r, .int .i64 5, .string s, .string v] 33)).cell? ⟨w.heap.size + 1, 3, none⟩ = some (.int .i64 5) := by simp [go_sem]
  have y4 : ((w.alloc (.cells #[.slice a1 ss.length k1, .slice a2 fs.length k2] 26)).alloc (.cells #[.int .i64 q, .int .i64 t, .int .i64 r, .int .i64 5, .string s, .string v] 33)).cell? ⟨w.heap.size + 1, 4, none⟩ = some (.string s) := by simp [go_sem]
  have HY := hid (And.intro y1 (And.intro y3 y4))
  have hne : ¬ w.heap.size + 1 = B := by have := hS.lt; omega
  have hne2 : ¬ B = w.heap.size + 1 := by omega
  have HBW := hid hbW
  clear h3 h4 hS hbW y1 y3 y4
  go_enter Tryz.func80, Tryz.ntmps80
  go_wp2
  generalize ((w.alloc (.cells #[.slice a1 ss.length k1, .slice a2 fs.length k2] 26)).alloc (.cells #[.int .i64 q, .int .i64 t, .int .i64 r, .int .i64 5, .string s, .string v] 33)) = W at *
  have x3 := HS.out.cell 3
  have y4 := HY.out.2.2
  skip
  have x' := cell_regrown x3
  have y' := cell_regrown y4
  have d1 := fun d os => Calls.regrown_of (w := W) (d := d) (os := os) (calls_below (l03At_any _ wt s _ (H3.out.stay (below_regrown W d os) (Nat.le_refl _)) n3))
  clear x3 y4
  refine wp_region_quiet_below mixed (by kernel_rfl) ?_
  repeat (go_big_quiet_step ((go_at_call 77; exact d1 _ _)))
  refine wpQuiet_nil ?_
  intro W1 hw'
  have HR1 := hid (show Below W.heap.size W W1 by obtain ⟨⟨dq, osq⟩, hw''⟩ := hw'; subst hw''; exact below_regrown W dq osq)
  clear hw' x' y' d1
  have HS1 := hid (HS.out.stay HR1.out)
  have H31 := hid (H3.out.stay HR1.out (Nat.le_refl _))
  have H41 := hid (H4.out.stay HR1.out (Nat.le_refl _))
  have HY1 := hid (show W1.cell? ⟨w.heap.size + 1, 1, none⟩ = some (.int .i64 t) ∧ W1.cell? ⟨w.heap.size + 1, 3, none⟩ = some (.int .i64 5) ∧ W1.cell? ⟨w.heap.size + 1, 4, none⟩ = some (.string s) from ⟨(HR1.out.cell (block_lt_of_cell HY.out.1)).trans HY.out.1, (HR1.out.cell (block_lt_of_cell HY.out.2.1)).trans HY.out.2.1, (HR1.out.cell (block_lt_of_cell HY.out.2.2)).trans HY.out.2.2⟩)
  have HB1 := hid (HBW.out.trans (HR1.out.mono HBW.out.size))
  have x4 := HS1.out.cell 4
  have y4 := HY1.out.2.2
  go_wp2
  have x' := cell_regrown x4
  have y' := cell_regrown y4
  have d1 := fun d os => Calls.regrown_of (w := W1) (d := d) (os := os) (calls_below (l03At_any _ bs s _ (H41.out.stay (below_regrown W1 d os) (Nat.le_refl _)) n4))
  clear x4 y4
  refine wp_region_quiet_below mixed (by kernel_rfl) ?_
  repeat (go_big_quiet_step ((go_at_call 77; exact d1 _ _)))
  refine wpQuiet_nil ?_
  intro W2 hw'
  have HR2 := hid (show Below W1.heap.size W1 W2 by obtain ⟨⟨dq, osq⟩, hw''⟩ := hw'; subst hw''; exact below_regrown W1 dq osq)
  clear hw' x' y' d1
  have HS2 := hid (HS1.out.stay HR2.out)
  have H32 := hid (H31.out.stay HR2.out (Nat.le_refl _))
  have H42 := hid (H41.out.stay HR2.out (Nat.le_refl _))
  have HY2 := hid (show W2.cell? ⟨w.heap.size + 1, 1, none⟩ = some (.int .i64 t) ∧ W2.cell? ⟨w.heap.size + 1, 3, none⟩ = some (.int .i64 5) ∧ W2.cell? ⟨w.heap.size + 1, 4, none⟩ = some (.string s) from ⟨(HR2.out.cell (block_lt_of_cell HY1.out.1)).trans HY1.out.1, (HR2.out.cell (block_lt_of_cell HY1.out.2.1)).trans HY1.out.2.1, (HR2.out.cell (block_lt_of_cell HY1.out.2.2)).trans HY1.out.2.2⟩)
  have HB2 := hid (HB1.out.trans (HR2.out.mono HB1.out.size))
  have y1 := HY2.out.1
  have y3 := HY2.out.2.1
  have x0 : W2.cell? ⟨B, 0, none⟩ = some (.int .i64 st) := HS2.out.cell 0
  have x3 : W2.cell? ⟨B, 3, none⟩ = some (.slice a3 wt.length k3) := HS2.out.cell 3
  have x4 : W2.cell? ⟨B, 4, none⟩ = some (.slice a4 bs.length k4) := HS2.out.cell 4
  have x2 : W2.cell? ⟨B, 2, none⟩ = some (.int .i64 la) := HS2.out.cell 2
  have x6 : W2.cell? ⟨B, 6, none⟩ = some (.int .i64 fa) := HS2.out.cell 6
  have z := HS2.out.frozen
  generalize atI bs s = ib at *
  generalize atI wt s = iw at *
  have hm' : ¬ ib < 0 := by omega
  have hf' : ¬ 1000000 ≤ fa := by omega
  have hw : IntKind.i64.wrap (fa + 1) = fa + 1 := by rw [IntKind.wrap_i64]; omega
  clear hm
  go_wp2
  go_ret
  exact ⟨rfl, blk_set (HS2.out.set 6 (.int .i64 (fa + 1))) (.int .i64 t), ((Chg.of_below HB2.out).trans (chg_set _ B _ _)).trans (chg_set _ B _ _)⟩
set_option maxRecDepth 100000 in
set_option maxHeartbeats 4000000 in
theorem l03Do_end_no (a1 a2 a3 a4 : Option Addr) (k1 k2 k3 k4 B : Nat) (ss : List ByteArray) (fs : List Pr) (st bg la fa q t r : Int) (wt bs : List ByteArray) (v5 : Value) (s v : ByteArray) (w : World) (hS : SaB w B st bg la (.slice a3 wt.length k3) (.slice a4 bs.length k4) v5 fa) (h3 : StrSl w (.slice a3 wt.length k3) wt) (h4 : StrSl w (.slice a4 bs.length k4) bs) (n3 : wt.length ≤ maxLen) (n4 : bs.length ≤ maxLen) (hm : decide (0 < (wt.length : Int) + (bs.length : Int)) = true) (m3 : wt.length ≤ 1048576) (m4 : bs.length ≤ 1048576) :
    Calls Tryz.prog 80 #[.agg #[.slice a1 ss.length k1, .slice a2 fs.length k2], .pointer (some ⟨B, 0, none⟩), .agg #[.int .i64 q, .int .i64 t, .int .i64 r, .int .i64 6, .string s, .string v]] w fun e w' => e = .returned (.int .i64 10) ∧ Below w.heap.size w w' := by
  have mixed : Tryz.prog.follows .mixedOrders = true := by kernel_rfl
  have hbW : Below w.heap.size w ((w.alloc (.cells #[.slice a1 ss.length k1, .slice a2 fs.length k2] 26)).alloc (.cells #[.int .i64 q, .int .i64 t, .int .i64 r, .int .i64 6, .string s, .string v] 33)) := below2 _ _ _
  have HS := hid (hS.stay hbW)
  have H3 := hid (h3.stay hbW (Nat.le_refl _))
  have H4 := hid (h4.stay hbW (Nat.le_refl _))
  have y1 : ((w.alloc (.cells #[.slice a1 ss.length k1, .slice a2 fs.length k2] 26)).alloc (.cells #[.int .i64 q, .int .i64 t, .int .i64 r, .int .i64 6, .string s, .string v] 33)).cell? ⟨w.heap.size + 1, 1, none⟩ = some (.int .i64 t) := by simp [go_sem]
  have y3 : ((w.alloc (.cells #[.slice a1 ss.length k1, .slice a2 fs.length k2] 26)).alloc (.cells #[.int .i64 q, .int .i64 t, .int .i64 r, .int .i64 6, .string s, .string v] 33)).cell? ⟨w.heap.size + 1, 3, none⟩ = some (.int .i64 6) := by simp [go_sem]
  have y4 : ((w.alloc (.cells #[.slice a1 ss.length k1, .slice a2 fs.length k2] 26)).alloc (.cells #[.int .i64 q, .int .i64 t, .int .i64 r, .int .i64 6, .string s, .string v] 33)).cell? ⟨w.heap.size + 1, 4, none⟩ = some (.string s) := by simp [go_sem]
  have HY := hid (And.intro y1 (And.intro y3 y4))
  have hne : ¬ w.heap.size + 1 = B := by have := hS.lt; omega
  have hne2 : ¬ B = w.heap.size + 1 := by omega
  have HBW := hid hbW
  clear h3 h4 hS hbW y1 y3 y4
  go_enter Tryz.func80, Tryz.ntmps80
  go_wp2
  generalize ((w.alloc (.cells #[.slice a1 ss.length k1, .slice a2 fs.length k2] 26)).alloc (.cells #[.int .i64 q, .int .i64 t, .int .i64 r, .int .i64 6, .string s, .string v] 33)) = W at *
  have x3 := HS.out.cell 3
  have y4 := HY.out.2.2
  skip
  have x' := cell_regrown x3
  have y' := cell_regrown y4
  have d1 := fun d os => Calls.regrown_of (w := W) (d := d) (os := os) (calls_below (l03At_any _ wt s _ (H3.out.stay (below_regrown W d os) (Nat.le_refl _)) n3))
  clear x3 y4
  refine wp_region_quiet_below mixed (by kernel_rfl) ?_
  repeat (go_big_quiet_step ((go_at_call 77; exact d1 _ _)))
  refine wpQuiet_nil ?_
  intro W1 hw'
  have HR1 := hid (show Below W.heap.size W W1 by obtain ⟨⟨dq, osq⟩, hw''⟩ := hw'; subst hw''; exact below_regrown W dq osq)
  clear hw' x' y' d1
  have HS1 := hid (HS.out.stay HR1.out)
  have H31 := hid (H3.out.stay HR1.out (Nat.le_refl _))
  have H41 := hid (H4.out.stay HR1.out (Nat.le_refl _))
  have HY1 := hid (show W1.cell? ⟨w.heap.size + 1, 1, none⟩ = some (.int .i64 t) ∧ W1.cell? ⟨w.heap.size + 1, 3, none⟩ = some (.int .i64 6) ∧ W1.cell? ⟨w.heap.size + 1, 4, none⟩ = some (.string s) from ⟨(HR1.out.cell (block_lt_of_cell HY.out.1)).trans HY.out.1, (HR1.out.cell (block_lt_of_cell HY.out.2.1)).trans HY.out.2.1, (HR1.out.cell (block_lt_of_cell HY.out.2.2)).trans HY.out.2.2⟩)
  have HB1 := hid (HBW.out.trans (HR1.out.mono HBW.out.size))
  have x4 := HS1.out.cell 4
  have y4 := HY1.out.2.2
  go_wp2
  have x' := cell_regrown x4
  have y' := cell_regrown y4
  have d1 := fun d os => Calls.regrown_of (w := W1) (d := d) (os := os) (calls_below (l03At_any _ bs s _ (H41.out.stay (below_regrown W1 d os) (Nat.le_refl _)) n4))
  clear x4 y4
  refine wp_region_quiet_below mixed (by kernel_rfl) ?_
  repeat (go_big_quiet_step ((go_at_call 77; exact d1 _ _)))
  refine wpQuiet_nil ?_
  intro W2 hw'
  have HR2 := hid (show Below W1.heap.size W1 W2 by obtain ⟨⟨dq, osq⟩, hw''⟩ := hw'; subst hw''; exact below_regrown W1 dq osq)
  clear hw' x' y' d1
  have HS2 := hid (HS1.out.stay HR2.out)
  have H32 := hid (H31.out.stay HR2.out (Nat.le_refl _))
  have H42 := hid (H41.out.stay HR2.out (Nat.le_refl _))
  have HY2 := hid (show W2.cell? ⟨w.heap.size + 1, 1, none⟩ = some (.int .i64 t) ∧ W2.cell? ⟨w.heap.size + 1, 3, none⟩ = some (.int .i64 6) ∧ W2.cell? ⟨w.heap.size + 1, 4, none⟩ = some (.string s) from ⟨(HR2.out.cell (block_lt_of_cell HY1.out.1)).trans HY1.out.1, (HR2.out.cell (block_lt_of_cell HY1.out.2.1)).trans HY1.out.2.1, (HR2.out.cell (block_lt_of_cell HY1.out.2.2)).trans HY1.out.2.2⟩)
  have HB2 := hid (HB1.out.trans (HR2.out.mono HB1.out.size))
  have y1 := HY2.out.1
  have y3 := HY2.out.2.1
  have x0 : W2.cell? ⟨B, 0, none⟩ = some (.int .i64 st) := HS2.out.cell 0
  have x3 : W2.cell? ⟨B, 3, none⟩ = some (.slice a3 wt.length k3) := HS2.out.cell 3
  have x4 : W2.cell? ⟨B, 4, none⟩ = some (.slice a4 bs.length k4) := HS2.out.cell 4
  have x2 : W2.cell? ⟨B, 2, none⟩ = some (.int .i64 la) := HS2.out.cell 2
  have x6 : W2.cell? ⟨B, 6, none⟩ = some (.int .i64 fa) := HS2.out.cell 6
  have z := HS2.out.frozen
  generalize atI bs s = ib at *
  generalize atI wt s = iw at *
  have hw : IntKind.i64.wrap ((wt.length : Int) + (bs.length : Int)) = (wt.length : Int) + (bs.length : Int) := by rw [IntKind.wrap_i64]; omega
  go_wp2
  have p3 := cell_regrown x3
  have p4 := cell_regrown x4
  clear x0 x2 x3 x4 x6 z
  refine wp_region_quiet_below mixed (by kernel_rfl) ?_
  repeat (go_big_quiet_step (fail))
  refine wpQuiet_nil ?_
  intro W3 hw'
  have HR3 := hid (show Below W2.heap.size W2 W3 by obtain ⟨⟨dq, osq⟩, hw''⟩ := hw'; subst hw''; exact below_regrown W2 dq osq)
  clear hw' p3 p4 y1 y3
  have HS3 := hid (HS2.out.stay HR3.out)
  have HB3 := hid (HB2.out.trans (HR3.out.mono HB2.out.size))
  have y1 := (HR3.out.cell (block_lt_of_cell HY2.out.1)).trans HY2.out.1
  have x0 : W3.cell? ⟨B, 0, none⟩ = some (.int .i64 st) := HS3.out.cell 0
  have x2 : W3.cell? ⟨B, 2, none⟩ = some (.int .i64 la) := HS3.out.cell 2
  have z := HS3.out.frozen
  go_wp2
  go_ret
  exact ⟨rfl, HB3.out⟩
set_option maxRecDepth 100000 in
set_option maxHeartbeats 4000000 in
theorem l03Do_end_yes (a1 a2 a3 a4 : Option Addr) (k1 k2 k3 k4 B : Nat) (ss : List ByteArray) (fs : List Pr) (st bg la fa q t r : Int) (wt bs : List ByteArray) (v5 : Value) (s v : ByteArray) (w : World) (hS : SaB w B st bg la (.slice a3 wt.length k3) (.slice a4 bs.length k4) v5 fa) (h3 : StrSl w (.slice a3 wt.length k3) wt) (h4 : StrSl w (.slice a4 bs.length k4) bs) (n3 : wt.length ≤ maxLen) (n4 : bs.length ≤ maxLen) (hm : decide (0 < (wt.length : Int) + (bs.length : Int)) = false) (m3 : wt.length ≤ 1048576) (m4 : bs.length ≤ 1048576) :
    Calls Tryz.prog 80 #[.agg #[.slice a1 ss.length k1, .slice a2 fs.length k2], .pointer (some ⟨B, 0, none⟩), .agg #[.int .i64 q, .int .i64 t, .int .i64 r, .int .i64 6, .string s, .string v]] w fun e w' => e = .returned (.int .i64 0) ∧ SaB w' B 2 bg t (.slice a3 wt.length k3) (.slice a4 bs.length k4) v5 fa ∧ Chg (fun j => j = B) w w' := by
  have mixed : Tryz.prog.follows .mixedOrders = true := by kernel_rfl
  have hbW : Below w.heap.size w ((w.alloc (.cells #[.slice a1 ss.length k1, .slice a2 fs.length k2] 26)).alloc (.cells #[.int .i64 q, .int .i64 t, .int .i64 r, .int .i64 6, .string s, .string v] 33)) := below2 _ _ _
  have HS := hid (hS.stay hbW)
  have H3 := hid (h3.stay hbW (Nat.le_refl _))
  have H4 := hid (h4.stay hbW (Nat.le_refl _))
  have y1 : ((w.alloc (.cells #[.slice a1 ss.length k1, .slice a2 fs.length k2] 26)).alloc (.cells #[.int .i64 q, .int .i64 t, .int .i64 r, .int .i64 6, .string s, .string v] 33)).cell? ⟨w.heap.size + 1, 1, none⟩ = some (.int .i64 t) := by simp [go_sem]
  have y3 : ((w.alloc (.cells #[.slice a1 ss.length k1, .slice a2 fs.length k2] 26)).alloc (.cells #[.int .i64 q, .int .i64 t, .int .i64 r, .int .i64 6, .string s, .string v] 33)).cell? ⟨w.heap.size + 1, 3, none⟩ = some (.int .i64 6) := by simp [go_sem]
  have y4 : ((w.alloc (.cells #[.slice a1 ss.length k1, .slice a2 fs.length k2] 26)).alloc (.cells #[.int .i64 q, .int .i64 t, .int .i64 r, .int .i64 6, .string s, .string v] 33)).cell? ⟨w.heap.size + 1, 4, none⟩ = some (.string s) := by simp [go_sem]
  have HY := hid (And.intro y1 (And.intro y3 y4))
  have hne : ¬ w.heap.size + 1 = B := by have := hS.lt; omega
  have hne2 : ¬ B = w.heap.size + 1 := by omega
  have HBW := hid hbW
  clear h3 h4 hS hbW y1 y3 y4
  go_enter Tryz.func80, Tryz.ntmps80
  go_wp2
  generalize ((w.alloc (.cells #[.slice a1 ss.length k1, .slice a2 fs.length k2] 26)).alloc (.cells #[.int .i64 q, .int .i64 t, .int .i64 r, .int .i64 6, .string s, .string v] 33)) = W at *
  have x3 := HS.out.cell 3
  have y4 := HY.out.2.2
  skip
  have x' := cell_regrown x3
  have y' := cell_regrown y4
  have d1 := fun d os => Calls.regrown_of (w := W) (d := d) (os := os) (calls_below (l03At_any _ wt s _ (H3.out.stay (below_regrown W d os) (Nat.le_refl _)) n3))
  clear x3 y4
  refine wp_region_quiet_below mixed (by kernel_rfl) ?_
  repeat (go_big_quiet_step ((go_at_call 77; exact d1 _ _)))
  refine wpQuiet_nil ?_
  intro W1 hw'
  have HR1 := hid (show Below W.heap.size W W1 by obtain ⟨⟨dq, osq⟩, hw''⟩ := hw'; subst hw''; exact below_regrown W dq osq)
  clear hw' x' y' d1
  have HS1 := hid (HS.out.stay HR1.out)
  have H31 := hid (H3.out.stay HR1.out (Nat.le_refl _))
  have H41 := hid (H4.out.stay HR1.out (Nat.le_refl _))
  have HY1 := hid (show W1.cell? ⟨w.heap.size + 1, 1, none⟩ = some (.int .i64 t) ∧ W1.cell? ⟨w.heap.size + 1, 3, none⟩ = some (.int .i64 6) ∧ W1.cell? ⟨w.heap.size + 1, 4, none⟩ = some (.string s) from ⟨(HR1.out.cell (block_lt_of_cell HY.out.1)).trans HY.out.1, (HR1.out.cell (block_lt_of_cell HY.out.2.1)).trans HY.out.2.1, (HR1.out.cell (block_lt_of_cell HY.out.2.2)).trans HY.out.2.2⟩)
  have HB1 := hid (HBW.out.trans (HR1.out.mono HBW.out.size))
  have x4 := HS1.out.cell 4
  have y4 := HY1.out.2.2
  go_wp2
  have x' := cell_regrown x4
  have y' := cell_regrown y4
  have d1 := fun d os => Calls.regrown_of (w := W1) (d := d) (os := os) (calls_below (l03At_any _ bs s _ (H41.out.stay (below_regrown W1 d os) (Nat.le_refl _)) n4))
  clear x4 y4
  refine wp_region_quiet_below mixed (by kernel_rfl) ?_
  repeat (go_big_quiet_step ((go_at_call 77; exact d1 _ _)))
  refine wpQuiet_nil ?_
  intro W2 hw'
  have HR2 := hid (show Below W1.heap.size W1 W2 by obtain ⟨⟨dq, osq⟩, hw''⟩ := hw'; subst hw''; exact below_regrown W1 dq osq)
  clear hw' x' y' d1
  have HS2 := hid (HS1.out.stay HR2.out)
  have H32 := hid (H31.out.stay HR2.out (Nat.le_refl _))
  have H42 := hid (H41.out.stay HR2.out (Nat.le_refl _))
  have HY2 := hid (show W2.cell? ⟨w.heap.size + 1, 1, none⟩ = some (.int .i64 t) ∧ W2.cell? ⟨w.heap.size + 1, 3, none⟩ = some (.int .i64 6) ∧ W2.cell? ⟨w.heap.size + 1, 4, none⟩ = some (.string s) from ⟨(HR2.out.cell (block_lt_of_cell HY1.out.1)).trans HY1.out.1, (HR2.out.cell (block_lt_of_cell HY1.out.2.1)).trans HY1.out.2.1, (HR2.out.cell (block_lt_of_cell HY1.out.2.2)).trans HY1.out.2.2⟩)
  have HB2 := hid (HB1.out.trans (HR2.out.mono HB1.out.size))
  have y1 := HY2.out.1
  have y3 := HY2.out.2.1
  have x0 : W2.cell? ⟨B, 0, none⟩ = some (.int .i64 st) := HS2.out.cell 0
  have x3 : W2.cell? ⟨B, 3, none⟩ = some (.slice a3 wt.length k3) := HS2.out.cell 3
  have x4 : W2.cell? ⟨B, 4, none⟩ = some (.slice a4 bs.length k4) := HS2.out.cell 4
  have x2 : W2.cell? ⟨B, 2, none⟩ = some (.int .i64 la) := HS2.out.cell 2
  have x6 : W2.cell? ⟨B, 6, none⟩ = some (.int .i64 fa) := HS2.out.cell 6
  have z := HS2.out.frozen
  generalize atI bs s = ib at *
  generalize atI wt s = iw at *
  have hw : IntKind.i64.wrap ((wt.length : Int) + (bs.length : Int)) = (wt.length : Int) + (bs.length : Int) := by rw [IntKind.wrap_i64]; omega
  go_wp2
  have p3 := cell_regrown x3
  have p4 := cell_regrown x4
  clear x0 x2 x3 x4 x6 z
  refine wp_region_quiet_below mixed (by kernel_rfl) ?_
  repeat (go_big_quiet_step (fail))
  refine wpQuiet_nil ?_
  intro W3 hw'
  have HR3 := hid (show Below W2.heap.size W2 W3 by obtain ⟨⟨dq, osq⟩, hw''⟩ := hw'; subst hw''; exact below_regrown W2 dq osq)
  clear hw' p3 p4 y1 y3
  have HS3 := hid (HS2.out.stay HR3.out)
  have HB3 := hid (HB2.out.trans (HR3.out.mono HB2.out.size))
  have y1 := (HR3.out.cell (block_lt_of_cell HY2.out.1)).trans HY2.out.1
  have x0 : W3.cell? ⟨B, 0, none⟩ = some (.int .i64 st) := HS3.out.cell 0
  have x2 : W3.cell? ⟨B, 2, none⟩ = some (.int .i64 la) := HS3.out.cell 2
  have z := HS3.out.frozen
  go_wp2
  go_ret
  exact ⟨rfl, blk_set (HS3.out.set 0 (.int .i64 2)) (.int .i64 t), ((Chg.of_below HB3.out).trans (chg_set _ B _ _)).trans (chg_set _ B _ _)⟩
set_option maxRecDepth 100000 in
set_option maxHeartbeats 4000000 in
theorem l03Do_enter_none (a1 a2 a3 a4 : Option Addr) (k1 k2 k3 k4 B : Nat) (ss : List ByteArray) (fs : List Pr) (st bg la fa q t r : Int) (wt bs : List ByteArray) (v5 : Value) (s v : ByteArray) (w : World) (hS : SaB w B st bg la (.slice a3 wt.length k3) (.slice a4 bs.length k4) v5 fa) (h3 : StrSl w (.slice a3 wt.length k3) wt) (h4 : StrSl w (.slice a4 bs.length k4) bs) (n3 : wt.length ≤ maxLen) (n4 : bs.length ≤ maxLen) (hm : atI wt s < 0) :
    Calls Tryz.prog 80 #[.agg #[.slice a1 ss.length k1, .slice a2 fs.length k2], .pointer (some ⟨B, 0, none⟩), .agg #[.int .i64 q, .int .i64 t, .int .i64 r, .int .i64 2, .string s, .string v]] w fun e w' => e = .returned (.int .i64 6) ∧ Below w.heap.size w w' := by
  have mixed : Tryz.prog.follows .mixedOrders = true := by kernel_rfl
  have hbW : Below w.heap.size w ((w.alloc (.cells #[.slice a1 ss.length k1, .slice a2 fs.length k2] 26)).alloc (.cells #[.int .i64 q, .int .i64 t, .int .i64 r, .int .i64 2, .string s, .string v] 33)) := below2 _ _ _
  have HS := hid (hS.stay hbW)
  have H3 := hid (h3.stay hbW (Nat.le_refl _))
  have H4 := hid (h4.stay hbW (Nat.le_refl _))
  have y1 : ((w.alloc (.cells #[.slice a1 ss.length k1, .slice a2 fs.length k2] 26)).alloc (.cells #[.int .i64 q, .int .i64 t, .int .i64 r, .int .i64 2, .string s, .string v] 33)).cell? ⟨w.heap.size + 1, 1, none⟩ = some (.int .i64 t) := by simp [go_sem]
  have y3 : ((w.alloc (.cells #[.slice a1 ss.length k1, .slice a2 fs.length k2] 26)).alloc (.cells #[.int .i64 q, .int .i64 t, .int .i64 r, .int .i64 2, .string s, .string v] 33)).cell? ⟨w.heap.size + 1, 3, none⟩ = some (.int .i64 2) := by simp [go_sem]
  have y4 : ((w.alloc (.cells #[.slice a1 ss.length k1, .slice a2 fs.length k2] 26)).alloc (.cells #[.int .i64 q, .int .i64 t, .int .i64 r, .int .i64 2, .string s, .string v] 33)).cell? ⟨w.heap.size + 1, 4, none⟩ = some (.string s) := by simp [go_sem]
  have HY := hid (And.intro y1 (And.intro y3 y4))
  have hne : ¬ w.heap.size + 1 = B := by have := hS.lt; omega
  have hne2 : ¬ B = w.heap.size + 1 := by omega
  have HBW := hid hbW
  clear h3 h4 hS hbW y1 y3 y4
  go_enter Tryz.func80, Tryz.ntmps80
  go_wp2
  generalize ((w.alloc (.cells #[.slice a1 ss.length k1, .slice a2 fs.length k2] 26)).alloc (.cells #[.int .i64 q, .int .i64 t, .int .i64 r, .int .i64 2, .string s, .string v] 33)) = W at *
  have x3 := HS.out.cell 3
  have y4 := HY.out.2.2
  skip
  have x' := cell_regrown x3
  have y' := cell_regrown y4
  have d1 := fun d os => Calls.regrown_of (w := W) (d := d) (os := os) (calls_below (l03At_any _ wt s _ (H3.out.stay (below_regrown W d os) (Nat.le_refl _)) n3))
  clear x3 y4
  refine wp_region_quiet_below mixed (by kernel_rfl) ?_
  repeat (go_big_quiet_step ((go_at_call 77; exact d1 _ _)))
  refine wpQuiet_nil ?_
  intro W1 hw'
  have HR1 := hid (show Below W.heap.size W W1 by obtain ⟨⟨dq, osq⟩, hw''⟩ := hw'; subst hw''; exact below_regrown W dq osq)
  clear hw' x' y' d1
  have HS1 := hid (HS.out.stay HR1.out)
  have H31 := hid (H3.out.stay HR1.out (Nat.le_refl _))
  have H41 := hid (H4.out.stay HR1.out (Nat.le_refl _))
  have HY1 := hid (show W1.cell? ⟨w.heap.size + 1, 1, none⟩ = some (.int .i64 t) ∧ W1.cell? ⟨w.heap.size + 1, 3, none⟩ = some (.int .i64 2) ∧ W1.cell? ⟨w.heap.size + 1, 4, none⟩ = some (.string s) from ⟨(HR1.out.cell (block_lt_of_cell HY.out.1)).trans HY.out.1, (HR1.out.cell (block_lt_of_cell HY.out.2.1)).trans HY.out.2.1, (HR1.out.cell (block_lt_of_cell HY.out.2.2)).trans HY.out.2.2⟩)
  have HB1 := hid (HBW.out.trans (HR1.out.mono HBW.out.size))
  have x4 := HS1.out.cell 4
  have y4 := HY1.out.2.2
  go_wp2
  have x' := cell_regrown x4
  have y' := cell_regrown y4
  have d1 := fun d os => Calls.regrown_of (w := W1) (d := d) (os := os) (calls_below (l03At_any _ bs s _ (H41.out.stay (below_regrown W1 d os) (Nat.le_refl _)) n4))
  clear x4 y4
  refine wp_region_quiet_below mixed (by kernel_rfl) ?_
  repeat (go_big_quiet_step ((go_at_call 77; exact d1 _ _)))
  refine wpQuiet_nil ?_
  intro W2 hw'
  have HR2 := hid (show Below W1.heap.size W1 W2 by obtain ⟨⟨dq, osq⟩, hw''⟩ := hw'; subst hw''; exact below_regrown W1 dq osq)
  clear hw' x' y' d1
  have HS2 := hid (HS1.out.stay HR2.out)
  have H32 := hid (H31.out.stay HR2.out (Nat.le_refl _))
  have H42 := hid (H41.out.stay HR2.out (Nat.le_refl _))
  have HY2 := hid (show W2.cell? ⟨w.heap.size + 1, 1, none⟩ = some (.int .i64 t) ∧ W2.cell? ⟨w.heap.size + 1, 3, none⟩ = some (.int .i64 2) ∧ W2.cell? ⟨w.heap.size + 1, 4, none⟩ = some (.string s) from ⟨(HR2.out.cell (block_lt_of_cell HY1.out.1)).trans HY1.out.1, (HR2.out.cell (block_lt_of_cell HY1.out.2.1)).trans HY1.out.2.1, (HR2.out.cell (block_lt_of_cell HY1.out.2.2)).trans HY1.out.2.2⟩)
  have HB2 := hid (HB1.out.trans (HR2.out.mono HB1.out.size))
  have y1 := HY2.out.1
  have y3 := HY2.out.2.1
  have x0 : W2.cell? ⟨B, 0, none⟩ = some (.int .i64 st) := HS2.out.cell 0
  have x3 : W2.cell? ⟨B, 3, none⟩ = some (.slice a3 wt.length k3) := HS2.out.cell 3
  have x4 : W2.cell? ⟨B, 4, none⟩ = some (.slice a4 bs.length k4) := HS2.out.cell 4
  have x2 : W2.cell? ⟨B, 2, none⟩ = some (.int .i64 la) := HS2.out.cell 2
  have x6 : W2.cell? ⟨B, 6, none⟩ = some (.int .i64 fa) := HS2.out.cell 6
  have z := HS2.out.frozen
  generalize atI bs s = ib at *
  generalize atI wt s = iw at *
  go_wp2
  go_ret
  exact ⟨rfl, HB2.out⟩
set_option maxRecDepth 100000 in
set_option maxHeartbeats 4000000 in
theorem l03Do_leave_none (a1 a2 a3 a4 : Option Addr) (k1 k2 k3 k4 B : Nat) (ss : List ByteArray) (fs : List Pr) (st bg la fa q t r : Int) (wt bs : List ByteArray) (v5 : Value) (s v : ByteArray) (w : World) (hS : SaB w B st bg la (.slice a3 wt.length k3) (.slice a4 bs.length k4) v5 fa) (h3 : StrSl w (.slice a3 wt.length k3) wt) (h4 : StrSl w (.slice a4 bs.length k4) bs) (n3 : wt.length ≤ maxLen) (n4 : bs.length ≤ maxLen) (hm : atI bs s < 0) :
    Calls Tryz.prog 80 #[.agg #[.slice a1 ss.length k1, .slice a2 fs.length k2], .pointer (some ⟨B, 0, none⟩), .agg #[.int .i64 q, .int .i64 t, .int .i64 r, .int .i64 3, .string s, .string v]] w fun e w' => e = .returned (.int .i64 6) ∧ Below w.heap.size w w' := by
  have mixed : Tryz.prog.follows .mixedOrders = true := by kernel_rfl
  have hbW : Below w.heap.size w ((w.alloc (.cells #[.slice a1 ss.length k1, .slice a2 fs.length k2] 26)).alloc (.cells #[.int .i64 q, .int .i64 t, .int .i64 r, .int .i64 3, .string s, .string v] 33)) := below2 _ _ _
  have HS := hid (hS.stay hbW)
  have H3 := hid (h3.stay hbW (Nat.le_refl _))
  have H4 := hid (h4.stay hbW (Nat.le_refl _))
  have y1 : ((w.alloc (.cells #[.slice a1 ss.length k1, .slice a2 fs.length k2] 26)).alloc (.cells #[.int .i64 q, .int .i64 t, .int .i64 r, .int .i64 3, .string s, .string v] 33)).cell? ⟨w.heap.size + 1, 1, none⟩ = some (.int .i64 t) := by simp [go_sem]
  have y3 : ((w.alloc (.cells #[.slice a1 ss.length k1, .slice a2 fs.length k2] 26)).alloc (.cells #[.int .i64 q, .int .i64 t, .int .i64 r, .int .i64 3, .string s, .string v] 33)).cell? ⟨w.heap.size + 1, 3, none⟩ = some (.int .i64 3) := by simp [go_sem]
  have y4 : ((w.alloc (.cells #[.slice a1 ss.length k1, .slice a2 fs.length k2] 26)).alloc (.cells #[.int .i64 q, .int .i64 t, .int .i64 r, .int .i64 3, .string s, .string v] 33)).cell? ⟨w.heap.size + 1, 4, none⟩ = some (.string s) := by simp [go_sem]
  have HY := hid (And.intro y1 (And.intro y3 y4))
  have hne : ¬ w.heap.size + 1 = B := by have := hS.lt; omega
  have hne2 : ¬ B = w.heap.size + 1 := by omega
  have HBW := hid hbW
  clear h3 h4 hS hbW y1 y3 y4
  go_enter Tryz.func80, Tryz.ntmps80
  go_wp2
  generalize ((w.alloc (.cells #[.slice a1 ss.length k1, .slice a2 fs.length k2] 26)).alloc (.cells #[.int .i64 q, .int .i64 t, .int .i64 r, .int .i64 3, .string s, .string v] 33)) = W at *
  have x3 := HS.out.cell 3
  have y4 := HY.out.2.2
  skip
  have x' := cell_regrown x3
  have y' := cell_regrown y4
  have d1 := fun d os => Calls.regrown_of (w := W) (d := d) (os := os) (calls_below (l03At_any _ wt s _ (H3.out.stay (below_regrown W d os) (Nat.le_refl _)) n3))
  clear x3 y4
  refine wp_region_quiet_below mixed (by kernel_rfl) ?_
  repeat (go_big_quiet_step ((go_at_call 77; exact d1 _ _)))
  refine wpQuiet_nil ?_
  intro W1 hw'
  have HR1 := hid (show Below W.heap.size W W1 by obtain ⟨⟨dq, osq⟩, hw''⟩ := hw'; subst hw''; exact below_regrown W dq osq)
  clear hw' x' y' d1
  have HS1 := hid (HS.out.stay HR1.out)
  have H31 := hid (H3.out.stay HR1.out (Nat.le_refl _))
  have H41 := hid (H4.out.stay HR1.out (Nat.le_refl _))
  have HY1 := hid (show W1.cell? ⟨w.heap.size + 1, 1, none⟩ = some (.int .i64 t) ∧ W1.cell? ⟨w.heap.size + 1, 3, none⟩ = some (.int .i64 3) ∧ W1.cell? ⟨w.heap.size + 1, 4, none⟩ = some (.string s) from ⟨(HR1.out.cell (block_lt_of_cell HY.out.1)).trans HY.out.1, (HR1.out.cell (block_lt_of_cell HY.out.2.1)).trans HY.out.2.1, (HR1.out.cell (block_lt_of_cell HY.out.2.2)).trans HY.out.2.2⟩)
  have HB1 := hid (HBW.out.trans (HR1.out.mono HBW.out.size))
  have x4 := HS1.out.cell 4
  have y4 := HY1.out.2.2
  go_wp2
  have x' := cell_regrown x4
  have y' := cell_regrown y4
  have d1 := fun d os => Calls.regrown_of (w := W1) (d := d) (os := os) (calls_below (l03At_any _ bs s _ (H41.out.stay (below_regrown W1 d os) (Nat.le_refl _)) n4))
  clear x4 y4
  refine wp_region_quiet_below mixed (by kernel_rfl) ?_
  repeat (go_big_quiet_step ((go_at_call 77; exact d1 _ _)))
  refine wpQuiet_nil ?_
  intro W2 hw'
  have HR2 := hid (show Below W1.heap.size W1 W2 by obtain ⟨⟨dq, osq⟩, hw''⟩ := hw'; subst hw''; exact below_regrown W1 dq osq)
  clear hw' x' y' d1
  have HS2 := hid (HS1.out.stay HR2.out)
  have H32 := hid (H31.out.stay HR2.out (Nat.le_refl _))
  have H42 := hid (H41.out.stay HR2.out (Nat.le_refl _))
  have HY2 := hid (show W2.cell? ⟨w.heap.size + 1, 1, none⟩ = some (.int .i64 t) ∧ W2.cell? ⟨w.heap.size + 1, 3, none⟩ = some (.int .i64 3) ∧ W2.cell? ⟨w.heap.size + 1, 4, none⟩ = some (.string s) from ⟨(HR2.out.cell (block_lt_of_cell HY1.out.1)).trans HY1.out.1, (HR2.out.cell (block_lt_of_cell HY1.out.2.1)).trans HY1.out.2.1, (HR2.out.cell (block_lt_of_cell HY1.out.2.2)).trans HY1.out.2.2⟩)
  have HB2 := hid (HB1.out.trans (HR2.out.mono HB1.out.size))
  have y1 := HY2.out.1
  have y3 := HY2.out.2.1
  have x0 : W2.cell? ⟨B, 0, none⟩ = some (.int .i64 st) := HS2.out.cell 0
  have x3 : W2.cell? ⟨B, 3, none⟩ = some (.slice a3 wt.length k3) := HS2.out.cell 3
  have x4 : W2.cell? ⟨B, 4, none⟩ = some (.slice a4 bs.length k4) := HS2.out.cell 4
  have x2 : W2.cell? ⟨B, 2, none⟩ = some (.int .i64 la) := HS2.out.cell 2
  have x6 : W2.cell? ⟨B, 6, none⟩ = some (.int .i64 fa) := HS2.out.cell 6
  have z := HS2.out.frozen
  generalize atI bs s = ib at *
  generalize atI wt s = iw at *
  go_wp2
  go_ret
  exact ⟨rfl, HB2.out⟩
end Go.Proofs.YthggcdadipjiiaaGreatDoor
