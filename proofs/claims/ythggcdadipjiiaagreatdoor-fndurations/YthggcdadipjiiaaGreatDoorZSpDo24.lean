/-
  Texts put together: SpDo2, SpPut2, OwnC, SpDo3.
-/
import Derived.Test.YthggcdadipjiiaaGreatDoorZSpDo1
import Derived.Test.YthggcdadipjiiaaGreatDoorZEvT5
import Derived.Test.YthggcdadipjiiaaGreatDoorZSpSet24
import Derived.Test.YthggcdadipjiiaaGreatDoorZGen4
import Derived.Test.YthggcdadipjiiaaGreatDoorZSpOut6
import Derived.Deep.RegionWith
/-
  What spec.l03Do does at a start: a contract over the seat's program. (Made by mkdo2.py.)
-/
namespace Go.Proofs.YthggcdadipjiiaaGreatDoor
open Go.RowKit Go.Sort

set_option maxRecDepth 100000 in
set_option maxHeartbeats 4000000 in
theorem l03Do_start (a1 a2 a3 a4 : Option Addr) (k1 k2 k3 k4 B : Nat) (ss : List ByteArray) (fs : List Pr) (st bg la fa q t r : Int) (wt bs : List ByteArray) (v5 : Value) (s v : ByteArray) (w : World) (hS : SaB w B st bg la (.slice a3 wt.length k3) (.slice a4 bs.length k4) v5 fa) (h3 : StrSl w (.slice a3 wt.length k3) wt) (h4 : StrSl w (.slice a4 bs.length k4) bs) (n3 : wt.length ≤ maxLen) (n4 : bs.length ≤ maxLen) (h1 : StrSl w (.slice a1 ss.length k1) ss) (h0 : 0 < ss.length) (hgne : ∀ g o, a1 = some ⟨g, o, none⟩ → ¬ g = B) :
    Calls Tryz.prog 80 #[.agg #[.slice a1 ss.length k1, .slice a2 fs.length k2], .pointer (some ⟨B, 0, none⟩), .agg #[.int .i64 q, .int .i64 t, .int .i64 r, .int .i64 1, .string s, .string v]] w fun e w' => ∃ g, e = .returned (.int .i64 0) ∧ SaB w' B 1 t t (.slice (some ⟨g, 0, none⟩) 1 1) (.slice a4 bs.length k4) v5 fa ∧ w'.ownsRow w.heap.size 9 1 (.slice (some ⟨g, 0, none⟩) 1 1) 1 [.string ss[0]] ∧ Chg (fun j => j = B) w w' := by
  have mixed : Tryz.prog.follows .mixedOrders = true := by kernel_rfl
  have hbW : Below w.heap.size w ((w.alloc (.cells #[.slice a1 ss.length k1, .slice a2 fs.length k2] 26)).alloc (.cells #[.int .i64 q, .int .i64 t, .int .i64 r, .int .i64 1, .string s, .string v] 33)) := below2 _ _ _
  have HS := hid (hS.stay hbW)
  have H3 := hid (h3.stay hbW (Nat.le_refl _))
  have H4 := hid (h4.stay hbW (Nat.le_refl _))
  have y1 : ((w.alloc (.cells #[.slice a1 ss.length k1, .slice a2 fs.length k2] 26)).alloc (.cells #[.int .i64 q, .int .i64 t, .int .i64 r, .int .i64 1, .string s, .string v] 33)).cell? ⟨w.heap.size + 1, 1, none⟩ = some (.int .i64 t) := by simp [go_sem]
  have y3 : ((w.alloc (.cells #[.slice a1 ss.length k1, .slice a2 fs.length k2] 26)).alloc (.cells #[.int .i64 q, .int .i64 t, .int .i64 r, .int .i64 1, .string s, .string v] 33)).cell? ⟨w.heap.size + 1, 3, none⟩ = some (.int .i64 1) := by simp [go_sem]
  have y4 : ((w.alloc (.cells #[.slice a1 ss.length k1, .slice a2 fs.length k2] 26)).alloc (.cells #[.int .i64 q, .int .i64 t, .int .i64 r, .int .i64 1, .string s, .string v] 33)).cell? ⟨w.heap.size + 1, 4, none⟩ = some (.string s) := by simp [go_sem]
  have HY := hid (And.intro y1 (And.intro y3 y4))
  have hne : ¬ w.heap.size + 1 = B := by have := hS.lt; omega
  have hne2 : ¬ B = w.heap.size + 1 := by omega
  have HU := hid (show ((w.alloc (.cells #[.slice a1 ss.length k1, .slice a2 fs.length k2] 26)).alloc (.cells #[.int .i64 q, .int .i64 t, .int .i64 r, .int .i64 1, .string s, .string v] 33)).cell? ⟨w.heap.size, 0, none⟩ = some (.slice a1 ss.length k1) by simp [go_sem])
  have H1 := hid (h1.stay hbW (Nat.le_refl _))
  have hne3 : ¬ w.heap.size = B := by have := hS.lt; omega
  have hne4 : ¬ B = w.heap.size := by omega
  have HBW := hid hbW
  clear h1 h3 h4 hS hbW y1 y3 y4
  go_enter Tryz.func80, Tryz.ntmps80
  go_wp2
  generalize ((w.alloc (.cells #[.slice a1 ss.length k1, .slice a2 fs.length k2] 26)).alloc (.cells #[.int .i64 q, .int .i64 t, .int .i64 r, .int .i64 1, .string s, .string v] 33)) = W at *
  have x3 := HS.out.cell 3
  have y4 := HY.out.2.2
  skip
  have x' := cell_regrown x3
  have y' := cell_regrown y4
  have d1 := fun d os => Calls.regrown_of (w := W) (d := d) (os := os) (calls_below (l03At_any _ wt s _ (H3.out.stay (below_regrown W d os) (Nat.le_refl _)) n3))
  clear x3 y4
  refine wp_region_quiet_below mixed (by kernel_rfl) ?_
  repeat (go_big_quiet_step ((go_at_call 77; exact d1 _ _)))
  refine wpQuiet_nil ?_
  intro W1 hw'
  have HR1 := hid (show Below W.heap.size W W1 by obtain ⟨⟨dq, osq⟩, hw''⟩ := hw'; subst hw''; exact below_regrown W dq osq)
  clear hw' x' y' d1
  have HS1 := hid (HS.out.stay HR1.out)
  have H11 := hid (H1.out.stay HR1.out (Nat.le_refl _))
  have HU1 := hid ((HR1.out.cell (block_lt_of_cell HU.out)).trans HU.out)
  have H31 := hid (H3.out.stay HR1.out (Nat.le_refl _))
  have H41 := hid (H4.out.stay HR1.out (Nat.le_refl _))
  have HY1 := hid (show W1.cell? ⟨w.heap.size + 1, 1, none⟩ = some (.int .i64 t) ∧ W1.cell? ⟨w.heap.size + 1, 3, none⟩ = some (.int .i64 1) ∧ W1.cell? ⟨w.heap.size + 1, 4, none⟩ = some (.string s) from ⟨(HR1.out.cell (block_lt_of_cell HY.out.1)).trans HY.out.1, (HR1.out.cell (block_lt_of_cell HY.out.2.1)).trans HY.out.2.1, (HR1.out.cell (block_lt_of_cell HY.out.2.2)).trans HY.out.2.2⟩)
  have HB1 := hid (HBW.out.trans (HR1.out.mono HBW.out.size))
  have x4 := HS1.out.cell 4
  have y4 := HY1.out.2.2
  go_wp2
  have x' := cell_regrown x4
  have y' := cell_regrown y4
  have d1 := fun d os => Calls.regrown_of (w := W1) (d := d) (os := os) (calls_below (l03At_any _ bs s _ (H41.out.stay (below_regrown W1 d os) (Nat.le_refl _)) n4))
  clear x4 y4
  refine wp_region_quiet_below mixed (by kernel_rfl) ?_
  repeat (go_big_quiet_step ((go_at_call 77; exact d1 _ _)))
  refine wpQuiet_nil ?_
  intro W2 hw'
  have HR2 := hid (show Below W1.heap.size W1 W2 by obtain ⟨⟨dq, osq⟩, hw''⟩ := hw'; subst hw''; exact below_regrown W1 dq osq)
  clear hw' x' y' d1
  have HS2 := hid (HS1.out.stay HR2.out)
  have H12 := hid (H11.out.stay HR2.out (Nat.le_refl _))
  have HU2 := hid ((HR2.out.cell (block_lt_of_cell HU1.out)).trans HU1.out)
  have H32 := hid (H31.out.stay HR2.out (Nat.le_refl _))
  have H42 := hid (H41.out.stay HR2.out (Nat.le_refl _))
  have HY2 := hid (show W2.cell? ⟨w.heap.size + 1, 1, none⟩ = some (.int .i64 t) ∧ W2.cell? ⟨w.heap.size + 1, 3, none⟩ = some (.int .i64 1) ∧ W2.cell? ⟨w.heap.size + 1, 4, none⟩ = some (.string s) from ⟨(HR2.out.cell (block_lt_of_cell HY1.out.1)).trans HY1.out.1, (HR2.out.cell (block_lt_of_cell HY1.out.2.1)).trans HY1.out.2.1, (HR2.out.cell (block_lt_of_cell HY1.out.2.2)).trans HY1.out.2.2⟩)
  have HB2 := hid (HB1.out.trans (HR2.out.mono HB1.out.size))
  have y1 := HY2.out.1
  have y3 := HY2.out.2.1
  have x0 : W2.cell? ⟨B, 0, none⟩ = some (.int .i64 st) := HS2.out.cell 0
  have x3 : W2.cell? ⟨B, 3, none⟩ = some (.slice a3 wt.length k3) := HS2.out.cell 3
  have x4 : W2.cell? ⟨B, 4, none⟩ = some (.slice a4 bs.length k4) := HS2.out.cell 4
  have x2 : W2.cell? ⟨B, 2, none⟩ = some (.int .i64 la) := HS2.out.cell 2
  have x6 : W2.cell? ⟨B, 6, none⟩ = some (.int .i64 fa) := HS2.out.cell 6
  have z := HS2.out.frozen
  generalize atI bs s = ib at *
  generalize atI wt s = iw at *
  obtain ⟨g, o, hg, hE⟩ := H12.out.row h0
  subst hg
  have u := HU2.out
  have c0 := hE.2 0 h0
  rw [Nat.add_zero] at c0
  have x1 : W2.cell? ⟨B, 1, none⟩ = some (.int .i64 bg) := HS2.out.cell 1
  have hgB : ¬ g = B := hgne g o rfl
  have hgB2 : ¬ B = g := fun e => hgB e.symm
  generalize hs0 : ss[0] = s0 at *
  have HS0 := hid hs0
  clear hs0
  have l1 := HS2.out.lt
  have l2 : w.heap.size + 1 < W2.heap.size := block_lt_of_cell y1
  have n5 : ¬ B = W2.heap.size := by omega
  have n7 : ¬ w.heap.size + 1 = W2.heap.size := by omega
  have c3 : (((W2.setCell ⟨B, 0, none⟩ (.int .i64 1)).setCell ⟨B, 1, none⟩ (.int .i64 t)).alloc (.cells #[.string s0] 9)).cell? ⟨B, 3, none⟩ = some (.slice a3 wt.length k3) := (((Below.refl W2.heap.size ((W2.setCell ⟨B, 0, none⟩ (.int .i64 1)).setCell ⟨B, 1, none⟩ (.int .i64 t))).alloc (by simp) (.cells #[.string s0] 9)).cell (p := ⟨B, 3, none⟩) l1).trans (by simp [go_sem, x3])
  have z3 : (((W2.setCell ⟨B, 0, none⟩ (.int .i64 1)).setCell ⟨B, 1, none⟩ (.int .i64 t)).alloc (.cells #[.string s0] 9)).frozen? ⟨B, 3, none⟩ = false := (((Below.refl W2.heap.size ((W2.setCell ⟨B, 0, none⟩ (.int .i64 1)).setCell ⟨B, 1, none⟩ (.int .i64 t))).alloc (by simp) (.cells #[.string s0] 9)).frozen (p := ⟨B, 3, none⟩) l1).trans (by simp [go_sem, z])
  go_wp2
  go_ret
  have hz : SaB ((((W2.setCell ⟨B, 0, none⟩ (.int .i64 1)).setCell ⟨B, 1, none⟩ (.int .i64 t)).setCell ⟨B, 3, none⟩ (.slice (some ⟨W2.heap.size, 0, none⟩) 1 1)).setCell ⟨B, 2, none⟩ (.int .i64 t)) B 1 t t (.slice (some ⟨W2.heap.size, 0, none⟩) 1 1) (.slice a4 bs.length k4) v5 fa := blk_set (blk_set (blk_set (HS2.out.set 0 (.int .i64 1)) (.int .i64 t)) (.slice (some ⟨W2.heap.size, 0, none⟩) 1 1)) (.int .i64 t)
  have hy := World.ownsRow_lit (base := w.heap.size) (e := 9) (size := 1) ((((W2.setCell ⟨B, 0, none⟩ (.int .i64 1)).setCell ⟨B, 1, none⟩ (.int .i64 t)).setCell ⟨B, 3, none⟩ (.slice (some ⟨W2.heap.size, 0, none⟩) 1 1)).setCell ⟨B, 2, none⟩ (.int .i64 t)) #[.string s0] 1 (by simp; omega) (by unfold maxLen; omega) rfl
  rw [show ((((W2.setCell ⟨B, 0, none⟩ (.int .i64 1)).setCell ⟨B, 1, none⟩ (.int .i64 t)).setCell ⟨B, 3, none⟩ (.slice (some ⟨W2.heap.size, 0, none⟩) 1 1)).setCell ⟨B, 2, none⟩ (.int .i64 t)).heap.size = W2.heap.size by simp] at hy
  refine ⟨W2.heap.size, rfl, hz.stay ((Below.refl _ _).alloc (Nat.le_refl _) _), ?_, (((((Chg.of_below HB2.out).trans (chg_set _ B _ _)).trans (chg_set _ B _ _)).trans (chg_set _ B _ _)).trans (chg_set _ B _ _)).trans (Chg.of_below ((Below.refl _ _).alloc (Nat.le_refl _) _))⟩
  rw [HS0.out]
  exact hy
end Go.Proofs.YthggcdadipjiiaaGreatDoor

/-
  What spec.l03Put answers at every row of one's own: a contract over the seat's program.
-/
namespace Go.Proofs.YthggcdadipjiiaaGreatDoor
open Go.RowKit Go.Sort

set_option maxRecDepth 100000 in
set_option maxHeartbeats 2000000 in
theorem l03Put_nil (t : ByteArray) (w : World) :
    Calls Tryz.prog 98 #[.slice none 0 0, .string t] w fun e w' => ∃ a k, e = .returned (.slice a 1 k) ∧ w'.ownsRow w.heap.size 9 1 (.slice a 1 k) 1 [Value.string t] ∧ Below w.heap.size w w' := by
  obtain ⟨i0, hi, hz0, hz1, hz2⟩ := info_parts Tryz.infoStr
  go_enter Tryz.func98, Tryz.ntmps98
  go_wp2
  go_loop [5] (fun i => i = .int .i64 0) (fun _ => 0)
  case atStart => exact rfl
  case round =>
    subst hrel
    have hown0 := own_made w 9
    go_wp2_with (first | (at_builtin; refine wpList_append_own_none rfl _ _ 23 rfl w.heap.size 9 i0 1 Tryz.underlying23 hi _ _ _ rfl hown0 rfl ?_) | (at_builtin; refine wpList_append_own _ rfl _ _ 23 rfl w.heap.size 9 i0 _ 1 16 Tryz.underlying23 hi hz0 hz1 hz2 rfl (by decide) _ _ _ rfl (hown0.alloc _) ⟨w.heap.size + 1, 0, none⟩ 1 1 [.string t] rfl rfl ?c1 (strs_one [t]) ?c3 ?c4 ?c5 ?_) | fail)
    case c3 => unfold maxLen; omega
    case c5 => omega
    intro v1 w1 hown1 hg1 _
    have HB1 := hid ((((Below.refl w.heap.size w).alloc (Nat.le_refl _) (.cells #[] 9)).alloc (by simp) (.cells #[.string t] 9)).grown hg1 (by simp; omega) (fun j hj => (hown0.lt j hj).1))
    obtain ⟨a1, k1, rfl⟩ := ownB_form hown1
    have HO1 := hid hown1
    have hz1' := HB1.out.size
    clear hown0 hown1 hg1
    go_wp2_with (first | (at_builtin; refine wpList_append_own_none rfl _ _ 23 rfl w.heap.size 9 i0 1 Tryz.underlying23 hi _ _ _ rfl HO1.out rfl ?_) | fail)
    go_ret
    exact ⟨a1, k1, rfl, HO1.out, HB1.out⟩
theorem l03Put_own (b : Nat) (v : Value) (l : List ByteArray) (t : ByteArray) (w : World) (h : w.ownsRow b 9 1 v l.length (l.map Value.string)) (hn : l.length ≤ 1048576) :
    Calls Tryz.prog 98 #[v, .string t] w fun e w' => ∃ a k, e = .returned (.slice a (putT l t).length k) ∧ w'.ownsRow w.heap.size 9 1 (.slice a (putT l t).length k) (putT l t).length ((putT l t).map Value.string) ∧ Below w.heap.size w w' := by
  have h' := h
  rcases h.2 with ⟨hv, h0⟩ | ⟨g, cap, cur, hv, _, _, hle, _⟩
  · have hl : l = [] := List.eq_nil_of_length_eq_zero h0
    subst hl; subst hv
    exact l03Put_nil t w
  · have hlt := (h.lt g (by rw [hv]; rfl)).2
    have hE : StrsAt w g 0 l := ⟨hlt, fun i hi => by
      have := h.cells (g := g) (by rw [hv]; rfl) i (.string l[i]) (by simp [hi])
      rw [Addr.add_lit] at this
      exact this⟩
    subst hv
    exact l03Put_row g 0 cap l t w hE hle hn
end Go.Proofs.YthggcdadipjiiaaGreatDoor

/-
  Rows of one's own where other blocks turn. Of no function.
-/
namespace Go.Proofs.YthggcdadipjiiaaGreatDoor
open Go.RowKit

/-- A row of one's own lies in no block of another type. -/
theorem own_ne {w : World} {base size n B : Nat} {e t : TypeId} {v : Value} {xs : List Value} {c : Array Value} {f : Nat × Nat} (h : w.ownsRow base e size v n xs) (hB : w.heap[B]? = some (.cells c t f)) (hne : e ≠ t) : ∀ g, v.ownBlock = some g → g ≠ B := by
  intro g hg he
  subst he
  rcases h.2 with ⟨hv, _⟩ | ⟨g', cap, cur, hv, _, hh, _⟩
  · rw [hv] at hg; cases hg
  · rw [hv] at hg
    injection hg with hg
    subst hg
    rw [hB] at hh
    injection hh with hh
    injection hh with _ h2 _
    exact hne h2.symm
/-- It stays where its block does. -/
theorem own_chg {p : Nat → Prop} {w w' : World} {base size n : Nat} {e : TypeId} {v : Value} {xs : List Value} (h : w.ownsRow base e size v n xs) (hc : Chg p w w') (hp : ∀ g, v.ownBlock = some g → ¬ p g) : w'.ownsRow base e size v n xs := by
  refine ⟨h.1, ?_⟩
  rcases h.2 with h0 | ⟨g, cap, cur, hv, hb, hh, r⟩
  · exact .inl h0
  · exact .inr ⟨g, cap, cur, hv, hb, (hc.block g (lt_heap hh) (hp g (by rw [hv]; rfl))).trans hh, r⟩
theorem own_lt {w : World} {base size n : Nat} {e : TypeId} {v : Value} {xs : List Value} (h : w.ownsRow base e size v n xs) : ∀ g, v.ownBlock = some g → base ≤ g ∧ g < w.heap.size := fun g hg => h.lt g hg
/-- Two rows in two blocks. -/
def Apart (v u : Value) : Prop := ∀ g, v.ownBlock = some g → u.ownBlock ≠ some g
theorem Apart.symm {v u : Value} (h : Apart v u) : Apart u v := fun g hg he => h g he hg
theorem apart_of {w : World} {b1 b2 s1 s2 n1 n2 m : Nat} {e1 e2 : TypeId} {v u : Value} {xs ys : List Value} {w' : World} (h : w.ownsRow b1 e1 s1 v n1 xs) (h' : w'.ownsRow b2 e2 s2 u n2 ys) (hm : w.heap.size ≤ m) (hb : m ≤ b2) : Apart v u := fun g hg he => by
  have := (h.lt g hg).2
  have := (h'.lt g he).1
  omega
/-- Rows of two types lie apart. -/
theorem apart_ty {w : World} {b1 b2 s1 s2 n1 n2 : Nat} {e1 e2 : TypeId} {v u : Value} {xs ys : List Value} (h : w.ownsRow b1 e1 s1 v n1 xs) (h' : w.ownsRow b2 e2 s2 u n2 ys) (hne : e1 ≠ e2) : Apart v u := fun g hg he => by
  rcases h'.2 with ⟨hv, _⟩ | ⟨g', cap, cur, hv, _, hh, _⟩
  · rw [hv] at he; cases he
  · rw [hv] at he
    injection he with he
    subst he
    exact own_ne h hh hne g' hg rfl
end Go.Proofs.YthggcdadipjiiaaGreatDoor

/-
  What spec.l03Do does where a mark is entered: a contract over the seat's program. (Made by mkdo3.py.)
-/
namespace Go.Proofs.YthggcdadipjiiaaGreatDoor
open Go.RowKit Go.Sort

set_option maxRecDepth 100000 in
set_option maxHeartbeats 4000000 in
theorem l03Do_enter_yes (a1 a2 a3 a4 : Option Addr) (k1 k2 k3 k4 B : Nat) (ss : List ByteArray) (fs : List Pr) (st bg la fa q t r : Int) (wt bs : List ByteArray) (v5 : Value) (s v : ByteArray) (w : World) (hS : SaB w B st bg la (.slice a3 wt.length k3) (.slice a4 bs.length k4) v5 fa) (h3 : StrSl w (.slice a3 wt.length k3) wt) (h4 : StrSl w (.slice a4 bs.length k4) bs) (n3 : wt.length ≤ maxLen) (n4 : bs.length ≤ maxLen) (b3 b4 k : Nat) (hO3 : w.ownsRow b3 9 1 (.slice a3 wt.length k3) wt.length (wt.map Value.string)) (hO4 : w.ownsRow b4 9 1 (.slice a4 bs.length k4) bs.length (bs.map Value.string)) (hk : k < wt.length) (hm : atI wt s = k) (m3 : wt.length ≤ 1048576) (m4 : bs.length ≤ 1048576) :
    Calls Tryz.prog 80 #[.agg #[.slice a1 ss.length k1, .slice a2 fs.length k2], .pointer (some ⟨B, 0, none⟩), .agg #[.int .i64 q, .int .i64 t, .int .i64 r, .int .i64 2, .string s, .string v]] w fun e w' => ∃ c3 e3 c4 e4, e = .returned (.int .i64 0) ∧ SaB w' B st bg t (.slice c3 (outT wt k).length e3) (.slice c4 (putT bs s).length e4) v5 fa ∧ w'.ownsRow w.heap.size 9 1 (.slice c3 (outT wt k).length e3) (outT wt k).length ((outT wt k).map Value.string) ∧ w'.ownsRow w.heap.size 9 1 (.slice c4 (putT bs s).length e4) (putT bs s).length ((putT bs s).map Value.string) ∧ Apart (.slice c3 (outT wt k).length e3) (.slice c4 (putT bs s).length e4) ∧ Chg (fun j => j = B) w w' := by
  have hOB4 := own_ne hO4 hS (by decide)
  have HO3 := hid hO3
  have HO4 := hid hO4
  have HD4 := hid hOB4
  clear hO3 hO4 hOB4
  have mixed : Tryz.prog.follows .mixedOrders = true := by kernel_rfl
  have hbW : Below w.heap.size w ((w.alloc (.cells #[.slice a1 ss.length k1, .slice a2 fs.length k2] 26)).alloc (.cells #[.int .i64 q, .int .i64 t, .int .i64 r, .int .i64 2, .string s, .string v] 33)) := below2 _ _ _
  have HS := hid (hS.stay hbW)
  have H3 := hid (h3.stay hbW (Nat.le_refl _))
  have H4 := hid (h4.stay hbW (Nat.le_refl _))
  have y1 : ((w.alloc (.cells #[.slice a1 ss.length k1, .slice a2 fs.length k2] 26)).alloc (.cells #[.int .i64 q, .int .i64 t, .int .i64 r, .int .i64 2, .string s, .string v] 33)).cell? ⟨w.heap.size + 1, 1, none⟩ = some (.int .i64 t) := by simp [go_sem]
  have y3 : ((w.alloc (.cells #[.slice a1 ss.length k1, .slice a2 fs.length k2] 26)).alloc (.cells #[.int .i64 q, .int .i64 t, .int .i64 r, .int .i64 2, .string s, .string v] 33)).cell? ⟨w.heap.size + 1, 3, none⟩ = some (.int .i64 2) := by simp [go_sem]
  have y4 : ((w.alloc (.cells #[.slice a1 ss.length k1, .slice a2 fs.length k2] 26)).alloc (.cells #[.int .i64 q, .int .i64 t, .int .i64 r, .int .i64 2, .string s, .string v] 33)).cell? ⟨w.heap.size + 1, 4, none⟩ = some (.string s) := by simp [go_sem]
  have HY := hid (And.intro y1 (And.intro y3 y4))
  have hne : ¬ w.heap.size + 1 = B := by have := hS.lt; omega
  have hne2 : ¬ B = w.heap.size + 1 := by omega
  have HBW := hid hbW
  clear h3 h4 hS hbW y1 y3 y4
  go_enter Tryz.func80, Tryz.ntmps80
  go_wp2
  generalize ((w.alloc (.cells #[.slice a1 ss.length k1, .slice a2 fs.length k2] 26)).alloc (.cells #[.int .i64 q, .int .i64 t, .int .i64 r, .int .i64 2, .string s, .string v] 33)) = W at *
  have x3 := HS.out.cell 3
  have y4 := HY.out.2.2
  skip
  have x' := cell_regrown x3
  have y' := cell_regrown y4
  have d1 := fun d os => Calls.regrown_of (w := W) (d := d) (os := os) (calls_below (l03At_any _ wt s _ (H3.out.stay (below_regrown W d os) (Nat.le_refl _)) n3))
  clear x3 y4
  refine wp_region_quiet_below mixed (by kernel_rfl) ?_
  repeat (go_big_quiet_step ((go_at_call 77; exact d1 _ _)))
  refine wpQuiet_nil ?_
  intro W1 hw'
  have HR1 := hid (show Below W.heap.size W W1 by obtain ⟨⟨dq, osq⟩, hw''⟩ := hw'; subst hw''; exact below_regrown W dq osq)
  clear hw' x' y' d1
  have HS1 := hid (HS.out.stay HR1.out)
  have H31 := hid (H3.out.stay HR1.out (Nat.le_refl _))
  have H41 := hid (H4.out.stay HR1.out (Nat.le_refl _))
  have HY1 := hid (show W1.cell? ⟨w.heap.size + 1, 1, none⟩ = some (.int .i64 t) ∧ W1.cell? ⟨w.heap.size + 1, 3, none⟩ = some (.int .i64 2) ∧ W1.cell? ⟨w.heap.size + 1, 4, none⟩ = some (.string s) from ⟨(HR1.out.cell (block_lt_of_cell HY.out.1)).trans HY.out.1, (HR1.out.cell (block_lt_of_cell HY.out.2.1)).trans HY.out.2.1, (HR1.out.cell (block_lt_of_cell HY.out.2.2)).trans HY.out.2.2⟩)
  have HB1 := hid (HBW.out.trans (HR1.out.mono HBW.out.size))
  have x4 := HS1.out.cell 4
  have y4 := HY1.out.2.2
  go_wp2
  have x' := cell_regrown x4
  have y' := cell_regrown y4
  have d1 := fun d os => Calls.regrown_of (w := W1) (d := d) (os := os) (calls_below (l03At_any _ bs s _ (H41.out.stay (below_regrown W1 d os) (Nat.le_refl _)) n4))
  clear x4 y4
  refine wp_region_quiet_below mixed (by kernel_rfl) ?_
  repeat (go_big_quiet_step ((go_at_call 77; exact d1 _ _)))
  refine wpQuiet_nil ?_
  intro W2 hw'
  have HR2 := hid (show Below W1.heap.size W1 W2 by obtain ⟨⟨dq, osq⟩, hw''⟩ := hw'; subst hw''; exact below_regrown W1 dq osq)
  clear hw' x' y' d1
  have HS2 := hid (HS1.out.stay HR2.out)
  have H32 := hid (H31.out.stay HR2.out (Nat.le_refl _))
  have H42 := hid (H41.out.stay HR2.out (Nat.le_refl _))
  have HY2 := hid (show W2.cell? ⟨w.heap.size + 1, 1, none⟩ = some (.int .i64 t) ∧ W2.cell? ⟨w.heap.size + 1, 3, none⟩ = some (.int .i64 2) ∧ W2.cell? ⟨w.heap.size + 1, 4, none⟩ = some (.string s) from ⟨(HR2.out.cell (block_lt_of_cell HY1.out.1)).trans HY1.out.1, (HR2.out.cell (block_lt_of_cell HY1.out.2.1)).trans HY1.out.2.1, (HR2.out.cell (block_lt_of_cell HY1.out.2.2)).trans HY1.out.2.2⟩)
  have HB2 := hid (HB1.out.trans (HR2.out.mono HB1.out.size))
  have y1 := HY2.out.1
  have y3 := HY2.out.2.1
  have x0 : W2.cell? ⟨B, 0, none⟩ = some (.int .i64 st) := HS2.out.cell 0
  have x3 : W2.cell? ⟨B, 3, none⟩ = some (.slice a3 wt.length k3) := HS2.out.cell 3
  have x4 : W2.cell? ⟨B, 4, none⟩ = some (.slice a4 bs.length k4) := HS2.out.cell 4
  have x2 : W2.cell? ⟨B, 2, none⟩ = some (.int .i64 la) := HS2.out.cell 2
  have x6 : W2.cell? ⟨B, 6, none⟩ = some (.int .i64 fa) := HS2.out.cell 6
  have z := HS2.out.frozen
  generalize atI bs s = ib at *
  generalize atI wt s = iw at *
  subst hm
  have O32 := ownB_stay HO3.out HB2.out
  have O42 := ownB_stay HO4.out HB2.out
  have cO := hid (l03Out_own b3 k _ wt W2 O32 hk m3)
  have HO42 := hid O42
  clear O32 O42 HO3 HO4
  go_wp2_with fail
  refine cO.out.mono ?_
  rintro e W3 ⟨c3, e3, rfl, hO3', hb3⟩
  have HS3 := hid (HS2.out.stay hb3)
  have HB3 := hid (HB2.out.trans (hb3.mono HB2.out.size))
  have HY3 := hid (show W3.cell? ⟨w.heap.size + 1, 1, none⟩ = some (.int .i64 t) ∧ W3.cell? ⟨w.heap.size + 1, 4, none⟩ = some (.string s) from ⟨(hb3.cell (block_lt_of_cell HY2.out.1)).trans HY2.out.1, (hb3.cell (block_lt_of_cell HY2.out.2.2)).trans HY2.out.2.2⟩)
  have HO43 := hid (ownB_stay HO42.out hb3)
  have HN := hid hO3'
  have hz3 := hb3.size
  clear x0 x2 x3 x4 x6 z y1 y3 cO HO42 hO3' hb3
  have x3 : W3.cell? ⟨B, 3, none⟩ = some (.slice a3 wt.length k3) := HS3.out.cell 3
  have z := HS3.out.frozen
  go_wp2
  have hC1 : Chg (fun j => j = B) W3 (W3.setCell ⟨B, 3, none⟩ (.slice c3 (outT wt k).length e3)) := chg_set W3 B 3 _
  have HSV := hid (show SaB (W3.setCell ⟨B, 3, none⟩ (.slice c3 (outT wt k).length e3)) B st bg la (.slice c3 (outT wt k).length e3) (.slice a4 bs.length k4) v5 fa from HS3.out.set 3 _)
  have l1 := HS3.out.lt
  skip
  have HNV := hid (own_chg HN.out hC1 (fun g hg e => by have := (HN.out.lt g hg).1; have := HS2.out.lt; omega))
  have HOV := hid (own_chg HO43.out hC1 (fun g hg e => HD4.out g hg e))
  have yv1 := (hC1.cell (g := w.heap.size + 1) (o := 1) (block_lt_of_cell HY3.out.1) hne).trans HY3.out.1
  have yv4 := (hC1.cell (g := w.heap.size + 1) (o := 4) (block_lt_of_cell HY3.out.1) hne).trans HY3.out.2
  have HCV := hid ((Chg.of_below (p := fun j => j = B) HB3.out).trans hC1)
  have hsz : (W3.setCell ⟨B, 3, none⟩ (.slice c3 (outT wt k).length e3)).heap.size = W3.heap.size := by simp
  clear x3 z hC1 HS3 HY3 HO43 HN
  generalize W3.setCell ⟨B, 3, none⟩ (.slice c3 (outT wt k).length e3) = V at *
  have x4 : V.cell? ⟨B, 4, none⟩ = some (.slice a4 bs.length k4) := HSV.out.cell 4
  have cP := hid (l03Put_own b4 _ bs s V.drew (ownB_stay HOV.out (Below.refl _ _).drew) m4)
  have hBV := HSV.out.lt
  have hEV : w.heap.size + 1 < V.heap.size := block_lt_of_cell yv1
  have hbd : Below V.heap.size V V.drew := (Below.refl _ _).drew
  go_region_with (first | (go_at_call 98; refine cP.out.mono ?_; rintro e W4 ⟨c4, e4, rfl, hO4', hb4⟩; have HB4 := hid (hbd.trans (hb4.mono hbd.size)); have HS4 := hid (HSV.out.stay HB4.out); have HN4 := hid hO4'; have xx4 : W4.cell? ⟨B, 4, none⟩ = some (.slice a4 bs.length k4) := HS4.out.cell 4; have xx2 : W4.cell? ⟨B, 2, none⟩ = some (.int .i64 la) := HS4.out.cell 2; have yy1 := (HB4.out.cell (p := ⟨w.heap.size + 1, 1, none⟩) hEV).trans yv1; have zz := HS4.out.frozen; clear hO4' hb4))
  all_goals go_wp2
  all_goals go_ret
  all_goals have hS5 : SaB ((W4.setCell ⟨B, 4, none⟩ (.slice c4 (putT bs s).length e4)).setCell ⟨B, 2, none⟩ (.int .i64 t)) B st bg t (.slice c3 (outT wt k).length e3) (.slice c4 (putT bs s).length e4) v5 fa := blk_set (HS4.out.set 4 (.slice c4 (putT bs s).length e4)) (.int .i64 t)
  all_goals have hC5 : Chg (fun j => j = B) W4 ((W4.setCell ⟨B, 4, none⟩ (.slice c4 (putT bs s).length e4)).setCell ⟨B, 2, none⟩ (.int .i64 t)) := (chg_set _ B _ _).trans (chg_set _ B _ _)
  all_goals refine ⟨c3, e3, c4, e4, rfl, hS5, ?_, ?_, ?_, (HCV.out.trans (Chg.of_below HB4.out)).trans hC5⟩
  all_goals first | exact apart_of HNV.out HN4.out (Nat.le_refl _) (Nat.le_refl _) | exact ownB_le (own_chg (ownB_stay HNV.out HB4.out) hC5 (own_ne (ownB_stay HNV.out HB4.out) HS4.out (by decide))) HB2.out.size | exact ownB_le (own_chg HN4.out hC5 (own_ne HN4.out HS4.out (by decide))) (by show w.heap.size ≤ V.heap.size; have := HB3.out.size; omega)
end Go.Proofs.YthggcdadipjiiaaGreatDoor
