/-
  What (*spec.l02Reader).num and (*spec.l02Reader).text answer, and where the reader stands behind it: contracts over the seat's program.
-/
import Derived.Test.YticnffakngpkfaaDoorCur
import Derived.Deep.RegionHeld3
namespace Go.Proofs.YticnffakngpkfaaDoor
open Go.RowKit Get

/-- Behind the reader's first statement, whichever way it went: the reader as it was, the answer in a block of its own. -/
structure Aft (w w2 : World) (b g : Nat) (L M : List Value) (T : TypeId) : Prop where
  hb : w2.heap[b]? = some (.cells L.toArray 63 (0, 0))
  hg : w2.heap[g]? = some (.cells M.toArray T (0, 0))
  gr : w.grownBy w2 (some b)
  ge : w.heap.size ≤ g
theorem aft_late {w w1 : World} {b : Nat} {L : List Value} (M : List Value) (T : TypeId) (hb1 : Below w.drew.heap.size w.drew w1) (hb : w.heap[b]? = some (.cells L.toArray 63 (0, 0))) : Aft w (w1.alloc (.cells M.toArray T)) b w1.heap.size L M T := by
  have hlt := lt_heap hb
  have h1 : w1.heap[b]? = w.heap[b]? := hb1.block b hlt
  have hs : w.heap.size ≤ w1.heap.size := hb1.size
  refine ⟨?_, heap_alloc_new w1 _, ?_, hs⟩
  · rw [Below.heap_alloc w1 _ b (by omega), h1]; exact hb
  · exact ⟨hb1.os, hb1.tape, hb1.output, by simp; omega, fun k hk _ => by rw [Below.heap_alloc w1 _ k (by omega)]; exact hb1.block k hk⟩
theorem aft_early {w w1 : World} {b : Nat} {L : List Value} (Z : List Value) (m0 m1 m2 : Value) (T : TypeId) (hz : Z.length = 3) (hb1 : Below (w.alloc (.cells Z.toArray T)).drew.heap.size (w.alloc (.cells Z.toArray T)).drew w1) (hb : w.heap[b]? = some (.cells L.toArray 63 (0, 0))) :
    Aft w (((w1.setCell ⟨w.heap.size, 0, none⟩ m0).setCell ⟨w.heap.size, 1, none⟩ m1).setCell ⟨w.heap.size, 2, none⟩ m2) b w.heap.size L [m0, m1, m2] T := by
  have hlt := lt_heap hb
  have hS : (w.alloc (.cells Z.toArray T)).drew.heap.size = w.heap.size + 1 := by
    show (w.alloc (.cells Z.toArray T)).heap.size = _
    simp
  have h1 : ∀ k, k < w.heap.size → w1.heap[k]? = w.heap[k]? := fun k hk => by
    rw [hb1.block k (by omega)]
    exact Below.heap_alloc w _ k hk
  have hg : w1.heap[w.heap.size]? = some (.cells Z.toArray T (0, 0)) := by
    rw [hb1.block _ (by omega)]
    exact heap_alloc_new w _
  have hs : w.heap.size + 1 ≤ w1.heap.size := by have := hb1.size; omega
  refine ⟨?_, ?_, ?_, Nat.le_refl _⟩
  · rw [Below.heap_setCell _ ⟨w.heap.size, 2, none⟩ _ b (by show b ≠ w.heap.size; omega), Below.heap_setCell _ ⟨w.heap.size, 1, none⟩ _ b (by show b ≠ w.heap.size; omega), Below.heap_setCell _ ⟨w.heap.size, 0, none⟩ _ b (by show b ≠ w.heap.size; omega), h1 b hlt]; exact hb
  · have := blk_set (i := 2) (blk_set (i := 1) (blk_set (i := 0) hg m0) m1) m2
    match Z, hz with
    | [z0, z1, z2], _ => exact this
  · exact ⟨hb1.os, hb1.tape, hb1.output, by simp [World.setCell]; omega, fun k hk _ => by
      rw [Below.heap_setCell _ ⟨w.heap.size, 2, none⟩ _ k (by show k ≠ w.heap.size; omega), Below.heap_setCell _ ⟨w.heap.size, 1, none⟩ _ k (by show k ≠ w.heap.size; omega), Below.heap_setCell _ ⟨w.heap.size, 0, none⟩ _ k (by show k ≠ w.heap.size; omega)]
      exact h1 k hk⟩
set_option maxHeartbeats 1000000 in
set_option maxRecDepth 100000 in
theorem rdrNum_ok (b : Nat) (t : ByteArray) (a q : Int) (n : Int) (w : World) (hb : w.heap[b]? = some (.cells [.string t, .int .i64 a, .bool false].toArray 63 (0, 0)))
    (c1 : ∀ w, Calls Tryd.prog 62 #[.string t, .int .i64 a] w fun e w' => e = .returned (.agg #[.int .i64 n, .int .i64 q, .int .i64 0]) ∧ Below w.heap.size w w') :
    Calls Tryd.prog 51 #[.pointer (some ⟨b, 0, none⟩)] w fun e w' => e = .returned (.int .i64 n) ∧ w'.heap[b]? = some (.cells [.string t, .int .i64 q, .bool false].toArray 63 (0, 0)) ∧ w.grownBy w' (some b) := by
  have e0 : w.cell? ⟨b, 0, none⟩ = some (.string t) := by rw [Lib.cell_of_heap hb]; rfl
  have e1 : w.cell? ⟨b, 1, none⟩ = some (.int .i64 a) := by rw [Lib.cell_of_heap hb]; rfl
  have HB := hid hb
  have hlt := lt_heap hb
  have m0 := World.new_ne w ⟨b, 0, none⟩ e0
  clear hb
  go_enter Tryd.func51, Tryd.ntmps51
  go_wp2
  go_region_held3 (fun w' => w'.cell? ⟨b, 0, none⟩ = some (.string t) ∧ w'.cell? ⟨b, 1, none⟩ = some (.int .i64 a)) (go_keep) (first | (go_at_call 62; refine (c1 _).mono ?_; rintro e w1 ⟨rfl, hb1⟩; obtain ⟨hc1, hf1⟩ := bcell hb1; have hz1 := hb1.size; simp at hc1 hf1 hz1; have x0 := hc1 b 0 (by omega); have x1 := hc1 b 1 (by omega)))
  · have HA := hid (aft_late [.int .i64 n, .int .i64 q, .int .i64 0] 83 hb1 HB.out)
    generalize w1.alloc (.cells [.int .i64 n, .int .i64 q, .int .i64 0].toArray 83) = w2 at *
    generalize w1.heap.size = g at *
    clear hc1 hf1 hz1 x0 x1 hb1 e0 e1 c1
    have hA := HA.out
    have e0' : w2.cell? ⟨b, 0, none⟩ = some (.string t) := by rw [Lib.cell_of_heap hA.hb]; rfl
    have e1' : w2.cell? ⟨b, 1, none⟩ = some (.int .i64 a) := by rw [Lib.cell_of_heap hA.hb]; rfl
    have e2' : w2.cell? ⟨b, 2, none⟩ = some (.bool false) := by rw [Lib.cell_of_heap hA.hb]; rfl
    have y0 : w2.cell? ⟨g, 0, none⟩ = some (.int .i64 n) := by rw [Lib.cell_of_heap hA.hg]; rfl
    have y1 : w2.cell? ⟨g, 1, none⟩ = some (.int .i64 q) := by rw [Lib.cell_of_heap hA.hg]; rfl
    have y2 : w2.cell? ⟨g, 2, none⟩ = some (.int .i64 0) := by rw [Lib.cell_of_heap hA.hg]; rfl
    have fb : ∀ j, w2.frozen? ⟨b, j, none⟩ = false := fun j => Lib.frozen_of_heap hA.hb j
    have hgb : g ≠ b := by have := hA.ge; omega
    clear hA
    go_wp2
    go_ret
    exact ⟨rfl, blk_set HA.out.hb _, grown_trans HA.out.gr (grown_set _ _ _ _)⟩
  · have HA := hid (aft_early [.int .i64 0, .int .i64 0, .int .i64 0] (.int .i64 n) (.int .i64 q) (.int .i64 0) 83 rfl hb1 HB.out)
    generalize ((w1.setCell ⟨w.heap.size, 0, none⟩ (.int .i64 n)).setCell ⟨w.heap.size, 1, none⟩ (.int .i64 q)).setCell ⟨w.heap.size, 2, none⟩ (.int .i64 0) = w2 at *
    obtain ⟨g, hg⟩ : ∃ g, w.heap.size = g := ⟨_, rfl⟩
    clear hc1 hf1 hz1 x0 x1 hb1 e0 e1 c1 m0
    rw [hg] at HA ⊢
    have hlt' : b < g := by omega
    clear hg hlt
    have hlt := hlt'
    have hA := HA.out
    have e0' : w2.cell? ⟨b, 0, none⟩ = some (.string t) := by rw [Lib.cell_of_heap hA.hb]; rfl
    have e1' : w2.cell? ⟨b, 1, none⟩ = some (.int .i64 a) := by rw [Lib.cell_of_heap hA.hb]; rfl
    have e2' : w2.cell? ⟨b, 2, none⟩ = some (.bool false) := by rw [Lib.cell_of_heap hA.hb]; rfl
    have y0 : w2.cell? ⟨g, 0, none⟩ = some (.int .i64 n) := by rw [Lib.cell_of_heap hA.hg]; rfl
    have y1 : w2.cell? ⟨g, 1, none⟩ = some (.int .i64 q) := by rw [Lib.cell_of_heap hA.hg]; rfl
    have y2 : w2.cell? ⟨g, 2, none⟩ = some (.int .i64 0) := by rw [Lib.cell_of_heap hA.hg]; rfl
    have fb : ∀ j, w2.frozen? ⟨b, j, none⟩ = false := fun j => Lib.frozen_of_heap hA.hb j
    have hgb : g ≠ b := by have := hA.ge; omega
    clear hA
    go_wp2
    go_ret
    exact ⟨rfl, blk_set HA.out.hb _, grown_trans HA.out.gr (grown_set _ _ _ _)⟩
set_option maxHeartbeats 1000000 in
set_option maxRecDepth 100000 in
theorem rdrNum_bad (b : Nat) (t : ByteArray) (a q : Int) (n : Int) (c : Int) (w : World) (hb : w.heap[b]? = some (.cells [.string t, .int .i64 a, .bool false].toArray 63 (0, 0)))
    (c1 : ∀ w, Calls Tryd.prog 62 #[.string t, .int .i64 a] w fun e w' => e = .returned (.agg #[.int .i64 n, .int .i64 q, .int .i64 c]) ∧ Below w.heap.size w w') (hc : (c != 0) = true) :
    Calls Tryd.prog 51 #[.pointer (some ⟨b, 0, none⟩)] w fun e w' => e = .returned (.int .i64 0) ∧ w'.heap[b]? = some (.cells [.string t, .int .i64 a, .bool true].toArray 63 (0, 0)) ∧ w.grownBy w' (some b) := by
  have e0 : w.cell? ⟨b, 0, none⟩ = some (.string t) := by rw [Lib.cell_of_heap hb]; rfl
  have e1 : w.cell? ⟨b, 1, none⟩ = some (.int .i64 a) := by rw [Lib.cell_of_heap hb]; rfl
  have HB := hid hb
  have hlt := lt_heap hb
  have m0 := World.new_ne w ⟨b, 0, none⟩ e0
  clear hb
  go_enter Tryd.func51, Tryd.ntmps51
  go_wp2
  go_region_held3 (fun w' => w'.cell? ⟨b, 0, none⟩ = some (.string t) ∧ w'.cell? ⟨b, 1, none⟩ = some (.int .i64 a)) (go_keep) (first | (go_at_call 62; refine (c1 _).mono ?_; rintro e w1 ⟨rfl, hb1⟩; obtain ⟨hc1, hf1⟩ := bcell hb1; have hz1 := hb1.size; simp at hc1 hf1 hz1; have x0 := hc1 b 0 (by omega); have x1 := hc1 b 1 (by omega)))
  · have HA := hid (aft_late [.int .i64 n, .int .i64 q, .int .i64 c] 83 hb1 HB.out)
    generalize w1.alloc (.cells [.int .i64 n, .int .i64 q, .int .i64 c].toArray 83) = w2 at *
    generalize w1.heap.size = g at *
    clear hc1 hf1 hz1 x0 x1 hb1 e0 e1 c1
    have hA := HA.out
    have e0' : w2.cell? ⟨b, 0, none⟩ = some (.string t) := by rw [Lib.cell_of_heap hA.hb]; rfl
    have e1' : w2.cell? ⟨b, 1, none⟩ = some (.int .i64 a) := by rw [Lib.cell_of_heap hA.hb]; rfl
    have e2' : w2.cell? ⟨b, 2, none⟩ = some (.bool false) := by rw [Lib.cell_of_heap hA.hb]; rfl
    have y0 : w2.cell? ⟨g, 0, none⟩ = some (.int .i64 n) := by rw [Lib.cell_of_heap hA.hg]; rfl
    have y1 : w2.cell? ⟨g, 1, none⟩ = some (.int .i64 q) := by rw [Lib.cell_of_heap hA.hg]; rfl
    have y2 : w2.cell? ⟨g, 2, none⟩ = some (.int .i64 c) := by rw [Lib.cell_of_heap hA.hg]; rfl
    have fb : ∀ j, w2.frozen? ⟨b, j, none⟩ = false := fun j => Lib.frozen_of_heap hA.hb j
    have hgb : g ≠ b := by have := hA.ge; omega
    clear hA
    go_wp2
    go_ret
    exact ⟨rfl, blk_set HA.out.hb _, grown_trans HA.out.gr (grown_set _ _ _ _)⟩
  · have HA := hid (aft_early [.int .i64 0, .int .i64 0, .int .i64 0] (.int .i64 n) (.int .i64 q) (.int .i64 c) 83 rfl hb1 HB.out)
    generalize ((w1.setCell ⟨w.heap.size, 0, none⟩ (.int .i64 n)).setCell ⟨w.heap.size, 1, none⟩ (.int .i64 q)).setCell ⟨w.heap.size, 2, none⟩ (.int .i64 c) = w2 at *
    obtain ⟨g, hg⟩ : ∃ g, w.heap.size = g := ⟨_, rfl⟩
    clear hc1 hf1 hz1 x0 x1 hb1 e0 e1 c1 m0
    rw [hg] at HA ⊢
    have hlt' : b < g := by omega
    clear hg hlt
    have hlt := hlt'
    have hA := HA.out
    have e0' : w2.cell? ⟨b, 0, none⟩ = some (.string t) := by rw [Lib.cell_of_heap hA.hb]; rfl
    have e1' : w2.cell? ⟨b, 1, none⟩ = some (.int .i64 a) := by rw [Lib.cell_of_heap hA.hb]; rfl
    have e2' : w2.cell? ⟨b, 2, none⟩ = some (.bool false) := by rw [Lib.cell_of_heap hA.hb]; rfl
    have y0 : w2.cell? ⟨g, 0, none⟩ = some (.int .i64 n) := by rw [Lib.cell_of_heap hA.hg]; rfl
    have y1 : w2.cell? ⟨g, 1, none⟩ = some (.int .i64 q) := by rw [Lib.cell_of_heap hA.hg]; rfl
    have y2 : w2.cell? ⟨g, 2, none⟩ = some (.int .i64 c) := by rw [Lib.cell_of_heap hA.hg]; rfl
    have fb : ∀ j, w2.frozen? ⟨b, j, none⟩ = false := fun j => Lib.frozen_of_heap hA.hb j
    have hgb : g ≠ b := by have := hA.ge; omega
    clear hA
    go_wp2
    go_ret
    exact ⟨rfl, blk_set HA.out.hb _, grown_trans HA.out.gr (grown_set _ _ _ _)⟩
set_option maxHeartbeats 1000000 in
set_option maxRecDepth 100000 in
theorem rdrNum_still (b : Nat) (t : ByteArray) (a q : Int) (n : Int) (c : Int) (w : World) (hb : w.heap[b]? = some (.cells [.string t, .int .i64 a, .bool true].toArray 63 (0, 0)))
    (c1 : ∀ w, Calls Tryd.prog 62 #[.string t, .int .i64 a] w fun e w' => e = .returned (.agg #[.int .i64 n, .int .i64 q, .int .i64 c]) ∧ Below w.heap.size w w') :
    Calls Tryd.prog 51 #[.pointer (some ⟨b, 0, none⟩)] w fun e w' => e = .returned (.int .i64 0) ∧ w'.heap[b]? = some (.cells [.string t, .int .i64 a, .bool true].toArray 63 (0, 0)) ∧ w.grownBy w' (some b) := by
  have e0 : w.cell? ⟨b, 0, none⟩ = some (.string t) := by rw [Lib.cell_of_heap hb]; rfl
  have e1 : w.cell? ⟨b, 1, none⟩ = some (.int .i64 a) := by rw [Lib.cell_of_heap hb]; rfl
  have HB := hid hb
  have hlt := lt_heap hb
  have m0 := World.new_ne w ⟨b, 0, none⟩ e0
  clear hb
  go_enter Tryd.func51, Tryd.ntmps51
  go_wp2
  go_region_held3 (fun w' => w'.cell? ⟨b, 0, none⟩ = some (.string t) ∧ w'.cell? ⟨b, 1, none⟩ = some (.int .i64 a)) (go_keep) (first | (go_at_call 62; refine (c1 _).mono ?_; rintro e w1 ⟨rfl, hb1⟩; obtain ⟨hc1, hf1⟩ := bcell hb1; have hz1 := hb1.size; simp at hc1 hf1 hz1; have x0 := hc1 b 0 (by omega); have x1 := hc1 b 1 (by omega)))
  · have HA := hid (aft_late [.int .i64 n, .int .i64 q, .int .i64 c] 83 hb1 HB.out)
    generalize w1.alloc (.cells [.int .i64 n, .int .i64 q, .int .i64 c].toArray 83) = w2 at *
    generalize w1.heap.size = g at *
    clear hc1 hf1 hz1 x0 x1 hb1 e0 e1 c1
    have hA := HA.out
    have e0' : w2.cell? ⟨b, 0, none⟩ = some (.string t) := by rw [Lib.cell_of_heap hA.hb]; rfl
    have e1' : w2.cell? ⟨b, 1, none⟩ = some (.int .i64 a) := by rw [Lib.cell_of_heap hA.hb]; rfl
    have e2' : w2.cell? ⟨b, 2, none⟩ = some (.bool true) := by rw [Lib.cell_of_heap hA.hb]; rfl
    have y0 : w2.cell? ⟨g, 0, none⟩ = some (.int .i64 n) := by rw [Lib.cell_of_heap hA.hg]; rfl
    have y1 : w2.cell? ⟨g, 1, none⟩ = some (.int .i64 q) := by rw [Lib.cell_of_heap hA.hg]; rfl
    have y2 : w2.cell? ⟨g, 2, none⟩ = some (.int .i64 c) := by rw [Lib.cell_of_heap hA.hg]; rfl
    have fb : ∀ j, w2.frozen? ⟨b, j, none⟩ = false := fun j => Lib.frozen_of_heap hA.hb j
    have hgb : g ≠ b := by have := hA.ge; omega
    clear hA
    go_wp2
    go_ret
    exact ⟨rfl, blk_set HA.out.hb _, grown_trans HA.out.gr (grown_set _ _ _ _)⟩
  · have HA := hid (aft_early [.int .i64 0, .int .i64 0, .int .i64 0] (.int .i64 n) (.int .i64 q) (.int .i64 c) 83 rfl hb1 HB.out)
    generalize ((w1.setCell ⟨w.heap.size, 0, none⟩ (.int .i64 n)).setCell ⟨w.heap.size, 1, none⟩ (.int .i64 q)).setCell ⟨w.heap.size, 2, none⟩ (.int .i64 c) = w2 at *
    obtain ⟨g, hg⟩ : ∃ g, w.heap.size = g := ⟨_, rfl⟩
    clear hc1 hf1 hz1 x0 x1 hb1 e0 e1 c1 m0
    rw [hg] at HA ⊢
    have hlt' : b < g := by omega
    clear hg hlt
    have hlt := hlt'
    have hA := HA.out
    have e0' : w2.cell? ⟨b, 0, none⟩ = some (.string t) := by rw [Lib.cell_of_heap hA.hb]; rfl
    have e1' : w2.cell? ⟨b, 1, none⟩ = some (.int .i64 a) := by rw [Lib.cell_of_heap hA.hb]; rfl
    have e2' : w2.cell? ⟨b, 2, none⟩ = some (.bool true) := by rw [Lib.cell_of_heap hA.hb]; rfl
    have y0 : w2.cell? ⟨g, 0, none⟩ = some (.int .i64 n) := by rw [Lib.cell_of_heap hA.hg]; rfl
    have y1 : w2.cell? ⟨g, 1, none⟩ = some (.int .i64 q) := by rw [Lib.cell_of_heap hA.hg]; rfl
    have y2 : w2.cell? ⟨g, 2, none⟩ = some (.int .i64 c) := by rw [Lib.cell_of_heap hA.hg]; rfl
    have fb : ∀ j, w2.frozen? ⟨b, j, none⟩ = false := fun j => Lib.frozen_of_heap hA.hb j
    have hgb : g ≠ b := by have := hA.ge; omega
    clear hA
    go_wp2
    go_ret
    exact ⟨rfl, blk_set HA.out.hb _, grown_trans HA.out.gr (grown_set _ _ _ _)⟩
set_option maxHeartbeats 1000000 in
set_option maxRecDepth 100000 in
theorem rdrText_ok (b : Nat) (t : ByteArray) (a q : Int) (n : ByteArray) (w : World) (hb : w.heap[b]? = some (.cells [.string t, .int .i64 a, .bool false].toArray 63 (0, 0)))
    (c1 : ∀ w, Calls Tryd.prog 63 #[.string t, .int .i64 a] w fun e w' => e = .returned (.agg #[.string n, .int .i64 q, .int .i64 0]) ∧ Below w.heap.size w w') :
    Calls Tryd.prog 52 #[.pointer (some ⟨b, 0, none⟩)] w fun e w' => e = .returned (.string n) ∧ w'.heap[b]? = some (.cells [.string t, .int .i64 q, .bool false].toArray 63 (0, 0)) ∧ w.grownBy w' (some b) := by
  have e0 : w.cell? ⟨b, 0, none⟩ = some (.string t) := by rw [Lib.cell_of_heap hb]; rfl
  have e1 : w.cell? ⟨b, 1, none⟩ = some (.int .i64 a) := by rw [Lib.cell_of_heap hb]; rfl
  have HB := hid hb
  have hlt := lt_heap hb
  have m0 := World.new_ne w ⟨b, 0, none⟩ e0
  clear hb
  go_enter Tryd.func52, Tryd.ntmps52
  go_wp2
  go_region_held3 (fun w' => w'.cell? ⟨b, 0, none⟩ = some (.string t) ∧ w'.cell? ⟨b, 1, none⟩ = some (.int .i64 a)) (go_keep) (first | (go_at_call 63; refine (c1 _).mono ?_; rintro e w1 ⟨rfl, hb1⟩; obtain ⟨hc1, hf1⟩ := bcell hb1; have hz1 := hb1.size; simp at hc1 hf1 hz1; have x0 := hc1 b 0 (by omega); have x1 := hc1 b 1 (by omega)))
  · have HA := hid (aft_late [.string n, .int .i64 q, .int .i64 0] 86 hb1 HB.out)
    generalize w1.alloc (.cells [.string n, .int .i64 q, .int .i64 0].toArray 86) = w2 at *
    generalize w1.heap.size = g at *
    clear hc1 hf1 hz1 x0 x1 hb1 e0 e1 c1
    have hA := HA.out
    have e0' : w2.cell? ⟨b, 0, none⟩ = some (.string t) := by rw [Lib.cell_of_heap hA.hb]; rfl
    have e1' : w2.cell? ⟨b, 1, none⟩ = some (.int .i64 a) := by rw [Lib.cell_of_heap hA.hb]; rfl
    have e2' : w2.cell? ⟨b, 2, none⟩ = some (.bool false) := by rw [Lib.cell_of_heap hA.hb]; rfl
    have y0 : w2.cell? ⟨g, 0, none⟩ = some (.string n) := by rw [Lib.cell_of_heap hA.hg]; rfl
    have y1 : w2.cell? ⟨g, 1, none⟩ = some (.int .i64 q) := by rw [Lib.cell_of_heap hA.hg]; rfl
    have y2 : w2.cell? ⟨g, 2, none⟩ = some (.int .i64 0) := by rw [Lib.cell_of_heap hA.hg]; rfl
    have fb : ∀ j, w2.frozen? ⟨b, j, none⟩ = false := fun j => Lib.frozen_of_heap hA.hb j
    have hgb : g ≠ b := by have := hA.ge; omega
    clear hA
    go_wp2
    go_ret
    exact ⟨rfl, blk_set HA.out.hb _, grown_trans HA.out.gr (grown_set _ _ _ _)⟩
  · have HA := hid (aft_early [.string ⟨#[]⟩, .int .i64 0, .int .i64 0] (.string n) (.int .i64 q) (.int .i64 0) 86 rfl hb1 HB.out)
    generalize ((w1.setCell ⟨w.heap.size, 0, none⟩ (.string n)).setCell ⟨w.heap.size, 1, none⟩ (.int .i64 q)).setCell ⟨w.heap.size, 2, none⟩ (.int .i64 0) = w2 at *
    obtain ⟨g, hg⟩ : ∃ g, w.heap.size = g := ⟨_, rfl⟩
    clear hc1 hf1 hz1 x0 x1 hb1 e0 e1 c1 m0
    rw [hg] at HA ⊢
    have hlt' : b < g := by omega
    clear hg hlt
    have hlt := hlt'
    have hA := HA.out
    have e0' : w2.cell? ⟨b, 0, none⟩ = some (.string t) := by rw [Lib.cell_of_heap hA.hb]; rfl
    have e1' : w2.cell? ⟨b, 1, none⟩ = some (.int .i64 a) := by rw [Lib.cell_of_heap hA.hb]; rfl
    have e2' : w2.cell? ⟨b, 2, none⟩ = some (.bool false) := by rw [Lib.cell_of_heap hA.hb]; rfl
    have y0 : w2.cell? ⟨g, 0, none⟩ = some (.string n) := by rw [Lib.cell_of_heap hA.hg]; rfl
    have y1 : w2.cell? ⟨g, 1, none⟩ = some (.int .i64 q) := by rw [Lib.cell_of_heap hA.hg]; rfl
    have y2 : w2.cell? ⟨g, 2, none⟩ = some (.int .i64 0) := by rw [Lib.cell_of_heap hA.hg]; rfl
    have fb : ∀ j, w2.frozen? ⟨b, j, none⟩ = false := fun j => Lib.frozen_of_heap hA.hb j
    have hgb : g ≠ b := by have := hA.ge; omega
    clear hA
    go_wp2
    go_ret
    exact ⟨rfl, blk_set HA.out.hb _, grown_trans HA.out.gr (grown_set _ _ _ _)⟩
set_option maxHeartbeats 1000000 in
set_option maxRecDepth 100000 in
theorem rdrText_bad (b : Nat) (t : ByteArray) (a q : Int) (n : ByteArray) (c : Int) (w : World) (hb : w.heap[b]? = some (.cells [.string t, .int .i64 a, .bool false].toArray 63 (0, 0)))
    (c1 : ∀ w, Calls Tryd.prog 63 #[.string t, .int .i64 a] w fun e w' => e = .returned (.agg #[.string n, .int .i64 q, .int .i64 c]) ∧ Below w.heap.size w w') (hc : (c != 0) = true) :
    Calls Tryd.prog 52 #[.pointer (some ⟨b, 0, none⟩)] w fun e w' => e = .returned (.string ⟨#[]⟩) ∧ w'.heap[b]? = some (.cells [.string t, .int .i64 a, .bool true].toArray 63 (0, 0)) ∧ w.grownBy w' (some b) := by
  have e0 : w.cell? ⟨b, 0, none⟩ = some (.string t) := by rw [Lib.cell_of_heap hb]; rfl
  have e1 : w.cell? ⟨b, 1, none⟩ = some (.int .i64 a) := by rw [Lib.cell_of_heap hb]; rfl
  have HB := hid hb
  have hlt := lt_heap hb
  have m0 := World.new_ne w ⟨b, 0, none⟩ e0
  clear hb
  go_enter Tryd.func52, Tryd.ntmps52
  go_wp2
  go_region_held3 (fun w' => w'.cell? ⟨b, 0, none⟩ = some (.string t) ∧ w'.cell? ⟨b, 1, none⟩ = some (.int .i64 a)) (go_keep) (first | (go_at_call 63; refine (c1 _).mono ?_; rintro e w1 ⟨rfl, hb1⟩; obtain ⟨hc1, hf1⟩ := bcell hb1; have hz1 := hb1.size; simp at hc1 hf1 hz1; have x0 := hc1 b 0 (by omega); have x1 := hc1 b 1 (by omega)))
  · have HA := hid (aft_late [.string n, .int .i64 q, .int .i64 c] 86 hb1 HB.out)
    generalize w1.alloc (.cells [.string n, .int .i64 q, .int .i64 c].toArray 86) = w2 at *
    generalize w1.heap.size = g at *
    clear hc1 hf1 hz1 x0 x1 hb1 e0 e1 c1
    have hA := HA.out
    have e0' : w2.cell? ⟨b, 0, none⟩ = some (.string t) := by rw [Lib.cell_of_heap hA.hb]; rfl
    have e1' : w2.cell? ⟨b, 1, none⟩ = some (.int .i64 a) := by rw [Lib.cell_of_heap hA.hb]; rfl
    have e2' : w2.cell? ⟨b, 2, none⟩ = some (.bool false) := by rw [Lib.cell_of_heap hA.hb]; rfl
    have y0 : w2.cell? ⟨g, 0, none⟩ = some (.string n) := by rw [Lib.cell_of_heap hA.hg]; rfl
    have y1 : w2.cell? ⟨g, 1, none⟩ = some (.int .i64 q) := by rw [Lib.cell_of_heap hA.hg]; rfl
    have y2 : w2.cell? ⟨g, 2, none⟩ = some (.int .i64 c) := by rw [Lib.cell_of_heap hA.hg]; rfl
    have fb : ∀ j, w2.frozen? ⟨b, j, none⟩ = false := fun j => Lib.frozen_of_heap hA.hb j
    have hgb : g ≠ b := by have := hA.ge; omega
    clear hA
    go_wp2
    go_ret
    exact ⟨rfl, blk_set HA.out.hb _, grown_trans HA.out.gr (grown_set _ _ _ _)⟩
  · have HA := hid (aft_early [.string ⟨#[]⟩, .int .i64 0, .int .i64 0] (.string n) (.int .i64 q) (.int .i64 c) 86 rfl hb1 HB.out)
    generalize ((w1.setCell ⟨w.heap.size, 0, none⟩ (.string n)).setCell ⟨w.heap.size, 1, none⟩ (.int .i64 q)).setCell ⟨w.heap.size, 2, none⟩ (.int .i64 c) = w2 at *
    obtain ⟨g, hg⟩ : ∃ g, w.heap.size = g := ⟨_, rfl⟩
    clear hc1 hf1 hz1 x0 x1 hb1 e0 e1 c1 m0
    rw [hg] at HA ⊢
    have hlt' : b < g := by omega
    clear hg hlt
    have hlt := hlt'
    have hA := HA.out
    have e0' : w2.cell? ⟨b, 0, none⟩ = some (.string t) := by rw [Lib.cell_of_heap hA.hb]; rfl
    have e1' : w2.cell? ⟨b, 1, none⟩ = some (.int .i64 a) := by rw [Lib.cell_of_heap hA.hb]; rfl
    have e2' : w2.cell? ⟨b, 2, none⟩ = some (.bool false) := by rw [Lib.cell_of_heap hA.hb]; rfl
    have y0 : w2.cell? ⟨g, 0, none⟩ = some (.string n) := by rw [Lib.cell_of_heap hA.hg]; rfl
    have y1 : w2.cell? ⟨g, 1, none⟩ = some (.int .i64 q) := by rw [Lib.cell_of_heap hA.hg]; rfl
    have y2 : w2.cell? ⟨g, 2, none⟩ = some (.int .i64 c) := by rw [Lib.cell_of_heap hA.hg]; rfl
    have fb : ∀ j, w2.frozen? ⟨b, j, none⟩ = false := fun j => Lib.frozen_of_heap hA.hb j
    have hgb : g ≠ b := by have := hA.ge; omega
    clear hA
    go_wp2
    go_ret
    exact ⟨rfl, blk_set HA.out.hb _, grown_trans HA.out.gr (grown_set _ _ _ _)⟩
set_option maxHeartbeats 1000000 in
set_option maxRecDepth 100000 in
theorem rdrText_still (b : Nat) (t : ByteArray) (a q : Int) (n : ByteArray) (c : Int) (w : World) (hb : w.heap[b]? = some (.cells [.string t, .int .i64 a, .bool true].toArray 63 (0, 0)))
    (c1 : ∀ w, Calls Tryd.prog 63 #[.string t, .int .i64 a] w fun e w' => e = .returned (.agg #[.string n, .int .i64 q, .int .i64 c]) ∧ Below w.heap.size w w') :
    Calls Tryd.prog 52 #[.pointer (some ⟨b, 0, none⟩)] w fun e w' => e = .returned (.string ⟨#[]⟩) ∧ w'.heap[b]? = some (.cells [.string t, .int .i64 a, .bool true].toArray 63 (0, 0)) ∧ w.grownBy w' (some b) := by
  have e0 : w.cell? ⟨b, 0, none⟩ = some (.string t) := by rw [Lib.cell_of_heap hb]; rfl
  have e1 : w.cell? ⟨b, 1, none⟩ = some (.int .i64 a) := by rw [Lib.cell_of_heap hb]; rfl
  have HB := hid hb
  have hlt := lt_heap hb
  have m0 := World.new_ne w ⟨b, 0, none⟩ e0
  clear hb
  go_enter Tryd.func52, Tryd.ntmps52
  go_wp2
  go_region_held3 (fun w' => w'.cell? ⟨b, 0, none⟩ = some (.string t) ∧ w'.cell? ⟨b, 1, none⟩ = some (.int .i64 a)) (go_keep) (first | (go_at_call 63; refine (c1 _).mono ?_; rintro e w1 ⟨rfl, hb1⟩; obtain ⟨hc1, hf1⟩ := bcell hb1; have hz1 := hb1.size; simp at hc1 hf1 hz1; have x0 := hc1 b 0 (by omega); have x1 := hc1 b 1 (by omega)))
  · have HA := hid (aft_late [.string n, .int .i64 q, .int .i64 c] 86 hb1 HB.out)
    generalize w1.alloc (.cells [.string n, .int .i64 q, .int .i64 c].toArray 86) = w2 at *
    generalize w1.heap.size = g at *
    clear hc1 hf1 hz1 x0 x1 hb1 e0 e1 c1
    have hA := HA.out
    have e0' : w2.cell? ⟨b, 0, none⟩ = some (.string t) := by rw [Lib.cell_of_heap hA.hb]; rfl
    have e1' : w2.cell? ⟨b, 1, none⟩ = some (.int .i64 a) := by rw [Lib.cell_of_heap hA.hb]; rfl
    have e2' : w2.cell? ⟨b, 2, none⟩ = some (.bool true) := by rw [Lib.cell_of_heap hA.hb]; rfl
    have y0 : w2.cell? ⟨g, 0, none⟩ = some (.string n) := by rw [Lib.cell_of_heap hA.hg]; rfl
    have y1 : w2.cell? ⟨g, 1, none⟩ = some (.int .i64 q) := by rw [Lib.cell_of_heap hA.hg]; rfl
    have y2 : w2.cell? ⟨g, 2, none⟩ = some (.int .i64 c) := by rw [Lib.cell_of_heap hA.hg]; rfl
    have fb : ∀ j, w2.frozen? ⟨b, j, none⟩ = false := fun j => Lib.frozen_of_heap hA.hb j
    have hgb : g ≠ b := by have := hA.ge; omega
    clear hA
    go_wp2
    go_ret
    exact ⟨rfl, blk_set HA.out.hb _, grown_trans HA.out.gr (grown_set _ _ _ _)⟩
  · have HA := hid (aft_early [.string ⟨#[]⟩, .int .i64 0, .int .i64 0] (.string n) (.int .i64 q) (.int .i64 c) 86 rfl hb1 HB.out)
    generalize ((w1.setCell ⟨w.heap.size, 0, none⟩ (.string n)).setCell ⟨w.heap.size, 1, none⟩ (.int .i64 q)).setCell ⟨w.heap.size, 2, none⟩ (.int .i64 c) = w2 at *
    obtain ⟨g, hg⟩ : ∃ g, w.heap.size = g := ⟨_, rfl⟩
    clear hc1 hf1 hz1 x0 x1 hb1 e0 e1 c1 m0
    rw [hg] at HA ⊢
    have hlt' : b < g := by omega
    clear hg hlt
    have hlt := hlt'
    have hA := HA.out
    have e0' : w2.cell? ⟨b, 0, none⟩ = some (.string t) := by rw [Lib.cell_of_heap hA.hb]; rfl
    have e1' : w2.cell? ⟨b, 1, none⟩ = some (.int .i64 a) := by rw [Lib.cell_of_heap hA.hb]; rfl
    have e2' : w2.cell? ⟨b, 2, none⟩ = some (.bool true) := by rw [Lib.cell_of_heap hA.hb]; rfl
    have y0 : w2.cell? ⟨g, 0, none⟩ = some (.string n) := by rw [Lib.cell_of_heap hA.hg]; rfl
    have y1 : w2.cell? ⟨g, 1, none⟩ = some (.int .i64 q) := by rw [Lib.cell_of_heap hA.hg]; rfl
    have y2 : w2.cell? ⟨g, 2, none⟩ = some (.int .i64 c) := by rw [Lib.cell_of_heap hA.hg]; rfl
    have fb : ∀ j, w2.frozen? ⟨b, j, none⟩ = false := fun j => Lib.frozen_of_heap hA.hb j
    have hgb : g ≠ b := by have := hA.ge; omega
    clear hA
    go_wp2
    go_ret
    exact ⟨rfl, blk_set HA.out.hb _, grown_trans HA.out.gr (grown_set _ _ _ _)⟩
end Go.Proofs.YticnffakngpkfaaDoor
