/-
  The law FnExactEventRight: spec.EventRight and impl.EventRight answer the same at every event.
-/
import Derived.Test.YticnffakngpkfaaEvSp
namespace Go.Proofs.Yticnffakngpkfaa
open Go.RowKit

theorem szEvent_any (q t r k : Int) (s v : ByteArray) (left : Int) (w : World) (h0 : 0 ≤ left) (h1 : left ≤ 1048576) (hs : s.size ≤ maxLen) (hv : v.size ≤ maxLen) :
    Calls Try.prog 6 #[.agg #[.int .i64 q, .int .i64 t, .int .i64 r, .int .i64 k, .string s, .string v], .int .i64 left] w fun e w' =>
      e = .returned (.int .i64 (if (s.size : Int) + (v.size : Int) ≤ left then left - (s.size : Int) - (v.size : Int) else -1)) ∧ Below w.heap.size w w' := by
  unfold maxLen at hs hv
  by_cases hz : (s.size : Int) + (v.size : Int) ≤ left
  · rw [if_pos hz]
    go_enter Try.func6, Try.ntmps6
    go_wp2
    go_ret
    exact ⟨rfl, (Below.refl _ _).alloc (Nat.le_refl _) _⟩
  · rw [if_neg hz]
    by_cases hz2 : (s.size : Int) ≤ left
    · go_enter Try.func6, Try.ntmps6
      go_wp2
      go_ret
      exact ⟨rfl, (Below.refl _ _).alloc (Nat.le_refl _) _⟩
    · go_enter Try.func6, Try.ntmps6
      go_wp2
      go_ret
      exact ⟨rfl, (Below.refl _ _).alloc (Nat.le_refl _) _⟩

set_option maxRecDepth 100000 in
theorem toEvent_any (q t r k : Int) (s v : ByteArray) (w : World) :
    Calls Try.prog 8 #[.agg #[.int .i64 q, .int .i64 t, .int .i64 r, .int .i64 k, .string s, .string v]] w fun e w' =>
      e = .returned (.agg #[.int .i64 q, .int .i64 t, .int .i64 r, .int .i64 k, .string s, .string v]) ∧ Below w.heap.size w w' := by
  go_enter Try.func8, Try.ntmps8
  go_wp2
  exact bodyPost_ret (v := .agg #[.int .i64 q, .int .i64 t, .int .i64 r, .int .i64 k, .string s, .string v]) (by simp [results, Try.results8, go_sem]) rfl ⟨rfl, (below2 _ _ _).alloc (by simp; omega) _⟩

set_option maxRecDepth 100000 in
set_option maxHeartbeats 1000000 in
theorem fnExactEventRight_walk (q t r k : Int) (s v : ByteArray) (w : World) (hs : s.size ≤ maxLen) (hv : v.size ≤ maxLen) :
    Calls Try.prog 3 #[.agg #[.int .i64 q, .int .i64 t, .int .i64 r, .int .i64 k, .string s, .string v]] w fun e w' => e = .returned (.bool true) ∧ Below w.heap.size w w' := by
  have c1 := fun w => szEvent_any q t r k s v 1048576 w (by decide) (by decide) hs hv
  have c2 := fun w => toEvent_any q t r k s v w
  have c3 := fun w => specEventRight_any q t r k s v w hs
  have c4 := fun w => implEventRight_any q t r k s v w hs
  generalize evB ⟨q, t, r, k, s, v⟩ = B at *
  by_cases hz : (s.size : Int) + (v.size : Int) ≤ 1048576
  · rw [if_pos hz] at c1
    have hz0 : (0 : Int) ≤ 1048576 - (s.size : Int) - (v.size : Int) := by omega
    generalize (1048576 : Int) - (s.size : Int) - (v.size : Int) = L at *
    clear hs hv hz
    go_enter Try.func3, Try.ntmps3
    go_wp2_with fail
    refine (c1 _).mono ?_
    rintro e w1 ⟨rfl, hb1⟩
    have hbA : Below w.heap.size w w1 := ((Below.refl w.heap.size w).alloc (Nat.le_refl _) _).trans (hb1.mono (B' := w.heap.size) (by simp))
    obtain ⟨hc1, hf1⟩ := bcell hb1
    have hz1 := hb1.size
    simp at hc1 hz1
    have hc : ∀ o, w1.cell? ⟨w.heap.size, o, none⟩ = (w.alloc (.cells #[.int .i64 q, .int .i64 t, .int .i64 r, .int .i64 k, .string s, .string v] 23)).cell? ⟨w.heap.size, o, none⟩ := fun o => by rw [hc1 _ _ (by omega)]
    clear hc1 hf1 hb1 c1
    go_wp2_with fail
    refine (c2 _).mono ?_
    rintro e w2 ⟨rfl, hb2⟩
    have hz2 := hb2.size
    have hc' : ∀ o, w2.cell? ⟨w.heap.size, o, none⟩ = (w.alloc (.cells #[.int .i64 q, .int .i64 t, .int .i64 r, .int .i64 k, .string s, .string v] 23)).cell? ⟨w.heap.size, o, none⟩ := fun o => by rw [hb2.cell (p := ⟨w.heap.size, o, none⟩) (by show w.heap.size < _; omega), hc o]
    have hbB := hbA.trans (hb2.mono hbA.size)
    clear hc hbA hb2
    go_wp2_with fail
    refine (c3 _).mono ?_
    rintro e w3 ⟨rfl, hb3⟩
    have hz3 := hb3.size
    have hc : ∀ o, w3.cell? ⟨w.heap.size, o, none⟩ = (w.alloc (.cells #[.int .i64 q, .int .i64 t, .int .i64 r, .int .i64 k, .string s, .string v] 23)).cell? ⟨w.heap.size, o, none⟩ := fun o => by rw [hb3.cell (p := ⟨w.heap.size, o, none⟩) (by show w.heap.size < _; omega), hc' o]
    have hbC := hbB.trans (hb3.mono hbB.size)
    clear hc' hbB hb3 c3
    go_wp2_with fail
    refine (c2 _).mono ?_
    rintro e w4 ⟨rfl, hb4⟩
    have hbD := hbC.trans (hb4.mono hbC.size)
    clear hc hbC hb4
    go_wp2_with fail
    refine (c4 _).mono ?_
    rintro e w5 ⟨rfl, hb5⟩
    have hbE := hbD.trans (hb5.mono hbD.size)
    clear hbD hb5
    go_wp2
    go_ret
    exact ⟨rfl, hbE⟩
  · rw [if_neg hz] at c1
    clear hs hv hz
    go_enter Try.func3, Try.ntmps3
    go_wp2_with fail
    refine (c1 _).mono ?_
    rintro e w1 ⟨rfl, hb1⟩
    go_wp2
    go_ret
    exact ⟨rfl, ((Below.refl w.heap.size w).alloc (Nat.le_refl _) _).trans (hb1.mono (B' := w.heap.size) (by simp))⟩
end Go.Proofs.Yticnffakngpkfaa
