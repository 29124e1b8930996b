/-
  What spec.GetNum and impl.numAt answer, for every text and place: contracts over the seat's program.
-/
import Derived.Test.YticnffakngpkfaaDoorGetS
import Derived.Test.YticnffakngpkfaaDoorGetI
import Derived.Test.YticnffakngpkfaaDoorLong
namespace Go.Proofs.YticnffakngpkfaaDoor.Get
open Go.RowKit

/-- What a number read at any place of any text comes to: (N, At, Code). -/
def gnA (s : ByteArray) (p : Int) : Int × Int × Int := if ¬ (s.size : Int) ≤ 8000 then (0, 0, 2) else if p < 0 then (0, 0, 1) else gn s p.toNat
theorem gnA_size {s : ByteArray} {p : Int} (h : ¬ (s.size : Int) ≤ 8000) : gnA s p = (0, 0, 2) := by simp only [gnA, h, not_false_eq_true, if_true]
theorem gnA_neg {s : ByteArray} {p : Int} (h : (s.size : Int) ≤ 8000) (hp : p < 0) : gnA s p = (0, 0, 1) := by simp only [gnA, h, not_true_eq_false, if_false, hp, if_true]
theorem gnA_in {s : ByteArray} {a : Nat} (h : (s.size : Int) ≤ 8000) : gnA s (a : Int) = gn s a := by
  simp only [gnA, h, not_true_eq_false, if_false, show ¬ (a : Int) < 0 by omega, Int.toNat_natCast]
theorem numR_code (x : Int × Nat × Nat) (a : Nat) : (numR x a).2.2 = 0 ∨ ((numR x a).1 = 0 ∧ (numR x a).2.1 = 0) := by
  unfold numR; split
  · exact .inl rfl
  · exact .inr ⟨rfl, rfl⟩
/-- With a code all else is nought. -/
theorem gnA_code (s : ByteArray) (p : Int) : (gnA s p).2.2 = 0 ∨ ((gnA s p).1 = 0 ∧ (gnA s p).2.1 = 0) := by
  unfold gnA
  split
  · exact .inr ⟨rfl, rfl⟩
  · split
    · exact .inr ⟨rfl, rfl⟩
    · exact numR_code _ _

theorem specGetNum_any (s : ByteArray) (p : Int) (w : World) (h2 : p ≤ 9223372036854775807) :
    Calls Tryd.prog 62 #[.string s, .int .i64 p] w fun e w' => e = .returned (numV (gnA s p)) ∧ Below w.heap.size w w' := by
  by_cases h1 : (s.size : Int) ≤ 8000
  · by_cases hp : p < 0
    · rw [gnA_neg h1 hp]
      go_enter Tryd.func62, Tryd.ntmps62
      go_wp2
      exact bodyPost_ret (v := .agg #[.int .i64 0, .int .i64 0, .int .i64 1]) (by simp [results, Tryd.results62, go_sem]) rfl ⟨rfl, (Below.refl _ _).alloc (Nat.le_refl _) _⟩
    · obtain ⟨a, rfl⟩ := Int.eq_ofNat_of_zero_le (show 0 ≤ p by omega)
      rw [gnA_in h1]
      exact specGetNum_in s a w h1 h2
  · rw [gnA_size h1]
    go_enter Tryd.func62, Tryd.ntmps62
    go_wp2
    exact bodyPost_ret (v := .agg #[.int .i64 0, .int .i64 0, .int .i64 2]) (by simp [results, Tryd.results62, go_sem]) rfl ⟨rfl, (Below.refl _ _).alloc (Nat.le_refl _) _⟩

theorem numAt_any (s : ByteArray) (p : Int) (w : World) (h2 : p ≤ 9223372036854775807) :
    Calls Tryd.prog 57 #[.string s, .int .i64 p] w fun e w' => e = .returned (rnV (gnA s p)) ∧ w' = w := by
  by_cases h1 : (s.size : Int) ≤ 8000
  · have c0 := fun w => tooLong_no h1 w
    by_cases hp : p < 0
    · rw [gnA_neg h1 hp]
      go_enter Tryd.func57, Tryd.ntmps57
      go_wp2_with (go_at_call 23; refine (c0 _).mono ?_; rintro e w1 ⟨rfl, rfl⟩)
      go_ret3
      exact ⟨rfl, rfl⟩
    · obtain ⟨a, rfl⟩ := Int.eq_ofNat_of_zero_le (show 0 ≤ p by omega)
      rw [gnA_in h1]
      have c1 := fun w => readNum_any s a w h1 h2
      unfold rnV at c1 ⊢
      generalize (gn s a).1 = x1 at *
      generalize (gn s a).2.1 = x2 at *
      generalize (if (gn s a).2.2 = 0 then Value.nilIface else Value.iface 91 (Value.agg #[Value.int IntKind.i64 (gn s a).2.2])) = x3 at *
      go_enter Tryd.func57, Tryd.ntmps57
      go_wp2_with (first | (go_at_call 23; refine (c0 _).mono ?_; rintro e w1 ⟨rfl, rfl⟩) | (go_at_call 65; refine (c1 _).mono ?_; rintro e w2 ⟨rfl, rfl⟩))
      go_ret3
      exact ⟨rfl, rfl⟩
  · have c0 := fun w => tooLong_yes h1 w
    rw [gnA_size h1]
    go_enter Tryd.func57, Tryd.ntmps57
    go_wp2_with (go_at_call 23; refine (c0 _).mono ?_; rintro e w1 ⟨rfl, rfl⟩)
    go_ret3
    exact ⟨rfl, rfl⟩
end Go.Proofs.YticnffakngpkfaaDoor.Get
