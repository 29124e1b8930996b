/-
  What impl.isTime, spec.l02Is and spec.l02Time answer: contracts over the seat's program.
-/
import Derived.Test.YtmffliikenimnaaNm
namespace Go.Proofs.Ytmffliikenimnaa
open Go.RowKit

def numB (n : Int) : Bool := decide (1 ≤ n) && decide (n ≤ 1000000)
def timB (n : Int) : Bool := decide (0 ≤ n) && decide (n ≤ 1000000)
theorem rng_yes {a b n : Int} (h1 : a ≤ n) (h2 : n ≤ b) : (decide (a ≤ n) && decide (n ≤ b)) = true := by simp [h1, h2]
theorem rng_no {a b n : Int} (h : ¬ (a ≤ n ∧ n ≤ b)) : (decide (a ≤ n) && decide (n ≤ b)) = false := by
  rw [Bool.and_eq_false_iff]; simp; omega
theorem rng_walk {P : Program} {f : FuncId} {args : Array Value} {a b n : Int}
    (c1 : a ≤ n → n ≤ b → ∀ w, Calls P f args w fun e w' => e = .returned (.bool true) ∧ w' = w) (c2 : a ≤ n → decide (n ≤ b) = false → ∀ w, Calls P f args w fun e w' => e = .returned (.bool false) ∧ w' = w)
    (c3 : n < a → ∀ w, Calls P f args w fun e w' => e = .returned (.bool false) ∧ w' = w) (w : World) : Calls P f args w fun e w' => e = .returned (.bool (decide (a ≤ n) && decide (n ≤ b))) ∧ w' = w := by
  by_cases h1 : a ≤ n
  · by_cases h2 : n ≤ b
    · rw [rng_yes h1 h2]; exact c1 h1 h2 w
    · rw [rng_no (fun h => h2 h.2)]; exact c2 h1 (by simpa using h2) w
  · rw [rng_no (fun h => h1 h.1)]; exact c3 (by omega) w

theorem isTime_any (n : Int) (w : World) :
    Calls Try.prog 43 #[.int .i64 n] w fun e w' => e = .returned (.bool (timB n)) ∧ w' = w := by
  refine rng_walk (fun h1 h2 w => ?_) (fun h1 h2 w => ?_) (fun h1 w => ?_) w
  all_goals
    go_enter Try.func43, Try.ntmps43
    go_wp2
    go_ret
    exact ⟨rfl, rfl⟩
theorem l02Is_any (n a b : Int) (w : World) :
    Calls Try.prog 51 #[.int .i64 n, .int .i64 a, .int .i64 b] w fun e w' => e = .returned (.bool (decide (a ≤ n) && decide (n ≤ b))) ∧ w' = w := by
  refine rng_walk (fun h1 h2 w => ?_) (fun h1 h2 w => ?_) (fun h1 w => ?_) w
  all_goals
    go_enter Try.func51, Try.ntmps51
    go_wp2
    go_ret
    exact ⟨rfl, rfl⟩
theorem l02Time_any (n : Int) (w : World) :
    Calls Try.prog 39 #[.int .i64 n] w fun e w' => e = .returned (.bool (timB n)) ∧ w' = w := by
  have c1 := fun w => l02Is_any n 0 1000000 w
  change ∀ w, Calls Try.prog 51 _ w fun e w' => e = .returned (.bool (timB n)) ∧ w' = w at c1
  generalize timB n = B at *
  go_enter Try.func39, Try.ntmps39
  go_wp2_with (go_at_call 51; refine (c1 _).mono ?_; rintro e w1 ⟨rfl, rfl⟩)
  go_ret
  exact ⟨rfl, rfl⟩
end Go.Proofs.Ytmffliikenimnaa
