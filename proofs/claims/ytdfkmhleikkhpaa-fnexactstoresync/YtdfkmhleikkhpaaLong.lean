/-
  What impl.tooLong answers: a contract over the seat's program.
-/
import Derived.Test.YtdfkmhleikkhpaaRows
import Derived.WalkKit
import Derived.WalkLawsBesides
namespace Go.Proofs.Ytdfkmhleikkhpaa
open Go.RowKit

theorem tooLong_any (s : ByteArray) (w : World) :
    Calls Try.prog 12 #[.string s] w fun e w' => e = .returned (.bool (decide (8000 < (s.size : Int)))) ∧ w' = w := by
  go_enter Try.func12, Try.ntmps12
  go_wp2
  go_ret
  exact ⟨rfl, rfl⟩

theorem tooLong_yes {s : ByteArray} (h : ¬ (s.size : Int) ≤ 8000) (w : World) :
    Calls Try.prog 12 #[.string s] w fun e w' => e = .returned (.bool true) ∧ w' = w := by
  have := tooLong_any s w
  rwa [show decide (8000 < (s.size : Int)) = true by simp; omega] at this
theorem tooLong_no {s : ByteArray} (h : (s.size : Int) ≤ 8000) (w : World) :
    Calls Try.prog 12 #[.string s] w fun e w' => e = .returned (.bool false) ∧ w' = w := by
  have := tooLong_any s w
  rwa [show decide (8000 < (s.size : Int)) = false by simp; omega] at this
end Go.Proofs.Ytdfkmhleikkhpaa
