/-
  What laws.eqTextOut answers at two answers that are the same: a contract over the seat's program.
-/
import Derived.Test.YticpbaekmekcgacDoorGen
namespace Go.Proofs.YticpbaekmekcgacDoor
open Go.RowKit

theorem eqTextOut_same (t : ByteArray) (a c : Int) (w : World) :
    Calls Tryd.prog 10 #[.agg #[.string t, .int .i64 a, .int .i64 c], .agg #[.string t, .int .i64 a, .int .i64 c]] w fun e w' => e = .returned (.bool true) ∧ Below w.heap.size w w' := by
  go_enter Tryd.func10, Tryd.ntmps10
  go_wp2
  go_ret
  exact ⟨rfl, ((Below.refl _ _).alloc (Nat.le_refl _) _).alloc (by simp) _⟩
end Go.Proofs.YticpbaekmekcgacDoor
