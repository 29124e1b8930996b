/-
  Two blocks laid: nothing old has turned. Of no function.
-/
import Derived.Test.YtdfkmhleikkhpaaGen
namespace Go.Proofs.Ytdfkmhleikkhpaa
open Go.RowKit

theorem below2 (w : World) (o1 o2 : Obj) : Below w.heap.size w ((w.alloc o1).alloc o2) := ((Below.refl _ _).alloc (Nat.le_refl _) o1).alloc (by simp) o2
end Go.Proofs.Ytdfkmhleikkhpaa
