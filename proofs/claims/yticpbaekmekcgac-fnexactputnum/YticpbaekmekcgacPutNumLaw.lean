/-
  The law FnExactPutNum: spec.PutNum and impl.PutNum answer the same at every number.
-/
import Derived.Test.YticpbaekmekcgacPut
namespace Go.Proofs.Yticpbaekmekcgac
open Go.RowKit Put

theorem fnExactPutNum_walk (n : Int) (w : World) (hn : (Lit.int .i64 n).wf = true) :
    Calls Try.prog 3 #[.int .i64 n] w fun e w' => e = .returned (.bool true) ∧ Below w.heap.size w w' := by
  have hb := bounds_i64 hn
  have c1 := fun w => specPutNum_any n w hb.1 hb.2
  have c2 := fun w => implPutNum_any n w hb.1 hb.2
  generalize strOfNums (put 9 (foldI n).toNat) = S at c1 c2
  clear hb hn
  go_enter Try.func3, Try.ntmps3
  go_wp2_with (first | (go_at_call 7; refine (c1 _).mono ?_; rintro e w1 ⟨rfl, hb1⟩) | (go_at_call 8; refine (c2 _).mono ?_; rintro e w2 ⟨rfl, hb2⟩))
  go_ret
  exact ⟨rfl, hb1.trans (hb2.mono hb1.size)⟩
end Go.Proofs.Yticpbaekmekcgac
