/-
  DERIVED. GIVEN WITH THE SEED: THE PROGRAM's TIES (one call each: nine closed facts by the kernel) AND EACH ROW's TIE, after the 31st guide's Derived/Test/Toyas{Tie, Card}.lean. No idea stands in it: it is a product of the set-up. Laid BY PROGRAM, IN A SANDBOX (cutbox-door.mjs). By AI agents, Wed Nov 11 2026. No macro, syntax, notation, axiom, sorry.
-/
import Derived.Test.YthgmphmghnonbaaDoorRows
import Derived.LaidByTextLater
import Derived.SevenTiedAt
import Derived.LaidSub
import Derived.LaidOnce
namespace Go.Proofs.YthgmphmghnonbaaDoor
open Go
set_option maxRecDepth 100000
theorem seatTie1 : Tryd.prog.laidByTextLater [("loop.example/g00366/impl.kindNames", Rows.laid_loop_example_g00366_impl_kindNames), ("loop.example/g00366/impl.errWord", Rows.laid_loop_example_g00366_impl_errWord)] [.data, .sentinel] true :=
  Program.laidByTextLater_by_one 33 8 7 (by kernel_rfl) (by kernel_rfl) (by kernel_rfl) (by kernel_rfl) (by kernel_rfl) (by kernel_rfl) (fun _ _ => by kernel_rfl)
theorem noOwnUnsafe : Tryd.pinned.checked.prog.headLifts.contains "ownunsafe" = false := by kernel_rfl
theorem tie : Tryd.prog.laidByTextLater [("loop.example/g00366/impl.kindNames", Rows.laid_loop_example_g00366_impl_kindNames), ("loop.example/g00366/impl.errWord", Rows.laid_loop_example_g00366_impl_errWord)] [.data, .sentinel] true :=
  Program.laidByTextLater.sub seatTie1 ["loop.example/g00366/impl.kindNames", "loop.example/g00366/impl.errWord"] (by kernel_rfl) (by kernel_rfl)
theorem fnExactQueryRead_row_tie : Rows.fnExactQueryReadRow.laidByTextAt .later Tryd.pinned [.data, .sentinel] true :=
  OpenClaim.laidByTextAt_later rfl rfl tie noOwnUnsafe
theorem fnExactQueryReadUpto_row_tie : Rows.fnExactQueryReadUptoRow.laidByTextAt .later Tryd.pinned [.data, .sentinel] true :=
  OpenClaim.laidByTextAt_later rfl rfl tie noOwnUnsafe
end Go.Proofs.YthgmphmghnonbaaDoor
