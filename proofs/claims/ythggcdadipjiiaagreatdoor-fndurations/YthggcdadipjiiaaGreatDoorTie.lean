/-
  DERIVED. GIVEN WITH THE SEED: THE PROGRAM's TIES (one call each: nine closed facts by the kernel) AND EACH ROW's TIE, after the 31st guide's Derived/Test/Toyas{Tie, Card}.lean. No idea stands in it: it is a product of the set-up. Laid BY PROGRAM, IN A SANDBOX (cutbox-door.mjs). By AI agents, Wed Nov 11 2026. No macro, syntax, notation, axiom, sorry.
-/
import Derived.Test.YthggcdadipjiiaaGreatDoorRows
import Derived.LaidByTextLater
import Derived.SevenTiedAt
import Derived.LaidSub
import Derived.LaidOnce
namespace Go.Proofs.YthggcdadipjiiaaGreatDoor
open Go
set_option maxRecDepth 100000
theorem seatTie1 : Tryz.prog.laidByTextLater [("loop.example/g00366/impl.errWrong", Rows.laid_loop_example_g00366_impl_errWrong), ("loop.example/g00366/impl.errStatus", Rows.laid_loop_example_g00366_impl_errStatus), ("loop.example/g00366/impl.errEarly", Rows.laid_loop_example_g00366_impl_errEarly), ("loop.example/g00366/impl.errNoMark", Rows.laid_loop_example_g00366_impl_errNoMark), ("loop.example/g00366/impl.errFull", Rows.laid_loop_example_g00366_impl_errFull)] [.sentinel, .sentinel, .sentinel, .sentinel, .sentinel] true :=
  Program.laidByTextLater_by_one 104 8 2 (by kernel_rfl) (by kernel_rfl) (by kernel_rfl) (by kernel_rfl) (by kernel_rfl) (by kernel_rfl) (fun _ _ => by kernel_rfl)
theorem noOwnUnsafe : Tryz.pinned.checked.prog.headLifts.contains "ownunsafe" = false := by kernel_rfl
theorem tie : Tryz.prog.laidByTextLater [("loop.example/g00366/impl.errWrong", Rows.laid_loop_example_g00366_impl_errWrong), ("loop.example/g00366/impl.errStatus", Rows.laid_loop_example_g00366_impl_errStatus), ("loop.example/g00366/impl.errEarly", Rows.laid_loop_example_g00366_impl_errEarly), ("loop.example/g00366/impl.errNoMark", Rows.laid_loop_example_g00366_impl_errNoMark), ("loop.example/g00366/impl.errFull", Rows.laid_loop_example_g00366_impl_errFull)] [.sentinel, .sentinel, .sentinel, .sentinel, .sentinel] true :=
  Program.laidByTextLater.sub seatTie1 ["loop.example/g00366/impl.errWrong", "loop.example/g00366/impl.errStatus", "loop.example/g00366/impl.errEarly", "loop.example/g00366/impl.errNoMark", "loop.example/g00366/impl.errFull"] (by kernel_rfl) (by kernel_rfl)
theorem fnDurations_row_tie : Rows.fnDurationsRow.laidByTextAt .later Tryz.pinned [.sentinel, .sentinel, .sentinel, .sentinel, .sentinel] true :=
  OpenClaim.laidByTextAt_later rfl rfl tie noOwnUnsafe
theorem fnExactDurations_row_tie : Rows.fnExactDurationsRow.laidByTextAt .later Tryz.pinned [.sentinel, .sentinel, .sentinel, .sentinel, .sentinel] true :=
  OpenClaim.laidByTextAt_later rfl rfl tie noOwnUnsafe
theorem fnDurationsUpto_row_tie : Rows.fnDurationsUptoRow.laidByTextAt .later Tryz.pinned [.sentinel, .sentinel, .sentinel, .sentinel, .sentinel] true :=
  OpenClaim.laidByTextAt_later rfl rfl tie noOwnUnsafe
theorem fnExactDurationsUpto_row_tie : Rows.fnExactDurationsUptoRow.laidByTextAt .later Tryz.pinned [.sentinel, .sentinel, .sentinel, .sentinel, .sentinel] true :=
  OpenClaim.laidByTextAt_later rfl rfl tie noOwnUnsafe
end Go.Proofs.YthggcdadipjiiaaGreatDoor
