/-
  NARROWER THAN 'FOR EVERY INPUT', by the rows' own cells (each row's printed sentence says how): FnDurations: ifaces, laid · FnExactDurations: ifaces, laid.
  DERIVED. THE GIVEN ROWS OF THIS SEAT. 2 by the template 'for every input the law returns true; each argument reads behind the call as it read before'; 0 by the template 'total and deterministic' (their statements: YthggcdadipjiiaaGreatDoorTotals.lean).
  GIVEN WITH THE SEED: the statements are not yours to turn. If you find one false, say at which input.
  Laid BY PROGRAM, IN A SANDBOX (cutbox-rows.mjs): the forced cells as the released guide's own fill.sh prints them over the translation 81fa10269ecb1c4f… (all of the seat's roots in one cut). By AI agents, Wed Nov 11 2026. No macro, syntax, notation, axiom, sorry.
-/
import Derived.Test.YthggcdadipjiiaaGreatDoorChecked
import GoSem.Claim
import GoSem.ClaimJoined
import GoSem.ClaimMapViews
import Derived.JoinedTies
import Derived.KernelRfl
namespace Go.Proofs.YthggcdadipjiiaaGreatDoor
/- THE CELL 'sum', in the pinned program and in every row, IS THE sha256 OF THE DUMP (.gsa) THAT YthggcdadipjiiaaGreatDoorProg.lean LOADS. Nothing in Lean hashes anything: it is a label: what it is worth is what the hold of that sum in a sandbox is worth. -/
noncomputable def Tryz.pinned : Pinned := { name := "ythggcdadipjiiaagreatdoor", sum := "81fa10269ecb1c4f629d57b19fa80fa2411cc1453c209683cfbde63ede8264e0", checked := Tryz.checked }
namespace Rows
def none {H : Type} : Left H := { results := [], args := [] }

/- WHAT THE LISTED PACKAGE-LEVEL VARIABLES READ AS WHEN THE CALL BEGINS. Each datum BY PROGRAM (the guide's laid-datum.mjs) off the statement by which the dump's own 'gosem.cut.vars' lays the variable. In a bare row this is a premise. The card (YthggcdadipjiiaaGreatDoorCards.lean) ties it to the program's text. -/
def laid_loop_example_g00366_impl_errWrong {H : Type} : DataW H := .iface "*errors.errorString" (.ptr (.agg [.lit (.string [97, 32, 116, 104, 105, 110, 103, 32, 116, 104, 97, 116, 32, 105, 115, 32, 110, 111, 116, 32, 114, 105, 103, 104, 116])]))
def laid_loop_example_g00366_impl_errStatus {H : Type} : DataW H := .iface "*errors.errorString" (.ptr (.agg [.lit (.string [110, 111, 116, 104, 105, 110, 103, 32, 102, 111, 114, 32, 97, 32, 114, 117, 110, 32, 116, 104, 97, 116, 32, 115, 116, 97, 110, 100, 115, 32, 115, 111])]))
def laid_loop_example_g00366_impl_errEarly {H : Type} : DataW H := .iface "*errors.errorString" (.ptr (.agg [.lit (.string [97, 32, 116, 105, 109, 101, 32, 98, 101, 108, 111, 119, 32, 116, 104, 101, 32, 108, 97, 115, 116, 32, 111, 110, 101])]))
def laid_loop_example_g00366_impl_errNoMark {H : Type} : DataW H := .iface "*errors.errorString" (.ptr (.agg [.lit (.string [97, 32, 115, 116, 101, 112, 32, 119, 105, 116, 104, 111, 117, 116, 32, 97, 32, 109, 97, 114, 107])]))
def laid_loop_example_g00366_impl_errFull {H : Type} : DataW H := .iface "*errors.errorString" (.ptr (.agg [.lit (.string [109, 111, 114, 101, 32, 116, 104, 97, 110, 32, 116, 104, 101, 114, 101, 32, 109, 97, 121, 32, 98, 101])]))

/-- 'laws.FnDurations': WHATEVER THE INPUT: true; the input reads as it did. -/
def fnDurationsSpec : ChangeSpec := { name := "fnDurations", vars := ["loop.example/g00366/impl.errWrong", "loop.example/g00366/impl.errStatus", "loop.example/g00366/impl.errEarly", "loop.example/g00366/impl.errNoMark", "loop.example/g00366/impl.errFull"], fn := fun _ => fun
  | [d, g1, g2, g3, g4, g5] => { results := [.lit (.bool true)], args := [d], vars := [g1, g2, g3, g4, g5] }
  | _ => none }
def fnDurationsRow : OpenClaim := { program := "ythggcdadipjiiaagreatdoor", sum := "81fa10269ecb1c4f629d57b19fa80fa2411cc1453c209683cfbde63ede8264e0", func := "loop.example/g00366/laws.FnDurations", spec := "fnDurations", inPlace := ["internal/bytealg.abigen_runtime_cmpstring", "slices.overlaps[loop.example/g00366/impl.Var]", "internal/reflectlite.TypeOf"], unfollowed := true, recurses := true, named := ["loop.example/g00366/impl.errWrong", "loop.example/g00366/impl.errStatus", "loop.example/g00366/impl.errEarly", "loop.example/g00366/impl.errNoMark", "loop.example/g00366/impl.errFull"], ifaces := true, apart := false, laid := [("loop.example/g00366/impl.errWrong", laid_loop_example_g00366_impl_errWrong), ("loop.example/g00366/impl.errStatus", laid_loop_example_g00366_impl_errStatus), ("loop.example/g00366/impl.errEarly", laid_loop_example_g00366_impl_errEarly), ("loop.example/g00366/impl.errNoMark", laid_loop_example_g00366_impl_errNoMark), ("loop.example/g00366/impl.errFull", laid_loop_example_g00366_impl_errFull)] }
def FnDurationsSaid : Prop := fnDurationsRow.holds Tryz.pinned (OpenSpec.ofChange fnDurationsSpec)

/-- ITS FALSE NEIGHBOUR: 'it returns false'. Refute it at one input. -/
def fnDurationsWrong : ChangeSpec := { name := "fnDurations", vars := ["loop.example/g00366/impl.errWrong", "loop.example/g00366/impl.errStatus", "loop.example/g00366/impl.errEarly", "loop.example/g00366/impl.errNoMark", "loop.example/g00366/impl.errFull"], fn := fun _ => fun
  | [d, g1, g2, g3, g4, g5] => { results := [.lit (.bool false)], args := [d], vars := [g1, g2, g3, g4, g5] }
  | _ => none }
def FnDurationsWrongFalsely : Prop := fnDurationsRow.holds Tryz.pinned (OpenSpec.ofChange fnDurationsWrong)

/-- 'laws.FnExactDurations': WHATEVER THE INPUT: true; the input reads as it did. -/
def fnExactDurationsSpec : ChangeSpec := { name := "fnExactDurations", vars := ["loop.example/g00366/impl.errWrong", "loop.example/g00366/impl.errStatus", "loop.example/g00366/impl.errEarly", "loop.example/g00366/impl.errNoMark", "loop.example/g00366/impl.errFull"], fn := fun _ => fun
  | [d1, d2, g1, g2, g3, g4, g5] => { results := [.lit (.bool true)], args := [d1, d2], vars := [g1, g2, g3, g4, g5] }
  | _ => none }
def fnExactDurationsRow : OpenClaim := { program := "ythggcdadipjiiaagreatdoor", sum := "81fa10269ecb1c4f629d57b19fa80fa2411cc1453c209683cfbde63ede8264e0", func := "loop.example/g00366/laws.FnExactDurations", spec := "fnExactDurations", inPlace := ["internal/bytealg.abigen_runtime_cmpstring", "slices.overlaps[loop.example/g00366/impl.Var]", "internal/reflectlite.TypeOf"], unfollowed := true, recurses := true, named := ["loop.example/g00366/impl.errWrong", "loop.example/g00366/impl.errStatus", "loop.example/g00366/impl.errEarly", "loop.example/g00366/impl.errNoMark", "loop.example/g00366/impl.errFull"], ifaces := true, apart := false, laid := [("loop.example/g00366/impl.errWrong", laid_loop_example_g00366_impl_errWrong), ("loop.example/g00366/impl.errStatus", laid_loop_example_g00366_impl_errStatus), ("loop.example/g00366/impl.errEarly", laid_loop_example_g00366_impl_errEarly), ("loop.example/g00366/impl.errNoMark", laid_loop_example_g00366_impl_errNoMark), ("loop.example/g00366/impl.errFull", laid_loop_example_g00366_impl_errFull)] }
def FnExactDurationsSaid : Prop := fnExactDurationsRow.holds Tryz.pinned (OpenSpec.ofChange fnExactDurationsSpec)

/-- ITS FALSE NEIGHBOUR: 'it returns false'. Refute it at one input. -/
def fnExactDurationsWrong : ChangeSpec := { name := "fnExactDurations", vars := ["loop.example/g00366/impl.errWrong", "loop.example/g00366/impl.errStatus", "loop.example/g00366/impl.errEarly", "loop.example/g00366/impl.errNoMark", "loop.example/g00366/impl.errFull"], fn := fun _ => fun
  | [d1, d2, g1, g2, g3, g4, g5] => { results := [.lit (.bool false)], args := [d1, d2], vars := [g1, g2, g3, g4, g5] }
  | _ => none }
def FnExactDurationsWrongFalsely : Prop := fnExactDurationsRow.holds Tryz.pinned (OpenSpec.ofChange fnExactDurationsWrong)

/- THE SECOND FORM. 'bulk': how many values and letters a reading holds, each counted each time it is reached (what is shared counts as often as it is met; a slice's spare places count too). A statement '..UptoSaid' is the law's where the arguments, and the package variables that the reading takes, are together of bulk at most 1048576: NARROWER than '..Said'. Prove '..Said' where nothing that the law and all that it calls make is longer than what came in: it says more and counts as full. Else prove '..UptoSaid'. A law counts once. -/
mutual
def uptoBulk {H : Type} : DataW H → Nat
  | .lit (.string bytes) => bytes.length + 1
  | .lit _ => 1
  | .nil => 1
  | .ptr d => uptoBulk d + 1
  | .slice elems spare => uptoBulkAll elems + uptoBulkAll spare + 1
  | .agg parts => uptoBulkAll parts + 1
  | .iface _ d => uptoBulk d + 1
  | .map entries => uptoBulkEntries entries + 1
  | .held _ => 1
def uptoBulkAll {H : Type} : List (DataW H) → Nat
  | [] => 0
  | d :: r => uptoBulk d + uptoBulkAll r
def uptoBulkEntries {H : Type} : List (Lit × DataW H) → Nat
  | [] => 0
  | x :: r => uptoBulkEntry x + uptoBulkEntries r
def uptoBulkEntry {H : Type} : Lit × DataW H → Nat
  | (.string bytes, d) => bytes.length + uptoBulk d + 1
  | (_, d) => uptoBulk d + 1
 end
def uptoSmall : (H : Type) → List (DataW H) → Bool := fun _ ds => decide (uptoBulkAll ds ≤ 1048576)
def OpenSpec.upto (s : _root_.Go.ChangeSpec) : _root_.Go.OpenSpec := { _root_.Go.OpenSpec.ofChange s with cond := some uptoSmall }

/-- 'laws.FnDurations', WHERE WHAT IT READS IS OF BULK AT MOST 1048576: true; the input reads as it did. -/
def fnDurationsUptoRow : OpenClaim := { program := "ythggcdadipjiiaagreatdoor", sum := "81fa10269ecb1c4f629d57b19fa80fa2411cc1453c209683cfbde63ede8264e0", func := "loop.example/g00366/laws.FnDurations", spec := "fnDurations", inPlace := ["internal/bytealg.abigen_runtime_cmpstring", "slices.overlaps[loop.example/g00366/impl.Var]", "internal/reflectlite.TypeOf"], unfollowed := true, recurses := true, named := ["loop.example/g00366/impl.errWrong", "loop.example/g00366/impl.errStatus", "loop.example/g00366/impl.errEarly", "loop.example/g00366/impl.errNoMark", "loop.example/g00366/impl.errFull"], ifaces := true, apart := false, laid := [("loop.example/g00366/impl.errWrong", laid_loop_example_g00366_impl_errWrong), ("loop.example/g00366/impl.errStatus", laid_loop_example_g00366_impl_errStatus), ("loop.example/g00366/impl.errEarly", laid_loop_example_g00366_impl_errEarly), ("loop.example/g00366/impl.errNoMark", laid_loop_example_g00366_impl_errNoMark), ("loop.example/g00366/impl.errFull", laid_loop_example_g00366_impl_errFull)], narrowed := true }
def FnDurationsUptoSaid : Prop := fnDurationsUptoRow.holds Tryz.pinned (OpenSpec.upto fnDurationsSpec)

/-- 'laws.FnExactDurations', WHERE WHAT IT READS IS OF BULK AT MOST 1048576: true; the input reads as it did. -/
def fnExactDurationsUptoRow : OpenClaim := { program := "ythggcdadipjiiaagreatdoor", sum := "81fa10269ecb1c4f629d57b19fa80fa2411cc1453c209683cfbde63ede8264e0", func := "loop.example/g00366/laws.FnExactDurations", spec := "fnExactDurations", inPlace := ["internal/bytealg.abigen_runtime_cmpstring", "slices.overlaps[loop.example/g00366/impl.Var]", "internal/reflectlite.TypeOf"], unfollowed := true, recurses := true, named := ["loop.example/g00366/impl.errWrong", "loop.example/g00366/impl.errStatus", "loop.example/g00366/impl.errEarly", "loop.example/g00366/impl.errNoMark", "loop.example/g00366/impl.errFull"], ifaces := true, apart := false, laid := [("loop.example/g00366/impl.errWrong", laid_loop_example_g00366_impl_errWrong), ("loop.example/g00366/impl.errStatus", laid_loop_example_g00366_impl_errStatus), ("loop.example/g00366/impl.errEarly", laid_loop_example_g00366_impl_errEarly), ("loop.example/g00366/impl.errNoMark", laid_loop_example_g00366_impl_errNoMark), ("loop.example/g00366/impl.errFull", laid_loop_example_g00366_impl_errFull)], narrowed := true }
def FnExactDurationsUptoSaid : Prop := fnExactDurationsUptoRow.holds Tryz.pinned (OpenSpec.upto fnExactDurationsSpec)

end Rows
end Go.Proofs.YthggcdadipjiiaaGreatDoor
