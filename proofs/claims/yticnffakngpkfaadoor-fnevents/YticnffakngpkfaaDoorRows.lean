/-
  NARROWER THAN 'FOR EVERY INPUT', by the rows' own cells (each row's printed sentence says how): FnEvents: laid · FnExactKindText: laid.
  DERIVED. THE GIVEN ROWS OF THIS SEAT. 2 by the template 'for every input the law returns true; each argument reads behind the call as it read before'; 0 by the template 'total and deterministic' (their statements: YticnffakngpkfaaDoorTotals.lean).
  GIVEN WITH THE SEED: the statements are not yours to turn. If you find one false, say at which input.
  Laid BY PROGRAM, IN A SANDBOX (cutbox-rows.mjs): the forced cells as the released guide's own fill.sh prints them over the translation fac7bec3f48a325d… (all of the seat's roots in one cut). By AI agents, Wed Nov 11 2026. No macro, syntax, notation, axiom, sorry.
-/
import Derived.Test.YticnffakngpkfaaDoorChecked
import GoSem.Claim
import GoSem.ClaimJoined
import GoSem.ClaimMapViews
import Derived.JoinedTies
import Derived.KernelRfl
namespace Go.Proofs.YticnffakngpkfaaDoor
/- THE CELL 'sum', in the pinned program and in every row, IS THE sha256 OF THE DUMP (.gsa) THAT YticnffakngpkfaaDoorProg.lean LOADS. Nothing in Lean hashes anything: it is a label: what it is worth is what the hold of that sum in a sandbox is worth. -/
noncomputable def Tryd.pinned : Pinned := { name := "yticnffakngpkfaadoor", sum := "fac7bec3f48a325d7d474891d3bc1908183242161afa231f4e47e436fd9b1a29", checked := Tryd.checked }
namespace Rows
def none {H : Type} : Left H := { results := [], args := [] }

/- WHAT THE LISTED PACKAGE-LEVEL VARIABLES READ AS WHEN THE CALL BEGINS. Each datum BY PROGRAM (the guide's laid-datum.mjs) off the statement by which the dump's own 'gosem.cut.vars' lays the variable. In a bare row this is a premise. The card (YticnffakngpkfaaDoorCards.lean) ties it to the program's text. -/
def laid_loop_example_g00366_impl_kindNames {H : Type} : DataW H := .agg [.lit (.string [115, 116, 97, 114, 116]), .lit (.string [101, 110, 116, 101, 114]), .lit (.string [108, 101, 97, 118, 101]), .lit (.string [115, 101, 116]), .lit (.string [102, 97, 117, 108, 116]), .lit (.string [101, 110, 100])]

/-- 'laws.FnEvents': WHATEVER THE INPUT: true; the input reads as it did. -/
def fnEventsSpec : ChangeSpec := { name := "fnEvents", vars := ["loop.example/g00366/impl.kindNames"], fn := fun _ => fun
  | [d1, d2, g1] => { results := [.lit (.bool true)], args := [d1, d2], vars := [g1] }
  | _ => none }
def fnEventsRow : OpenClaim := { program := "yticnffakngpkfaadoor", sum := "fac7bec3f48a325d7d474891d3bc1908183242161afa231f4e47e436fd9b1a29", func := "loop.example/g00366/laws.FnEvents", spec := "fnEvents", inPlace := ["internal/abi.NoEscape"], unfollowed := true, recurses := true, named := ["loop.example/g00366/impl.kindNames"], apart := false, laid := [("loop.example/g00366/impl.kindNames", laid_loop_example_g00366_impl_kindNames)] }
def FnEventsSaid : Prop := fnEventsRow.holds Tryd.pinned (OpenSpec.ofChange fnEventsSpec)

/-- ITS FALSE NEIGHBOUR: 'it returns false'. Refute it at one input. -/
def fnEventsWrong : ChangeSpec := { name := "fnEvents", vars := ["loop.example/g00366/impl.kindNames"], fn := fun _ => fun
  | [d1, d2, g1] => { results := [.lit (.bool false)], args := [d1, d2], vars := [g1] }
  | _ => none }
def FnEventsWrongFalsely : Prop := fnEventsRow.holds Tryd.pinned (OpenSpec.ofChange fnEventsWrong)

/-- 'laws.FnExactKindText': WHATEVER THE INPUT: true; the input reads as it did. -/
def fnExactKindTextSpec : ChangeSpec := { name := "fnExactKindText", vars := ["loop.example/g00366/impl.kindNames"], fn := fun _ => fun
  | [d, g1] => { results := [.lit (.bool true)], args := [d], vars := [g1] }
  | _ => none }
def fnExactKindTextRow : OpenClaim := { program := "yticnffakngpkfaadoor", sum := "fac7bec3f48a325d7d474891d3bc1908183242161afa231f4e47e436fd9b1a29", func := "loop.example/g00366/laws.FnExactKindText", spec := "fnExactKindText", named := ["loop.example/g00366/impl.kindNames"], apart := false, laid := [("loop.example/g00366/impl.kindNames", laid_loop_example_g00366_impl_kindNames)] }
def FnExactKindTextSaid : Prop := fnExactKindTextRow.holds Tryd.pinned (OpenSpec.ofChange fnExactKindTextSpec)

/-- ITS FALSE NEIGHBOUR: 'it returns false'. Refute it at one input. -/
def fnExactKindTextWrong : ChangeSpec := { name := "fnExactKindText", vars := ["loop.example/g00366/impl.kindNames"], fn := fun _ => fun
  | [d, g1] => { results := [.lit (.bool false)], args := [d], vars := [g1] }
  | _ => none }
def FnExactKindTextWrongFalsely : Prop := fnExactKindTextRow.holds Tryd.pinned (OpenSpec.ofChange fnExactKindTextWrong)

/- THE SECOND FORM. 'bulk': how many values and letters a reading holds, each counted each time it is reached (what is shared counts as often as it is met; a slice's spare places count too). A statement '..UptoSaid' is the law's where the arguments, and the package variables that the reading takes, are together of bulk at most 1048576: NARROWER than '..Said'. Prove '..Said' where nothing that the law and all that it calls make is longer than what came in: it says more and counts as full. Else prove '..UptoSaid'. A law counts once. -/
mutual
def uptoBulk {H : Type} : DataW H → Nat
  | .lit (.string bytes) => bytes.length + 1
  | .lit _ => 1
  | .nil => 1
  | .ptr d => uptoBulk d + 1
  | .slice elems spare => uptoBulkAll elems + uptoBulkAll spare + 1
  | .agg parts => uptoBulkAll parts + 1
  | .iface _ d => uptoBulk d + 1
  | .map entries => uptoBulkEntries entries + 1
  | .held _ => 1
def uptoBulkAll {H : Type} : List (DataW H) → Nat
  | [] => 0
  | d :: r => uptoBulk d + uptoBulkAll r
def uptoBulkEntries {H : Type} : List (Lit × DataW H) → Nat
  | [] => 0
  | x :: r => uptoBulkEntry x + uptoBulkEntries r
def uptoBulkEntry {H : Type} : Lit × DataW H → Nat
  | (.string bytes, d) => bytes.length + uptoBulk d + 1
  | (_, d) => uptoBulk d + 1
 end
def uptoSmall : (H : Type) → List (DataW H) → Bool := fun _ ds => decide (uptoBulkAll ds ≤ 1048576)
def OpenSpec.upto (s : _root_.Go.ChangeSpec) : _root_.Go.OpenSpec := { _root_.Go.OpenSpec.ofChange s with cond := some uptoSmall }

/-- 'laws.FnEvents', WHERE WHAT IT READS IS OF BULK AT MOST 1048576: true; the input reads as it did. -/
def fnEventsUptoRow : OpenClaim := { program := "yticnffakngpkfaadoor", sum := "fac7bec3f48a325d7d474891d3bc1908183242161afa231f4e47e436fd9b1a29", func := "loop.example/g00366/laws.FnEvents", spec := "fnEvents", inPlace := ["internal/abi.NoEscape"], unfollowed := true, recurses := true, named := ["loop.example/g00366/impl.kindNames"], apart := false, laid := [("loop.example/g00366/impl.kindNames", laid_loop_example_g00366_impl_kindNames)], narrowed := true }
def FnEventsUptoSaid : Prop := fnEventsUptoRow.holds Tryd.pinned (OpenSpec.upto fnEventsSpec)

/-- 'laws.FnExactKindText', WHERE WHAT IT READS IS OF BULK AT MOST 1048576: true; the input reads as it did. -/
def fnExactKindTextUptoRow : OpenClaim := { program := "yticnffakngpkfaadoor", sum := "fac7bec3f48a325d7d474891d3bc1908183242161afa231f4e47e436fd9b1a29", func := "loop.example/g00366/laws.FnExactKindText", spec := "fnExactKindText", named := ["loop.example/g00366/impl.kindNames"], apart := false, laid := [("loop.example/g00366/impl.kindNames", laid_loop_example_g00366_impl_kindNames)], narrowed := true }
def FnExactKindTextUptoSaid : Prop := fnExactKindTextUptoRow.holds Tryd.pinned (OpenSpec.upto fnExactKindTextSpec)

end Rows
end Go.Proofs.YticnffakngpkfaaDoor
