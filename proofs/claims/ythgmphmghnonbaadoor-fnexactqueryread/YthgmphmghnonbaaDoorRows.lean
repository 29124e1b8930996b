/-
  NARROWER THAN 'FOR EVERY INPUT', by the rows' own cells (each row's printed sentence says how): FnExactQueryRead: ifaces, laid.
  DERIVED. THE GIVEN ROWS OF THIS SEAT. 1 by the template 'for every input the law returns true; each argument reads behind the call as it read before'; 0 by the template 'total and deterministic' (their statements: YthgmphmghnonbaaDoorTotals.lean).
  GIVEN WITH THE SEED: the statements are not yours to turn. If you find one false, say at which input.
  Laid BY PROGRAM, IN A SANDBOX (cutbox-rows.mjs): the forced cells as the released guide's own fill.sh prints them over the translation 682c2592acde8622… (all of the seat's roots in one cut). By AI agents, Wed Nov 11 2026. No macro, syntax, notation, axiom, sorry.
-/
import Derived.Test.YthgmphmghnonbaaDoorChecked
import GoSem.Claim
import GoSem.ClaimJoined
import GoSem.ClaimMapViews
import Derived.JoinedTies
import Derived.KernelRfl
namespace Go.Proofs.YthgmphmghnonbaaDoor
/- THE CELL 'sum', in the pinned program and in every row, IS THE sha256 OF THE DUMP (.gsa) THAT YthgmphmghnonbaaDoorProg.lean LOADS. Nothing in Lean hashes anything: it is a label: what it is worth is what the hold of that sum in a sandbox is worth. -/
noncomputable def Tryd.pinned : Pinned := { name := "ythgmphmghnonbaadoor", sum := "682c2592acde8622769d018318607a7ef34aecb47942dbc729e168972cc4459c", checked := Tryd.checked }
namespace Rows
def none {H : Type} : Left H := { results := [], args := [] }

/- WHAT THE LISTED PACKAGE-LEVEL VARIABLES READ AS WHEN THE CALL BEGINS. Each datum BY PROGRAM (the guide's laid-datum.mjs) off the statement by which the dump's own 'gosem.cut.vars' lays the variable. In a bare row this is a premise. The card (YthgmphmghnonbaaDoorCards.lean) ties it to the program's text. -/
def laid_loop_example_g00366_impl_kindNames {H : Type} : DataW H := .agg [.lit (.string [115, 116, 97, 114, 116]), .lit (.string [101, 110, 116, 101, 114]), .lit (.string [108, 101, 97, 118, 101]), .lit (.string [115, 101, 116]), .lit (.string [102, 97, 117, 108, 116]), .lit (.string [101, 110, 100])]
def laid_loop_example_g00366_impl_errWord {H : Type} : DataW H := .iface "*errors.errorString" (.ptr (.agg [.lit (.string [97, 32, 119, 111, 114, 100, 32, 116, 104, 97, 116, 32, 109, 97, 121, 32, 110, 111, 116, 32, 115, 116, 97, 110, 100, 32, 116, 104, 101, 114, 101])]))

/-- 'laws.FnExactQueryRead': WHATEVER THE INPUT: true; the input reads as it did. -/
def fnExactQueryReadSpec : ChangeSpec := { name := "fnExactQueryRead", vars := ["loop.example/g00366/impl.errWord", "loop.example/g00366/impl.kindNames"], fn := fun _ => fun
  | [d, g1, g2] => { results := [.lit (.bool true)], args := [d], vars := [g1, g2] }
  | _ => none }
def fnExactQueryReadRow : OpenClaim := { program := "ythgmphmghnonbaadoor", sum := "682c2592acde8622769d018318607a7ef34aecb47942dbc729e168972cc4459c", func := "loop.example/g00366/laws.FnExactQueryRead", spec := "fnExactQueryRead", unfollowed := true, recurses := true, named := ["loop.example/g00366/impl.errWord", "loop.example/g00366/impl.kindNames"], ifaces := true, apart := false, laid := [("loop.example/g00366/impl.kindNames", laid_loop_example_g00366_impl_kindNames), ("loop.example/g00366/impl.errWord", laid_loop_example_g00366_impl_errWord)] }
def FnExactQueryReadSaid : Prop := fnExactQueryReadRow.holds Tryd.pinned (OpenSpec.ofChange fnExactQueryReadSpec)

/-- ITS FALSE NEIGHBOUR: 'it returns false'. Refute it at one input. -/
def fnExactQueryReadWrong : ChangeSpec := { name := "fnExactQueryRead", vars := ["loop.example/g00366/impl.errWord", "loop.example/g00366/impl.kindNames"], fn := fun _ => fun
  | [d, g1, g2] => { results := [.lit (.bool false)], args := [d], vars := [g1, g2] }
  | _ => none }
def FnExactQueryReadWrongFalsely : Prop := fnExactQueryReadRow.holds Tryd.pinned (OpenSpec.ofChange fnExactQueryReadWrong)

/- THE SECOND FORM. 'bulk': how many values and letters a reading holds, each counted each time it is reached (what is shared counts as often as it is met; a slice's spare places count too). A statement '..UptoSaid' is the law's where the arguments, and the package variables that the reading takes, are together of bulk at most 1048576: NARROWER than '..Said'. Prove '..Said' where nothing that the law and all that it calls make is longer than what came in: it says more and counts as full. Else prove '..UptoSaid'. A law counts once. -/
mutual
def uptoBulk {H : Type} : DataW H → Nat
  | .lit (.string bytes) => bytes.length + 1
  | .lit _ => 1
  | .nil => 1
  | .ptr d => uptoBulk d + 1
  | .slice elems spare => uptoBulkAll elems + uptoBulkAll spare + 1
  | .agg parts => uptoBulkAll parts + 1
  | .iface _ d => uptoBulk d + 1
  | .map entries => uptoBulkEntries entries + 1
  | .held _ => 1
def uptoBulkAll {H : Type} : List (DataW H) → Nat
  | [] => 0
  | d :: r => uptoBulk d + uptoBulkAll r
def uptoBulkEntries {H : Type} : List (Lit × DataW H) → Nat
  | [] => 0
  | x :: r => uptoBulkEntry x + uptoBulkEntries r
def uptoBulkEntry {H : Type} : Lit × DataW H → Nat
  | (.string bytes, d) => bytes.length + uptoBulk d + 1
  | (_, d) => uptoBulk d + 1
 end
def uptoSmall : (H : Type) → List (DataW H) → Bool := fun _ ds => decide (uptoBulkAll ds ≤ 1048576)
def OpenSpec.upto (s : _root_.Go.ChangeSpec) : _root_.Go.OpenSpec := { _root_.Go.OpenSpec.ofChange s with cond := some uptoSmall }

/-- 'laws.FnExactQueryRead', WHERE WHAT IT READS IS OF BULK AT MOST 1048576: true; the input reads as it did. -/
def fnExactQueryReadUptoRow : OpenClaim := { program := "ythgmphmghnonbaadoor", sum := "682c2592acde8622769d018318607a7ef34aecb47942dbc729e168972cc4459c", func := "loop.example/g00366/laws.FnExactQueryRead", spec := "fnExactQueryRead", unfollowed := true, recurses := true, named := ["loop.example/g00366/impl.errWord", "loop.example/g00366/impl.kindNames"], ifaces := true, apart := false, laid := [("loop.example/g00366/impl.kindNames", laid_loop_example_g00366_impl_kindNames), ("loop.example/g00366/impl.errWord", laid_loop_example_g00366_impl_errWord)], narrowed := true }
def FnExactQueryReadUptoSaid : Prop := fnExactQueryReadUptoRow.holds Tryd.pinned (OpenSpec.upto fnExactQueryReadSpec)

end Rows
end Go.Proofs.YthgmphmghnonbaaDoor
