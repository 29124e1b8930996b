/-
  No cell of these rows narrows 'for every input' (looked for: loops, veiled, ifaces, maps, wideKeys, modest, calm, conditions, laid).
  DERIVED. THE GIVEN ROWS OF THIS SEAT. 3 by the template 'for every input the law returns true; each argument reads behind the call as it read before'; 0 by the template 'total and deterministic' (their statements: YticnffakngpkfaaTotals.lean).
  GIVEN WITH THE SEED: the statements are not yours to turn. If you find one false, say at which input.
  Laid BY PROGRAM, IN A SANDBOX (cutbox-rows.mjs): the forced cells as the released guide's own fill.sh prints them over the translation d9545ac3d1a15f2e… (all of the seat's roots in one cut). By AI agents, Wed Nov 11 2026. No macro, syntax, notation, axiom, sorry.
-/
import Derived.Test.YticnffakngpkfaaChecked
import GoSem.Claim
import GoSem.ClaimJoined
import GoSem.ClaimMapViews
import Derived.JoinedTies
import Derived.KernelRfl
namespace Go.Proofs.Yticnffakngpkfaa
/- THE CELL 'sum', in the pinned program and in every row, IS THE sha256 OF THE DUMP (.gsa) THAT YticnffakngpkfaaProg.lean LOADS. Nothing in Lean hashes anything: it is a label: what it is worth is what the hold of that sum in a sandbox is worth. -/
noncomputable def Try.pinned : Pinned := { name := "yticnffakngpkfaa", sum := "d9545ac3d1a15f2e5186c93e4d51c2027dc422956c867a1243b77251372d3e11", checked := Try.checked }
namespace Rows
def none {H : Type} : Left H := { results := [], args := [] }

/-- 'laws.FnExactEventRight': WHATEVER THE INPUT: true; the input reads as it did. -/
def fnExactEventRightSpec : ChangeSpec := { name := "fnExactEventRight", fn := fun _ => fun
  | [d] => { results := [.lit (.bool true)], args := [d] }
  | _ => none }
def fnExactEventRightRow : OpenClaim := { program := "yticnffakngpkfaa", sum := "d9545ac3d1a15f2e5186c93e4d51c2027dc422956c867a1243b77251372d3e11", func := "loop.example/g00366/laws.FnExactEventRight", spec := "fnExactEventRight", apart := false }
def FnExactEventRightSaid : Prop := fnExactEventRightRow.holds Try.pinned (OpenSpec.ofChange fnExactEventRightSpec)

/-- ITS FALSE NEIGHBOUR: 'it returns false'. Refute it at one input. -/
def fnExactEventRightWrong : ChangeSpec := { name := "fnExactEventRight", fn := fun _ => fun
  | [d] => { results := [.lit (.bool false)], args := [d] }
  | _ => none }
def FnExactEventRightWrongFalsely : Prop := fnExactEventRightRow.holds Try.pinned (OpenSpec.ofChange fnExactEventRightWrong)

/-- 'laws.FnExactEventsBytes': WHATEVER THE INPUT: true; the input reads as it did. -/
def fnExactEventsBytesSpec : ChangeSpec := { name := "fnExactEventsBytes", fn := fun _ => fun
  | [d] => { results := [.lit (.bool true)], args := [d] }
  | _ => none }
def fnExactEventsBytesRow : OpenClaim := { program := "yticnffakngpkfaa", sum := "d9545ac3d1a15f2e5186c93e4d51c2027dc422956c867a1243b77251372d3e11", func := "loop.example/g00366/laws.FnExactEventsBytes", spec := "fnExactEventsBytes", inPlace := ["internal/abi.NoEscape"], unfollowed := true, recurses := true, apart := false }
def FnExactEventsBytesSaid : Prop := fnExactEventsBytesRow.holds Try.pinned (OpenSpec.ofChange fnExactEventsBytesSpec)

/-- ITS FALSE NEIGHBOUR: 'it returns false'. Refute it at one input. -/
def fnExactEventsBytesWrong : ChangeSpec := { name := "fnExactEventsBytes", fn := fun _ => fun
  | [d] => { results := [.lit (.bool false)], args := [d] }
  | _ => none }
def FnExactEventsBytesWrongFalsely : Prop := fnExactEventsBytesRow.holds Try.pinned (OpenSpec.ofChange fnExactEventsBytesWrong)

/-- 'laws.FnExactEventsRead': WHATEVER THE INPUT: true; the input reads as it did. -/
def fnExactEventsReadSpec : ChangeSpec := { name := "fnExactEventsRead", fn := fun _ => fun
  | [d] => { results := [.lit (.bool true)], args := [d] }
  | _ => none }
def fnExactEventsReadRow : OpenClaim := { program := "yticnffakngpkfaa", sum := "d9545ac3d1a15f2e5186c93e4d51c2027dc422956c867a1243b77251372d3e11", func := "loop.example/g00366/laws.FnExactEventsRead", spec := "fnExactEventsRead", inPlace := ["internal/abi.NoEscape"], unfollowed := true, recurses := true, apart := false }
def FnExactEventsReadSaid : Prop := fnExactEventsReadRow.holds Try.pinned (OpenSpec.ofChange fnExactEventsReadSpec)

/-- ITS FALSE NEIGHBOUR: 'it returns false'. Refute it at one input. -/
def fnExactEventsReadWrong : ChangeSpec := { name := "fnExactEventsRead", fn := fun _ => fun
  | [d] => { results := [.lit (.bool false)], args := [d] }
  | _ => none }
def FnExactEventsReadWrongFalsely : Prop := fnExactEventsReadRow.holds Try.pinned (OpenSpec.ofChange fnExactEventsReadWrong)

/- THE SECOND FORM. 'bulk': how many values and letters a reading holds, each counted each time it is reached (what is shared counts as often as it is met; a slice's spare places count too). A statement '..UptoSaid' is the law's where the arguments, and the package variables that the reading takes, are together of bulk at most 1048576: NARROWER than '..Said'. Prove '..Said' where nothing that the law and all that it calls make is longer than what came in: it says more and counts as full. Else prove '..UptoSaid'. A law counts once. -/
mutual
def uptoBulk {H : Type} : DataW H → Nat
  | .lit (.string bytes) => bytes.length + 1
  | .lit _ => 1
  | .nil => 1
  | .ptr d => uptoBulk d + 1
  | .slice elems spare => uptoBulkAll elems + uptoBulkAll spare + 1
  | .agg parts => uptoBulkAll parts + 1
  | .iface _ d => uptoBulk d + 1
  | .map entries => uptoBulkEntries entries + 1
  | .held _ => 1
def uptoBulkAll {H : Type} : List (DataW H) → Nat
  | [] => 0
  | d :: r => uptoBulk d + uptoBulkAll r
def uptoBulkEntries {H : Type} : List (Lit × DataW H) → Nat
  | [] => 0
  | x :: r => uptoBulkEntry x + uptoBulkEntries r
def uptoBulkEntry {H : Type} : Lit × DataW H → Nat
  | (.string bytes, d) => bytes.length + uptoBulk d + 1
  | (_, d) => uptoBulk d + 1
 end
def uptoSmall : (H : Type) → List (DataW H) → Bool := fun _ ds => decide (uptoBulkAll ds ≤ 1048576)
def OpenSpec.upto (s : _root_.Go.ChangeSpec) : _root_.Go.OpenSpec := { _root_.Go.OpenSpec.ofChange s with cond := some uptoSmall }

/-- 'laws.FnExactEventRight', WHERE WHAT IT READS IS OF BULK AT MOST 1048576: true; the input reads as it did. -/
def fnExactEventRightUptoRow : OpenClaim := { program := "yticnffakngpkfaa", sum := "d9545ac3d1a15f2e5186c93e4d51c2027dc422956c867a1243b77251372d3e11", func := "loop.example/g00366/laws.FnExactEventRight", spec := "fnExactEventRight", apart := false, narrowed := true }
def FnExactEventRightUptoSaid : Prop := fnExactEventRightUptoRow.holds Try.pinned (OpenSpec.upto fnExactEventRightSpec)

/-- 'laws.FnExactEventsBytes', WHERE WHAT IT READS IS OF BULK AT MOST 1048576: true; the input reads as it did. -/
def fnExactEventsBytesUptoRow : OpenClaim := { program := "yticnffakngpkfaa", sum := "d9545ac3d1a15f2e5186c93e4d51c2027dc422956c867a1243b77251372d3e11", func := "loop.example/g00366/laws.FnExactEventsBytes", spec := "fnExactEventsBytes", inPlace := ["internal/abi.NoEscape"], unfollowed := true, recurses := true, apart := false, narrowed := true }
def FnExactEventsBytesUptoSaid : Prop := fnExactEventsBytesUptoRow.holds Try.pinned (OpenSpec.upto fnExactEventsBytesSpec)

/-- 'laws.FnExactEventsRead', WHERE WHAT IT READS IS OF BULK AT MOST 1048576: true; the input reads as it did. -/
def fnExactEventsReadUptoRow : OpenClaim := { program := "yticnffakngpkfaa", sum := "d9545ac3d1a15f2e5186c93e4d51c2027dc422956c867a1243b77251372d3e11", func := "loop.example/g00366/laws.FnExactEventsRead", spec := "fnExactEventsRead", inPlace := ["internal/abi.NoEscape"], unfollowed := true, recurses := true, apart := false, narrowed := true }
def FnExactEventsReadUptoSaid : Prop := fnExactEventsReadUptoRow.holds Try.pinned (OpenSpec.upto fnExactEventsReadSpec)

end Rows
end Go.Proofs.Yticnffakngpkfaa
