/-
  DERIVED. GIVEN WITH THE SEED: THE CARDS: each row of YthgmphmghnonbaaDoorRows.lean that lists a variable, with what it lists TIED to the program's text (the seventh form; the later family's looks); each row that meets fmt, with fmt's text TOLD by the authors' own Lean function (tested against real Go, not proved from fmt's source: count such statements apart). THE CARD IS WHAT COUNTS. Prove the row's statement (the work); the ties are given (YthgmphmghnonbaaDoorTie.lean); close each card by the builder's one call (the guide's Derived/Test/ToyasCard.lean, 'card_holds'). Laid BY PROGRAM, IN A SANDBOX (cutbox-door.mjs). By AI agents, Wed Nov 11 2026. No macro, syntax, notation, axiom, sorry.
-/
import Derived.Test.YthgmphmghnonbaaDoorRows
import GoSem.ClaimSeven
namespace Go.Proofs.YthgmphmghnonbaaDoor
namespace Rows

/-- THE TIED CARD OF 'laws.FnExactQueryRead'. -/
def fnExactQueryReadCard : Claim7 := { stood := { row := fnExactQueryReadRow, standIns := [], harness := (true, "173e5a842672053f224c74738db7d3f62ecca078620d8ce8b639b35ed39ff990"), looks := true }, kinds := [], alts := [], laidByText := true, laidKinds := [.data, .sentinel], laidTests := true, laidLooks := .later }
def FnExactQueryReadCardSaid : Prop := Claim7.holds Tryd.pinned (.plain (OpenSpec.ofChange fnExactQueryReadSpec)) fnExactQueryReadCard

/-- THE SECOND FORM's CARD OF 'laws.FnExactQueryRead'. -/
def fnExactQueryReadUptoCard : Claim7 := { stood := { row := fnExactQueryReadUptoRow, standIns := [], harness := (true, "173e5a842672053f224c74738db7d3f62ecca078620d8ce8b639b35ed39ff990"), looks := true }, kinds := [], alts := [], laidByText := true, laidKinds := [.data, .sentinel], laidTests := true, laidLooks := .later }
def FnExactQueryReadUptoCardSaid : Prop := Claim7.holds Tryd.pinned (.plain (OpenSpec.upto fnExactQueryReadSpec)) fnExactQueryReadUptoCard
end Rows
end Go.Proofs.YthgmphmghnonbaaDoor
