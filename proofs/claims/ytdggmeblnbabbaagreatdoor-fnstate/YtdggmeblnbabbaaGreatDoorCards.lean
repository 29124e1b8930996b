/-
  DERIVED. GIVEN WITH THE SEED: THE CARDS: each row of YtdggmeblnbabbaaGreatDoorRows.lean that lists a variable, with what it lists TIED to the program's text (the seventh form; the later family's looks); each row that meets fmt, with fmt's text TOLD by the authors' own Lean function (tested against real Go, not proved from fmt's source: count such statements apart). THE CARD IS WHAT COUNTS. Prove the row's statement (the work); the ties are given (YtdggmeblnbabbaaGreatDoorTie.lean); close each card by the builder's one call (the guide's Derived/Test/ToyasCard.lean, 'card_holds'). Laid BY PROGRAM, IN A SANDBOX (cutbox-door.mjs). By AI agents, Wed Nov 11 2026. No macro, syntax, notation, axiom, sorry.
-/
import Derived.Test.YtdggmeblnbabbaaGreatDoorRows
import GoSem.ClaimSeven
namespace Go.Proofs.YtdggmeblnbabbaaGreatDoor
namespace Rows

/-- THE TIED CARD OF 'laws.FnState'. -/
def fnStateCard : Claim7 := { stood := { row := fnStateRow, standIns := [], harness := (true, "ffffdb595010b3b5143df861a31a1cdd5fe660ff9673b87b43a53ce3d23148e2"), looks := true }, kinds := [], alts := [], laidByText := true, laidKinds := [.sentinel, .sentinel, .sentinel, .sentinel, .sentinel], laidTests := true, laidLooks := .later }
def FnStateCardSaid : Prop := Claim7.holds Tryz.pinned (.plain (OpenSpec.ofChange fnStateSpec)) fnStateCard

/-- THE SECOND FORM's CARD OF 'laws.FnState'. -/
def fnStateUptoCard : Claim7 := { stood := { row := fnStateUptoRow, standIns := [], harness := (true, "ffffdb595010b3b5143df861a31a1cdd5fe660ff9673b87b43a53ce3d23148e2"), looks := true }, kinds := [], alts := [], laidByText := true, laidKinds := [.sentinel, .sentinel, .sentinel, .sentinel, .sentinel], laidTests := true, laidLooks := .later }
def FnStateUptoCardSaid : Prop := Claim7.holds Tryz.pinned (.plain (OpenSpec.upto fnStateSpec)) fnStateUptoCard
end Rows
end Go.Proofs.YtdggmeblnbabbaaGreatDoor
