/-
  DERIVED. GIVEN WITH THE SEED: THE CARDS: each row of YtihpadabgfhegaaGreatDoorRows.lean that lists a variable, with what it lists TIED to the program's text (the seventh form; the later family's looks); each row that meets fmt, with fmt's text TOLD by the authors' own Lean function (tested against real Go, not proved from fmt's source: count such statements apart). THE CARD IS WHAT COUNTS. Prove the row's statement (the work); the ties are given (YtihpadabgfhegaaGreatDoorTie.lean); close each card by the builder's one call (the guide's Derived/Test/ToyasCard.lean, 'card_holds'). Laid BY PROGRAM, IN A SANDBOX (cutbox-door.mjs). By AI agents, Wed Nov 11 2026. No macro, syntax, notation, axiom, sorry.
-/
import Derived.Test.YtihpadabgfhegaaGreatDoorRows
import GoSem.ClaimSeven
namespace Go.Proofs.YtihpadabgfhegaaGreatDoor
namespace Rows

/-- THE TIED CARD OF 'laws.FnState'. -/
def fnStateCard : Claim7 := { stood := { row := fnStateRow, standIns := [], harness := (true, "d824a47bded175b8cd6027acaae896c836d3e0f6fd75fdc2d153fe64a65081e5"), looks := true }, kinds := [], alts := [], laidByText := true, laidKinds := [.sentinel, .sentinel, .sentinel, .sentinel, .sentinel], laidTests := true, laidLooks := .later }
def FnStateCardSaid : Prop := Claim7.holds Tryz.pinned (.plain (OpenSpec.ofChange fnStateSpec)) fnStateCard

/-- THE TIED CARD OF 'laws.FnExactStateStep'. -/
def fnExactStateStepCard : Claim7 := { stood := { row := fnExactStateStepRow, standIns := [], harness := (true, "d824a47bded175b8cd6027acaae896c836d3e0f6fd75fdc2d153fe64a65081e5"), looks := true }, kinds := [], alts := [], laidByText := true, laidKinds := [.sentinel, .sentinel, .sentinel, .sentinel, .sentinel], laidTests := true, laidLooks := .later }
def FnExactStateStepCardSaid : Prop := Claim7.holds Tryz.pinned (.plain (OpenSpec.ofChange fnExactStateStepSpec)) fnExactStateStepCard

/-- THE TIED CARD OF 'laws.FnExactStateOf'. -/
def fnExactStateOfCard : Claim7 := { stood := { row := fnExactStateOfRow, standIns := [], harness := (true, "d824a47bded175b8cd6027acaae896c836d3e0f6fd75fdc2d153fe64a65081e5"), looks := true }, kinds := [], alts := [], laidByText := true, laidKinds := [.sentinel, .sentinel, .sentinel, .sentinel, .sentinel], laidTests := true, laidLooks := .later }
def FnExactStateOfCardSaid : Prop := Claim7.holds Tryz.pinned (.plain (OpenSpec.ofChange fnExactStateOfSpec)) fnExactStateOfCard

/-- THE SECOND FORM's CARD OF 'laws.FnState'. -/
def fnStateUptoCard : Claim7 := { stood := { row := fnStateUptoRow, standIns := [], harness := (true, "d824a47bded175b8cd6027acaae896c836d3e0f6fd75fdc2d153fe64a65081e5"), looks := true }, kinds := [], alts := [], laidByText := true, laidKinds := [.sentinel, .sentinel, .sentinel, .sentinel, .sentinel], laidTests := true, laidLooks := .later }
def FnStateUptoCardSaid : Prop := Claim7.holds Tryz.pinned (.plain (OpenSpec.upto fnStateSpec)) fnStateUptoCard

/-- THE SECOND FORM's CARD OF 'laws.FnExactStateStep'. -/
def fnExactStateStepUptoCard : Claim7 := { stood := { row := fnExactStateStepUptoRow, standIns := [], harness := (true, "d824a47bded175b8cd6027acaae896c836d3e0f6fd75fdc2d153fe64a65081e5"), looks := true }, kinds := [], alts := [], laidByText := true, laidKinds := [.sentinel, .sentinel, .sentinel, .sentinel, .sentinel], laidTests := true, laidLooks := .later }
def FnExactStateStepUptoCardSaid : Prop := Claim7.holds Tryz.pinned (.plain (OpenSpec.upto fnExactStateStepSpec)) fnExactStateStepUptoCard

/-- THE SECOND FORM's CARD OF 'laws.FnExactStateOf'. -/
def fnExactStateOfUptoCard : Claim7 := { stood := { row := fnExactStateOfUptoRow, standIns := [], harness := (true, "d824a47bded175b8cd6027acaae896c836d3e0f6fd75fdc2d153fe64a65081e5"), looks := true }, kinds := [], alts := [], laidByText := true, laidKinds := [.sentinel, .sentinel, .sentinel, .sentinel, .sentinel], laidTests := true, laidLooks := .later }
def FnExactStateOfUptoCardSaid : Prop := Claim7.holds Tryz.pinned (.plain (OpenSpec.upto fnExactStateOfSpec)) fnExactStateOfUptoCard
end Rows
end Go.Proofs.YtihpadabgfhegaaGreatDoor
