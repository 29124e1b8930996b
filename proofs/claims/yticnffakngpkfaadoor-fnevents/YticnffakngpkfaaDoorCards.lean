/-
  DERIVED. GIVEN WITH THE SEED: THE CARDS: each row of YticnffakngpkfaaDoorRows.lean that lists a variable, with what it lists TIED to the program's text (the seventh form; the later family's looks); each row that meets fmt, with fmt's text TOLD by the authors' own Lean function (tested against real Go, not proved from fmt's source: count such statements apart). THE CARD IS WHAT COUNTS. Prove the row's statement (the work); the ties are given (YticnffakngpkfaaDoorTie.lean); close each card by the builder's one call (the guide's Derived/Test/ToyasCard.lean, 'card_holds'). Laid BY PROGRAM, IN A SANDBOX (cutbox-door.mjs). By AI agents, Wed Nov 11 2026. No macro, syntax, notation, axiom, sorry.
-/
import Derived.Test.YticnffakngpkfaaDoorRows
import GoSem.ClaimSeven
namespace Go.Proofs.YticnffakngpkfaaDoor
namespace Rows

/-- THE TIED CARD OF 'laws.FnEvents'. -/
def fnEventsCard : Claim7 := { stood := { row := fnEventsRow, standIns := [], harness := (true, "6e1d0fbf21f7390cc00a6d6fffde7b9dfe4f1a4da5214f873c11d775d4949ae0"), looks := false }, kinds := [], alts := [], laidByText := true, laidKinds := [.data], laidTests := true, laidLooks := .later }
def FnEventsCardSaid : Prop := Claim7.holds Tryd.pinned (.plain (OpenSpec.ofChange fnEventsSpec)) fnEventsCard

/-- THE TIED CARD OF 'laws.FnExactKindText'. -/
def fnExactKindTextCard : Claim7 := { stood := { row := fnExactKindTextRow, standIns := [], harness := (true, "6e1d0fbf21f7390cc00a6d6fffde7b9dfe4f1a4da5214f873c11d775d4949ae0"), looks := false }, kinds := [], alts := [], laidByText := true, laidKinds := [.data], laidTests := true, laidLooks := .later }
def FnExactKindTextCardSaid : Prop := Claim7.holds Tryd.pinned (.plain (OpenSpec.ofChange fnExactKindTextSpec)) fnExactKindTextCard

/-- THE SECOND FORM's CARD OF 'laws.FnEvents'. -/
def fnEventsUptoCard : Claim7 := { stood := { row := fnEventsUptoRow, standIns := [], harness := (true, "6e1d0fbf21f7390cc00a6d6fffde7b9dfe4f1a4da5214f873c11d775d4949ae0"), looks := false }, kinds := [], alts := [], laidByText := true, laidKinds := [.data], laidTests := true, laidLooks := .later }
def FnEventsUptoCardSaid : Prop := Claim7.holds Tryd.pinned (.plain (OpenSpec.upto fnEventsSpec)) fnEventsUptoCard

/-- THE SECOND FORM's CARD OF 'laws.FnExactKindText'. -/
def fnExactKindTextUptoCard : Claim7 := { stood := { row := fnExactKindTextUptoRow, standIns := [], harness := (true, "6e1d0fbf21f7390cc00a6d6fffde7b9dfe4f1a4da5214f873c11d775d4949ae0"), looks := false }, kinds := [], alts := [], laidByText := true, laidKinds := [.data], laidTests := true, laidLooks := .later }
def FnExactKindTextUptoCardSaid : Prop := Claim7.holds Tryd.pinned (.plain (OpenSpec.upto fnExactKindTextSpec)) fnExactKindTextUptoCard
end Rows
end Go.Proofs.YticnffakngpkfaaDoor
