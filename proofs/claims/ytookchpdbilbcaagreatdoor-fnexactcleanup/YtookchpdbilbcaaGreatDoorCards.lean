/-
  DERIVED. GIVEN WITH THE SEED: THE CARDS: each row of YtookchpdbilbcaaGreatDoorRows.lean that lists a variable, with what it lists TIED to the program's text (the seventh form; the later family's looks); each row that meets fmt, with fmt's text TOLD by the authors' own Lean function (tested against real Go, not proved from fmt's source: count such statements apart). THE CARD IS WHAT COUNTS. Prove the row's statement (the work); the ties are given (YtookchpdbilbcaaGreatDoorTie.lean); close each card by the builder's one call (the guide's Derived/Test/ToyasCard.lean, 'card_holds'). Laid BY PROGRAM, IN A SANDBOX (cutbox-door.mjs). By AI agents, Wed Nov 11 2026. No macro, syntax, notation, axiom, sorry.
-/
import Derived.Test.YtookchpdbilbcaaGreatDoorRows
import GoSem.ClaimSeven
namespace Go.Proofs.YtookchpdbilbcaaGreatDoor
namespace Rows

/-- THE TIED CARD OF 'laws.FnExactIngest'. -/
def fnExactIngestCard : Claim7 := { stood := { row := fnExactIngestRow, standIns := [], harness := (true, "e1dc7579b87eb7cbd40b8ab0a1ebfa3aefb37297886a40f7a64bc5d7f636b48b"), looks := true }, kinds := [], alts := [], laidByText := true, laidKinds := [.sentinel, .sentinel, .sentinel, .sentinel, .sentinel], laidTests := true, laidLooks := .later }
def FnExactIngestCardSaid : Prop := Claim7.holds Tryz.pinned (.plain (OpenSpec.ofChange fnExactIngestSpec)) fnExactIngestCard

/-- THE TIED CARD OF 'laws.FnExactCleanup'. -/
def fnExactCleanupCard : Claim7 := { stood := { row := fnExactCleanupRow, standIns := [], harness := (true, "e1dc7579b87eb7cbd40b8ab0a1ebfa3aefb37297886a40f7a64bc5d7f636b48b"), looks := true }, kinds := [], alts := [], laidByText := true, laidKinds := [.sentinel, .sentinel, .sentinel, .sentinel, .sentinel], laidTests := true, laidLooks := .later }
def FnExactCleanupCardSaid : Prop := Claim7.holds Tryz.pinned (.plain (OpenSpec.ofChange fnExactCleanupSpec)) fnExactCleanupCard

/-- THE SECOND FORM's CARD OF 'laws.FnExactIngest'. -/
def fnExactIngestUptoCard : Claim7 := { stood := { row := fnExactIngestUptoRow, standIns := [], harness := (true, "e1dc7579b87eb7cbd40b8ab0a1ebfa3aefb37297886a40f7a64bc5d7f636b48b"), looks := true }, kinds := [], alts := [], laidByText := true, laidKinds := [.sentinel, .sentinel, .sentinel, .sentinel, .sentinel], laidTests := true, laidLooks := .later }
def FnExactIngestUptoCardSaid : Prop := Claim7.holds Tryz.pinned (.plain (OpenSpec.upto fnExactIngestSpec)) fnExactIngestUptoCard

/-- THE SECOND FORM's CARD OF 'laws.FnExactCleanup'. -/
def fnExactCleanupUptoCard : Claim7 := { stood := { row := fnExactCleanupUptoRow, standIns := [], harness := (true, "e1dc7579b87eb7cbd40b8ab0a1ebfa3aefb37297886a40f7a64bc5d7f636b48b"), looks := true }, kinds := [], alts := [], laidByText := true, laidKinds := [.sentinel, .sentinel, .sentinel, .sentinel, .sentinel], laidTests := true, laidLooks := .later }
def FnExactCleanupUptoCardSaid : Prop := Claim7.holds Tryz.pinned (.plain (OpenSpec.upto fnExactCleanupSpec)) fnExactCleanupUptoCard
end Rows
end Go.Proofs.YtookchpdbilbcaaGreatDoor
