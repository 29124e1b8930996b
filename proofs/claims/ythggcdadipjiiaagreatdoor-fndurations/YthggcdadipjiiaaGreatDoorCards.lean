/-
  DERIVED. GIVEN WITH THE SEED: THE CARDS: each row of YthggcdadipjiiaaGreatDoorRows.lean that lists a variable, with what it lists TIED to the program's text (the seventh form; the later family's looks); each row that meets fmt, with fmt's text TOLD by the authors' own Lean function (tested against real Go, not proved from fmt's source: count such statements apart). THE CARD IS WHAT COUNTS. Prove the row's statement (the work); the ties are given (YthggcdadipjiiaaGreatDoorTie.lean); close each card by the builder's one call (the guide's Derived/Test/ToyasCard.lean, 'card_holds'). Laid BY PROGRAM, IN A SANDBOX (cutbox-door.mjs). By AI agents, Wed Nov 11 2026. No macro, syntax, notation, axiom, sorry.
-/
import Derived.Test.YthggcdadipjiiaaGreatDoorRows
import GoSem.ClaimSeven
namespace Go.Proofs.YthggcdadipjiiaaGreatDoor
namespace Rows

/-- THE TIED CARD OF 'laws.FnDurations'. -/
def fnDurationsCard : Claim7 := { stood := { row := fnDurationsRow, standIns := [], harness := (true, "0dc07a6fb2e4feee66b6f2d34465851440e3a59d71e0db1fa8cd4683608685b2"), looks := true }, kinds := [], alts := [], laidByText := true, laidKinds := [.sentinel, .sentinel, .sentinel, .sentinel, .sentinel], laidTests := true, laidLooks := .later }
def FnDurationsCardSaid : Prop := Claim7.holds Tryz.pinned (.plain (OpenSpec.ofChange fnDurationsSpec)) fnDurationsCard

/-- THE TIED CARD OF 'laws.FnExactDurations'. -/
def fnExactDurationsCard : Claim7 := { stood := { row := fnExactDurationsRow, standIns := [], harness := (true, "0dc07a6fb2e4feee66b6f2d34465851440e3a59d71e0db1fa8cd4683608685b2"), looks := true }, kinds := [], alts := [], laidByText := true, laidKinds := [.sentinel, .sentinel, .sentinel, .sentinel, .sentinel], laidTests := true, laidLooks := .later }
def FnExactDurationsCardSaid : Prop := Claim7.holds Tryz.pinned (.plain (OpenSpec.ofChange fnExactDurationsSpec)) fnExactDurationsCard

/-- THE SECOND FORM's CARD OF 'laws.FnDurations'. -/
def fnDurationsUptoCard : Claim7 := { stood := { row := fnDurationsUptoRow, standIns := [], harness := (true, "0dc07a6fb2e4feee66b6f2d34465851440e3a59d71e0db1fa8cd4683608685b2"), looks := true }, kinds := [], alts := [], laidByText := true, laidKinds := [.sentinel, .sentinel, .sentinel, .sentinel, .sentinel], laidTests := true, laidLooks := .later }
def FnDurationsUptoCardSaid : Prop := Claim7.holds Tryz.pinned (.plain (OpenSpec.upto fnDurationsSpec)) fnDurationsUptoCard

/-- THE SECOND FORM's CARD OF 'laws.FnExactDurations'. -/
def fnExactDurationsUptoCard : Claim7 := { stood := { row := fnExactDurationsUptoRow, standIns := [], harness := (true, "0dc07a6fb2e4feee66b6f2d34465851440e3a59d71e0db1fa8cd4683608685b2"), looks := true }, kinds := [], alts := [], laidByText := true, laidKinds := [.sentinel, .sentinel, .sentinel, .sentinel, .sentinel], laidTests := true, laidLooks := .later }
def FnExactDurationsUptoCardSaid : Prop := Claim7.holds Tryz.pinned (.plain (OpenSpec.upto fnExactDurationsSpec)) fnExactDurationsUptoCard
end Rows
end Go.Proofs.YthggcdadipjiiaaGreatDoor
