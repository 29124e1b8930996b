/-
  DERIVED. GIVEN WITH THE SEED: THE CARDS: each row of YtadidjhcgmeadaaGreatDoorRows.lean that lists a variable, with what it lists TIED to the program's text (the seventh form; the later family's looks); each row that meets fmt, with fmt's text TOLD by the authors' own Lean function (tested against real Go, not proved from fmt's source: count such statements apart). THE CARD IS WHAT COUNTS. Prove the row's statement (the work); the ties are given (YtadidjhcgmeadaaGreatDoorTie.lean); close each card by the builder's one call (the guide's Derived/Test/ToyasCard.lean, 'card_holds'). Laid BY PROGRAM, IN A SANDBOX (cutbox-door.mjs). By AI agents, Wed Nov 11 2026. No macro, syntax, notation, axiom, sorry.
-/
import Derived.Test.YtadidjhcgmeadaaGreatDoorRows
import GoSem.ClaimSeven
namespace Go.Proofs.YtadidjhcgmeadaaGreatDoor
namespace Rows

/-- THE TIED CARD OF 'laws.FnExactHistoryRight'. -/
def fnExactHistoryRightCard : Claim7 := { stood := { row := fnExactHistoryRightRow, standIns := [], harness := (true, "61ea56fe34759ccee8c26d189f2009ce62e58beeedc644adde8df055e07ebc33"), looks := true }, kinds := [], alts := [], laidByText := true, laidKinds := [.sentinel, .sentinel, .sentinel, .sentinel, .sentinel], laidTests := true, laidLooks := .later }
def FnExactHistoryRightCardSaid : Prop := Claim7.holds Tryz.pinned (.plain (OpenSpec.ofChange fnExactHistoryRightSpec)) fnExactHistoryRightCard

/-- THE TIED CARD OF 'laws.FnExactAsOf'. -/
def fnExactAsOfCard : Claim7 := { stood := { row := fnExactAsOfRow, standIns := [], harness := (true, "61ea56fe34759ccee8c26d189f2009ce62e58beeedc644adde8df055e07ebc33"), looks := true }, kinds := [], alts := [], laidByText := true, laidKinds := [.sentinel, .sentinel, .sentinel, .sentinel, .sentinel], laidTests := true, laidLooks := .later }
def FnExactAsOfCardSaid : Prop := Claim7.holds Tryz.pinned (.plain (OpenSpec.ofChange fnExactAsOfSpec)) fnExactAsOfCard

/-- THE TIED CARD OF 'laws.FnExactServiceRight'. -/
def fnExactServiceRightCard : Claim7 := { stood := { row := fnExactServiceRightRow, standIns := [], harness := (true, "61ea56fe34759ccee8c26d189f2009ce62e58beeedc644adde8df055e07ebc33"), looks := true }, kinds := [], alts := [], laidByText := true, laidKinds := [.sentinel, .sentinel, .sentinel, .sentinel, .sentinel], laidTests := true, laidLooks := .later }
def FnExactServiceRightCardSaid : Prop := Claim7.holds Tryz.pinned (.plain (OpenSpec.ofChange fnExactServiceRightSpec)) fnExactServiceRightCard

/-- THE TIED CARD OF 'laws.FnExactIngest'. -/
def fnExactIngestCard : Claim7 := { stood := { row := fnExactIngestRow, standIns := [], harness := (true, "61ea56fe34759ccee8c26d189f2009ce62e58beeedc644adde8df055e07ebc33"), looks := true }, kinds := [], alts := [], laidByText := true, laidKinds := [.sentinel, .sentinel, .sentinel, .sentinel, .sentinel], laidTests := true, laidLooks := .later }
def FnExactIngestCardSaid : Prop := Claim7.holds Tryz.pinned (.plain (OpenSpec.ofChange fnExactIngestSpec)) fnExactIngestCard

/-- THE TIED CARD OF 'laws.FnExactCleanup'. -/
def fnExactCleanupCard : Claim7 := { stood := { row := fnExactCleanupRow, standIns := [], harness := (true, "61ea56fe34759ccee8c26d189f2009ce62e58beeedc644adde8df055e07ebc33"), looks := true }, kinds := [], alts := [], laidByText := true, laidKinds := [.sentinel, .sentinel, .sentinel, .sentinel, .sentinel], laidTests := true, laidLooks := .later }
def FnExactCleanupCardSaid : Prop := Claim7.holds Tryz.pinned (.plain (OpenSpec.ofChange fnExactCleanupSpec)) fnExactCleanupCard

/-- THE SECOND FORM's CARD OF 'laws.FnExactHistoryRight'. -/
def fnExactHistoryRightUptoCard : Claim7 := { stood := { row := fnExactHistoryRightUptoRow, standIns := [], harness := (true, "61ea56fe34759ccee8c26d189f2009ce62e58beeedc644adde8df055e07ebc33"), looks := true }, kinds := [], alts := [], laidByText := true, laidKinds := [.sentinel, .sentinel, .sentinel, .sentinel, .sentinel], laidTests := true, laidLooks := .later }
def FnExactHistoryRightUptoCardSaid : Prop := Claim7.holds Tryz.pinned (.plain (OpenSpec.upto fnExactHistoryRightSpec)) fnExactHistoryRightUptoCard

/-- THE SECOND FORM's CARD OF 'laws.FnExactAsOf'. -/
def fnExactAsOfUptoCard : Claim7 := { stood := { row := fnExactAsOfUptoRow, standIns := [], harness := (true, "61ea56fe34759ccee8c26d189f2009ce62e58beeedc644adde8df055e07ebc33"), looks := true }, kinds := [], alts := [], laidByText := true, laidKinds := [.sentinel, .sentinel, .sentinel, .sentinel, .sentinel], laidTests := true, laidLooks := .later }
def FnExactAsOfUptoCardSaid : Prop := Claim7.holds Tryz.pinned (.plain (OpenSpec.upto fnExactAsOfSpec)) fnExactAsOfUptoCard

/-- THE SECOND FORM's CARD OF 'laws.FnExactServiceRight'. -/
def fnExactServiceRightUptoCard : Claim7 := { stood := { row := fnExactServiceRightUptoRow, standIns := [], harness := (true, "61ea56fe34759ccee8c26d189f2009ce62e58beeedc644adde8df055e07ebc33"), looks := true }, kinds := [], alts := [], laidByText := true, laidKinds := [.sentinel, .sentinel, .sentinel, .sentinel, .sentinel], laidTests := true, laidLooks := .later }
def FnExactServiceRightUptoCardSaid : Prop := Claim7.holds Tryz.pinned (.plain (OpenSpec.upto fnExactServiceRightSpec)) fnExactServiceRightUptoCard

/-- THE SECOND FORM's CARD OF 'laws.FnExactIngest'. -/
def fnExactIngestUptoCard : Claim7 := { stood := { row := fnExactIngestUptoRow, standIns := [], harness := (true, "61ea56fe34759ccee8c26d189f2009ce62e58beeedc644adde8df055e07ebc33"), looks := true }, kinds := [], alts := [], laidByText := true, laidKinds := [.sentinel, .sentinel, .sentinel, .sentinel, .sentinel], laidTests := true, laidLooks := .later }
def FnExactIngestUptoCardSaid : Prop := Claim7.holds Tryz.pinned (.plain (OpenSpec.upto fnExactIngestSpec)) fnExactIngestUptoCard

/-- THE SECOND FORM's CARD OF 'laws.FnExactCleanup'. -/
def fnExactCleanupUptoCard : Claim7 := { stood := { row := fnExactCleanupUptoRow, standIns := [], harness := (true, "61ea56fe34759ccee8c26d189f2009ce62e58beeedc644adde8df055e07ebc33"), looks := true }, kinds := [], alts := [], laidByText := true, laidKinds := [.sentinel, .sentinel, .sentinel, .sentinel, .sentinel], laidTests := true, laidLooks := .later }
def FnExactCleanupUptoCardSaid : Prop := Claim7.holds Tryz.pinned (.plain (OpenSpec.upto fnExactCleanupSpec)) fnExactCleanupUptoCard
end Rows
end Go.Proofs.YtadidjhcgmeadaaGreatDoor
