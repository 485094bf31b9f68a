/-
  DERIVED. GIVEN WITH THE SEED: THE CARDS: each row of YtdjehbagnkfkpaaDoorRows.lean that lists a variable, with what it lists TIED to the program's text (the seventh form; the later family's looks); each row that meets fmt, with fmt's text TOLD by the authors' own Lean function (tested against real Go, not proved from fmt's source: count such statements apart). THE CARD IS WHAT COUNTS. Prove the row's statement (the work); the ties are given (YtdjehbagnkfkpaaDoorTie.lean); close each card by the builder's one call (the guide's Derived/Test/ToyasCard.lean, 'card_holds'). Laid BY PROGRAM, IN A SANDBOX (cutbox-door.mjs). By AI agents, Wed Nov 11 2026. No macro, syntax, notation, axiom, sorry.
-/
import Derived.Test.YtdjehbagnkfkpaaDoorRows
import GoSem.ClaimSeven
namespace Go.Proofs.YtdjehbagnkfkpaaDoor
namespace Rows

/-- THE TIED CARD OF 'tumblerlaw02.MicroParses'. -/
def microParsesCard : Claim7 := { stood := { row := microParsesRow, standIns := [], harness := (true, "73c3b11b7ad1a50dde229bd9d59d6cc704c8f738f02b44e44752dd59e271d11d"), looks := false }, kinds := [], alts := [], laidByText := true, laidKinds := [.data, .pinned], laidTests := true, laidLooks := .later }
def MicroParsesCardSaid : Prop := Claim7.holds Tryd.pinned (.plain (OpenSpec.ofChange microParsesSpec)) microParsesCard

/-- THE TIED CARD OF 'tumblerlaw02.MicroPrints'. -/
def microPrintsCard : Claim7 := { stood := { row := microPrintsRow, standIns := [], harness := (true, "73c3b11b7ad1a50dde229bd9d59d6cc704c8f738f02b44e44752dd59e271d11d"), looks := false }, kinds := [], alts := [], laidByText := true, laidKinds := [.data, .pinned], laidTests := true, laidLooks := .later }
def MicroPrintsCardSaid : Prop := Claim7.holds Tryd.pinned (.plain (OpenSpec.ofChange microPrintsSpec)) microPrintsCard

/-- THE TIED CARD OF 'tumblerlaw02.MicroReads'. -/
def microReadsCard : Claim7 := { stood := { row := microReadsRow, standIns := [], harness := (true, "73c3b11b7ad1a50dde229bd9d59d6cc704c8f738f02b44e44752dd59e271d11d"), looks := false }, kinds := [], alts := [], laidByText := true, laidKinds := [.data, .pinned], laidTests := true, laidLooks := .later }
def MicroReadsCardSaid : Prop := Claim7.holds Tryd.pinned (.plain (OpenSpec.ofChange microReadsSpec)) microReadsCard

/-- THE TIED CARD OF 'tumblerlaw02.MicroShows'. -/
def microShowsCard : Claim7 := { stood := { row := microShowsRow, standIns := [], harness := (true, "73c3b11b7ad1a50dde229bd9d59d6cc704c8f738f02b44e44752dd59e271d11d"), looks := false }, kinds := [], alts := [], laidByText := true, laidKinds := [.data, .pinned], laidTests := true, laidLooks := .later }
def MicroShowsCardSaid : Prop := Claim7.holds Tryd.pinned (.plain (OpenSpec.ofChange microShowsSpec)) microShowsCard

/-- THE TIED CARD OF 'tumblerlaw02.MicroBack'. -/
def microBackCard : Claim7 := { stood := { row := microBackRow, standIns := [], harness := (true, "73c3b11b7ad1a50dde229bd9d59d6cc704c8f738f02b44e44752dd59e271d11d"), looks := false }, kinds := [], alts := [], laidByText := true, laidKinds := [.data, .pinned], laidTests := true, laidLooks := .later }
def MicroBackCardSaid : Prop := Claim7.holds Tryd.pinned (.plain (OpenSpec.ofChange microBackSpec)) microBackCard

/-- THE TIED CARD OF 'tumblerlaw02.MicroWideBack'. -/
def microWideBackCard : Claim7 := { stood := { row := microWideBackRow, standIns := [], harness := (true, "73c3b11b7ad1a50dde229bd9d59d6cc704c8f738f02b44e44752dd59e271d11d"), looks := false }, kinds := [], alts := [], laidByText := true, laidKinds := [.data, .pinned], laidTests := true, laidLooks := .later }
def MicroWideBackCardSaid : Prop := Claim7.holds Tryd.pinned (.plain (OpenSpec.ofChange microWideBackSpec)) microWideBackCard

/-- THE TIED CARD OF 'tumblerlaw02.MicroShort'. -/
def microShortCard : Claim7 := { stood := { row := microShortRow, standIns := [], harness := (true, "73c3b11b7ad1a50dde229bd9d59d6cc704c8f738f02b44e44752dd59e271d11d"), looks := false }, kinds := [], alts := [], laidByText := true, laidKinds := [.data, .pinned], laidTests := true, laidLooks := .later }
def MicroShortCardSaid : Prop := Claim7.holds Tryd.pinned (.plain (OpenSpec.ofChange microShortSpec)) microShortCard

/-- THE TIED CARD OF 'tumblerlaw02.MicroSame'. -/
def microSameCard : Claim7 := { stood := { row := microSameRow, standIns := [], harness := (true, "73c3b11b7ad1a50dde229bd9d59d6cc704c8f738f02b44e44752dd59e271d11d"), looks := false }, kinds := [], alts := [], laidByText := true, laidKinds := [.data, .pinned], laidTests := true, laidLooks := .later }
def MicroSameCardSaid : Prop := Claim7.holds Tryd.pinned (.plain (OpenSpec.ofChange microSameSpec)) microSameCard

/-- THE TIED CARD OF 'tumblerlaw02.MicroRounds'. -/
def microRoundsCard : Claim7 := { stood := { row := microRoundsRow, standIns := [], harness := (true, "73c3b11b7ad1a50dde229bd9d59d6cc704c8f738f02b44e44752dd59e271d11d"), looks := false }, kinds := [], alts := [], laidByText := true, laidKinds := [.data], laidTests := true, laidLooks := .later }
def MicroRoundsCardSaid : Prop := Claim7.holds Tryd.pinned (.plain (OpenSpec.ofChange microRoundsSpec)) microRoundsCard

/-- THE TIED CARD OF 'tumblerlaw02.MicroNear'. -/
def microNearCard : Claim7 := { stood := { row := microNearRow, standIns := [], harness := (true, "73c3b11b7ad1a50dde229bd9d59d6cc704c8f738f02b44e44752dd59e271d11d"), looks := false }, kinds := [], alts := [], laidByText := true, laidKinds := [.data], laidTests := true, laidLooks := .later }
def MicroNearCardSaid : Prop := Claim7.holds Tryd.pinned (.plain (OpenSpec.ofChange microNearSpec)) microNearCard

/-- THE SECOND FORM's CARD OF 'tumblerlaw02.MicroParses'. -/
def microParsesUptoCard : Claim7 := { stood := { row := microParsesUptoRow, standIns := [], harness := (true, "73c3b11b7ad1a50dde229bd9d59d6cc704c8f738f02b44e44752dd59e271d11d"), looks := false }, kinds := [], alts := [], laidByText := true, laidKinds := [.data, .pinned], laidTests := true, laidLooks := .later }
def MicroParsesUptoCardSaid : Prop := Claim7.holds Tryd.pinned (.plain (OpenSpec.upto microParsesSpec)) microParsesUptoCard

/-- THE SECOND FORM's CARD OF 'tumblerlaw02.MicroPrints'. -/
def microPrintsUptoCard : Claim7 := { stood := { row := microPrintsUptoRow, standIns := [], harness := (true, "73c3b11b7ad1a50dde229bd9d59d6cc704c8f738f02b44e44752dd59e271d11d"), looks := false }, kinds := [], alts := [], laidByText := true, laidKinds := [.data, .pinned], laidTests := true, laidLooks := .later }
def MicroPrintsUptoCardSaid : Prop := Claim7.holds Tryd.pinned (.plain (OpenSpec.upto microPrintsSpec)) microPrintsUptoCard

/-- THE SECOND FORM's CARD OF 'tumblerlaw02.MicroReads'. -/
def microReadsUptoCard : Claim7 := { stood := { row := microReadsUptoRow, standIns := [], harness := (true, "73c3b11b7ad1a50dde229bd9d59d6cc704c8f738f02b44e44752dd59e271d11d"), looks := false }, kinds := [], alts := [], laidByText := true, laidKinds := [.data, .pinned], laidTests := true, laidLooks := .later }
def MicroReadsUptoCardSaid : Prop := Claim7.holds Tryd.pinned (.plain (OpenSpec.upto microReadsSpec)) microReadsUptoCard

/-- THE SECOND FORM's CARD OF 'tumblerlaw02.MicroShows'. -/
def microShowsUptoCard : Claim7 := { stood := { row := microShowsUptoRow, standIns := [], harness := (true, "73c3b11b7ad1a50dde229bd9d59d6cc704c8f738f02b44e44752dd59e271d11d"), looks := false }, kinds := [], alts := [], laidByText := true, laidKinds := [.data, .pinned], laidTests := true, laidLooks := .later }
def MicroShowsUptoCardSaid : Prop := Claim7.holds Tryd.pinned (.plain (OpenSpec.upto microShowsSpec)) microShowsUptoCard

/-- THE SECOND FORM's CARD OF 'tumblerlaw02.MicroBack'. -/
def microBackUptoCard : Claim7 := { stood := { row := microBackUptoRow, standIns := [], harness := (true, "73c3b11b7ad1a50dde229bd9d59d6cc704c8f738f02b44e44752dd59e271d11d"), looks := false }, kinds := [], alts := [], laidByText := true, laidKinds := [.data, .pinned], laidTests := true, laidLooks := .later }
def MicroBackUptoCardSaid : Prop := Claim7.holds Tryd.pinned (.plain (OpenSpec.upto microBackSpec)) microBackUptoCard

/-- THE SECOND FORM's CARD OF 'tumblerlaw02.MicroWideBack'. -/
def microWideBackUptoCard : Claim7 := { stood := { row := microWideBackUptoRow, standIns := [], harness := (true, "73c3b11b7ad1a50dde229bd9d59d6cc704c8f738f02b44e44752dd59e271d11d"), looks := false }, kinds := [], alts := [], laidByText := true, laidKinds := [.data, .pinned], laidTests := true, laidLooks := .later }
def MicroWideBackUptoCardSaid : Prop := Claim7.holds Tryd.pinned (.plain (OpenSpec.upto microWideBackSpec)) microWideBackUptoCard

/-- THE SECOND FORM's CARD OF 'tumblerlaw02.MicroShort'. -/
def microShortUptoCard : Claim7 := { stood := { row := microShortUptoRow, standIns := [], harness := (true, "73c3b11b7ad1a50dde229bd9d59d6cc704c8f738f02b44e44752dd59e271d11d"), looks := false }, kinds := [], alts := [], laidByText := true, laidKinds := [.data, .pinned], laidTests := true, laidLooks := .later }
def MicroShortUptoCardSaid : Prop := Claim7.holds Tryd.pinned (.plain (OpenSpec.upto microShortSpec)) microShortUptoCard

/-- THE SECOND FORM's CARD OF 'tumblerlaw02.MicroSame'. -/
def microSameUptoCard : Claim7 := { stood := { row := microSameUptoRow, standIns := [], harness := (true, "73c3b11b7ad1a50dde229bd9d59d6cc704c8f738f02b44e44752dd59e271d11d"), looks := false }, kinds := [], alts := [], laidByText := true, laidKinds := [.data, .pinned], laidTests := true, laidLooks := .later }
def MicroSameUptoCardSaid : Prop := Claim7.holds Tryd.pinned (.plain (OpenSpec.upto microSameSpec)) microSameUptoCard

/-- THE SECOND FORM's CARD OF 'tumblerlaw02.MicroRounds'. -/
def microRoundsUptoCard : Claim7 := { stood := { row := microRoundsUptoRow, standIns := [], harness := (true, "73c3b11b7ad1a50dde229bd9d59d6cc704c8f738f02b44e44752dd59e271d11d"), looks := false }, kinds := [], alts := [], laidByText := true, laidKinds := [.data], laidTests := true, laidLooks := .later }
def MicroRoundsUptoCardSaid : Prop := Claim7.holds Tryd.pinned (.plain (OpenSpec.upto microRoundsSpec)) microRoundsUptoCard

/-- THE SECOND FORM's CARD OF 'tumblerlaw02.MicroNear'. -/
def microNearUptoCard : Claim7 := { stood := { row := microNearUptoRow, standIns := [], harness := (true, "73c3b11b7ad1a50dde229bd9d59d6cc704c8f738f02b44e44752dd59e271d11d"), looks := false }, kinds := [], alts := [], laidByText := true, laidKinds := [.data], laidTests := true, laidLooks := .later }
def MicroNearUptoCardSaid : Prop := Claim7.holds Tryd.pinned (.plain (OpenSpec.upto microNearSpec)) microNearUptoCard
end Rows
end Go.Proofs.YtdjehbagnkfkpaaDoor
