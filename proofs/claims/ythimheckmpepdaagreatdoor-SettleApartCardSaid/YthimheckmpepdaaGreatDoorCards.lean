/-
  DERIVED. GIVEN WITH THE SEED: THE CARDS: each row of YthimheckmpepdaaGreatDoorRows.lean that lists a variable, with what it lists TIED to the program's text (the seventh form; the later family's looks); each row that meets fmt, with fmt's text TOLD by the authors' own Lean function (tested against real Go, not proved from fmt's source: count such statements apart). THE CARD IS WHAT COUNTS. Prove the row's statement (the work); the ties are given (YthimheckmpepdaaGreatDoorTie.lean); close each card by the builder's one call (the guide's Derived/Test/ToyasCard.lean, 'card_holds'). Laid BY PROGRAM, IN A SANDBOX (cutbox-door.mjs). By AI agents, Wed Nov 11 2026. No macro, syntax, notation, axiom, sorry.
-/
import Derived.Test.YthimheckmpepdaaGreatDoorRows
import GoSem.ClaimSeven
namespace Go.Proofs.YthimheckmpepdaaGreatDoor
namespace Rows

/-- THE TIED CARD OF 'scriptoriumlaw13.PokeReads'. -/
def pokeReadsCard : Claim7 := { stood := { row := pokeReadsRow, standIns := [], harness := (true, "27ea6c0037838c24132b0e80d14947ac3ceb69bb52b5b7a3b9ed8b27bf2cce27"), looks := false }, kinds := [], alts := [], laidByText := true, laidKinds := [.data, .pinned], laidTests := true, laidLooks := .later }
def PokeReadsCardSaid : Prop := Claim7.holds Tryz.pinned (.plain (OpenSpec.ofChange pokeReadsSpec)) pokeReadsCard

/-- THE TIED CARD OF 'scriptoriumlaw13.PokeRises'. -/
def pokeRisesCard : Claim7 := { stood := { row := pokeRisesRow, standIns := [], harness := (true, "27ea6c0037838c24132b0e80d14947ac3ceb69bb52b5b7a3b9ed8b27bf2cce27"), looks := false }, kinds := [], alts := [], laidByText := true, laidKinds := [.data, .pinned], laidTests := true, laidLooks := .later }
def PokeRisesCardSaid : Prop := Claim7.holds Tryz.pinned (.plain (OpenSpec.ofChange pokeRisesSpec)) pokeRisesCard

/-- THE TIED CARD OF 'scriptoriumlaw14.SettleResolves'. -/
def settleResolvesCard : Claim7 := { stood := { row := settleResolvesRow, standIns := [], harness := (true, "27ea6c0037838c24132b0e80d14947ac3ceb69bb52b5b7a3b9ed8b27bf2cce27"), looks := false }, kinds := [], alts := [], laidByText := true, laidKinds := [.data, .pinned], laidTests := true, laidLooks := .later }
def SettleResolvesCardSaid : Prop := Claim7.holds Tryz.pinned (.plain (OpenSpec.ofChange settleResolvesSpec)) settleResolvesCard

/-- THE TIED CARD OF 'scriptoriumlaw14.SettleQueries'. -/
def settleQueriesCard : Claim7 := { stood := { row := settleQueriesRow, standIns := [], harness := (true, "27ea6c0037838c24132b0e80d14947ac3ceb69bb52b5b7a3b9ed8b27bf2cce27"), looks := false }, kinds := [], alts := [], laidByText := true, laidKinds := [.data, .pinned], laidTests := true, laidLooks := .later }
def SettleQueriesCardSaid : Prop := Claim7.holds Tryz.pinned (.plain (OpenSpec.ofChange settleQueriesSpec)) settleQueriesCard

/-- THE TIED CARD OF 'scriptoriumlaw14.SettleOnce'. -/
def settleOnceCard : Claim7 := { stood := { row := settleOnceRow, standIns := [], harness := (true, "27ea6c0037838c24132b0e80d14947ac3ceb69bb52b5b7a3b9ed8b27bf2cce27"), looks := false }, kinds := [], alts := [], laidByText := true, laidKinds := [.data, .pinned], laidTests := true, laidLooks := .later }
def SettleOnceCardSaid : Prop := Claim7.holds Tryz.pinned (.plain (OpenSpec.ofChange settleOnceSpec)) settleOnceCard

/-- THE TIED CARD OF 'scriptoriumlaw14.SettleStays'. -/
def settleStaysCard : Claim7 := { stood := { row := settleStaysRow, standIns := [], harness := (true, "27ea6c0037838c24132b0e80d14947ac3ceb69bb52b5b7a3b9ed8b27bf2cce27"), looks := false }, kinds := [], alts := [], laidByText := true, laidKinds := [.data, .pinned], laidTests := true, laidLooks := .later }
def SettleStaysCardSaid : Prop := Claim7.holds Tryz.pinned (.plain (OpenSpec.ofChange settleStaysSpec)) settleStaysCard

/-- THE TIED CARD OF 'scriptoriumlaw14.SettleApart'. -/
def settleApartCard : Claim7 := { stood := { row := settleApartRow, standIns := [], harness := (true, "27ea6c0037838c24132b0e80d14947ac3ceb69bb52b5b7a3b9ed8b27bf2cce27"), looks := false }, kinds := [], alts := [], laidByText := true, laidKinds := [.data, .pinned], laidTests := true, laidLooks := .later }
def SettleApartCardSaid : Prop := Claim7.holds Tryz.pinned (.plain (OpenSpec.ofChange settleApartSpec)) settleApartCard

/-- THE SECOND FORM's CARD OF 'scriptoriumlaw13.PokeReads'. -/
def pokeReadsUptoCard : Claim7 := { stood := { row := pokeReadsUptoRow, standIns := [], harness := (true, "27ea6c0037838c24132b0e80d14947ac3ceb69bb52b5b7a3b9ed8b27bf2cce27"), looks := false }, kinds := [], alts := [], laidByText := true, laidKinds := [.data, .pinned], laidTests := true, laidLooks := .later }
def PokeReadsUptoCardSaid : Prop := Claim7.holds Tryz.pinned (.plain (OpenSpec.upto pokeReadsSpec)) pokeReadsUptoCard

/-- THE SECOND FORM's CARD OF 'scriptoriumlaw13.PokeRises'. -/
def pokeRisesUptoCard : Claim7 := { stood := { row := pokeRisesUptoRow, standIns := [], harness := (true, "27ea6c0037838c24132b0e80d14947ac3ceb69bb52b5b7a3b9ed8b27bf2cce27"), looks := false }, kinds := [], alts := [], laidByText := true, laidKinds := [.data, .pinned], laidTests := true, laidLooks := .later }
def PokeRisesUptoCardSaid : Prop := Claim7.holds Tryz.pinned (.plain (OpenSpec.upto pokeRisesSpec)) pokeRisesUptoCard

/-- THE SECOND FORM's CARD OF 'scriptoriumlaw14.SettleResolves'. -/
def settleResolvesUptoCard : Claim7 := { stood := { row := settleResolvesUptoRow, standIns := [], harness := (true, "27ea6c0037838c24132b0e80d14947ac3ceb69bb52b5b7a3b9ed8b27bf2cce27"), looks := false }, kinds := [], alts := [], laidByText := true, laidKinds := [.data, .pinned], laidTests := true, laidLooks := .later }
def SettleResolvesUptoCardSaid : Prop := Claim7.holds Tryz.pinned (.plain (OpenSpec.upto settleResolvesSpec)) settleResolvesUptoCard

/-- THE SECOND FORM's CARD OF 'scriptoriumlaw14.SettleQueries'. -/
def settleQueriesUptoCard : Claim7 := { stood := { row := settleQueriesUptoRow, standIns := [], harness := (true, "27ea6c0037838c24132b0e80d14947ac3ceb69bb52b5b7a3b9ed8b27bf2cce27"), looks := false }, kinds := [], alts := [], laidByText := true, laidKinds := [.data, .pinned], laidTests := true, laidLooks := .later }
def SettleQueriesUptoCardSaid : Prop := Claim7.holds Tryz.pinned (.plain (OpenSpec.upto settleQueriesSpec)) settleQueriesUptoCard

/-- THE SECOND FORM's CARD OF 'scriptoriumlaw14.SettleOnce'. -/
def settleOnceUptoCard : Claim7 := { stood := { row := settleOnceUptoRow, standIns := [], harness := (true, "27ea6c0037838c24132b0e80d14947ac3ceb69bb52b5b7a3b9ed8b27bf2cce27"), looks := false }, kinds := [], alts := [], laidByText := true, laidKinds := [.data, .pinned], laidTests := true, laidLooks := .later }
def SettleOnceUptoCardSaid : Prop := Claim7.holds Tryz.pinned (.plain (OpenSpec.upto settleOnceSpec)) settleOnceUptoCard

/-- THE SECOND FORM's CARD OF 'scriptoriumlaw14.SettleStays'. -/
def settleStaysUptoCard : Claim7 := { stood := { row := settleStaysUptoRow, standIns := [], harness := (true, "27ea6c0037838c24132b0e80d14947ac3ceb69bb52b5b7a3b9ed8b27bf2cce27"), looks := false }, kinds := [], alts := [], laidByText := true, laidKinds := [.data, .pinned], laidTests := true, laidLooks := .later }
def SettleStaysUptoCardSaid : Prop := Claim7.holds Tryz.pinned (.plain (OpenSpec.upto settleStaysSpec)) settleStaysUptoCard

/-- THE SECOND FORM's CARD OF 'scriptoriumlaw14.SettleApart'. -/
def settleApartUptoCard : Claim7 := { stood := { row := settleApartUptoRow, standIns := [], harness := (true, "27ea6c0037838c24132b0e80d14947ac3ceb69bb52b5b7a3b9ed8b27bf2cce27"), looks := false }, kinds := [], alts := [], laidByText := true, laidKinds := [.data, .pinned], laidTests := true, laidLooks := .later }
def SettleApartUptoCardSaid : Prop := Claim7.holds Tryz.pinned (.plain (OpenSpec.upto settleApartSpec)) settleApartUptoCard
end Rows
end Go.Proofs.YthimheckmpepdaaGreatDoor
