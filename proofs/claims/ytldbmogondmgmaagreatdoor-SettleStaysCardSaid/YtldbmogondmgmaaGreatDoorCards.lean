/-
  DERIVED. GIVEN WITH THE SEED: THE CARDS: each row of YtldbmogondmgmaaGreatDoorRows.lean that lists a variable, with what it lists TIED to the program's text (the seventh form; the later family's looks); each row that meets fmt, with fmt's text TOLD by the authors' own Lean function (tested against real Go, not proved from fmt's source: count such statements apart). THE CARD IS WHAT COUNTS. Prove the row's statement (the work); the ties are given (YtldbmogondmgmaaGreatDoorTie.lean); close each card by the builder's one call (the guide's Derived/Test/ToyasCard.lean, 'card_holds'). Laid BY PROGRAM, IN A SANDBOX (cutbox-door.mjs). By AI agents, Wed Nov 11 2026. No macro, syntax, notation, axiom, sorry.
-/
import Derived.Test.YtldbmogondmgmaaGreatDoorRows
import GoSem.ClaimSeven
namespace Go.Proofs.YtldbmogondmgmaaGreatDoor
namespace Rows

/-- THE TIED CARD OF 'scriptoriumlaw13.PokeRises'. -/
def pokeRisesCard : Claim7 := { stood := { row := pokeRisesRow, standIns := [], harness := (true, "8cd1ccd814c45d0266799422c3ddeebb994522edc9018ac8d0420412985bdef1"), looks := false }, kinds := [], alts := [], laidByText := true, laidKinds := [.data, .pinned], laidTests := true, laidLooks := .later }
def PokeRisesCardSaid : Prop := Claim7.holds Tryz.pinned (.plain (OpenSpec.ofChange pokeRisesSpec)) pokeRisesCard

/-- THE TIED CARD OF 'scriptoriumlaw13.PokeApart'. -/
def pokeApartCard : Claim7 := { stood := { row := pokeApartRow, standIns := [], harness := (true, "8cd1ccd814c45d0266799422c3ddeebb994522edc9018ac8d0420412985bdef1"), looks := false }, kinds := [], alts := [], laidByText := true, laidKinds := [.data, .pinned], laidTests := true, laidLooks := .later }
def PokeApartCardSaid : Prop := Claim7.holds Tryz.pinned (.plain (OpenSpec.ofChange pokeApartSpec)) pokeApartCard

/-- THE TIED CARD OF 'scriptoriumlaw14.SettleStays'. -/
def settleStaysCard : Claim7 := { stood := { row := settleStaysRow, standIns := [], harness := (true, "8cd1ccd814c45d0266799422c3ddeebb994522edc9018ac8d0420412985bdef1"), looks := false }, kinds := [], alts := [], laidByText := true, laidKinds := [.data, .pinned], laidTests := true, laidLooks := .later }
def SettleStaysCardSaid : Prop := Claim7.holds Tryz.pinned (.plain (OpenSpec.ofChange settleStaysSpec)) settleStaysCard

/-- THE TIED CARD OF 'scriptoriumlaw15.SweepReads'. -/
def sweepReadsCard : Claim7 := { stood := { row := sweepReadsRow, standIns := [], harness := (true, "8cd1ccd814c45d0266799422c3ddeebb994522edc9018ac8d0420412985bdef1"), looks := false }, kinds := [], alts := [], laidByText := true, laidKinds := [.data, .pinned], laidTests := true, laidLooks := .later }
def SweepReadsCardSaid : Prop := Claim7.holds Tryz.pinned (.plain (OpenSpec.ofChange sweepReadsSpec)) sweepReadsCard

/-- THE TIED CARD OF 'scriptoriumlaw15.SweepAgain'. -/
def sweepAgainCard : Claim7 := { stood := { row := sweepAgainRow, standIns := [], harness := (true, "8cd1ccd814c45d0266799422c3ddeebb994522edc9018ac8d0420412985bdef1"), looks := false }, kinds := [], alts := [], laidByText := true, laidKinds := [.data, .pinned], laidTests := true, laidLooks := .later }
def SweepAgainCardSaid : Prop := Claim7.holds Tryz.pinned (.plain (OpenSpec.ofChange sweepAgainSpec)) sweepAgainCard

/-- THE TIED CARD OF 'scriptoriumlaw15.SweepKnown'. -/
def sweepKnownCard : Claim7 := { stood := { row := sweepKnownRow, standIns := [], harness := (true, "8cd1ccd814c45d0266799422c3ddeebb994522edc9018ac8d0420412985bdef1"), looks := false }, kinds := [], alts := [], laidByText := true, laidKinds := [.data, .pinned], laidTests := true, laidLooks := .later }
def SweepKnownCardSaid : Prop := Claim7.holds Tryz.pinned (.plain (OpenSpec.ofChange sweepKnownSpec)) sweepKnownCard

/-- THE SECOND FORM's CARD OF 'scriptoriumlaw13.PokeRises'. -/
def pokeRisesUptoCard : Claim7 := { stood := { row := pokeRisesUptoRow, standIns := [], harness := (true, "8cd1ccd814c45d0266799422c3ddeebb994522edc9018ac8d0420412985bdef1"), looks := false }, kinds := [], alts := [], laidByText := true, laidKinds := [.data, .pinned], laidTests := true, laidLooks := .later }
def PokeRisesUptoCardSaid : Prop := Claim7.holds Tryz.pinned (.plain (OpenSpec.upto pokeRisesSpec)) pokeRisesUptoCard

/-- THE SECOND FORM's CARD OF 'scriptoriumlaw13.PokeApart'. -/
def pokeApartUptoCard : Claim7 := { stood := { row := pokeApartUptoRow, standIns := [], harness := (true, "8cd1ccd814c45d0266799422c3ddeebb994522edc9018ac8d0420412985bdef1"), looks := false }, kinds := [], alts := [], laidByText := true, laidKinds := [.data, .pinned], laidTests := true, laidLooks := .later }
def PokeApartUptoCardSaid : Prop := Claim7.holds Tryz.pinned (.plain (OpenSpec.upto pokeApartSpec)) pokeApartUptoCard

/-- THE SECOND FORM's CARD OF 'scriptoriumlaw14.SettleStays'. -/
def settleStaysUptoCard : Claim7 := { stood := { row := settleStaysUptoRow, standIns := [], harness := (true, "8cd1ccd814c45d0266799422c3ddeebb994522edc9018ac8d0420412985bdef1"), looks := false }, kinds := [], alts := [], laidByText := true, laidKinds := [.data, .pinned], laidTests := true, laidLooks := .later }
def SettleStaysUptoCardSaid : Prop := Claim7.holds Tryz.pinned (.plain (OpenSpec.upto settleStaysSpec)) settleStaysUptoCard

/-- THE SECOND FORM's CARD OF 'scriptoriumlaw15.SweepReads'. -/
def sweepReadsUptoCard : Claim7 := { stood := { row := sweepReadsUptoRow, standIns := [], harness := (true, "8cd1ccd814c45d0266799422c3ddeebb994522edc9018ac8d0420412985bdef1"), looks := false }, kinds := [], alts := [], laidByText := true, laidKinds := [.data, .pinned], laidTests := true, laidLooks := .later }
def SweepReadsUptoCardSaid : Prop := Claim7.holds Tryz.pinned (.plain (OpenSpec.upto sweepReadsSpec)) sweepReadsUptoCard

/-- THE SECOND FORM's CARD OF 'scriptoriumlaw15.SweepAgain'. -/
def sweepAgainUptoCard : Claim7 := { stood := { row := sweepAgainUptoRow, standIns := [], harness := (true, "8cd1ccd814c45d0266799422c3ddeebb994522edc9018ac8d0420412985bdef1"), looks := false }, kinds := [], alts := [], laidByText := true, laidKinds := [.data, .pinned], laidTests := true, laidLooks := .later }
def SweepAgainUptoCardSaid : Prop := Claim7.holds Tryz.pinned (.plain (OpenSpec.upto sweepAgainSpec)) sweepAgainUptoCard

/-- THE SECOND FORM's CARD OF 'scriptoriumlaw15.SweepKnown'. -/
def sweepKnownUptoCard : Claim7 := { stood := { row := sweepKnownUptoRow, standIns := [], harness := (true, "8cd1ccd814c45d0266799422c3ddeebb994522edc9018ac8d0420412985bdef1"), looks := false }, kinds := [], alts := [], laidByText := true, laidKinds := [.data, .pinned], laidTests := true, laidLooks := .later }
def SweepKnownUptoCardSaid : Prop := Claim7.holds Tryz.pinned (.plain (OpenSpec.upto sweepKnownSpec)) sweepKnownUptoCard
end Rows
end Go.Proofs.YtldbmogondmgmaaGreatDoor
