/-
  DERIVED. GIVEN WITH THE SEED: THE CARDS: each row of YtchebellejkdnaaGreatDoorRows.lean that lists a variable, with what it lists TIED to the program's text (the seventh form; the later family's looks); each row that meets fmt, with fmt's text TOLD by the authors' own Lean function (tested against real Go, not proved from fmt's source: count such statements apart). THE CARD IS WHAT COUNTS. Prove the row's statement (the work); the ties are given (YtchebellejkdnaaGreatDoorTie.lean); close each card by the builder's one call (the guide's Derived/Test/ToyasCard.lean, 'card_holds'). Laid BY PROGRAM, IN A SANDBOX (cutbox-door.mjs). By AI agents, Wed Nov 11 2026. No macro, syntax, notation, axiom, sorry.
-/
import Derived.Test.YtchebellejkdnaaGreatDoorRows
import GoSem.ClaimSeven
namespace Go.Proofs.YtchebellejkdnaaGreatDoor
namespace Rows

/-- THE TIED CARD OF 'scriptoriumlaw11.CellTakes'. -/
def cellTakesCard : Claim7 := { stood := { row := cellTakesRow, standIns := [], harness := (true, "bd6ac68c569a57f670e2cb47a2ac078e33bb8ad679172b3e641f680882df868a"), looks := false }, kinds := [], alts := [], laidByText := true, laidKinds := [.data, .pinned], laidTests := true, laidLooks := .later }
def CellTakesCardSaid : Prop := Claim7.holds Tryz.pinned (.plain (OpenSpec.ofChange cellTakesSpec)) cellTakesCard

/-- THE TIED CARD OF 'scriptoriumlaw11.CellBack'. -/
def cellBackCard : Claim7 := { stood := { row := cellBackRow, standIns := [], harness := (true, "bd6ac68c569a57f670e2cb47a2ac078e33bb8ad679172b3e641f680882df868a"), looks := false }, kinds := [], alts := [], laidByText := true, laidKinds := [.data, .pinned], laidTests := true, laidLooks := .later }
def CellBackCardSaid : Prop := Claim7.holds Tryz.pinned (.plain (OpenSpec.ofChange cellBackSpec)) cellBackCard

/-- THE SECOND FORM's CARD OF 'scriptoriumlaw11.CellTakes'. -/
def cellTakesUptoCard : Claim7 := { stood := { row := cellTakesUptoRow, standIns := [], harness := (true, "bd6ac68c569a57f670e2cb47a2ac078e33bb8ad679172b3e641f680882df868a"), looks := false }, kinds := [], alts := [], laidByText := true, laidKinds := [.data, .pinned], laidTests := true, laidLooks := .later }
def CellTakesUptoCardSaid : Prop := Claim7.holds Tryz.pinned (.plain (OpenSpec.upto cellTakesSpec)) cellTakesUptoCard

/-- THE SECOND FORM's CARD OF 'scriptoriumlaw11.CellBack'. -/
def cellBackUptoCard : Claim7 := { stood := { row := cellBackUptoRow, standIns := [], harness := (true, "bd6ac68c569a57f670e2cb47a2ac078e33bb8ad679172b3e641f680882df868a"), looks := false }, kinds := [], alts := [], laidByText := true, laidKinds := [.data, .pinned], laidTests := true, laidLooks := .later }
def CellBackUptoCardSaid : Prop := Claim7.holds Tryz.pinned (.plain (OpenSpec.upto cellBackSpec)) cellBackUptoCard
end Rows
end Go.Proofs.YtchebellejkdnaaGreatDoor
