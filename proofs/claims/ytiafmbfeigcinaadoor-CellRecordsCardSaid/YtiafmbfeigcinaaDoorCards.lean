/-
  DERIVED. GIVEN WITH THE SEED: THE CARDS: each row of YtiafmbfeigcinaaDoorRows.lean that lists a variable, with what it lists TIED to the program's text (the seventh form; the later family's looks); each row that meets fmt, with fmt's text TOLD by the authors' own Lean function (tested against real Go, not proved from fmt's source: count such statements apart). THE CARD IS WHAT COUNTS. Prove the row's statement (the work); the ties are given (YtiafmbfeigcinaaDoorTie.lean); close each card by the builder's one call (the guide's Derived/Test/ToyasCard.lean, 'card_holds'). Laid BY PROGRAM, IN A SANDBOX (cutbox-door.mjs). By AI agents, Wed Nov 11 2026. No macro, syntax, notation, axiom, sorry.
-/
import Derived.Test.YtiafmbfeigcinaaDoorRows
import GoSem.ClaimSeven
namespace Go.Proofs.YtiafmbfeigcinaaDoor
namespace Rows

/-- THE TIED CARD OF 'scriptoriumlaw11.CellIntents'. -/
def cellIntentsCard : Claim7 := { stood := { row := cellIntentsRow, standIns := [], harness := (true, "df6d3987c369b3f680f00228fc67de610787893c0035596c26f9498d86bd0166"), looks := false }, kinds := [], alts := [], laidByText := true, laidKinds := [.data, .pinned], laidTests := true, laidLooks := .later }
def CellIntentsCardSaid : Prop := Claim7.holds Tryd.pinned (.plain (OpenSpec.ofChange cellIntentsSpec)) cellIntentsCard

/-- THE TIED CARD OF 'scriptoriumlaw11.CellRecords'. -/
def cellRecordsCard : Claim7 := { stood := { row := cellRecordsRow, standIns := [], harness := (true, "df6d3987c369b3f680f00228fc67de610787893c0035596c26f9498d86bd0166"), looks := false }, kinds := [], alts := [], laidByText := true, laidKinds := [.data, .pinned], laidTests := true, laidLooks := .later }
def CellRecordsCardSaid : Prop := Claim7.holds Tryd.pinned (.plain (OpenSpec.ofChange cellRecordsSpec)) cellRecordsCard

/-- THE SECOND FORM's CARD OF 'scriptoriumlaw11.CellIntents'. -/
def cellIntentsUptoCard : Claim7 := { stood := { row := cellIntentsUptoRow, standIns := [], harness := (true, "df6d3987c369b3f680f00228fc67de610787893c0035596c26f9498d86bd0166"), looks := false }, kinds := [], alts := [], laidByText := true, laidKinds := [.data, .pinned], laidTests := true, laidLooks := .later }
def CellIntentsUptoCardSaid : Prop := Claim7.holds Tryd.pinned (.plain (OpenSpec.upto cellIntentsSpec)) cellIntentsUptoCard

/-- THE SECOND FORM's CARD OF 'scriptoriumlaw11.CellRecords'. -/
def cellRecordsUptoCard : Claim7 := { stood := { row := cellRecordsUptoRow, standIns := [], harness := (true, "df6d3987c369b3f680f00228fc67de610787893c0035596c26f9498d86bd0166"), looks := false }, kinds := [], alts := [], laidByText := true, laidKinds := [.data, .pinned], laidTests := true, laidLooks := .later }
def CellRecordsUptoCardSaid : Prop := Claim7.holds Tryd.pinned (.plain (OpenSpec.upto cellRecordsSpec)) cellRecordsUptoCard
end Rows
end Go.Proofs.YtiafmbfeigcinaaDoor
