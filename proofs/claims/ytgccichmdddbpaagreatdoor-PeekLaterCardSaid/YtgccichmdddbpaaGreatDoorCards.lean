/-
  DERIVED. GIVEN WITH THE SEED: THE CARDS: each row of YtgccichmdddbpaaGreatDoorRows.lean that lists a variable, with what it lists TIED to the program's text (the seventh form; the later family's looks); each row that meets fmt, with fmt's text TOLD by the authors' own Lean function (tested against real Go, not proved from fmt's source: count such statements apart). THE CARD IS WHAT COUNTS. Prove the row's statement (the work); the ties are given (YtgccichmdddbpaaGreatDoorTie.lean); close each card by the builder's one call (the guide's Derived/Test/ToyasCard.lean, 'card_holds'). Laid BY PROGRAM, IN A SANDBOX (cutbox-door.mjs). By AI agents, Wed Nov 11 2026. No macro, syntax, notation, axiom, sorry.
-/
import Derived.Test.YtgccichmdddbpaaGreatDoorRows
import GoSem.ClaimSeven
namespace Go.Proofs.YtgccichmdddbpaaGreatDoor
namespace Rows

/-- THE TIED CARD OF 'scriptoriumlaw13.PokePuts'. -/
def pokePutsCard : Claim7 := { stood := { row := pokePutsRow, standIns := [], harness := (true, "8cbe55a63b8ddd326d9114b7f2a67dacad20587dc45f24fb5d4252ad37c70652"), looks := false }, kinds := [], alts := [], laidByText := true, laidKinds := [.data, .pinned], laidTests := true, laidLooks := .later }
def PokePutsCardSaid : Prop := Claim7.holds Tryz.pinned (.plain (OpenSpec.ofChange pokePutsSpec)) pokePutsCard

/-- THE TIED CARD OF 'scriptoriumlaw13.PokeChains'. -/
def pokeChainsCard : Claim7 := { stood := { row := pokeChainsRow, standIns := [], harness := (true, "8cbe55a63b8ddd326d9114b7f2a67dacad20587dc45f24fb5d4252ad37c70652"), looks := false }, kinds := [], alts := [], laidByText := true, laidKinds := [.data, .pinned], laidTests := true, laidLooks := .later }
def PokeChainsCardSaid : Prop := Claim7.holds Tryz.pinned (.plain (OpenSpec.ofChange pokeChainsSpec)) pokeChainsCard

/-- THE TIED CARD OF 'scriptoriumlaw13.PokeAbove'. -/
def pokeAboveCard : Claim7 := { stood := { row := pokeAboveRow, standIns := [], harness := (true, "8cbe55a63b8ddd326d9114b7f2a67dacad20587dc45f24fb5d4252ad37c70652"), looks := false }, kinds := [], alts := [], laidByText := true, laidKinds := [.data, .pinned], laidTests := true, laidLooks := .later }
def PokeAboveCardSaid : Prop := Claim7.holds Tryz.pinned (.plain (OpenSpec.ofChange pokeAboveSpec)) pokeAboveCard

/-- THE TIED CARD OF 'scriptoriumlaw13.PokeApart'. -/
def pokeApartCard : Claim7 := { stood := { row := pokeApartRow, standIns := [], harness := (true, "8cbe55a63b8ddd326d9114b7f2a67dacad20587dc45f24fb5d4252ad37c70652"), looks := false }, kinds := [], alts := [], laidByText := true, laidKinds := [.data, .pinned], laidTests := true, laidLooks := .later }
def PokeApartCardSaid : Prop := Claim7.holds Tryz.pinned (.plain (OpenSpec.ofChange pokeApartSpec)) pokeApartCard

/-- THE TIED CARD OF 'scriptoriumlaw12.PeekGets'. -/
def peekGetsCard : Claim7 := { stood := { row := peekGetsRow, standIns := [], harness := (true, "8cbe55a63b8ddd326d9114b7f2a67dacad20587dc45f24fb5d4252ad37c70652"), looks := false }, kinds := [], alts := [], laidByText := true, laidKinds := [.data, .pinned], laidTests := true, laidLooks := .later }
def PeekGetsCardSaid : Prop := Claim7.holds Tryz.pinned (.plain (OpenSpec.ofChange peekGetsSpec)) peekGetsCard

/-- THE TIED CARD OF 'scriptoriumlaw12.PeekAbove'. -/
def peekAboveCard : Claim7 := { stood := { row := peekAboveRow, standIns := [], harness := (true, "8cbe55a63b8ddd326d9114b7f2a67dacad20587dc45f24fb5d4252ad37c70652"), looks := false }, kinds := [], alts := [], laidByText := true, laidKinds := [.data, .pinned], laidTests := true, laidLooks := .later }
def PeekAboveCardSaid : Prop := Claim7.holds Tryz.pinned (.plain (OpenSpec.ofChange peekAboveSpec)) peekAboveCard

/-- THE TIED CARD OF 'scriptoriumlaw12.PeekSplit'. -/
def peekSplitCard : Claim7 := { stood := { row := peekSplitRow, standIns := [], harness := (true, "8cbe55a63b8ddd326d9114b7f2a67dacad20587dc45f24fb5d4252ad37c70652"), looks := false }, kinds := [], alts := [], laidByText := true, laidKinds := [.data, .pinned], laidTests := true, laidLooks := .later }
def PeekSplitCardSaid : Prop := Claim7.holds Tryz.pinned (.plain (OpenSpec.ofChange peekSplitSpec)) peekSplitCard

/-- THE TIED CARD OF 'scriptoriumlaw12.PeekLater'. -/
def peekLaterCard : Claim7 := { stood := { row := peekLaterRow, standIns := [], harness := (true, "8cbe55a63b8ddd326d9114b7f2a67dacad20587dc45f24fb5d4252ad37c70652"), looks := false }, kinds := [], alts := [], laidByText := true, laidKinds := [.data, .pinned], laidTests := true, laidLooks := .later }
def PeekLaterCardSaid : Prop := Claim7.holds Tryz.pinned (.plain (OpenSpec.ofChange peekLaterSpec)) peekLaterCard

/-- THE SECOND FORM's CARD OF 'scriptoriumlaw13.PokePuts'. -/
def pokePutsUptoCard : Claim7 := { stood := { row := pokePutsUptoRow, standIns := [], harness := (true, "8cbe55a63b8ddd326d9114b7f2a67dacad20587dc45f24fb5d4252ad37c70652"), looks := false }, kinds := [], alts := [], laidByText := true, laidKinds := [.data, .pinned], laidTests := true, laidLooks := .later }
def PokePutsUptoCardSaid : Prop := Claim7.holds Tryz.pinned (.plain (OpenSpec.upto pokePutsSpec)) pokePutsUptoCard

/-- THE SECOND FORM's CARD OF 'scriptoriumlaw13.PokeChains'. -/
def pokeChainsUptoCard : Claim7 := { stood := { row := pokeChainsUptoRow, standIns := [], harness := (true, "8cbe55a63b8ddd326d9114b7f2a67dacad20587dc45f24fb5d4252ad37c70652"), looks := false }, kinds := [], alts := [], laidByText := true, laidKinds := [.data, .pinned], laidTests := true, laidLooks := .later }
def PokeChainsUptoCardSaid : Prop := Claim7.holds Tryz.pinned (.plain (OpenSpec.upto pokeChainsSpec)) pokeChainsUptoCard

/-- THE SECOND FORM's CARD OF 'scriptoriumlaw13.PokeAbove'. -/
def pokeAboveUptoCard : Claim7 := { stood := { row := pokeAboveUptoRow, standIns := [], harness := (true, "8cbe55a63b8ddd326d9114b7f2a67dacad20587dc45f24fb5d4252ad37c70652"), looks := false }, kinds := [], alts := [], laidByText := true, laidKinds := [.data, .pinned], laidTests := true, laidLooks := .later }
def PokeAboveUptoCardSaid : Prop := Claim7.holds Tryz.pinned (.plain (OpenSpec.upto pokeAboveSpec)) pokeAboveUptoCard

/-- THE SECOND FORM's CARD OF 'scriptoriumlaw13.PokeApart'. -/
def pokeApartUptoCard : Claim7 := { stood := { row := pokeApartUptoRow, standIns := [], harness := (true, "8cbe55a63b8ddd326d9114b7f2a67dacad20587dc45f24fb5d4252ad37c70652"), looks := false }, kinds := [], alts := [], laidByText := true, laidKinds := [.data, .pinned], laidTests := true, laidLooks := .later }
def PokeApartUptoCardSaid : Prop := Claim7.holds Tryz.pinned (.plain (OpenSpec.upto pokeApartSpec)) pokeApartUptoCard

/-- THE SECOND FORM's CARD OF 'scriptoriumlaw12.PeekGets'. -/
def peekGetsUptoCard : Claim7 := { stood := { row := peekGetsUptoRow, standIns := [], harness := (true, "8cbe55a63b8ddd326d9114b7f2a67dacad20587dc45f24fb5d4252ad37c70652"), looks := false }, kinds := [], alts := [], laidByText := true, laidKinds := [.data, .pinned], laidTests := true, laidLooks := .later }
def PeekGetsUptoCardSaid : Prop := Claim7.holds Tryz.pinned (.plain (OpenSpec.upto peekGetsSpec)) peekGetsUptoCard

/-- THE SECOND FORM's CARD OF 'scriptoriumlaw12.PeekAbove'. -/
def peekAboveUptoCard : Claim7 := { stood := { row := peekAboveUptoRow, standIns := [], harness := (true, "8cbe55a63b8ddd326d9114b7f2a67dacad20587dc45f24fb5d4252ad37c70652"), looks := false }, kinds := [], alts := [], laidByText := true, laidKinds := [.data, .pinned], laidTests := true, laidLooks := .later }
def PeekAboveUptoCardSaid : Prop := Claim7.holds Tryz.pinned (.plain (OpenSpec.upto peekAboveSpec)) peekAboveUptoCard

/-- THE SECOND FORM's CARD OF 'scriptoriumlaw12.PeekSplit'. -/
def peekSplitUptoCard : Claim7 := { stood := { row := peekSplitUptoRow, standIns := [], harness := (true, "8cbe55a63b8ddd326d9114b7f2a67dacad20587dc45f24fb5d4252ad37c70652"), looks := false }, kinds := [], alts := [], laidByText := true, laidKinds := [.data, .pinned], laidTests := true, laidLooks := .later }
def PeekSplitUptoCardSaid : Prop := Claim7.holds Tryz.pinned (.plain (OpenSpec.upto peekSplitSpec)) peekSplitUptoCard

/-- THE SECOND FORM's CARD OF 'scriptoriumlaw12.PeekLater'. -/
def peekLaterUptoCard : Claim7 := { stood := { row := peekLaterUptoRow, standIns := [], harness := (true, "8cbe55a63b8ddd326d9114b7f2a67dacad20587dc45f24fb5d4252ad37c70652"), looks := false }, kinds := [], alts := [], laidByText := true, laidKinds := [.data, .pinned], laidTests := true, laidLooks := .later }
def PeekLaterUptoCardSaid : Prop := Claim7.holds Tryz.pinned (.plain (OpenSpec.upto peekLaterSpec)) peekLaterUptoCard
end Rows
end Go.Proofs.YtgccichmdddbpaaGreatDoor
