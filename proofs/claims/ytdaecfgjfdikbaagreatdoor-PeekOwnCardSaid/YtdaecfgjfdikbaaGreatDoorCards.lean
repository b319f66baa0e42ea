/-
  DERIVED. GIVEN WITH THE SEED: THE CARDS: each row of YtdaecfgjfdikbaaGreatDoorRows.lean that lists a variable, with what it lists TIED to the program's text (the seventh form; the later family's looks); each row that meets fmt, with fmt's text TOLD by the authors' own Lean function (tested against real Go, not proved from fmt's source: count such statements apart). THE CARD IS WHAT COUNTS. Prove the row's statement (the work); the ties are given (YtdaecfgjfdikbaaGreatDoorTie.lean); close each card by the builder's one call (the guide's Derived/Test/ToyasCard.lean, 'card_holds'). Laid BY PROGRAM, IN A SANDBOX (cutbox-door.mjs). By AI agents, Wed Nov 11 2026. No macro, syntax, notation, axiom, sorry.
-/
import Derived.Test.YtdaecfgjfdikbaaGreatDoorRows
import GoSem.ClaimSeven
namespace Go.Proofs.YtdaecfgjfdikbaaGreatDoor
namespace Rows

/-- THE TIED CARD OF 'scriptoriumlaw12.PeekGets'. -/
def peekGetsCard : Claim7 := { stood := { row := peekGetsRow, standIns := [], harness := (true, "a011b5b2bce949e8168e7f0cfa4098c52f9914c2c336cc02d160c439fe933233"), looks := false }, kinds := [], alts := [], laidByText := true, laidKinds := [.data, .pinned], laidTests := true, laidLooks := .later }
def PeekGetsCardSaid : Prop := Claim7.holds Tryz.pinned (.plain (OpenSpec.ofChange peekGetsSpec)) peekGetsCard

/-- THE TIED CARD OF 'scriptoriumlaw12.PeekAbove'. -/
def peekAboveCard : Claim7 := { stood := { row := peekAboveRow, standIns := [], harness := (true, "a011b5b2bce949e8168e7f0cfa4098c52f9914c2c336cc02d160c439fe933233"), looks := false }, kinds := [], alts := [], laidByText := true, laidKinds := [.data, .pinned], laidTests := true, laidLooks := .later }
def PeekAboveCardSaid : Prop := Claim7.holds Tryz.pinned (.plain (OpenSpec.ofChange peekAboveSpec)) peekAboveCard

/-- THE TIED CARD OF 'scriptoriumlaw12.PeekSplit'. -/
def peekSplitCard : Claim7 := { stood := { row := peekSplitRow, standIns := [], harness := (true, "a011b5b2bce949e8168e7f0cfa4098c52f9914c2c336cc02d160c439fe933233"), looks := false }, kinds := [], alts := [], laidByText := true, laidKinds := [.data, .pinned], laidTests := true, laidLooks := .later }
def PeekSplitCardSaid : Prop := Claim7.holds Tryz.pinned (.plain (OpenSpec.ofChange peekSplitSpec)) peekSplitCard

/-- THE TIED CARD OF 'scriptoriumlaw12.PeekLater'. -/
def peekLaterCard : Claim7 := { stood := { row := peekLaterRow, standIns := [], harness := (true, "a011b5b2bce949e8168e7f0cfa4098c52f9914c2c336cc02d160c439fe933233"), looks := false }, kinds := [], alts := [], laidByText := true, laidKinds := [.data, .pinned], laidTests := true, laidLooks := .later }
def PeekLaterCardSaid : Prop := Claim7.holds Tryz.pinned (.plain (OpenSpec.ofChange peekLaterSpec)) peekLaterCard

/-- THE TIED CARD OF 'scriptoriumlaw12.PeekOwn'. -/
def peekOwnCard : Claim7 := { stood := { row := peekOwnRow, standIns := [], harness := (true, "a011b5b2bce949e8168e7f0cfa4098c52f9914c2c336cc02d160c439fe933233"), looks := false }, kinds := [], alts := [], laidByText := true, laidKinds := [.data, .pinned], laidTests := true, laidLooks := .later }
def PeekOwnCardSaid : Prop := Claim7.holds Tryz.pinned (.plain (OpenSpec.ofChange peekOwnSpec)) peekOwnCard

/-- THE TIED CARD OF 'scriptoriumlaw13.PokePuts'. -/
def pokePutsCard : Claim7 := { stood := { row := pokePutsRow, standIns := [], harness := (true, "a011b5b2bce949e8168e7f0cfa4098c52f9914c2c336cc02d160c439fe933233"), looks := false }, kinds := [], alts := [], laidByText := true, laidKinds := [.data, .pinned], laidTests := true, laidLooks := .later }
def PokePutsCardSaid : Prop := Claim7.holds Tryz.pinned (.plain (OpenSpec.ofChange pokePutsSpec)) pokePutsCard

/-- THE TIED CARD OF 'scriptoriumlaw13.PokeChains'. -/
def pokeChainsCard : Claim7 := { stood := { row := pokeChainsRow, standIns := [], harness := (true, "a011b5b2bce949e8168e7f0cfa4098c52f9914c2c336cc02d160c439fe933233"), looks := false }, kinds := [], alts := [], laidByText := true, laidKinds := [.data, .pinned], laidTests := true, laidLooks := .later }
def PokeChainsCardSaid : Prop := Claim7.holds Tryz.pinned (.plain (OpenSpec.ofChange pokeChainsSpec)) pokeChainsCard

/-- THE TIED CARD OF 'scriptoriumlaw13.PokeReads'. -/
def pokeReadsCard : Claim7 := { stood := { row := pokeReadsRow, standIns := [], harness := (true, "a011b5b2bce949e8168e7f0cfa4098c52f9914c2c336cc02d160c439fe933233"), looks := false }, kinds := [], alts := [], laidByText := true, laidKinds := [.data, .pinned], laidTests := true, laidLooks := .later }
def PokeReadsCardSaid : Prop := Claim7.holds Tryz.pinned (.plain (OpenSpec.ofChange pokeReadsSpec)) pokeReadsCard

/-- THE TIED CARD OF 'scriptoriumlaw13.PokeAbove'. -/
def pokeAboveCard : Claim7 := { stood := { row := pokeAboveRow, standIns := [], harness := (true, "a011b5b2bce949e8168e7f0cfa4098c52f9914c2c336cc02d160c439fe933233"), looks := false }, kinds := [], alts := [], laidByText := true, laidKinds := [.data, .pinned], laidTests := true, laidLooks := .later }
def PokeAboveCardSaid : Prop := Claim7.holds Tryz.pinned (.plain (OpenSpec.ofChange pokeAboveSpec)) pokeAboveCard

/-- THE TIED CARD OF 'scriptoriumlaw13.PokeRises'. -/
def pokeRisesCard : Claim7 := { stood := { row := pokeRisesRow, standIns := [], harness := (true, "a011b5b2bce949e8168e7f0cfa4098c52f9914c2c336cc02d160c439fe933233"), looks := false }, kinds := [], alts := [], laidByText := true, laidKinds := [.data, .pinned], laidTests := true, laidLooks := .later }
def PokeRisesCardSaid : Prop := Claim7.holds Tryz.pinned (.plain (OpenSpec.ofChange pokeRisesSpec)) pokeRisesCard

/-- THE TIED CARD OF 'scriptoriumlaw13.PokeApart'. -/
def pokeApartCard : Claim7 := { stood := { row := pokeApartRow, standIns := [], harness := (true, "a011b5b2bce949e8168e7f0cfa4098c52f9914c2c336cc02d160c439fe933233"), looks := false }, kinds := [], alts := [], laidByText := true, laidKinds := [.data, .pinned], laidTests := true, laidLooks := .later }
def PokeApartCardSaid : Prop := Claim7.holds Tryz.pinned (.plain (OpenSpec.ofChange pokeApartSpec)) pokeApartCard

/-- THE TIED CARD OF 'scriptoriumlaw13.PokeNames'. -/
def pokeNamesCard : Claim7 := { stood := { row := pokeNamesRow, standIns := [], harness := (true, "a011b5b2bce949e8168e7f0cfa4098c52f9914c2c336cc02d160c439fe933233"), looks := false }, kinds := [], alts := [], laidByText := true, laidKinds := [.data, .pinned], laidTests := true, laidLooks := .later }
def PokeNamesCardSaid : Prop := Claim7.holds Tryz.pinned (.plain (OpenSpec.ofChange pokeNamesSpec)) pokeNamesCard

/-- THE SECOND FORM's CARD OF 'scriptoriumlaw12.PeekGets'. -/
def peekGetsUptoCard : Claim7 := { stood := { row := peekGetsUptoRow, standIns := [], harness := (true, "a011b5b2bce949e8168e7f0cfa4098c52f9914c2c336cc02d160c439fe933233"), looks := false }, kinds := [], alts := [], laidByText := true, laidKinds := [.data, .pinned], laidTests := true, laidLooks := .later }
def PeekGetsUptoCardSaid : Prop := Claim7.holds Tryz.pinned (.plain (OpenSpec.upto peekGetsSpec)) peekGetsUptoCard

/-- THE SECOND FORM's CARD OF 'scriptoriumlaw12.PeekAbove'. -/
def peekAboveUptoCard : Claim7 := { stood := { row := peekAboveUptoRow, standIns := [], harness := (true, "a011b5b2bce949e8168e7f0cfa4098c52f9914c2c336cc02d160c439fe933233"), looks := false }, kinds := [], alts := [], laidByText := true, laidKinds := [.data, .pinned], laidTests := true, laidLooks := .later }
def PeekAboveUptoCardSaid : Prop := Claim7.holds Tryz.pinned (.plain (OpenSpec.upto peekAboveSpec)) peekAboveUptoCard

/-- THE SECOND FORM's CARD OF 'scriptoriumlaw12.PeekSplit'. -/
def peekSplitUptoCard : Claim7 := { stood := { row := peekSplitUptoRow, standIns := [], harness := (true, "a011b5b2bce949e8168e7f0cfa4098c52f9914c2c336cc02d160c439fe933233"), looks := false }, kinds := [], alts := [], laidByText := true, laidKinds := [.data, .pinned], laidTests := true, laidLooks := .later }
def PeekSplitUptoCardSaid : Prop := Claim7.holds Tryz.pinned (.plain (OpenSpec.upto peekSplitSpec)) peekSplitUptoCard

/-- THE SECOND FORM's CARD OF 'scriptoriumlaw12.PeekLater'. -/
def peekLaterUptoCard : Claim7 := { stood := { row := peekLaterUptoRow, standIns := [], harness := (true, "a011b5b2bce949e8168e7f0cfa4098c52f9914c2c336cc02d160c439fe933233"), looks := false }, kinds := [], alts := [], laidByText := true, laidKinds := [.data, .pinned], laidTests := true, laidLooks := .later }
def PeekLaterUptoCardSaid : Prop := Claim7.holds Tryz.pinned (.plain (OpenSpec.upto peekLaterSpec)) peekLaterUptoCard

/-- THE SECOND FORM's CARD OF 'scriptoriumlaw12.PeekOwn'. -/
def peekOwnUptoCard : Claim7 := { stood := { row := peekOwnUptoRow, standIns := [], harness := (true, "a011b5b2bce949e8168e7f0cfa4098c52f9914c2c336cc02d160c439fe933233"), looks := false }, kinds := [], alts := [], laidByText := true, laidKinds := [.data, .pinned], laidTests := true, laidLooks := .later }
def PeekOwnUptoCardSaid : Prop := Claim7.holds Tryz.pinned (.plain (OpenSpec.upto peekOwnSpec)) peekOwnUptoCard

/-- THE SECOND FORM's CARD OF 'scriptoriumlaw13.PokePuts'. -/
def pokePutsUptoCard : Claim7 := { stood := { row := pokePutsUptoRow, standIns := [], harness := (true, "a011b5b2bce949e8168e7f0cfa4098c52f9914c2c336cc02d160c439fe933233"), looks := false }, kinds := [], alts := [], laidByText := true, laidKinds := [.data, .pinned], laidTests := true, laidLooks := .later }
def PokePutsUptoCardSaid : Prop := Claim7.holds Tryz.pinned (.plain (OpenSpec.upto pokePutsSpec)) pokePutsUptoCard

/-- THE SECOND FORM's CARD OF 'scriptoriumlaw13.PokeChains'. -/
def pokeChainsUptoCard : Claim7 := { stood := { row := pokeChainsUptoRow, standIns := [], harness := (true, "a011b5b2bce949e8168e7f0cfa4098c52f9914c2c336cc02d160c439fe933233"), looks := false }, kinds := [], alts := [], laidByText := true, laidKinds := [.data, .pinned], laidTests := true, laidLooks := .later }
def PokeChainsUptoCardSaid : Prop := Claim7.holds Tryz.pinned (.plain (OpenSpec.upto pokeChainsSpec)) pokeChainsUptoCard

/-- THE SECOND FORM's CARD OF 'scriptoriumlaw13.PokeReads'. -/
def pokeReadsUptoCard : Claim7 := { stood := { row := pokeReadsUptoRow, standIns := [], harness := (true, "a011b5b2bce949e8168e7f0cfa4098c52f9914c2c336cc02d160c439fe933233"), looks := false }, kinds := [], alts := [], laidByText := true, laidKinds := [.data, .pinned], laidTests := true, laidLooks := .later }
def PokeReadsUptoCardSaid : Prop := Claim7.holds Tryz.pinned (.plain (OpenSpec.upto pokeReadsSpec)) pokeReadsUptoCard

/-- THE SECOND FORM's CARD OF 'scriptoriumlaw13.PokeAbove'. -/
def pokeAboveUptoCard : Claim7 := { stood := { row := pokeAboveUptoRow, standIns := [], harness := (true, "a011b5b2bce949e8168e7f0cfa4098c52f9914c2c336cc02d160c439fe933233"), looks := false }, kinds := [], alts := [], laidByText := true, laidKinds := [.data, .pinned], laidTests := true, laidLooks := .later }
def PokeAboveUptoCardSaid : Prop := Claim7.holds Tryz.pinned (.plain (OpenSpec.upto pokeAboveSpec)) pokeAboveUptoCard

/-- THE SECOND FORM's CARD OF 'scriptoriumlaw13.PokeRises'. -/
def pokeRisesUptoCard : Claim7 := { stood := { row := pokeRisesUptoRow, standIns := [], harness := (true, "a011b5b2bce949e8168e7f0cfa4098c52f9914c2c336cc02d160c439fe933233"), looks := false }, kinds := [], alts := [], laidByText := true, laidKinds := [.data, .pinned], laidTests := true, laidLooks := .later }
def PokeRisesUptoCardSaid : Prop := Claim7.holds Tryz.pinned (.plain (OpenSpec.upto pokeRisesSpec)) pokeRisesUptoCard

/-- THE SECOND FORM's CARD OF 'scriptoriumlaw13.PokeApart'. -/
def pokeApartUptoCard : Claim7 := { stood := { row := pokeApartUptoRow, standIns := [], harness := (true, "a011b5b2bce949e8168e7f0cfa4098c52f9914c2c336cc02d160c439fe933233"), looks := false }, kinds := [], alts := [], laidByText := true, laidKinds := [.data, .pinned], laidTests := true, laidLooks := .later }
def PokeApartUptoCardSaid : Prop := Claim7.holds Tryz.pinned (.plain (OpenSpec.upto pokeApartSpec)) pokeApartUptoCard

/-- THE SECOND FORM's CARD OF 'scriptoriumlaw13.PokeNames'. -/
def pokeNamesUptoCard : Claim7 := { stood := { row := pokeNamesUptoRow, standIns := [], harness := (true, "a011b5b2bce949e8168e7f0cfa4098c52f9914c2c336cc02d160c439fe933233"), looks := false }, kinds := [], alts := [], laidByText := true, laidKinds := [.data, .pinned], laidTests := true, laidLooks := .later }
def PokeNamesUptoCardSaid : Prop := Claim7.holds Tryz.pinned (.plain (OpenSpec.upto pokeNamesSpec)) pokeNamesUptoCard
end Rows
end Go.Proofs.YtdaecfgjfdikbaaGreatDoor
