/-
  NARROWER THAN 'FOR EVERY INPUT', by the rows' own cells (each row's printed sentence says how): PokePuts: laid · PokeChains: laid · PokeAbove: laid · PokeApart: laid · PeekGets: laid · PeekAbove: laid · PeekSplit: laid · PeekLater: laid.
  DERIVED. THE GIVEN ROWS OF THIS SEAT. 8 by the template 'for every input the law returns true; each argument reads behind the call as it read before'; 0 by the template 'total and deterministic' (their statements: YtgccichmdddbpaaGreatDoorTotals.lean).
  GIVEN WITH THE SEED: the statements are not yours to turn. If you find one false, say at which input.
  Laid BY PROGRAM, IN A SANDBOX (cutbox-rows.mjs): the forced cells as the released guide's own fill.sh prints them over the translation 69ba925f2a60964b… (all of the seat's roots in one cut). By AI agents, Wed Nov 11 2026. No macro, syntax, notation, axiom, sorry.
-/
import Derived.Test.YtgccichmdddbpaaGreatDoorChecked
import GoSem.PinnedTables
import GoSem.Claim
import GoSem.ClaimJoined
import GoSem.ClaimMapViews
import Derived.JoinedTies
import Derived.KernelRfl
namespace Go.Proofs.YtgccichmdddbpaaGreatDoor
/- THE CELL 'sum', in the pinned program and in every row, IS THE sha256 OF THE DUMP (.gsa) THAT YtgccichmdddbpaaGreatDoorProg.lean LOADS. Nothing in Lean hashes anything: it is a label: what it is worth is what the hold of that sum in a sandbox is worth. -/
noncomputable def Tryz.pinned : Pinned := { name := "ytgccichmdddbpaagreatdoor", sum := "69ba925f2a60964ba3c31f0bad2bb3cdea1d7921b21fe7edd465559e4df2ae80", checked := Tryz.checked }
namespace Rows
def none {H : Type} : Left H := { results := [], args := [] }

/- WHAT THE LISTED PACKAGE-LEVEL VARIABLES READ AS WHEN THE CALL BEGINS. Each datum BY PROGRAM (the guide's laid-datum.mjs) off the statement by which the dump's own 'gosem.cut.vars' lays the variable. In a bare row this is a premise. The card (YtgccichmdddbpaaGreatDoorCards.lean) ties it to the program's text. -/
def laid_unicode_utf8_acceptRanges {H : Type} : DataW H := .agg [.agg [.lit (.int .u8 128), .lit (.int .u8 191)], .agg [.lit (.int .u8 160), .lit (.int .u8 191)], .agg [.lit (.int .u8 128), .lit (.int .u8 159)], .agg [.lit (.int .u8 144), .lit (.int .u8 191)], .agg [.lit (.int .u8 128), .lit (.int .u8 143)], .agg [.lit (.int .u8 0), .lit (.int .u8 0)], .agg [.lit (.int .u8 0), .lit (.int .u8 0)], .agg [.lit (.int .u8 0), .lit (.int .u8 0)], .agg [.lit (.int .u8 0), .lit (.int .u8 0)], .agg [.lit (.int .u8 0), .lit (.int .u8 0)], .agg [.lit (.int .u8 0), .lit (.int .u8 0)], .agg [.lit (.int .u8 0), .lit (.int .u8 0)], .agg [.lit (.int .u8 0), .lit (.int .u8 0)], .agg [.lit (.int .u8 0), .lit (.int .u8 0)], .agg [.lit (.int .u8 0), .lit (.int .u8 0)], .agg [.lit (.int .u8 0), .lit (.int .u8 0)]]
/-- One of Go's own tables, pinned by name: the form's constant. -/
def laid_unicode_utf8_first : DataW Unit := Go.Pinned.utf8First

/-- 'scriptoriumlaw13.PokePuts': WHATEVER THE INPUT: true; the input reads as it did. -/
def pokePutsSpec : ChangeSpec := { name := "pokePuts", fn := fun _ => fun
  | [d1, d2] => { results := [.lit (.bool true)], args := [d1, d2] }
  | _ => none }
def pokePutsRow : OpenClaim := { program := "ytgccichmdddbpaagreatdoor", sum := "69ba925f2a60964ba3c31f0bad2bb3cdea1d7921b21fe7edd465559e4df2ae80", func := "scriptorium/scriptoriumlaw13.PokePuts", spec := "pokePuts", inPlace := ["internal/bytealg.CountString", "internal/bytealg.IndexByteString", "internal/bytealg.IndexString", "internal/abi.NoEscape", "internal/bytealg.MakeNoZero"], unfollowed := true, recurses := true, named := ["internal/bytealg.MaxLen", "unicode/utf8.first", "unicode/utf8.acceptRanges"], apart := false, laid := [("unicode/utf8.acceptRanges", laid_unicode_utf8_acceptRanges), ("unicode/utf8.first", laid_unicode_utf8_first)] }
def PokePutsSaid : Prop := pokePutsRow.holds Tryz.pinned (OpenSpec.ofChange pokePutsSpec)

/-- ITS FALSE NEIGHBOUR: 'it returns false'. Refute it at one input. -/
def pokePutsWrong : ChangeSpec := { name := "pokePuts", fn := fun _ => fun
  | [d1, d2] => { results := [.lit (.bool false)], args := [d1, d2] }
  | _ => none }
def PokePutsWrongFalsely : Prop := pokePutsRow.holds Tryz.pinned (OpenSpec.ofChange pokePutsWrong)

/-- 'scriptoriumlaw13.PokeChains': WHATEVER THE INPUT: true; the input reads as it did. -/
def pokeChainsSpec : ChangeSpec := { name := "pokeChains", fn := fun _ => fun
  | [d1, d2] => { results := [.lit (.bool true)], args := [d1, d2] }
  | _ => none }
def pokeChainsRow : OpenClaim := { program := "ytgccichmdddbpaagreatdoor", sum := "69ba925f2a60964ba3c31f0bad2bb3cdea1d7921b21fe7edd465559e4df2ae80", func := "scriptorium/scriptoriumlaw13.PokeChains", spec := "pokeChains", inPlace := ["internal/bytealg.CountString", "internal/bytealg.IndexByteString", "internal/bytealg.IndexString", "internal/abi.NoEscape", "internal/bytealg.MakeNoZero"], unfollowed := true, recurses := true, named := ["internal/bytealg.MaxLen", "unicode/utf8.first", "unicode/utf8.acceptRanges"], apart := false, laid := [("unicode/utf8.acceptRanges", laid_unicode_utf8_acceptRanges), ("unicode/utf8.first", laid_unicode_utf8_first)] }
def PokeChainsSaid : Prop := pokeChainsRow.holds Tryz.pinned (OpenSpec.ofChange pokeChainsSpec)

/-- ITS FALSE NEIGHBOUR: 'it returns false'. Refute it at one input. -/
def pokeChainsWrong : ChangeSpec := { name := "pokeChains", fn := fun _ => fun
  | [d1, d2] => { results := [.lit (.bool false)], args := [d1, d2] }
  | _ => none }
def PokeChainsWrongFalsely : Prop := pokeChainsRow.holds Tryz.pinned (OpenSpec.ofChange pokeChainsWrong)

/-- 'scriptoriumlaw13.PokeAbove': WHATEVER THE INPUT: true; the input reads as it did. -/
def pokeAboveSpec : ChangeSpec := { name := "pokeAbove", fn := fun _ => fun
  | [d1, d2] => { results := [.lit (.bool true)], args := [d1, d2] }
  | _ => none }
def pokeAboveRow : OpenClaim := { program := "ytgccichmdddbpaagreatdoor", sum := "69ba925f2a60964ba3c31f0bad2bb3cdea1d7921b21fe7edd465559e4df2ae80", func := "scriptorium/scriptoriumlaw13.PokeAbove", spec := "pokeAbove", inPlace := ["internal/bytealg.CountString", "internal/bytealg.IndexByteString", "internal/bytealg.IndexString", "internal/abi.NoEscape", "internal/bytealg.MakeNoZero"], unfollowed := true, recurses := true, named := ["internal/bytealg.MaxLen", "unicode/utf8.first", "unicode/utf8.acceptRanges"], apart := false, laid := [("unicode/utf8.acceptRanges", laid_unicode_utf8_acceptRanges), ("unicode/utf8.first", laid_unicode_utf8_first)] }
def PokeAboveSaid : Prop := pokeAboveRow.holds Tryz.pinned (OpenSpec.ofChange pokeAboveSpec)

/-- ITS FALSE NEIGHBOUR: 'it returns false'. Refute it at one input. -/
def pokeAboveWrong : ChangeSpec := { name := "pokeAbove", fn := fun _ => fun
  | [d1, d2] => { results := [.lit (.bool false)], args := [d1, d2] }
  | _ => none }
def PokeAboveWrongFalsely : Prop := pokeAboveRow.holds Tryz.pinned (OpenSpec.ofChange pokeAboveWrong)

/-- 'scriptoriumlaw13.PokeApart': WHATEVER THE INPUT: true; the input reads as it did. -/
def pokeApartSpec : ChangeSpec := { name := "pokeApart", fn := fun _ => fun
  | [d1, d2, d3] => { results := [.lit (.bool true)], args := [d1, d2, d3] }
  | _ => none }
def pokeApartRow : OpenClaim := { program := "ytgccichmdddbpaagreatdoor", sum := "69ba925f2a60964ba3c31f0bad2bb3cdea1d7921b21fe7edd465559e4df2ae80", func := "scriptorium/scriptoriumlaw13.PokeApart", spec := "pokeApart", inPlace := ["internal/bytealg.CountString", "internal/bytealg.IndexByteString", "internal/bytealg.IndexString", "internal/abi.NoEscape", "internal/bytealg.MakeNoZero"], unfollowed := true, recurses := true, named := ["internal/bytealg.MaxLen", "unicode/utf8.first", "unicode/utf8.acceptRanges"], apart := false, laid := [("unicode/utf8.acceptRanges", laid_unicode_utf8_acceptRanges), ("unicode/utf8.first", laid_unicode_utf8_first)] }
def PokeApartSaid : Prop := pokeApartRow.holds Tryz.pinned (OpenSpec.ofChange pokeApartSpec)

/-- ITS FALSE NEIGHBOUR: 'it returns false'. Refute it at one input. -/
def pokeApartWrong : ChangeSpec := { name := "pokeApart", fn := fun _ => fun
  | [d1, d2, d3] => { results := [.lit (.bool false)], args := [d1, d2, d3] }
  | _ => none }
def PokeApartWrongFalsely : Prop := pokeApartRow.holds Tryz.pinned (OpenSpec.ofChange pokeApartWrong)

/-- 'scriptoriumlaw12.PeekGets': WHATEVER THE INPUT: true; the input reads as it did. -/
def peekGetsSpec : ChangeSpec := { name := "peekGets", fn := fun _ => fun
  | [d1, d2] => { results := [.lit (.bool true)], args := [d1, d2] }
  | _ => none }
def peekGetsRow : OpenClaim := { program := "ytgccichmdddbpaagreatdoor", sum := "69ba925f2a60964ba3c31f0bad2bb3cdea1d7921b21fe7edd465559e4df2ae80", func := "scriptorium/scriptoriumlaw12.PeekGets", spec := "peekGets", inPlace := ["internal/bytealg.CountString", "internal/bytealg.IndexByteString", "internal/bytealg.IndexString", "internal/abi.NoEscape", "internal/bytealg.MakeNoZero"], unfollowed := true, recurses := true, named := ["internal/bytealg.MaxLen", "unicode/utf8.first", "unicode/utf8.acceptRanges"], apart := false, laid := [("unicode/utf8.acceptRanges", laid_unicode_utf8_acceptRanges), ("unicode/utf8.first", laid_unicode_utf8_first)] }
def PeekGetsSaid : Prop := peekGetsRow.holds Tryz.pinned (OpenSpec.ofChange peekGetsSpec)

/-- ITS FALSE NEIGHBOUR: 'it returns false'. Refute it at one input. -/
def peekGetsWrong : ChangeSpec := { name := "peekGets", fn := fun _ => fun
  | [d1, d2] => { results := [.lit (.bool false)], args := [d1, d2] }
  | _ => none }
def PeekGetsWrongFalsely : Prop := peekGetsRow.holds Tryz.pinned (OpenSpec.ofChange peekGetsWrong)

/-- 'scriptoriumlaw12.PeekAbove': WHATEVER THE INPUT: true; the input reads as it did. -/
def peekAboveSpec : ChangeSpec := { name := "peekAbove", fn := fun _ => fun
  | [d1, d2, d3] => { results := [.lit (.bool true)], args := [d1, d2, d3] }
  | _ => none }
def peekAboveRow : OpenClaim := { program := "ytgccichmdddbpaagreatdoor", sum := "69ba925f2a60964ba3c31f0bad2bb3cdea1d7921b21fe7edd465559e4df2ae80", func := "scriptorium/scriptoriumlaw12.PeekAbove", spec := "peekAbove", inPlace := ["internal/bytealg.CountString", "internal/bytealg.IndexByteString", "internal/bytealg.IndexString", "internal/abi.NoEscape", "internal/bytealg.MakeNoZero"], unfollowed := true, recurses := true, named := ["internal/bytealg.MaxLen", "unicode/utf8.first", "unicode/utf8.acceptRanges"], apart := false, laid := [("unicode/utf8.acceptRanges", laid_unicode_utf8_acceptRanges), ("unicode/utf8.first", laid_unicode_utf8_first)] }
def PeekAboveSaid : Prop := peekAboveRow.holds Tryz.pinned (OpenSpec.ofChange peekAboveSpec)

/-- ITS FALSE NEIGHBOUR: 'it returns false'. Refute it at one input. -/
def peekAboveWrong : ChangeSpec := { name := "peekAbove", fn := fun _ => fun
  | [d1, d2, d3] => { results := [.lit (.bool false)], args := [d1, d2, d3] }
  | _ => none }
def PeekAboveWrongFalsely : Prop := peekAboveRow.holds Tryz.pinned (OpenSpec.ofChange peekAboveWrong)

/-- 'scriptoriumlaw12.PeekSplit': WHATEVER THE INPUT: true; the input reads as it did. -/
def peekSplitSpec : ChangeSpec := { name := "peekSplit", fn := fun _ => fun
  | [d1, d2, d3] => { results := [.lit (.bool true)], args := [d1, d2, d3] }
  | _ => none }
def peekSplitRow : OpenClaim := { program := "ytgccichmdddbpaagreatdoor", sum := "69ba925f2a60964ba3c31f0bad2bb3cdea1d7921b21fe7edd465559e4df2ae80", func := "scriptorium/scriptoriumlaw12.PeekSplit", spec := "peekSplit", inPlace := ["internal/bytealg.CountString", "internal/bytealg.IndexByteString", "internal/bytealg.IndexString", "internal/abi.NoEscape", "internal/bytealg.MakeNoZero"], unfollowed := true, recurses := true, named := ["internal/bytealg.MaxLen", "unicode/utf8.first", "unicode/utf8.acceptRanges"], apart := false, laid := [("unicode/utf8.acceptRanges", laid_unicode_utf8_acceptRanges), ("unicode/utf8.first", laid_unicode_utf8_first)] }
def PeekSplitSaid : Prop := peekSplitRow.holds Tryz.pinned (OpenSpec.ofChange peekSplitSpec)

/-- ITS FALSE NEIGHBOUR: 'it returns false'. Refute it at one input. -/
def peekSplitWrong : ChangeSpec := { name := "peekSplit", fn := fun _ => fun
  | [d1, d2, d3] => { results := [.lit (.bool false)], args := [d1, d2, d3] }
  | _ => none }
def PeekSplitWrongFalsely : Prop := peekSplitRow.holds Tryz.pinned (OpenSpec.ofChange peekSplitWrong)

/-- 'scriptoriumlaw12.PeekLater': WHATEVER THE INPUT: true; the input reads as it did. -/
def peekLaterSpec : ChangeSpec := { name := "peekLater", fn := fun _ => fun
  | [d1, d2, d3] => { results := [.lit (.bool true)], args := [d1, d2, d3] }
  | _ => none }
def peekLaterRow : OpenClaim := { program := "ytgccichmdddbpaagreatdoor", sum := "69ba925f2a60964ba3c31f0bad2bb3cdea1d7921b21fe7edd465559e4df2ae80", func := "scriptorium/scriptoriumlaw12.PeekLater", spec := "peekLater", inPlace := ["internal/bytealg.CountString", "internal/bytealg.IndexByteString", "internal/bytealg.IndexString", "internal/abi.NoEscape", "internal/bytealg.MakeNoZero"], unfollowed := true, recurses := true, named := ["internal/bytealg.MaxLen", "unicode/utf8.first", "unicode/utf8.acceptRanges"], apart := false, laid := [("unicode/utf8.acceptRanges", laid_unicode_utf8_acceptRanges), ("unicode/utf8.first", laid_unicode_utf8_first)] }
def PeekLaterSaid : Prop := peekLaterRow.holds Tryz.pinned (OpenSpec.ofChange peekLaterSpec)

/-- ITS FALSE NEIGHBOUR: 'it returns false'. Refute it at one input. -/
def peekLaterWrong : ChangeSpec := { name := "peekLater", fn := fun _ => fun
  | [d1, d2, d3] => { results := [.lit (.bool false)], args := [d1, d2, d3] }
  | _ => none }
def PeekLaterWrongFalsely : Prop := peekLaterRow.holds Tryz.pinned (OpenSpec.ofChange peekLaterWrong)

/- THE SECOND FORM. 'bulk': how many values and letters a reading holds, each counted each time it is reached (what is shared counts as often as it is met; a slice's spare places count too). A statement '..UptoSaid' is the law's where the arguments, and the package variables that the reading takes, are together of bulk at most 1048576: NARROWER than '..Said'. Prove '..Said' where nothing that the law and all that it calls make is longer than what came in: it says more and counts as full. Else prove '..UptoSaid'. A law counts once. -/
mutual
def uptoBulk {H : Type} : DataW H → Nat
  | .lit (.string bytes) => bytes.length + 1
  | .lit _ => 1
  | .nil => 1
  | .ptr d => uptoBulk d + 1
  | .slice elems spare => uptoBulkAll elems + uptoBulkAll spare + 1
  | .agg parts => uptoBulkAll parts + 1
  | .iface _ d => uptoBulk d + 1
  | .map entries => uptoBulkEntries entries + 1
  | .held _ => 1
def uptoBulkAll {H : Type} : List (DataW H) → Nat
  | [] => 0
  | d :: r => uptoBulk d + uptoBulkAll r
def uptoBulkEntries {H : Type} : List (Lit × DataW H) → Nat
  | [] => 0
  | x :: r => uptoBulkEntry x + uptoBulkEntries r
def uptoBulkEntry {H : Type} : Lit × DataW H → Nat
  | (.string bytes, d) => bytes.length + uptoBulk d + 1
  | (_, d) => uptoBulk d + 1
 end
def uptoSmall : (H : Type) → List (DataW H) → Bool := fun _ ds => decide (uptoBulkAll ds ≤ 1048576)
def OpenSpec.upto (s : _root_.Go.ChangeSpec) : _root_.Go.OpenSpec := { _root_.Go.OpenSpec.ofChange s with cond := some uptoSmall }

/-- 'scriptoriumlaw13.PokePuts', WHERE WHAT IT READS IS OF BULK AT MOST 1048576: true; the input reads as it did. -/
def pokePutsUptoRow : OpenClaim := { program := "ytgccichmdddbpaagreatdoor", sum := "69ba925f2a60964ba3c31f0bad2bb3cdea1d7921b21fe7edd465559e4df2ae80", func := "scriptorium/scriptoriumlaw13.PokePuts", spec := "pokePuts", inPlace := ["internal/bytealg.CountString", "internal/bytealg.IndexByteString", "internal/bytealg.IndexString", "internal/abi.NoEscape", "internal/bytealg.MakeNoZero"], unfollowed := true, recurses := true, named := ["internal/bytealg.MaxLen", "unicode/utf8.first", "unicode/utf8.acceptRanges"], apart := false, laid := [("unicode/utf8.acceptRanges", laid_unicode_utf8_acceptRanges), ("unicode/utf8.first", laid_unicode_utf8_first)], narrowed := true }
def PokePutsUptoSaid : Prop := pokePutsUptoRow.holds Tryz.pinned (OpenSpec.upto pokePutsSpec)

/-- 'scriptoriumlaw13.PokeChains', WHERE WHAT IT READS IS OF BULK AT MOST 1048576: true; the input reads as it did. -/
def pokeChainsUptoRow : OpenClaim := { program := "ytgccichmdddbpaagreatdoor", sum := "69ba925f2a60964ba3c31f0bad2bb3cdea1d7921b21fe7edd465559e4df2ae80", func := "scriptorium/scriptoriumlaw13.PokeChains", spec := "pokeChains", inPlace := ["internal/bytealg.CountString", "internal/bytealg.IndexByteString", "internal/bytealg.IndexString", "internal/abi.NoEscape", "internal/bytealg.MakeNoZero"], unfollowed := true, recurses := true, named := ["internal/bytealg.MaxLen", "unicode/utf8.first", "unicode/utf8.acceptRanges"], apart := false, laid := [("unicode/utf8.acceptRanges", laid_unicode_utf8_acceptRanges), ("unicode/utf8.first", laid_unicode_utf8_first)], narrowed := true }
def PokeChainsUptoSaid : Prop := pokeChainsUptoRow.holds Tryz.pinned (OpenSpec.upto pokeChainsSpec)

/-- 'scriptoriumlaw13.PokeAbove', WHERE WHAT IT READS IS OF BULK AT MOST 1048576: true; the input reads as it did. -/
def pokeAboveUptoRow : OpenClaim := { program := "ytgccichmdddbpaagreatdoor", sum := "69ba925f2a60964ba3c31f0bad2bb3cdea1d7921b21fe7edd465559e4df2ae80", func := "scriptorium/scriptoriumlaw13.PokeAbove", spec := "pokeAbove", inPlace := ["internal/bytealg.CountString", "internal/bytealg.IndexByteString", "internal/bytealg.IndexString", "internal/abi.NoEscape", "internal/bytealg.MakeNoZero"], unfollowed := true, recurses := true, named := ["internal/bytealg.MaxLen", "unicode/utf8.first", "unicode/utf8.acceptRanges"], apart := false, laid := [("unicode/utf8.acceptRanges", laid_unicode_utf8_acceptRanges), ("unicode/utf8.first", laid_unicode_utf8_first)], narrowed := true }
def PokeAboveUptoSaid : Prop := pokeAboveUptoRow.holds Tryz.pinned (OpenSpec.upto pokeAboveSpec)

/-- 'scriptoriumlaw13.PokeApart', WHERE WHAT IT READS IS OF BULK AT MOST 1048576: true; the input reads as it did. -/
def pokeApartUptoRow : OpenClaim := { program := "ytgccichmdddbpaagreatdoor", sum := "69ba925f2a60964ba3c31f0bad2bb3cdea1d7921b21fe7edd465559e4df2ae80", func := "scriptorium/scriptoriumlaw13.PokeApart", spec := "pokeApart", inPlace := ["internal/bytealg.CountString", "internal/bytealg.IndexByteString", "internal/bytealg.IndexString", "internal/abi.NoEscape", "internal/bytealg.MakeNoZero"], unfollowed := true, recurses := true, named := ["internal/bytealg.MaxLen", "unicode/utf8.first", "unicode/utf8.acceptRanges"], apart := false, laid := [("unicode/utf8.acceptRanges", laid_unicode_utf8_acceptRanges), ("unicode/utf8.first", laid_unicode_utf8_first)], narrowed := true }
def PokeApartUptoSaid : Prop := pokeApartUptoRow.holds Tryz.pinned (OpenSpec.upto pokeApartSpec)

/-- 'scriptoriumlaw12.PeekGets', WHERE WHAT IT READS IS OF BULK AT MOST 1048576: true; the input reads as it did. -/
def peekGetsUptoRow : OpenClaim := { program := "ytgccichmdddbpaagreatdoor", sum := "69ba925f2a60964ba3c31f0bad2bb3cdea1d7921b21fe7edd465559e4df2ae80", func := "scriptorium/scriptoriumlaw12.PeekGets", spec := "peekGets", inPlace := ["internal/bytealg.CountString", "internal/bytealg.IndexByteString", "internal/bytealg.IndexString", "internal/abi.NoEscape", "internal/bytealg.MakeNoZero"], unfollowed := true, recurses := true, named := ["internal/bytealg.MaxLen", "unicode/utf8.first", "unicode/utf8.acceptRanges"], apart := false, laid := [("unicode/utf8.acceptRanges", laid_unicode_utf8_acceptRanges), ("unicode/utf8.first", laid_unicode_utf8_first)], narrowed := true }
def PeekGetsUptoSaid : Prop := peekGetsUptoRow.holds Tryz.pinned (OpenSpec.upto peekGetsSpec)

/-- 'scriptoriumlaw12.PeekAbove', WHERE WHAT IT READS IS OF BULK AT MOST 1048576: true; the input reads as it did. -/
def peekAboveUptoRow : OpenClaim := { program := "ytgccichmdddbpaagreatdoor", sum := "69ba925f2a60964ba3c31f0bad2bb3cdea1d7921b21fe7edd465559e4df2ae80", func := "scriptorium/scriptoriumlaw12.PeekAbove", spec := "peekAbove", inPlace := ["internal/bytealg.CountString", "internal/bytealg.IndexByteString", "internal/bytealg.IndexString", "internal/abi.NoEscape", "internal/bytealg.MakeNoZero"], unfollowed := true, recurses := true, named := ["internal/bytealg.MaxLen", "unicode/utf8.first", "unicode/utf8.acceptRanges"], apart := false, laid := [("unicode/utf8.acceptRanges", laid_unicode_utf8_acceptRanges), ("unicode/utf8.first", laid_unicode_utf8_first)], narrowed := true }
def PeekAboveUptoSaid : Prop := peekAboveUptoRow.holds Tryz.pinned (OpenSpec.upto peekAboveSpec)

/-- 'scriptoriumlaw12.PeekSplit', WHERE WHAT IT READS IS OF BULK AT MOST 1048576: true; the input reads as it did. -/
def peekSplitUptoRow : OpenClaim := { program := "ytgccichmdddbpaagreatdoor", sum := "69ba925f2a60964ba3c31f0bad2bb3cdea1d7921b21fe7edd465559e4df2ae80", func := "scriptorium/scriptoriumlaw12.PeekSplit", spec := "peekSplit", inPlace := ["internal/bytealg.CountString", "internal/bytealg.IndexByteString", "internal/bytealg.IndexString", "internal/abi.NoEscape", "internal/bytealg.MakeNoZero"], unfollowed := true, recurses := true, named := ["internal/bytealg.MaxLen", "unicode/utf8.first", "unicode/utf8.acceptRanges"], apart := false, laid := [("unicode/utf8.acceptRanges", laid_unicode_utf8_acceptRanges), ("unicode/utf8.first", laid_unicode_utf8_first)], narrowed := true }
def PeekSplitUptoSaid : Prop := peekSplitUptoRow.holds Tryz.pinned (OpenSpec.upto peekSplitSpec)

/-- 'scriptoriumlaw12.PeekLater', WHERE WHAT IT READS IS OF BULK AT MOST 1048576: true; the input reads as it did. -/
def peekLaterUptoRow : OpenClaim := { program := "ytgccichmdddbpaagreatdoor", sum := "69ba925f2a60964ba3c31f0bad2bb3cdea1d7921b21fe7edd465559e4df2ae80", func := "scriptorium/scriptoriumlaw12.PeekLater", spec := "peekLater", inPlace := ["internal/bytealg.CountString", "internal/bytealg.IndexByteString", "internal/bytealg.IndexString", "internal/abi.NoEscape", "internal/bytealg.MakeNoZero"], unfollowed := true, recurses := true, named := ["internal/bytealg.MaxLen", "unicode/utf8.first", "unicode/utf8.acceptRanges"], apart := false, laid := [("unicode/utf8.acceptRanges", laid_unicode_utf8_acceptRanges), ("unicode/utf8.first", laid_unicode_utf8_first)], narrowed := true }
def PeekLaterUptoSaid : Prop := peekLaterUptoRow.holds Tryz.pinned (OpenSpec.upto peekLaterSpec)

end Rows
end Go.Proofs.YtgccichmdddbpaaGreatDoor
