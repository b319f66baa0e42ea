/-
  NARROWER THAN 'FOR EVERY INPUT', by the rows' own cells (each row's printed sentence says how): PokeReads: laid · PokeRises: laid · SettleResolves: laid · SettleQueries: laid · SettleOnce: laid · SettleStays: laid · SettleApart: laid.
  DERIVED. THE GIVEN ROWS OF THIS SEAT. 7 by the template 'for every input the law returns true; each argument reads behind the call as it read before'; 0 by the template 'total and deterministic' (their statements: YthimheckmpepdaaGreatDoorTotals.lean).
  GIVEN WITH THE SEED: the statements are not yours to turn. If you find one false, say at which input.
  Laid BY PROGRAM, IN A SANDBOX (cutbox-rows.mjs): the forced cells as the released guide's own fill.sh prints them over the translation e3e78916dd9d1f3e… (all of the seat's roots in one cut). By AI agents, Wed Nov 11 2026. No macro, syntax, notation, axiom, sorry.
-/
import Derived.Test.YthimheckmpepdaaGreatDoorChecked
import GoSem.PinnedTables
import GoSem.Claim
import GoSem.ClaimJoined
import GoSem.ClaimMapViews
import Derived.JoinedTies
import Derived.KernelRfl
namespace Go.Proofs.YthimheckmpepdaaGreatDoor
/- THE CELL 'sum', in the pinned program and in every row, IS THE sha256 OF THE DUMP (.gsa) THAT YthimheckmpepdaaGreatDoorProg.lean LOADS. Nothing in Lean hashes anything: it is a label: what it is worth is what the hold of that sum in a sandbox is worth. -/
noncomputable def Tryz.pinned : Pinned := { name := "ythimheckmpepdaagreatdoor", sum := "e3e78916dd9d1f3e0a99f976823d92ce5629241175789e11939ac641c02fc540", checked := Tryz.checked }
namespace Rows
def none {H : Type} : Left H := { results := [], args := [] }

/- WHAT THE LISTED PACKAGE-LEVEL VARIABLES READ AS WHEN THE CALL BEGINS. Each datum BY PROGRAM (the guide's laid-datum.mjs) off the statement by which the dump's own 'gosem.cut.vars' lays the variable. In a bare row this is a premise. The card (YthimheckmpepdaaGreatDoorCards.lean) ties it to the program's text. -/
def laid_unicode_utf8_acceptRanges {H : Type} : DataW H := .agg [.agg [.lit (.int .u8 128), .lit (.int .u8 191)], .agg [.lit (.int .u8 160), .lit (.int .u8 191)], .agg [.lit (.int .u8 128), .lit (.int .u8 159)], .agg [.lit (.int .u8 144), .lit (.int .u8 191)], .agg [.lit (.int .u8 128), .lit (.int .u8 143)], .agg [.lit (.int .u8 0), .lit (.int .u8 0)], .agg [.lit (.int .u8 0), .lit (.int .u8 0)], .agg [.lit (.int .u8 0), .lit (.int .u8 0)], .agg [.lit (.int .u8 0), .lit (.int .u8 0)], .agg [.lit (.int .u8 0), .lit (.int .u8 0)], .agg [.lit (.int .u8 0), .lit (.int .u8 0)], .agg [.lit (.int .u8 0), .lit (.int .u8 0)], .agg [.lit (.int .u8 0), .lit (.int .u8 0)], .agg [.lit (.int .u8 0), .lit (.int .u8 0)], .agg [.lit (.int .u8 0), .lit (.int .u8 0)], .agg [.lit (.int .u8 0), .lit (.int .u8 0)]]
/-- One of Go's own tables, pinned by name: the form's constant. -/
def laid_unicode_utf8_first : DataW Unit := Go.Pinned.utf8First

/-- 'scriptoriumlaw13.PokeReads': WHATEVER THE INPUT: true; the input reads as it did. -/
def pokeReadsSpec : ChangeSpec := { name := "pokeReads", fn := fun _ => fun
  | [d1, d2] => { results := [.lit (.bool true)], args := [d1, d2] }
  | _ => none }
def pokeReadsRow : OpenClaim := { program := "ythimheckmpepdaagreatdoor", sum := "e3e78916dd9d1f3e0a99f976823d92ce5629241175789e11939ac641c02fc540", func := "scriptorium/scriptoriumlaw13.PokeReads", spec := "pokeReads", inPlace := ["internal/bytealg.CountString", "internal/bytealg.IndexByteString", "internal/bytealg.IndexString", "internal/abi.NoEscape", "internal/bytealg.MakeNoZero"], unfollowed := true, recurses := true, named := ["internal/bytealg.MaxLen", "unicode/utf8.first", "unicode/utf8.acceptRanges"], apart := false, laid := [("unicode/utf8.acceptRanges", laid_unicode_utf8_acceptRanges), ("unicode/utf8.first", laid_unicode_utf8_first)] }
def PokeReadsSaid : Prop := pokeReadsRow.holds Tryz.pinned (OpenSpec.ofChange pokeReadsSpec)

/-- ITS FALSE NEIGHBOUR: 'it returns false'. Refute it at one input. -/
def pokeReadsWrong : ChangeSpec := { name := "pokeReads", fn := fun _ => fun
  | [d1, d2] => { results := [.lit (.bool false)], args := [d1, d2] }
  | _ => none }
def PokeReadsWrongFalsely : Prop := pokeReadsRow.holds Tryz.pinned (OpenSpec.ofChange pokeReadsWrong)

/-- 'scriptoriumlaw13.PokeRises': WHATEVER THE INPUT: true; the input reads as it did. -/
def pokeRisesSpec : ChangeSpec := { name := "pokeRises", fn := fun _ => fun
  | [d1, d2, d3] => { results := [.lit (.bool true)], args := [d1, d2, d3] }
  | _ => none }
def pokeRisesRow : OpenClaim := { program := "ythimheckmpepdaagreatdoor", sum := "e3e78916dd9d1f3e0a99f976823d92ce5629241175789e11939ac641c02fc540", func := "scriptorium/scriptoriumlaw13.PokeRises", spec := "pokeRises", inPlace := ["internal/bytealg.CountString", "internal/bytealg.IndexByteString", "internal/bytealg.IndexString", "internal/abi.NoEscape", "internal/bytealg.MakeNoZero"], unfollowed := true, recurses := true, named := ["internal/bytealg.MaxLen", "unicode/utf8.first", "unicode/utf8.acceptRanges"], apart := false, laid := [("unicode/utf8.acceptRanges", laid_unicode_utf8_acceptRanges), ("unicode/utf8.first", laid_unicode_utf8_first)] }
def PokeRisesSaid : Prop := pokeRisesRow.holds Tryz.pinned (OpenSpec.ofChange pokeRisesSpec)

/-- ITS FALSE NEIGHBOUR: 'it returns false'. Refute it at one input. -/
def pokeRisesWrong : ChangeSpec := { name := "pokeRises", fn := fun _ => fun
  | [d1, d2, d3] => { results := [.lit (.bool false)], args := [d1, d2, d3] }
  | _ => none }
def PokeRisesWrongFalsely : Prop := pokeRisesRow.holds Tryz.pinned (OpenSpec.ofChange pokeRisesWrong)

/-- 'scriptoriumlaw14.SettleResolves': WHATEVER THE INPUT: true; the input reads as it did. -/
def settleResolvesSpec : ChangeSpec := { name := "settleResolves", fn := fun _ => fun
  | [d1, d2] => { results := [.lit (.bool true)], args := [d1, d2] }
  | _ => none }
def settleResolvesRow : OpenClaim := { program := "ythimheckmpepdaagreatdoor", sum := "e3e78916dd9d1f3e0a99f976823d92ce5629241175789e11939ac641c02fc540", func := "scriptorium/scriptoriumlaw14.SettleResolves", spec := "settleResolves", inPlace := ["internal/bytealg.CountString", "internal/bytealg.IndexByteString", "internal/bytealg.IndexString", "internal/abi.NoEscape", "internal/bytealg.MakeNoZero"], unfollowed := true, recurses := true, named := ["internal/bytealg.MaxLen", "unicode/utf8.first", "unicode/utf8.acceptRanges"], apart := false, laid := [("unicode/utf8.acceptRanges", laid_unicode_utf8_acceptRanges), ("unicode/utf8.first", laid_unicode_utf8_first)] }
def SettleResolvesSaid : Prop := settleResolvesRow.holds Tryz.pinned (OpenSpec.ofChange settleResolvesSpec)

/-- ITS FALSE NEIGHBOUR: 'it returns false'. Refute it at one input. -/
def settleResolvesWrong : ChangeSpec := { name := "settleResolves", fn := fun _ => fun
  | [d1, d2] => { results := [.lit (.bool false)], args := [d1, d2] }
  | _ => none }
def SettleResolvesWrongFalsely : Prop := settleResolvesRow.holds Tryz.pinned (OpenSpec.ofChange settleResolvesWrong)

/-- 'scriptoriumlaw14.SettleQueries': WHATEVER THE INPUT: true; the input reads as it did. -/
def settleQueriesSpec : ChangeSpec := { name := "settleQueries", fn := fun _ => fun
  | [d1, d2] => { results := [.lit (.bool true)], args := [d1, d2] }
  | _ => none }
def settleQueriesRow : OpenClaim := { program := "ythimheckmpepdaagreatdoor", sum := "e3e78916dd9d1f3e0a99f976823d92ce5629241175789e11939ac641c02fc540", func := "scriptorium/scriptoriumlaw14.SettleQueries", spec := "settleQueries", inPlace := ["internal/bytealg.CountString", "internal/bytealg.IndexByteString", "internal/bytealg.IndexString", "internal/abi.NoEscape", "internal/bytealg.MakeNoZero"], unfollowed := true, recurses := true, named := ["internal/bytealg.MaxLen", "unicode/utf8.first", "unicode/utf8.acceptRanges"], apart := false, laid := [("unicode/utf8.acceptRanges", laid_unicode_utf8_acceptRanges), ("unicode/utf8.first", laid_unicode_utf8_first)] }
def SettleQueriesSaid : Prop := settleQueriesRow.holds Tryz.pinned (OpenSpec.ofChange settleQueriesSpec)

/-- ITS FALSE NEIGHBOUR: 'it returns false'. Refute it at one input. -/
def settleQueriesWrong : ChangeSpec := { name := "settleQueries", fn := fun _ => fun
  | [d1, d2] => { results := [.lit (.bool false)], args := [d1, d2] }
  | _ => none }
def SettleQueriesWrongFalsely : Prop := settleQueriesRow.holds Tryz.pinned (OpenSpec.ofChange settleQueriesWrong)

/-- 'scriptoriumlaw14.SettleOnce': WHATEVER THE INPUT: true; the input reads as it did. -/
def settleOnceSpec : ChangeSpec := { name := "settleOnce", fn := fun _ => fun
  | [d1, d2] => { results := [.lit (.bool true)], args := [d1, d2] }
  | _ => none }
def settleOnceRow : OpenClaim := { program := "ythimheckmpepdaagreatdoor", sum := "e3e78916dd9d1f3e0a99f976823d92ce5629241175789e11939ac641c02fc540", func := "scriptorium/scriptoriumlaw14.SettleOnce", spec := "settleOnce", inPlace := ["internal/bytealg.CountString", "internal/bytealg.IndexByteString", "internal/bytealg.IndexString", "internal/abi.NoEscape", "internal/bytealg.MakeNoZero"], unfollowed := true, recurses := true, named := ["internal/bytealg.MaxLen", "unicode/utf8.first", "unicode/utf8.acceptRanges"], apart := false, laid := [("unicode/utf8.acceptRanges", laid_unicode_utf8_acceptRanges), ("unicode/utf8.first", laid_unicode_utf8_first)] }
def SettleOnceSaid : Prop := settleOnceRow.holds Tryz.pinned (OpenSpec.ofChange settleOnceSpec)

/-- ITS FALSE NEIGHBOUR: 'it returns false'. Refute it at one input. -/
def settleOnceWrong : ChangeSpec := { name := "settleOnce", fn := fun _ => fun
  | [d1, d2] => { results := [.lit (.bool false)], args := [d1, d2] }
  | _ => none }
def SettleOnceWrongFalsely : Prop := settleOnceRow.holds Tryz.pinned (OpenSpec.ofChange settleOnceWrong)

/-- 'scriptoriumlaw14.SettleStays': WHATEVER THE INPUT: true; the input reads as it did. -/
def settleStaysSpec : ChangeSpec := { name := "settleStays", fn := fun _ => fun
  | [d1, d2] => { results := [.lit (.bool true)], args := [d1, d2] }
  | _ => none }
def settleStaysRow : OpenClaim := { program := "ythimheckmpepdaagreatdoor", sum := "e3e78916dd9d1f3e0a99f976823d92ce5629241175789e11939ac641c02fc540", func := "scriptorium/scriptoriumlaw14.SettleStays", spec := "settleStays", inPlace := ["internal/bytealg.CountString", "internal/bytealg.IndexByteString", "internal/bytealg.IndexString", "internal/abi.NoEscape", "internal/bytealg.MakeNoZero"], unfollowed := true, recurses := true, named := ["internal/bytealg.MaxLen", "unicode/utf8.first", "unicode/utf8.acceptRanges"], apart := false, laid := [("unicode/utf8.acceptRanges", laid_unicode_utf8_acceptRanges), ("unicode/utf8.first", laid_unicode_utf8_first)] }
def SettleStaysSaid : Prop := settleStaysRow.holds Tryz.pinned (OpenSpec.ofChange settleStaysSpec)

/-- ITS FALSE NEIGHBOUR: 'it returns false'. Refute it at one input. -/
def settleStaysWrong : ChangeSpec := { name := "settleStays", fn := fun _ => fun
  | [d1, d2] => { results := [.lit (.bool false)], args := [d1, d2] }
  | _ => none }
def SettleStaysWrongFalsely : Prop := settleStaysRow.holds Tryz.pinned (OpenSpec.ofChange settleStaysWrong)

/-- 'scriptoriumlaw14.SettleApart': WHATEVER THE INPUT: true; the input reads as it did. -/
def settleApartSpec : ChangeSpec := { name := "settleApart", fn := fun _ => fun
  | [d1, d2] => { results := [.lit (.bool true)], args := [d1, d2] }
  | _ => none }
def settleApartRow : OpenClaim := { program := "ythimheckmpepdaagreatdoor", sum := "e3e78916dd9d1f3e0a99f976823d92ce5629241175789e11939ac641c02fc540", func := "scriptorium/scriptoriumlaw14.SettleApart", spec := "settleApart", inPlace := ["internal/bytealg.CountString", "internal/bytealg.IndexByteString", "internal/bytealg.IndexString", "internal/abi.NoEscape", "internal/bytealg.MakeNoZero"], unfollowed := true, recurses := true, named := ["internal/bytealg.MaxLen", "unicode/utf8.first", "unicode/utf8.acceptRanges"], apart := false, laid := [("unicode/utf8.acceptRanges", laid_unicode_utf8_acceptRanges), ("unicode/utf8.first", laid_unicode_utf8_first)] }
def SettleApartSaid : Prop := settleApartRow.holds Tryz.pinned (OpenSpec.ofChange settleApartSpec)

/-- ITS FALSE NEIGHBOUR: 'it returns false'. Refute it at one input. -/
def settleApartWrong : ChangeSpec := { name := "settleApart", fn := fun _ => fun
  | [d1, d2] => { results := [.lit (.bool false)], args := [d1, d2] }
  | _ => none }
def SettleApartWrongFalsely : Prop := settleApartRow.holds Tryz.pinned (OpenSpec.ofChange settleApartWrong)

/- THE SECOND FORM. 'bulk': how many values and letters a reading holds, each counted each time it is reached (what is shared counts as often as it is met; a slice's spare places count too). A statement '..UptoSaid' is the law's where the arguments, and the package variables that the reading takes, are together of bulk at most 1048576: NARROWER than '..Said'. Prove '..Said' where nothing that the law and all that it calls make is longer than what came in: it says more and counts as full. Else prove '..UptoSaid'. A law counts once. -/
mutual
def uptoBulk {H : Type} : DataW H → Nat
  | .lit (.string bytes) => bytes.length + 1
  | .lit _ => 1
  | .nil => 1
  | .ptr d => uptoBulk d + 1
  | .slice elems spare => uptoBulkAll elems + uptoBulkAll spare + 1
  | .agg parts => uptoBulkAll parts + 1
  | .iface _ d => uptoBulk d + 1
  | .map entries => uptoBulkEntries entries + 1
  | .held _ => 1
def uptoBulkAll {H : Type} : List (DataW H) → Nat
  | [] => 0
  | d :: r => uptoBulk d + uptoBulkAll r
def uptoBulkEntries {H : Type} : List (Lit × DataW H) → Nat
  | [] => 0
  | x :: r => uptoBulkEntry x + uptoBulkEntries r
def uptoBulkEntry {H : Type} : Lit × DataW H → Nat
  | (.string bytes, d) => bytes.length + uptoBulk d + 1
  | (_, d) => uptoBulk d + 1
 end
def uptoSmall : (H : Type) → List (DataW H) → Bool := fun _ ds => decide (uptoBulkAll ds ≤ 1048576)
def OpenSpec.upto (s : _root_.Go.ChangeSpec) : _root_.Go.OpenSpec := { _root_.Go.OpenSpec.ofChange s with cond := some uptoSmall }

/-- 'scriptoriumlaw13.PokeReads', WHERE WHAT IT READS IS OF BULK AT MOST 1048576: true; the input reads as it did. -/
def pokeReadsUptoRow : OpenClaim := { program := "ythimheckmpepdaagreatdoor", sum := "e3e78916dd9d1f3e0a99f976823d92ce5629241175789e11939ac641c02fc540", func := "scriptorium/scriptoriumlaw13.PokeReads", spec := "pokeReads", inPlace := ["internal/bytealg.CountString", "internal/bytealg.IndexByteString", "internal/bytealg.IndexString", "internal/abi.NoEscape", "internal/bytealg.MakeNoZero"], unfollowed := true, recurses := true, named := ["internal/bytealg.MaxLen", "unicode/utf8.first", "unicode/utf8.acceptRanges"], apart := false, laid := [("unicode/utf8.acceptRanges", laid_unicode_utf8_acceptRanges), ("unicode/utf8.first", laid_unicode_utf8_first)], narrowed := true }
def PokeReadsUptoSaid : Prop := pokeReadsUptoRow.holds Tryz.pinned (OpenSpec.upto pokeReadsSpec)

/-- 'scriptoriumlaw13.PokeRises', WHERE WHAT IT READS IS OF BULK AT MOST 1048576: true; the input reads as it did. -/
def pokeRisesUptoRow : OpenClaim := { program := "ythimheckmpepdaagreatdoor", sum := "e3e78916dd9d1f3e0a99f976823d92ce5629241175789e11939ac641c02fc540", func := "scriptorium/scriptoriumlaw13.PokeRises", spec := "pokeRises", inPlace := ["internal/bytealg.CountString", "internal/bytealg.IndexByteString", "internal/bytealg.IndexString", "internal/abi.NoEscape", "internal/bytealg.MakeNoZero"], unfollowed := true, recurses := true, named := ["internal/bytealg.MaxLen", "unicode/utf8.first", "unicode/utf8.acceptRanges"], apart := false, laid := [("unicode/utf8.acceptRanges", laid_unicode_utf8_acceptRanges), ("unicode/utf8.first", laid_unicode_utf8_first)], narrowed := true }
def PokeRisesUptoSaid : Prop := pokeRisesUptoRow.holds Tryz.pinned (OpenSpec.upto pokeRisesSpec)

/-- 'scriptoriumlaw14.SettleResolves', WHERE WHAT IT READS IS OF BULK AT MOST 1048576: true; the input reads as it did. -/
def settleResolvesUptoRow : OpenClaim := { program := "ythimheckmpepdaagreatdoor", sum := "e3e78916dd9d1f3e0a99f976823d92ce5629241175789e11939ac641c02fc540", func := "scriptorium/scriptoriumlaw14.SettleResolves", spec := "settleResolves", inPlace := ["internal/bytealg.CountString", "internal/bytealg.IndexByteString", "internal/bytealg.IndexString", "internal/abi.NoEscape", "internal/bytealg.MakeNoZero"], unfollowed := true, recurses := true, named := ["internal/bytealg.MaxLen", "unicode/utf8.first", "unicode/utf8.acceptRanges"], apart := false, laid := [("unicode/utf8.acceptRanges", laid_unicode_utf8_acceptRanges), ("unicode/utf8.first", laid_unicode_utf8_first)], narrowed := true }
def SettleResolvesUptoSaid : Prop := settleResolvesUptoRow.holds Tryz.pinned (OpenSpec.upto settleResolvesSpec)

/-- 'scriptoriumlaw14.SettleQueries', WHERE WHAT IT READS IS OF BULK AT MOST 1048576: true; the input reads as it did. -/
def settleQueriesUptoRow : OpenClaim := { program := "ythimheckmpepdaagreatdoor", sum := "e3e78916dd9d1f3e0a99f976823d92ce5629241175789e11939ac641c02fc540", func := "scriptorium/scriptoriumlaw14.SettleQueries", spec := "settleQueries", inPlace := ["internal/bytealg.CountString", "internal/bytealg.IndexByteString", "internal/bytealg.IndexString", "internal/abi.NoEscape", "internal/bytealg.MakeNoZero"], unfollowed := true, recurses := true, named := ["internal/bytealg.MaxLen", "unicode/utf8.first", "unicode/utf8.acceptRanges"], apart := false, laid := [("unicode/utf8.acceptRanges", laid_unicode_utf8_acceptRanges), ("unicode/utf8.first", laid_unicode_utf8_first)], narrowed := true }
def SettleQueriesUptoSaid : Prop := settleQueriesUptoRow.holds Tryz.pinned (OpenSpec.upto settleQueriesSpec)

/-- 'scriptoriumlaw14.SettleOnce', WHERE WHAT IT READS IS OF BULK AT MOST 1048576: true; the input reads as it did. -/
def settleOnceUptoRow : OpenClaim := { program := "ythimheckmpepdaagreatdoor", sum := "e3e78916dd9d1f3e0a99f976823d92ce5629241175789e11939ac641c02fc540", func := "scriptorium/scriptoriumlaw14.SettleOnce", spec := "settleOnce", inPlace := ["internal/bytealg.CountString", "internal/bytealg.IndexByteString", "internal/bytealg.IndexString", "internal/abi.NoEscape", "internal/bytealg.MakeNoZero"], unfollowed := true, recurses := true, named := ["internal/bytealg.MaxLen", "unicode/utf8.first", "unicode/utf8.acceptRanges"], apart := false, laid := [("unicode/utf8.acceptRanges", laid_unicode_utf8_acceptRanges), ("unicode/utf8.first", laid_unicode_utf8_first)], narrowed := true }
def SettleOnceUptoSaid : Prop := settleOnceUptoRow.holds Tryz.pinned (OpenSpec.upto settleOnceSpec)

/-- 'scriptoriumlaw14.SettleStays', WHERE WHAT IT READS IS OF BULK AT MOST 1048576: true; the input reads as it did. -/
def settleStaysUptoRow : OpenClaim := { program := "ythimheckmpepdaagreatdoor", sum := "e3e78916dd9d1f3e0a99f976823d92ce5629241175789e11939ac641c02fc540", func := "scriptorium/scriptoriumlaw14.SettleStays", spec := "settleStays", inPlace := ["internal/bytealg.CountString", "internal/bytealg.IndexByteString", "internal/bytealg.IndexString", "internal/abi.NoEscape", "internal/bytealg.MakeNoZero"], unfollowed := true, recurses := true, named := ["internal/bytealg.MaxLen", "unicode/utf8.first", "unicode/utf8.acceptRanges"], apart := false, laid := [("unicode/utf8.acceptRanges", laid_unicode_utf8_acceptRanges), ("unicode/utf8.first", laid_unicode_utf8_first)], narrowed := true }
def SettleStaysUptoSaid : Prop := settleStaysUptoRow.holds Tryz.pinned (OpenSpec.upto settleStaysSpec)

/-- 'scriptoriumlaw14.SettleApart', WHERE WHAT IT READS IS OF BULK AT MOST 1048576: true; the input reads as it did. -/
def settleApartUptoRow : OpenClaim := { program := "ythimheckmpepdaagreatdoor", sum := "e3e78916dd9d1f3e0a99f976823d92ce5629241175789e11939ac641c02fc540", func := "scriptorium/scriptoriumlaw14.SettleApart", spec := "settleApart", inPlace := ["internal/bytealg.CountString", "internal/bytealg.IndexByteString", "internal/bytealg.IndexString", "internal/abi.NoEscape", "internal/bytealg.MakeNoZero"], unfollowed := true, recurses := true, named := ["internal/bytealg.MaxLen", "unicode/utf8.first", "unicode/utf8.acceptRanges"], apart := false, laid := [("unicode/utf8.acceptRanges", laid_unicode_utf8_acceptRanges), ("unicode/utf8.first", laid_unicode_utf8_first)], narrowed := true }
def SettleApartUptoSaid : Prop := settleApartUptoRow.holds Tryz.pinned (OpenSpec.upto settleApartSpec)

end Rows
end Go.Proofs.YthimheckmpepdaaGreatDoor
