/-
  NARROWER THAN 'FOR EVERY INPUT', by the rows' own cells (each row's printed sentence says how): PokeRises: laid · PokeApart: laid · SettleStays: laid · SweepReads: laid · SweepAgain: laid · SweepKnown: laid.
  DERIVED. THE GIVEN ROWS OF THIS SEAT. 6 by the template 'for every input the law returns true; each argument reads behind the call as it read before'; 0 by the template 'total and deterministic' (their statements: YtldbmogondmgmaaGreatDoorTotals.lean).
  GIVEN WITH THE SEED: the statements are not yours to turn. If you find one false, say at which input.
  Laid BY PROGRAM, IN A SANDBOX (cutbox-rows.mjs): the forced cells as the released guide's own fill.sh prints them over the translation cfba7e084171ef94… (all of the seat's roots in one cut). By AI agents, Wed Nov 11 2026. No macro, syntax, notation, axiom, sorry.
-/
import Derived.Test.YtldbmogondmgmaaGreatDoorChecked
import GoSem.PinnedTables
import GoSem.Claim
import GoSem.ClaimJoined
import GoSem.ClaimMapViews
import Derived.JoinedTies
import Derived.KernelRfl
namespace Go.Proofs.YtldbmogondmgmaaGreatDoor
/- THE CELL 'sum', in the pinned program and in every row, IS THE sha256 OF THE DUMP (.gsa) THAT YtldbmogondmgmaaGreatDoorProg.lean LOADS. Nothing in Lean hashes anything: it is a label: what it is worth is what the hold of that sum in a sandbox is worth. -/
noncomputable def Tryz.pinned : Pinned := { name := "ytldbmogondmgmaagreatdoor", sum := "cfba7e084171ef94cc3e53501ff6bfbc99dfddeb4fc67dae1b9a19d089120a20", checked := Tryz.checked }
namespace Rows
def none {H : Type} : Left H := { results := [], args := [] }

/- WHAT THE LISTED PACKAGE-LEVEL VARIABLES READ AS WHEN THE CALL BEGINS. Each datum BY PROGRAM (the guide's laid-datum.mjs) off the statement by which the dump's own 'gosem.cut.vars' lays the variable. In a bare row this is a premise. The card (YtldbmogondmgmaaGreatDoorCards.lean) ties it to the program's text. -/
def laid_unicode_utf8_acceptRanges {H : Type} : DataW H := .agg [.agg [.lit (.int .u8 128), .lit (.int .u8 191)], .agg [.lit (.int .u8 160), .lit (.int .u8 191)], .agg [.lit (.int .u8 128), .lit (.int .u8 159)], .agg [.lit (.int .u8 144), .lit (.int .u8 191)], .agg [.lit (.int .u8 128), .lit (.int .u8 143)], .agg [.lit (.int .u8 0), .lit (.int .u8 0)], .agg [.lit (.int .u8 0), .lit (.int .u8 0)], .agg [.lit (.int .u8 0), .lit (.int .u8 0)], .agg [.lit (.int .u8 0), .lit (.int .u8 0)], .agg [.lit (.int .u8 0), .lit (.int .u8 0)], .agg [.lit (.int .u8 0), .lit (.int .u8 0)], .agg [.lit (.int .u8 0), .lit (.int .u8 0)], .agg [.lit (.int .u8 0), .lit (.int .u8 0)], .agg [.lit (.int .u8 0), .lit (.int .u8 0)], .agg [.lit (.int .u8 0), .lit (.int .u8 0)], .agg [.lit (.int .u8 0), .lit (.int .u8 0)]]
/-- One of Go's own tables, pinned by name: the form's constant. -/
def laid_unicode_utf8_first : DataW Unit := Go.Pinned.utf8First

/-- 'scriptoriumlaw13.PokeRises': WHATEVER THE INPUT: true; the input reads as it did. -/
def pokeRisesSpec : ChangeSpec := { name := "pokeRises", fn := fun _ => fun
  | [d1, d2, d3] => { results := [.lit (.bool true)], args := [d1, d2, d3] }
  | _ => none }
def pokeRisesRow : OpenClaim := { program := "ytldbmogondmgmaagreatdoor", sum := "cfba7e084171ef94cc3e53501ff6bfbc99dfddeb4fc67dae1b9a19d089120a20", func := "scriptorium/scriptoriumlaw13.PokeRises", spec := "pokeRises", inPlace := ["internal/bytealg.CountString", "internal/bytealg.IndexByteString", "internal/bytealg.IndexString", "internal/abi.NoEscape", "internal/bytealg.MakeNoZero"], unfollowed := true, recurses := true, named := ["internal/bytealg.MaxLen", "unicode/utf8.first", "unicode/utf8.acceptRanges"], apart := false, laid := [("unicode/utf8.acceptRanges", laid_unicode_utf8_acceptRanges), ("unicode/utf8.first", laid_unicode_utf8_first)] }
def PokeRisesSaid : Prop := pokeRisesRow.holds Tryz.pinned (OpenSpec.ofChange pokeRisesSpec)

/-- ITS FALSE NEIGHBOUR: 'it returns false'. Refute it at one input. -/
def pokeRisesWrong : ChangeSpec := { name := "pokeRises", fn := fun _ => fun
  | [d1, d2, d3] => { results := [.lit (.bool false)], args := [d1, d2, d3] }
  | _ => none }
def PokeRisesWrongFalsely : Prop := pokeRisesRow.holds Tryz.pinned (OpenSpec.ofChange pokeRisesWrong)

/-- 'scriptoriumlaw13.PokeApart': WHATEVER THE INPUT: true; the input reads as it did. -/
def pokeApartSpec : ChangeSpec := { name := "pokeApart", fn := fun _ => fun
  | [d1, d2, d3] => { results := [.lit (.bool true)], args := [d1, d2, d3] }
  | _ => none }
def pokeApartRow : OpenClaim := { program := "ytldbmogondmgmaagreatdoor", sum := "cfba7e084171ef94cc3e53501ff6bfbc99dfddeb4fc67dae1b9a19d089120a20", func := "scriptorium/scriptoriumlaw13.PokeApart", spec := "pokeApart", inPlace := ["internal/bytealg.CountString", "internal/bytealg.IndexByteString", "internal/bytealg.IndexString", "internal/abi.NoEscape", "internal/bytealg.MakeNoZero"], unfollowed := true, recurses := true, named := ["internal/bytealg.MaxLen", "unicode/utf8.first", "unicode/utf8.acceptRanges"], apart := false, laid := [("unicode/utf8.acceptRanges", laid_unicode_utf8_acceptRanges), ("unicode/utf8.first", laid_unicode_utf8_first)] }
def PokeApartSaid : Prop := pokeApartRow.holds Tryz.pinned (OpenSpec.ofChange pokeApartSpec)

/-- ITS FALSE NEIGHBOUR: 'it returns false'. Refute it at one input. -/
def pokeApartWrong : ChangeSpec := { name := "pokeApart", fn := fun _ => fun
  | [d1, d2, d3] => { results := [.lit (.bool false)], args := [d1, d2, d3] }
  | _ => none }
def PokeApartWrongFalsely : Prop := pokeApartRow.holds Tryz.pinned (OpenSpec.ofChange pokeApartWrong)

/-- 'scriptoriumlaw14.SettleStays': WHATEVER THE INPUT: true; the input reads as it did. -/
def settleStaysSpec : ChangeSpec := { name := "settleStays", fn := fun _ => fun
  | [d1, d2] => { results := [.lit (.bool true)], args := [d1, d2] }
  | _ => none }
def settleStaysRow : OpenClaim := { program := "ytldbmogondmgmaagreatdoor", sum := "cfba7e084171ef94cc3e53501ff6bfbc99dfddeb4fc67dae1b9a19d089120a20", func := "scriptorium/scriptoriumlaw14.SettleStays", spec := "settleStays", inPlace := ["internal/bytealg.CountString", "internal/bytealg.IndexByteString", "internal/bytealg.IndexString", "internal/abi.NoEscape", "internal/bytealg.MakeNoZero"], unfollowed := true, recurses := true, named := ["internal/bytealg.MaxLen", "unicode/utf8.first", "unicode/utf8.acceptRanges"], apart := false, laid := [("unicode/utf8.acceptRanges", laid_unicode_utf8_acceptRanges), ("unicode/utf8.first", laid_unicode_utf8_first)] }
def SettleStaysSaid : Prop := settleStaysRow.holds Tryz.pinned (OpenSpec.ofChange settleStaysSpec)

/-- ITS FALSE NEIGHBOUR: 'it returns false'. Refute it at one input. -/
def settleStaysWrong : ChangeSpec := { name := "settleStays", fn := fun _ => fun
  | [d1, d2] => { results := [.lit (.bool false)], args := [d1, d2] }
  | _ => none }
def SettleStaysWrongFalsely : Prop := settleStaysRow.holds Tryz.pinned (OpenSpec.ofChange settleStaysWrong)

/-- 'scriptoriumlaw15.SweepReads': WHATEVER THE INPUT: true; the input reads as it did. -/
def sweepReadsSpec : ChangeSpec := { name := "sweepReads", fn := fun _ => fun
  | [d1, d2, d3] => { results := [.lit (.bool true)], args := [d1, d2, d3] }
  | _ => none }
def sweepReadsRow : OpenClaim := { program := "ytldbmogondmgmaagreatdoor", sum := "cfba7e084171ef94cc3e53501ff6bfbc99dfddeb4fc67dae1b9a19d089120a20", func := "scriptorium/scriptoriumlaw15.SweepReads", spec := "sweepReads", inPlace := ["internal/abi.NoEscape", "internal/bytealg.MakeNoZero", "internal/bytealg.CountString", "internal/bytealg.IndexByteString", "internal/bytealg.IndexString"], unfollowed := true, recurses := true, named := ["internal/bytealg.MaxLen", "unicode/utf8.first", "unicode/utf8.acceptRanges"], apart := false, laid := [("unicode/utf8.acceptRanges", laid_unicode_utf8_acceptRanges), ("unicode/utf8.first", laid_unicode_utf8_first)] }
def SweepReadsSaid : Prop := sweepReadsRow.holds Tryz.pinned (OpenSpec.ofChange sweepReadsSpec)

/-- ITS FALSE NEIGHBOUR: 'it returns false'. Refute it at one input. -/
def sweepReadsWrong : ChangeSpec := { name := "sweepReads", fn := fun _ => fun
  | [d1, d2, d3] => { results := [.lit (.bool false)], args := [d1, d2, d3] }
  | _ => none }
def SweepReadsWrongFalsely : Prop := sweepReadsRow.holds Tryz.pinned (OpenSpec.ofChange sweepReadsWrong)

/-- 'scriptoriumlaw15.SweepAgain': WHATEVER THE INPUT: true; the input reads as it did. -/
def sweepAgainSpec : ChangeSpec := { name := "sweepAgain", fn := fun _ => fun
  | [d1, d2, d3] => { results := [.lit (.bool true)], args := [d1, d2, d3] }
  | _ => none }
def sweepAgainRow : OpenClaim := { program := "ytldbmogondmgmaagreatdoor", sum := "cfba7e084171ef94cc3e53501ff6bfbc99dfddeb4fc67dae1b9a19d089120a20", func := "scriptorium/scriptoriumlaw15.SweepAgain", spec := "sweepAgain", inPlace := ["internal/abi.NoEscape", "internal/bytealg.MakeNoZero", "internal/bytealg.CountString", "internal/bytealg.IndexByteString", "internal/bytealg.IndexString"], unfollowed := true, recurses := true, named := ["internal/bytealg.MaxLen", "unicode/utf8.first", "unicode/utf8.acceptRanges"], apart := false, laid := [("unicode/utf8.acceptRanges", laid_unicode_utf8_acceptRanges), ("unicode/utf8.first", laid_unicode_utf8_first)] }
def SweepAgainSaid : Prop := sweepAgainRow.holds Tryz.pinned (OpenSpec.ofChange sweepAgainSpec)

/-- ITS FALSE NEIGHBOUR: 'it returns false'. Refute it at one input. -/
def sweepAgainWrong : ChangeSpec := { name := "sweepAgain", fn := fun _ => fun
  | [d1, d2, d3] => { results := [.lit (.bool false)], args := [d1, d2, d3] }
  | _ => none }
def SweepAgainWrongFalsely : Prop := sweepAgainRow.holds Tryz.pinned (OpenSpec.ofChange sweepAgainWrong)

/-- 'scriptoriumlaw15.SweepKnown': WHATEVER THE INPUT: true; the input reads as it did. -/
def sweepKnownSpec : ChangeSpec := { name := "sweepKnown", fn := fun _ => fun
  | [] => { results := [.lit (.bool true)], args := [] }
  | _ => none }
def sweepKnownRow : OpenClaim := { program := "ytldbmogondmgmaagreatdoor", sum := "cfba7e084171ef94cc3e53501ff6bfbc99dfddeb4fc67dae1b9a19d089120a20", func := "scriptorium/scriptoriumlaw15.SweepKnown", spec := "sweepKnown", inPlace := ["internal/abi.NoEscape", "internal/bytealg.MakeNoZero", "internal/bytealg.CountString", "internal/bytealg.IndexByteString", "internal/bytealg.IndexString"], unfollowed := true, recurses := true, named := ["internal/bytealg.MaxLen", "unicode/utf8.first", "unicode/utf8.acceptRanges"], apart := false, laid := [("unicode/utf8.acceptRanges", laid_unicode_utf8_acceptRanges), ("unicode/utf8.first", laid_unicode_utf8_first)] }
def SweepKnownSaid : Prop := sweepKnownRow.holds Tryz.pinned (OpenSpec.ofChange sweepKnownSpec)

/-- ITS FALSE NEIGHBOUR: 'it returns false'. Refute it at one input. -/
def sweepKnownWrong : ChangeSpec := { name := "sweepKnown", fn := fun _ => fun
  | [] => { results := [.lit (.bool false)], args := [] }
  | _ => none }
def SweepKnownWrongFalsely : Prop := sweepKnownRow.holds Tryz.pinned (OpenSpec.ofChange sweepKnownWrong)

/- THE SECOND FORM. 'bulk': how many values and letters a reading holds, each counted each time it is reached (what is shared counts as often as it is met; a slice's spare places count too). A statement '..UptoSaid' is the law's where the arguments, and the package variables that the reading takes, are together of bulk at most 1048576: NARROWER than '..Said'. Prove '..Said' where nothing that the law and all that it calls make is longer than what came in: it says more and counts as full. Else prove '..UptoSaid'. A law counts once. -/
mutual
def uptoBulk {H : Type} : DataW H → Nat
  | .lit (.string bytes) => bytes.length + 1
  | .lit _ => 1
  | .nil => 1
  | .ptr d => uptoBulk d + 1
  | .slice elems spare => uptoBulkAll elems + uptoBulkAll spare + 1
  | .agg parts => uptoBulkAll parts + 1
  | .iface _ d => uptoBulk d + 1
  | .map entries => uptoBulkEntries entries + 1
  | .held _ => 1
def uptoBulkAll {H : Type} : List (DataW H) → Nat
  | [] => 0
  | d :: r => uptoBulk d + uptoBulkAll r
def uptoBulkEntries {H : Type} : List (Lit × DataW H) → Nat
  | [] => 0
  | x :: r => uptoBulkEntry x + uptoBulkEntries r
def uptoBulkEntry {H : Type} : Lit × DataW H → Nat
  | (.string bytes, d) => bytes.length + uptoBulk d + 1
  | (_, d) => uptoBulk d + 1
 end
def uptoSmall : (H : Type) → List (DataW H) → Bool := fun _ ds => decide (uptoBulkAll ds ≤ 1048576)
def OpenSpec.upto (s : _root_.Go.ChangeSpec) : _root_.Go.OpenSpec := { _root_.Go.OpenSpec.ofChange s with cond := some uptoSmall }

/-- 'scriptoriumlaw13.PokeRises', WHERE WHAT IT READS IS OF BULK AT MOST 1048576: true; the input reads as it did. -/
def pokeRisesUptoRow : OpenClaim := { program := "ytldbmogondmgmaagreatdoor", sum := "cfba7e084171ef94cc3e53501ff6bfbc99dfddeb4fc67dae1b9a19d089120a20", func := "scriptorium/scriptoriumlaw13.PokeRises", spec := "pokeRises", inPlace := ["internal/bytealg.CountString", "internal/bytealg.IndexByteString", "internal/bytealg.IndexString", "internal/abi.NoEscape", "internal/bytealg.MakeNoZero"], unfollowed := true, recurses := true, named := ["internal/bytealg.MaxLen", "unicode/utf8.first", "unicode/utf8.acceptRanges"], apart := false, laid := [("unicode/utf8.acceptRanges", laid_unicode_utf8_acceptRanges), ("unicode/utf8.first", laid_unicode_utf8_first)], narrowed := true }
def PokeRisesUptoSaid : Prop := pokeRisesUptoRow.holds Tryz.pinned (OpenSpec.upto pokeRisesSpec)

/-- 'scriptoriumlaw13.PokeApart', WHERE WHAT IT READS IS OF BULK AT MOST 1048576: true; the input reads as it did. -/
def pokeApartUptoRow : OpenClaim := { program := "ytldbmogondmgmaagreatdoor", sum := "cfba7e084171ef94cc3e53501ff6bfbc99dfddeb4fc67dae1b9a19d089120a20", func := "scriptorium/scriptoriumlaw13.PokeApart", spec := "pokeApart", inPlace := ["internal/bytealg.CountString", "internal/bytealg.IndexByteString", "internal/bytealg.IndexString", "internal/abi.NoEscape", "internal/bytealg.MakeNoZero"], unfollowed := true, recurses := true, named := ["internal/bytealg.MaxLen", "unicode/utf8.first", "unicode/utf8.acceptRanges"], apart := false, laid := [("unicode/utf8.acceptRanges", laid_unicode_utf8_acceptRanges), ("unicode/utf8.first", laid_unicode_utf8_first)], narrowed := true }
def PokeApartUptoSaid : Prop := pokeApartUptoRow.holds Tryz.pinned (OpenSpec.upto pokeApartSpec)

/-- 'scriptoriumlaw14.SettleStays', WHERE WHAT IT READS IS OF BULK AT MOST 1048576: true; the input reads as it did. -/
def settleStaysUptoRow : OpenClaim := { program := "ytldbmogondmgmaagreatdoor", sum := "cfba7e084171ef94cc3e53501ff6bfbc99dfddeb4fc67dae1b9a19d089120a20", func := "scriptorium/scriptoriumlaw14.SettleStays", spec := "settleStays", inPlace := ["internal/bytealg.CountString", "internal/bytealg.IndexByteString", "internal/bytealg.IndexString", "internal/abi.NoEscape", "internal/bytealg.MakeNoZero"], unfollowed := true, recurses := true, named := ["internal/bytealg.MaxLen", "unicode/utf8.first", "unicode/utf8.acceptRanges"], apart := false, laid := [("unicode/utf8.acceptRanges", laid_unicode_utf8_acceptRanges), ("unicode/utf8.first", laid_unicode_utf8_first)], narrowed := true }
def SettleStaysUptoSaid : Prop := settleStaysUptoRow.holds Tryz.pinned (OpenSpec.upto settleStaysSpec)

/-- 'scriptoriumlaw15.SweepReads', WHERE WHAT IT READS IS OF BULK AT MOST 1048576: true; the input reads as it did. -/
def sweepReadsUptoRow : OpenClaim := { program := "ytldbmogondmgmaagreatdoor", sum := "cfba7e084171ef94cc3e53501ff6bfbc99dfddeb4fc67dae1b9a19d089120a20", func := "scriptorium/scriptoriumlaw15.SweepReads", spec := "sweepReads", inPlace := ["internal/abi.NoEscape", "internal/bytealg.MakeNoZero", "internal/bytealg.CountString", "internal/bytealg.IndexByteString", "internal/bytealg.IndexString"], unfollowed := true, recurses := true, named := ["internal/bytealg.MaxLen", "unicode/utf8.first", "unicode/utf8.acceptRanges"], apart := false, laid := [("unicode/utf8.acceptRanges", laid_unicode_utf8_acceptRanges), ("unicode/utf8.first", laid_unicode_utf8_first)], narrowed := true }
def SweepReadsUptoSaid : Prop := sweepReadsUptoRow.holds Tryz.pinned (OpenSpec.upto sweepReadsSpec)

/-- 'scriptoriumlaw15.SweepAgain', WHERE WHAT IT READS IS OF BULK AT MOST 1048576: true; the input reads as it did. -/
def sweepAgainUptoRow : OpenClaim := { program := "ytldbmogondmgmaagreatdoor", sum := "cfba7e084171ef94cc3e53501ff6bfbc99dfddeb4fc67dae1b9a19d089120a20", func := "scriptorium/scriptoriumlaw15.SweepAgain", spec := "sweepAgain", inPlace := ["internal/abi.NoEscape", "internal/bytealg.MakeNoZero", "internal/bytealg.CountString", "internal/bytealg.IndexByteString", "internal/bytealg.IndexString"], unfollowed := true, recurses := true, named := ["internal/bytealg.MaxLen", "unicode/utf8.first", "unicode/utf8.acceptRanges"], apart := false, laid := [("unicode/utf8.acceptRanges", laid_unicode_utf8_acceptRanges), ("unicode/utf8.first", laid_unicode_utf8_first)], narrowed := true }
def SweepAgainUptoSaid : Prop := sweepAgainUptoRow.holds Tryz.pinned (OpenSpec.upto sweepAgainSpec)

/-- 'scriptoriumlaw15.SweepKnown', WHERE WHAT IT READS IS OF BULK AT MOST 1048576: true; the input reads as it did. -/
def sweepKnownUptoRow : OpenClaim := { program := "ytldbmogondmgmaagreatdoor", sum := "cfba7e084171ef94cc3e53501ff6bfbc99dfddeb4fc67dae1b9a19d089120a20", func := "scriptorium/scriptoriumlaw15.SweepKnown", spec := "sweepKnown", inPlace := ["internal/abi.NoEscape", "internal/bytealg.MakeNoZero", "internal/bytealg.CountString", "internal/bytealg.IndexByteString", "internal/bytealg.IndexString"], unfollowed := true, recurses := true, named := ["internal/bytealg.MaxLen", "unicode/utf8.first", "unicode/utf8.acceptRanges"], apart := false, laid := [("unicode/utf8.acceptRanges", laid_unicode_utf8_acceptRanges), ("unicode/utf8.first", laid_unicode_utf8_first)], narrowed := true }
def SweepKnownUptoSaid : Prop := sweepKnownUptoRow.holds Tryz.pinned (OpenSpec.upto sweepKnownSpec)

end Rows
end Go.Proofs.YtldbmogondmgmaaGreatDoor
