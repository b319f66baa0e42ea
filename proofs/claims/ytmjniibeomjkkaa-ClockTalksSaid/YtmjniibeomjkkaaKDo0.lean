/-
  Layer 6: the statements' calls of a clock: what is handed in, 'bring', 'does'.
-/
import Derived.Test.YtmjniibeomjkkaaKOk
import Derived.Test.YtmjniibeomjkkaaBring
import Derived.Deep.RegionWith
import Derived.Deep.RegionHeld3
import Derived.Deep.QuietTactic
import Derived.BigQuiet
set_option linter.unusedVariables false
namespace Go.Proofs.Ytmjniibeomjkkaa
open Go.RowKit

abbrev dov (k a x y : Int) : Value := .agg #[.int .i64 k, .int .i64 a, .int .i64 x, .int .i64 y]
def doC (c : Ck) (k a x y : Int) : Ck := if k % 4 = 0 then setC c a else if k % 4 = 1 then rseC c a else if k % 4 = 2 then nowC c else seeC c x y
/-- The error of a call. -/
def doE (c : Ck) (k a x y : Int) : Int := if k % 4 = 0 then setE c a else if k % 4 = 1 then rseE c a else if k % 4 = 2 then (nowR c).2.2 else seeE c x y
/-- The stamp that a call made, and whether it made one. -/
def doS (c : Ck) (k : Int) : Int × Int × Bool := if k % 4 = 2 then ((nowR c).1, (nowR c).2.1, (nowR c).2.2 == 0) else (0, 0, false)
theorem doC_ok {c : Ck} (h : c.ok) (k a x y : Int) : (doC c k a x y).ok := by
  unfold doC
  split
  · exact setC_ok h a
  · split
    · exact rseC_ok h a
    · split
      · exact nowC_ok h
      · exact seeC_ok h x y

/-- Four numbers in a block: a call that is handed in. -/
abbrev D4 (q : Nat) (k a x y : Int) (V : World) : Prop :=
  V.cell? ⟨q, 0, none⟩ = some (.int .i64 k) ∧ V.cell? ⟨q, 1, none⟩ = some (.int .i64 a) ∧ V.cell? ⟨q, 2, none⟩ = some (.int .i64 x) ∧ V.cell? ⟨q, 3, none⟩ = some (.int .i64 y)
section
variable {w V V' : World} {q g : Nat} {k a x y : Int}
theorem D4.new (w : World) (k a x y : Int) (t : TypeId) : D4 w.heap.size k a x y (w.alloc (.cells #[.int .i64 k, .int .i64 a, .int .i64 x, .int .i64 y] t)) := by
  have h := heap_alloc_new w (.cells #[.int .i64 k, .int .i64 a, .int .i64 x, .int .i64 y] t)
  exact ⟨cell_of_row _ _ 0 _ _ (0, 0) h, cell_of_row _ _ 1 _ _ (0, 0) h, cell_of_row _ _ 2 _ _ (0, 0) h, cell_of_row _ _ 3 _ _ (0, 0) h⟩
theorem D4.keep (h : D4 q k a x y V) (hb : Below V.heap.size V V') : D4 q k a x y V' :=
  ⟨(hb.cell (World.block_lt_of_cell? V _ h.1)).trans h.1, (hb.cell (World.block_lt_of_cell? V _ h.2.1)).trans h.2.1, (hb.cell (World.block_lt_of_cell? V _ h.2.2.1)).trans h.2.2.1, (hb.cell (World.block_lt_of_cell? V _ h.2.2.2)).trans h.2.2.2⟩
theorem D4.other (h : D4 q k a x y V) (hg : V.grownBy V' (some g)) (hq : q ≠ g) : D4 q k a x y V' :=
  ⟨hg.cell h.1 (fun e => hq (Option.some.inj e)), hg.cell h.2.1 (fun e => hq (Option.some.inj e)), hg.cell h.2.2.1 (fun e => hq (Option.some.inj e)), hg.cell h.2.2.2 (fun e => hq (Option.some.inj e))⟩
end

theorem Box.other {w w' : World} {g g' : Nat} {a b : Int} (h : Box w g a b) (ho : w.grownBy w' (some g')) (hn : g ≠ g') : Box w' g a b := (ho.block g h.lt (fun e => hn (Option.some.inj e))).trans h
end Go.Proofs.Ytmjniibeomjkkaa
