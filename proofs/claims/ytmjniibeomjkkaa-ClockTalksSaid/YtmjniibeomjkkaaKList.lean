/-
  Layer 6: lists of calls that are handed in.
-/
import Derived.Test.YtmjniibeomjkkaaKDo0
set_option linter.unusedVariables false
namespace Go.Proofs.Ytmjniibeomjkkaa
open Go.RowKit

def I64 (x : Int) : Prop := -9223372036854775808 ≤ x ∧ x ≤ 9223372036854775807
/-- A call that stands in a list. -/
abbrev L4 (b o : Nat) (k a x y : Int) (V : World) : Prop :=
  V.cell? ⟨b, o, none⟩ = some (.int .i64 k) ∧ V.cell? ⟨b, o + 1, none⟩ = some (.int .i64 a) ∧ V.cell? ⟨b, o + 2, none⟩ = some (.int .i64 x) ∧ V.cell? ⟨b, o + 3, none⟩ = some (.int .i64 y)
def Dos (w : World) (A : Option Addr) (n : Nat) : Prop :=
  0 < n → ∃ b o, A = some ⟨b, o, none⟩ ∧ ∀ i, i < n → ∃ k a x y, L4 b (o + i * 4) k a x y w ∧ I64 k ∧ I64 a ∧ I64 x ∧ I64 y
section
variable {w w' V V' : World} {A : Option Addr} {n b o g : Nat} {k a x y : Int}
theorem L4.lt (h : L4 b o k a x y V) : b < V.heap.size := World.block_lt_of_cell? V _ h.1
theorem L4.keep (h : L4 b o k a x y V) (hb : V'.heap[b]? = V.heap[b]?) : L4 b o k a x y V' :=
  ⟨(World.cell?_of_block (a := ⟨b, o, none⟩) hb).trans h.1, (World.cell?_of_block (a := ⟨b, o + 1, none⟩) hb).trans h.2.1, (World.cell?_of_block (a := ⟨b, o + 2, none⟩) hb).trans h.2.2.1, (World.cell?_of_block (a := ⟨b, o + 3, none⟩) hb).trans h.2.2.2⟩
theorem L4.below {B : Nat} (h : L4 b o k a x y V) (hB : b < B) (hb : Below B V V') : L4 b o k a x y V' := h.keep (hb.block b hB)
theorem Dos.below (h : Dos w A n) (hb : Below w.heap.size w w') : Dos w' A n := fun hn => by
  obtain ⟨b, o, e, hc⟩ := h hn
  refine ⟨b, o, e, fun i hi => ?_⟩
  obtain ⟨k, a, x, y, h4, hr⟩ := hc i hi
  exact ⟨k, a, x, y, h4.below h4.lt hb, hr⟩
theorem Dos.get (h : Dos w A n) {i : Nat} (hi : i < n) : ∃ b o k a x y, A = some ⟨b, o, none⟩ ∧ L4 b (o + i * 4) k a x y w ∧ I64 k ∧ I64 a ∧ I64 x ∧ I64 y := by
  obtain ⟨b, o, e, hc⟩ := h (by omega)
  obtain ⟨k, a, x, y, h4⟩ := hc i hi
  exact ⟨b, o, k, a, x, y, e, h4⟩
end
/-- Three numbers that stand in a list. -/
abbrev L3 (b o : Nat) (x y z : Int) (V : World) : Prop :=
  V.cell? ⟨b, o, none⟩ = some (.int .i64 x) ∧ V.cell? ⟨b, o + 1, none⟩ = some (.int .i64 y) ∧ V.cell? ⟨b, o + 2, none⟩ = some (.int .i64 z)
def Rows3 (w : World) (A : Option Addr) (n : Nat) : Prop :=
  0 < n → ∃ b o, A = some ⟨b, o, none⟩ ∧ ∀ i, i < n → ∃ x y z, L3 b (o + i * 3) x y z w ∧ I64 x ∧ I64 y ∧ I64 z
section
variable {w V V' : World} {A : Option Addr} {n b o : Nat} {x y z : Int}
theorem L3.lt (h : L3 b o x y z V) : b < V.heap.size := World.block_lt_of_cell? V _ h.1
theorem L3.below {B : Nat} (h : L3 b o x y z V) (hB : b < B) (hb : Below B V V') : L3 b o x y z V' :=
  have e := hb.block b hB
  ⟨(World.cell?_of_block (a := ⟨b, o, none⟩) e).trans h.1, (World.cell?_of_block (a := ⟨b, o + 1, none⟩) e).trans h.2.1, (World.cell?_of_block (a := ⟨b, o + 2, none⟩) e).trans h.2.2⟩
theorem Rows3.get (h : Rows3 w A n) {i : Nat} (hi : i < n) : ∃ b o x y z, A = some ⟨b, o, none⟩ ∧ L3 b (o + i * 3) x y z w ∧ I64 x ∧ I64 y ∧ I64 z := by
  obtain ⟨b, o, e, hc⟩ := h (by omega)
  obtain ⟨x, y, z, h3⟩ := hc i hi
  exact ⟨b, o, x, y, z, e, h3⟩
end
end Go.Proofs.Ytmjniibeomjkkaa
