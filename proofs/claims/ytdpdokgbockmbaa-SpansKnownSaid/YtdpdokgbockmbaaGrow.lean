/-
  What an object's calls leave as it was.
-/
import Derived.Test.YtdpdokgbockmbaaBase
import Derived.Test.YtdpdokgbockmbaaOwn
import Derived.Laws.OwnMore
set_option linter.unusedVariables false
namespace Go.Proofs.Ytdpdokgbockmbaa
open Go.RowKit

abbrev pt (g : Nat) : Value := .pointer (some ⟨g, 0, none⟩)

/-! ### an object's blocks -/
def nF (F : Nat → Prop) (V V' : World) : Nat → Prop := fun k => F k ∨ (V.heap.size ≤ k ∧ k < V'.heap.size)
/-- Only the blocks of F, and new ones, have changed. -/
structure Grow (F : Nat → Prop) (V V' : World) : Prop where
  os : V'.os = V.os
  tape : V'.tape = V.tape
  output : V'.output = V.output
  size : V.heap.size ≤ V'.heap.size
  block : ∀ k, k < V.heap.size → ¬ F k → V'.heap[k]? = V.heap[k]?
section
variable {F G : Nat → Prop} {V V1 V2 w : World} {B : Nat}
theorem Grow.refl (F : Nat → Prop) (V : World) : Grow F V V := ⟨rfl, rfl, rfl, Nat.le_refl _, fun _ _ _ => rfl⟩
theorem Grow.of_below (h : Below V.heap.size V V1) : Grow F V V1 := ⟨h.os, h.tape, h.output, h.size, fun k hk _ => h.block k hk⟩
theorem Grow.trans (h : Grow F V V1) (h2 : Grow (nF F V V1) V1 V2) : Grow F V V2 :=
  ⟨h2.os.trans h.os, h2.tape.trans h.tape, h2.output.trans h.output, Nat.le_trans h.size h2.size, fun k hk hn =>
    (h2.block k (Nat.lt_of_lt_of_le hk h.size) (fun e => e.elim hn (fun e => by omega))).trans (h.block k hk hn)⟩
theorem Grow.mono (h : Grow F V V1) (hs : ∀ k, F k → G k) : Grow G V V1 := ⟨h.os, h.tape, h.output, h.size, fun k hk hn => h.block k hk (fun e => hn (hs k e))⟩
theorem Grow.set (h : Grow F V V1) {p : Addr} (hp : F p.block ∨ V.heap.size ≤ p.block) (u : Value) : Grow F V (V1.setCell p u) :=
  ⟨h.os, h.tape, h.output, by rw [World.setCell]; simp only [Array.size_modify]; exact h.size, fun k hk hn => by
    simp only [World.setCell, Array.getElem?_modify]
    rw [if_neg (fun e => by rcases hp with hp | hp; exact hn (e ▸ hp); omega)]
    exact h.block k hk hn⟩
theorem Grow.drewN (h : Grow F V V1) (n : Nat) : Grow F V (V1.drewN n) := ⟨h.os, h.tape, h.output, h.size, h.block⟩
theorem Grow.below (hb : Below B w V) (hB : B ≤ V.heap.size) (hF : ∀ k, F k → B ≤ k) (h : Grow F V V1) : Below B w V1 :=
  ⟨h.os.trans hb.os, h.tape.trans hb.tape, h.output.trans hb.output, Nat.le_trans hb.size h.size, fun k hk => (h.block k (by omega) (fun e => by have := hF k e; omega)).trans (hb.block k hk)⟩
theorem Grow.by_ {r : Option Nat} (h : V.grownBy V1 r) (hr : ∀ k, r = some k → F k) : Grow F V V1 := ⟨h.os, h.tape, h.output, h.size, fun k hk hn => h.block k hk (fun e => hn (hr k e.symm))⟩
theorem nF_trans (h : V.heap.size ≤ V1.heap.size) (h2 : V1.heap.size ≤ V2.heap.size) : nF (nF F V V1) V1 V2 = nF F V V2 := by
  funext k
  unfold nF
  refine propext ⟨fun e => ?_, fun e => ?_⟩
  · rcases e with (e | e) | e
    · exact .inl e
    · exact .inr (by omega)
    · exact .inr (by omega)
  · rcases e with e | e
    · exact .inl (.inl e)
    · by_cases hk : k < V1.heap.size
      · exact .inl (.inr ⟨e.1, hk⟩)
      · exact .inr ⟨by omega, e.2⟩
end

/-- What a call makes of an object. -/
def Turns {S : Type} (R : World → Nat → S → (Nat → Prop) → Prop) (V : World) (g : Nat) (F : Nat → Prop) (D' : S) (V' : World) : Prop := R V' g D' (nF F V V') ∧ Grow F V V'
theorem Turns.trans {S : Type} {R : World → Nat → S → (Nat → Prop) → Prop} {V V1 V2 : World} {g : Nat} {F : Nat → Prop} {D1 D2 : S} (h : Grow F V V1) (h2 : Turns R V1 g (nF F V V1) D2 V2) : Turns R V g F D2 V2 :=
  ⟨nF_trans h.size h2.2.size ▸ h2.1, h.trans h2.2⟩

theorem nbl (V : World) (o : Obj) : Below V.heap.size V (V.alloc o) := (Below.refl _ _).alloc (Nat.le_refl _) o
theorem bst {X V Y : World} (h : Below X.heap.size X V) (hb : Below V.heap.size V Y) : Below X.heap.size X Y := h.trans (hb.mono h.size)
theorem bsa {X V : World} (h : Below X.heap.size X V) (o : Obj) : Below X.heap.size X (V.alloc o) := h.alloc h.size o
def InF (F : Nat → Prop) (A : Option Addr) : Prop := ∀ a, A = some a → F a.block
end Go.Proofs.Ytdpdokgbockmbaa
