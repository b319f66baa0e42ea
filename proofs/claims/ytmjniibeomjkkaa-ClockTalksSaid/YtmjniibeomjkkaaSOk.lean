/-
  Layer 5: what the code's functions promise, as the statements' walks take it.
-/
import Derived.Test.YtmjniibeomjkkaaSMath
set_option linter.unusedVariables false
namespace Go.Proofs.Ytmjniibeomjkkaa
open Go.RowKit

/-- A stamp's value. -/
abbrev sv (a b : Int) : Value := .agg #[.int .i64 a, .int .i64 b]

/-- A list of stamps. -/
def Stamps (w : World) (A : Option Addr) (n : Nat) (l : List (Int × Int)) : Prop :=
  l.length = n ∧ (0 < n → ∃ b o, A = some ⟨b, o, none⟩ ∧ ∀ i, (h : i < l.length) → w.cell? ⟨b, o + i * 2, none⟩ = some (.int .i64 l[i].1) ∧ w.cell? ⟨b, o + i * 2 + 1, none⟩ = some (.int .i64 l[i].2))
theorem Stamps.nil (w : World) (A : Option Addr) : Stamps w A 0 [] := ⟨rfl, fun h => absurd h (by omega)⟩
theorem Stamps.keep {w w' : World} {A : Option Addr} {n : Nat} {l : List (Int × Int)} (h : Stamps w A n l) (hk : ∀ p : Addr, p.block < w.heap.size → w'.cell? p = w.cell? p) : Stamps w' A n l := by
  refine ⟨h.1, fun hn => ?_⟩
  obtain ⟨b, o, e, hc⟩ := h.2 hn
  refine ⟨b, o, e, fun i hi => ?_⟩
  obtain ⟨h1, h2⟩ := hc i hi
  exact ⟨by rw [hk _ (World.block_lt_of_cell? w _ h1)]; exact h1, by rw [hk _ (World.block_lt_of_cell? w _ h2)]; exact h2⟩
theorem Stamps.below' {w w' : World} {A : Option Addr} {n : Nat} {l : List (Int × Int)} (h : Stamps w A n l) (hb : Below w.heap.size w w') : Stamps w' A n l := h.keep fun _ hp => hb.cell hp
theorem Stamps.drewN {w : World} {A : Option Addr} {n : Nat} {l : List (Int × Int)} (h : Stamps w A n l) (k : Nat) : Stamps (w.drewN k) A n l := h
theorem Stamps.upto {w : World} {A : Option Addr} {n : Nat} {l : List (Int × Int)} (h : Stamps w A n l) (k : Nat) (hk : k ≤ n) : Stamps w A k (l.take k) := by
  have hl := h.1
  refine ⟨by rw [List.length_take]; omega, fun h0 => ?_⟩
  obtain ⟨b, o, e, hc⟩ := h.2 (by omega)
  refine ⟨b, o, e, fun i hi => ?_⟩
  have := hc i (by simp at hi; omega)
  simpa using this

def CheckOk : Prop := ∀ (a b : Int) (w : World), Calls Try.prog 40 #[sv a b] w fun e w' => e = .returned (.int .i64 (ck a b)) ∧ Below w.heap.size w w'
def LessOk : Prop := ∀ (a b c d : Int) (w : World), Calls Try.prog 21 #[sv a b, sv c d] w fun e w' => e = .returned (.bool (lt (a, b) (c, d))) ∧ Below w.heap.size w w'
def MaxOk : Prop := ∀ (A : Option Addr) (n c : Nat) (l : List (Int × Int)) (w : World), Stamps w A n l → n ≤ 9223372036854775807 → Calls Try.prog 22 #[.slice A n c] w fun e w' => e = .returned (sv (mx l).1 (mx l).2) ∧ Below w.heap.size w w'
def NextSOk : Prop := ∀ (a b : Int) (w : World), Calls Try.prog 38 #[sv a b] w fun e w' => e = .returned (.tuple #[sv (nxt a b).1 (nxt a b).2.1, .int .i64 (nxt a b).2.2]) ∧ Below w.heap.size w w'
end Go.Proofs.Ytmjniibeomjkkaa
