/-
  Layer 7: numbers of the walk's own.
-/
import Derived.Test.YtkhalpajomammaaDOk
set_option linter.unusedVariables false
namespace Go.Proofs.Ytkhalpajomammaa
open Go.RowKit

/-- Numbers of the walk's own. -/
def OwnI (w : World) (B : Nat) (v : Value) (xs : List Int) : Prop := w.ownsRow B 3 1 v xs.length (xs.map (Value.int .i64))
theorem OwnI.form {w : World} {B : Nat} {v : Value} {xs : List Int} (h : OwnI w B v xs) : ∃ A c, v = .slice A xs.length c ∧ IAt w A xs.length xs ∧ xs.length ≤ c ∧ c ≤ 9223372036854775807 ∧ InF (fun k => B ≤ k ∧ k < w.heap.size) A := by
  unfold OwnI at h
  rcases h.2 with ⟨rfl, hn0⟩ | ⟨q, cap, cur, rfl, hq, hh, hnc, hcm, hcs, htk⟩
  · obtain rfl : xs = [] := List.eq_nil_of_length_eq_zero hn0
    exact ⟨none, 0, rfl, IAt.nil _ _, by simp, by omega, (fun a e => nomatch e)⟩
  · refine ⟨_, cap, rfl, ⟨rfl, fun _ => ⟨q, 0, rfl, fun j hj => ?_⟩⟩, hnc, hcm, fun a e => ?_⟩
    · rw [Nat.zero_add, h.cellAt j (by omega), List.getElem?_map, List.getElem?_eq_getElem hj]
      rfl
    · injection e with e
      subst e
      exact ⟨hq, (Array.getElem?_eq_some_iff.1 hh).1⟩
theorem OwnI.base_ {w : World} {B B' : Nat} {v : Value} {xs : List Int} (h : OwnI w B v xs) (hB : B' ≤ B) : OwnI w B' v xs := by
  unfold OwnI at h ⊢
  refine ⟨h.1, ?_⟩
  rcases h.2 with ⟨e, h0⟩ | ⟨q, cap, cur, e, hq, r⟩
  · exact .inl ⟨e, h0⟩
  · exact .inr ⟨q, cap, cur, e, Nat.le_trans hB hq, r⟩
theorem InF.of {P : Nat → Prop} {A : Option Addr} {n c j : Nat} (h : InF P A) (e : (Value.slice A n c).ownBlock = some j) : P j := by
  cases A with
  | none => exact nomatch e
  | some a =>
    have e' : some a.block = some j := e
    injection e' with e'
    subst e'
    exact h a rfl
theorem OwnI.onS {V V' : World} {B : Nat} {v : Value} {ys : List Int} (h : OwnI V B v ys) (hk : ∀ k, v.ownBlock = some k → V'.heap[k]? = V.heap[k]?) : OwnI V' B v ys := by
  unfold OwnI at h ⊢
  refine ⟨h.1, ?_⟩
  rcases h.2 with ⟨e, h0⟩ | ⟨q, cap, cur, e, hq, hh, r⟩
  · exact .inl ⟨e, h0⟩
  · subst e
    exact .inr ⟨q, cap, cur, rfl, hq, (hk q rfl).trans hh, r⟩
theorem Own.onS {V V' : World} {B : Nat} {v : Value} {ys : List UInt8} (h : Own V B v ys) (hk : ∀ k, v.ownBlock = some k → V'.heap[k]? = V.heap[k]?) : Own V' B v ys := by
  unfold Own at h ⊢
  refine ⟨h.1, ?_⟩
  rcases h.2 with ⟨e, h0⟩ | ⟨q, cap, cur, e, hq, hh, r⟩
  · exact .inl ⟨e, h0⟩
  · subst e
    exact .inr ⟨q, cap, cur, rfl, hq, (hk q rfl).trans hh, r⟩
end Go.Proofs.Ytkhalpajomammaa
