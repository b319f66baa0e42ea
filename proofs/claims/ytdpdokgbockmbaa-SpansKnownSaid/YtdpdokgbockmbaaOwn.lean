/-
  A row of bytes of the call's own.
-/
import Derived.Test.YtdpdokgbockmbaaBase
set_option linter.unusedVariables false
namespace Go.Proofs.Ytdpdokgbockmbaa
open Go.RowKit

theorem info5 : (Try.prog.info? 5).map (fun i => (i.zero, i.size, i.bytes)) = some (some (.int .u8 0), 1, 1) := by kernel_rfl

/-- What a call hands back in memory of its own. -/
def Own (w : World) (base : Nat) (v : Value) (xs : List UInt8) : Prop := w.ownsRow base 5 1 v xs.length (xs.map bv)

theorem Own.base {w : World} {B B' : Nat} {v : Value} {xs : List UInt8} (h : Own w B v xs) (hB : B' ≤ B) : Own w B' v xs := by
  refine ⟨h.1, ?_⟩
  rcases h.2 with hn | ⟨g, cap, cur, hv, hb, rest⟩
  · exact .inl hn
  · exact .inr ⟨g, cap, cur, hv, by omega, rest⟩
theorem Own.form {w : World} {B : Nat} {v : Value} {xs : List UInt8} (h : Own w B v xs) : ∃ A c, v = .slice A xs.length c ∧ At w A xs.length xs ∧ xs.length ≤ c ∧ c ≤ 9223372036854775807 ∧ (A = none → c = 0) := by
  rcases h.2 with ⟨rfl, hn⟩ | ⟨g, cap, cur, rfl, hb, hg, hnc, hcm, _⟩
  · exact ⟨none, 0, by rw [hn], ⟨rfl, fun h0 => by omega⟩, by omega, by omega, fun _ => rfl⟩
  · refine ⟨_, cap, rfl, ⟨rfl, fun h0 => ⟨g, 0, rfl, fun i hi => ?_⟩⟩, hnc, hcm, fun h => by cases h⟩
    have hc := World.ownsRow.cells h (g := g) rfl i (bv xs[i]) (by simp [hi])
    rw [Go.WideShapes.add_plain] at hc
    simpa [bv] using hc

theorem Own.at_ {w : World} {B : Nat} {A : Option Addr} {n c : Nat} {xs : List UInt8} (h : Own w B (.slice A n c) xs) : At w A n xs := by
  obtain ⟨A', c', e, hat, _⟩ := h.form
  injection e with e1 e2 _
  rw [e1, e2]
  exact hat
theorem Own.len {w : World} {B : Nat} {A : Option Addr} {n c : Nat} {xs : List UInt8} (h : Own w B (.slice A n c) xs) : xs.length = n := h.at_.1

theorem own_one {w : World} {B : Nat} {x : Int} {b : UInt8} (hB : B ≤ w.heap.size) (h : x = (b.toNat : Int)) :
    (w.alloc (.cells #[.int .u8 x] 5)).ownsRow B 5 1 (.slice (some ⟨w.heap.size, 0, none⟩) 1 1) 1 ([b].map bv) := by
  subst h
  exact World.ownsRow_lit w #[bv b] 1 hB (by decide) rfl

section
variable {w w' : World} {B g m c : Nat} {xs : List UInt8}
theorem Own.row (h : Own w B (.slice (some ⟨g, 0, none⟩) m c) xs) : w.ownsRow B 5 1 (.slice (some ⟨g, 0, none⟩) m c) m (xs.map bv) := by
  have hl := h.len
  unfold Own at h
  rw [hl] at h
  exact h
theorem Own.cell (h : Own w B (.slice (some ⟨g, 0, none⟩) m c) xs) (k : Nat) (hk : k < m) : w.cell? ⟨g, k, none⟩ = some (.int .u8 ((xs[k]'(by rw [h.len]; exact hk)).toNat : Int)) := by
  have hl := h.len
  have := h.row.cellAt k (by omega)
  rw [this, List.getElem?_map, List.getElem?_eq_getElem (by omega)]
  rfl
theorem Own.free (h : Own w B (.slice (some ⟨g, 0, none⟩) m c) xs) (k : Nat) : w.frozen? ⟨g, k, none⟩ = false := h.row.frozenAt k
theorem Own.set (h : Own w B (.slice (some ⟨g, 0, none⟩) m c) xs) (k : Nat) (y : UInt8) : Own (w.setCell ⟨g, k, none⟩ (bv y)) B (.slice (some ⟨g, 0, none⟩) m c) (xs.set k y) := by
  have h1 := (h.row.stored k (bv y)).1
  unfold Own
  rw [List.length_set, h.len, List.map_set]
  exact h1
theorem Own.far {v : Value} {p : Addr} (h : Own w B v xs) (hp : p.block < B) (u : Value) : Own (w.setCell p u) B v xs := ownsRow_setCell_below h hp u
theorem Own.below {v : Value} (h : Own w B v xs) (hb : Below w.heap.size w w') : Own w' B v xs :=
  World.ownsRow.kept h (row := none) ⟨hb.os, hb.tape, hb.output, hb.size, fun k hk _ => hb.block k hk⟩ (by
    cases hv : v.ownBlock with
    | none => exact .inl rfl
    | some q => exact .inr (by simp))
theorem Own.drewN {v : Value} (h : Own w B v xs) (k : Nat) : Own (w.drewN k) B v xs := h
theorem Own.some_ {A : Option Addr} (h : Own w B (.slice A m c) xs) (hm : 0 < m) : ∃ g, A = some ⟨g, 0, none⟩ ∧ B ≤ g ∧ g < w.heap.size := by
  obtain ⟨g, cap, hv, h1, h2⟩ := World.ownsRow.form h (by rw [h.len]; exact hm)
  injection hv with e _ _
  exact ⟨g, e, h1, h2⟩
end

end Go.Proofs.Ytdpdokgbockmbaa
