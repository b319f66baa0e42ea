/-
  Layer 2: words for strings and rows in the walks.
-/
import Derived.Test.YtcphhambckohbaaDoorOMath
import Derived.Test.YtcphhambckohbaaDoorOwn
import Derived.Lib.IndexBytes
set_option linter.unusedVariables false
namespace Go.Proofs.YtcphhambckohbaaDoor
open Go.RowKit

/-- A string's bytes. -/
def sb (s : ByteArray) : List UInt8 := s.data.toList
theorem sb_len (s : ByteArray) : (sb s).length = s.size := rfl
theorem sb_mk (l : List UInt8) : sb ⟨l.toArray⟩ = l := rfl
theorem mk_sb (s : ByteArray) : (⟨(sb s).toArray⟩ : ByteArray) = s := by cases s; simp [sb]
theorem sb_get (s : ByteArray) (k : Nat) (h : k < s.size) : s[k]'h = (sb s)[k]'(by rw [sb_len]; exact h) := by
  show s.data[k] = s.data.toList[k]
  simp
theorem sb_inj {s t : ByteArray} (h : sb s = sb t) : s = t := by rw [← mk_sb s, h, mk_sb]
theorem sb_ext (s : ByteArray) (a b : Nat) : sb (s.extract a b) = ((sb s).drop a).take (b - a) := Lib.extract_data s a b
theorem sb_end (s : ByteArray) (a : Nat) : sb (s.extract a s.size) = (sb s).drop a := Lib.extract_to_end s a
theorem beq_str (s t : ByteArray) : (s.toList == t.toList) = decide (s = t) := by
  rw [Lib.toList_data, Lib.toList_data]
  by_cases h : s = t
  · subst h; simp
  · rw [decide_eq_false h]
    apply beq_eq_false_iff_ne.2
    intro e
    exact h (sb_inj e)

theorem at_b {w : World} {x : Int} {b : UInt8} (t : TypeId) (h : x = (b.toNat : Int)) : At (w.alloc (.cells #[.int .u8 x] t)) (some ⟨w.heap.size, 0, none⟩) 1 [b] := by
  subst h
  refine ⟨rfl, fun _ => ⟨w.heap.size, 0, rfl, fun i hi => ?_⟩⟩
  have : i = 0 := by simp at hi; omega
  subst this
  unfold World.cell?
  rw [heap_alloc_new]
  rfl

theorem at_b2 {w : World} (t : TypeId) : At (w.alloc (.cells #[.int .u8 0, .int .u8 0] t)) (some ⟨w.heap.size, 0, none⟩) 2 [0, 0] := by
  refine ⟨rfl, fun _ => ⟨w.heap.size, 0, rfl, fun i hi => ?_⟩⟩
  have : i = 0 ∨ i = 1 := by simp at hi; omega
  unfold World.cell?
  rcases this with rfl | rfl
  all_goals
    rw [heap_alloc_new]
    rfl

theorem Own.below {w w' : World} {B : Nat} {xs : List UInt8} {v : Value} (h : Own w B v xs) (hb : Below w.heap.size w w') : Own w' B v xs :=
  World.ownsRow.kept h (row := none) ⟨hb.os, hb.tape, hb.output, hb.size, fun k hk _ => hb.block k hk⟩ (by
    cases hv : v.ownBlock with
    | none => exact .inl rfl
    | some q => exact .inr (by simp))
theorem Own.alloc {w : World} {B : Nat} {xs : List UInt8} {v : Value} (h : Own w B v xs) (o : Obj) : Own (w.alloc o) B v xs := h.below ((Below.refl _ _).alloc (Nat.le_refl _) _)
theorem Own.row_ {w : World} {B : Nat} {xs : List UInt8} {v : Value} (h : Own w B v xs) : w.ownsRow B 5 1 v xs.length (xs.map bv) := h
theorem Own.of_app {w : World} {B : Nat} {v : Value} {xs : List UInt8} {n : Nat} (h : w.ownsRow B 5 1 v n (xs.map bv)) : Own w B v xs := by
  have hl : n = xs.length := by have := h.1; simpa using this.symm
  subst hl
  exact h

theorem below_drewN {B : Nat} {a w : World} (h : Below B a w) (n : Nat) : Below B a (w.drewN n) := ⟨h.os, h.tape, h.output, h.size, h.block⟩

end Go.Proofs.YtcphhambckohbaaDoor
