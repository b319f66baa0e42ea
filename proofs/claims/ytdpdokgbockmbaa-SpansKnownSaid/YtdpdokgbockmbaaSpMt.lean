/-
  Layer 16, plain: two spans that meet; what is just behind a key.
-/
import Derived.Test.YtdpdokgbockmbaaSpWorks
set_option linter.unusedVariables false
set_option linter.unusedSimpArgs false
set_option maxRecDepth 100000
namespace Go.Proofs.Ytdpdokgbockmbaa
open Go.RowKit

theorem smax_l (x y : ByteArray) : kl (smax x y) x = false ∧ kl (smax x y) y = false := by
  unfold smax
  cases h : Op.bytesLess x.toList y.toList with
  | true => exact ⟨klf h, kl_irr y⟩
  | false => exact ⟨kl_irr x, h⟩
theorem smax_lt {x y t : ByteArray} (h1 : kl x t = true) (h2 : kl y t = true) : kl (smax x y) t = true := by
  unfold smax
  split <;> assumption
theorem smax_le {x y k : ByteArray} (h1 : kl k x = false) (h2 : kl k y = false) : kl k (smax x y) = false := by
  unfold smax
  split <;> assumption
/-- Two spans that may be meet just if there is a key that both have. -/
theorem meet_iff {a b : Sn} (ha : chkS a = 0) (hb : chkS b = 0) : meetS a b = (kl a.f b.t && kl b.f a.t) := by
  unfold meetS
  rw [hasS_may ha, hasS_may hb]
  unfold ihas
  obtain ⟨h1, h2⟩ := smax_l a.f b.f
  rw [h1, h2]
  have e1 : kl (smax a.f b.f) a.t = kl b.f a.t := by
    cases h : kl b.f a.t with
    | true => exact smax_lt (chkS_lt ha) h
    | false => exact kl_le_le h h2
  have e2 : kl (smax a.f b.f) b.t = kl a.f b.t := by
    cases h : kl a.f b.t with
    | true => exact smax_lt h (chkS_lt hb)
    | false => exact kl_le_le h h1
  rw [e1, e2]
  cases kl a.f b.t <;> cases kl b.f a.t <;> rfl
def smin (x y : ByteArray) : ByteArray := if Op.bytesLess x.toList y.toList = true then x else y
theorem smin_lt {x y k : ByteArray} : kl k (smin x y) = (kl k x && kl k y) := by
  unfold smin
  split
  · rename_i h
    cases h1 : kl k x with
    | true => rw [kl_trans h1 h]; rfl
    | false => rfl
  · rename_i h
    have h' : kl x y = false := by
      cases h2 : kl x y with
      | true => exact absurd h2 h
      | false => rfl
    cases h1 : kl k y with
    | true => rw [kl_lt_le h1 h']; rfl
    | false => simp
theorem smax_not {x y k : ByteArray} : kl k (smax x y) = (kl k x || kl k y) := by
  unfold smax
  split
  · rename_i h
    cases h1 : kl k x with
    | true => rw [kl_trans h1 h]; rfl
    | false => rfl
  · rename_i h
    have h' : kl x y = false := by
      cases h2 : kl x y with
      | true => exact absurd h2 h
      | false => rfl
    cases h1 : kl k y with
    | true => rw [kl_lt_le h1 h']; rfl
    | false => simp
/-- What both of two spans have. -/
theorem both_one {a b : Sn} (ha : chkS a = 0) (hb : chkS b = 0) : Spe wB [a] [b] (if meetS a b then [⟨smax a.f b.f, smin a.t b.t⟩] else []) := by
  have hA := chkS_lt ha
  have hB := chkS_lt hb
  have hka := chkS_le ha
  have hkb := chkS_le hb
  have hone : ∀ (s : Sn) k, inI [s] k = ihas s k := fun s k => by unfold inI; simp
  rw [meet_iff ha hb]
  cases h : (kl a.f b.t && kl b.f a.t) with
  | true =>
    simp only [Bool.and_eq_true] at h
    obtain ⟨h1, h2⟩ := h
    refine ⟨⟨?_, fun u hu => (by cases hu), trivial⟩, fun k => ?_, fun s hs => ?_, by simp⟩
    · rw [smin_lt, Bool.and_eq_true]
      exact ⟨smax_lt hA h2, smax_lt h1 hB⟩
    · rw [if_pos rfl, hone, hone, hone]
      unfold wB ihas
      rw [smin_lt, smax_not]
      cases kl k a.f <;> cases kl k b.f <;> cases kl k a.t <;> cases kl k b.t <;> rfl
    · obtain rfl : s = ⟨smax a.f b.f, smin a.t b.t⟩ := by simpa using hs
      unfold smax smin
      constructor
      · simp only
        split
        · exact hkb.1
        · exact hka.1
      · simp only
        split
        · exact hka.2
        · exact hkb.2
  | false =>
    refine ⟨trivial, fun k => ?_, fun s hs => (by cases hs), by simp⟩
    show false = _
    rw [hone, hone]
    unfold wB ihas
    cases h1 : kl a.f b.t with
    | true =>
      rw [h1] at h
      have h2 : kl b.f a.t = false := by simpa using h
      cases h3 : kl k a.t with
      | false => simp
      | true =>
        rw [kl_lt_le h3 h2]
        simp
    | false =>
      cases h3 : kl k b.t with
      | false => simp
      | true =>
        rw [kl_lt_le h3 h1]
        simp
theorem meet_comm (a b : Sn) (ha : chkS a = 0) (hb : chkS b = 0) : meetS b a = meetS a b := by
  rw [meet_iff ha hb, meet_iff hb ha, Bool.and_comm]
theorem kl_next (k x : ByteArray) : kl x (k ++ ⟨#[0]⟩) = !kl k x := by
  have e : (k ++ (⟨#[0]⟩ : ByteArray)).toList = k.toList ++ [0] := by
    rw [Lib.toList_data, Lib.toList_data, ByteArray.data_append, Array.toList_append]
  have h : ∀ l m : List UInt8, Op.bytesLess m (l ++ [0]) = !Op.bytesLess l m := by
    intro l
    induction l with
    | nil =>
      intro m
      cases m with
      | nil => rfl
      | cons b m =>
        simp only [List.nil_append, Op.bytesLess]
        have h0 : decide (b < (0 : UInt8)) = false := decide_eq_false (fun h => by
          have := UInt8.lt_iff_toNat_lt.1 h
          simp at this)
        rw [h0]
        cases m <;> simp [Op.bytesLess]
    | cons a l ih =>
      intro m
      cases m with
      | nil => rfl
      | cons b m =>
        simp only [List.cons_append, Op.bytesLess]
        rw [ih m]
        by_cases h1 : a < b
        · have h2 : ¬ b < a := fun h => absurd (UInt8.lt_trans h1 h) (UInt8.lt_irrefl _)
          have h3 : (b == a) = false := beq_eq_false_iff_ne.2 (fun e => by subst e; exact absurd h1 (UInt8.lt_irrefl _))
          simp [h1, h2, h3]
        · by_cases h2 : b < a
          · have h3 : (a == b) = false := beq_eq_false_iff_ne.2 (fun e => by subst e; exact absurd h2 (UInt8.lt_irrefl _))
            simp [h1, h2, h3]
          · have h3 : a = b := UInt8.le_antisymm (UInt8.not_lt.1 h2) (UInt8.not_lt.1 h1)
            subst h3
            simp [h1]
  unfold kl
  rw [e]
  exact h _ _
theorem of_may {k : ByteArray} (h : k.size ≤ 32) : chkS (ofS k) = 0 := by
  refine chkS_ok ?_ ?_ ?_
  · show kl k (k ++ ⟨#[0]⟩) = true
    rw [kl_next, kl_irr]
    rfl
  · show k.size ≤ 33
    omega
  · show (k ++ (⟨#[0]⟩ : ByteArray)).size ≤ 33
    rw [ByteArray.size_append]
    have : (⟨#[0]⟩ : ByteArray).size = 1 := rfl
    omega
theorem meet_of {a : Sn} {k : ByteArray} (ha : chkS a = 0) (h : k.size ≤ 32) : meetS a (ofS k) = hasS a k := by
  rw [meet_iff ha (of_may h), hasS_may ha]
  unfold ihas
  show (kl a.f (k ++ ⟨#[0]⟩) && kl k a.t) = _
  rw [kl_next]
theorem has_of {k : ByteArray} (h : k.size ≤ 32) : hasS (ofS k) k = true := by
  rw [hasS_may (of_may h)]
  unfold ihas
  show (!kl k k && kl k (k ++ ⟨#[0]⟩)) = true
  rw [kl_next, kl_irr]
  rfl
end Go.Proofs.Ytdpdokgbockmbaa
