/-
  What stands for what in order: keys with marks, by the order of bytes.
-/
import Derived.Test.YtiafmbfeigcinaaDoorLWCellKinds
set_option linter.unusedVariables false
set_option linter.unusedSimpArgs false
set_option maxRecDepth 100000
namespace Go.Proofs.YtiafmbfeigcinaaDoor
open Go.RowKit

theorem cmp3 : ∀ l m : List UInt8, (Lib.compareBytes l m = -1 ∧ Op.bytesLess l m = true ∧ (l == m) = false) ∨ (Lib.compareBytes l m = 0 ∧ Op.bytesLess l m = false ∧ (l == m) = true) ∨ (Lib.compareBytes l m = 1 ∧ Op.bytesLess l m = false ∧ (l == m) = false)
  | [], [] => Or.inr (Or.inl ⟨rfl, rfl, rfl⟩)
  | [], _ :: _ => Or.inl ⟨rfl, rfl, rfl⟩
  | _ :: _, [] => Or.inr (Or.inr ⟨rfl, rfl, rfl⟩)
  | a :: x, b :: y => by
    rw [Lib.compareBytes, Op.bytesLess]
    by_cases h : a < b
    · refine Or.inl ⟨by rw [if_pos h], by simp [h], ?_⟩
      have : a ≠ b := fun e => by rw [e] at h; exact UInt8.lt_irrefl _ h
      simp [this]
    · by_cases h2 : b < a
      · refine Or.inr (Or.inr ⟨by rw [if_neg h, if_pos h2], ?_, ?_⟩)
        · have : a ≠ b := fun e => by rw [e] at h2; exact UInt8.lt_irrefl _ h2
          simp [h, this]
        · have : a ≠ b := fun e => by rw [e] at h2; exact UInt8.lt_irrefl _ h2
          simp [this]
      · have e : a = b := UInt8.le_antisymm (UInt8.not_lt.1 h2) (UInt8.not_lt.1 h)
        subst e
        rw [if_neg h, if_neg h]
        rcases cmp3 x y with ⟨h1, h2, h3⟩ | ⟨h1, h2, h3⟩ | ⟨h1, h2, h3⟩
        · exact Or.inl ⟨h1, by simp [h, h2], by simpa using h3⟩
        · exact Or.inr (Or.inl ⟨h1, by simp [h, h2], by simpa using h3⟩)
        · exact Or.inr (Or.inr ⟨h1, by simp [h, h2], by simpa using h3⟩)
theorem odown_cmp (a b c d : Int) (h : may a b = true) (h' : may c d = true) :
    Lib.compareBytes (odown a b) (odown c d) = if c < a ∨ (a = c ∧ d < b) then -1 else if a = c ∧ b = d then 0 else 1 := by
  obtain ⟨h1, h2, h3, h4⟩ := of_decide_eq_true h
  obtain ⟨k1, k2, k3, k4⟩ := of_decide_eq_true h'
  unfold odown
  rw [cmp_app _ _ _ _ (by rw [wide_len, wide_len]), cmp_wide 6 _ _ (by omega) (by omega), cmp_wide 3 _ _ (by omega) (by omega)]
  unfold cmpI
  repeat' split
  all_goals first | rfl | omega
theorem cmp_mark (m : UInt8) (s t x y : List UInt8) : Lib.compareBytes (m :: (okey s ++ x)) (m :: (okey t ++ y)) = if Lib.compareBytes s t = 0 then Lib.compareBytes x y else Lib.compareBytes s t := by
  rw [cmp_same]
  have h := cmp_okey s t x y
  unfold okey
  simpa using h
/-- Two texts by their order: less and the same as the walk asks. -/
theorem ord3 (s t : ByteArray) (c : Int) (h : Lib.compareBytes (sb s) (sb t) = c) :
    (c = -1 ∧ Op.bytesLess s.toList t.toList = true ∧ (s.toList == t.toList) = false) ∨ (c = 0 ∧ s = t) ∨ (c = 1 ∧ Op.bytesLess s.toList t.toList = false ∧ (s.toList == t.toList) = false) := by
  subst h
  rw [Lib.toList_data, Lib.toList_data]
  rcases cmp3 (sb s) (sb t) with h | ⟨h1, h2, h3⟩ | h
  · exact Or.inl h
  · exact Or.inr (Or.inl ⟨h1, tb_inj (by simpa using h3)⟩)
  · exact Or.inr (Or.inr h)
theorem less_self (s : ByteArray) : Op.bytesLess s.toList s.toList = false := by
  rcases cmp3 s.toList s.toList with ⟨_, _, h⟩ | ⟨_, h, _⟩ | ⟨_, _, h⟩
  · simp at h
  · exact h
  · simp at h
end Go.Proofs.YtiafmbfeigcinaaDoor
