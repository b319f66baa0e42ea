/-
  Layer 4, plain: a number is read from the first eight bytes as from all of them.
-/
import Derived.Test.YthbegaknlhclpaaFMath
set_option linter.unusedVariables false
namespace Go.Proofs.Ythbegaknlhclpaa

theorem tk_take8 {b rest : List UInt8} {v x : Nat} (ht : tk b = (v, rest, x)) :
    ∃ r, tk (b.take 8) = (v, r, x) ∧ r.length ≤ (b.take 8).length ∧ rest.length ≤ b.length ∧ v ≤ 9007199254740991 ∧ (x = 0 → rest = b.drop (b.length - rest.length) ∧ (b.take 8).length - r.length = b.length - rest.length ∧ 1 ≤ b.length - rest.length ∧ b.length - rest.length ≤ 8) := by
  rcases tk_cases b with h | h | ⟨l, s, hb, hl, hh, hv, h⟩
  · rw [h] at ht
    injection ht with e1 e2
    injection e2 with e2 e3
    subst e1 e2 e3
    refine ⟨[], ?_, by simp, by simp, by omega, fun h0 => by omega⟩
    cases b with
    | nil => rfl
    | cons c r =>
      unfold tk at h ⊢
      simp only [List.take_succ_cons] at h ⊢
      split at h
      · simp at h
      · rename_i h7
        rw [if_neg h7]
        split at h
        · rw [if_pos (by rw [List.length_take]; omega)]
        · split at h
          · simp at h
          · split at h <;> simp at h
  · rw [h] at ht
    injection ht with e1 e2
    injection e2 with e2 e3
    subst e1 e2 e3
    refine ⟨[], ?_, by simp, by simp, by omega, fun h0 => by omega⟩
    cases b with
    | nil => cases h
    | cons c r =>
      unfold tk at h ⊢
      simp only [List.take_succ_cons] at h ⊢
      split at h
      · rename_i h7
        rw [if_pos h7]
      · rename_i h7
        rw [if_neg h7]
        split at h
        · simp at h
        · rename_i h2
          rw [if_neg (by rw [List.length_take]; omega)]
          have hd : (r.take 7).head? = r.head? := by cases r <;> rfl
          have tt : (r.take 7).take c.toNat = r.take c.toNat := by rw [List.take_take, Nat.min_eq_left (by omega)]
          rw [hd, tt]
          split at h
          · rename_i h3
            rw [if_pos h3]
          · rename_i h3
            rw [if_neg h3]
            split at h
            · rename_i h4
              rw [if_pos h4]
            · simp at h
  · rw [h] at ht
    injection ht with e1 e2
    injection e2 with e2 e3
    subst e1 e2 e3
    have e : b.take 8 = UInt8.ofNat l.length :: (l ++ s.take (7 - l.length)) := by
      rw [hb, List.take_succ_cons, List.take_append, List.take_of_length_le hl]
    have h9 : b.length - s.length = 1 + l.length := by rw [hb]; simp; omega
    have h10 : s = b.drop (b.length - s.length) := by rw [h9, hb, Nat.add_comm, List.drop_succ_cons, List.drop_left]
    refine ⟨s.take (7 - l.length), ?_, by rw [e]; simp; omega, by rw [hb]; simp; omega, hv, fun _ => ⟨h10, by rw [e, hb]; simp; omega, by rw [hb]; simp; omega, by rw [hb]; simp; omega⟩⟩
    have he : enc (val l) = UInt8.ofNat l.length :: l := by
      unfold enc
      rw [digs_val l hh]
    rw [e, ← List.cons_append, ← he]
    exact tk_enc _ _ hv
end Go.Proofs.Ythbegaknlhclpaa
