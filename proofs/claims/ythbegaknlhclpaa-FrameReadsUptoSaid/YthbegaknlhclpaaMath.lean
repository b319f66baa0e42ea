/-
  Plain facts on numbers and their bytes: no program.
-/
import Derived.Test.YthbegaknlhclpaaBase
set_option linter.unusedVariables false
namespace Go.Proofs.Ythbegaknlhclpaa

/-- A number's bytes, the highest first, as few as can be. -/
def digs (n : Nat) : List UInt8 := if n = 0 then [] else digs (n / 256) ++ [UInt8.ofNat n]
termination_by n
decreasing_by omega

def val (l : List UInt8) : Nat := l.foldl (fun n b => n * 256 + b.toNat) 0

theorem val_nil : val [] = 0 := rfl
theorem val_snoc (l : List UInt8) (b : UInt8) : val (l ++ [b]) = val l * 256 + b.toNat := by simp [val]
theorem digs_zero : digs 0 = [] := by rw [digs]; rfl
theorem digs_pos (n : Nat) (h : 0 < n) : digs n = digs (n / 256) ++ [UInt8.ofNat n] := by rw [digs, if_neg (by omega)]
theorem digs_nil_iff (n : Nat) : digs n = [] ↔ n = 0 := by
  constructor
  · intro h
    rcases Nat.eq_zero_or_pos n with h0 | h0
    · exact h0
    · rw [digs_pos n h0] at h
      simp at h
  · rintro rfl
    exact digs_zero

theorem val_digs (n : Nat) : val (digs n) = n := by
  induction n using Nat.strongRecOn with
  | _ n ih =>
    rcases Nat.eq_zero_or_pos n with h0 | h0
    · subst h0; rw [digs_zero]; rfl
    · rw [digs_pos n h0, val_snoc, ih (n / 256) (by omega), UInt8.toNat_ofNat']
      omega

theorem val_lt (l : List UInt8) : val l < 256 ^ l.length := by
  rcases List.eq_nil_or_concat l with rfl | ⟨r, b, rfl⟩
  · simp [val]
  · have ih := val_lt r
    have hb := b.toNat_lt
    rw [List.concat_eq_append, val_snoc, List.length_append, List.length_singleton, Nat.pow_succ]
    omega
termination_by l.length
decreasing_by subst_vars; simp

theorem digs_len (n k : Nat) (h : n < 256 ^ k) : (digs n).length ≤ k := by
  induction k generalizing n with
  | zero => have : n = 0 := by simpa using h
            subst this; rw [digs_zero]; simp
  | succ k ih =>
    rcases Nat.eq_zero_or_pos n with h0 | h0
    · subst h0; rw [digs_zero]; simp
    · rw [digs_pos n h0, List.length_append, List.length_singleton]
      have := ih (n / 256) (by rw [Nat.pow_succ] at h; omega)
      omega

theorem digs_head (n : Nat) : (digs n).head? ≠ some 0 := by
  induction n using Nat.strongRecOn with
  | _ n ih =>
    rcases Nat.eq_zero_or_pos n with h0 | h0
    · subst h0; rw [digs_zero]; simp
    · rw [digs_pos n h0, List.head?_append]
      have := ih (n / 256) (by omega)
      cases hd : (digs (n / 256)).head? with
      | some b => rw [hd] at this; simpa using this
      | none =>
        have hz : n / 256 = 0 := (digs_nil_iff _).1 (by simpa using hd)
        simp only [Option.none_or, List.head?_cons, ne_eq, Option.some.injEq]
        intro h
        have := congrArg UInt8.toNat h
        rw [UInt8.toNat_ofNat'] at this
        simp at this
        omega

/-- Bytes without a nought ahead are those of what they come to. -/
theorem digs_val (l : List UInt8) (h : l.head? ≠ some 0) : digs (val l) = l := by
  rcases List.eq_nil_or_concat l with rfl | ⟨r, b, rfl⟩
  · simp [val, digs_zero]
  · rw [List.concat_eq_append] at h ⊢
    have hr : r.head? ≠ some 0 := by
      intro hh
      apply h
      rw [List.head?_append, hh]
      rfl
    have ih := digs_val r hr
    have hb := b.toNat_lt
    rw [val_snoc]
    have hpos : 0 < val r * 256 + b.toNat := by
      rcases Nat.eq_zero_or_pos (val r) with h0 | h0
      · rw [h0] at ih
        rw [digs_zero] at ih
        subst ih
        simp only [List.nil_append, List.head?_cons, ne_eq, Option.some.injEq] at h
        have : b.toNat ≠ 0 := fun hh => h (UInt8.toNat_inj.1 (by simpa using hh))
        omega
      · omega
    rw [digs_pos _ hpos, show (val r * 256 + b.toNat) / 256 = val r from by omega, ih]
    congr 2
    apply UInt8.toNat_inj.1
    rw [UInt8.toNat_ofNat']
    omega
termination_by l.length
decreasing_by subst_vars; simp

/-- What Num writes. -/
def enc (n : Nat) : List UInt8 := UInt8.ofNat (digs n).length :: digs n

theorem digs_len7 (n : Nat) (h : n ≤ 9007199254740991) : (digs n).length ≤ 7 := digs_len n 7 (by omega)
theorem enc_len (n : Nat) (h : n ≤ 9007199254740991) : (enc n).length ≤ 8 := by
  have := digs_len7 n h
  simp [enc]; omega

/-- What TakeNum takes: the number, what is left, the error. -/
def tk (b : List UInt8) : Nat × List UInt8 × Nat :=
  match b with
  | [] => (0, [], 3)
  | c :: r =>
    if 7 < c.toNat then (0, [], 4)
    else if r.length < c.toNat then (0, [], 3)
    else if 0 < c.toNat ∧ r.head? = some 0 then (0, [], 4)
    else if 9007199254740991 < val (r.take c.toNat) then (0, [], 4)
    else (val (r.take c.toNat), r.drop c.toNat, 0)

theorem tk_cases (b : List UInt8) : (tk b = (0, [], 3)) ∨ (tk b = (0, [], 4)) ∨
    ∃ l rest, b = UInt8.ofNat l.length :: (l ++ rest) ∧ l.length ≤ 7 ∧ l.head? ≠ some 0 ∧ val l ≤ 9007199254740991 ∧ tk b = (val l, rest, 0) := by
  cases b with
  | nil => exact .inl rfl
  | cons c r =>
    unfold tk
    simp only
    by_cases h1 : 7 < c.toNat
    · rw [if_pos h1]; exact .inr (.inl rfl)
    · rw [if_neg h1]
      by_cases h2 : r.length < c.toNat
      · rw [if_pos h2]; exact .inl rfl
      · rw [if_neg h2]
        by_cases h3 : 0 < c.toNat ∧ r.head? = some 0
        · rw [if_pos h3]; exact .inr (.inl rfl)
        · rw [if_neg h3]
          by_cases h4 : 9007199254740991 < val (r.take c.toNat)
          · rw [if_pos h4]; exact .inr (.inl rfl)
          · rw [if_neg h4]
            refine .inr (.inr ⟨r.take c.toNat, r.drop c.toNat, ?_, ?_, ?_, by omega, rfl⟩)
            · have hl : (r.take c.toNat).length = c.toNat := by rw [List.length_take]; omega
              rw [hl, List.take_append_drop]
              congr 1
              apply UInt8.toNat_inj.1
              rw [UInt8.toNat_ofNat']
              have := c.toNat_lt
              omega
            · rw [List.length_take]; omega
            · intro hh
              rcases Nat.eq_zero_or_pos c.toNat with h0 | h0
              · rw [h0] at hh; simp at hh
              · apply h3
                refine ⟨h0, ?_⟩
                rw [List.head?_take, if_neg (by omega)] at hh
                exact hh

/-- What was written is taken. -/
theorem tk_enc (n : Nat) (rest : List UInt8) (h : n ≤ 9007199254740991) : tk (enc n ++ rest) = (n, rest, 0) := by
  have hl := digs_len7 n h
  have hc : (UInt8.ofNat (digs n).length).toNat = (digs n).length := by rw [UInt8.toNat_ofNat']; omega
  unfold enc tk
  simp only [List.cons_append, hc]
  rw [if_neg (by omega), if_neg (by simp), if_neg, List.take_left', val_digs, if_neg (by omega), List.drop_left']
  · rfl
  · rfl
  · rintro ⟨h0, hh⟩
    rw [List.head?_append] at hh
    cases hd : (digs n).head? with
    | none => have : digs n = [] := by simpa using hd
              rw [this] at h0; simp at h0
    | some b => rw [hd] at hh
                have := digs_head n
                rw [hd] at this
                exact this (by simpa using hh)

end Go.Proofs.Ythbegaknlhclpaa
