/-
  Layer 2, plain: a text's bytes, what is taken of bytes, a number's bytes in a given width, their order: no program.
-/
import Derived.Lib.Replace
import Derived.Lib.Bytealg
set_option linter.unusedVariables false
namespace Go.Proofs.YtgccichmdddbpaaGreatDoor

/-- Each byte but 0 as it is; 0 as 0 1. -/
def esc : List UInt8 → List UInt8
  | [] => []
  | b :: t => if b = 0 then 0 :: 1 :: esc t else b :: esc t

def okey (s : List UInt8) : List UInt8 := esc s ++ [0, 0]

theorem esc_zero (t : List UInt8) : esc (0 :: t) = 0 :: 1 :: esc t := by rw [esc, if_pos rfl]
theorem esc_other {b : UInt8} (h : b ≠ 0) (t : List UInt8) : esc (b :: t) = b :: esc t := by rw [esc, if_neg h]

theorem esc_len : ∀ s : List UInt8, (esc s).length ≤ 2 * s.length
  | [] => by simp [esc]
  | b :: t => by
    have := esc_len t
    rw [esc]
    split <;> simp <;> omega

theorem esc_app : ∀ a b : List UInt8, esc (a ++ b) = esc a ++ esc b
  | [], b => rfl
  | x :: a, b => by
    have := esc_app a b
    by_cases h : x = 0
    · subst h; rw [List.cons_append, esc_zero, esc_zero, this]; rfl
    · rw [List.cons_append, esc_other h, esc_other h, this]; rfl

/-! ### strings.ReplaceAll(s, 0, 0 1) -/

theorem index_zero_hit (t : List UInt8) : Lib.index (0 :: t) [0] = 0 := by
  unfold Lib.index
  simp

theorem index_zero_other {b : UInt8} (h : b ≠ 0) (t : List UInt8) : Lib.index (b :: t) [0] = if Lib.index t [0] = -1 then -1 else Lib.index t [0] + 1 := by
  conv => lhs; unfold Lib.index
  have : (0 == b) = false := by rw [beq_eq_false_iff_ne]; exact fun e => h e.symm
  simp [List.isPrefixOf, this]

theorem count_zero_hit (t : List UInt8) : Lib.count (0 :: t) [0] = 1 + Lib.count t [0] := by
  have := Lib.count_hit (s := 0 :: t) (sub := [0]) (i := 0) (by simp) (index_zero_hit t)
  simpa using this

theorem count_zero_other {b : UInt8} (h : b ≠ 0) (t : List UInt8) : Lib.count (b :: t) [0] = Lib.count t [0] := by
  have hi := index_zero_other h t
  by_cases hm : Lib.index t [0] = -1
  · rw [if_pos hm] at hi
    rw [Lib.count_miss hi, Lib.count_miss hm]
  · rw [if_neg hm] at hi
    have hge := Lib.index_ge t [0]
    obtain ⟨i, hi'⟩ : ∃ i : Nat, Lib.index t [0] = i := ⟨(Lib.index t [0]).toNat, by omega⟩
    have h1 := Lib.count_hit (s := b :: t) (sub := [0]) (i := i + 1) (by simp) (by rw [hi, hi']; rfl)
    have h2 := Lib.count_hit (s := t) (sub := [0]) (i := i) (by simp) hi'
    rw [h1, h2]
    simp

theorem replaceK_esc : ∀ s : List UInt8, Lib.replaceK [0] [0, 1] (Lib.count s [0]) s = esc s
  | [] => rfl
  | b :: t => by
    have ih := replaceK_esc t
    by_cases h : b = 0
    · subst h
      rw [count_zero_hit, Nat.add_comm, Lib.replaceK_hit _ _ _ _ 0 (index_zero_hit t), esc_zero]
      simp [ih]
    · rw [count_zero_other h, esc_other h, ← ih]
      have hi := index_zero_other h t
      by_cases hm : Lib.index t [0] = -1
      · rw [Lib.count_miss hm]; rfl
      · rw [if_neg hm] at hi
        have hge := Lib.index_ge t [0]
        obtain ⟨i, hi'⟩ : ∃ i : Nat, Lib.index t [0] = i := ⟨(Lib.index t [0]).toNat, by omega⟩
        rw [Lib.count_hit (s := t) (sub := [0]) (i := i) (by simp) hi', Nat.add_comm]
        rw [Lib.replaceK_hit _ _ _ _ i hi', Lib.replaceK_hit _ _ _ _ (i + 1) (by rw [hi, hi']; rfl)]
        simp

theorem replaceAll_esc (s : List UInt8) : Lib.replaceAll s [0] [0, 1] = esc s := by
  unfold Lib.replaceAll Lib.replace
  rw [if_neg (by decide), Lib.replaceNum, if_pos (Or.inl (by decide)), replaceK_esc]

theorem count_zero_le : ∀ s : List UInt8, Lib.count s [0] ≤ s.length
  | [] => by simp [Lib.count, Lib.countFrom, Lib.index]
  | b :: t => by
    have := count_zero_le t
    by_cases h : b = 0
    · subst h; rw [count_zero_hit]; simp; omega
    · rw [count_zero_other h]; simp; omega

/-! ### what is taken -/

/-- What TakeKey takes off a beginning, if n bytes of text may still come: the error's number, or the text and what is behind. -/
def tkey : Nat → List UInt8 → Except Nat (List UInt8 × List UInt8)
  | _, [] => .error 3
  | n, [b] => if b = 0 then .error 3 else if n = 0 then .error 5 else .error 3
  | n, b :: c :: t =>
    if b = 0 then
      if c = 0 then .ok ([], t)
      else if c = 1 then (if n = 0 then .error 5 else (tkey (n - 1) t).map fun p => (0 :: p.1, p.2))
      else .error 4
    else if n = 0 then .error 5 else (tkey (n - 1) (c :: t)).map fun p => (b :: p.1, p.2)

theorem tkey_nil (n : Nat) : tkey n [] = .error 3 := by rw [tkey]
theorem tkey_zero (n : Nat) : tkey n [0] = .error 3 := by rw [tkey, if_pos rfl]
theorem tkey_end (n : Nat) (t : List UInt8) : tkey n (0 :: 0 :: t) = .ok ([], t) := by rw [tkey, if_pos rfl, if_pos rfl]
theorem tkey_bad (n : Nat) {c : UInt8} (h0 : c ≠ 0) (h1 : c ≠ 1) (t : List UInt8) : tkey n (0 :: c :: t) = .error 4 := by rw [tkey, if_pos rfl, if_neg h0, if_neg h1]
theorem tkey_esc (n : Nat) (t : List UInt8) : tkey n (0 :: 1 :: t) = if n = 0 then .error 5 else (tkey (n - 1) t).map fun p => (0 :: p.1, p.2) := by rw [tkey, if_pos rfl, if_neg (by decide), if_pos rfl]
theorem tkey_byte (n : Nat) {b : UInt8} (h : b ≠ 0) (t : List UInt8) : tkey n (b :: t) = if n = 0 then .error 5 else (tkey (n - 1) t).map fun p => (b :: p.1, p.2) := by
  cases t with
  | nil =>
    have e : tkey n [b] = if b = 0 then .error 3 else if n = 0 then .error 5 else .error 3 := by rw [tkey]
    rw [e, if_neg h, tkey_nil]
    rfl
  | cons c t => rw [tkey, if_neg h]

/-- What can be read is written so. -/
theorem tkey_back : ∀ (k : Nat) (t : List UInt8) (n : Nat) (s r : List UInt8), t.length ≤ k → tkey n t = .ok (s, r) → esc s ++ 0 :: 0 :: r = t ∧ s.length ≤ n
  | k, [], n, s, r, _, h => by rw [tkey_nil] at h; cases h
  | 0, b :: t, n, s, r, hk, h => by simp at hk
  | k + 1, b :: t, n, s, r, hk, h => by
    have step : ∀ (x : UInt8) (u : List UInt8), u.length ≤ k → (if n = 0 then Except.error 5 else (tkey (n - 1) u).map fun p => (x :: p.1, p.2)) = .ok (s, r) → ∃ s', s = x :: s' ∧ esc s' ++ 0 :: 0 :: r = u ∧ s.length ≤ n := by
      intro x u hu h
      by_cases hn : n = 0
      · rw [if_pos hn] at h; cases h
      · rw [if_neg hn] at h
        cases hq : tkey (n - 1) u with
        | error e => rw [hq] at h; cases h
        | ok p =>
          obtain ⟨s', r'⟩ := p
          rw [hq] at h
          injection h with h
          injection h with h1 h2
          subst h2
          have ih := tkey_back k u (n - 1) s' r' hu hq
          refine ⟨s', h1.symm, ih.1, ?_⟩
          rw [← h1]
          simp
          omega
    by_cases hb : b = 0
    · subst hb
      cases t with
      | nil => rw [tkey_zero] at h; cases h
      | cons c t =>
        by_cases hc : c = 0
        · subst hc
          rw [tkey_end] at h
          injection h with h
          injection h with h1 h2
          subst h1; subst h2
          exact ⟨rfl, Nat.zero_le _⟩
        · by_cases hc1 : c = 1
          · subst hc1
            rw [tkey_esc] at h
            obtain ⟨s', rfl, h1, h2⟩ := step 0 t (by simp at hk; omega) h
            rw [esc_zero]
            exact ⟨by rw [← h1]; rfl, h2⟩
          · rw [tkey_bad n hc hc1] at h; cases h
    · rw [tkey_byte n hb] at h
      obtain ⟨s', rfl, h1, h2⟩ := step b t (by simp at hk; omega) h
      rw [esc_other hb]
      exact ⟨by rw [← h1]; rfl, h2⟩

/-! ### their order -/

theorem u8_lt_iff (a b : UInt8) : a < b ↔ a.toNat < b.toNat := UInt8.lt_iff_toNat_lt
theorem zero_lt_of_ne {b : UInt8} (h : b ≠ 0) : (0 : UInt8) < b := by
  rw [u8_lt_iff]
  have : b.toNat ≠ 0 := fun e => h (UInt8.toNat_inj.1 (by simpa using e))
  simp; omega
theorem not_lt_zero (b : UInt8) : ¬ b < 0 := by rw [u8_lt_iff]; simp
theorem not_lt_self (b : UInt8) : ¬ b < b := by rw [u8_lt_iff]; omega

theorem cmp_same (a : UInt8) (x y : List UInt8) : Lib.compareBytes (a :: x) (a :: y) = Lib.compareBytes x y := by
  rw [Lib.compareBytes, if_neg (not_lt_self a), if_neg (not_lt_self a)]

/-- Texts stand as what is written of them does; behind the same text what follows decides. -/
theorem cmp_okey : ∀ (s t x y : List UInt8), Lib.compareBytes (esc s ++ 0 :: 0 :: x) (esc t ++ 0 :: 0 :: y) = if Lib.compareBytes s t = 0 then Lib.compareBytes x y else Lib.compareBytes s t
  | [], [], x, y => by
    show Lib.compareBytes (0 :: 0 :: x) (0 :: 0 :: y) = _
    rw [cmp_same, cmp_same, if_pos (by rfl)]
  | [], b :: t, x, y => by
    have e : Lib.compareBytes [] (b :: t) = -1 := rfl
    rw [e, if_neg (by decide)]
    by_cases hb : b = 0
    · subst hb
      rw [esc_zero]
      show Lib.compareBytes (0 :: 0 :: x) (0 :: 1 :: _) = _
      rw [cmp_same, Lib.compareBytes, if_pos (by decide)]
    · rw [esc_other hb]
      show Lib.compareBytes (0 :: 0 :: x) (b :: _) = _
      rw [Lib.compareBytes, if_pos (zero_lt_of_ne hb)]
  | a :: s, [], x, y => by
    have e : Lib.compareBytes (a :: s) [] = 1 := rfl
    rw [e, if_neg (by decide)]
    by_cases ha : a = 0
    · subst ha
      rw [esc_zero]
      show Lib.compareBytes (0 :: 1 :: _) (0 :: 0 :: y) = _
      rw [cmp_same, Lib.compareBytes, if_neg (by decide), if_pos (by decide)]
    · rw [esc_other ha]
      show Lib.compareBytes (a :: _) (0 :: 0 :: y) = _
      rw [Lib.compareBytes, if_neg (not_lt_zero a), if_pos (zero_lt_of_ne ha)]
  | a :: s, b :: t, x, y => by
    have ih := cmp_okey s t x y
    by_cases hab : a = b
    · subst hab
      rw [cmp_same]
      by_cases ha : a = 0
      · subst ha
        rw [esc_zero, esc_zero, List.cons_append, List.cons_append, List.cons_append, List.cons_append, cmp_same, cmp_same, ih]
      · rw [esc_other ha, esc_other ha, List.cons_append, List.cons_append, cmp_same, ih]
    · have key : ∀ (u v : List UInt8), Lib.compareBytes (a :: u) (b :: v) = if a < b then -1 else 1 := by
        intro u v
        rw [Lib.compareBytes]
        split
        · rfl
        · rename_i h
          rw [if_pos]
          rw [u8_lt_iff] at h ⊢
          have : a.toNat ≠ b.toNat := fun e => hab (UInt8.toNat_inj.1 e)
          omega
      have hne : Lib.compareBytes (a :: s) (b :: t) ≠ 0 := by rw [key]; split <;> decide
      rw [if_neg hne, key]
      by_cases ha : a = 0
      · subst ha
        rw [esc_zero, esc_other (fun h => hab h.symm)]
        exact key _ _
      · by_cases hb : b = 0
        · subst hb
          rw [esc_zero, esc_other ha]
          exact key _ _
        · rw [esc_other ha, esc_other hb]
          exact key _ _

theorem cmp_refl : ∀ s : List UInt8, Lib.compareBytes s s = 0
  | [] => rfl
  | a :: s => by rw [cmp_same]; exact cmp_refl s

theorem cmp_eq : ∀ s t : List UInt8, Lib.compareBytes s t = 0 → s = t
  | [], [], _ => rfl
  | [], _ :: _, h => by cases h
  | _ :: _, [], h => by cases h
  | a :: s, b :: t, h => by
    rw [Lib.compareBytes] at h
    split at h
    · cases h
    · split at h
      · cases h
      · rename_i h1 h2
        have : a = b := by
          apply UInt8.toNat_inj.1
          rw [u8_lt_iff] at h1 h2
          omega
        rw [this, cmp_eq s t h]

/-! ### a number's bytes, so many, the highest one first -/

def wide : Nat → Nat → List UInt8
  | 0, _ => []
  | k + 1, n => wide k (n / 256) ++ [UInt8.ofNat n]

def wval (l : List UInt8) : Nat := l.foldl (fun n b => n * 256 + b.toNat) 0

theorem wval_snoc (l : List UInt8) (b : UInt8) : wval (l ++ [b]) = wval l * 256 + b.toNat := by simp [wval]
theorem wide_len : ∀ k n, (wide k n).length = k
  | 0, _ => rfl
  | k + 1, n => by simp [wide, wide_len k]

theorem wval_wide : ∀ k n, n < 256 ^ k → wval (wide k n) = n
  | 0, n, h => by
    have : n = 0 := by simpa using h
    subst this; rfl
  | k + 1, n, h => by
    rw [Nat.pow_succ] at h
    rw [wide, wval_snoc, wval_wide k (n / 256) (by omega), UInt8.toNat_ofNat']
    omega

theorem wval_lt (l : List UInt8) : wval l < 256 ^ l.length := by
  rcases List.eq_nil_or_concat l with rfl | ⟨r, b, rfl⟩
  · simp [wval]
  · have ih := wval_lt r
    have hb := b.toNat_lt
    rw [List.concat_eq_append, wval_snoc, List.length_append, List.length_singleton, Nat.pow_succ]
    omega
termination_by l.length
decreasing_by subst_vars; simp

theorem wide_wval (l : List UInt8) : wide l.length (wval l) = l := by
  rcases List.eq_nil_or_concat l with rfl | ⟨r, b, rfl⟩
  · rfl
  · have ih := wide_wval r
    have hb := b.toNat_lt
    rw [List.concat_eq_append, List.length_append, List.length_singleton, wide, wval_snoc, show (wval r * 256 + b.toNat) / 256 = wval r from by omega, ih]
    congr 2
    apply UInt8.toNat_inj.1
    rw [UInt8.toNat_ofNat']
    omega
termination_by l.length
decreasing_by subst_vars; simp

theorem cmp_app : ∀ (a b x y : List UInt8), a.length = b.length → Lib.compareBytes (a ++ x) (b ++ y) = if Lib.compareBytes a b = 0 then Lib.compareBytes x y else Lib.compareBytes a b
  | [], [], x, y, _ => by simp [Lib.compareBytes]
  | [], _ :: _, _, _, h => by simp at h
  | _ :: _, [], _, _, h => by simp at h
  | a :: s, b :: t, x, y, h => by
    have ih := cmp_app s t x y (by simpa using h)
    rw [List.cons_append, List.cons_append, Lib.compareBytes, Lib.compareBytes, ih]
    split
    · rw [if_neg (by decide)]
    · split
      · rw [if_neg (by decide)]
      · rfl

def cmpI (x y : Int) : Int := if x < y then -1 else if y < x then 1 else 0

theorem cmp_one (a b : UInt8) : Lib.compareBytes [a] [b] = cmpI a.toNat b.toNat := by
  rw [Lib.compareBytes, cmpI]
  simp only [u8_lt_iff, Int.ofNat_lt]
  repeat' split
  all_goals first | rfl | omega

theorem cmp_wide : ∀ (k n m : Nat), n < 256 ^ k → m < 256 ^ k → Lib.compareBytes (wide k n) (wide k m) = cmpI n m
  | 0, n, m, hn, hm => by
    have h1 : n = 0 := by simpa using hn
    have h2 : m = 0 := by simpa using hm
    subst h1; subst h2; rfl
  | k + 1, n, m, hn, hm => by
    rw [Nat.pow_succ] at hn hm
    rw [wide, wide, cmp_app _ _ _ _ (by rw [wide_len, wide_len]), cmp_wide k (n / 256) (m / 256) (by omega) (by omega), cmp_one]
    rw [UInt8.toNat_ofNat', UInt8.toNat_ofNat']
    unfold cmpI
    repeat' split
    all_goals first | rfl | omega | (exfalso; omega)

end Go.Proofs.YtgccichmdddbpaaGreatDoor
