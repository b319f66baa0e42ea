/-
  Contracts of the takers in one form each; a row of bytes that is one's own, read and written.
-/
import Derived.Test.YtiakoaipehmdhaaWorks
set_option linter.unusedVariables false
namespace Go.Proofs.Ytiakoaipehmdhaa
open Go.RowKit

def NumP (w : World) (v : Nat) (rest : List UInt8) (x : Nat) (e : Ending) (w' : World) : Prop :=
  ∃ A m c, e = .returned (.tuple #[.int .i64 v, .slice A m c, .int .i64 x]) ∧ Own w' w.heap.size (.slice A m c) rest ∧ m ≤ c ∧ c ≤ 9223372036854775807 ∧ Below w.heap.size w w'

def StrP (w : World) (t rest : List UInt8) (x : Nat) (e : Ending) (w' : World) : Prop :=
  ∃ A m c, e = .returned (.tuple #[str_ t, .slice A m c, .int .i64 x]) ∧ Own w' w.heap.size (.slice A m c) rest ∧ m ≤ c ∧ c ≤ 9223372036854775807 ∧ Below w.heap.size w w'

/-- What TakeStr tells, of any number. -/
def tsx (b : List UInt8) (most : Int) : List UInt8 × List UInt8 × Nat := if most < 0 then ([], [], 2) else ts b most

theorem takeNum_any (A : Option Addr) (n c : Nat) (b rest : List UInt8) (v x : Nat) (w : World) (hx : At w A n b) (hnc : n ≤ c) (hc : c ≤ 9223372036854775807) (hn : n ≤ 225000000000000) (ht : tk b = (v, rest, x)) :
    Calls Try.prog 19 #[.slice A n c] w (NumP w v rest x) := by
  refine (takeNum A n c b rest v x w hx hnc hc hn ht).mono ?_
  rintro e w' ⟨r, rfl, hown, hb⟩
  obtain ⟨A', c', rfl, _, h2, h3, _⟩ := hown.form
  exact ⟨A', _, c', rfl, hown, h2, h3, hb⟩
theorem refTakeNum_any (A : Option Addr) (n c : Nat) (b rest : List UInt8) (v x : Nat) (w : World) (hx : At w A n b) (hnc : n ≤ c) (hc : c ≤ 9223372036854775807) (hn : n ≤ 225000000000000) (ht : tk b = (v, rest, x)) :
    Calls Try.prog 20 #[.slice A n c] w (NumP w v rest x) := by
  refine (refTakeNum A n c b w hx hnc hc hn).mono ?_
  rintro e w' ⟨r, rfl, hown, hb⟩
  rw [ht] at hown ⊢
  obtain ⟨A', c', rfl, _, h2, h3, _⟩ := hown.form
  exact ⟨A', _, c', rfl, hown, h2, h3, hb⟩
theorem takeStr_any (A : Option Addr) (n c : Nat) (most : Int) (b t rest : List UInt8) (x : Nat) (w : World) (hx : At w A n b) (hnc : n ≤ c) (hc : c ≤ 9223372036854775807) (hn : n ≤ 225000000000000) (ht : tsx b most = (t, rest, x)) :
    Calls Try.prog 21 #[.slice A n c, .int .i64 most] w (StrP w t rest x) := by
  by_cases hm : most < 0
  · unfold tsx at ht
    rw [if_pos hm] at ht
    cases ht
    refine (takeStr_neg A n c most w hm).mono ?_
    rintro e w' ⟨rfl, rfl⟩
    exact ⟨none, 0, 0, rfl, World.ownsRow_nil _ _ _ _, Nat.le_refl _, by omega, Below.refl _ _⟩
  · unfold tsx at ht
    rw [if_neg hm] at ht
    refine (takeStr A n c most b w hx hnc hc hn (by omega)).mono ?_
    rintro e w' ⟨r, rfl, hown, hb⟩
    rw [ht] at hown ⊢
    obtain ⟨A', c', rfl, _, h2, h3, _⟩ := hown.form
    exact ⟨A', _, c', rfl, hown, h2, h3, hb⟩
theorem refTakeStr_any (A : Option Addr) (n c : Nat) (most : Int) (b t rest : List UInt8) (x : Nat) (w : World) (hx : At w A n b) (hnc : n ≤ c) (hc : c ≤ 9223372036854775807) (hn : n ≤ 225000000000000) (ht : tsx b most = (t, rest, x)) :
    Calls Try.prog 22 #[.slice A n c, .int .i64 most] w (StrP w t rest x) := by
  by_cases hm : most < 0
  · unfold tsx at ht
    rw [if_pos hm] at ht
    cases ht
    refine (refTakeStr_neg A n c most w hm).mono ?_
    rintro e w' ⟨rfl, rfl⟩
    exact ⟨none, 0, 0, rfl, World.ownsRow_nil _ _ _ _, Nat.le_refl _, by omega, Below.refl _ _⟩
  · unfold tsx at ht
    rw [if_neg hm] at ht
    refine (refTakeStr A n c most b w hx hnc hc hn (by omega)).mono ?_
    rintro e w' ⟨r, rfl, hown, hb⟩
    rw [ht] at hown ⊢
    obtain ⟨A', c', rfl, _, h2, h3, _⟩ := hown.form
    exact ⟨A', _, c', rfl, hown, h2, h3, hb⟩

theorem ts_rest (b : List UInt8) (most : Int) : (ts b most).2.1.length ≤ b.length := by
  have h := tk_rest b
  unfold ts
  rcases htk : tk b with ⟨v, rest, x⟩
  rw [htk] at h
  simp only at h ⊢
  split
  · simp
  · split
    · simp
    · split
      · simp
      · simp; omega
theorem tsx_rest (b : List UInt8) (most : Int) : (tsx b most).2.1.length ≤ b.length := by
  unfold tsx
  split
  · simp
  · exact ts_rest b most

/-- What Str leaves. -/
def StrQ (w : World) (l : List UInt8) (x : Nat) (e : Ending) (w' : World) : Prop :=
  ∃ A m c, e = .returned (.tuple #[.slice A m c, .int .i64 x]) ∧ Own w' w.heap.size (.slice A m c) l ∧ m ≤ c ∧ c ≤ 9223372036854775807 ∧ Below w.heap.size w w'

def sx (s : ByteArray) (most : Int) : List UInt8 × Nat := if most < 0 then ([], 2) else if most < s.size then ([], 5) else (enc s.size ++ sb s, 0)

theorem str_any (s : ByteArray) (most : Int) (l : List UInt8) (x : Nat) (w : World) (hs : s.size ≤ 140737488351232) (h : sx s most = (l, x)) :
    Calls Try.prog 23 #[.string s, .int .i64 most] w (StrQ w l x) := by
  unfold sx at h
  by_cases h1 : most < 0
  · rw [if_pos h1] at h
    cases h
    refine (str_neg s most w h1).mono ?_
    rintro e w' ⟨rfl, rfl⟩
    exact ⟨none, 0, 0, rfl, World.ownsRow_nil _ _ _ _, Nat.le_refl _, by omega, Below.refl _ _⟩
  · rw [if_neg h1] at h
    by_cases h2 : most < s.size
    · rw [if_pos h2] at h
      cases h
      refine (str_long s most w (by omega) h2).mono ?_
      rintro e w' ⟨rfl, rfl⟩
      exact ⟨none, 0, 0, rfl, World.ownsRow_nil _ _ _ _, Nat.le_refl _, by omega, Below.refl _ _⟩
    · rw [if_neg h2] at h
      cases h
      refine (str s most w (by omega) hs).mono ?_
      rintro e w' ⟨v, rfl, hown, hb⟩
      obtain ⟨A', c', rfl, _, h5, h6, _⟩ := hown.form
      exact ⟨A', _, c', rfl, hown, h5, h6, hb⟩

theorem cut5000 (s : ByteArray) : (s.extract 0 (min (s.size : Int) 5000).toNat).size ≤ 5000 := by
  rw [ByteArray.size_extract]
  omega

/-- What is read of a text as it was written. -/
theorem tsx_enc (s : ByteArray) (most : Int) (rest : List UInt8) (hs : s.size ≤ 9007199254740991) :
    tsx (enc s.size ++ (sb s ++ rest)) most = if most < 0 then ([], [], 2) else if most < s.size then ([], [], 5) else (sb s, rest, 0) := by
  unfold tsx
  split
  · rfl
  · unfold ts
    rw [tk_enc s.size _ hs]
    simp only
    rw [if_neg (by simp)]
    split
    · rfl
    · have hl := sb_len s
      rw [if_neg (by rw [List.length_append]; omega), List.take_left' hl, List.drop_left' hl]

theorem At.upto {w : World} {A : Option Addr} {n : Nat} {xs : List UInt8} (h : At w A n xs) (k : Nat) (hk : k ≤ n) : At w A k (xs.take k) := by
  have h1 := h.cut (l := 0) (k := k) (m := k) (Nat.zero_le _) hk (Nat.le_refl _)
  rw [cutA_zero] at h1
  simpa using h1

theorem tk_short' (c : UInt8) (r : List UInt8) (h : c.toNat ≤ 7) (h2 : r.length < c.toNat) : tk (c :: r) = (0, [], 3) := tk_short c r h h2

theorem tk_cut (n k : Nat) (hn : n ≤ 9007199254740991) (hk : k < (enc n).length) : tk ((enc n).take k) = (0, [], 3) := by
  have hl := digs_len7 n hn
  have hc : (UInt8.ofNat (digs n).length).toNat = (digs n).length := by rw [UInt8.toNat_ofNat']; omega
  cases k with
  | zero => rfl
  | succ k =>
    unfold enc at hk ⊢
    simp only [List.length_cons] at hk
    rw [List.take_succ_cons]
    exact tk_short _ _ (by omega) (by rw [List.length_take]; omega)

theorem tsx_cut (s : ByteArray) (k : Nat) (most : Int) (hs : s.size ≤ 9007199254740991) (hm : (s.size : Int) ≤ most) (hk : k < (enc s.size ++ sb s).length) : tsx ((enc s.size ++ sb s).take k) most = ([], [], 3) := by
  unfold tsx
  rw [if_neg (by omega)]
  by_cases h : k < (enc s.size).length
  · unfold ts
    rw [List.take_append_of_le_length (by omega), tk_cut _ _ hs h]
    simp
  · have e : (enc s.size ++ sb s).take k = enc s.size ++ (sb s).take (k - (enc s.size).length) := by
      rw [List.take_append, List.take_of_length_le (by omega)]
    unfold ts
    rw [e, tk_enc s.size _ hs]
    simp only
    rw [List.length_append, sb_len] at hk
    rw [if_neg (by simp), if_neg (by omega), if_pos (by rw [List.length_take, sb_len]; omega)]

/-- What Num leaves. -/
theorem num_any (n : Nat) (l : List UInt8) (w : World) (hn : n ≤ 9007199254740991) (hl : l = enc n) : Calls Try.prog 14 #[.int .i64 n] w (StrQ w l 0) := by
  subst hl
  refine (num n w hn).mono ?_
  rintro e w' ⟨v, rfl, hown, hb⟩
  obtain ⟨A', c', rfl, _, h5, h6, _⟩ := hown.form
  exact ⟨A', _, c', rfl, hown, h5, h6, hb⟩

theorem number_nat (n : Int) : ∃ k : Nat, n % 9007199254740992 = (k : Int) ∧ k ≤ 9007199254740991 := by
  have h1 := Int.emod_nonneg n (b := 9007199254740992) (by omega)
  have h2 := Int.emod_lt_of_pos n (b := 9007199254740992) (by omega)
  exact ⟨(n % 9007199254740992).toNat, by omega, by omega⟩
theorem bring_nat (n : Int) (m : Nat) (hm : 0 < m) : ∃ k : Nat, n % (m : Int) = (k : Int) ∧ k < m := by
  have h1 := Int.emod_nonneg n (b := (m : Int)) (by omega)
  have h2 := Int.emod_lt_of_pos n (b := (m : Int)) (by omega)
  exact ⟨(n % (m : Int)).toNat, by omega, by omega⟩
theorem bv_succ (u : UInt8) : Value.int .u8 (((u.toNat : Int) + 1) % 256) = bv (u + 1) := by
  unfold bv
  congr 1

theorem enc_pos (n : Nat) : 0 < (enc n).length := by simp [enc]

section
variable {w w' : World} {B g m c : Nat} {xs : List UInt8}
theorem Own.row (h : Own w B (.slice (some ⟨g, 0, none⟩) m c) xs) : w.ownsRow B 5 1 (.slice (some ⟨g, 0, none⟩) m c) m (xs.map bv) := by
  have hl := h.len
  unfold Own at h
  rw [hl] at h
  exact h
theorem Own.cell (h : Own w B (.slice (some ⟨g, 0, none⟩) m c) xs) (k : Nat) (hk : k < m) : w.cell? ⟨g, k, none⟩ = some (.int .u8 ((xs[k]'(by rw [h.len]; exact hk)).toNat : Int)) := by
  have hl := h.len
  have := h.row.cellAt k (by omega)
  rw [this, List.getElem?_map, List.getElem?_eq_getElem (by omega)]
  rfl
theorem Own.free (h : Own w B (.slice (some ⟨g, 0, none⟩) m c) xs) (k : Nat) : w.frozen? ⟨g, k, none⟩ = false := h.row.frozenAt k
theorem Own.set (h : Own w B (.slice (some ⟨g, 0, none⟩) m c) xs) (k : Nat) (y : UInt8) : Own (w.setCell ⟨g, k, none⟩ (bv y)) B (.slice (some ⟨g, 0, none⟩) m c) (xs.set k y) := by
  have h1 := (h.row.stored k (bv y)).1
  unfold Own
  rw [List.length_set, h.len, List.map_set]
  exact h1
theorem Own.far {v : Value} {p : Addr} (h : Own w B v xs) (hp : p.block < B) (u : Value) : Own (w.setCell p u) B v xs := ownsRow_setCell_below h hp u
theorem Own.below {v : Value} (h : Own w B v xs) (hb : Below w.heap.size w w') : Own w' B v xs :=
  World.ownsRow.kept h (row := none) ⟨hb.os, hb.tape, hb.output, hb.size, fun k hk _ => hb.block k hk⟩ (by
    cases hv : v.ownBlock with
    | none => exact .inl rfl
    | some q => exact .inr (by simp))
theorem Own.drewN {v : Value} (h : Own w B v xs) (k : Nat) : Own (w.drewN k) B v xs := h
theorem Own.some_ {A : Option Addr} (h : Own w B (.slice A m c) xs) (hm : 0 < m) : ∃ g, A = some ⟨g, 0, none⟩ ∧ B ≤ g ∧ g < w.heap.size := by
  obtain ⟨g, cap, hv, h1, h2⟩ := World.ownsRow.form h (by rw [h.len]; exact hm)
  injection hv with e _ _
  exact ⟨g, e, h1, h2⟩
end

end Go.Proofs.Ytiakoaipehmdhaa
