/-
  Layer 4, plain: records of bytes: written, read, cut, turned: no program.
  Layer 4, plain: a number is read from the first eight bytes as from all of them.
  What an object's calls leave as it was.
-/
import Derived.Test.YtamglegdgcehaaaGreatZ01
import Derived.Test.YtamglegdgcehaaaGreatZ04
import Derived.Laws.OwnMore
set_option linter.unusedVariables false
namespace Go.Proofs.YtamglegdgcehaaaGreat

/-! ### four bytes, the highest first -/

def be4 (s : BitVec 32) : List UInt8 := [UInt8.ofNat (s.toNat / 16777216), UInt8.ofNat (s.toNat / 65536), UInt8.ofNat (s.toNat / 256), UInt8.ofNat s.toNat]
theorem be4_len (s : BitVec 32) : (be4 s).length = 4 := rfl
theorem be4_inj {s t : BitVec 32} (h : be4 s = be4 t) : s = t := by
  unfold be4 at h
  simp only [List.cons.injEq, and_true] at h
  obtain ⟨h1, h2, h3, h4⟩ := h
  apply BitVec.eq_of_toNat_eq
  have a1 := congrArg UInt8.toNat h1
  have a2 := congrArg UInt8.toNat h2
  have a3 := congrArg UInt8.toNat h3
  have a4 := congrArg UInt8.toNat h4
  simp only [UInt8.toNat_ofNat'] at a1 a2 a3 a4
  have := s.isLt
  have := t.isLt
  omega
theorem be4_surj (l : List UInt8) (h : l.length = 4) : ∃ s, l = be4 s := by
  match l, h with
  | [a, b, c, d], _ =>
    refine ⟨BitVec.ofNat 32 (a.toNat * 16777216 + b.toNat * 65536 + c.toNat * 256 + d.toNat), ?_⟩
    have ha := a.toNat_lt
    have hb := b.toNat_lt
    have hc := c.toNat_lt
    have hd := d.toNat_lt
    unfold be4
    rw [BitVec.toNat_ofNat, Nat.mod_eq_of_lt (by omega)]
    simp only [List.cons.injEq, and_true]
    refine ⟨?_, ?_, ?_, ?_⟩ <;> (apply UInt8.toNat_inj.1; rw [UInt8.toNat_ofNat']; omega)

theorem be4_byte (t : BitVec 32) (q r : Nat) (hq : q < 4) (hr : r < 8) : bitAt (be4 t) (8 * q + r) = t.toNat.testBit (8 * (3 - q) + (7 - r)) := by
  have e : ∀ n k : Nat, (UInt8.ofNat (n / 2 ^ k)).toNat.testBit (7 - r) = n.testBit (k + (7 - r)) := by
    intro n k
    rw [UInt8.toNat_ofNat', Nat.testBit_mod_two_pow, Nat.testBit_div_two_pow, decide_eq_true (by omega), Bool.true_and]
    congr 1
    omega
  unfold bitAt
  rw [show (8 * q + r) / 8 = q from by omega, show (8 * q + r) % 8 = r from by omega]
  have e0 : (UInt8.ofNat t.toNat).toNat.testBit (7 - r) = t.toNat.testBit (7 - r) := by
    have := e t.toNat 0
    simpa using this
  match q, hq with
  | 0, _ => exact e t.toNat 24
  | 1, _ => exact e t.toNat 16
  | 2, _ => exact e t.toNat 8
  | 3, _ =>
    show (UInt8.ofNat t.toNat).toNat.testBit (7 - r) = _
    rw [e0]
    congr 1
    omega

theorem word_get : ∀ (bs : List Bool) (i : Nat), bs.length ≤ 32 → i < 32 → (word bs).getLsbD i = (bs[31 - i]?).getD false
  | [], i, _, _ => by simp [word]
  | b :: bs, i, hl, hi => by
    simp only [List.length_cons] at hl
    rw [word, BitVec.getLsbD_xor, BitVec.getLsbD_ushiftRight]
    by_cases h : i = 31
    · subst h
      have : (tb b).getLsbD 31 = b := by cases b <;> decide
      rw [this, BitVec.getLsbD_of_ge _ _ (by omega)]
      simp
    · rw [tb_low b i (by omega), word_get bs (1 + i) (by omega) (by omega), show 31 - i = (31 - (1 + i)) + 1 from by omega, List.getElem?_cons_succ]
      simp

theorem word_be4 (t : BitVec 32) : word (bits (be4 t)) = t := by
  apply BitVec.eq_of_getLsbD_eq
  intro i hi
  have hl : (bits (be4 t)).length = 32 := by rw [bits_range, List.length_map, List.length_range, be4_len]
  rw [word_get _ i (by omega) hi, bits_range, be4_len, List.getElem?_map, List.getElem?_range (by omega)]
  have h := be4_byte t ((31 - i) / 8) ((31 - i) % 8) (by omega) (Nat.mod_lt _ (by decide))
  rw [show 8 * ((31 - i) / 8) + (31 - i) % 8 = 31 - i from by omega, show 8 * (3 - (31 - i) / 8) + (7 - (31 - i) % 8) = i from by omega] at h
  exact h

/-- Four bytes taken in. -/
theorem take_be4 (s t : BitVec 32) : (be4 t).foldl takeB s = stps 32 (s ^^^ t) := by
  have hl : (bits (be4 t)).length = 32 := by rw [bits_range, List.length_map, List.length_range, be4_len]
  rw [fold_bytes, fold_bits _ _ (by omega), word_be4, hl]

/-- What the sum of bytes with their own sum behind them is: whatever they are. -/
def fullSum : BitVec 32 := ~~~ (stps 32 (BitVec.allOnes 32))
theorem not_xor_eq {a b : BitVec 32} : ~~~ a ^^^ b = BitVec.allOnes 32 ↔ a = b := by
  constructor
  · intro h
    have h2 : a ^^^ b = 0#32 := by
      have := congrArg (fun x => x ^^^ BitVec.allOnes 32) h
      simp only [BitVec.xor_self] at this
      rw [← BitVec.xor_allOnes, BitVec.xor_assoc, BitVec.xor_comm b, BitVec.xor_assoc, ← BitVec.xor_assoc, ← BitVec.xor_assoc] at this
      simpa [BitVec.xor_assoc] using this
    exact xor_eq_zero' h2
  · rintro rfl
    apply BitVec.eq_of_getLsbD_eq
    intro i hi
    rw [BitVec.getLsbD_xor, BitVec.getLsbD_not, BitVec.getLsbD_allOnes]
    cases a.getLsbD i <;> simp only [hi, decide_true, Bool.not_true, Bool.not_false, Bool.and_false, Bool.and_true] <;> rfl
theorem crcOf_app_sum (h : List UInt8) (t : BitVec 32) : crcOf (h ++ be4 t) = fullSum ↔ t = crcOf h := by
  unfold crcOf crcAdd fullSum
  rw [List.foldl_append, take_be4]
  constructor
  · intro e
    have e1 := stps_inj 32 (not_inj e)
    have e2 := not_xor_eq.1 ((congrArg (fun x => x) (by rw [BitVec.not_not]; exact e1)) : ~~~ ~~~ _ ^^^ t = _)
    exact e2.symm
  · intro e
    congr 2
    have := (not_xor_eq (a := ~~~ List.foldl takeB (~~~ 0#32) h) (b := t)).2 e.symm
    rwa [BitVec.not_not] at this

/-! ### records -/

/-- A record. -/
def fr (l : List UInt8) : List UInt8 := enc l.length ++ l ++ be4 (crcOf (enc l.length ++ l))
theorem fr_len (l : List UInt8) : (fr l).length = (enc l.length).length + l.length + 4 := by
  unfold fr
  rw [List.length_append, List.length_append, be4_len]
theorem fr_sum (l : List UInt8) : crcOf (fr l) = fullSum := (crcOf_app_sum _ _).2 rfl

/-- What Next tells: the payload, the size, the error. -/
def nx (b : List UInt8) : List UInt8 × Nat × Nat :=
  if (tk b).2.2 ≠ 0 then ([], 0, (tk b).2.2)
  else if 65536 < (tk b).1 then ([], 0, 5)
  else if (tk b).2.1.length < (tk b).1 + 4 then ([], 0, 3)
  else if (b.drop (b.length - (tk b).2.1.length + (tk b).1)).take 4 ≠ be4 (crcOf (b.take (b.length - (tk b).2.1.length + (tk b).1))) then ([], 0, 40)
  else ((tk b).2.1.take (tk b).1, b.length - (tk b).2.1.length + (tk b).1 + 4, 0)

/-- A record that stands at the beginning is told. -/
theorem nx_fr (l r : List UInt8) (h : l.length ≤ 65536) : nx (fr l ++ r) = (l, (fr l).length, 0) := by
  have ht : tk (fr l ++ r) = (l.length, l ++ (be4 (crcOf (enc l.length ++ l)) ++ r), 0) := by
    unfold fr
    rw [List.append_assoc, List.append_assoc, tk_enc _ _ (by omega)]
  have hlen : (fr l ++ r).length - (l ++ (be4 (crcOf (enc l.length ++ l)) ++ r)).length + l.length = (enc l.length ++ l).length := by
    simp only [List.length_append, fr_len, be4_len]
    omega
  unfold nx
  rw [ht]
  simp only [ne_eq, not_true_eq_false, if_false, hlen]
  have e : fr l ++ r = (enc l.length ++ l) ++ (be4 (crcOf (enc l.length ++ l)) ++ r) := by unfold fr; rw [List.append_assoc]
  rw [if_neg (by omega), if_neg (by simp only [List.length_append, be4_len]; omega)]
  rw [e, List.drop_left, List.take_left, List.take_left' (be4_len _)]
  rw [if_neg (by simp), List.take_left]
  congr 2
  rw [fr_len, List.length_append]

/-- What is told is a record that stands at the beginning. -/
theorem nx_ok {b p : List UInt8} {n : Nat} (h : nx b = (p, n, 0)) : p.length ≤ 65536 ∧ n = (fr p).length ∧ ∃ r, b = fr p ++ r := by
  rcases tk_cases b with ht | ht | ⟨l, rest, hb, h1, h2, h3, ht⟩
  · unfold nx at h
    rw [ht] at h
    simp at h
  · unfold nx at h
    rw [ht] at h
    simp at h
  · have hb' : b = enc (val l) ++ rest := by
      unfold enc
      rw [digs_val l h2, hb]
      rfl
    unfold nx at h
    rw [ht] at h
    simp only [ne_eq, not_true_eq_false, if_false] at h
    by_cases g1 : 65536 < val l
    · rw [if_pos g1] at h; simp at h
    · rw [if_neg g1] at h
      by_cases g2 : rest.length < val l + 4
      · rw [if_pos g2] at h; simp at h
      · rw [if_neg g2] at h
        have hlen : b.length - rest.length + val l = (enc (val l) ++ rest.take (val l)).length := by
          rw [hb', List.length_append, List.length_append, List.length_take]
          omega
        have hsplit : b = (enc (val l) ++ rest.take (val l)) ++ ((rest.drop (val l)).take 4 ++ rest.drop (val l + 4)) := by
          rw [hb', List.append_assoc, ← List.drop_drop, List.take_append_drop, List.take_append_drop]
        rw [hlen] at h
        have hx4 : ((rest.drop (val l)).take 4).length = 4 := by rw [List.length_take, List.length_drop]; omega
        have d1 : (b.drop (enc (val l) ++ rest.take (val l)).length).take 4 = (rest.drop (val l)).take 4 := by
          rw [hsplit, List.drop_left, List.take_left' hx4]
        have d2 : b.take (enc (val l) ++ rest.take (val l)).length = enc (val l) ++ rest.take (val l) := by
          rw [hsplit, List.take_left]
        rw [d1, d2] at h
        by_cases g3 : (rest.drop (val l)).take 4 = be4 (crcOf (enc (val l) ++ rest.take (val l)))
        · rw [if_neg (by simpa using g3)] at h
          injection h with e1 e2
          injection e2 with e2 e3
          have hpl : p.length = val l := by rw [← e1, List.length_take]; omega
          have hfr : fr p = (enc (val l) ++ rest.take (val l)) ++ (rest.drop (val l)).take 4 := by
            unfold fr
            rw [hpl, ← e1, g3]
          refine ⟨by omega, ?_, rest.drop (val l + 4), ?_⟩
          · rw [hfr, List.length_append, hx4]
            omega
          · rw [hfr, List.append_assoc]
            exact hsplit
        · rw [if_pos (by simpa using g3)] at h
          simp at h

theorem nx_err {b p : List UInt8} {n e : Nat} (h : nx b = (p, n, e)) (he : e ≠ 0) : p = [] ∧ n = 0 := by
  unfold nx at h
  repeat' split at h
  all_goals (injection h with e1 e2; injection e2 with e2 e3)
  all_goals first | exact ⟨e1.symm, e2.symm⟩ | exact absurd e3.symm he

/-- Cut anywhere, a record ends too early. -/
theorem tk_cutF (n k : Nat) (h : n ≤ 9007199254740991) (hk : k < (enc n).length) : tk ((enc n).take k) = (0, [], 3) := by
  have hl := digs_len7 n h
  cases k with
  | zero => rfl
  | succ k =>
    unfold enc at hk ⊢
    rw [List.length_cons] at hk
    rw [List.take_succ_cons]
    unfold tk
    have hc : (UInt8.ofNat (digs n).length).toNat = (digs n).length := by rw [UInt8.toNat_ofNat']; omega
    simp only [hc]
    rw [if_neg (by omega), if_pos (by rw [List.length_take]; omega)]
theorem nx_cut (l : List UInt8) (k : Nat) (h : l.length ≤ 65536) (hk : k < (fr l).length) : nx ((fr l).take k) = ([], 0, 3) := by
  rw [fr_len] at hk
  by_cases h1 : k < (enc l.length).length
  · have e : (fr l).take k = (enc l.length).take k := by
      unfold fr
      rw [List.append_assoc, List.take_append_of_le_length (by omega)]
    unfold nx
    rw [e, tk_cutF _ _ (by omega) h1]
    rfl
  · have e : (fr l).take k = enc l.length ++ (l ++ be4 (crcOf (enc l.length ++ l))).take (k - (enc l.length).length) := by
      unfold fr
      rw [List.append_assoc, List.take_append, List.take_of_length_le (by omega)]
    unfold nx
    rw [e, tk_enc _ _ (by omega)]
    simp only [ne_eq, not_true_eq_false, if_false]
    rw [if_neg (by omega), if_pos]
    rw [List.length_take, List.length_append, be4_len]
    omega

/-- What All tells. -/
theorem nx_size {b p : List UInt8} {n : Nat} (h : nx b = (p, n, 0)) : 0 < n ∧ n ≤ b.length := by
  obtain ⟨_, hn, r, hb⟩ := nx_ok h
  rw [hn]
  refine ⟨by rw [fr_len]; omega, ?_⟩
  rw [hb, List.length_append]
  omega
def alls (b : List UInt8) : List (List UInt8) :=
  if h : (nx b).2.2 = 0 then (nx b).1 :: alls (b.drop (nx b).2.1) else []
termination_by b.length
decreasing_by
  have hs := nx_size (b := b) (p := (nx b).1) (n := (nx b).2.1) (by rw [← h])
  rw [List.length_drop]
  omega
theorem alls_ok {b p : List UInt8} {n : Nat} (h : nx b = (p, n, 0)) : alls b = p :: alls (b.drop n) := by
  rw [alls, dif_pos (by rw [h]), h]
theorem alls_no {b p : List UInt8} {n e : Nat} (h : nx b = (p, n, e)) (he : e ≠ 0) : alls b = [] := by
  rw [alls, dif_neg (by rw [h]; exact he)]
theorem alls_recs : ∀ (ls : List (List UInt8)) (r : List UInt8) (_ : ∀ l ∈ ls, l.length ≤ 65536), alls ((ls.map fr).flatten ++ r) = ls ++ alls r
  | [], r, _ => rfl
  | l :: ls, r, h => by
    have hl := h l (by simp)
    rw [List.map_cons, List.flatten_cons, List.append_assoc, alls_ok (nx_fr l _ hl), List.drop_left, alls_recs ls r (fun x hx => h x (by simp [hx]))]
    rfl

/-- A record with one bit turned, or up to 32 of them within 32, has another sum than all records have. -/
theorem fr_burst (l c : List UInt8) (a m w : Nat) (hl : (fr l).length = c.length) (hat : a + m ≤ 8 * (fr l).length) (hm : m ≤ 32)
    (h : ∀ j, j < 8 * (fr l).length → (bitAt (fr l) j ^^ bitAt c j) = (decide (a ≤ j ∧ j < a + m) && w.testBit (j - a))) :
    crcOf c = fullSum ↔ ∀ i, i < m → w.testBit i = false := by
  rw [← turned (fr l) c a m w hl hat hm h, fr_sum]
  exact ⟨fun e => e.symm, fun e => e.symm⟩
/-- Whole bytes behind a number that fits them: the sum alone decides. -/
theorem nx_header (n : Nat) (y : List UInt8) (hn : n ≤ 65536) (hy : y.length = n + 4) :
    nx (enc n ++ y) = if crcOf (enc n ++ y) = fullSum then (y.take n, (enc n ++ y).length, 0) else ([], 0, 40) := by
  have h4 : (y.drop n).length = 4 := by rw [List.length_drop]; omega
  obtain ⟨t, ht⟩ := be4_surj _ h4
  have hlen : (enc n ++ y).length - y.length + n = (enc n ++ y.take n).length := by
    rw [List.length_append, List.length_append, List.length_take]
    omega
  have hs : enc n ++ y = (enc n ++ y.take n) ++ be4 t := by rw [List.append_assoc, ← ht, List.take_append_drop]
  have d1 : ((enc n ++ y).drop (enc n ++ y.take n).length).take 4 = be4 t := by
    rw [hs, List.drop_left, List.take_of_length_le (by rw [be4_len]; omega)]
  have d2 : (enc n ++ y).take (enc n ++ y.take n).length = enc n ++ y.take n := by
    rw [hs, List.take_left]
  unfold nx
  rw [tk_enc _ _ (by omega)]
  simp only [ne_eq, not_true_eq_false, if_false]
  rw [if_neg (by omega), if_neg (by omega), hlen, d1, d2]
  have hc := crcOf_app_sum (enc n ++ y.take n) t
  rw [← hs] at hc
  by_cases h : crcOf (enc n ++ y) = fullSum
  · rw [if_pos h, if_neg (by rw [hc.1 h]; simp)]
    congr 2
    rw [hs]
    simp only [List.length_append, be4_len]
  · rw [if_neg h, if_pos]
    intro e
    exact h (hc.2 (be4_inj e))

/-- Bytes of a record's length with another sum are not told as a record of that length. -/
theorem nx_full {c p : List UInt8} (h : nx c = (p, c.length, 0)) : crcOf c = fullSum := by
  obtain ⟨_, hn, r, hc⟩ := nx_ok h
  have hr : r = [] := by
    have := congrArg List.length hc
    rw [List.length_append] at this
    exact List.eq_nil_of_length_eq_zero (by omega)
  rw [hc, hr, List.append_nil]
  exact fr_sum p
end Go.Proofs.YtamglegdgcehaaaGreat
set_option linter.unusedVariables false
namespace Go.Proofs.YtamglegdgcehaaaGreat

theorem tk_take8 {b rest : List UInt8} {v x : Nat} (ht : tk b = (v, rest, x)) :
    ∃ r, tk (b.take 8) = (v, r, x) ∧ r.length ≤ (b.take 8).length ∧ rest.length ≤ b.length ∧ v ≤ 9007199254740991 ∧ (x = 0 → rest = b.drop (b.length - rest.length) ∧ (b.take 8).length - r.length = b.length - rest.length ∧ 1 ≤ b.length - rest.length ∧ b.length - rest.length ≤ 8) := by
  rcases tk_cases b with h | h | ⟨l, s, hb, hl, hh, hv, h⟩
  · rw [h] at ht
    injection ht with e1 e2
    injection e2 with e2 e3
    subst e1 e2 e3
    refine ⟨[], ?_, by simp, by simp, by omega, fun h0 => by omega⟩
    cases b with
    | nil => rfl
    | cons c r =>
      unfold tk at h ⊢
      simp only [List.take_succ_cons] at h ⊢
      split at h
      · simp at h
      · rename_i h7
        rw [if_neg h7]
        split at h
        · rw [if_pos (by rw [List.length_take]; omega)]
        · split at h
          · simp at h
          · split at h <;> simp at h
  · rw [h] at ht
    injection ht with e1 e2
    injection e2 with e2 e3
    subst e1 e2 e3
    refine ⟨[], ?_, by simp, by simp, by omega, fun h0 => by omega⟩
    cases b with
    | nil => cases h
    | cons c r =>
      unfold tk at h ⊢
      simp only [List.take_succ_cons] at h ⊢
      split at h
      · rename_i h7
        rw [if_pos h7]
      · rename_i h7
        rw [if_neg h7]
        split at h
        · simp at h
        · rename_i h2
          rw [if_neg (by rw [List.length_take]; omega)]
          have hd : (r.take 7).head? = r.head? := by cases r <;> rfl
          have tt : (r.take 7).take c.toNat = r.take c.toNat := by rw [List.take_take, Nat.min_eq_left (by omega)]
          rw [hd, tt]
          split at h
          · rename_i h3
            rw [if_pos h3]
          · rename_i h3
            rw [if_neg h3]
            split at h
            · rename_i h4
              rw [if_pos h4]
            · simp at h
  · rw [h] at ht
    injection ht with e1 e2
    injection e2 with e2 e3
    subst e1 e2 e3
    have e : b.take 8 = UInt8.ofNat l.length :: (l ++ s.take (7 - l.length)) := by
      rw [hb, List.take_succ_cons, List.take_append, List.take_of_length_le hl]
    have h9 : b.length - s.length = 1 + l.length := by rw [hb]; simp; omega
    have h10 : s = b.drop (b.length - s.length) := by rw [h9, hb, Nat.add_comm, List.drop_succ_cons, List.drop_left]
    refine ⟨s.take (7 - l.length), ?_, by rw [e]; simp; omega, by rw [hb]; simp; omega, hv, fun _ => ⟨h10, by rw [e, hb]; simp; omega, by rw [hb]; simp; omega, by rw [hb]; simp; omega⟩⟩
    have he : enc (val l) = UInt8.ofNat l.length :: l := by
      unfold enc
      rw [digs_val l hh]
    rw [e, ← List.cons_append, ← he]
    exact tk_enc _ _ hv
end Go.Proofs.YtamglegdgcehaaaGreat
set_option linter.unusedVariables false
namespace Go.Proofs.YtamglegdgcehaaaGreat
open Go.RowKit

abbrev pt (g : Nat) : Value := .pointer (some ⟨g, 0, none⟩)

/-! ### an object's blocks -/
def nF (F : Nat → Prop) (V V' : World) : Nat → Prop := fun k => F k ∨ (V.heap.size ≤ k ∧ k < V'.heap.size)
/-- Only the blocks of F, and new ones, have changed. -/
structure Grow (F : Nat → Prop) (V V' : World) : Prop where
  os : V'.os = V.os
  tape : V'.tape = V.tape
  output : V'.output = V.output
  size : V.heap.size ≤ V'.heap.size
  block : ∀ k, k < V.heap.size → ¬ F k → V'.heap[k]? = V.heap[k]?
section
variable {F G : Nat → Prop} {V V1 V2 w : World} {B : Nat}
theorem Grow.refl (F : Nat → Prop) (V : World) : Grow F V V := ⟨rfl, rfl, rfl, Nat.le_refl _, fun _ _ _ => rfl⟩
theorem Grow.of_below (h : Below V.heap.size V V1) : Grow F V V1 := ⟨h.os, h.tape, h.output, h.size, fun k hk _ => h.block k hk⟩
theorem Grow.trans (h : Grow F V V1) (h2 : Grow (nF F V V1) V1 V2) : Grow F V V2 :=
  ⟨h2.os.trans h.os, h2.tape.trans h.tape, h2.output.trans h.output, Nat.le_trans h.size h2.size, fun k hk hn =>
    (h2.block k (Nat.lt_of_lt_of_le hk h.size) (fun e => e.elim hn (fun e => by omega))).trans (h.block k hk hn)⟩
theorem Grow.mono (h : Grow F V V1) (hs : ∀ k, F k → G k) : Grow G V V1 := ⟨h.os, h.tape, h.output, h.size, fun k hk hn => h.block k hk (fun e => hn (hs k e))⟩
theorem Grow.set (h : Grow F V V1) {p : Addr} (hp : F p.block ∨ V.heap.size ≤ p.block) (u : Value) : Grow F V (V1.setCell p u) :=
  ⟨h.os, h.tape, h.output, by rw [World.setCell]; simp only [Array.size_modify]; exact h.size, fun k hk hn => by
    simp only [World.setCell, Array.getElem?_modify]
    rw [if_neg (fun e => by rcases hp with hp | hp; exact hn (e ▸ hp); omega)]
    exact h.block k hk hn⟩
theorem Grow.drewN (h : Grow F V V1) (n : Nat) : Grow F V (V1.drewN n) := ⟨h.os, h.tape, h.output, h.size, h.block⟩
theorem Grow.below (hb : Below B w V) (hB : B ≤ V.heap.size) (hF : ∀ k, F k → B ≤ k) (h : Grow F V V1) : Below B w V1 :=
  ⟨h.os.trans hb.os, h.tape.trans hb.tape, h.output.trans hb.output, Nat.le_trans hb.size h.size, fun k hk => (h.block k (by omega) (fun e => by have := hF k e; omega)).trans (hb.block k hk)⟩
theorem Grow.by_ {r : Option Nat} (h : V.grownBy V1 r) (hr : ∀ k, r = some k → F k) : Grow F V V1 := ⟨h.os, h.tape, h.output, h.size, fun k hk hn => h.block k hk (fun e => hn (hr k e.symm))⟩
theorem nF_trans (h : V.heap.size ≤ V1.heap.size) (h2 : V1.heap.size ≤ V2.heap.size) : nF (nF F V V1) V1 V2 = nF F V V2 := by
  funext k
  unfold nF
  refine propext ⟨fun e => ?_, fun e => ?_⟩
  · rcases e with (e | e) | e
    · exact .inl e
    · exact .inr (by omega)
    · exact .inr (by omega)
  · rcases e with e | e
    · exact .inl (.inl e)
    · by_cases hk : k < V1.heap.size
      · exact .inl (.inr ⟨e.1, hk⟩)
      · exact .inr ⟨by omega, e.2⟩
end

/-- What a call makes of an object. -/
def Turns {S : Type} (R : World → Nat → S → (Nat → Prop) → Prop) (V : World) (g : Nat) (F : Nat → Prop) (D' : S) (V' : World) : Prop := R V' g D' (nF F V V') ∧ Grow F V V'
theorem Turns.trans {S : Type} {R : World → Nat → S → (Nat → Prop) → Prop} {V V1 V2 : World} {g : Nat} {F : Nat → Prop} {D1 D2 : S} (h : Grow F V V1) (h2 : Turns R V1 g (nF F V V1) D2 V2) : Turns R V g F D2 V2 :=
  ⟨nF_trans h.size h2.2.size ▸ h2.1, h.trans h2.2⟩

theorem nbl (V : World) (o : Obj) : Below V.heap.size V (V.alloc o) := (Below.refl _ _).alloc (Nat.le_refl _) o
theorem bst {X V Y : World} (h : Below X.heap.size X V) (hb : Below V.heap.size V Y) : Below X.heap.size X Y := h.trans (hb.mono h.size)
theorem bsa {X V : World} (h : Below X.heap.size X V) (o : Obj) : Below X.heap.size X (V.alloc o) := h.alloc h.size o
def InF (F : Nat → Prop) (A : Option Addr) : Prop := ∀ a, A = some a → F a.block
end Go.Proofs.YtamglegdgcehaaaGreat
