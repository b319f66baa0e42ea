/-
  Layer 2: what the laws need of the plain words.
-/
import Derived.Test.YtcphhambckohbaaDoorOAny
set_option linter.unusedVariables false
namespace Go.Proofs.YtcphhambckohbaaDoor
open Go.RowKit

theorem may_of (a b : Int) : may (a % 1099511627777) (b % 1048576) = true := by
  unfold may
  apply decide_eq_true
  have h1 := Int.emod_nonneg a (b := 1099511627777) (by decide)
  have h2 := Int.emod_lt_of_pos a (b := 1099511627777) (by decide)
  have h3 := Int.emod_nonneg b (b := 1048576) (by decide)
  have h4 := Int.emod_lt_of_pos b (b := 1048576) (by decide)
  omega

/-- A stamp that was written is read as it was. -/
theorem tdown_odown (a b : Int) (l : List UInt8) (h : may a b = true) : tdown (odown a b ++ l) = .ok (a, b, l) := by
  obtain ⟨h1, h2, h3, h4⟩ := of_decide_eq_true h
  have e1 : (odown a b ++ l).take 6 = wide 6 (1099511627776 - a).toNat := by
    unfold odown
    rw [List.append_assoc, List.take_append_of_le_length (by rw [wide_len]; exact Nat.le_refl _), List.take_of_length_le (by rw [wide_len]; exact Nat.le_refl _)]
  have e2 : (odown a b ++ l).drop 6 = wide 3 (1048575 - b).toNat ++ l := by
    unfold odown
    rw [List.append_assoc, List.drop_append_of_le_length (by rw [wide_len]; exact Nat.le_refl _), List.drop_of_length_le (by rw [wide_len]; exact Nat.le_refl _), List.nil_append]
  have e3 : ((odown a b ++ l).drop 6).take 3 = wide 3 (1048575 - b).toNat := by
    rw [e2, List.take_append_of_le_length (by rw [wide_len]; exact Nat.le_refl _), List.take_of_length_le (by rw [wide_len]; exact Nat.le_refl _)]
  have e4 : (odown a b ++ l).drop 9 = l := by
    rw [List.drop_append_of_le_length (by rw [odown_len]; exact Nat.le_refl _), List.drop_of_length_le (by rw [odown_len]; exact Nat.le_refl _), List.nil_append]
  have v1 : wval (wide 6 (1099511627776 - a).toNat) = (1099511627776 - a).toNat := wval_wide _ _ (by omega)
  have v2 : wval (wide 3 (1048575 - b).toNat) = (1048575 - b).toNat := wval_wide _ _ (by omega)
  unfold tdown
  rw [e1, e3, e4, v1, v2, if_neg (by rw [List.length_append, odown_len]; omega)]
  have q1 : 1099511627776 - ((1099511627776 - a).toNat : Int) = a := by omega
  have q2 : 1048575 - ((1048575 - b).toNat : Int) = b := by omega
  rw [q1, q2, h]
  rfl

/-- What can be read is written so. -/
theorem odown_tdown (l r : List UInt8) (a b : Int) (h : tdown l = .ok (a, b, r)) : may a b = true ∧ odown a b ++ r = l := by
  unfold tdown at h
  by_cases h9 : l.length < 9
  · rw [if_pos h9] at h
    cases h
  · rw [if_neg h9] at h
    split at h
    · rename_i hm
      injection h with h
      injection h with h1 h
      injection h with h2 h3
      subst h1
      subst h2
      subst h3
      refine ⟨hm, ?_⟩
      have q1 : (1099511627776 - (1099511627776 - (wval (l.take 6) : Int))).toNat = wval (l.take 6) := by omega
      have q2 : (1048575 - (1048575 - (wval ((l.drop 6).take 3) : Int))).toNat = wval ((l.drop 6).take 3) := by omega
      have l1 : (l.take 6).length = 6 := by rw [List.length_take]; omega
      have l2 : ((l.drop 6).take 3).length = 3 := by rw [List.length_take, List.length_drop]; omega
      have w1 := wide_wval (l.take 6)
      have w2 := wide_wval ((l.drop 6).take 3)
      rw [l1] at w1
      rw [l2] at w2
      unfold odown
      rw [q1, q2, w1, w2]
      have e : l.drop 9 = (l.drop 6).drop 3 := by rw [List.drop_drop]
      rw [e, List.append_assoc, List.take_append_drop, List.take_append_drop]
    · cases h

theorem odown_cut (a b : Int) (k : Nat) (h : k < 9) : tdown ((odown a b).take k) = .error 3 := by
  unfold tdown
  rw [if_pos (by rw [List.length_take]; omega)]

theorem cut1000 (s : ByteArray) : (s.extract 0 (min (s.size : Int) 1000).toNat).size ≤ 1000 := by
  rw [ByteArray.size_extract]
  omega

theorem ba_app (x y : ByteArray) : sb (x ++ y) = sb x ++ sb y := by
  unfold sb
  rw [ByteArray.data_append, Array.toList_append]

end Go.Proofs.YtcphhambckohbaaDoor
