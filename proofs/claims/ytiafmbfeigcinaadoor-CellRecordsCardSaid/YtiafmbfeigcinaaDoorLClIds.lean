/-
  Layer 11, the code: the keys of records and versions; whose a key is.
-/
import Derived.Test.YtiafmbfeigcinaaDoorZ15
set_option linter.unusedVariables false
set_option linter.unusedSimpArgs false
set_option maxRecDepth 100000
namespace Go.Proofs.YtiafmbfeigcinaaDoor
open Go.RowKit

theorem rk_hit (m : UInt8) (k : ByteArray) (r : List UInt8) (h : isK k = true) : rk m (m :: okey (sb k) ++ r) = some (sb k, r) := by
  have hk := isK_iff.1 h
  have e : okey (sb k) ++ r = esc (sb k) ++ 0 :: 0 :: r := by unfold okey; simp
  unfold rk
  rw [if_pos (by rfl)]
  simp only [List.cons_append, List.drop_succ_cons, List.drop_zero]
  rw [e, tkey_okey (sb k) 1000 r (by rw [sb_len]; omega)]
  simp only
  rw [if_pos (by rw [sb_len]; exact hk)]
theorem rk_miss (m c : UInt8) (l : List UInt8) (h : c ≠ m) : rk m (c :: l) = none := by
  unfold rk
  rw [if_neg]
  intro e
  exact h (by simpa using e)
end Go.Proofs.YtiafmbfeigcinaaDoor
