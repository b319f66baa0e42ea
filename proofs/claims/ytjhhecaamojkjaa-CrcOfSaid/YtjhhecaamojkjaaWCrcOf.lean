/-
  CrcOf: the walk.
-/
import Derived.Test.YtjhhecaamojkjaaCWorks
set_option linter.unusedVariables false
namespace Go.Proofs.Ytjhhecaamojkjaa
open Go.RowKit

set_option maxHeartbeats 1000000 in
theorem crcOf_walk (A : Option Addr) (n c : Nat) (xs : List UInt8) (w : World) (hx : At w A n xs) (hnc : n ≤ c) (hk : c ≤ 140737488351232) (hz : A = none → c = 0) :
    Calls Try.prog 3 #[.slice A n c] w fun e w' => e = .returned (.bool true) ∧ Below w.heap.size w w' := by
  go_enter Try.func3, Try.ntmps3
  go_wp2_with fail
  refine (copyBytes A n c xs _ hx (by omega)).mono ?_
  rintro e w1 ⟨v, rfl, hown, hb1⟩
  obtain ⟨A1, c1, rfl, hat1, _, _, _⟩ := hown.form
  have hn := hx.1
  rw [hn] at hat1 ⊢
  have hx1 := hx.below' hb1
  clear hown
  go_wp2_with fail
  refine (of_ A1 n c1 xs _ hat1 (by omega)).mono ?_
  rintro e w2 ⟨rfl, hb2⟩
  have hat2 := hat1.below' hb2
  have hx2 := hx1.below' hb2
  have hB2 : Below w.heap.size w w2 := hb1.trans (hb2.mono hb1.size)
  clear hb1 hb2
  go_wp2_with fail
  refine (refOf A n c xs _ hx2 (by omega)).mono ?_
  rintro e w3 ⟨rfl, rfl⟩
  generalize N (crcOf xs) = m
  have hxx : (xs == xs) = true := beq_self_eq_true _
  go_wp2_with fail
  refine (eqBytes A1 A n n c1 c xs xs _ hat2 hx2 (by omega)).mono ?_
  rintro e w4 ⟨rfl, j, rfl⟩
  rw [hxx]
  have hB4 := below_drewN hB2 j
  go_wp2_with fail
  refine (works _).mono ?_
  rintro e w5 ⟨rfl, hb5⟩
  have hB5 := hB4.trans (hb5.mono hB4.size)
  clear hb5
  go_wp2
  go_ret
  exact ⟨rfl, hB5⟩
end Go.Proofs.Ytjhhecaamojkjaa
