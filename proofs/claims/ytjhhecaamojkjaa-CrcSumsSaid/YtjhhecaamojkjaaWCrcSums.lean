/-
  CrcSums: the walk.
-/
import Derived.Test.YtjhhecaamojkjaaCWorks
set_option linter.unusedVariables false
namespace Go.Proofs.Ytjhhecaamojkjaa
open Go.RowKit

theorem add_beq (s t : BitVec 32) (xs : List UInt8) : (N (crcAdd s xs) == N (crcAdd t xs)) = (N s == N t) := by
  rw [N_beq, N_beq]
  by_cases h : s = t
  · subst h
    rw [beq_self_eq_true, beq_self_eq_true]
  · rw [beq_eq_false_iff_ne.2 h, beq_eq_false_iff_ne.2 (fun e => h (crcAdd_inj e))]

set_option maxHeartbeats 1000000 in
theorem crcSums_walk (s t : BitVec 32) (A : Option Addr) (n c : Nat) (xs : List UInt8) (w : World) (hx : At w A n xs) (hnc : n ≤ c) (hk : c ≤ 140737488351232) (hz : A = none → c = 0) :
    Calls Try.prog 8 #[.int .u32 (N s), .int .u32 (N t), .slice A n c] w fun e w' => e = .returned (.bool true) ∧ Below w.heap.size w w' := by
  go_enter Try.func8, Try.ntmps8
  go_wp2_with fail
  refine (works _).mono ?_
  rintro e w1 ⟨rfl, hb1⟩
  have hx1 := hx.below' hb1
  go_wp2_with fail
  refine (add s A n c xs _ hx1 (by omega)).mono ?_
  rintro e w2 ⟨rfl, hb2⟩
  have hx2 := hx1.below' hb2
  have hB2 : Below w.heap.size w w2 := hb1.trans (hb2.mono hb1.size)
  clear hb1 hb2
  go_wp2_with fail
  refine (add t A n c xs _ hx2 (by omega)).mono ?_
  rintro e w3 ⟨rfl, hb3⟩
  have hB3 := hB2.trans (hb3.mono hB2.size)
  clear hb3
  have hq := add_beq s t xs
  generalize N (crcAdd s xs) = m1 at hq
  generalize N (crcAdd t xs) = m2 at hq
  generalize N s = m3 at hq
  generalize N t = m4 at hq
  by_cases h : m3 = m4
  · have h1 : (m3 == m4) = true := by simpa using h
    rw [h1] at hq
    have hq' : m1 = m2 := by simpa using hq
    subst h
    subst hq'
    go_wp2
    go_ret
    exact ⟨rfl, hB3⟩
  · have h1 : (m3 == m4) = false := by simpa using h
    rw [h1] at hq
    have hq' : m1 ≠ m2 := by simpa using hq
    go_wp2
    go_ret
    exact ⟨rfl, hB3⟩
end Go.Proofs.Ytjhhecaamojkjaa
