/-
  CrcByte: the walk.
-/
import Derived.Test.YtjhhecaamojkjaaCWorks
set_option linter.unusedVariables false
namespace Go.Proofs.Ytjhhecaamojkjaa
open Go.RowKit

theorem xor_eq_self {a b : UInt8} : a ^^^ b = a ↔ b = 0 := by
  constructor
  · intro h
    have : a ^^^ (a ^^^ b) = a ^^^ a := by rw [h]
    simpa [← UInt8.xor_assoc] using this
  · rintro rfl
    simp
theorem set_split (xs : List UInt8) (k : Nat) (h : k < xs.length) (y : UInt8) : xs = xs.take k ++ xs[k] :: xs.drop (k + 1) ∧ xs.set k y = xs.take k ++ y :: xs.drop (k + 1) := by
  refine ⟨?_, List.set_eq_take_append_cons_drop .. |>.trans (by rw [if_pos h])⟩
  rw [List.getElem_cons_drop, List.take_append_drop]
theorem byte_beq (xs : List UInt8) (k : Nat) (h : k < xs.length) (y : UInt8) : (N (crcOf xs) == N (crcOf (xs.set k (xs[k] ^^^ y)))) = ((y.toNat : Int) == 0) := by
  obtain ⟨e1, e2⟩ := set_split xs k h (xs[k] ^^^ y)
  have hc := crcOf_byte (xs.take k) (xs.drop (k + 1)) xs[k] (xs[k] ^^^ y)
  rw [← e1, ← e2] at hc
  rw [N_beq]
  by_cases hy : y = 0
  · rw [beq_iff_eq.2 (hc.2 (xor_eq_self.2 hy).symm), hy]
    rfl
  · rw [beq_eq_false_iff_ne.2 (fun e => hy (xor_eq_self.1 (hc.1 e).symm)), beq_eq_false_iff_ne.2]
    intro h0
    exact hy (UInt8.toNat_inj.1 (by show y.toNat = 0; omega))
theorem bv_xor (a b : UInt8) : Go.bits .xor .u8 (a.toNat : Int) (b.toNat : Int) = ((a ^^^ b).toNat : Int) := by
  rw [u8_xor_nat _ _ a.toNat_lt b.toNat_lt, UInt8.toNat_xor]

set_option maxHeartbeats 2000000 in
theorem crcByte_walk (A : Option Addr) (n c : Nat) (xs : List UInt8) (at_ : Int) (y : UInt8) (w : World) (hx : At w A n xs) (hnc : n ≤ c) (hk : c ≤ 140737488351232) (hz : A = none → c = 0)
    (hi : -9223372036854775808 ≤ at_ ∧ at_ ≤ 9223372036854775807) :
    Calls Try.prog 9 #[.slice A n c, .int .i64 at_, .int .u8 (y.toNat : Int)] w fun e w' => e = .returned (.bool true) ∧ Below w.heap.size w w' := by
  go_enter Try.func9, Try.ntmps9
  go_wp2_with fail
  refine (works _).mono ?_
  rintro e w1 ⟨rfl, hb1⟩
  have hx1 := hx.below' hb1
  by_cases hn0 : n = 0
  · subst hn0
    go_wp2
    go_ret
    exact ⟨rfl, hb1⟩
  · go_wp2_with fail
    refine (copyBytes A n c xs _ hx1 (by omega)).mono ?_
    rintro e w2 ⟨v, rfl, hown, hb2⟩
    obtain ⟨A1, c1, rfl, hat1, hc1, hc2, _⟩ := hown.form
    have hn := hx.1
    rw [hn] at hat1 hown hc1 ⊢
    obtain ⟨g, rfl, hg1, hg2⟩ := hown.some_ (by omega)
    have hB2 : Below w.heap.size w w2 := hb1.trans (hb2.mono hb1.size)
    have hx3 := fun (k : Nat) (u : Value) => hx1.below' (hb2.setCell (p := ⟨g, k, none⟩) hg1 u)
    have hgw : w.heap.size ≤ g := Nat.le_trans hb1.size hg1
    clear hb1 hb2
    go_wp2_with fail
    refine (bring at_ n _ (by omega) (by omega)).mono ?_
    rintro e w3 ⟨rfl, rfl⟩
    have m1 := Int.emod_nonneg at_ (b := n) (by omega)
    have m2 := Int.emod_lt_of_pos at_ (b := n) (by omega)
    obtain ⟨k, hkk⟩ := Int.eq_ofNat_of_zero_le m1
    rw [hkk] at m2 ⊢
    have hkn : k < n := by omega
    have hkx : k < xs.length := by omega
    have hq := byte_beq xs k hkx y
    have cA := hown.cell k hkn
    have fA := hown.free k
    have hS := hown.set k (xs[k] ^^^ y)
    have hX := bv_xor xs[k] y
    generalize hys : xs.set k (xs[k] ^^^ y) = ys at hq hS
    have hyl : ys.length = n := by rw [← hys, List.length_set, hn]
    generalize xs[k] = u at cA hX hS hys
    have hy3 := hS.at_
    have hx4 := hx3 k (bv (u ^^^ y))
    have hB4 := hB2.setCell (p := ⟨g, k, none⟩) hgw (bv (u ^^^ y))
    clear hkk m1 m2 hys hown hat1 hx3 hS hx hB2
    simp only [bv, UInt8.toNat_xor] at hy3 hx4 hB4
    go_wp2_with fail
    generalize w2.setCell ⟨g, k, none⟩ (Value.int IntKind.u8 ((u.toNat ^^^ y.toNat : Nat) : Int)) = w4 at hy3 hx4 hB4 ⊢
    refine (of_ A n c xs _ hx4 (by omega)).mono ?_
    rintro e w5 ⟨rfl, hb5⟩
    have hy5 := hy3.below' hb5
    have hB5 := hB4.trans (hb5.mono hB4.size)
    clear hb5 hy3 hx4 hB4
    go_wp2_with fail
    refine (of_ (some ⟨g, 0, none⟩) n c1 ys _ hy5 (by omega)).mono ?_
    rintro e w6 ⟨rfl, hb6⟩
    have hB6 := hB5.trans (hb6.mono hB5.size)
    clear hb6 hy5 hB5
    generalize N (crcOf xs) = m1 at hq
    generalize N (crcOf ys) = m2 at hq
    generalize (y.toNat : Int) = z at hq
    have hq' : ((m1 == m2) == (z == 0)) = true := by rw [hq]; simp
    clear hq
    go_wp2
    go_ret
    exact ⟨rfl, hB6⟩
end Go.Proofs.Ytjhhecaamojkjaa
