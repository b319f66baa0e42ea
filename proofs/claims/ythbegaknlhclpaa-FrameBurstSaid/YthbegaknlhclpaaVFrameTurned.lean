/-
  FrameTurned: the walk, over what the code's functions promise.
-/
import Derived.Test.YthbegaknlhclpaaFWorks
import Derived.Deep.Cut
import Derived.Deep.CutRange
set_option linter.unusedVariables false
namespace Go.Proofs.Ythbegaknlhclpaa
open Go.RowKit

theorem bit_low (x : UInt8) (r : Nat) (hr : r < 8) : Go.bits .xor .u8 (x.toNat : Int) (2 ^ r % 256) = ((x ^^^ bitByte (7 - r)).toNat : Int) := by
  have h : ∀ r : Fin 8, (2 : Int) ^ r.val % 256 = ((bitByte (7 - r.val)).toNat : Int) := by decide +kernel
  rw [h ⟨r, hr⟩, u8_xor_nat _ _ x.toNat_lt (bitByte (7 - r)).toNat_lt, UInt8.toNat_xor]

/-- A record with one bit turned is none of its length. -/
theorem turn_one {l p : List UInt8} {k sz e : Nat} {x : UInt8} (hk : k < 8 * (fr l).length) (hx : (fr l)[k / 8]? = some x)
    (h : nx ((fr l).set (k / 8) (x ^^^ bitByte (7 - k % 8))) = (p, sz, e)) : e ≠ 0 ∨ sz ≠ (fr l).length := by
  by_cases he : e = 0
  · refine .inr fun hs => ?_
    subst he
    have hl : (fr l).length = ((fr l).set (k / 8) (x ^^^ bitByte (7 - k % 8))).length := by rw [List.length_set]
    rw [hs, hl] at h
    have hf := nx_full h
    have hb := (fr_burst l _ (8 * (k / 8) + (7 - k % 8)) 1 1 hl (by omega) (by decide) (fun j hj => by
      rw [bitAt_set (fr l) _ _ j x (by omega) hx (by omega), ← Bool.xor_assoc, Bool.xor_self, Bool.false_xor]
      by_cases e : j = 8 * (k / 8) + (7 - k % 8)
      · rw [decide_eq_true e, decide_eq_true (by omega), show j - (8 * (k / 8) + (7 - k % 8)) = 0 from by omega]
        rfl
      · rw [decide_eq_false e, decide_eq_false (by omega)]
        rfl)).1 hf 0 (by decide)
    revert hb
    decide
  · exact .inl he

set_option maxHeartbeats 2000000 in
theorem frameTurned_w (hF : FrameOk) (hN : NextOk) (A : Option Addr) (n c : Nat) (xs : List UInt8) (bit : Int) (w : World) (hx : At w A n xs) (hnc : n ≤ c) (hk : c ≤ 140737488351232) (hz : A = none → c = 0)
    (hi : -9223372036854775808 ≤ bit ∧ bit ≤ 9223372036854775807) :
    Calls Try.prog 7 #[.slice A n c, .int .i64 bit] w fun e w' => e = .returned (.bool true) ∧ Below w.heap.size w w' := by
  have HW := Lib.hid (works hF hN)
  obtain ⟨q, hq⟩ : ∃ q : Nat, q = min n 2000 := ⟨_, rfl⟩
  go_enter Try.func7, Try.ntmps7
  go_wp2_with fail
  refine (HW.out _).mono ?_
  rintro e1 w1 ⟨rfl, hb1⟩
  have hcut := (hx.below' hb1).cut (l := 0) (k := q) (m := c) (by omega) (by omega) (by omega)
  simp only [cutA_zero, Nat.sub_zero, List.drop_zero] at hcut
  generalize xs.take q = d at hcut
  have hdl := hcut.1
  clear hx HW
  have HQ := Lib.hid (show (min (n : Int) 2000).toNat = q by omega)
  have HC := Lib.hid (hF A q c d w1 hcut (by omega) (by omega) (by omega))
  have hq2 : q ≤ 2000 := by omega
  have hqc : q ≤ c := by omega
  clear hcut hq hF
  go_wp2_with fail
  rw [HQ.out]
  refine HC.out.mono ?_
  rintro e2 w2 ⟨v2, rfl, hown2, hb2⟩
  rw [if_neg (by omega)] at hown2 ⊢
  have hfl := fr_len d
  have hel := enc_len d.length (by omega)
  have he1 : 1 ≤ (enc d.length).length := by unfold enc; simp
  obtain ⟨A2, c2, rfl, _, h21, h22, _⟩ := hown2.form
  obtain ⟨g, rfl, hg, _⟩ := hown2.some_ (by omega)
  have hB2 := hb1.trans (hb2.mono hb1.size)
  have hgw : w.heap.size ≤ g := Nat.le_trans hb1.size hg
  obtain ⟨L, hL⟩ : ∃ L, (fr d).length = L := ⟨_, rfl⟩
  rw [hL] at hown2 h21 hfl ⊢
  have hLb : L ≤ 2012 := by omega
  have hLp : 5 ≤ L := by omega
  have HT := Lib.hid (fun k p sz e x (h1 : k < 8 * L) h2 h3 => turn_one (l := d) (p := p) (sz := sz) (e := e) (x := x) (k := k) (by rw [hL]; exact h1) h2 h3)
  have HL := Lib.hid hL
  clear hb1 hb2 hfl hel he1 hL HC HQ
  go_wp2_with fail
  refine (bring bit (8 * L) _ (by omega) (by omega)).mono ?_
  rintro e3 w3 ⟨rfl, rfl⟩
  have m1 := Int.emod_nonneg bit (b := 8 * L) (by omega)
  have m2 := Int.emod_lt_of_pos bit (b := 8 * L) (by omega)
  obtain ⟨k, hkk⟩ := Int.eq_ofNat_of_zero_le m1
  rw [hkk] at m2 ⊢
  have hkL : k < 8 * L := by omega
  have hkp : k / 8 < L := by omega
  obtain ⟨x, hcx, x1⟩ : ∃ x, (fr d)[k / 8]? = some x ∧ w2.cell? ⟨g, k / 8, none⟩ = some (.int .u8 (x.toNat : Int)) := by
    have hl := HL.out
    exact ⟨(fr d)[k / 8]'(by omega), by simp [hl, hkp], hown2.cell _ hkp⟩
  have x2 := hown2.free (k / 8)
  have hX := bit_low x (k % 8) (Nat.mod_lt _ (by decide))
  have hO1 := hown2.set (k / 8) (x ^^^ bitByte (7 - k % 8))
  obtain ⟨p, sz, e, hn⟩ : ∃ p sz e, nx ((fr d).set (k / 8) (x ^^^ bitByte (7 - k % 8))) = (p, sz, e) := ⟨_, _, _, rfl⟩
  have hres := HT.out k p sz e x hkL hcx hn
  have HNX := Lib.hid (fun W h => hN (some ⟨g, 0, none⟩) L c2 _ p sz e W h h21 h22 (by omega) hn)
  have hB3 := hB2.setCell (p := ⟨g, k / 8, none⟩) hgw (bv (x ^^^ bitByte (7 - k % 8)))
  rw [HL.out] at hres
  generalize (fr d).set (k / 8) (x ^^^ bitByte (7 - k % 8)) = ys at hO1 HNX
  generalize x ^^^ bitByte (7 - k % 8) = y at hX hO1 hB3
  have HO1 := Lib.hid hO1
  have HB3 := Lib.hid hB3
  have HRES := Lib.hid hres
  clear hkk m1 m2 hown2 hB2 hcx hn hO1 hB3 hN HT HL hres
  go_wp2_with fail
  go_region
  all_goals go_wp2_with fail
  have hA4 : At (w2.setCell ⟨g, k / 8, none⟩ (.int .u8 (y.toNat : Int))).drew (some ⟨g, 0, none⟩) L ys := HO1.out.at_
  have hB3' : Below w.heap.size w (w2.setCell ⟨g, k / 8, none⟩ (.int .u8 (y.toNat : Int))).drew := HB3.out.drew
  refine (HNX.out _ hA4).mono ?_
  rintro e4 w4 ⟨v4, rfl, hown4, hb4⟩
  have hB4 := hB3'.trans (hb4.mono hB3'.size)
  clear hown4 hb4
  by_cases he : e = 0
  · subst he
    have hne : ((sz : Int) != (L : Int)) = true := by
      have := HRES.out.resolve_left (fun h => h rfl)
      simp
      omega
    go_wp2
    go_ret
    exact ⟨rfl, hB4⟩
  · have hne : ((e : Int) != 0) = true := by simp; omega
    go_wp2
    go_ret
    exact ⟨rfl, hB4⟩
end Go.Proofs.Ythbegaknlhclpaa
