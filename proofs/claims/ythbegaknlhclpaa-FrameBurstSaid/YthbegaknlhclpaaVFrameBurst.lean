/-
  FrameBurst: the walk, over what the code's functions promise.
-/
import Derived.Test.YthbegaknlhclpaaVFrameTurned
set_option linter.unusedVariables false
namespace Go.Proofs.Ythbegaknlhclpaa
open Go.RowKit

/-- Has a bit below k been turned? -/
def anyBit (w : Nat) : Nat → Bool
  | 0 => false
  | k + 1 => w.testBit k || anyBit w k
theorem anyBit_iff (w : Nat) : ∀ k : Nat, anyBit w k = false ↔ ∀ i, i < k → w.testBit i = false
  | 0 => by simp [anyBit]
  | k + 1 => by
    rw [anyBit, Bool.or_eq_false_iff, anyBit_iff w k]
    constructor
    · rintro ⟨h1, h2⟩ i hi
      by_cases e : i = k
      · rw [e]; exact h1
      · exact h2 i (by omega)
    · intro h
      exact ⟨h k (by omega), fun i hi => h i (by omega)⟩
theorem N_bit (s : BitVec 32) (k : Nat) : Go.bits .and .u32 (N s / 2 ^ k) 1 = if s.toNat.testBit k then 1 else 0 := by
  have e : N s / 2 ^ k = ((s.toNat / 2 ^ k : Nat) : Int) := by
    unfold N
    push_cast
    rfl
  have hl : s.toNat / 2 ^ k < 4294967296 := Nat.lt_of_le_of_lt (Nat.div_le_self _ _) s.isLt
  have h : Go.bits .and .u32 ((s.toNat / 2 ^ k : Nat) : Int) (1 : Int) = ((s.toNat / 2 ^ k &&& 1 : Nat) : Int) := u32_and_nat (s.toNat / 2 ^ k) 1 hl (by decide)
  rw [e, h, Nat.and_one_is_mod, Nat.testBit_eq_decide_div_mod_eq]
  by_cases h2 : s.toNat / 2 ^ k % 2 = 1
  · rw [h2, decide_eq_true rfl]; rfl
  · rw [decide_eq_false h2, show s.toNat / 2 ^ k % 2 = 0 from by omega]; rfl
theorem bit_xor (x : UInt8) (r : Nat) (hr : r < 8) : Go.bits .xor .u8 (x.toNat : Int) (128 / 2 ^ r) = ((x ^^^ bitByte r).toNat : Int) := by
  have h : ∀ r : Fin 8, (128 : Int) / 2 ^ r.val = ((bitByte r.val).toNat : Int) := by decide +kernel
  rw [h ⟨r, hr⟩, u8_xor_nat _ _ x.toNat_lt (bitByte r).toNat_lt, UInt8.toNat_xor]

/-- A round that turns a bit; one that does not. -/
theorem turn_step {xs cs : List UInt8} {a k T w : Nat} {x : UInt8} (hlt : a + k < T) (hl : T = 8 * cs.length) (hx : cs[(a + k) / 8]? = some x) (hb : w.testBit k = true)
    (h : ∀ j, j < T → (bitAt xs j ^^ bitAt cs j) = (decide (a ≤ j ∧ j < a + k) && w.testBit (j - a))) :
    ∀ j, j < T → (bitAt xs j ^^ bitAt (cs.set ((a + k) / 8) (x ^^^ bitByte ((a + k) % 8))) j) = (decide (a ≤ j ∧ j < a + (k + 1)) && w.testBit (j - a)) := by
  intro j hj
  rw [bitAt_set cs _ _ j x (by omega) hx (Nat.mod_lt _ (by decide)), show 8 * ((a + k) / 8) + (a + k) % 8 = a + k from by omega, ← Bool.xor_assoc, h j hj]
  by_cases e : j = a + k
  · subst e
    rw [decide_eq_false (by omega), decide_eq_true rfl, decide_eq_true (by omega), show a + k - a = k from by omega, hb]
    rfl
  · rw [decide_eq_false e, Bool.xor_false]
    congr 1
    apply decide_eq_decide.2
    omega
theorem still_step {xs cs : List UInt8} {a k T w : Nat} (hb : w.testBit k = false)
    (h : ∀ j, j < T → (bitAt xs j ^^ bitAt cs j) = (decide (a ≤ j ∧ j < a + k) && w.testBit (j - a))) :
    ∀ j, j < T → (bitAt xs j ^^ bitAt cs j) = (decide (a ≤ j ∧ j < a + (k + 1)) && w.testBit (j - a)) := by
  intro j hj
  rw [h j hj]
  by_cases e : j = a + k
  · subst e
    rw [show a + k - a = k from by omega, hb, Bool.and_false, Bool.and_false]
  · congr 1
    apply decide_eq_decide.2
    omega

/-- Behind the burst Next tells the record, or ErrSum. -/
theorem burst_end {l cs : List UInt8} {a k w : Nat} (hl : l.length ≤ 65536) (hc : (fr l).length = cs.length) (hk : k ≤ 32) (ha : a + k ≤ 8 * (fr l).length) (hh : cs.take (enc l.length).length = enc l.length)
    (h : ∀ j, j < 8 * (fr l).length → (bitAt (fr l) j ^^ bitAt cs j) = (decide (a ≤ j ∧ j < a + k) && w.testBit (j - a))) :
    (anyBit w k = true ∧ nx cs = ([], 0, 40)) ∨ (anyBit w k = false ∧ nx cs = (l, (fr l).length, 0)) := by
  have hb := fr_burst l cs a k w hc ha hk h
  rw [← anyBit_iff] at hb
  have hfl := fr_len l
  have hsplit : cs = enc l.length ++ cs.drop (enc l.length).length := by
    conv => lhs; rw [← List.take_append_drop (enc l.length).length cs, hh]
  have hy : (cs.drop (enc l.length).length).length = l.length + 4 := by rw [List.length_drop]; omega
  have hn := nx_header l.length (cs.drop (enc l.length).length) hl hy
  rw [← hsplit] at hn
  cases hB : anyBit w k with
  | true =>
    left
    refine ⟨rfl, ?_⟩
    rw [hn, if_neg (fun e => by rw [hb.1 e] at hB; cases hB)]
  | false =>
    right
    refine ⟨rfl, ?_⟩
    have hsum := hb.2 hB
    -- no bit is turned: the bytes are the record
    have e : cs = fr l := by
      apply List.ext_getElem hc.symm
      intro i h1 h2
      apply UInt8.toNat_inj.1
      apply Nat.eq_of_testBit_eq
      intro r
      by_cases hr : r < 8
      · have hj := h (8 * i + (7 - r)) (by omega)
        have hz : (decide (a ≤ 8 * i + (7 - r) ∧ 8 * i + (7 - r) < a + k) && w.testBit (8 * i + (7 - r) - a)) = false := by
          by_cases hin : a ≤ 8 * i + (7 - r) ∧ 8 * i + (7 - r) < a + k
          · rw [(anyBit_iff w k).1 hB _ (by omega), Bool.and_false]
          · rw [decide_eq_false hin, Bool.false_and]
        rw [hz] at hj
        have g1 : bitAt (fr l) (8 * i + (7 - r)) = (fr l)[i].toNat.testBit r := by
          unfold bitAt
          rw [show (8 * i + (7 - r)) / 8 = i from by omega, show 7 - (8 * i + (7 - r)) % 8 = r from by omega, List.getD_eq_getElem?_getD, List.getElem?_eq_getElem h2]
          rfl
        have g2 : bitAt cs (8 * i + (7 - r)) = cs[i].toNat.testBit r := by
          unfold bitAt
          rw [show (8 * i + (7 - r)) / 8 = i from by omega, show 7 - (8 * i + (7 - r)) % 8 = r from by omega, List.getD_eq_getElem?_getD, List.getElem?_eq_getElem h1]
          rfl
        rw [g1, g2] at hj
        revert hj
        cases (fr l)[i].toNat.testBit r <;> cases cs[i].toNat.testBit r <;> simp
      · have t1 := (fr l)[i].toNat_lt
        have t2 := cs[i].toNat_lt
        have hp : 2 ^ 8 ≤ 2 ^ r := Nat.pow_le_pow_right (by decide) (by omega)
        rw [Nat.testBit_lt_two_pow (by omega), Nat.testBit_lt_two_pow (by omega)]
    have := nx_fr l [] hl
    rw [List.append_nil] at this
    rw [e]
    exact this

set_option maxHeartbeats 4000000 in
theorem frameBurst_w (hF : FrameOk) (hN : NextOk) (A : Option Addr) (n c : Nat) (xs : List UInt8) (at_ : Int) (s : BitVec 32) (w : World) (hx : At w A n xs) (hnc : n ≤ c) (hk : c ≤ 140737488351232) (hz : A = none → c = 0)
    (hi : -9223372036854775808 ≤ at_ ∧ at_ ≤ 9223372036854775807) :
    Calls Try.prog 8 #[.slice A n c, .int .i64 at_, .int .u32 (N s)] w fun e w' => e = .returned (.bool true) ∧ Below w.heap.size w w' := by
  have HW := Lib.hid (works hF hN)
  obtain ⟨q, hq⟩ : ∃ q : Nat, q = min n 2000 := ⟨_, rfl⟩
  go_enter Try.func8, Try.ntmps8
  go_wp2_with fail
  refine (HW.out _).mono ?_
  rintro e1 w1 ⟨rfl, hb1⟩
  have hcut := (hx.below' hb1).cut (l := 0) (k := q) (m := c) (by omega) (by omega) (by omega)
  simp only [cutA_zero, Nat.sub_zero, List.drop_zero] at hcut
  generalize xs.take q = d at hcut
  have hdl := hcut.1
  clear hx HW
  have HQ := Lib.hid (show (min (n : Int) 2000).toNat = q by omega)
  have HC := Lib.hid (hF A q c d w1 hcut (by omega) (by omega) (by omega))
  have hq2 : q ≤ 2000 := by omega
  have hqc : q ≤ c := by omega
  clear hq hF
  go_wp2_with fail
  rw [HQ.out]
  refine HC.out.mono ?_
  rintro e2 w2 ⟨v2, rfl, hown2, hb2⟩
  rw [if_neg (by omega)] at hown2 ⊢
  have hfl := fr_len d
  have hel := enc_len d.length (by omega)
  have he1 : 1 ≤ (enc d.length).length := by unfold enc; simp
  obtain ⟨A2, c2, rfl, _, h21, h22, _⟩ := hown2.form
  obtain ⟨g, rfl, hg, _⟩ := hown2.some_ (by omega)
  have HB1 := Lib.hid hb1
  have HB2 := Lib.hid hb2
  have HD := Lib.hid hcut
  have hHH : (fr d).take (enc d.length).length = enc d.length := by
    unfold fr
    rw [List.append_assoc, List.take_left]
  obtain ⟨L, hL⟩ : ∃ L, (fr d).length = L := ⟨_, rfl⟩
  obtain ⟨H, hH⟩ : ∃ H, (enc d.length).length = H := ⟨_, rfl⟩
  rw [hL] at hown2 h21 hfl ⊢
  rw [hH] at hfl hel he1 hHH
  rw [hdl] at hfl
  have hLH : L = H + q + 4 := hfl
  have hLb : L ≤ 2012 := by omega
  have HEND := Lib.hid (fun cs a k (h1 : cs.length = L) (h2 : k ≤ 32) (h3 : a + k ≤ 8 * L) (h4 : cs.take H = enc d.length) (h5 : ∀ j, j < 8 * L → (bitAt (fr d) j ^^ bitAt cs j) = (decide (a ≤ j ∧ j < a + k) && s.toNat.testBit (j - a))) => burst_end (l := d) (cs := cs) (a := a) (k := k) (w := s.toNat) (by omega) (by rw [hL, h1]) h2 (by rw [hL]; exact h3) (by rw [hH]; exact h4) (by rw [hL]; exact h5))
  rw [hL] at HEND
  have HHH := Lib.hid hHH
  have HDL := Lib.hid hdl
  have HLL := Lib.hid hL
  have hLi : (L : Int) = H + q + 4 := by omega
  have HLi := Lib.hid hLH
  have b1 : q + 5 ≤ L := by omega
  have hfirst : 8 * H + 32 ≤ 8 * L := by omega
  have e1 : 8 * ((L : Int) - q - 4) = ((8 * H : Nat) : Int) := by omega
  have HE1 := Lib.hid e1
  have hHb : H ≤ 8 := hel
  clear hb1 hb2 hfl hel hL hH hHH hdl hLH hLi e1 HC HQ hcut
  have hsb := N_bounds s
  go_wp2_with fail
  rw [HE1.out]
  refine (bring at_ (8 * (L : Int) - ((8 * H : Nat) : Int)) _ (by omega) (by omega)).mono ?_
  rintro e3 w3 ⟨rfl, rfl⟩
  have m1 := Int.emod_nonneg at_ (b := 8 * (L : Int) - ((8 * H : Nat) : Int)) (by omega)
  have m2 := Int.emod_lt_of_pos at_ (b := 8 * (L : Int) - ((8 * H : Nat) : Int)) (by omega)
  obtain ⟨b, hbb⟩ := Int.eq_ofNat_of_zero_le m1
  rw [hbb] at m2 ⊢
  obtain ⟨a, ha⟩ : ∃ a : Nat, a = 8 * H + b := ⟨_, rfl⟩
  have haL : a < 8 * L := by omega
  have haH : 8 * H ≤ a := by omega
  have HA1 := Lib.hid (show ((8 * H : Nat) : Int) + (b : Int) = (a : Int) by omega)
  have HA2 := Lib.hid (show 8 * (H : Int) + (b : Int) = (a : Int) by omega)
  have hbL : b < 8 * L := by omega
  clear hbb m1 m2 ha
  go_wp2_with fail
  first | rw [HA1.out] | rw [HA2.out]
  go_loopw [11, 12] (fun t i wr => ∃ k : Nat, k ≤ 32 ∧ a + k ≤ 8 * L ∧ i = .int .i64 k ∧ t = .bool (anyBit s.toNat k) ∧
      (∃ cs, Hid (Own wr w1.heap.size (.slice (some ⟨g, 0, none⟩) L c2) cs) ∧ Hid (cs.take H = enc d.length) ∧ Hid (∀ j, j < 8 * L → (bitAt (fr d) j ^^ bitAt cs j) = (decide (a ≤ j ∧ j < a + k) && s.toNat.testBit (j - a)))) ∧ Hid (Below w1.heap.size w1 wr))
    (fun _ i _ => 32 - (intOf i).toNat)
  case atStart =>
    refine ⟨0, by omega, by omega, rfl, rfl, ⟨fr d, hown2, HHH.out, ?_⟩, HB2.out⟩
    refine Lib.hid fun j hj => ?_
    rw [decide_eq_false (by omega)]
    simp
  case round =>
    obtain ⟨k, hk32, hak, rfl, rfl, ⟨cs, hO, hCH, hJ⟩, hbw⟩ := hrel
    clear hown2
    by_cases h32 : k < 32
    · by_cases hlt : a + k < 8 * L
      · by_cases hbit : s.toNat.testBit k = true
        · have hNb := N_bit s k
          rw [hbit, if_pos rfl] at hNb
          have hp : (a + k) / 8 < L := by omega
          have hol := hO.out.len
          obtain ⟨x, hcx, x1⟩ : ∃ x, cs[(a + k) / 8]? = some x ∧ wr.cell? ⟨g, (a + k) / 8, none⟩ = some (.int .u8 (x.toNat : Int)) :=
            ⟨cs[(a + k) / 8]'(by omega), by simp [hol, hp], hO.out.cell _ hp⟩
          have x2 := hO.out.free ((a + k) / 8)
          have hX := bit_xor x ((a + k) % 8) (Nat.mod_lt _ (by decide))
          have hO1 := hO.out.set ((a + k) / 8) (x ^^^ bitByte ((a + k) % 8))
          have hS1 := hbw.out.setCell (p := ⟨g, (a + k) / 8, none⟩) hg (bv (x ^^^ bitByte ((a + k) % 8)))
          have HJ1 := Lib.hid (turn_step (xs := fr d) hlt (by rw [hol]) hcx hbit hJ.out)
          have HCH := Lib.hid (show (cs.set ((a + k) / 8) (x ^^^ bitByte ((a + k) % 8))).take H = enc d.length by
            rw [List.take_set_of_le (by omega)]
            exact hCH.out)
          generalize x ^^^ bitByte ((a + k) % 8) = y at hX hO1 hS1 HJ1 HCH
          have HO1 := Lib.hid hO1
          have HS1 := Lib.hid hS1
          have HBit := Lib.hid hbit
          clear hO hJ hbw hcx hO1 hS1 hbit hCH hol
          go_wp2_with fail
          go_region
          all_goals go_wp2
          all_goals go_roundw
          case rel => exact ⟨k + 1, by omega, by omega, by go_num, by rw [anyBit, HBit.out]; rfl, ⟨_, HO1.out, HCH.out, HJ1.out⟩, HS1.out.drew⟩
          case measure => simp [intOf]; omega
        · have hbf : s.toNat.testBit k = false := by simpa using hbit
          have hNb := N_bit s k
          rw [hbf, if_neg (by decide)] at hNb
          have HJ1 := Lib.hid (still_step (xs := fr d) (cs := cs) (T := 8 * L) hbf hJ.out)
          have HBit := Lib.hid hbf
          clear hJ hbit hbf
          go_wp2
          go_roundw
          case rel => exact ⟨k + 1, by omega, by omega, by go_num, by rw [anyBit, HBit.out]; rfl, ⟨_, hO, hCH, HJ1.out⟩, hbw⟩
          case measure => simp [intOf]; omega
      · have hE := HEND.out cs a k hO.out.len hk32 hak hCH.out hJ.out
        have hF := HB1.out.trans (hbw.out.mono HB1.out.size)
        have hDw := HD.out.below' hbw.out
        have hAt := hO.out.at_
        clear hO hCH hJ hbw HB1 HB2 HD HEND
        rcases hE with ⟨hB, hnx⟩ | ⟨hB, hnx⟩
        · have HNX := Lib.hid (show ∀ V : World, At V (some ⟨g, 0, none⟩) L cs → Calls Try.prog 17 #[.slice (some ⟨g, 0, none⟩) L c2] V fun x W' => ∃ v, x = .returned (.tuple #[v, .int .i64 0, .int .i64 40]) ∧ Own W' V.heap.size v [] ∧ Below V.heap.size V W' from
            fun V h => hN (some ⟨g, 0, none⟩) L c2 cs [] 0 40 V h h21 h22 (by omega) hnx)
          clear hnx hN
          go_wp2_with fail
          refine (HNX.out _ hAt).mono ?_
          rintro e5 w5 ⟨v5, rfl, hown5, hb5⟩
          have hF5 := hF.trans (hb5.mono hF.size)
          obtain ⟨A5, c5, hv5, _, _, _, _⟩ := hown5.form
          replace hv5 : v5 = .slice A5 0 c5 := hv5
          subst hv5
          go_wp2
          go_ret
          exact ⟨rfl, hF5⟩
        · have HNX := Lib.hid (show ∀ V : World, At V (some ⟨g, 0, none⟩) L cs → Calls Try.prog 17 #[.slice (some ⟨g, 0, none⟩) L c2] V fun x W' => ∃ v, x = .returned (.tuple #[v, .int .i64 L, .int .i64 0]) ∧ Own W' V.heap.size v d ∧ Below V.heap.size V W' from
            fun V h => hN (some ⟨g, 0, none⟩) L c2 cs d L 0 V h h21 h22 (by omega) hnx)
          clear hnx hN
          have hqq : (d == d) = true := beq_self_eq_true _
          go_wp2_with fail
          refine (HNX.out _ hAt).mono ?_
          rintro e5 w5 ⟨v5, rfl, hown5, hb5⟩
          have hF5 := hF.trans (hb5.mono hF.size)
          have hD5 := hDw.below' hb5
          obtain ⟨A5, c5, rfl, hA5, _, _, _⟩ := hown5.form
          rw [HDL.out] at hA5 ⊢
          clear hown5 hb5 hDw hAt hF
          go_wp2_with fail
          refine (eqBytes A5 A q q c5 c d d _ hA5 hD5 (by omega)).mono ?_
          rintro e6 w6 ⟨rfl, j, rfl⟩
          rw [hqq]
          go_wp2
          go_ret
          exact ⟨rfl, below_drewN hF5 j⟩
    · have hE := HEND.out cs a k hO.out.len hk32 hak hCH.out hJ.out
      have hF := HB1.out.trans (hbw.out.mono HB1.out.size)
      have hDw := HD.out.below' hbw.out
      have hAt := hO.out.at_
      clear hO hCH hJ hbw HB1 HB2 HD HEND
      rcases hE with ⟨hB, hnx⟩ | ⟨hB, hnx⟩
      · have HNX := Lib.hid (show ∀ V : World, At V (some ⟨g, 0, none⟩) L cs → Calls Try.prog 17 #[.slice (some ⟨g, 0, none⟩) L c2] V fun x W' => ∃ v, x = .returned (.tuple #[v, .int .i64 0, .int .i64 40]) ∧ Own W' V.heap.size v [] ∧ Below V.heap.size V W' from
          fun V h => hN (some ⟨g, 0, none⟩) L c2 cs [] 0 40 V h h21 h22 (by omega) hnx)
        clear hnx hN
        go_wp2_with fail
        refine (HNX.out _ hAt).mono ?_
        rintro e5 w5 ⟨v5, rfl, hown5, hb5⟩
        have hF5 := hF.trans (hb5.mono hF.size)
        obtain ⟨A5, c5, hv5, _, _, _, _⟩ := hown5.form
        replace hv5 : v5 = .slice A5 0 c5 := hv5
        subst hv5
        go_wp2
        go_ret
        exact ⟨rfl, hF5⟩
      · have HNX := Lib.hid (show ∀ V : World, At V (some ⟨g, 0, none⟩) L cs → Calls Try.prog 17 #[.slice (some ⟨g, 0, none⟩) L c2] V fun x W' => ∃ v, x = .returned (.tuple #[v, .int .i64 L, .int .i64 0]) ∧ Own W' V.heap.size v d ∧ Below V.heap.size V W' from
          fun V h => hN (some ⟨g, 0, none⟩) L c2 cs d L 0 V h h21 h22 (by omega) hnx)
        clear hnx hN
        have hqq : (d == d) = true := beq_self_eq_true _
        go_wp2_with fail
        refine (HNX.out _ hAt).mono ?_
        rintro e5 w5 ⟨v5, rfl, hown5, hb5⟩
        have hF5 := hF.trans (hb5.mono hF.size)
        have hD5 := hDw.below' hb5
        obtain ⟨A5, c5, rfl, hA5, _, _, _⟩ := hown5.form
        rw [HDL.out] at hA5 ⊢
        clear hown5 hb5 hDw hAt hF
        go_wp2_with fail
        refine (eqBytes A5 A q q c5 c d d _ hA5 hD5 (by omega)).mono ?_
        rintro e6 w6 ⟨rfl, j, rfl⟩
        rw [hqq]
        go_wp2
        go_ret
        exact ⟨rfl, below_drewN hF5 j⟩
end Go.Proofs.Ythbegaknlhclpaa
