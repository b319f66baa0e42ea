/-
  CrcTurned: the walk.
-/
import Derived.Test.YtjhhecaamojkjaaCWorks
set_option linter.unusedVariables false
namespace Go.Proofs.Ytjhhecaamojkjaa
open Go.RowKit

/-- Has a bit below k been turned? -/
def anyBit (w : Nat) : Nat → Bool
  | 0 => false
  | k + 1 => w.testBit k || anyBit w k

theorem N_bit (s : BitVec 32) (k : Nat) : Go.bits .and .u32 (N s / 2 ^ k) 1 = if s.toNat.testBit k then 1 else 0 := by
  have e : N s / 2 ^ k = ((s.toNat / 2 ^ k : Nat) : Int) := by
    unfold N
    push_cast
    rfl
  have hl : s.toNat / 2 ^ k < 4294967296 := Nat.lt_of_le_of_lt (Nat.div_le_self _ _) s.isLt
  have h : Go.bits .and .u32 ((s.toNat / 2 ^ k : Nat) : Int) (1 : Int) = ((s.toNat / 2 ^ k &&& 1 : Nat) : Int) := u32_and_nat (s.toNat / 2 ^ k) 1 hl (by decide)
  rw [e, h, Nat.and_one_is_mod, Nat.testBit_eq_decide_div_mod_eq]
  by_cases h2 : s.toNat / 2 ^ k % 2 = 1
  · rw [h2, decide_eq_true rfl]; rfl
  · rw [decide_eq_false h2, show s.toNat / 2 ^ k % 2 = 0 from by omega]; rfl

theorem anyBit_iff (w : Nat) : ∀ k : Nat, anyBit w k = false ↔ ∀ i, i < k → w.testBit i = false
  | 0 => by simp [anyBit]
  | k + 1 => by
    rw [anyBit, Bool.or_eq_false_iff, anyBit_iff w k]
    constructor
    · rintro ⟨h1, h2⟩ i hi
      by_cases e : i = k
      · rw [e]; exact h1
      · exact h2 i (by omega)
    · intro h
      exact ⟨h k (by omega), fun i hi => h i (by omega)⟩
theorem bit_xor (x : UInt8) (r : Nat) (hr : r < 8) : Go.bits .xor .u8 (x.toNat : Int) (128 / 2 ^ r) = ((x ^^^ bitByte r).toNat : Int) := by
  have h : ∀ r : Fin 8, (128 : Int) / 2 ^ r.val = ((bitByte r.val).toNat : Int) := by decide +kernel
  rw [h ⟨r, hr⟩, u8_xor_nat _ _ x.toNat_lt (bitByte r).toNat_lt, UInt8.toNat_xor]

/-- A round that turns a bit; one that does not. -/
theorem turn_step {xs cs : List UInt8} {a k n w : Nat} {x : UInt8} (hlt : a + k < 8 * n) (hl : cs.length = n) (hx : cs[(a + k) / 8]? = some x) (hb : w.testBit k = true)
    (h : ∀ j, j < 8 * n → (bitAt xs j ^^ bitAt cs j) = (decide (a ≤ j ∧ j < a + k) && w.testBit (j - a))) :
    ∀ j, j < 8 * n → (bitAt xs j ^^ bitAt (cs.set ((a + k) / 8) (x ^^^ bitByte ((a + k) % 8))) j) = (decide (a ≤ j ∧ j < a + (k + 1)) && w.testBit (j - a)) := by
  intro j hj
  rw [bitAt_set cs _ _ j x (by omega) hx (Nat.mod_lt _ (by decide)), show 8 * ((a + k) / 8) + (a + k) % 8 = a + k from by omega, ← Bool.xor_assoc, h j hj]
  by_cases e : j = a + k
  · subst e
    rw [decide_eq_false (by omega), decide_eq_true rfl, decide_eq_true (by omega), show a + k - a = k from by omega, hb]
    rfl
  · rw [decide_eq_false e, Bool.xor_false]
    congr 1
    apply decide_eq_decide.2
    omega
theorem still_step {xs cs : List UInt8} {a k n w : Nat} (hb : w.testBit k = false)
    (h : ∀ j, j < 8 * n → (bitAt xs j ^^ bitAt cs j) = (decide (a ≤ j ∧ j < a + k) && w.testBit (j - a))) :
    ∀ j, j < 8 * n → (bitAt xs j ^^ bitAt cs j) = (decide (a ≤ j ∧ j < a + (k + 1)) && w.testBit (j - a)) := by
  intro j hj
  rw [h j hj]
  by_cases e : j = a + k
  · subst e
    rw [show a + k - a = k from by omega, hb, Bool.and_false, Bool.and_false]
  · congr 1
    apply decide_eq_decide.2
    omega
theorem turned_end {xs cs : List UInt8} {a k n w : Nat} (hx : xs.length = n) (hc : cs.length = n) (hk : k ≤ 32) (ha : a + k ≤ 8 * n)
    (h : ∀ j, j < 8 * n → (bitAt xs j ^^ bitAt cs j) = (decide (a ≤ j ∧ j < a + k) && w.testBit (j - a))) : (N (crcOf xs) != N (crcOf cs)) = anyBit w k := by
  have ht := turned xs cs a k w (by rw [hx, hc]) (by rw [hx]; exact ha) hk (by rw [hx]; exact h)
  rw [← anyBit_iff] at ht
  have e : (N (crcOf xs) != N (crcOf cs)) = !(N (crcOf xs) == N (crcOf cs)) := rfl
  rw [e, N_beq]
  by_cases hq : crcOf xs = crcOf cs
  · rw [ht.1 hq, hq, beq_self_eq_true]; rfl
  · rw [beq_eq_false_iff_ne.2 hq]
    cases hb : anyBit w k with
    | true => rfl
    | false => exact absurd (ht.2 hb) hq

set_option maxHeartbeats 4000000 in
theorem crcTurned_walk (A : Option Addr) (n c : Nat) (xs : List UInt8) (at_ : Int) (s : BitVec 32) (w : World) (hx : At w A n xs) (hnc : n ≤ c) (hk : c ≤ 140737488351232) (hz : A = none → c = 0)
    (hi : -9223372036854775808 ≤ at_ ∧ at_ ≤ 9223372036854775807) :
    Calls Try.prog 6 #[.slice A n c, .int .i64 at_, .int .u32 (N s)] w fun e w' => e = .returned (.bool true) ∧ Below w.heap.size w w' := by
  go_enter Try.func6, Try.ntmps6
  go_wp2_with fail
  refine (works _).mono ?_
  rintro e w1 ⟨rfl, hb1⟩
  have hx1 := hx.below' hb1
  by_cases hn0 : n = 0
  · subst hn0
    go_wp2
    go_ret
    exact ⟨rfl, hb1⟩
  · go_wp2_with fail
    refine (bring at_ (8 * n) _ (by omega) (by omega)).mono ?_
    rintro e w2 ⟨rfl, rfl⟩
    have m1 := Int.emod_nonneg at_ (b := 8 * n) (by omega)
    have m2 := Int.emod_lt_of_pos at_ (b := 8 * n) (by omega)
    obtain ⟨a, haa⟩ := Int.eq_ofNat_of_zero_le m1
    rw [haa] at m2 ⊢
    have han : a < 8 * n := by omega
    clear haa m1 m2
    go_wp2_with fail
    refine (copyBytes A n c xs _ hx1 (by omega)).mono ?_
    rintro e w2 ⟨v, rfl, hown, hb2⟩
    obtain ⟨A1, c1, rfl, hat1, hc1, hc2, _⟩ := hown.form
    have hn := hx.1
    rw [hn] at hat1 hown hc1 ⊢
    obtain ⟨g, rfl, hg1, hg2⟩ := hown.some_ (by omega)
    have HB1 := Lib.hid hb1
    have HB2 := Lib.hid hb2
    have HX1 := Lib.hid hx1
    have HG := Lib.hid hg1
    have HNL := Lib.hid hn
    have hsb := N_bounds s
    clear hb1 hb2 hx1 hx hat1 hn hg1 hg2
    go_wp2_with fail
    go_loopw [8, 9] (fun t i wr => ∃ k : Nat, k ≤ 32 ∧ a + k ≤ 8 * n ∧ i = .int .i64 k ∧ t = .bool (anyBit s.toNat k) ∧
        (∃ cs, Hid (Own wr w1.heap.size (.slice (some ⟨g, 0, none⟩) n c1) cs) ∧ Hid (∀ j, j < 8 * n → (bitAt xs j ^^ bitAt cs j) = (decide (a ≤ j ∧ j < a + k) && s.toNat.testBit (j - a)))) ∧ Hid (Below w1.heap.size w1 wr))
      (fun _ i _ => 32 - (intOf i).toNat)
    case atStart =>
      refine ⟨0, by omega, by omega, rfl, rfl, ⟨xs, hown, ?_⟩, HB2.out⟩
      refine Lib.hid fun j hj => ?_
      rw [decide_eq_false (by omega)]
      simp
    case round =>
      obtain ⟨k, hk32, hak, rfl, rfl, ⟨cs, hO, hJ⟩, hbw⟩ := hrel
      clear hown
      by_cases h32 : k < 32
      · by_cases hlt : a + k < 8 * n
        · by_cases hbit : s.toNat.testBit k = true
          · have hN := N_bit s k
            rw [hbit, if_pos rfl] at hN
            have hp : (a + k) / 8 < n := by omega
            obtain ⟨x, hcx, x1⟩ : ∃ x, cs[(a + k) / 8]? = some x ∧ wr.cell? ⟨g, (a + k) / 8, none⟩ = some (.int .u8 (x.toNat : Int)) := by
              have hl := hO.out.len
              refine ⟨cs[(a + k) / 8]'(by omega), by simp [hl, hp], hO.out.cell _ hp⟩
            have x2 := hO.out.free ((a + k) / 8)
            have hX := bit_xor x ((a + k) % 8) (Nat.mod_lt _ (by decide))
            have hO1 := hO.out.set ((a + k) / 8) (x ^^^ bitByte ((a + k) % 8))
            have hS1 := hbw.out.setCell (p := ⟨g, (a + k) / 8, none⟩) HG.out (bv (x ^^^ bitByte ((a + k) % 8)))
            have HJ1 := Lib.hid (turn_step (xs := xs) hlt hO.out.len hcx hbit hJ.out)
            generalize x ^^^ bitByte ((a + k) % 8) = y at hX hO1 hS1 HJ1
            have HO1 := Lib.hid hO1
            have HS1 := Lib.hid hS1
            have HBit := Lib.hid hbit
            clear hO hJ hbw hcx hO1 hS1 hbit
            go_wp2_with fail
            go_region
            all_goals go_wp2
            all_goals go_roundw
            case rel => exact ⟨k + 1, by omega, by omega, by go_num, by rw [anyBit, HBit.out]; rfl, ⟨_, HO1.out, HJ1.out⟩, HS1.out.drew⟩
            case measure => simp [intOf]; omega
          · have hbf : s.toNat.testBit k = false := by simpa using hbit
            have hN := N_bit s k
            rw [hbf, if_neg (by decide)] at hN
            have HJ1 := Lib.hid (still_step (xs := xs) (cs := cs) (n := n) hbf hJ.out)
            have HBit := Lib.hid hbf
            clear hJ hbit hbf
            go_wp2
            go_roundw
            case rel => exact ⟨k + 1, by omega, by omega, by go_num, by rw [anyBit, HBit.out]; rfl, ⟨_, hO, HJ1.out⟩, hbw⟩
            case measure => simp [intOf]; omega
        · have hE := turned_end (w := s.toNat) HNL.out hO.out.len hk32 hak hJ.out
          have hA := HX1.out.below' hbw.out
          have hC := hO.out.at_
          have hF := HB1.out.trans (hbw.out.mono HB1.out.size)
          clear hO hJ hbw HX1 HB1 HB2
          generalize anyBit s.toNat k = t at hE
          have D1 := Lib.hid (fun W h => of_ A n c xs W h (by omega))
          have D2 := Lib.hid (fun W h => of_ (some ⟨g, 0, none⟩) n c1 cs W h (by omega))
          generalize N (crcOf xs) = r1 at D1 hE
          generalize N (crcOf cs) = r2 at D2 hE
          go_wp2_with fail
          refine (D1.out _ hA).mono ?_
          rintro e w5 ⟨rfl, hb5⟩
          have hC5 := hC.below' hb5
          have hF5 := hF.trans (hb5.mono hF.size)
          clear hb5 hA hC hF
          go_wp2_with fail
          refine (D2.out _ hC5).mono ?_
          rintro e w6 ⟨rfl, hb6⟩
          have hF6 := hF5.trans (hb6.mono hF5.size)
          clear hb6 hC5 hF5
          have hE2 : ((r1 != r2) == t) = true := by rw [hE]; simp
          clear hE
          go_wp2
          go_ret
          exact ⟨rfl, hF6⟩
      · have hE := turned_end (w := s.toNat) HNL.out hO.out.len hk32 hak hJ.out
        have hA := HX1.out.below' hbw.out
        have hC := hO.out.at_
        have hF := HB1.out.trans (hbw.out.mono HB1.out.size)
        clear hO hJ hbw HX1 HB1 HB2
        generalize anyBit s.toNat k = t at hE
        have D1 := Lib.hid (fun W h => of_ A n c xs W h (by omega))
        have D2 := Lib.hid (fun W h => of_ (some ⟨g, 0, none⟩) n c1 cs W h (by omega))
        generalize N (crcOf xs) = r1 at D1 hE
        generalize N (crcOf cs) = r2 at D2 hE
        go_wp2_with fail
        refine (D1.out _ hA).mono ?_
        rintro e w5 ⟨rfl, hb5⟩
        have hC5 := hC.below' hb5
        have hF5 := hF.trans (hb5.mono hF.size)
        clear hb5 hA hC hF
        go_wp2_with fail
        refine (D2.out _ hC5).mono ?_
        rintro e w6 ⟨rfl, hb6⟩
        have hF6 := hF5.trans (hb6.mono hF5.size)
        clear hb6 hC5 hF5
        have hE2 : ((r1 != r2) == t) = true := by rw [hE]; simp
        clear hE
        go_wp2
        go_ret
        exact ⟨rfl, hF6⟩
end Go.Proofs.Ytjhhecaamojkjaa
