/-
  QuillTakes: the walk.
-/
import Derived.Test.YtiakoaipehmdhaaAny
set_option linter.unusedVariables false
namespace Go.Proofs.Ytiakoaipehmdhaa
open Go.RowKit

theorem eq_refl_true' (l : List UInt8) : (l == l) = true := by simp

set_option maxRecDepth 100000 in
set_option maxHeartbeats 2000000 in
theorem quillTakes_walk (A : Option Addr) (n c : Nat) (b : List UInt8) (most : Int) (w : World) (hx : At w A n b) (hnc : n ≤ c) (hc : c ≤ 140737488351232) (hz : A = none → c = 0)
    (hm : -9223372036854775808 ≤ most ∧ most ≤ 9223372036854775807) :
    Calls Try.prog 4 #[.slice A n c, .int .i64 most] w fun e w' => e = .returned (.bool true) ∧ Below w.heap.size w w' := by
  obtain ⟨v, rest, x, ht⟩ : ∃ v rest x, tk b = (v, rest, x) := ⟨_, _, _, rfl⟩
  obtain ⟨t, left, y, hts⟩ : ∃ t left y, tsx b most = (t, left, y) := ⟨_, _, _, rfl⟩
  have HT := Lib.hid ht
  have HTS := Lib.hid hts
  have hn : n ≤ 225000000000000 := by omega
  have hc' : c ≤ 9223372036854775807 := by omega
  clear ht hts hz
  go_enter Try.func4, Try.ntmps4
  go_wp2_with fail
  refine (copyBytes A n c b _ hx hn).mono ?_
  rintro e w1 ⟨v1, rfl, hown1, hb1⟩
  obtain ⟨A1, c1, rfl, hat1, hm1, hm1', _⟩ := hown1.form
  rw [hx.1] at hat1 hm1 ⊢
  clear hown1
  go_wp2_with fail
  refine (takeNum_any A1 n c1 b rest v x _ hat1 hm1 hm1' hn HT.out).mono ?_
  rintro e w2 ⟨A2, m2, c2, rfl, ho2, h21, h22, hb2⟩
  go_wp2_with fail
  refine (refTakeNum_any A n c b rest v x _ ((hx.below' hb1).below' hb2) hnc hc' hn HT.out).mono ?_
  rintro e w3 ⟨A3, m3, c3, rfl, ho3, h31, h32, hb3⟩
  go_wp2_with fail
  refine (takeStr_any A1 n c1 most b t left y _ ((hat1.below' hb2).below' hb3) hm1 hm1' hn HTS.out).mono ?_
  rintro e w4 ⟨A4, m4, c4, rfl, ho4, h41, h42, hb4⟩
  go_wp2_with fail
  refine (refTakeStr_any A n c most b t left y _ ((((hx.below' hb1).below' hb2).below' hb3).below' hb4) hnc hc' hn HTS.out).mono ?_
  rintro e w5 ⟨A5, m5, c5, rfl, ho5, h51, h52, hb5⟩
  have hvv : ((v : Int) != (v : Int)) = false := by simp
  have hxx : ((x : Int) != (x : Int)) = false := by simp
  have hyy : ((y : Int) != (y : Int)) = false := by simp
  simp only [str_]
  have hml : m2 ≤ 225000000000000 := by
    have h1 := tk_rest b
    rw [HT.out] at h1
    have h2 := ho2.len
    have h3 := hx.1
    simp only at h1
    omega
  have hml4 : m4 ≤ 225000000000000 := by
    have h1 : (tsx b most).2.1.length ≤ b.length := tsx_rest b most
    rw [HTS.out] at h1
    have h2 := ho4.len
    have h3 := hx.1
    simp only at h1
    omega
  have hb15 : Below w1.heap.size w1 w5 := by
    have e2 := hb2.size
    have e3 := hb3.size
    have e4 := hb4.size
    exact ((hb2.trans (hb3.mono e2)).trans (hb4.mono (by omega))).trans (hb5.mono (by omega))
  have hb35 : Below w3.heap.size w3 w5 := hb4.trans (hb5.mono hb4.size)
  have o2 := ((ho2.below hb3).below hb4).below hb5
  have o3 := (ho3.below hb4).below hb5
  have o4 := ho4.below hb5
  have e13 : w1.heap.size ≤ w3.heap.size := by have e2 := hb2.size; have e3 := hb3.size; omega
  have e23 : w2.heap.size ≤ w3.heap.size := hb3.size
  have g2 : ∀ g, A2 = some ⟨g, 0, none⟩ → 0 < m2 → w1.heap.size ≤ g ∧ g < w3.heap.size := by
    intro g e h0
    obtain ⟨g', e', h1, h2⟩ := ho2.some_ h0
    rw [e] at e'
    injection e' with e'
    injection e' with e'
    omega
  have G2 := Lib.hid g2
  clear g2 ho2 ho3 ho4
  go_wp2_with fail
  refine (eqBytes _ _ _ _ _ _ rest rest _ o2.at_ o3.at_ (by omega)).mono ?_
  rintro e w6 ⟨rfl, j, rfl⟩
  rw [eq_refl_true']
  go_wp2_with fail
  refine (eqBytes _ _ _ _ _ _ left left _ (o4.drewN j).at_ (ho5.drewN j).at_ (by omega)).mono ?_
  rintro e w7 ⟨rfl, j', rfl⟩
  rw [eq_refl_true']
  clear o3 ho5
  go_wp2_with fail
  have hbw : Below w.heap.size w w5 := hb1.trans (hb15.mono hb1.size)
  have e1 := hb1.size
  have hstart := below_drewN hb15 (j + j')
  clear hb2 hb3 hb4 hb5
  go_loopw [18] (fun z wr => ∃ (k : Nat) (r : List UInt8), k ≤ m2 ∧ z = .int .i64 k ∧ Own wr w1.heap.size (.slice A2 m2 c2) r ∧ Own wr w3.heap.size (.slice A4 m4 c4) left ∧ Below w1.heap.size w1 wr) (fun z _ => m2 - (intOf z).toNat)
  case atStart => exact ⟨0, rest, Nat.zero_le _, rfl, o2, o4, hstart⟩
  case round =>
    obtain ⟨k, r, hk, rfl, q2, q4, hbr⟩ := hrel
    by_cases hlt : k < m2
    · obtain ⟨g, rfl, hg1, _⟩ := q2.some_ (by omega)
      have hg := (G2.out g rfl (by omega)).2
      have hc1 := q2.cell k hlt
      have hc2 := q2.free k
      have hrl : k < r.length := by rw [q2.len]; exact hlt
      obtain ⟨u, hu⟩ : ∃ u, u = r[k] := ⟨_, rfl⟩
      rw [← hu] at hc1
      have n2 := q2.set k (u + 1)
      have n4 := q4.far (p := ⟨g, k, none⟩) hg (bv (u + 1))
      have nb := hbr.setCell (p := ⟨g, k, none⟩) hg1 (bv (u + 1))
      rw [← bv_succ] at n2 n4 nb
      clear hu hrl
      go_wp2
      go_roundw
      case rel => exact ⟨k + 1, _, by omega, by go_num, n2, n4, nb⟩
      case measure => simp [intOf]; omega
    · have hkm : m2 ≤ k := by omega
      clear hlt
      go_wp2_with fail
      obtain ⟨wo, rfl⟩ : ∃ wo : World, wo = wr := ⟨_, rfl⟩
      clear q2 hkm
      go_loopw [19] (fun z wr => ∃ (i : Nat) (l : List UInt8), i ≤ m4 ∧ z = .int .i64 i ∧ Own wr w3.heap.size (.slice A4 m4 c4) l ∧ Below w1.heap.size w1 wr) (fun z _ => m4 - (intOf z).toNat)
      case atStart => exact ⟨0, left, Nat.zero_le _, rfl, q4, hbr⟩
      case round =>
        obtain ⟨i, l, hi, rfl, q5, hbs⟩ := hrel
        by_cases hlt : i < m4
        · obtain ⟨g, rfl, hg1, _⟩ := q5.some_ (by omega)
          have hc1 := q5.cell i hlt
          have hc2 := q5.free i
          have hrl : i < l.length := by rw [q5.len]; exact hlt
          obtain ⟨u, hu⟩ : ∃ u, u = l[i] := ⟨_, rfl⟩
          rw [← hu] at hc1
          have n5 := q5.set i (u + 1)
          have nb := hbs.setCell (p := ⟨g, i, none⟩) (Nat.le_trans e13 hg1) (bv (u + 1))
          rw [← bv_succ] at n5 nb
          clear hu hrl
          go_wp2
          go_roundw
          case rel => exact ⟨i + 1, _, by omega, by go_num, n5, nb⟩
          case measure => simp [intOf]; omega
        · have hki : m4 ≤ i := by omega
          have hain := hat1.below' hbs
          have hb2 := hb1.trans (hbs.mono e1)
          have hain2 := hx.below' hb2
          have esz := hb2.size
          clear hlt q5 q4
          go_wp2_with fail
          refine (eqBytes _ _ n n c1 c b b _ hain hain2 (by omega)).mono ?_
          rintro e w8 ⟨rfl, j2, rfl⟩
          rw [eq_refl_true']
          go_wp2_with fail
          refine (works _).mono ?_
          rintro e w9 ⟨rfl, hb9⟩
          go_wp2
          go_ret
          exact ⟨rfl, (below_drewN hb2 j2).trans (hb9.mono (by simpa using esz))⟩
end Go.Proofs.Ytiakoaipehmdhaa
