/-
  Layer 7: lists of numbers that are the same.
  Layer 7: 'same'.
  Layer 7: 'has'; a disk of one file.
-/
import Derived.Test.YtkhalpajomammaaDDeed
set_option linter.unusedVariables false
namespace Go.Proofs.Ytkhalpajomammaa
open Go.RowKit

set_option maxHeartbeats 4000000 in
theorem eqInts_same (A B : Option Addr) (n c d : Nat) (xs : List Int) (w : World) (hx : IAt w A n xs) (hy : IAt w B n xs) (hn : n ≤ 9223372036854775807) :
    Calls Try.prog 17 #[.slice A n c, .slice B n d] w fun e w' => e = .returned (.bool true) ∧ ∃ k, w' = w.drewN k := by
  have hxl := Lib.hid hx.1
  go_enter Try.func17, Try.ntmps17
  go_wp2
  go_loopw [5] (fun i wr => ∃ k : Nat, k ≤ n ∧ i = .int .i64 k ∧ ∃ j, wr = w.drewN j) (fun i _ => n - (intOf i).toNat)
  case atStart => exact ⟨0, Nat.zero_le _, rfl, 0, rfl⟩
  case round =>
    obtain ⟨k, hk, rfl, j, rfl⟩ := hrel
    by_cases hlt : k < n
    · obtain ⟨b, o, rfl, hc⟩ := hx.2 (by omega)
      obtain ⟨b', o', rfl, hc'⟩ := hy.2 (by omega)
      have hxk : k < xs.length := by rw [hxl.out]; exact hlt
      have h1 := hc k hxk
      have h2 := hc' k hxk
      obtain ⟨u, hu⟩ : ∃ u, u = xs[k] := ⟨_, rfl⟩
      rw [← hu] at h1 h2
      have he : (u == u) = true := beq_self_eq_true _
      have he2 : (u != u) = false := by simp
      clear hc hc' hu
      go_wp2_with fail
      go_quiet (fail)
      go_wp2
      go_roundw
      case rel => exact ⟨k + 1, by omega, by go_num, _, rfl⟩
      case measure => simp [intOf]; omega
    · have hge : n ≤ k := by omega
      clear hlt
      go_wp2
      go_ret
      exact ⟨rfl, _, rfl⟩
end Go.Proofs.Ytkhalpajomammaa

namespace Go.Proofs.Ytkhalpajomammaa
open Go.RowKit

theorem bv_next (u : UInt8) : Value.int .u8 (((u.toNat : Int) + 1) % 256) = bv (u + 1) := by
  unfold bv
  rw [UInt8.toNat_add]
  congr 1
theorem rdE_nms {D : Dk} (h : D.dead = false) {s : ByteArray} (hs : isAt D.l s = true) : rdE D s = 0 := by unfold rdE nmE; rw [h, hs]; rfl

set_option maxRecDepth 100000 in
set_option maxHeartbeats 8000000 in
theorem same_w {R : DRep} (hD : DiskOk R) (w : World) (ga gb : Nat) (D : Dk) (F G : Nat → Prop) (nm : ByteArray) (ha : R w ga D F) (hb : RDk w gb D G) :
    Calls Try.prog 18 #[pt ga, pt gb, .string nm] w fun e w' => e = .returned (.bool true) ∧ Below w.heap.size w w' := by
  have HD := Lib.hid hD
  have HA := Lib.hid (fun V (hB : Below w.heap.size w V) => RepOk.below hD.rep ha hB)
  have HB := Lib.hid (fun V (hB : Below w.heap.size w V) => RDk.below hb hB)
  obtain ⟨N, hN⟩ : ∃ N, (nms D).length = N := ⟨_, rfl⟩
  have hN20 : N ≤ 20 := by rw [← hN]; unfold nms; split; · simp
                           · rw [List.length_map]; exact (RDk.ok hb).few
  have N1 := Lib.hid (hD.names w ga D F ha)
  have N2 := Lib.hid (fun V (hB : Below w.heap.size w V) => names_ok V gb D G (HB.out V hB))
  rw [hN] at N1 N2
  have HN := Lib.hid hN
  clear hD ha hb hN
  go_enter Try.func18, Try.ntmps18
  go_wp2_with (first
    | (go_at_call 27; refine N1.out.mono ?_; rintro e w1 ⟨A1, c1, rfl, ht1, _, _, hb1⟩; have HT1 := Lib.hid ht1; clear ht1)
    | (go_at_call 45; refine (N2.out _ hb1).mono ?_; rintro e w2 ⟨A2, c2, rfl, ht2, _, _, _, hb2⟩; have HT2 := Lib.hid ht2; have HT1b := Lib.hid (HT1.out.below hb2); have hB2 := hb1.trans (hb2.mono hb1.size); clear ht2))
  obtain ⟨hxl, hxc⟩ := HT1b.out
  obtain ⟨hyl, hyc⟩ := HT2.out
  have HXL := Lib.hid hxl
  go_loopw [9] (fun i wr => ∃ r : Nat, r ≤ N ∧ i = .int .i64 r ∧ Below w2.heap.size w2 wr) (fun i _ => N - (intOf i).toNat)
  case atStart => exact ⟨0, Nat.zero_le _, rfl, Below.refl _ _⟩
  case round =>
    obtain ⟨r, hr, rfl, hbr⟩ := hrel
    have hBr : Below w.heap.size w wr := hB2.trans (hbr.mono hB2.size)
    by_cases hlt : r < N
    · obtain ⟨b, o, rfl, hc⟩ := hxc (by omega)
      obtain ⟨b', o', rfl, hc'⟩ := hyc (by omega)
      have hrk : r < (nms D).length := by rw [HXL.out]; exact hlt
      have g1 := hc r hrk
      have g2 := hc' r hrk
      obtain ⟨s, hs⟩ : ∃ s, (nms D)[r] = s := ⟨_, rfl⟩
      rw [hs] at g1 g2
      have h1 := (hbr.cell (World.block_lt_of_cell? w2 _ g1)).trans g1
      have h2 := (hbr.cell (World.block_lt_of_cell? w2 _ g2)).trans g2
      obtain ⟨E, hE⟩ : ∃ E, rdE D s = E := ⟨_, rfl⟩
      obtain ⟨bs, hbs⟩ : ∃ bs, rdB D s = bs := ⟨_, rfl⟩
      obtain ⟨m, hm⟩ : ∃ m, bs.length = m := ⟨_, rfl⟩
      have C1 := Lib.hid (HD.out.read wr ga D F s (HA.out _ hBr))
      have C2 := Lib.hid (fun V hB => read_ok V gb D G s (HB.out V hB))
      have C3 := Lib.hid (fun V hB => HD.out.size V ga D F s (HA.out V hB))
      rw [hE, hbs] at C1
      simp only [hE, hbs] at C2
      simp only [hE, hbs, hm] at C3
      have hss : (s.toList != s.toList) = false := by simp
      have hEE : (E != E) = false := by simp
      have hbb : (bs == bs) = true := beq_self_eq_true _
      have hmm : ((m : Int) != (m : Int)) = false := by simp
      have HM := Lib.hid hm
      clear hc hc' hs hE hbs hm g1 g2
      have L1 := World.block_lt_of_cell? wr _ h1
      have L2 := World.block_lt_of_cell? wr _ h2
      go_wp2_with (first
        | (go_at_call 25; refine C1.out.mono ?_; rintro e3 w3 ⟨v3, rfl, ho3, hb3⟩; obtain ⟨A3, c3, rfl, hat3, hc3, hcm3, _⟩ := Own.form ho3; rw [HM.out] at ho3 hat3 hc3 ⊢; have h1a := (hb3.cell L1).trans h1; have h2a := (hb3.cell L2).trans h2; have hB3 := hBr.trans (hb3.mono hBr.size))
        | (go_at_call 46; refine (C2.out _ hB3).mono ?_; rintro e4 w4 ⟨v4, rfl, ho4, hb4⟩; obtain ⟨A4, c4, rfl, hat4, hc4, hcm4, _⟩ := Own.form ho4; rw [HM.out] at hat4 ⊢; have h1b := (hb4.cell (Nat.lt_of_lt_of_le L1 hb3.size)).trans h1a; have h2b := (hb4.cell (Nat.lt_of_lt_of_le L2 hb3.size)).trans h2a; have hB4 := hB3.trans (hb4.mono hB3.size); have hat3b := hat3.below' hb4; have ho3b := Own.below ho3 hb4)
        | (go_at_call 26; refine (C3.out _ hB4).mono ?_; rintro e5 w5 ⟨rfl, hb5⟩; have hs5 := Nat.le_trans hb3.size hb4.size; have h1c := (hb5.cell (Nat.lt_of_lt_of_le L1 hs5)).trans h1b; have h2c := (hb5.cell (Nat.lt_of_lt_of_le L2 hs5)).trans h2b; have hB5 := hB4.trans (hb5.mono hB4.size); have hat3c := hat3b.below' hb5; have hat4c := hat4.below' hb5; have ho3c := Own.below ho3b hb5; clear h1a h2a h1b h2b hat3b ho3b ho3 hat3 h1 h2 ho4 hat4))
      have HB5 : Below w2.heap.size w2 w5 := hbr.trans (((hb3.trans (hb4.mono hb3.size)).trans (hb5.mono hs5)).mono hbr.size)
      have hwr := hbr.size
      have hca3 : m ≤ 9223372036854775807 := Nat.le_trans hc3 hcm3
      have EQ : ∀ n, Hid (Calls Try.prog 16 #[.slice A3 m c3, .slice A4 m c4] (w5.drewN n) fun e w' => e = .returned (.bool true) ∧ ∃ j, w' = w5.drewN j) := fun n => by
        refine (eqBytes _ _ _ _ c3 c4 bs bs _ (hat3c.drewN n) (hat4c.drewN n) hca3).mono ?_
        rintro e w' ⟨rfl, x, rfl⟩
        exact ⟨by simp, _, World.drewN_drewN _ _ _⟩
      clear hb3 hb4 hb5 hs5 hB3 hB4 hat3c hat4c C1 C2 C3
      go_wp2_with fail
      go_quiet ((go_at_call 16; exact (EQ _).out))
      go_wp2
      have HB6 := below_drewN HB5 nq
      have ho6 : Own (w5.drewN nq) wr.heap.size (.slice A3 m c3) bs := ho3c
      generalize w5.drewN nq = w6 at HB6 ho6 ⊢
      clear HB5 ho3c h1c h2c hB5 EQ
      go_loopw [16] (fun z wv => ∃ (k : Nat) (ys : List UInt8), k ≤ m ∧ z = .int .i64 k ∧ Own wv wr.heap.size (.slice A3 m c3) ys ∧ Below w2.heap.size w2 wv) (fun z _ => m - (intOf z).toNat)
      case atStart => exact ⟨0, bs, Nat.zero_le _, rfl, ho6, HB6⟩
      case round =>
        clear ho6 HB6
        obtain ⟨k, ys, hkm, rfl, q2, hbv⟩ := hrel
        by_cases hltk : k < m
        · obtain ⟨q, rfl, hq1, _⟩ := q2.some_ (by omega)
          have hc1 := q2.cell k hltk
          have hc2 := q2.free k
          have hrl : k < ys.length := by rw [q2.len]; exact hltk
          obtain ⟨u, hu⟩ : ∃ u, u = ys[k] := ⟨_, rfl⟩
          rw [← hu] at hc1
          have n2 := q2.set k (u + 1)
          have nb := hbv.setCell (p := ⟨q, k, none⟩) (by show w2.heap.size ≤ q; omega) (bv (u + 1))
          rw [← bv_next] at n2 nb
          clear hu hrl
          go_wp2
          go_roundw
          case rel => exact ⟨k + 1, _, by omega, by go_num, n2, nb⟩
          case measure => simp [intOf]; omega
        · have hge : m ≤ k := by omega
          clear hltk q2
          go_wp2
          go_roundw
          case rel => exact ⟨r + 1, by omega, by go_num, hbv⟩
          case measure => simp [intOf]; omega
    · have hge : N ≤ r := by omega
      obtain ⟨E, hE⟩ : ∃ E, rdE D nm = E := ⟨_, rfl⟩
      obtain ⟨bs, hbs⟩ : ∃ bs, rdB D nm = bs := ⟨_, rfl⟩
      obtain ⟨m, hm⟩ : ∃ m, bs.length = m := ⟨_, rfl⟩
      have C1 := Lib.hid (HD.out.read wr ga D F nm (HA.out _ hBr))
      have C2 := Lib.hid (fun V hB => read_ok V gb D G nm (HB.out V hB))
      have C3 := Lib.hid (fun V hB => HD.out.size V ga D F nm (HA.out V hB))
      have C4 := Lib.hid (fun V hB => size_ok V gb D G nm (HB.out V hB))
      rw [hE, hbs] at C1
      simp only [hE, hbs] at C2
      simp only [hE, hbs, hm] at C3 C4
      have hEE : (E == E) = true := by simp
      have hbb : (bs == bs) = true := beq_self_eq_true _
      have hmm : ((m : Int) == (m : Int)) = true := by simp
      have HM := Lib.hid hm
      clear hxc hyc hE hbs hm hlt hbr
      go_wp2_with (first
        | (go_at_call 25; refine C1.out.mono ?_; rintro e3 w3 ⟨v3, rfl, ho3, hb3⟩; obtain ⟨A3, c3, rfl, hat3, hc3, hcm3, _⟩ := Own.form ho3; rw [HM.out] at hat3 hc3 ⊢; have hB3 := hBr.trans (hb3.mono hBr.size))
        | (go_at_call 46; refine (C2.out _ hB3).mono ?_; rintro e4 w4 ⟨v4, rfl, ho4, hb4⟩; obtain ⟨A4, c4, rfl, hat4, hc4, hcm4, _⟩ := Own.form ho4; rw [HM.out] at hat4 ⊢; have hB4 := hB3.trans (hb4.mono hB3.size); have hat3b := hat3.below' hb4)
        | (go_at_call 26; refine (C3.out _ hB4).mono ?_; rintro e5 w5 ⟨rfl, hb5⟩; have hB5 := hB4.trans (hb5.mono hB4.size); have hat3c := hat3b.below' hb5; have hat4c := hat4.below' hb5)
        | (go_at_call 47; refine (C4.out _ hB5).mono ?_; rintro e6 w6 ⟨rfl, hb6⟩; have hB6 := hB5.trans (hb6.mono hB5.size); have hat3d := hat3c.below' hb6; have hat4d := hat4c.below' hb6; have hca3 := Nat.le_trans hc3 hcm3)
        | (go_at_call 16; refine (eqBytes _ _ _ _ _ _ bs bs _ hat3d hat4d hca3).mono ?_; rintro e7 w7 ⟨rfl, j7, rfl⟩; rw [hbb]; have hB7 := below_drewN hB6 j7))
      go_ret
      exact ⟨rfl, hB7⟩
end Go.Proofs.Ytkhalpajomammaa

namespace Go.Proofs.Ytkhalpajomammaa
open Go.RowKit

set_option maxRecDepth 100000 in
set_option maxHeartbeats 4000000 in
theorem has_w {R : DRep} (hD : DiskOk R) (w : World) (g : Nat) (D : Dk) (F : Nat → Prop) (nm : ByteArray) (A : Option Addr) (n c : Nat) (xs : List UInt8) (h : R w g D F) (hx : At w A n xs) :
    Calls Try.prog 28 #[pt g, .string nm, .slice A n c] w fun e w' => e = .returned (.bool (rdE D nm == 0 && rdB D nm == xs)) ∧ Below w.heap.size w w' := by
  have C1 := Lib.hid (hD.read w g D F nm h)
  obtain ⟨E, hE⟩ : ∃ E, rdE D nm = E := ⟨_, rfl⟩
  obtain ⟨bs, hbs⟩ : ∃ bs, rdB D nm = bs := ⟨_, rfl⟩
  obtain ⟨m, hm⟩ : ∃ m, bs.length = m := ⟨_, rfl⟩
  have HM := Lib.hid hm
  obtain ⟨q, hq⟩ : ∃ q, (bs == xs) = q := ⟨_, rfl⟩
  rw [hE, hbs] at C1 ⊢
  rw [hq]
  have HQ := Lib.hid hq
  clear hE hbs hm h hD hq
  by_cases h0 : E = 0
  · subst h0
    have e0 : ((0 : Int) == 0) = true := rfl
    rw [e0]
    go_enter Try.func28, Try.ntmps28
    go_wp2_with (first
      | (go_at_call 25; refine C1.out.mono ?_; rintro e3 w3 ⟨v3, rfl, ho3, hb3⟩; obtain ⟨A3, c3, rfl, hat3, hc3, hcm3, _⟩ := Own.form ho3; rw [HM.out] at hat3 hc3 ⊢; have hx3 := hx.below' hb3; have hca3 := Nat.le_trans hc3 hcm3)
      | (go_at_call 16; refine (eqBytes _ _ _ _ _ _ bs xs _ hat3 hx3 hca3).mono ?_; rintro e7 w7 ⟨rfl, j7, rfl⟩; rw [HQ.out]))
    go_ret
    exact ⟨rfl, below_drewN hb3 _⟩
  · have e0 : (E == 0) = false := by simpa using h0
    rw [e0, Bool.false_and]
    go_enter Try.func28, Try.ntmps28
    go_wp2_with (first
      | (go_at_call 25; refine C1.out.mono ?_; rintro e3 w3 ⟨v3, rfl, ho3, hb3⟩; obtain ⟨A3, c3, rfl, hat3, hc3, hcm3, _⟩ := Own.form ho3; rw [HM.out] at hat3 hc3 ⊢; have hx3 := hx.below' hb3; have hca3 := Nat.le_trans hc3 hcm3))
    go_ret
    exact ⟨rfl, hb3⟩
end Go.Proofs.Ytkhalpajomammaa
