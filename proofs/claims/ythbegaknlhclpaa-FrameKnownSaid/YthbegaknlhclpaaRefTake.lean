/-
  The document's answers: TakeNum.
-/
import Derived.Test.YthbegaknlhclpaaRefNum
import Derived.Test.YthbegaknlhclpaaCut
set_option linter.unusedVariables false
namespace Go.Proofs.Ythbegaknlhclpaa
open Go.RowKit

/-- What TakeNum leaves. -/
def TkPost (w : World) (b : List UInt8) (e : Ending) (w' : World) : Prop :=
  ∃ r, e = .returned (.tuple #[.int .i64 (tk b).1, r, .int .i64 (tk b).2.2]) ∧ Own w' w.heap.size r (tk b).2.1 ∧ Below w.heap.size w w'

theorem TkPost.err {w w' : World} {b : List UInt8} {x : Nat} (h : tk b = (0, [], x)) (hb : Below w.heap.size w w') : TkPost w b (.returned (.tuple #[.int .i64 0, .slice none 0 0, .int .i64 x])) w' := by
  refine ⟨.slice none 0 0, ?_, ?_, hb⟩ <;> rw [h]
  · rfl
  · exact World.ownsRow_nil _ _ _ _

theorem below_drewN {B : Nat} {a w : World} (h : Below B a w) (n : Nat) : Below B a (w.drewN n) := ⟨h.os, h.tape, h.output, h.size, h.block⟩

theorem take_succ_val (q : List UInt8) (i : Nat) (h : i < q.length) : val (q.take (i + 1)) = val (q.take i) * 256 + q[i].toNat := by
  rw [List.take_succ_eq_append_getElem h, val_snoc]

theorem enc_eq (k : Nat) (d : UInt8) (q : List UInt8) (hk : d.toNat = k) (hq : q.length = k) (hh : q.head? ≠ some 0) : enc (val q) = d :: q := by
  unfold enc
  rw [digs_val q hh, hq]
  congr 1
  apply UInt8.toNat_inj.1
  rw [UInt8.toNat_ofNat']
  have := d.toNat_lt
  omega
theorem enc_ne (d : UInt8) (q : List UInt8) (hh : q.head? = some 0) : (enc (val q) == d :: q) = false := by
  apply beq_eq_false_iff_ne.2
  intro h
  unfold enc at h
  injection h with _ h
  have := digs_head (val q)
  rw [h] at this
  exact this hh

set_option maxHeartbeats 2000000 in
theorem refTakeNum (A : Option Addr) (n c : Nat) (b : List UInt8) (w : World) (hx : At w A n b) (hnc : n ≤ c) (hc : c ≤ 9223372036854775807) (hn : n ≤ 225000000000000) :
    Calls Try.prog 34 #[.slice A n c] w (TkPost w b) := by
  cases b with
  | nil =>
    obtain rfl : n = 0 := by have := hx.1; simpa using this.symm
    have HP := Lib.hid (TkPost.err (w := w) tk_nil (Below.refl _ _))
    go_enter Try.func34, Try.ntmps34
    go_wp2
    go_ret3
    exact HP.out
  | cons d r =>
    have hlen := hx.1
    simp only [List.length_cons] at hlen
    have hn0 : 0 < n := by omega
    obtain ⟨bk, o, rfl, hcell⟩ := hx.at_ hn0
    have hc0 := hcell 0 (by simp)
    simp only [List.getElem_cons_zero, Nat.add_zero] at hc0
    obtain ⟨k, hk⟩ : ∃ k, k = d.toNat := ⟨_, rfl⟩
    have hk256 : k < 256 := by rw [hk]; exact d.toNat_lt
    rw [← hk] at hc0
    have hne : ((n : Int) == 0) = false := by simp; omega
    by_cases h7 : 7 < k
    · have HP := Lib.hid (TkPost.err (w := w) (tk_big d r (by omega)) (Below.refl _ _))
      clear hk hlen hcell
      go_enter Try.func34, Try.ntmps34
      go_wp2
      go_ret3
      exact HP.out
    · by_cases hs : r.length < k
      · have HP := Lib.hid (TkPost.err (w := w) (tk_short d r (by omega) (by omega)) (Below.refl _ _))
        have hs' : n < 1 + k := by omega
        clear hk hlen hcell hs
        go_enter Try.func34, Try.ntmps34
        go_wp2
        go_ret3
        exact HP.out
      · have hkr : k ≤ r.length := by omega
        have hk7 : k ≤ 7 := by omega
        have hkn : 1 + k ≤ n := by omega
        obtain ⟨q, hq⟩ : ∃ q, q = r.take k := ⟨_, rfl⟩
        have hql : q.length = k := by rw [hq, List.length_take]; omega
        have hqc : ∀ i, (h : i < q.length) → w.cell? ⟨bk, o + (1 + i), none⟩ = some (.int .u8 (q[i].toNat : Int)) := by
          intro i h
          have := hcell (1 + i) (by simp; omega)
          rw [this]
          subst hq
          simp [Nat.add_comm 1 i]
        have hv56 : ∀ i, val (q.take i) < 72057594037927936 := fun i => by
          have h1 := val_lt (q.take i)
          have h4 : 256 ^ (q.take i).length ≤ 256 ^ 7 := Nat.pow_le_pow_right (by omega) (by rw [List.length_take]; omega)
          omega
        have hqt : q.take k = q := by rw [← hql, List.take_length]
        have HQ := Lib.hid hq
        have HQL := Lib.hid hql
        have HQC := Lib.hid hqc
        have HV := Lib.hid hv56
        have HK := Lib.hid hk
        have HLEN := Lib.hid hlen
        have HQT := Lib.hid hqt
        have hne1 : 1 ≤ n := by omega
        clear hq hql hqc hv56 hk hlen hcell hs hqt
        go_enter Try.func34, Try.ntmps34
        go_wp2
        go_loop [6, 7] (fun x y => ∃ i v : Nat, i ≤ k ∧ y = .int .i64 ((1 + i : Nat) : Int) ∧ x = .int .i64 v ∧ Hid (v = val (q.take i))) (fun _ y => 8 - (intOf y).toNat)
        case atStart => exact ⟨0, 0, Nat.zero_le _, rfl, rfl, by simp [Hid, val]⟩
        case round =>
          obtain ⟨i, v, hik, rfl, rfl, hv⟩ := hrel
          by_cases hlt : i < k
          · have hiq : i < q.length := by rw [HQL.out]; exact hlt
            have hci := HQC.out i hiq
            have hnext := take_succ_val q i hiq
            obtain ⟨u, hu⟩ : ∃ u, u = q[i].toNat := ⟨_, rfl⟩
            have hu256 : u < 256 := by rw [hu]; exact q[i].toNat_lt
            rw [← hu] at hci hnext
            rw [← hv.out] at hnext
            have hvb := HV.out (i + 1)
            rw [hnext] at hvb
            have HN := Lib.hid hnext
            clear hnext hu
            go_wp2
            go_round
            case rel => exact ⟨i + 1, v * 256 + u, by omega, by go_num, by go_num, HN.out.symm⟩
            case measure => simp [intOf]; omega
          · obtain rfl : i = k := by omega
            have hvq : v = val q := by rw [hv.out, HQT.out]
            have hqr : q = r.take d.toNat := by rw [HQ.out, HK.out]
            have hv0 : v = val (r.take d.toNat) := by rw [hvq, hqr]
            have hki : ¬ (i < i) := by omega
            have hvb := HV.out i
            rw [← hv.out] at hvb
            by_cases hbig : 9007199254740991 < v
            · have hgr := tk_great d r (by rw [← HK.out]; exact hk7) (by rw [← HK.out]; exact hkr) (by rw [← hv0]; exact hbig)
              have HP := Lib.hid (fun w' h => TkPost.err (w := w) (w' := w') hgr h)
              have hbig' : (9007199254740991 : Int) < (v : Int) := by omega
              clear hvq hqr hv0 hgr hbig
              go_wp2_with fail
              refine (refNum_no (v : Int) _ (.inr hbig')).mono ?_
              rintro e w1 ⟨rfl, rfl⟩
              go_wp2
              go_ret3
              exact HP.out _ (Below.refl _ _)
            · have hv53 : v ≤ 9007199254740991 := by omega
              have hpre : ∀ w', Below w.heap.size w w' → At w' (some ⟨bk, o, none⟩) (1 + i) (d :: q) := fun w' hb => by
                have h1 := (hx.cut (l := 0) (k := 1 + i) (m := c) (by omega) hkn (by omega)).below' hb
                rw [cutA_zero] at h1
                have h2 : ((d :: r).take (1 + i)).drop 0 = d :: q := by
                  rw [Nat.add_comm, List.take_succ_cons, HQ.out]; rfl
                rw [h2] at h1
                simpa using h1
              have HPRE := Lib.hid hpre
              have HVQ := Lib.hid hvq
              by_cases hh : q.head? = some 0
              · have hi0 : 0 < i := by
                  rcases Nat.eq_zero_or_pos i with h0 | h0
                  · have := HQL.out
                    rw [h0] at this
                    rw [List.eq_nil_of_length_eq_zero this] at hh
                    simp at hh
                  · exact h0
                have hzz : tk (d :: r) = (0, [], 4) := by
                  cases r with
                  | nil => simp at hkr; omega
                  | cons x r' =>
                    have hx0 : x = 0 := by
                      rw [HQ.out, List.head?_take, if_neg (by omega)] at hh
                      simpa using hh
                    subst hx0
                    exact tk_zero d r' (by rw [← HK.out]; exact hk7) (by rw [← HK.out]; exact hkr) (by rw [← HK.out]; exact hi0)
                have HP := Lib.hid (fun w' h => TkPost.err (w := w) (w' := w') hzz h)
                have HF := Lib.hid (enc_ne d q hh)
                clear hvq hqr hv0 hzz hbig hpre hh
                go_wp2_with fail
                refine (refNum v _ hv53).mono ?_
                rintro e w1 ⟨x1, rfl, hown, hb1⟩
                obtain ⟨A1, c1, rfl, hat1, _, _, _⟩ := hown.form
                have hp1 := HPRE.out w1 hb1
                have hfe := HF.out
                rw [← HVQ.out] at hfe
                obtain ⟨l1, hl1⟩ : ∃ l, l = enc v := ⟨_, rfl⟩
                have hel := enc_len v hv53
                rw [← hl1] at hat1 hel hfe ⊢
                have HFE := Lib.hid hfe
                obtain ⟨n1, hn1⟩ : ∃ n, n = l1.length := ⟨_, rfl⟩
                rw [← hn1] at hat1 hel ⊢
                clear hl1 hn1 hown hfe
                go_wp2_with fail
                refine (eqBytes _ _ n1 (1 + i) c1 _ l1 (d :: q) _ hat1 hp1 (by omega)).mono ?_
                rintro e w2 ⟨rfl, j, rfl⟩
                rw [HFE.out]
                go_wp2
                go_ret3
                exact HP.out _ (below_drewN hb1 _)
              · have hgd := tk_good d r (by rw [← HK.out]; exact hk7) (by rw [← HK.out]; exact hkr) (by
                  rcases Nat.eq_zero_or_pos i with h0 | h0
                  · exact .inr (by rw [← HK.out]; exact h0)
                  · left
                    intro h
                    apply hh
                    rw [HQ.out, List.head?_take, if_neg (by omega)]
                    exact h) (by rw [← hv0]; exact hv53)
                rw [← hv0, ← HK.out] at hgd
                have HGD := Lib.hid hgd
                have HF := Lib.hid (enc_eq i d q HK.out.symm HQL.out hh)
                obtain ⟨A2, hA2⟩ : ∃ A2, A2 = cutA (some ⟨bk, o, none⟩) c (1 + i) := ⟨_, rfl⟩
                have hrest : At w A2 (n - (1 + i)) (r.drop i) := by
                  have h1 := hx.cut (l := 1 + i) (k := n) (m := c) hkn (Nat.le_refl _) hnc
                  have h2 : ((d :: r).take n).drop (1 + i) = r.drop i := by
                    rw [List.take_of_length_le (by rw [hx.1]; exact Nat.le_refl _), Nat.add_comm, List.drop_succ_cons]
                  rw [h2, ← hA2] at h1
                  exact h1
                have hsl : ∀ W, (Instr.sliceAt 22 (.slice (some ⟨bk, o, none⟩) n c) (some (.int .i64 (1 + (i : Int)))) none none).run Try.prog W = .ok (.slice A2 (n - (1 + i)) (c - (1 + i))) W := fun W => by
                  rw [run_sliceAt_slice W _ _ _ _ _ slb_under, slb_l _ n c .i64 (1 + (i : Int)) W (by omega) (by omega), hA2, show (1 + (i : Int)).toNat = 1 + i from by omega]
                clear hvq hqr hv0 hgd hbig hpre hh hA2
                go_wp2_with fail
                refine (refNum v _ hv53).mono ?_
                rintro e w1 ⟨x1, rfl, hown, hb1⟩
                obtain ⟨A1, c1, rfl, hat1, _, _, _⟩ := hown.form
                have hp1 := HPRE.out w1 hb1
                have hr1 := hrest.below' hb1
                have hfe := HF.out
                rw [← HVQ.out] at hfe
                obtain ⟨l1, hl1⟩ : ∃ l, l = enc v := ⟨_, rfl⟩
                have hel := enc_len v hv53
                rw [← hl1] at hat1 hel hfe ⊢
                have HFE := Lib.hid (show (l1 == d :: q) = true by rw [hfe]; simp)
                obtain ⟨n1, hn1⟩ : ∃ n, n = l1.length := ⟨_, rfl⟩
                rw [← hn1] at hat1 hel ⊢
                clear hl1 hn1 hown hfe
                go_wp2_with fail
                refine (eqBytes _ _ n1 (1 + i) c1 _ l1 (d :: q) _ hat1 hp1 (by omega)).mono ?_
                rintro e w2 ⟨rfl, j, rfl⟩
                rw [HFE.out]
                go_wp2_with fail
                refine (copyBytes _ _ _ (r.drop i) _ (hr1.drewN j) (by omega)).mono ?_
                rintro e w3 ⟨r3, rfl, hown3, hb3⟩
                have hsz := hb1.size
                have hbel : Below w.heap.size w w3 := (below_drewN hb1 j).trans (hb3.mono (by simpa using hsz))
                have hown3' := hown3.base (B' := w.heap.size) (by simpa using hsz)
                clear hown3 hb3
                go_wp2
                go_ret3
                refine ⟨r3, ?_, ?_, hbel⟩ <;> rw [HGD.out]
                · rfl
                · exact hown3'
end Go.Proofs.Ythbegaknlhclpaa
