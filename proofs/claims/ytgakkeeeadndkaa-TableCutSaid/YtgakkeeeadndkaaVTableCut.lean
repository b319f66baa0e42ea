/-
  Layer 10: TableCut, walked.
-/
import Derived.Test.YtgakkeeeadndkaaTbMadeH
set_option linter.unusedVariables false
namespace Go.Proofs.Ytgakkeeeadndkaa
open Go.RowKit Go.Shelf

/-- What stands between is put together of its pieces. -/
theorem rpos_mono {r : List Rw} (hs : RSor r) {a b : ByteArray} (h : kl b a = false) : rpos r a ≤ rpos r b := by
  refine Nat.le_of_not_lt fun hlt => ?_
  obtain ⟨hi, h1⟩ := rpos_lt hlt
  have h2 := rpos_ge hs (Nat.le_refl _) hi
  cases h3 : kl a b with
  | true => rw [kl_trans h1 h3] at h2; cases h2
  | false =>
    have e := kl_total h3 h
    subst e
    omega
theorem btw_join {r : List Rw} (hs : RSor r) {f m : ByteArray} (h : kl m f = false) (hm : m.toList ≠ []) : btw r f m ++ btw r m ⟨#[]⟩ = btw r f ⟨#[]⟩ := by
  have h1 := rpos_mono hs h
  have h2 := rpos_le r m
  have e : rend r m = rpos r m := by unfold rend; rw [if_neg hm]
  unfold btw
  rw [e, rend_emp, List.take_length]
  have h3 := congrArg (List.drop (rpos r f)) (List.take_append_drop (rpos r m) r)
  rw [List.drop_append_of_le_length (by rw [List.length_take]; omega)] at h3
  exact h3
theorem RRow.lift {w : World} {B n : Nat} {v : Value} {L : List Rw} (h : RRow w 0 v n L) (hb : ∀ k, v.ownBlock = some k → B ≤ k) : RRow w B v n L := by
  refine ⟨h.1, ?_⟩
  rcases h.2 with hn | ⟨g, cap, cur, hv, _, rest⟩
  · exact .inl hn
  · exact .inr ⟨g, cap, cur, hv, hb g (by rw [hv]; rfl), rest⟩
/-- A row that will grow, and another one beside it. -/
theorem Has.growRw {w V : World} {l : List As} {v u : Value} {L L2 : List Rw} (h : Has w (rwA v L :: rwA u L2 :: l) V) : RRow V w.heap.size v L.length L ∧ (∀ k, v.ownBlock = some k → w.heap.size ≤ k) ∧ ∀ V', V.grownBy V' v.ownBlock → RRow V' 0 u L2.length L2 := by
  obtain ⟨F, h1, h1b, h2, _⟩ := h.step2
  have hb : ∀ k, v.ownBlock = some k → w.heap.size ≤ k := fun k e => h1b k ((h1.2 k).2 e)
  refine ⟨RRow.lift h1.1 hb, hb, fun V' hg => ?_⟩
  obtain ⟨F2, h3⟩ := h2 V' (Grow.by_ hg (fun k e => (h1.2 k).2 e))
  exact h3.1
set_option maxRecDepth 100000 in
set_option maxHeartbeats 8000000 in
theorem tableCut_w (A : Option Addr) (n c : Nat) (f m : ByteArray) (w : World) (bs : List (List Op_)) (hb : BAt w A n bs) (hz : ∀ b ∈ bs, OSz b) (hn : n ≤ 9223372036854775807) :
    Calls Try.prog 8 #[.slice A n c, .string f, .string m] w fun e w' => e = .returned (.bool true) ∧ Below w.heap.size w w' := by
  have hok := tabs_ok hz (min n 30)
  have hl := hok.len
  obtain ⟨R, hR⟩ : ∃ R, tabs bs (min n 30) = R := ⟨_, rfl⟩
  rw [hR] at hok hl
  have hl2 : R.length ≤ 3840 := by omega
  have H0 := Lib.hid (Has.nil (Below.refl _ w))
  have HZ := Lib.hid hok.szs
  have MA := Lib.hid (fun V l (h : Has w l V) (s : Int) => h.tbMade s A n c bs hb hz hn R hR)
  have hlen : ∀ a b, (btw R a b).length ≤ 3840 := fun a b => by have h1 := btw_len R a b; have h2 := rend_le R b; omega
  obtain ⟨B, hB⟩ : ∃ B, btw R f ⟨#[]⟩ = B := ⟨_, rfl⟩
  have hbl : B.length ≤ 3840 := hB ▸ hlen _ _
  obtain ⟨D, hD⟩ : ∃ D, B.reverse = D := ⟨_, rfl⟩
  have hdl : D.length ≤ 3840 := by rw [← hD, List.length_reverse]; exact hbl
  have HBB := Lib.hid hB
  have HDD := Lib.hid hD
  have HBD := Lib.hid (show (btw R f ⟨#[]⟩).reverse = D from by rw [hB, hD])
  obtain ⟨E1, hE1⟩ : ∃ E, btw R f m = E := ⟨_, rfl⟩
  obtain ⟨E2, hE2⟩ : ∃ E, btw R m ⟨#[]⟩ = E := ⟨_, rfl⟩
  have he1 : E1.length ≤ 3840 := hE1 ▸ hlen _ _
  have he2 : E2.length ≤ 3840 := hE2 ▸ hlen _ _
  have HE1 := Lib.hid hE1
  have HE2 := Lib.hid hE2
  have HJ := Lib.hid (fun (h : kl m f = false) (hm : m.toList ≠ []) => (show E1 ++ E2 = B from by rw [← hE1, ← hE2, ← hB]; exact btw_join hok.sor h hm))
  clear hb hz hok hl hR hB hD hE1 hE2 hlen
  go_enter Try.func8, Try.ntmps8
  go_upto_region 7 with (first
    | (go_at_call 20; refine (Has.tbWorks H0.out).mono ?_; rintro e w1 ⟨rfl, h1⟩; have H1 := Lib.hid h1; clear h1 H0)
    | (go_at_call 27; refine (MA.out _ _ H1.out 5).mono ?_; rintro e w2 ⟨p, b, rfl, h2⟩; have H2 := Lib.hid h2; clear h2 H1)
    | (go_at_call 24; (with_reducible refine (Has.tbRangedUM H2.out (p := p) (r := R) (by simp) HZ.out (by omega) f ⟨#[]⟩ B HBB.out).mono ?_); rintro e w3 ⟨A3, c3, rfl, h3, hw3, hc3, hd3, -⟩; have H3 := Lib.hid h3; have W3 := Lib.hid hw3; clear h3 hw3 H2)
    | (go_at_call 25; (with_reducible refine (Has.turnedM H3.out A3 B.length c3 B D W3.out (by omega) HDD.out).mono ?_); rintro e w4 ⟨A4, c4, rfl, h4, hw4, hc4, hd4, hb4⟩; have H4 := Lib.hid h4; have W4 := Lib.hid hw4; have W34 := Lib.hid (W3.out.below hb4); clear h4 hw4 hb4 H3)
    | (go_at_call 24; (with_reducible refine (Has.tbRangedDM H4.out (p := p) (r := R) (by simp) HZ.out (by omega) f ⟨#[]⟩ D HBD.out).mono ?_); rintro e w5 ⟨A5, c5, rfl, h5, hw5, hc5, hd5, hb5⟩; have H5 := Lib.hid h5; have W5 := Lib.hid hw5; have W45 := Lib.hid (W4.out.below hb5); have W35 := Lib.hid (W34.out.below hb5); clear h5 hw5 hb5 H4)
    | (go_at_call 19; (with_reducible refine (Has.sameM H5.out A4 A5 D.length D.length c4 c5 D D W45.out W5.out (by omega) (by omega) rfl).mono ?_); rintro e w6 ⟨rfl, h6, hb6⟩; have H6 := Lib.hid h6; have W36 := Lib.hid (W35.out.below hb6); clear h6 hb6 H5))
  by_cases hmf : kl m f = true
  · unfold kl at hmf
    go_wp2_with fail
    go_ret
    exact ⟨rfl, H6.out.bel⟩
  · have hmf2 : kl m f = false := by simpa using hmf
    have HMF := Lib.hid hmf2
    have hmf3 : Op.bytesLess m.toList f.toList = false := hmf2
    clear hmf hmf2
    by_cases hm0 : m.toList = []
    · have hm1 : m.toList.isEmpty = true := by rw [hm0]; rfl
      rw [hm0] at hmf3
      go_wp2_with fail
      go_ret
      exact ⟨rfl, H6.out.bel⟩
    · have hm1 : m.toList.isEmpty = false := by simpa using hm0
      have HEQ := Lib.hid (decide_eq_true (HJ.out HMF.out hm0))
      clear HJ
      go_wp2_with (first
        | (go_at_call 24; (with_reducible refine (Has.tbRangedUM H6.out (p := p) (r := R) (by simp) HZ.out (by omega) f m E1 HE1.out).mono ?_); rintro e w7 ⟨A7, c7, rfl, h7, hw7, hc7, hd7, hb7⟩; have H7 := Lib.hid h7; have W37 := Lib.hid (W36.out.below hb7); clear h7 hw7 hb7 H6)
        | (go_at_call 24; (with_reducible refine (Has.tbRangedUM H7.out (p := p) (r := R) (by simp) HZ.out (by omega) m ⟨#[]⟩ E2 HE2.out).mono ?_); rintro e w8 ⟨A8, c8, rfl, h8, hw8, hc8, hd8, hb8⟩; have W8 := Lib.hid hw8; have hg8 := Has.growRw (h8.tail.perm (l' := [rwA (.slice A7 E1.length c7) E1, rwA (.slice A3 B.length c3) B, rwA (.slice A5 D.length c5) D, rwA (.slice A4 D.length c4) D, tbA p R, mpA b 3840 R]) (List.Perm.cons _ (((List.Perm.swap _ _ _).cons _).trans (List.Perm.swap _ _ _)))); have HR8 := Lib.hid hg8.1; have HK8 := Lib.hid hg8.2.1; have HG8 := Lib.hid hg8.2.2; have HB8 := Lib.hid h8.bel; clear h8 hw8 hb8 hg8 H7)
        | (at_builtin; refine wpList_appR rfl _ _ rfl w.heap.size (.slice A7 E1.length c7) E1.length E1 E2 rfl HR8.out A8 E2.length c8 rfl W8.out (by omega) HB8.out.size ?_; intro v9 w9 hr9 hg9; obtain ⟨A9, c9, rfl, hat9, hc9, hd9⟩ := hr9.form; have W9 := Lib.hid hat9; obtain ⟨A39, c39, e39, hat39, _, _⟩ := (HG8.out w9 hg9).form; injection e39 with e39 _ e40; subst e39 e40; have W39 := Lib.hid hat39; have HB9 := Lib.hid (HB8.out.grown hg9 HB8.out.size HK8.out); clear hr9 hg9 hat9 hat39)
        | (go_at_call 19; refine (same10 A9 A3 (E1.length + E2.length) B.length c9 c3 (E1 ++ E2) B _ W9.out W39.out (by omega) (by omega)).mono ?_; rintro e w10 ⟨rfl, hb10⟩; rw [HEQ.out]))
      go_ret
      exact ⟨rfl, HB9.out.trans (hb10.mono HB9.out.size)⟩
end Go.Proofs.Ytgakkeeeadndkaa
