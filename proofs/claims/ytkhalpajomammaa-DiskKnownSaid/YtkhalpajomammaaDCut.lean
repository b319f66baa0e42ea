/-
  Layer 7: the document's disk: Cut.
-/
import Derived.Test.YtkhalpajomammaaDRen
import Derived.Lib.MinMax
set_option linter.unusedVariables false
namespace Go.Proofs.Ytkhalpajomammaa
open Go.RowKit

set_option maxRecDepth 100000 in
set_option maxHeartbeats 8000000 in
theorem cut_ok (w : World) (g : Nat) (D : Dk) (F : Nat → Prop) (nm : ByteArray) (k : Int) (hk64 : -9223372036854775808 ≤ k ∧ k ≤ 9223372036854775807) (h : RDk w g D F) :
    Calls Try.prog 37 #[pt g, .string nm, .int .i64 k] w fun e w' => e = .returned (.int .i64 (cutE D nm k)) ∧ Turns RDk w g F (cut D nm k) w' := by
  obtain ⟨Fb, v, KA, kn, kc, qs, h⟩ := h
  have FI := Lib.hid (find_ok w g D F nm ⟨Fb, v, KA, kn, kc, qs, h⟩)
  obtain ⟨p, hp⟩ : ∃ p, pos D.l nm = p := ⟨_, rfl⟩
  obtain ⟨is, his⟩ : ∃ b, isAt D.l nm = b := ⟨_, rfl⟩
  obtain ⟨dd, hd⟩ : ∃ b, D.dead = b := ⟨_, rfl⟩
  have c1 := h.c1
  rw [hp, his] at FI
  rw [hd] at c1
  have HP := Lib.hid hp
  have HI := Lib.hid his
  have HD := Lib.hid hd
  have H := Lib.hid h
  clear h hp his hd
  cases dd with
  | true =>
    have hE : cutE D nm k = 71 := by unfold cutE nmE; rw [HD.out]; rfl
    have hC : cut D nm k = D := by unfold cut nmE; rw [HD.out]; rfl
    rw [hE, hC]
    go_enter Try.func37, Try.ntmps37
    go_wp2_with fail
    go_ret
    exact ⟨rfl, H.out.ends (fun k e => .inl e) (Grow.refl _ _) H.out.lt⟩
  | false =>
    cases is with
    | false =>
      have hE : cutE D nm k = 70 := by unfold cutE nmE; rw [HD.out, HI.out]; rfl
      have hC : cut D nm k = D := by unfold cut nmE; rw [HD.out, HI.out]; rfl
      rw [hE, hC]
      go_enter Try.func37, Try.ntmps37
      go_wp2_with (first | (go_at_call 69; refine FI.out.mono ?_; rintro e w1 ⟨rfl, hb1⟩))
      go_ret
      exact ⟨rfl, (H.out.below hb1).ends (fun k e => .inl e) (Grow.of_below hb1) H.out.lt⟩
    | true =>
      have hN : nmE D nm = 0 := by unfold nmE; rw [HD.out, HI.out]; rfl
      obtain ⟨b, m, cap, bs, mk, qA, qc, hq, rfl, hgb, hm, hmc, hqe, hfa, hrf, hmk, hbl, ⟨hdl, hde⟩, hm20⟩ := H.out.file HP.out HI.out
      obtain ⟨L, hL⟩ : ∃ L, bs.length = L := ⟨_, rfl⟩
      have HQE := Lib.hid hqe
      have HL := Lib.hid hL
      have hpI : (p : Int) < (m : Int) := by omega
      have hpI0 : (0 : Int) ≤ (p : Int) := by omega
      have HCL := Lib.hid (fun V (hb : Below w.heap.size w V) => (H.out.below hb).cells hq HQE.out)
      rw [hL] at HCL hbl hmk
      by_cases hr : k < 0 ∨ (L : Int) < k
      · have hr' : k < 0 ∨ ((fileAt D.l nm).bs.length : Int) < k := by rw [hfa]; show k < 0 ∨ (bs.length : Int) < k; rw [hL]; exact hr
        have hE : cutE D nm k = 9 := by unfold cutE; rw [hN, if_pos rfl, if_pos hr']
        have hC : cut D nm k = D := by unfold cut; rw [hN, if_pos rfl, if_pos hr']
        rw [hE, hC]
        clear hE hC hN hr' hL hm hqe hfa hrf hde
        by_cases h0 : k < 0
        · have hd0 : decide (k < 0) = true := decide_eq_true h0
          go_enter Try.func37, Try.ntmps37
          go_wp2_with (first
            | (go_at_call 69; refine FI.out.mono ?_; rintro e w1 ⟨rfl, hb1⟩))
          first | go_ret | (go_quiet (fail); go_wp2_with fail; go_ret)
          exact ⟨rfl, ((H.out.below hb1).below (by first | exact Below.refl _ _ | exact below_drewN (Below.refl _ _) _)).ends (fun k e => .inl e) (Grow.of_below (by first | exact hb1 | exact below_drewN hb1 _)) H.out.lt⟩
        · have hd0 : decide (k < 0) = false := decide_eq_false h0
          have h1 : (L : Int) < k := hr.resolve_left h0
          have hd1 : decide ((L : Int) < k) = true := decide_eq_true h1
          go_enter Try.func37, Try.ntmps37
          go_wp2_with (first
            | (go_at_call 69; refine FI.out.mono ?_; rintro e w1 ⟨rfl, hb1⟩; have c0 := (H.out.below hb1).c0; obtain ⟨d0, d1, d2⟩ := HCL.out _ hb1))
          first | go_ret | (go_quiet (fail); go_wp2_with fail; go_ret)
          exact ⟨rfl, ((H.out.below hb1).below (by first | exact Below.refl _ _ | exact below_drewN (Below.refl _ _) _)).ends (fun k e => .inl e) (Grow.of_below (by first | exact hb1 | exact below_drewN hb1 _)) H.out.lt⟩
      · have hr' : ¬ (k < 0 ∨ ((fileAt D.l nm).bs.length : Int) < k) := by rw [hfa]; show ¬ (k < 0 ∨ (bs.length : Int) < k); rw [hL]; exact hr
        have hd0 : decide (k < 0) = false := decide_eq_false (by omega)
        have hd1 : decide ((L : Int) < k) = false := decide_eq_false (by omega)
        by_cases hl : D.left = 0
        · have hE : cutE D nm k = 71 := by unfold cutE workE; rw [hN, if_pos rfl, if_neg hr', if_pos hl]
          have hC : cut D nm k = crash D D.keep := by unfold cut; rw [hN, if_pos rfl, if_neg hr', work_yes hl]
          rw [hE, hC]
          have FA := Lib.hid (fun V (hb : Below w.heap.size w V) => fails_yes V g D F Fb _ KA kn kc qs (H.out.below hb) hl)
          clear hl hN hE hC hr hr' hL hm hqe hfa hrf hde
          go_enter Try.func37, Try.ntmps37
          go_wp2_with (first
            | (go_at_call 69; refine FI.out.mono ?_; rintro e w1 ⟨rfl, hb1⟩; have c0 := (H.out.below hb1).c0; obtain ⟨d0, d1, d2⟩ := HCL.out _ hb1)
            | (go_at_call 71; refine (FA.out _ hb1).mono ?_; rintro e w2 ⟨rfl, ht2⟩))
          go_ret
          exact ⟨rfl, turns_below hb1 ht2 H.out.lt⟩
        · obtain ⟨K, rfl⟩ : ∃ K : Nat, k = (K : Int) := ⟨k.toNat, by omega⟩
          have hKL : K ≤ L := by omega
          have hE : cutE D nm (K : Int) = 0 := by unfold cutE workE; rw [hN, if_pos rfl, if_neg hr', if_neg hl]
          have hC : cut D nm (K : Int) = { D with l := D.l.set p ⟨nm, bs.take K, min mk K⟩, left := if 0 < D.left then D.left - 1 else D.left } := by unfold cut; rw [hN, if_pos rfl, if_neg hr', work_no hl]; unfold setAt; rw [HP.out, hfa]; rfl
          obtain ⟨D', hD'⟩ : ∃ x, cut D nm (K : Int) = x := ⟨_, rfl⟩
          rw [hE, hD']
          have HC := Lib.hid (hD'.symm.trans hC)
          have FA := Lib.hid (fun V (hb : Below w.heap.size w V) => fails_no V g D F Fb _ KA kn kc qs (H.out.below hb) hl)
          obtain ⟨l1, hl1⟩ : ∃ x, (if 0 < D.left then D.left - 1 else D.left) = x := ⟨_, rfl⟩
          simp only [hl1] at FA
          have HL1 := Lib.hid hl1
          have hlow := H.out.ok.low
          have hhigh := H.out.ok.high
          have hlo1 : -1 ≤ l1 := by rw [← hl1]; split <;> omega
          have hhi1 : l1 ≤ 9223372036854775807 := by rw [← hl1]; split <;> omega
          obtain ⟨bt, hbt⟩ : ∃ x, bs.take K = x := ⟨_, rfl⟩
          have HTL := Lib.hid (show bt.length = K by rw [← hbt, List.length_take, hL]; omega)
          have HBT := Lib.hid hbt
          have hFb := (H.out.list.own b rfl).1
          have HDE := Lib.hid hde
          have hM2 : min mk K ≤ K := Nat.min_le_right _ _
          obtain ⟨M2, hm2⟩ : ∃ x, min mk K = x := ⟨_, rfl⟩
          have hmin : min (mk : Int) (K : Int) = (M2 : Int) := by rw [← hm2]; omega
          rw [hm2] at hM2
          have HM2 := Lib.hid hm2
          have hcapq : L ≤ qc := by have := hrf.cap; rw [← hL]; exact this
          have hSL := fun W : World => by simpa using slb_h qA L qc .i64 (K : Int) W (by omega) (by omega)
          have hkI0 : (0 : Int) ≤ (K : Int) := by omega
          clear hr hr' hd0 hd1 hl hN hE hC hqe hfa hrf hde hm hD' hl1 hL hbt hm2
          have hd0 : decide ((K : Int) < 0) = false := decide_eq_false (by omega)
          have hd1 : decide ((L : Int) < (K : Int)) = false := decide_eq_false (by omega)
          go_enter Try.func37, Try.ntmps37
          go_wp2_with (first
            | (go_at_call 69; refine FI.out.mono ?_; rintro e w1 ⟨rfl, hb1⟩; have c0 := (H.out.below hb1).c0; obtain ⟨d0, d1, d2⟩ := HCL.out _ hb1)
            | (go_at_call 71; refine (FA.out _ hb1).mono ?_; rintro e w2 ⟨rfl, hR2, hG2⟩; have y0 := hR2.c0; obtain ⟨e0, e1, e2⟩ := hR2.cells hq HQE.out; rw [HL.out] at e1; have HR2 := Lib.hid hR2; have hat := (hR2.bytes hq HQE.out).1; rw [HL.out] at hat; clear hR2 c0 d0 d1 d2))
          have CB := Lib.hid (copyB qA K qc bt w2.drew (by have h := hat.cut (l := 0) (k := K) (m := qc) (by omega) hKL (by omega); rw [cutA_zero] at h; simp at h; rw [HBT.out] at h; exact h) (by omega))
          clear hat
          have y0d : w2.drew.cell? ⟨g, 0, none⟩ = some (.slice (some ⟨b, 0, none⟩) m cap) := y0
          go_region_with (first
            | (go_at_call 11; refine CB.out.mono ?_; rintro e w3 ⟨A1, c1, rfl, hat1, hc1b, hc1m, hin1, hb3⟩; have hb3' := (Below.refl w2.heap.size w2).drew.trans hb3; have hR3 := HR2.out.grow hb3'; have z0 := hR3.c0; obtain ⟨⟨ou, hou⟩, hofz⟩ := hR3.wr (i := p) (j := 1) hq (by omega); obtain ⟨⟨ou2, hou2⟩, hofz2⟩ := hR3.wr (i := p) (j := 2) hq (by omega); have x2 := (hR3.cells hq HQE.out).2.2; have HR3 := Lib.hid hR3; have HAT1 := Lib.hid hat1; have HIN1 := Lib.hid hin1; have HB3 := Lib.hid hb3'; clear hR3 hat1 hin1 hb3 hb3'))
          all_goals
            have u0 : (w3.setCell ⟨b, p * 3 + 1, none⟩ (.slice A1 K c1)).cell? ⟨g, 0, none⟩ = some (.slice (some ⟨b, 0, none⟩) m cap) := (set_cell w3 _ hgb).trans z0
            have u2 : (w3.setCell ⟨b, p * 3 + 1, none⟩ (.slice A1 K c1)).cell? ⟨b, p * 3 + 2, none⟩ = some (.int .i64 (mk : Int)) := (set_off w3 _ (by omega)).trans x2
            have hfz : (w3.setCell ⟨b, p * 3 + 1, none⟩ (.slice A1 K c1)).frozen? ⟨b, p * 3 + 2, none⟩ = false := by rw [World.frozen?_setCell]; exact hofz2
            have hok : ({ D with l := D.l.set p ⟨nm, bt, M2⟩, left := l1 } : Dk).ok := ok_left (ok_set H.out.ok hdl (by rw [HDE.out]) (by show M2 ≤ bt.length; rw [HTL.out]; exact hM2) (by rw [HDE.out]; have := H.out.ok.sum; show sum D.l + bt.length ≤ 4194304 + bs.length; rw [HTL.out, HL.out]; omega)) l1 hlo1 hhi1
            have hR5 := HR3.out.store2 hq HQE.out HTL.out (M := M2) (A1 := A1) (c1 := c1) ⟨by show At w3 A1 bt.length bt; rw [HTL.out]; exact HAT1.out, by show bt.length ≤ c1; rw [HTL.out]; exact hc1b, hc1m, fun a e => .inr (HIN1.out a e)⟩ hok
            have HR5 := Lib.hid hR5
            clear hR5 hok y0 y0d e0 e1 e2 z0 hou hofz hou2 hofz2 x2
            go_wp2_with fail
            go_region_with (fail)
            all_goals
              go_wp2_with fail
              go_ret
              have hG := (Grow.of_below (F := F) hb1).trans (hG2.mono (fun k e => .inl e))
              have hGb := (((hG.trans (Grow.of_below HB3.out)).set (p := ⟨b, p * 3 + 1, none⟩) (.inl hFb) (.slice A1 K c1)).set (p := ⟨b, p * 3 + 2, none⟩) (.inl hFb) (.int .i64 (M2 : Int))).drewN 1
              rw [HC.out, HBT.out, HL1.out, HM2.out]
              refine ⟨rfl, (HR5.out.below (Below.refl _ _).drew).ends (fun k e => ?_) hGb H.out.lt⟩
              have z1 := hG.size
              unfold nF at e ⊢
              rcases e with e | e
              · exact .inl e
              · refine .inr ⟨by omega, ?_⟩
                show k < ((w3.setCell ⟨b, p * 3 + 1, none⟩ (.slice A1 K c1)).setCell ⟨b, p * 3 + 2, none⟩ (.int .i64 (M2 : Int))).heap.size
                rw [set_size, set_size]
                exact e.2
end Go.Proofs.Ytkhalpajomammaa
