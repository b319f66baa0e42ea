/-
  Layer 7: the document's disk: Remove.
-/
import Derived.Test.YtmjoaeljfhgojaaDPub
set_option linter.unusedVariables false
namespace Go.Proofs.Ytmjoaeljfhgojaa
open Go.RowKit

set_option maxRecDepth 100000 in
set_option maxHeartbeats 8000000 in
theorem remove_ok (w : World) (g : Nat) (D : Dk) (F : Nat → Prop) (nm : ByteArray) (h : RDk w g D F) :
    Calls Try.prog 39 #[pt g, .string nm] w fun e w' => e = .returned (.int .i64 (remE D nm)) ∧ Turns RDk w g F (rem D nm) w' := by
  obtain ⟨Fb, v, KA, kn, kc, qs, h⟩ := h
  have FI := Lib.hid (find_ok w g D F nm ⟨Fb, v, KA, kn, kc, qs, h⟩)
  obtain ⟨p, hp⟩ : ∃ p, pos D.l nm = p := ⟨_, rfl⟩
  obtain ⟨is, his⟩ : ∃ b, isAt D.l nm = b := ⟨_, rfl⟩
  obtain ⟨dd, hd⟩ : ∃ b, D.dead = b := ⟨_, rfl⟩
  have c1 := h.c1
  rw [hp, his] at FI
  rw [hd] at c1
  have HP := Lib.hid hp
  have HI := Lib.hid his
  have HD := Lib.hid hd
  have H := Lib.hid h
  clear h hp his hd
  cases dd with
  | true =>
    have hE : remE D nm = 71 := by unfold remE synE nmE; rw [HD.out]; rfl
    have hC : rem D nm = D := by unfold rem nmE; rw [HD.out]; rfl
    rw [hE, hC]
    go_enter Try.func39, Try.ntmps39
    go_wp2_with fail
    go_ret
    exact ⟨rfl, H.out.ends (fun k e => .inl e) (Grow.refl _ _) H.out.lt⟩
  | false =>
    cases is with
    | false =>
      have hE : remE D nm = 70 := by unfold remE synE nmE; rw [HD.out, HI.out]; rfl
      have hC : rem D nm = D := by unfold rem nmE; rw [HD.out, HI.out]; rfl
      rw [hE, hC]
      go_enter Try.func39, Try.ntmps39
      go_wp2_with (first | (go_at_call 69; refine FI.out.mono ?_; rintro e w1 ⟨rfl, hb1⟩))
      go_ret
      exact ⟨rfl, (H.out.below hb1).ends (fun k e => .inl e) (Grow.of_below hb1) H.out.lt⟩
    | true =>
      have hN : nmE D nm = 0 := by unfold nmE; rw [HD.out, HI.out]; rfl
      by_cases hl : D.left = 0
      · have hE : remE D nm = 71 := by unfold remE synE workE; rw [hN, if_pos rfl, if_pos hl]
        have hC : rem D nm = crash D D.keep := by unfold rem; rw [hN, if_pos rfl, work_yes hl]
        rw [hE, hC]
        have FA := Lib.hid (fun V (hb : Below w.heap.size w V) => fails_yes V g D F Fb _ KA kn kc qs (H.out.below hb) hl)
        clear hl hN hE hC
        go_enter Try.func39, Try.ntmps39
        go_wp2_with (first
          | (go_at_call 69; refine FI.out.mono ?_; rintro e w1 ⟨rfl, hb1⟩)
          | (go_at_call 71; refine (FA.out _ hb1).mono ?_; rintro e w2 ⟨rfl, ht2⟩))
        go_ret
        exact ⟨rfl, turns_below hb1 ht2 H.out.lt⟩
      · have hE : remE D nm = 0 := by unfold remE synE workE; rw [hN, if_pos rfl, if_neg hl]
        have hC : rem D nm = { D with l := without D.l nm, left := if 0 < D.left then D.left - 1 else D.left } := by unfold rem; rw [hN, if_pos rfl, work_no hl]
        obtain ⟨D', hD'⟩ : ∃ x, rem D nm = x := ⟨_, rfl⟩
        rw [hE, hD']
        have HC := Lib.hid (hD'.symm.trans hC)
        have FA := Lib.hid (fun V (hb : Below w.heap.size w V) => fails_no V g D F Fb v KA kn kc qs (H.out.below hb) hl)
        clear hl hN hE hC hD'
        go_enter Try.func39, Try.ntmps39
        go_wp2_with (first
          | (go_at_call 69; refine FI.out.mono ?_; rintro e w1 ⟨rfl, hb1⟩)
          | (go_at_call 71; refine (FA.out _ hb1).mono ?_; rintro e w2 ⟨rfl, hR2, hG2⟩; have HR2 := Lib.hid hR2; clear hR2)
          | (go_at_call 73; refine (without_b _ g _ F Fb _ KA kn kc qs nm HR2.out).mono ?_; rintro e w3 ⟨rfl, v3, qs3, hR3, hG3⟩; have HR3 := Lib.hid hR3; clear hR3))
        go_ret
        have hG := (Grow.of_below (F := F) hb1).trans (hG2.mono (fun k e => .inl e))
        rw [HC.out]
        exact ⟨rfl, HR3.out.ends (fun k e => by rcases e with e | e; exact .inl e; exact .inr ⟨Nat.le_trans hG.size e.1, e.2⟩) (hG.trans (hG3.mono (fun k e => .inl (e ▸ H.out.fg.1)))) H.out.lt⟩
end Go.Proofs.Ytmjoaeljfhgojaa
