/-
  Layer 7: the landed disk: Turn, Fail.
-/
import Derived.Test.YtmjoaeljfhgojaaGEasy
set_option linter.unusedVariables false
namespace Go.Proofs.Ytmjoaeljfhgojaa
open Go.RowKit Go.Maps

set_option maxRecDepth 100000 in
set_option maxHeartbeats 4000000 in
theorem gTurn (w : World) (g : Nat) (D : Dk) (F : Nat → Prop) (nm : ByteArray) (i b : Int) (hi0 : -9223372036854775808 ≤ i ∧ i ≤ 9223372036854775807) (hb0 : -9223372036854775808 ≤ b ∧ b ≤ 9223372036854775807) (h : RCk w g D F) :
    Calls Try.prog 34 #[pt g, .string nm, .int .i64 i, .int .i64 b] w fun e w' => e = .returned (.int .i64 (trnE D nm i b)) ∧ Turns RCk w g F (trn D nm i b) w' := by
  obtain ⟨mb, fp, es, qs, h⟩ := h
  have H := Lib.hid h
  by_cases hn : nmE D nm = 0
  · obtain ⟨hd, hi⟩ := nmE_zero hn
    obtain ⟨p, hp⟩ : ∃ p, pos D.l nm = p := ⟨_, rfl⟩
    obtain ⟨hq, hqn, hfa, hdl, hde⟩ := h.at_ hp hi
    have FI := Lib.hid (gFind_yes w g D F mb fp es qs h nm hp hn hq)
    obtain ⟨A, cap, hv, d0, d1, hat, _⟩ := h.file hq
    have hsm := h.small hq
    obtain ⟨L, hL⟩ : ∃ L, qs[p].f.bs.length = L := ⟨_, rfl⟩
    have hfl : (fileAt D.l nm).bs.length = L := by rw [hfa, hL]
    by_cases hr : i < 0 ∨ (L : Int) ≤ i ∨ b < 0 ∨ 7 < b
    · have hE : trnE D nm i b = 9 := by unfold trnE; rw [hn, if_pos rfl, hfl, if_pos hr]
      have hC : trn D nm i b = D := by unfold trn; rw [hE, if_neg (by decide)]
      rw [hE, hC]
      rw [hL] at d0
      generalize qs[p].q = q at *
      clear h hn hE hC hfa hde hqn hat hv hfl hL
      go_enter Try.func34, Try.ntmps34
      go_wp2_with (first
        | (go_at_call 53; refine FI.out.mono ?_; rintro e w1 ⟨rfl, rfl⟩))
      all_goals first
        | (exfalso; omega)
        | (go_ret; exact ⟨rfl, RCk.turn H.out (Below.refl _ _)⟩)
    · have hE : trnE D nm i b = 0 := by unfold trnE; rw [hn, if_pos rfl, hfl, if_neg hr]
      have hC : trn D nm i b = { D with l := D.l.set p ⟨nm, flip qs[p].f.bs i.toNat b.toNat, qs[p].f.mark⟩ } := by unfold trn; rw [hE, if_pos rfl]; unfold setAt; rw [hp, hfa]
      obtain ⟨a, rfl⟩ : ∃ a : Nat, i = (a : Int) := ⟨i.toNat, by omega⟩
      obtain ⟨t, rfl⟩ : ∃ t : Nat, b = (t : Int) := ⟨b.toNat, by omega⟩
      have haL : a < L := by omega
      have ht7 : t ≤ 7 := by omega
      rw [hE, hC, Int.toNat_natCast, Int.toNat_natCast]
      have hr0 := h.cf hq
      have hown := hr0.own
      rw [hv, hL] at hown
      obtain ⟨ob, rfl, _, hob⟩ := hown.some_' hL (by omega)
      obtain ⟨x, hx⟩ : ∃ x, qs[p].f.bs[a]'(by rw [hL]; exact haL) = x := ⟨_, rfl⟩
      have hcl : w.cell? ⟨ob, a, none⟩ = some (.int .u8 (x.toNat : Int)) := by rw [← hx]; exact hown.cell' hL a haL
      have hfz : w.frozen? ⟨ob, a, none⟩ = false := hown.free' hL a
      have haI : (a : Int) < (L : Int) := by omega
      have haI0 : (0 : Int) ≤ (a : Int) := by omega
      have hx8 := x.toNat_lt
      obtain ⟨y, hy⟩ : ∃ y, x ^^^ ((1 : UInt8) <<< UInt8.ofNat t) = y := ⟨_, rfl⟩
      have hvx : bits .xor .u8 (x.toNat : Int) (IntKind.u8.wrap ((2 : Int) ^ t)) = (y.toNat : Int) := by rw [shl_t t ht7, xor_u8, hy]
      have hfp : flip qs[p].f.bs a t = qs[p].f.bs.set a y := by unfold flip; rw [List.getD_eq_getElem?_getD, List.getElem?_eq_getElem (by rw [hL]; exact haL), Option.getD_some, hx, hy]
      have hLs : (qs[p].f.bs.set a y).length = L := by rw [List.length_set, hL]
      have hobq : ob ≠ qs[p].q := fun e => by
        rcases hown.2 with ⟨e2, _⟩ | ⟨z, c2, cur, e2, _, hh, _⟩
        · cases e2
        · injection e2 with e2
          injection e2 with e2
          injection e2 with e2
          rw [← e2, e, hr0.obj] at hh
          injection hh with hh
          injection hh with _ hh _
          exact absurd hh (by decide)
      have hbF : F ob := hr0.sub _ (.inr (by rw [hv]; rfl))
      have hR2 : RC (w.setCell ⟨ob, a, none⟩ (.int .u8 (y.toNat : Int))) g { D with l := D.l.set p ⟨nm, qs[p].f.bs.set a y, qs[p].f.mark⟩ } F mb fp es (qs.set p ⟨⟨nm, qs[p].f.bs.set a y, qs[p].f.mark⟩, qs[p].q, qs[p].v⟩) := by
        refine h.put (c := ⟨⟨nm, qs[p].f.bs.set a y, qs[p].f.mark⟩, qs[p].q, qs[p].v⟩) hq rfl hqn.symm (fun _ e => e) (fun k e => by rw [set_size]; exact h.lt k e) (fun k _ hk => set_blk _ _ _ _ (fun e => hk (.inr (by rw [hv, e]; rfl)))) ⟨(set_blk _ _ _ _ hobq.symm).trans hr0.obj, ?_, hr0.sub⟩ (fun k e => .inl e) (fun e => by rw [hd] at e; cases e)
          (ok_set h.ok hdl (by rw [hde]; exact hqn.symm) (by show qs[p].f.mark ≤ (qs[p].f.bs.set a y).length; rw [hLs, ← hL]; exact hsm.1) (by rw [hde]; have := h.ok.sum; show sum D.l + (qs[p].f.bs.set a y).length ≤ 4194304 + qs[p].f.bs.length; rw [hLs, hL]; omega))
        rw [hv, hL]
        exact hown.set a y
      have HR2 := Lib.hid hR2
      rw [hfp]
      rw [hL] at d0
      generalize (⟨nm, qs[p].f.bs.set a y, qs[p].f.mark⟩ : Fl) = f at *
      generalize hqv : qs[p].q = q at *
      clear h hn hE hC hfa hde hqn hat hv hfl hR2 hr hr0 hown hx hy hLs hfp hobq
      go_enter Try.func34, Try.ntmps34
      go_wp2_with (first
        | (go_at_call 53; refine FI.out.mono ?_; rintro e w1 ⟨rfl, rfl⟩))
      go_region_with (fail)
      all_goals
        go_wp2_with fail
        go_ret
        exact ⟨rfl, (HR2.out.below (Below.refl _ _).drew).ends (fun k e => .inl e) (((Grow.refl _ _).set (p := ⟨ob, a, none⟩) (.inl hbF) _).drewN 1) H.out.lt⟩
  · have FI := Lib.hid (gFind_no w g D F mb fp es qs h nm hn)
    have hE : trnE D nm i b = nmE D nm := by unfold trnE; rw [if_neg hn]
    have hC : trn D nm i b = D := by unfold trn; rw [hE, if_neg hn]
    rw [hE, hC]
    have hne : (nmE D nm == 0) = false := by simpa using hn
    generalize nmE D nm = E at *
    clear h hn hE hC
    go_enter Try.func34, Try.ntmps34
    go_wp2_with (first
      | (go_at_call 53; refine FI.out.mono ?_; rintro e w1 ⟨rfl, rfl⟩))
    go_ret
    exact ⟨rfl, RCk.turn H.out (Below.refl _ _)⟩
end Go.Proofs.Ytmjoaeljfhgojaa
