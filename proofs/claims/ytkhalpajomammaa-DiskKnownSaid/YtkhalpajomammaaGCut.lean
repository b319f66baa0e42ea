/-
  Layer 7: the landed disk: Cut.
-/
import Derived.Test.YtkhalpajomammaaGCutA
import Derived.Test.YtkhalpajomammaaGRem
set_option linter.unusedVariables false
namespace Go.Proofs.Ytkhalpajomammaa
open Go.RowKit Go.Maps

set_option maxRecDepth 100000 in
set_option maxHeartbeats 8000000 in
theorem gCut (w : World) (g : Nat) (D : Dk) (F : Nat → Prop) (nm : ByteArray) (k : Int) (hk : -9223372036854775808 ≤ k ∧ k ≤ 9223372036854775807) (h : RCk w g D F) :
    Calls Try.prog 29 #[pt g, .string nm, .int .i64 k] w fun e w' => e = .returned (.int .i64 (cutE D nm k)) ∧ Turns RCk w g F (cut D nm k) w' := by
  obtain ⟨mb, fp, es, qs, h⟩ := h
  have H := Lib.hid h
  have hb0 : Below w.heap.size w (w.alloc (.cells #[.int .i64 k] 3)) := (Below.refl _ _).alloc (Nat.le_refl _) _
  by_cases hn : nmE D nm = 0
  · obtain ⟨hd, hi⟩ := nmE_zero hn
    obtain ⟨p, hp⟩ : ∃ p, pos D.l nm = p := ⟨_, rfl⟩
    obtain ⟨hq, hqn, hfa, hdl, hde⟩ := h.at_ hp hi
    have FI := Lib.hid (gFind_yes (w.alloc (.cells #[.int .i64 k] 3)) g D F mb fp es qs (h.below hb0) nm hp hn hq)
    have hbx : Below w.heap.size w ((w.alloc (.cells #[.int .i64 k] 3)).alloc (.cells #[pt qs[p].q] 71)) := hb0.alloc hb0.size _
    obtain ⟨A, cap, hv, d0, d1, hat, hcap, hcapm, _⟩ := (h.below hbx).file hq
    have hsm := h.small hq
    obtain ⟨L, hL⟩ : ∃ L, qs[p].f.bs.length = L := ⟨_, rfl⟩
    have hfl : (fileAt D.l nm).bs.length = L := by rw [hfa, hL]
    by_cases hr : k < 0 ∨ (L : Int) < k
    · have hE : cutE D nm k = 9 := by unfold cutE; rw [hn, if_pos rfl, hfl, if_pos hr]
      have hC : cut D nm k = D := by unfold cut; rw [hn, if_pos rfl, hfl, if_pos hr]
      rw [hE, hC]
      rw [hL] at d0
      have hsz : ((w.alloc (.cells #[.int .i64 k] 3)).alloc (.cells #[pt qs[p].q] 71)).cell? ⟨w.heap.size, 0, none⟩ = some (.int .i64 k) := box_cell (two_old _ _ _)
      have hbq : ((w.alloc (.cells #[.int .i64 k] 3)).alloc (.cells #[pt qs[p].q] 71)).cell? ⟨w.heap.size + 1, 0, none⟩ = some (pt qs[p].q) := box_cell (two_new _ _ _)
      generalize qs[p].q = q at *
      clear h hn hE hC hfa hde hqn hat hv hfl hL
      by_cases hk0 : k < 0
      · have g1 : decide (k < 0) = true := decide_eq_true hk0
        go_enter Try.func29, Try.ntmps29
        go_wp2_with (first
          | (go_at_call 53; refine FI.out.mono ?_; rintro e w1 ⟨rfl, rfl⟩))
        go_quiet (fail)
        go_wp2_with fail
        go_ret
        exact ⟨rfl, RCk.turn H.out (below_drewN hbx _)⟩
      · have g1 : decide (k < 0) = false := decide_eq_false hk0
        have g2 : decide ((L : Int) < k) = true := decide_eq_true (by omega)
        go_enter Try.func29, Try.ntmps29
        go_wp2_with (first
          | (go_at_call 53; refine FI.out.mono ?_; rintro e w1 ⟨rfl, rfl⟩))
        go_quiet (fail)
        go_wp2_with fail
        go_ret
        exact ⟨rfl, RCk.turn H.out (below_drewN hbx _)⟩
    · obtain ⟨K, rfl⟩ : ∃ K : Nat, k = (K : Int) := ⟨k.toNat, by omega⟩
      have hKL : K ≤ L := by omega
      have g1 : decide ((K : Int) < 0) = false := decide_eq_false (by omega)
      have g2 : decide ((L : Int) < (K : Int)) = false := decide_eq_false (by omega)
      have hsz : ((w.alloc (.cells #[.int .i64 (K : Int)] 3)).alloc (.cells #[pt qs[p].q] 71)).cell? ⟨w.heap.size, 0, none⟩ = some (.int .i64 (K : Int)) := box_cell (two_old _ _ _)
      have hbq : ((w.alloc (.cells #[.int .i64 (K : Int)] 3)).alloc (.cells #[pt qs[p].q] 71)).cell? ⟨w.heap.size + 1, 0, none⟩ = some (pt qs[p].q) := box_cell (two_new _ _ _)
      have hbd : ∀ n, Below w.heap.size w (((w.alloc (.cells #[.int .i64 (K : Int)] 3)).alloc (.cells #[pt qs[p].q] 71)).drewN n) := fun n => below_drewN hbx n
      rw [hL] at d0
      by_cases hl : D.left = 0
      · have hE : cutE D nm K = 71 := by unfold cutE workE; rw [hn, if_pos rfl, hfl, if_neg hr, if_pos hl]
        have hC : cut D nm K = crash D D.keep := by unfold cut; rw [hn, if_pos rfl, hfl, if_neg hr, work_yes hl]
        rw [hE, hC]
        have WK := Lib.hid (fun n (v : Value) => gWork_yes (((w.alloc (.cells #[.int .i64 (K : Int)] 3)).alloc (.cells #[pt qs[p].q] 71)).drewN n) g D F mb fp es qs (H.out.below (hbd n)) hd hl v)
        generalize qs[p].q = q at *
        clear h hn hE hC hfa hde hqn hat hv hfl hL
        go_enter Try.func29, Try.ntmps29
        go_wp2_with (first
          | (go_at_call 53; refine FI.out.mono ?_; rintro e w1 ⟨rfl, rfl⟩))
        go_quiet (fail)
        go_wp2_with (first
          | (go_at_call 51; refine (WK.out _ _).mono ?_; rintro e w2 ⟨rfl, ht⟩))
        go_ret
        exact ⟨rfl, Turns.new_ H.out.lt (hbd _) ht⟩
      · have hE : cutE D nm K = 0 := by unfold cutE workE; rw [hn, if_pos rfl, hfl, if_neg hr, if_neg hl]
        have hC : cut D nm K = { less D with l := (less D).l.set p ⟨nm, qs[p].f.bs.take K, min qs[p].f.mark K⟩ } := by unfold cut; rw [hn, if_pos rfl, hfl, if_neg hr, work_no hl]; unfold setAt; rw [hp, hfa]; rfl
        rw [hE, hC]
        have WK := Lib.hid (fun n => gWork_Cut (((w.alloc (.cells #[.int .i64 (K : Int)] 3)).alloc (.cells #[pt qs[p].q] 71)).drewN n) g D F mb fp es qs (h.below (hbd n)) hd hl #[pt (w.heap.size + 1), pt w.heap.size] (fun w' => Turns RCk w g F { less D with l := (less D).l.set p ⟨nm, qs[p].f.bs.take K, min qs[p].f.mark K⟩ } w') (by
          intro V hR hs hG
          obtain ⟨A', cap', hv', e0, e1, _, hc1, _⟩ := hR.file hq
          have hbox := box_cell (box_kept h.lt hG (b := w.heap.size + 1) (by omega) (two_new w (.cells #[.int .i64 (K : Int)] 3) (.cells #[pt qs[p].q] 71)))
          have hbos := box_cell (box_kept h.lt hG (b := w.heap.size) (Nat.le_refl _) (two_old w (.cells #[.int .i64 (K : Int)] 3) (.cells #[pt qs[p].q] 71)))
          have hqF : F qs[p].q := (h.cf hq).sub _ (.inl rfl)
          have hql := h.lt _ hqF
          refine (gCut1 V (w.heap.size + 1) w.heap.size qs[p].q A' _ cap' qs[p].f.mark K hbox hbos (by omega) (by omega) e0 e1 (hR.fzq hq) (by omega) hc1).mono ?_
          rintro e w' ⟨rfl, m, rfl⟩
          have hr := hR.cf hq
          have ho := hr.obj
          have hown := hr.own
          rw [hv'] at hown
          have hR2 := hR.cells' (V' := ((V.setCell ⟨qs[p].q, 0, none⟩ (.slice A' K cap')).setCell ⟨qs[p].q, 1, none⟩ (.int .i64 ((min qs[p].f.mark K : Nat) : Int))).drewN m) hq (f := ⟨nm, qs[p].f.bs.take K, min qs[p].f.mark K⟩) (v := .slice A' K cap') hqn.symm
            (by show ((V.setCell ⟨qs[p].q, 0, none⟩ (.slice A' K cap')).setCell ⟨qs[p].q, 1, none⟩ (.int .i64 ((min qs[p].f.mark K : Nat) : Int))).heap.size = _; rw [set_size, set_size])
            (fun x hx => (set_blk _ _ _ _ hx).trans (set_blk _ _ _ _ hx))
            (by show ((V.setCell ⟨qs[p].q, 0, none⟩ (.slice A' K cap')).setCell ⟨qs[p].q, 1, none⟩ (.int .i64 ((min qs[p].f.mark K : Nat) : Int))).heap[qs[p].q]? = _; simp [World.setCell, Array.getElem?_modify, ho]) (hown.take (by omega)) (fun x e => by rw [hv']; cases A' with | none => cases e | some a => exact e)
            (by show min qs[p].f.mark K ≤ (qs[p].f.bs.take K).length; rw [List.length_take]; omega) hd (by show (qs[p].f.bs.take K).length ≤ _; rw [List.length_take]; omega)
          exact ⟨rfl, hR2.ends (fun k e => .inl e) (Grow.of_new (hbd n) (((hG.set (p := ⟨qs[p].q, 0, none⟩) (.inl hqF) _).set (p := ⟨qs[p].q, 1, none⟩) (.inl hqF) _).drewN m)) h.lt⟩))
        generalize (⟨nm, qs[p].f.bs.take K, min qs[p].f.mark K⟩ : Fl) = f at *
        generalize qs[p].q = q at *
        clear h hn hE hC hfa hde hqn hat hv hfl hL
        go_enter Try.func29, Try.ntmps29
        go_wp2_with (first
          | (go_at_call 53; refine FI.out.mono ?_; rintro e w1 ⟨rfl, rfl⟩))
        go_quiet (fail)
        go_wp2_with (first
          | (go_at_call 51; refine (WK.out _).mono ?_; rintro e w2 ⟨rfl, ht⟩))
        go_ret
        exact ⟨rfl, ht⟩
  · have FI := Lib.hid (fun V (hb : Below w.heap.size w V) => gFind_no V g D F mb fp es qs (H.out.below hb) nm hn)
    have hE : cutE D nm k = nmE D nm := by unfold cutE; rw [if_neg hn]
    have hC : cut D nm k = D := by unfold cut; rw [if_neg hn]
    rw [hE, hC]
    have hne : (nmE D nm == 0) = false := by simpa using hn
    generalize nmE D nm = E at *
    clear h hn hE hC
    go_enter Try.func29, Try.ntmps29
    go_wp2_with (first
      | (go_at_call 53; refine (FI.out _ (by first | exact Below.refl _ _ | exact (Below.refl _ _).alloc (Nat.le_refl _) _)).mono ?_; rintro e w1 ⟨rfl, rfl⟩))
    go_ret
    exact ⟨rfl, RCk.turn H.out (by first | exact hb0.alloc hb0.size _)⟩
end Go.Proofs.Ytkhalpajomammaa
