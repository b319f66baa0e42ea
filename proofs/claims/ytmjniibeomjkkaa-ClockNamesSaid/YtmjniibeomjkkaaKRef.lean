/-
  Layer 6, the document's answer: its clock, call by call.
-/
import Derived.Test.YtmjniibeomjkkaaKRep
import Derived.Test.YtmjniibeomjkkaaSRef
import Derived.Test.YtmjniibeomjkkaaSMaxRef
import Derived.Deep.RegionWith
import Derived.Deep.QuietTactic
import Derived.BigQuiet
import Derived.IntWalk
set_option linter.unusedVariables false
namespace Go.Proofs.Ytmjniibeomjkkaa
open Go.RowKit

theorem rnew_bad (o b : Int) (w : World) (h : newBad o b = true) :
    Calls Try.prog 10 #[.int .i64 o, .int .i64 b] w fun e w' => e = .returned (.tuple #[.pointer none, .int .i64 9]) ∧ w' = w := by
  have h1 := newBad_yes.1 h
  go_enter Try.func10, Try.ntmps10
  go_wp2
  all_goals first | (exfalso; omega) | (go_ret2; exact ⟨rfl, rfl⟩) | (go_ret; exact ⟨rfl, rfl⟩)

/-- A new clock in a block. -/
def RMade (o b : Int) (w : World) (e : Ending) (w' : World) : Prop :=
  ∃ g, w.heap.size ≤ g ∧ e = .returned (.tuple #[.pointer (some ⟨g, 0, none⟩), .int .i64 0]) ∧ RClk w' g (newC o b) ∧ Below w.heap.size w w'
theorem rclk_new (w : World) (c : Ck) (h : c.ok) : RClk (w.alloc (.cells (rcells c) 38)) w.heap.size c := ⟨heap_alloc_new w _, h⟩

theorem rnew_ok (o b : Int) (w : World) (h : newBad o b = false) :
    Calls Try.prog 10 #[.int .i64 o, .int .i64 b] w (RMade o b w) := by
  obtain ⟨⟨h1, h2⟩, h3, h4⟩ := newBad_no.1 h
  have hok := Lib.hid (newC_ok h)
  clear h
  by_cases hb0 : 0 < b
  · have hz := Lib.hid (show newC o b = ⟨o, 0, b, b, b - 1, 1048575⟩ by unfold newC; rw [if_pos hb0, if_pos hb0])
    go_enter Try.func10, Try.ntmps10
    go_wp2
    go_ret2
    exact ⟨w.heap.size, Nat.le_refl _, rfl, by rw [hz.out]; exact rclk_new w _ (hz.out ▸ hok.out), (Below.refl w.heap.size w).alloc (Nat.le_refl _) _⟩
  · have hz := Lib.hid (show newC o b = ⟨o, 0, b, b, 0, 0⟩ by unfold newC; rw [if_neg hb0, if_neg hb0])
    go_enter Try.func10, Try.ntmps10
    go_wp2
    go_ret2
    exact ⟨w.heap.size, Nat.le_refl _, rfl, by rw [hz.out]; exact rclk_new w _ (hz.out ▸ hok.out), (Below.refl w.heap.size w).alloc (Nat.le_refl _) _⟩

theorem rset (w : World) (g : Nat) (c : Ck) (r : Int) (h : RClk w g c) :
    Calls Try.prog 29 #[.pointer (some ⟨g, 0, none⟩), .int .i64 r] w fun e w' => e = .returned (.int .i64 (setE c r)) ∧ RClk w' g (setC c r) ∧ w.grownBy w' (some g) := by
  have c1 : w.cell? ⟨g, 1, none⟩ = some (.int .i64 c.rd) := h.cell 1
  have z1 := h.fz 1
  by_cases hh : r < c.rd ∨ 1099511627776 < r
  · have hE := Lib.hid (show setE c r = 9 by unfold setE; rw [if_pos hh])
    have hC := Lib.hid (show setC c r = c by unfold setC; rw [if_pos hh])
    go_enter Try.func29, Try.ntmps29
    go_wp2
    all_goals first | (exfalso; omega) | skip
    all_goals go_ret
    all_goals exact ⟨by rw [hE.out]; rfl, by rw [hC.out]; exact h, onto_refl _ _⟩
  · have hE := Lib.hid (show setE c r = 0 by unfold setE; rw [if_neg hh])
    have hC := Lib.hid (show setC c r = { c with rd := r } by unfold setC; rw [if_neg hh])
    have hO := setC_ok h.2 r
    rw [hC.out] at hO
    go_enter Try.func29, Try.ntmps29
    go_wp2
    all_goals first | (exfalso; omega) | skip
    all_goals go_ret
    all_goals exact ⟨by rw [hE.out]; rfl, by rw [hC.out]; exact h.put 1 _ rfl hO, onto_set (onto_refl _ _) _ _⟩

theorem rraise (w : World) (g : Nat) (c : Ck) (r : Int) (h : RClk w g c) :
    Calls Try.prog 30 #[.pointer (some ⟨g, 0, none⟩), .int .i64 r] w fun e w' => e = .returned (.int .i64 (rseE c r)) ∧ RClk w' g (rseC c r) ∧ w.grownBy w' (some g) := by
  have c1 : w.cell? ⟨g, 3, none⟩ = some (.int .i64 c.most) := h.cell 3
  have z1 := h.fz 3
  by_cases hh : r < c.most ∨ 1099511627776 < r
  · have hE := Lib.hid (show rseE c r = 9 by unfold rseE; rw [if_pos hh])
    have hC := Lib.hid (show rseC c r = c by unfold rseC; rw [if_pos hh])
    go_enter Try.func30, Try.ntmps30
    go_wp2
    all_goals first | (exfalso; omega) | skip
    all_goals go_ret
    all_goals exact ⟨by rw [hE.out]; rfl, by rw [hC.out]; exact h, onto_refl _ _⟩
  · have hE := Lib.hid (show rseE c r = 0 by unfold rseE; rw [if_neg hh])
    have hC := Lib.hid (show rseC c r = { c with most := r } by unfold rseC; rw [if_neg hh])
    have hO := rseC_ok h.2 r
    rw [hC.out] at hO
    go_enter Try.func30, Try.ntmps30
    go_wp2
    all_goals first | (exfalso; omega) | skip
    all_goals go_ret
    all_goals exact ⟨by rw [hE.out]; rfl, by rw [hC.out]; exact h.put 3 _ rfl hO, onto_set (onto_refl _ _) _ _⟩

theorem rready (w : World) (g : Nat) (c : Ck) (h : RClk w g c) :
    Calls Try.prog 13 #[.pointer (some ⟨g, 0, none⟩)] w fun e w' => e = .returned (.bool (rdy c)) ∧ Below w.heap.size w w' := by
  have c1 : w.cell? ⟨g, 1, none⟩ = some (.int .i64 c.rd) := h.cell 1
  have c2 : w.cell? ⟨g, 2, none⟩ = some (.int .i64 c.fst) := h.cell 2
  have hR := Lib.hid (show rdy c = decide (c.fst ≤ c.rd) from rfl)
  go_enter Try.func13, Try.ntmps13
  go_wp2
  go_quiet (fail)
  go_wp2
  go_ret
  exact ⟨by rw [hR.out]; rfl, below_drewN (Below.refl _ _) _⟩

set_option maxHeartbeats 2000000 in
theorem rnow (w : World) (g : Nat) (c : Ck) (h : RClk w g c) :
    Calls Try.prog 31 #[.pointer (some ⟨g, 0, none⟩)] w fun e w' => e = .returned (.tuple #[sv (nowR c).1 (nowR c).2.1, .int .i64 (nowR c).2.2]) ∧ RClk w' g (nowC c) ∧ w.grownBy w' (some g) := by
  have hlt := h.lt
  have hO := nowC_ok h.2
  have hR := Box.new w 0 0
  have hb := (Below.refl w.heap.size w).alloc (Nat.le_refl _) (.cells #[.int .i64 0, .int .i64 0] 32)
  have h1 := h.below hb
  have d4 : (w.alloc (.cells #[.int .i64 0, .int .i64 0] 32)).cell? ⟨g, 4, none⟩ = some (.int .i64 c.s1) := h1.cell 4
  have d5 : (w.alloc (.cells #[.int .i64 0, .int .i64 0] 32)).cell? ⟨g, 5, none⟩ = some (.int .i64 c.s2) := h1.cell 5
  have N1 := Lib.hid (fun V => refNext5 c.s1 c.s2 V)
  obtain ⟨n1, n2, n3, hn⟩ : ∃ x y z, nxt c.s1 c.s2 = (x, y, z) := ⟨_, _, _, rfl⟩
  rw [hn] at N1
  have HN := Lib.hid hn
  clear hn
  go_enter Try.func31, Try.ntmps31
  go_wp2_with fail
  refine (N1.out _).mono ?_
  rintro e w1 ⟨rfl, hb1⟩
  have hR1 := hR.keep hb1
  have h2 := h1.below hb1
  have hB1 := hb.trans (hb1.mono hb.size)
  clear d4 d5 h1 hR hb hb1
  have hl1 := hR1.lt
  have y0 := hR1.c0
  have y1 := hR1.c1
  have y2 := hR1.fz 0
  have y3 := hR1.fz 1
  have hB2 := hB1.alloc hB1.size (.cells #[.int .i64 n1, .int .i64 n2] 32)
  have hR2 := hR1.alloc (.cells #[.int .i64 n1, .int .i64 n2] 32)
  have h3 := h2.below ((Below.refl _ _).alloc (Nat.le_refl _) (.cells #[.int .i64 n1, .int .i64 n2] 32))
  have hS2 := Box.new w1 n1 n2
  have r0 := hR2.c0
  have r1 := hR2.c1
  have z0 := hR2.fz 0
  have z1 := hR2.fz 1
  by_cases h0 : n3 = 0
  · subst h0
    have hg1 : g ≠ w1.heap.size := by omega
    have k1 : (w1.alloc (.cells #[.int .i64 n1, .int .i64 n2] 32)).cell? ⟨g, 1, none⟩ = some (.int .i64 c.rd) := h3.cell 1
    have s0 := hS2.c0
    have s1 := hS2.c1
    have hSd : Box (w1.alloc (.cells #[.int .i64 n1, .int .i64 n2] 32)).drew w1.heap.size n1 n2 := hS2
    have hRd : Box (w1.alloc (.cells #[.int .i64 n1, .int .i64 n2] 32)).drew w.heap.size 0 0 := hR2
    have hCd : RClk (w1.alloc (.cells #[.int .i64 n1, .int .i64 n2] 32)).drew g c := h3
    have hBd := hB2.drew
    obtain ⟨t1, t2, ht⟩ : ∃ x y, two (n1, n2) (c.rd, 0) = (x, y) := ⟨_, _, rfl⟩
    have T1 := Lib.hid (fun V => by have h := refTwo n1 n2 c.rd 0 V; rw [ht] at h; exact h)
    go_wp2_with fail
    go_region_with (first | (go_at_call 42; refine (T1.out _).mono ?_; rintro e w3 ⟨rfl, hb3⟩; have hS3 := hSd.keep hb3; have hR3 := hRd.keep hb3; have hC3 := hCd.below hb3; have hB3 := hBd.trans (hb3.mono hBd.size); have g0 := hS3.c0; have g1 := hS3.c1; have g2 := hS3.fz 0; have g3 := hS3.fz 1))
    all_goals
      have hS4 := (hS3.put0 t1).put1 t2
      have hR4 := (hR3.far (g' := w1.heap.size) (by omega) 0 (.int .i64 t1)).far (g' := w1.heap.size) (by omega) 1 (.int .i64 t2)
      have hC4 := (hC3.far hg1 0 (.int .i64 t1)).far hg1 1 (.int .i64 t2)
      have hB4 := (hB3.setCell (p := ⟨w1.heap.size, 0, none⟩) (by simp; omega) (.int .i64 t1)).setCell (p := ⟨w1.heap.size, 1, none⟩) (by simp; omega) (.int .i64 t2)
      clear hB1 hR1 h2 y0 y1 y2 y3 hS3 hR3 hC3 hB3 g0 g1 g2 g3 hSd hRd hCd hBd k1 s0 s1 hb3 hR2 h3 hS2 r0 r1 z0 z1 hB2
      generalize (w3.setCell ⟨w1.heap.size, 0, none⟩ (.int .i64 t1)).setCell ⟨w1.heap.size, 1, none⟩ (.int .i64 t2) = W4 at hS4 hR4 hC4 hB4 ⊢
      have g0 := hS4.c0
      have g1 := hS4.c1
      have k3 : W4.cell? ⟨g, 3, none⟩ = some (.int .i64 c.most) := hC4.cell 3
      have k4 : W4.cell? ⟨g, 4, none⟩ = some (.int .i64 c.s1) := hC4.cell 4
      have k5 : W4.cell? ⟨g, 5, none⟩ = some (.int .i64 c.s2) := hC4.cell 5
      have z4 := hC4.fz 4
      have z5 := hC4.fz 5
      have r0 := hR4.c0
      have r1 := hR4.c1
      have z0 := hR4.fz 0
      have z1 := hR4.fz 1
      by_cases hm : c.most ≤ t1
      · have hE := Lib.hid (show nowR c = (0, 0, 61) by unfold nowR cand; rw [HN.out, if_pos rfl]; dsimp only; rw [ht, if_pos hm])
        have hC := Lib.hid (show nowC c = c by unfold nowC cand; rw [HN.out, if_pos rfl]; dsimp only; rw [ht, if_pos hm])
        clear ht
        go_wp2
        go_quiet (fail)
        have z0' : (W4.drewN nq).frozen? ⟨w.heap.size, 0, none⟩ = false := z0
        go_wp2
        exact ret_two rfl rfl ((Box.put0 (w := W4.drewN nq) hR4 _).put1 _) rfl ⟨by rw [hE.out]; rfl, by rw [hC.out]; exact (RClk.far (w := W4.drewN nq) hC4 (by omega) _ _).far (by omega) _ _, onto_far (onto_far (onto_below (below_drewN hB4 nq)) (Nat.le_refl _) _ _) (Nat.le_refl _) _ _⟩
      · have hE := Lib.hid (show nowR c = (t1, t2, 0) by unfold nowR cand; rw [HN.out, if_pos rfl]; dsimp only; rw [ht, if_neg hm])
        have hC := Lib.hid (show nowC c = { c with s1 := t1, s2 := t2 } by unfold nowC cand; rw [HN.out, if_pos rfl]; dsimp only; rw [ht, if_neg hm])
        clear ht
        go_wp2
        go_quiet (fail)
        go_wp2
        rw [hC.out] at hO
        have hC5 := RClk.puts (w := W4.drewN nq) hC4 t1 t2 hO
        have hR5 := ((Box.far (w := W4.drewN nq) hR4 (g' := g) (by omega) 4 (.int .i64 t1)).far (g' := g) (by omega) 5 (.int .i64 t2))
        exact ret_two rfl rfl ((hR5.put0 _).put1 _) rfl ⟨by rw [hE.out]; rfl, by rw [hC.out]; exact (hC5.far (by omega) _ _).far (by omega) _ _, onto_far (onto_far (onto_set (onto_set (onto_below (below_drewN hB4 nq)) _ _) _ _) (Nat.le_refl _) _ _) (Nat.le_refl _) _ _⟩
  · have hn0 : (n3 != 0) = true := by simpa using h0
    have hE := Lib.hid (show nowR c = (0, 0, n3) by unfold nowR; rw [HN.out, if_neg h0])
    have hC := Lib.hid (show nowC c = c by unfold nowC; rw [HN.out, if_neg h0])
    clear hS2
    go_wp2
    exact ret_two rfl rfl (((hR1.put0 _).put1 _).alloc _) rfl ⟨by rw [hE.out]; rfl, by rw [hC.out]; exact ((h2.far (by omega) _ _).far (by omega) _ _).below ((Below.refl _ _).alloc (Nat.le_refl _) _), onto_trans (onto_far (onto_far (onto_below hB1) (Nat.le_refl _) _ _) (Nat.le_refl _) _ _) (onto_below ((Below.refl _ _).alloc (Nat.le_refl _) _))⟩

set_option maxHeartbeats 2000000 in
theorem rsee (w : World) (g : Nat) (c : Ck) (a b : Int) (h : RClk w g c) :
    Calls Try.prog 32 #[.pointer (some ⟨g, 0, none⟩), sv a b] w fun e w' => e = .returned (.int .i64 (seeE c a b)) ∧ RClk w' g (seeC c a b) ∧ w.grownBy w' (some g) := by
  have hlt := h.lt
  have hok := h.2
  have hO := seeC_ok h.2 a b
  have hA := Box.new w a b
  have hb := (Below.refl w.heap.size w).alloc (Nat.le_refl _) (.cells #[.int .i64 a, .int .i64 b] 32)
  have h1 := h.below hb
  have N1 := Lib.hid (fun V => refCheck5 a b V)
  go_enter Try.func32, Try.ntmps32
  go_wp2_with fail
  refine (N1.out _).mono ?_
  rintro e w1 ⟨rfl, hb1⟩
  have hA1 := hA.keep hb1
  have hC1 := h1.below hb1
  have hB1 := hb.trans (hb1.mono hb.size)
  clear h1 hA hb hb1
  have a0 := hA1.c0
  have a1 := hA1.c1
  have k0 : w1.cell? ⟨g, 0, none⟩ = some (.int .i64 c.off) := hC1.cell 0
  have k1 : w1.cell? ⟨g, 1, none⟩ = some (.int .i64 c.rd) := hC1.cell 1
  have k3 : w1.cell? ⟨g, 3, none⟩ = some (.int .i64 c.most) := hC1.cell 3
  have k4 : w1.cell? ⟨g, 4, none⟩ = some (.int .i64 c.s1) := hC1.cell 4
  have k5 : w1.cell? ⟨g, 5, none⟩ = some (.int .i64 c.s2) := hC1.cell 5
  have z4 := hC1.fz 4
  have z5 := hC1.fz 5
  cases hm : may a b
  · rw [show ck a b = 9 by unfold ck; rw [hm]; rfl]
    have hE := Lib.hid (show seeE c a b = 9 by unfold seeE; rw [if_pos hm])
    have hC := Lib.hid (show seeC c a b = c by unfold seeC; rw [if_pos hm])
    clear hm
    go_wp2
    go_ret
    exact ⟨by rw [hE.out]; rfl, by rw [hC.out]; exact hC1, onto_below hB1⟩
  · rw [show ck a b = 0 by unfold ck; rw [hm]; rfl]
    obtain ⟨m1, m2, m3, m4⟩ := may_iff.1 hm
    obtain ⟨⟨o1, o2⟩, ⟨o3, o4⟩, _, ⟨o5, o6⟩, _⟩ := hok
    have hw : IntKind.i64.wrap (a - c.rd) = a - c.rd := IntWalk.i64_in _ (by omega)
    by_cases h5 : c.off < a - c.rd
    · have hE := Lib.hid (show seeE c a b = 60 by unfold seeE; rw [if_neg (by rw [hm]; simp), if_pos h5])
      have hC := Lib.hid (show seeC c a b = c by unfold seeC; rw [if_neg (by rw [hm]; simp), if_pos h5])
      clear hm
      go_wp2
      go_quiet (fail)
      go_wp2
      go_ret
      exact ⟨by rw [hE.out]; rfl, by rw [hC.out]; exact hC1, onto_below (below_drewN hB1 _)⟩
    · by_cases h6 : c.most ≤ a
      · have hE := Lib.hid (show seeE c a b = 61 by unfold seeE; rw [if_neg (by rw [hm]; simp), if_neg h5, if_pos h6])
        have hC := Lib.hid (show seeC c a b = c by unfold seeC; rw [if_neg (by rw [hm]; simp), if_neg h5, if_pos h6])
        clear hm
        go_wp2
        go_quiet (fail)
        go_wp2
        go_quiet (fail)
        go_wp2
        go_ret
        exact ⟨by rw [hE.out]; rfl, by rw [hC.out]; exact hC1, onto_below (below_drewN (below_drewN hB1 _) _)⟩
      · obtain ⟨t1, t2, ht⟩ : ∃ x y, two (c.s1, c.s2) (a, b) = (x, y) := ⟨_, _, rfl⟩
        have T1 := Lib.hid (fun V => by have h := refTwo c.s1 c.s2 a b V; rw [ht] at h; exact h)
        have hE := Lib.hid (show seeE c a b = 0 by unfold seeE; rw [if_neg (by rw [hm]; simp), if_neg h5, if_neg h6])
        have hC := Lib.hid (show seeC c a b = { c with s1 := t1, s2 := t2 } by unfold seeC; rw [if_neg (by rw [hm]; simp), if_neg h5, if_neg h6, ht])
        rw [hC.out] at hO
        clear hm ht
        go_wp2
        go_quiet (fail)
        have hB2 := below_drewN hB1 nq
        have hC2 : RClk (w1.drewN nq) g c := hC1
        have hA2 : Box (w1.drewN nq) w.heap.size a b := hA1
        clear hA1 hC1 hB1 a0 a1 k0 k1 k3 k4 k5 z4 z5
        generalize w1.drewN nq = V2 at hB2 hC2 hA2 ⊢
        have a0 := hA2.c0
        have k3 : V2.cell? ⟨g, 3, none⟩ = some (.int .i64 c.most) := hC2.cell 3
        go_wp2
        go_quiet (fail)
        replace hB2 := below_drewN hB2 nq
        replace hC2 : RClk (V2.drewN nq) g c := hC2
        replace hA2 : Box (V2.drewN nq) w.heap.size a b := hA2
        clear a0 k3
        generalize V2.drewN nq = W2 at hB2 hC2 hA2 ⊢
        have a0 := hA2.c0
        have a1 := hA2.c1
        have k4 : W2.cell? ⟨g, 4, none⟩ = some (.int .i64 c.s1) := hC2.cell 4
        have k5 : W2.cell? ⟨g, 5, none⟩ = some (.int .i64 c.s2) := hC2.cell 5
        have hCd : RClk W2.drew g c := hC2
        have hBd := hB2.drew
        go_wp2_with fail
        go_region_with (first | (go_at_call 42; refine (T1.out _).mono ?_; rintro e w3 ⟨rfl, hb3⟩; have hC3 := hCd.below hb3; have hB3 := hBd.trans (hb3.mono hBd.size); have y4 : w3.cell? ⟨g, 4, none⟩ = some (.int .i64 c.s1) := hC3.cell 4; have y5 : w3.cell? ⟨g, 5, none⟩ = some (.int .i64 c.s2) := hC3.cell 5; have q4 := hC3.fz 4; have q5 := hC3.fz 5))
        all_goals
          go_wp2
          go_ret
          exact ⟨by rw [hE.out]; rfl, by rw [hC.out]; exact hC3.puts t1 t2 hO, onto_set (onto_set (onto_below hB3) _ _) _ _⟩
end Go.Proofs.Ytmjniibeomjkkaa
