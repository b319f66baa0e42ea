/-
  Layer 6: the statements' own 'does'.
-/
import Derived.Test.YtmjniibeomjkkaaKDo0
set_option linter.unusedVariables false
namespace Go.Proofs.Ytmjniibeomjkkaa
open Go.RowKit

/-- What 'does' leaves: the stamp, whether there is one, the clock. -/
def Did (w : World) (g : Nat) (c : Ck) (k a x y : Int) (e : Ending) (w' : World) : Prop :=
  e = .returned (.tuple #[sv (doS c k).1 (doS c k).2.1, .bool (doS c k).2.2]) ∧ Clk w' g (doC c k a x y) ∧ w.grownBy w' (some g)

set_option maxHeartbeats 4000000 in
theorem does_w (hc : ClockOk) (w : World) (g : Nat) (c : Ck) (k a x y : Int) (h : Clk w g c) (hk : -9223372036854775808 ≤ k ∧ k ≤ 9223372036854775807) :
    Calls Try.prog 20 #[pt g, dov k a x y] w (Did w g c k a x y) := by
  have hlt := h.lt
  have C1 := Lib.hid (fun V => bring k 4 V (by omega) (by omega))
  have hk4 : k % 4 = 0 ∨ k % 4 = 1 ∨ k % 4 = 2 ∨ k % 4 = 3 := by omega
  have HC := Lib.hid hc
  have hD := (D4.new w k a x y 34).keep ((Below.refl _ _).alloc (Nat.le_refl _) (.cells #[.int .i64 0, .int .i64 0] 32))
  have hR := Box.new' (g := w.heap.size + 1) (w.alloc (.cells #[.int .i64 k, .int .i64 a, .int .i64 x, .int .i64 y] 34)) 0 0 (by simp)
  have hb := ((Below.refl w.heap.size w).alloc (Nat.le_refl _) (.cells #[.int .i64 k, .int .i64 a, .int .i64 x, .int .i64 y] 34)).alloc (by simp) (.cells #[.int .i64 0, .int .i64 0] 32)
  have hC := h.below hb
  clear hc h
  rcases hk4 with h4 | h4 | h4 | h4
  · have hS := Lib.hid (show doS c k = (0, 0, false) by unfold doS; rw [if_neg (by omega)])
    have hN := Lib.hid (show doC c k a x y = setC c a by unfold doC; rw [if_pos h4])
    rw [h4] at C1
    clear h4 hk
    go_enter Try.func20, Try.ntmps20
    go_wp2_with (first | (go_at_call 18; refine (C1.out _).mono ?_; rintro e2 w2 ⟨rfl, rfl⟩))
    refine (HC.out.set _ _ _ a hC).mono ?_
    rintro e w2 ⟨rfl, hC2, ho2⟩
    have hR2 := hR.other ho2 (by omega)
    have ho3 := onto_trans (onto_below (r := some g) hb) ho2
    clear hD hR hb hC ho2
    have r0 := hR2.c0
    have r1 := hR2.c1
    have f0 := hR2.fz 0
    have f1 := hR2.fz 1
    go_wp2
    exact ret_two rfl rfl ((hR2.put0 _).put1 _) rfl ⟨by rw [hS.out]; rfl, by rw [hN.out]; exact (hC2.far (by omega) _ _).far (by omega) _ _, onto_far (onto_far ho3 (Nat.le_succ _) _ _) (Nat.le_succ _) _ _⟩
  · have hS := Lib.hid (show doS c k = (0, 0, false) by unfold doS; rw [if_neg (by omega)])
    have hN := Lib.hid (show doC c k a x y = rseC c a by unfold doC; rw [if_neg (by omega), if_pos h4])
    rw [h4] at C1
    clear h4 hk
    go_enter Try.func20, Try.ntmps20
    go_wp2_with (first | (go_at_call 18; refine (C1.out _).mono ?_; rintro e2 w2 ⟨rfl, rfl⟩))
    refine (HC.out.raise _ _ _ a hC).mono ?_
    rintro e w2 ⟨rfl, hC2, ho2⟩
    have hR2 := hR.other ho2 (by omega)
    have ho3 := onto_trans (onto_below (r := some g) hb) ho2
    clear hD hR hb hC ho2
    have r0 := hR2.c0
    have r1 := hR2.c1
    have f0 := hR2.fz 0
    have f1 := hR2.fz 1
    go_wp2
    exact ret_two rfl rfl ((hR2.put0 _).put1 _) rfl ⟨by rw [hS.out]; rfl, by rw [hN.out]; exact (hC2.far (by omega) _ _).far (by omega) _ _, onto_far (onto_far ho3 (Nat.le_succ _) _ _) (Nat.le_succ _) _ _⟩
  · obtain ⟨n1, n2, n3, hn⟩ : ∃ u v t, nowR c = (u, v, t) := ⟨_, _, _, rfl⟩
    have hS := Lib.hid (show doS c k = (n1, n2, n3 == 0) by unfold doS; rw [if_pos h4, hn])
    have hN := Lib.hid (show doC c k a x y = nowC c by unfold doC; rw [if_neg (by omega), if_neg (by omega), if_pos h4])
    have N1 := HC.out.now _ _ _ hC
    rw [hn] at N1
    replace N1 := Lib.hid N1
    rw [h4] at C1
    clear h4 hk hn
    go_enter Try.func20, Try.ntmps20
    go_wp2_with (first | (go_at_call 18; refine (C1.out _).mono ?_; rintro e2 w2 ⟨rfl, rfl⟩))
    refine N1.out.mono ?_
    rintro e w2 ⟨rfl, hC2, ho2⟩
    have hR2 := hR.other ho2 (by omega)
    have ho3 := onto_trans (onto_below (r := some g) hb) ho2
    have hz2 : w.heap.size + 1 < w2.heap.size := hR2.lt
    clear hD hR hb hC ho2 N1
    have hR3 := hR2.alloc (.cells #[.int .i64 n1, .int .i64 n2] 32)
    have hC3 := hC2.alloc (.cells #[.int .i64 n1, .int .i64 n2] 32)
    have r0 := hR2.c0
    have r1 := hR2.c1
    have f0 := hR2.fz 0
    have f1 := hR2.fz 1
    have q0 := hR3.c0
    have q1 := hR3.c1
    have p0 := hR3.fz 0
    have p1 := hR3.fz 1
    go_wp2
    exact ret_two rfl rfl (((hR2.put0 _).put1 _).alloc _) rfl ⟨by rw [hS.out]; rfl, by rw [hN.out]; exact ((hC2.far (by omega) _ _).far (by omega) _ _).alloc _, onto_trans (onto_far (onto_far ho3 (Nat.le_succ _) _ _) (Nat.le_succ _) _ _) (onto_below ((Below.refl _ _).alloc (Nat.le_refl _) _))⟩
  · have hS := Lib.hid (show doS c k = (0, 0, false) by unfold doS; rw [if_neg (by omega)])
    have hN := Lib.hid (show doC c k a x y = seeC c x y by unfold doC; rw [if_neg (by omega), if_neg (by omega), if_neg (by omega)])
    rw [h4] at C1
    clear h4 hk
    go_enter Try.func20, Try.ntmps20
    go_wp2_with (first | (go_at_call 18; refine (C1.out _).mono ?_; rintro e2 w2 ⟨rfl, rfl⟩))
    refine (HC.out.see _ _ _ x y hC).mono ?_
    rintro e w2 ⟨rfl, hC2, ho2⟩
    have hR2 := hR.other ho2 (by omega)
    have ho3 := onto_trans (onto_below (r := some g) hb) ho2
    clear hD hR hb hC ho2
    have r0 := hR2.c0
    have r1 := hR2.c1
    have f0 := hR2.fz 0
    have f1 := hR2.fz 1
    go_wp2
    exact ret_two rfl rfl ((hR2.put0 _).put1 _) rfl ⟨by rw [hS.out]; rfl, by rw [hN.out]; exact (hC2.far (by omega) _ _).far (by omega) _ _, onto_far (onto_far ho3 (Nat.le_succ _) _ _) (Nat.le_succ _) _ _⟩
end Go.Proofs.Ytmjniibeomjkkaa
