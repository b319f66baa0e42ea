/-
  Layer 6: the statements' own 'step': a call of both clocks.
-/
import Derived.Test.YtmjniibeomjkkaaKDo0
import Derived.Test.YtmjniibeomjkkaaKRef
set_option linter.unusedVariables false
namespace Go.Proofs.Ytmjniibeomjkkaa
open Go.RowKit

/-- Both clocks, what was handed in, and what is below B. -/
def PR (w : World) (B q g h : Nat) (c m : Ck) (k a x y : Int) (V : World) : Prop := Clk V g c ∧ RClk V h m ∧ D4 q k a x y V ∧ Below B w V ∧ B ≤ V.heap.size
section
variable {w V : World} {B q g h : Nat} {c m c' m' : Ck} {k a x y : Int} {f : FuncId} {args : Array Value} {v : Value}
theorem PR.clk (p : PR w B q g h c m k a x y V) : Clk V g c := p.1
theorem PR.rclk (p : PR w B q g h c m k a x y V) : RClk V h m := p.2.1
theorem PR.size (p : PR w B q g h c m k a x y V) : w.heap.size ≤ V.heap.size := p.2.2.2.1.size
theorem PR.alloc (p : PR w B q g h c m k a x y V) (o : Obj) : PR w B q g h c m k a x y (V.alloc o) :=
  ⟨p.1.alloc o, p.2.1.below ((Below.refl _ _).alloc (Nat.le_refl _) _), p.2.2.1.keep ((Below.refl _ _).alloc (Nat.le_refl _) _), p.2.2.2.1.alloc p.2.2.2.2 _, by have := p.2.2.2.2; simp; omega⟩
theorem PR.drew (p : PR w B q g h c m k a x y V) : PR w B q g h c m k a x y V.drew := ⟨p.1, p.2.1, p.2.2.1, p.2.2.2.1.drew, p.2.2.2.2⟩
theorem PR.code (p : PR w B q g h c m k a x y V) (hq : q ≠ g) (hg : h ≠ g) (hB : B ≤ g) (hc : Calls Try.prog f args V fun e V' => e = .returned v ∧ Clk V' g c' ∧ V.grownBy V' (some g)) :
    Calls Try.prog f args V fun e V' => e = .returned v ∧ D4 q k a x y V' ∧ PR w B q g h c' m k a x y V' :=
  hc.mono fun _ _ hh => ⟨hh.1, p.2.2.1.other hh.2.2 hq, hh.2.1, p.2.1.other hh.2.2 hg, p.2.2.1.other hh.2.2 hq, p.2.2.2.1.grown hh.2.2 p.2.2.2.2 (fun _ e => Option.some.inj e ▸ hB), Nat.le_trans p.2.2.2.2 hh.2.2.size⟩
theorem PR.ref (p : PR w B q g h c m k a x y V) (hq : q ≠ h) (hg : g ≠ h) (hB : B ≤ h) (hc : Calls Try.prog f args V fun e V' => e = .returned v ∧ RClk V' h m' ∧ V.grownBy V' (some h)) :
    Calls Try.prog f args V fun e V' => e = .returned v ∧ D4 q k a x y V' ∧ PR w B q g h c m' k a x y V' :=
  hc.mono fun _ _ hh => ⟨hh.1, p.2.2.1.other hh.2.2 hq, p.1.other hh.2.2 hg, hh.2.1, p.2.2.1.other hh.2.2 hq, p.2.2.2.1.grown hh.2.2 p.2.2.2.2 (fun _ e => Option.some.inj e ▸ hB), Nat.le_trans p.2.2.2.2 hh.2.2.size⟩
end

/-- What 'step' leaves. -/
def Stepped (w : World) (B g h : Nat) (c : Ck) (k a x y : Int) (e : Ending) (w' : World) : Prop :=
  e = .returned (.bool true) ∧ Clk w' g (doC c k a x y) ∧ RClk w' h (doC c k a x y) ∧ Below B w w' ∧ w.heap.size ≤ w'.heap.size

set_option maxHeartbeats 8000000 in
theorem step_w (hc : ClockOk) (w : World) (B g h : Nat) (c : Ck) (k a x y : Int) (hC : Clk w g c) (hM : RClk w h c) (hgh : g ≠ h) (hBg : B ≤ g) (hBh : B ≤ h) (hk : -9223372036854775808 ≤ k ∧ k ≤ 9223372036854775807) :
    Calls Try.prog 11 #[pt g, pt h, dov k a x y] w (Stepped w B g h c k a x y) := by
  have hlt := hC.lt
  have hlt' := hM.lt
  have C1 := Lib.hid (fun V => bring k 4 V (by omega) (by omega))
  have hk4 : k % 4 = 0 ∨ k % 4 = 1 ∨ k % 4 = 2 ∨ k % 4 = 3 := by omega
  have HC := Lib.hid hc
  have hD := D4.new w k a x y 34
  have hb := (Below.refl B w).alloc (by omega) (.cells #[.int .i64 k, .int .i64 a, .int .i64 x, .int .i64 y] 34)
  have hC1 := hC.alloc (.cells #[.int .i64 k, .int .i64 a, .int .i64 x, .int .i64 y] 34)
  have hM1 := hM.below ((Below.refl _ _).alloc (Nat.le_refl _) (.cells #[.int .i64 k, .int .i64 a, .int .i64 x, .int .i64 y] 34))
  have hP : PR w B w.heap.size g h c c k a x y (w.alloc (.cells #[.int .i64 k, .int .i64 a, .int .i64 x, .int .i64 y] 34)) := ⟨hC1, hM1, hD, hb, by simp; omega⟩
  have hPd := hP.drew
  have hDd : D4 w.heap.size k a x y (w.alloc (.cells #[.int .i64 k, .int .i64 a, .int .i64 x, .int .i64 y] 34)).drew := hD
  have n1 : w.heap.size ≠ g := by omega
  have n2 : w.heap.size ≠ h := by omega
  have n3 : h ≠ g := fun e => hgh e.symm
  clear hc hC hM hC1 hM1 hb
  rcases hk4 with h4 | h4 | h4 | h4
  · have hN := Lib.hid (show doC c k a x y = setC c a by unfold doC; rw [if_pos h4])
    have q1 : (setE c a == setE c a) = true := beq_self_eq_true _
    rw [h4] at C1
    clear h4 hk
    go_enter Try.func11, Try.ntmps11
    go_wp2_with (first | (go_at_call 18; refine (C1.out _).mono ?_; rintro e2 w2 ⟨rfl, rfl⟩))
    go_region_held3 (fun V => V.cell? ⟨w.heap.size, 0, none⟩ = some (.int .i64 k) ∧ V.cell? ⟨w.heap.size, 1, none⟩ = some (.int .i64 a) ∧ V.cell? ⟨w.heap.size, 2, none⟩ = some (.int .i64 x) ∧ V.cell? ⟨w.heap.size, 3, none⟩ = some (.int .i64 y))
      (first | with_reducible assumption | with_reducible exact hDd)
      (first
        | (go_at_call 24; first | (refine (hPd.code n1 n3 hBg (HC.out.set _ _ _ a hPd.clk)).mono ?_; rintro e w2 ⟨rfl, hD2, hP2⟩) | (refine (hP3.code n1 n3 hBg (HC.out.set _ _ _ a hP3.clk)).mono ?_; rintro e w4 ⟨rfl, hD4, hP4⟩))
        | (go_at_call 29; first | (refine (hPd.ref n2 hgh hBh (rset _ _ _ a hPd.rclk)).mono ?_; rintro e w3 ⟨rfl, hD3, hP3⟩) | (refine (hP2.ref n2 hgh hBh (rset _ _ _ a hP2.rclk)).mono ?_; rintro e w4 ⟨rfl, hD4, hP4⟩)))
    all_goals
      go_wp2
      go_ret
      exact ⟨rfl, by rw [hN.out]; exact hP4.clk, by rw [hN.out]; exact hP4.rclk, hP4.2.2.2.1, hP4.size⟩
  · have hN := Lib.hid (show doC c k a x y = rseC c a by unfold doC; rw [if_neg (by omega), if_pos h4])
    have q1 : (rseE c a == rseE c a) = true := beq_self_eq_true _
    rw [h4] at C1
    clear h4 hk
    go_enter Try.func11, Try.ntmps11
    go_wp2_with (first | (go_at_call 18; refine (C1.out _).mono ?_; rintro e2 w2 ⟨rfl, rfl⟩))
    go_region_held3 (fun V => V.cell? ⟨w.heap.size, 0, none⟩ = some (.int .i64 k) ∧ V.cell? ⟨w.heap.size, 1, none⟩ = some (.int .i64 a) ∧ V.cell? ⟨w.heap.size, 2, none⟩ = some (.int .i64 x) ∧ V.cell? ⟨w.heap.size, 3, none⟩ = some (.int .i64 y))
      (first | with_reducible assumption | with_reducible exact hDd)
      (first
        | (go_at_call 23; first | (refine (hPd.code n1 n3 hBg (HC.out.raise _ _ _ a hPd.clk)).mono ?_; rintro e w2 ⟨rfl, hD2, hP2⟩) | (refine (hP3.code n1 n3 hBg (HC.out.raise _ _ _ a hP3.clk)).mono ?_; rintro e w4 ⟨rfl, hD4, hP4⟩))
        | (go_at_call 30; first | (refine (hPd.ref n2 hgh hBh (rraise _ _ _ a hPd.rclk)).mono ?_; rintro e w3 ⟨rfl, hD3, hP3⟩) | (refine (hP2.ref n2 hgh hBh (rraise _ _ _ a hP2.rclk)).mono ?_; rintro e w4 ⟨rfl, hD4, hP4⟩)))
    all_goals
      go_wp2
      go_ret
      exact ⟨rfl, by rw [hN.out]; exact hP4.clk, by rw [hN.out]; exact hP4.rclk, hP4.2.2.2.1, hP4.size⟩
  · obtain ⟨n1', n2', n3', hn⟩ : ∃ u v t, nowR c = (u, v, t) := ⟨_, _, _, rfl⟩
    have hN := Lib.hid (show doC c k a x y = nowC c by unfold doC; rw [if_neg (by omega), if_neg (by omega), if_pos h4])
    have q1 : (n3' == n3') = true := beq_self_eq_true _
    have q2 : (n1' == n1') = true := beq_self_eq_true _
    have q3 : (n2' == n2') = true := beq_self_eq_true _
    have N1 := hP.code n1 n3 hBg (HC.out.now _ _ _ hP.clk)
    have N2 := Lib.hid (fun V => rnow V h c)
    rw [hn] at N1 N2
    replace N1 := Lib.hid N1
    rw [h4] at C1
    clear h4 hk hn hD hPd hDd
    go_enter Try.func11, Try.ntmps11
    go_wp2_with (first | (go_at_call 18; refine (C1.out _).mono ?_; rintro e2 w2 ⟨rfl, rfl⟩))
    refine N1.out.mono ?_
    rintro e w2 ⟨rfl, hD2, hP2⟩
    go_wp2_with fail
    have hz2 : B ≤ w2.heap.size := hP2.2.2.2.2
    have hP3 := hP2.alloc (.cells #[.int .i64 n1', .int .i64 n2'] 32)
    have hX3 := Box.new w2 n1' n2'
    have hl3 : w2.heap.size ≠ h := fun e => by have := hP2.rclk.lt; omega
    refine (N2.out _ hP3.rclk).mono ?_
    rintro e w4 ⟨rfl, hM4, ho4⟩
    have hX4 := hX3.other ho4 hl3
    have hP4 : PR w B w.heap.size g h (nowC c) (nowC c) k a x y w4 := ⟨hP3.1.other ho4 hgh, hM4, hP3.2.2.1.other ho4 n2, hP3.2.2.2.1.grown ho4 hP3.2.2.2.2 (fun _ e => Option.some.inj e ▸ hBh), Nat.le_trans hP3.2.2.2.2 ho4.size⟩
    have hP5 := hP4.alloc (.cells #[.int .i64 n1', .int .i64 n2'] 32)
    have hX5 := hX4.alloc (.cells #[.int .i64 n1', .int .i64 n2'] 32)
    have x0 := hX4.c0
    have x1 := hX4.c1
    have x2 := hX5.c0
    have x3 := hX5.c1
    clear hX3 hP3 hP2 hP hD2 N1 N2
    go_wp2
    go_ret
    exact ⟨rfl, by rw [hN.out]; exact hP5.clk, by rw [hN.out]; exact hP5.rclk, hP5.2.2.2.1, hP5.size⟩
  · have hN := Lib.hid (show doC c k a x y = seeC c x y by unfold doC; rw [if_neg (by omega), if_neg (by omega), if_neg (by omega)])
    have q1 : (seeE c x y == seeE c x y) = true := beq_self_eq_true _
    rw [h4] at C1
    clear h4 hk
    go_enter Try.func11, Try.ntmps11
    go_wp2_with (first | (go_at_call 18; refine (C1.out _).mono ?_; rintro e2 w2 ⟨rfl, rfl⟩))
    go_region_held3 (fun V => V.cell? ⟨w.heap.size, 0, none⟩ = some (.int .i64 k) ∧ V.cell? ⟨w.heap.size, 1, none⟩ = some (.int .i64 a) ∧ V.cell? ⟨w.heap.size, 2, none⟩ = some (.int .i64 x) ∧ V.cell? ⟨w.heap.size, 3, none⟩ = some (.int .i64 y))
      (first | with_reducible assumption | with_reducible exact hDd)
      (first
        | (go_at_call 26; first | (refine (hPd.code n1 n3 hBg (HC.out.see _ _ _ x y hPd.clk)).mono ?_; rintro e w2 ⟨rfl, hD2, hP2⟩) | (refine (hP3.code n1 n3 hBg (HC.out.see _ _ _ x y hP3.clk)).mono ?_; rintro e w4 ⟨rfl, hD4, hP4⟩))
        | (go_at_call 32; first | (refine (hPd.ref n2 hgh hBh (rsee _ _ _ x y hPd.rclk)).mono ?_; rintro e w3 ⟨rfl, hD3, hP3⟩) | (refine (hP2.ref n2 hgh hBh (rsee _ _ _ x y hP2.rclk)).mono ?_; rintro e w4 ⟨rfl, hD4, hP4⟩)))
    all_goals
      go_wp2
      go_ret
      exact ⟨rfl, by rw [hN.out]; exact hP4.clk, by rw [hN.out]; exact hP4.rclk, hP4.2.2.2.1, hP4.size⟩
end Go.Proofs.Ytmjniibeomjkkaa
