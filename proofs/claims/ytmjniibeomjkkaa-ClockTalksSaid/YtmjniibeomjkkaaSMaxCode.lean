/-
  Layer 5, the code that landed: Max.
-/
import Derived.Test.YtmjniibeomjkkaaSCode
import Derived.Test.YtmjniibeomjkkaaSMaxRef
set_option linter.unusedVariables false
namespace Go.Proofs.Ytmjniibeomjkkaa
open Go.RowKit

set_option maxHeartbeats 2000000 in
theorem maxFunc_c (A : Option Addr) (n c : Nat) (l : List (Int × Int)) (w : World) (hx : Stamps w A n l) (hn : n ≤ 9223372036854775807) (h0 : 0 < n) :
    Calls Try.prog 36 #[.slice A n c, .func (.func 35) #[] #[]] w fun e w' => e = .returned (sv (mx l).1 (mx l).2) ∧ Below w.heap.size w w' := by
  have HL := Lib.hid hx.1
  obtain ⟨b, o, rfl, hc⟩ := hx.2 (by omega)
  have hc0 := hc 0 (by rw [HL.out]; omega)
  obtain ⟨y1, hy1⟩ : ∃ y, y = (l[0]'(by rw [HL.out]; omega)).1 := ⟨_, rfl⟩
  obtain ⟨y2, hy2⟩ : ∃ y, y = (l[0]'(by rw [HL.out]; omega)).2 := ⟨_, rfl⟩
  rw [← hy1, ← hy2, Nat.zero_mul, Nat.add_zero] at hc0
  obtain ⟨i1, i2⟩ := hc0
  have HM0 := Lib.hid (show mx (l.take 1) = (y1, y2) by
    cases l with
    | nil => exact absurd HL.out (by simp; omega)
    | cons y t => rw [hy1, hy2]; rfl)
  have HC := Lib.hid hc
  clear hc hx hy1 hy2
  have hb := (Below.refl w.heap.size w).alloc (Nat.le_refl _) (.cells #[.int .i64 0, .int .i64 0] 32)
  have j1 := (World.cell?_alloc_lt w (.cells #[.int .i64 0, .int .i64 0] 32) _ (World.block_lt_of_cell? w _ i1)).trans i1
  have j2 := (World.cell?_alloc_lt w (.cells #[.int .i64 0, .int .i64 0] 32) _ (World.block_lt_of_cell? w _ i2)).trans i2
  have hR := Box.new w 0 0
  go_enter Try.func36, Try.ntmps36
  go_wp2_with fail
  have hB1 := hb.alloc (by simp) (.cells #[.int .i64 y1, .int .i64 y2] 32)
  have hO := Box.new' (g := w.heap.size + 1) (w.alloc (.cells #[.int .i64 0, .int .i64 0] 32)) y1 y2 (by simp)
  have hR1 := hR.alloc (.cells #[.int .i64 y1, .int .i64 y2] 32)
  clear i1 i2 j1 j2 hb hR
  go_loopw [6] (fun i wr => ∃ (k : Nat) (m1 m2 : Int), 1 ≤ k ∧ k ≤ n ∧ i = .int .i64 k ∧ Hid (mx (l.take k) = (m1, m2)) ∧ Box wr (w.heap.size + 1) m1 m2 ∧ Box wr w.heap.size 0 0 ∧ Below w.heap.size w wr) (fun i _ => n - (intOf i).toNat)
  case atStart => exact ⟨1, _, _, Nat.le_refl _, h0, rfl, HM0, hO, hR1, hB1⟩
  case round =>
    obtain ⟨k, m1, m2, hk1, hkn, rfl, HM, hOr, hRr, hBr⟩ := hrel
    have o0 := hOr.c0
    have o1 := hOr.c1
    have r0 := hRr.c0
    have r1 := hRr.c1
    have f0 := hRr.fz 0
    have f1 := hRr.fz 1
    by_cases hlt : k < n
    · have hkl : k < l.length := by rw [HL.out]; exact hlt
      obtain ⟨e1, e2⟩ := HC.out k hkl
      obtain ⟨u1, hu1⟩ : ∃ y, y = l[k].1 := ⟨_, rfl⟩
      obtain ⟨u2, hu2⟩ : ∃ y, y = l[k].2 := ⟨_, rfl⟩
      rw [← hu1] at e1
      rw [← hu2] at e2
      have e1' := (hBr.cell (World.block_lt_of_cell? w _ e1)).trans e1
      have e2' := (hBr.cell (World.block_lt_of_cell? w _ e2)).trans e2
      have hnx : mx (l.take (k + 1)) = two (m1, m2) (u1, u2) := by rw [mx_take_succ l k (by omega) hkl, HM.out, hu1, hu2]
      have HNX := Lib.hid hnx
      have hS0 : SE w (w.heap.size + 1) b (o + k * 2) m1 m2 u1 u2 wr := ⟨o0, o1, e1', e2', hBr⟩
      have hSd := hS0.drew
      have hOd : Box wr.drew (w.heap.size + 1) m1 m2 := hOr
      have hRd : Box wr.drew w.heap.size 0 0 := hRr
      have hgt := cpS_gt (u1, u2) (m1, m2)
      have C1 := Lib.hid (fun V => compare_c u1 u2 m1 m2 V)
      obtain ⟨q, hq⟩ : ∃ q, q = cpS (u1, u2) (m1, m2) := ⟨_, rfl⟩
      rw [← hq] at C1 hgt
      clear hu1 hu2 hnx e1 e2 hB1 hO hR1 hq
      cases hl : lt (m1, m2) (u1, u2) with
      | true =>
        have hq0 : 0 < q := hgt.2 hl
        have HT := Lib.hid (show mx (l.take (k + 1)) = (u1, u2) by rw [HNX.out]; unfold two; rw [if_pos hl])
        clear hgt hl HNX
        go_wp2_with fail
        go_region_with (first | (go_at_call 35; refine (SE.call (by first | assumption | exact hS0 | exact hSd) (C1.out _)).mono ?_; rintro e w2 ⟨rfl, hS2, hb2⟩; have hO2 := hOd.keep hb2; have hR2 := hRd.keep hb2; have g0 := hO2.c0; have g1 := hO2.c1; have g2 := hO2.fz 0; have g3 := hO2.fz 1))
        all_goals (clear hS0 hSd hOd hRd hb2; obtain ⟨s1, s2, s3, s4, s5⟩ := hS2; go_wp2)
        all_goals
          go_roundw
          case rel => exact ⟨k + 1, _, _, by omega, by omega, by go_num, Lib.hid HT.out, (hO2.put0 _).put1 _, (hR2.far (by omega) _ _).far (by omega) _ _, (s5.setCell (by simp) _).setCell (by simp) _⟩
          case measure => simp [intOf]; omega
      | false =>
        have hq0 : ¬ 0 < q := fun h => by rw [hgt.1 h] at hl; cases hl
        have HT := Lib.hid (show mx (l.take (k + 1)) = (m1, m2) by rw [HNX.out]; unfold two; rw [if_neg (by rw [hl]; simp)])
        clear hgt hl HNX
        go_wp2_with fail
        go_region_with (first | (go_at_call 35; refine (SE.call (by first | assumption | exact hS0 | exact hSd) (C1.out _)).mono ?_; rintro e w2 ⟨rfl, hS2, hb2⟩; have hO2 := hOd.keep hb2; have hR2 := hRd.keep hb2; have g0 := hO2.c0; have g1 := hO2.c1; have g2 := hO2.fz 0; have g3 := hO2.fz 1))
        all_goals (clear hS0 hSd hOd hRd hb2; obtain ⟨s1, s2, s3, s4, s5⟩ := hS2; go_wp2)
        all_goals
          go_roundw
          case rel => exact ⟨k + 1, _, _, by omega, by omega, by go_num, Lib.hid HT.out, hO2, hR2, s5⟩
          case measure => simp [intOf]; omega
    · have hkn' : n ≤ k := by omega
      have htk : l.take k = l := by rw [List.take_of_length_le (by rw [HL.out]; exact hkn')]
      have HMX := Lib.hid (show mx l = (m1, m2) by rw [← htk]; exact HM.out)
      clear htk hB1 hO hR1
      go_wp2
      exact ret_one rfl rfl ((hRr.put0 _).put1 _) rfl ⟨by rw [HMX.out], (hBr.setCell (by simp) _).setCell (by simp) _⟩

theorem max_c (A : Option Addr) (n c : Nat) (l : List (Int × Int)) (w : World) (hx : Stamps w A n l) (hn : n ≤ 9223372036854775807) :
    Calls Try.prog 22 #[.slice A n c] w fun e w' => e = .returned (sv (mx l).1 (mx l).2) ∧ Below w.heap.size w w' := by
  have HL := Lib.hid hx.1
  have hR := Box.new w 0 0
  have hb := (Below.refl w.heap.size w).alloc (Nat.le_refl _) (.cells #[.int .i64 0, .int .i64 0] 32)
  have r0 := hR.c0
  have r1 := hR.c1
  have f0 := hR.fz 0
  have f1 := hR.fz 1
  by_cases h0 : n = 0
  · subst h0
    obtain rfl : l = [] := List.eq_nil_of_length_eq_zero HL.out
    go_enter Try.func22, Try.ntmps22
    go_wp2_with fail
    exact ret_one rfl rfl hR rfl ⟨rfl, hb⟩
  · have hn00 : ((n : Int) == 0) = false := by simp; omega
    have C1 := Lib.hid (fun V (h : Stamps V A n l) => maxFunc_c A n c l V h hn (by omega))
    have hx1 := hx.below' ((Below.refl _ _).alloc (Nat.le_refl _) (.cells #[.int .i64 0, .int .i64 0] 32))
    generalize mx l = m at C1 ⊢
    obtain ⟨m1, m2⟩ := m
    clear hx
    go_enter Try.func22, Try.ntmps22
    go_wp2_with fail
    refine (C1.out _ hx1).mono ?_
    rintro e w2 ⟨rfl, hb2⟩
    have hR2 := hR.keep hb2
    have hB2 := hb.trans (hb2.mono hb.size)
    have g0 := hR2.c0
    have g1 := hR2.c1
    have g2 := hR2.fz 0
    have g3 := hR2.fz 1
    clear r0 r1 f0 f1 hR hb hb2
    go_wp2
    exact ret_one rfl rfl ((hR2.put0 _).put1 _) rfl ⟨rfl, (hB2.setCell (by simp) _).setCell (by simp) _⟩
theorem max_ok : MaxOk := max_c
end Go.Proofs.Ytmjniibeomjkkaa
