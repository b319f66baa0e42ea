/-
  Layer 6, the code: the clock's calls but Now and See (of the code that landed).
-/
import Derived.Test.YtmjniibeomjkkaaKOk
import Derived.Test.YtmjniibeomjkkaaSCode
import Derived.Test.YtmjniibeomjkkaaSMaxCode
import Derived.Deep.RegionWith
import Derived.Deep.RegionHeld3
import Derived.Deep.QuietTactic
import Derived.BigQuiet
import Derived.IntWalk
set_option linter.unusedVariables false
namespace Go.Proofs.Ytmjniibeomjkkaa
open Go.RowKit

theorem none_no (w : World) (g : Nat) (c : Ck) (h : Clk w g c) : Calls Try.prog 33 #[pt g] w fun e w' => e = .returned (.bool false) ∧ w' = w := by
  have c6 : w.cell? ⟨g, 0, none⟩ = some (.bool true) := h.cell 0
  go_enter Try.func33, Try.ntmps33
  go_wp2
  go_ret
  exact ⟨rfl, rfl⟩
theorem none_yes (w : World) (v : Value) (h : NoClk w v) : Calls Try.prog 33 #[v] w fun e w' => e = .returned (.bool true) ∧ w' = w := by
  rcases h with rfl | ⟨g, rfl, hg⟩
  · go_enter Try.func33, Try.ntmps33
    go_wp2
    go_ret
    exact ⟨rfl, rfl⟩
  · have c6 : w.cell? ⟨g, 0, none⟩ = some (.bool false) := cell_of_row w g 0 zcells 58 (0, 0) hg
    clear hg
    go_enter Try.func33, Try.ntmps33
    go_wp2
    go_ret
    exact ⟨rfl, rfl⟩

theorem rise_low (w : World) (g i : Nat) (x r : Int) (hc : w.cell? ⟨g, i, none⟩ = some (.int .i64 x)) (h : r < x) :
    Calls Try.prog 37 #[.pointer (some ⟨g, i, none⟩), .int .i64 r] w fun e w' => e = .returned (.int .i64 9) ∧ w' = w := by
  go_enter Try.func37, Try.ntmps37
  go_wp2
  go_ret
  exact ⟨rfl, rfl⟩
theorem rise_high (w : World) (g i : Nat) (x r : Int) (hc : w.cell? ⟨g, i, none⟩ = some (.int .i64 x)) (h0 : x ≤ r) (h1 : 0 ≤ r) (h : 1099511627776 < r) :
    Calls Try.prog 37 #[.pointer (some ⟨g, i, none⟩), .int .i64 r] w fun e w' => e = .returned (.int .i64 9) ∧ w' = w := by
  have e1 : decide (r < x) = false := decide_eq_false (by omega)
  have e2 : decide (r ≤ 1099511627776) = false := decide_eq_false (by omega)
  go_enter Try.func37, Try.ntmps37
  go_wp2
  all_goals first | (exfalso; omega) | (exfalso; rename_i hq; simp at hq; omega) | (exfalso; rename_i hq _; simp at hq; omega) | skip
  go_ret
  exact ⟨rfl, rfl⟩
theorem rise_no (w : World) (g i : Nat) (x r : Int) (hc : w.cell? ⟨g, i, none⟩ = some (.int .i64 x)) (h : r < x ∨ 1099511627776 < r) :
    Calls Try.prog 37 #[.pointer (some ⟨g, i, none⟩), .int .i64 r] w fun e w' => e = .returned (.int .i64 9) ∧ w' = w := by
  by_cases h1 : r < x
  · exact rise_low w g i x r hc h1
  · exact rise_high w g i x r hc (by omega) (by omega) (by omega)
theorem rise_to (w : World) (g i : Nat) (x r : Int) (hc : w.cell? ⟨g, i, none⟩ = some (.int .i64 x)) (hf : w.frozen? ⟨g, i, none⟩ = false) (h0 : x ≤ r) (h1 : 0 ≤ r) (h2 : r ≤ 1099511627776) :
    Calls Try.prog 37 #[.pointer (some ⟨g, i, none⟩), .int .i64 r] w fun e w' => e = .returned (.int .i64 0) ∧ w' = w.setCell ⟨g, i, none⟩ (.int .i64 r) := by
  go_enter Try.func37, Try.ntmps37
  go_wp2
  go_ret
  exact ⟨rfl, rfl⟩
theorem rise_yes (w : World) (g i : Nat) (x r : Int) (hc : w.cell? ⟨g, i, none⟩ = some (.int .i64 x)) (hf : w.frozen? ⟨g, i, none⟩ = false) (h0 : 0 ≤ x) (h : ¬ (r < x ∨ 1099511627776 < r)) :
    Calls Try.prog 37 #[.pointer (some ⟨g, i, none⟩), .int .i64 r] w fun e w' => e = .returned (.int .i64 0) ∧ w' = w.setCell ⟨g, i, none⟩ (.int .i64 r) :=
  rise_to w g i x r hc hf (by omega) (by omega) (by omega)

theorem set_c : SetOk := by
  intro w g c r h
  by_cases hh : r < c.rd ∨ 1099511627776 < r
  · have hE := Lib.hid (show setE c r = 9 by unfold setE; rw [if_pos hh])
    have hC := Lib.hid (show setC c r = c by unfold setC; rw [if_pos hh])
    have R1 := Lib.hid (rise_no w g 3 c.rd r (h.cell 3) hh)
    clear hh
    go_enter Try.func24, Try.ntmps24
    go_wp2_with (first | (go_at_call 33; refine (none_no _ _ _ h).mono ?_; rintro e w1 ⟨rfl, rfl⟩) | (go_at_call 37; refine R1.out.mono ?_; rintro e w2 ⟨rfl, rfl⟩))
    go_ret
    exact ⟨by rw [hE.out]; rfl, by rw [hC.out]; exact h, onto_refl _ _⟩
  · have hE := Lib.hid (show setE c r = 0 by unfold setE; rw [if_neg hh])
    have hC := Lib.hid (show setC c r = { c with rd := r } by unfold setC; rw [if_neg hh])
    have hO := setC_ok h.2 r
    rw [hC.out] at hO
    have R1 := Lib.hid (rise_yes w g 3 c.rd r (h.cell 3) (h.fz 3) h.2.2.1.1 hh)
    clear hh
    go_enter Try.func24, Try.ntmps24
    go_wp2_with (first | (go_at_call 33; refine (none_no _ _ _ h).mono ?_; rintro e w1 ⟨rfl, rfl⟩) | (go_at_call 37; refine R1.out.mono ?_; rintro e w2 ⟨rfl, rfl⟩))
    go_ret
    exact ⟨by rw [hE.out]; rfl, by rw [hC.out]; exact h.put 3 _ rfl hO, onto_set (onto_refl _ _) _ _⟩
theorem raise_c : RaiseOk := by
  intro w g c r h
  by_cases hh : r < c.most ∨ 1099511627776 < r
  · have hE := Lib.hid (show rseE c r = 9 by unfold rseE; rw [if_pos hh])
    have hC := Lib.hid (show rseC c r = c by unfold rseC; rw [if_pos hh])
    have R1 := Lib.hid (rise_no w g 4 c.most r (h.cell 4) hh)
    clear hh
    go_enter Try.func23, Try.ntmps23
    go_wp2_with (first | (go_at_call 33; refine (none_no _ _ _ h).mono ?_; rintro e w1 ⟨rfl, rfl⟩) | (go_at_call 37; refine R1.out.mono ?_; rintro e w2 ⟨rfl, rfl⟩))
    go_ret
    exact ⟨by rw [hE.out]; rfl, by rw [hC.out]; exact h, onto_refl _ _⟩
  · have hE := Lib.hid (show rseE c r = 0 by unfold rseE; rw [if_neg hh])
    have hC := Lib.hid (show rseC c r = { c with most := r } by unfold rseC; rw [if_neg hh])
    have hO := rseC_ok h.2 r
    rw [hC.out] at hO
    have R1 := Lib.hid (rise_yes w g 4 c.most r (h.cell 4) (h.fz 4) h.2.2.2.2.1.1 hh)
    clear hh
    go_enter Try.func23, Try.ntmps23
    go_wp2_with (first | (go_at_call 33; refine (none_no _ _ _ h).mono ?_; rintro e w1 ⟨rfl, rfl⟩) | (go_at_call 37; refine R1.out.mono ?_; rintro e w2 ⟨rfl, rfl⟩))
    go_ret
    exact ⟨by rw [hE.out]; rfl, by rw [hC.out]; exact h.put 4 _ rfl hO, onto_set (onto_refl _ _) _ _⟩

theorem reading_c : ReadingOk := by
  intro w g c h
  have c1 : w.cell? ⟨g, 3, none⟩ = some (.int .i64 c.rd) := h.cell 3
  go_enter Try.func14, Try.ntmps14
  go_wp2_with (first | (go_at_call 33; refine (none_no _ _ _ h).mono ?_; rintro e w1 ⟨rfl, rfl⟩))
  go_ret
  exact ⟨rfl, Below.refl _ _⟩
theorem bound_c : BoundOk := by
  intro w g c h
  have c1 : w.cell? ⟨g, 4, none⟩ = some (.int .i64 c.most) := h.cell 4
  go_enter Try.func16, Try.ntmps16
  go_wp2_with (first | (go_at_call 33; refine (none_no _ _ _ h).mono ?_; rintro e w1 ⟨rfl, rfl⟩))
  go_ret
  exact ⟨rfl, Below.refl _ _⟩
theorem last_c : LastOk := by
  intro w g c h
  have hR := Box.new w 0 0
  have hb := (Below.refl w.heap.size w).alloc (Nat.le_refl _) (.cells #[.int .i64 0, .int .i64 0] 32)
  have h1 := h.below hb
  have c4 : (w.alloc (.cells #[.int .i64 0, .int .i64 0] 32)).cell? ⟨g, 5, none⟩ = some (.int .i64 c.s1) := h1.cell 5
  have c5 : (w.alloc (.cells #[.int .i64 0, .int .i64 0] 32)).cell? ⟨g, 6, none⟩ = some (.int .i64 c.s2) := h1.cell 6
  go_enter Try.func15, Try.ntmps15
  go_wp2_with (first | (go_at_call 33; refine (none_no _ _ _ h1).mono ?_; rintro e w1 ⟨rfl, rfl⟩))
  exact ret_one rfl rfl (Box.new w c.s1 c.s2) rfl ⟨rfl, (Below.refl w.heap.size w).alloc (Nat.le_refl _) _⟩
theorem ready_c : ReadyOk := by
  intro w g c h
  have hd : Clk w.drew g c := h
  have c1 : w.cell? ⟨g, 3, none⟩ = some (.int .i64 c.rd) := h.cell 3
  have c2 : w.cell? ⟨g, 2, none⟩ = some (.int .i64 c.fst) := h.cell 2
  go_enter Try.func12, Try.ntmps12
  go_wp2_with fail
  go_quiet ((go_at_call 33; exact Calls.quiet_of_same (none_no _ _ _ (by first | exact h | exact hd))))
  go_wp2
  go_ret
  exact ⟨rfl, below_drewN (Below.refl _ _) _⟩

theorem below3 (w : World) (a b c : Obj) : Below w.heap.size w (((w.alloc a).alloc b).alloc c) := by
  have h1 := (Below.refl w.heap.size w).alloc (Nat.le_refl _) a
  have h2 := h1.alloc h1.size b
  exact h2.alloc h2.size c
theorem new_bad_c : NewBad := by
  intro o b w h
  have h1 := newBad_yes.1 h
  clear h
  go_enter Try.func9, Try.ntmps9
  go_wp2
  all_goals first | (exfalso; omega) | (exfalso; rename_i hq; simp at hq; omega) | (exfalso; rename_i hq _; simp at hq; omega) | (exfalso; rename_i hq _ _; simp at hq; omega) | (go_ret2; exact ⟨rfl, Below.refl _ _⟩)
theorem clk_new (w : World) (g : Nat) (c : Ck) (hg : g = w.heap.size) (h : c.ok) : Clk (w.alloc (.cells (ccells c) 58)) g c := hg ▸ ⟨heap_alloc_new w _, h⟩
theorem new_c : NewOk := by
  intro o b w h
  obtain ⟨⟨h1, h2⟩, h3, h4⟩ := newBad_no.1 h
  have hok := Lib.hid (newC_ok h)
  clear h
  by_cases hb0 : 0 < b
  · have hz := Lib.hid (show newC o b = ⟨o, 0, b, b, b - 1, 1048575⟩ by unfold newC; rw [if_pos hb0, if_pos hb0])
    go_enter Try.func9, Try.ntmps9
    go_wp2
    go_ret2
    refine ⟨w.heap.size + 1 + 1, by omega, rfl, ?_, below3 _ _ _ _⟩
    have hq := hok.out
    rw [hz.out] at hq ⊢
    refine clk_new _ _ _ ?_ hq
    simp only [World.size_alloc]
  · have hb1 : b = 0 := by omega
    subst hb1
    have hz := Lib.hid (show newC o 0 = ⟨o, 0, 0, 0, 0, 0⟩ by unfold newC; rw [if_neg hb0, if_neg hb0])
    go_enter Try.func9, Try.ntmps9
    go_wp2
    go_ret2
    refine ⟨w.heap.size + 1 + 1, by omega, rfl, ?_, below3 _ _ _ _⟩
    have hq := hok.out
    rw [hz.out] at hq ⊢
    refine clk_new _ _ _ ?_ hq
    simp only [World.size_alloc]
end Go.Proofs.Ytmjniibeomjkkaa
