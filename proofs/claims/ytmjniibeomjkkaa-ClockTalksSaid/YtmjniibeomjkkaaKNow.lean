/-
  Layer 6, the code: take, Now, See (of the code that landed).
-/
import Derived.Test.YtmjniibeomjkkaaKCode
import Derived.Deep.CutRange
set_option linter.unusedVariables false
namespace Go.Proofs.Ytmjniibeomjkkaa
open Go.RowKit

theorem stampsTwo (V : World) (a b c d : Int) : Stamps (V.alloc (.cells #[.int .i64 a, .int .i64 b, .int .i64 c, .int .i64 d] 32)) (some ⟨V.heap.size, 0, none⟩) 2 [(a, b), (c, d)] := by
  have h := heap_alloc_new V (.cells #[.int .i64 a, .int .i64 b, .int .i64 c, .int .i64 d] 32)
  refine ⟨rfl, fun _ => ⟨_, _, rfl, fun i hi => ?_⟩⟩
  rcases (show i = 0 ∨ i = 1 by simp at hi; omega) with rfl | rfl
  · exact ⟨cell_of_row _ _ 0 _ _ (0, 0) h, cell_of_row _ _ 1 _ _ (0, 0) h⟩
  · exact ⟨cell_of_row _ _ 2 _ _ (0, 0) h, cell_of_row _ _ 3 _ _ (0, 0) h⟩

/-- Behind the last stamp's next the greater one is the later one. -/
theorem two_cand (c : Ck) (h : c.ok) (he : (nxt c.s1 c.s2).2.2 = 0) : two (c.s1, c.s2) (cand c) = cand c := by
  have h1 := (nxt_may he h.2.2.2.2).2
  have h2 := (two_ge ((nxt c.s1 c.s2).1, (nxt c.s1 c.s2).2.1) (c.rd, 0)).1
  have h3 : lt (c.s1, c.s2) (cand c) = true := by
    unfold cand
    rw [lt_iff] at h1 ⊢
    rw [lt_no] at h2
    omega
  unfold two
  rw [if_pos h3]

set_option maxHeartbeats 2000000 in
theorem take_no (w : World) (g : Nat) (c : Ck) (a b : Int) (h : Clk w g c) (hm : c.most ≤ a) :
    Calls Try.prog 39 #[.pointer (some ⟨g, 0, none⟩), sv a b] w fun e w' => e = .returned (.int .i64 61) ∧ Below w.heap.size w w' := by
  have hA := Box.new w a b
  have hb := (Below.refl w.heap.size w).alloc (Nat.le_refl _) (.cells #[.int .i64 a, .int .i64 b] 32)
  have h1 := h.below hb
  have a0 := hA.c0
  have k4 : (w.alloc (.cells #[.int .i64 a, .int .i64 b] 32)).cell? ⟨g, 4, none⟩ = some (.int .i64 c.most) := h1.cell 4
  go_enter Try.func39, Try.ntmps39
  go_wp2_with fail
  go_quiet (fail)
  go_wp2
  go_ret
  exact ⟨rfl, below_drewN hb _⟩
set_option maxHeartbeats 2000000 in
theorem take_yes (w : World) (g : Nat) (c : Ck) (a b t1 t2 : Int) (h : Clk w g c) (hm : ¬ c.most ≤ a) (ht : two (c.s1, c.s2) (a, b) = (t1, t2)) (hO : ({ c with s1 := t1, s2 := t2 } : Ck).ok) :
    Calls Try.prog 39 #[.pointer (some ⟨g, 0, none⟩), sv a b] w fun e w' => e = .returned (.int .i64 0) ∧ Clk w' g { c with s1 := t1, s2 := t2 } ∧ w.grownBy w' (some g) := by
  have hlt := h.lt
  have hA := Box.new w a b
  have hb := (Below.refl w.heap.size w).alloc (Nat.le_refl _) (.cells #[.int .i64 a, .int .i64 b] 32)
  have h1 := h.below hb
  have a0 := hA.c0
  have k4 : (w.alloc (.cells #[.int .i64 a, .int .i64 b] 32)).cell? ⟨g, 4, none⟩ = some (.int .i64 c.most) := h1.cell 4
  have T1 := Lib.hid (fun A V (hA : Stamps V A 2 [(c.s1, c.s2), (a, b)]) => by have h := max_ok A 2 2 _ V hA (by omega); rw [show mx [(c.s1, c.s2), (a, b)] = (t1, t2) from ht] at h; exact h)
  clear ht
  go_enter Try.func39, Try.ntmps39
  go_wp2_with fail
  go_quiet (fail)
  have hB2 := below_drewN hb nq
  have hC2 : Clk ((w.alloc (.cells #[.int .i64 a, .int .i64 b] 32)).drewN nq) g c := h1
  have hA2 : Box ((w.alloc (.cells #[.int .i64 a, .int .i64 b] 32)).drewN nq) w.heap.size a b := hA
  clear hA h1 hb a0 k4
  generalize (w.alloc (.cells #[.int .i64 a, .int .i64 b] 32)).drewN nq = W2 at hB2 hC2 hA2 ⊢
  have a0 := hA2.c0
  have a1 := hA2.c1
  have k5 : W2.cell? ⟨g, 5, none⟩ = some (.int .i64 c.s1) := hC2.cell 5
  have k6 : W2.cell? ⟨g, 6, none⟩ = some (.int .i64 c.s2) := hC2.cell 6
  have hst : Stamps ((W2.alloc (.cells #[.int .i64 c.s1, .int .i64 c.s2, .int .i64 a, .int .i64 b] 32)).drew) (some ⟨W2.heap.size, 0, none⟩) 2 [(c.s1, c.s2), (a, b)] := stampsTwo W2 _ _ _ _
  have hCd : Clk ((W2.alloc (.cells #[.int .i64 c.s1, .int .i64 c.s2, .int .i64 a, .int .i64 b] 32)).drew) g c := hC2.alloc _
  have hBd := (hB2.alloc hB2.size (.cells #[.int .i64 c.s1, .int .i64 c.s2, .int .i64 a, .int .i64 b] 32)).drew
  go_wp2_with fail
  go_region_with (first | (go_at_call 22; refine (T1.out _ _ hst).mono ?_; rintro e w3 ⟨rfl, hb3⟩; have hC3 := hCd.below hb3; have hB3 := hBd.trans (hb3.mono hBd.size); have y5 : w3.cell? ⟨g, 5, none⟩ = some (.int .i64 c.s1) := hC3.cell 5; have y6 : w3.cell? ⟨g, 6, none⟩ = some (.int .i64 c.s2) := hC3.cell 6; have q5 := hC3.fz 5; have q6 := hC3.fz 6))
  all_goals
    go_wp2
    go_ret
    exact ⟨rfl, hC3.puts t1 t2 hO, onto_set (onto_set (onto_below hB3) _ _) _ _⟩

set_option maxHeartbeats 2000000 in
theorem see_c' (w : World) (g : Nat) (c : Ck) (a b : Int) (h : Clk w g c) :
    Calls Try.prog 26 #[.pointer (some ⟨g, 0, none⟩), sv a b] w fun e w' => e = .returned (.int .i64 (seeE c a b)) ∧ Clk w' g (seeC c a b) ∧ w.grownBy w' (some g) := by
  have hok := h.2
  have hO := seeC_ok h.2 a b
  have hA := Box.new w a b
  have hb := (Below.refl w.heap.size w).alloc (Nat.le_refl _) (.cells #[.int .i64 a, .int .i64 b] 32)
  have h1 := h.below hb
  have N1 := Lib.hid (fun V => check_ok a b V)
  go_enter Try.func26, Try.ntmps26
  go_wp2_with (first | (go_at_call 33; refine (none_no _ _ _ h1).mono ?_; rintro e w1 ⟨rfl, rfl⟩))
  refine (N1.out _).mono ?_
  rintro e w1 ⟨rfl, hb1⟩
  have hA1 := hA.keep hb1
  have hC1 := h1.below hb1
  have hB1 := hb.trans (hb1.mono hb.size)
  clear h1 hA hb hb1
  have a0 := hA1.c0
  have a1 := hA1.c1
  have k1 : w1.cell? ⟨g, 1, none⟩ = some (.int .i64 c.off) := hC1.cell 1
  have k3 : w1.cell? ⟨g, 3, none⟩ = some (.int .i64 c.rd) := hC1.cell 3
  cases hm : may a b
  · rw [show ck a b = 9 by unfold ck; rw [hm]; rfl]
    have hE := Lib.hid (show seeE c a b = 9 by unfold seeE; rw [if_pos hm])
    have hC := Lib.hid (show seeC c a b = c by unfold seeC; rw [if_pos hm])
    clear hm
    go_wp2
    go_ret
    exact ⟨by rw [hE.out]; rfl, by rw [hC.out]; exact hC1, onto_below hB1⟩
  · rw [show ck a b = 0 by unfold ck; rw [hm]; rfl]
    obtain ⟨m1, m2, m3, m4⟩ := may_iff.1 hm
    obtain ⟨⟨o1, o2⟩, ⟨o3, o4⟩, _, ⟨o5, o6⟩, _⟩ := hok
    have hw : IntKind.i64.wrap (a - c.rd) = a - c.rd := IntWalk.i64_in _ (by omega)
    by_cases h5 : c.off < a - c.rd
    · have hE := Lib.hid (show seeE c a b = 60 by unfold seeE; rw [if_neg (by rw [hm]; simp), if_pos h5])
      have hC := Lib.hid (show seeC c a b = c by unfold seeC; rw [if_neg (by rw [hm]; simp), if_pos h5])
      clear hm
      go_wp2
      go_quiet (fail)
      go_wp2
      go_ret
      exact ⟨by rw [hE.out]; rfl, by rw [hC.out]; exact hC1, onto_below (below_drewN hB1 _)⟩
    · by_cases h6 : c.most ≤ a
      · have hE := Lib.hid (show seeE c a b = 61 by unfold seeE; rw [if_neg (by rw [hm]; simp), if_neg h5, if_pos h6])
        have hC := Lib.hid (show seeC c a b = c by unfold seeC; rw [if_neg (by rw [hm]; simp), if_neg h5, if_pos h6])
        have T1 := Lib.hid (fun V (p : Clk V g c) => take_no V g c a b p h6)
        clear hm h6
        go_wp2
        go_quiet (fail)
        have hC2 : Clk (w1.drewN nq) g c := hC1
        have hB2 := below_drewN hB1 nq
        have b0 : (w1.drewN nq).cell? ⟨w.heap.size, 0, none⟩ = some (.int .i64 a) := a0
        have b1 : (w1.drewN nq).cell? ⟨w.heap.size, 1, none⟩ = some (.int .i64 b) := a1
        go_wp2_with (first | (go_at_call 39; refine (T1.out _ hC2).mono ?_; rintro e w3 ⟨rfl, hb3⟩))
        go_ret
        exact ⟨by rw [hE.out]; rfl, by rw [hC.out]; exact hC2.below hb3, onto_trans (onto_below hB2) (onto_below hb3)⟩
      · obtain ⟨t1, t2, ht⟩ : ∃ x y, two (c.s1, c.s2) (a, b) = (x, y) := ⟨_, _, rfl⟩
        have hE := Lib.hid (show seeE c a b = 0 by unfold seeE; rw [if_neg (by rw [hm]; simp), if_neg h5, if_neg h6])
        have hC := Lib.hid (show seeC c a b = { c with s1 := t1, s2 := t2 } by unfold seeC; rw [if_neg (by rw [hm]; simp), if_neg h5, if_neg h6, ht])
        rw [hC.out] at hO
        have T1 := Lib.hid (fun V (p : Clk V g c) => take_yes V g c a b t1 t2 p h6 ht hO)
        clear hm ht h6 hO
        go_wp2
        go_quiet (fail)
        have hC2 : Clk (w1.drewN nq) g c := hC1
        have hB2 := below_drewN hB1 nq
        have b0 : (w1.drewN nq).cell? ⟨w.heap.size, 0, none⟩ = some (.int .i64 a) := a0
        have b1 : (w1.drewN nq).cell? ⟨w.heap.size, 1, none⟩ = some (.int .i64 b) := a1
        go_wp2_with (first | (go_at_call 39; refine (T1.out _ hC2).mono ?_; rintro e w3 ⟨rfl, hC3, hg3⟩))
        go_ret
        exact ⟨by rw [hE.out]; rfl, by rw [hC.out]; exact hC3, onto_trans (onto_below hB2) hg3⟩

/-- Behind the greater one is found: where it lies, and all else as it was. -/
def NQ (w : World) (g : Nat) (c : Ck) (t1 t2 : Int) (q : Nat) (V : World) : Prop := Box V q t1 t2 ∧ Box V w.heap.size 0 0 ∧ Clk V g c ∧ Below w.heap.size w V ∧ w.heap.size < q
theorem NQ.mk1 {w V : World} {g : Nat} {c : Ck} (t1 t2 : Int) (hR : Box V w.heap.size 0 0) (hC : Clk V g c) (hB : Below w.heap.size w V) : NQ w g c t1 t2 V.heap.size (V.alloc (.cells #[.int .i64 t1, .int .i64 t2] 32)) :=
  ⟨Box.new V t1 t2, hR.alloc _, hC.alloc _, hB.alloc hB.size _, hR.lt⟩
theorem NQ.mk2 {w V : World} {g q : Nat} {c : Ck} (t1 t2 : Int) (hN : Box V q 0 0) (hg : g < w.heap.size) (hq : w.heap.size < q) (hR : Box V w.heap.size 0 0) (hC : Clk V g c) (hB : Below w.heap.size w V) :
    NQ w g c t1 t2 q ((V.setCell ⟨q, 0, none⟩ (.int .i64 t1)).setCell ⟨q, 1, none⟩ (.int .i64 t2)) :=
  ⟨(hN.put0 t1).put1 t2, (hR.far (by omega) 0 _).far (by omega) 1 _, (hC.far (by omega) 0 _).far (by omega) 1 _, (hB.setCell (p := ⟨q, 0, none⟩) (by simp; omega) _).setCell (p := ⟨q, 1, none⟩) (by simp; omega) _, hq⟩

set_option maxHeartbeats 2000000 in
theorem now_c' (w : World) (g : Nat) (c : Ck) (h : Clk w g c) :
    Calls Try.prog 25 #[.pointer (some ⟨g, 0, none⟩)] w fun e w' => e = .returned (.tuple #[sv (nowR c).1 (nowR c).2.1, .int .i64 (nowR c).2.2]) ∧ Clk w' g (nowC c) ∧ w.grownBy w' (some g) := by
  have hlt := h.lt
  have hO := nowC_ok h.2
  have hR := Box.new w 0 0
  have hb := (Below.refl w.heap.size w).alloc (Nat.le_refl _) (.cells #[.int .i64 0, .int .i64 0] 32)
  have h1 := h.below hb
  have d4 : (w.alloc (.cells #[.int .i64 0, .int .i64 0] 32)).cell? ⟨g, 5, none⟩ = some (.int .i64 c.s1) := h1.cell 5
  have d5 : (w.alloc (.cells #[.int .i64 0, .int .i64 0] 32)).cell? ⟨g, 6, none⟩ = some (.int .i64 c.s2) := h1.cell 6
  have N1 := Lib.hid (fun V => nextS_ok c.s1 c.s2 V)
  obtain ⟨n1, n2, n3, hn⟩ : ∃ x y z, nxt c.s1 c.s2 = (x, y, z) := ⟨_, _, _, rfl⟩
  rw [hn] at N1
  have HN := Lib.hid hn
  clear hn
  go_enter Try.func25, Try.ntmps25
  go_wp2_with (first | (go_at_call 33; refine (none_no _ _ _ h1).mono ?_; rintro e w1 ⟨rfl, rfl⟩))
  refine (N1.out _).mono ?_
  rintro e w1 ⟨rfl, hb1⟩
  have hR1 := hR.keep hb1
  have h2 := h1.below hb1
  have hB1 := hb.trans (hb1.mono hb.size)
  clear d4 d5 h1 hR hb hb1
  have hl1 := hR1.lt
  have y0 := hR1.c0
  have y1 := hR1.c1
  have y2 := hR1.fz 0
  have y3 := hR1.fz 1
  by_cases h0 : n3 = 0
  · subst h0
    have hB2 := hB1.alloc hB1.size (.cells #[.int .i64 n1, .int .i64 n2] 32)
    have hR2 := hR1.alloc (.cells #[.int .i64 n1, .int .i64 n2] 32)
    have h3 := h2.below ((Below.refl _ _).alloc (Nat.le_refl _) (.cells #[.int .i64 n1, .int .i64 n2] 32))
    have hS2 := Box.new w1 n1 n2
    have k3 : (w1.alloc (.cells #[.int .i64 n1, .int .i64 n2] 32)).cell? ⟨g, 3, none⟩ = some (.int .i64 c.rd) := h3.cell 3
    have s0 := hS2.c0
    have s1 := hS2.c1
    have hBd := hB2.drew
    obtain ⟨t1, t2, ht⟩ : ∃ x y, two (n1, n2) (c.rd, 0) = (x, y) := ⟨_, _, rfl⟩
    have T1 := Lib.hid (fun A V (hA : Stamps V A 2 [(n1, n2), (c.rd, 0)]) => by have h := max_ok A 2 2 _ V hA (by omega); rw [show mx [(n1, n2), (c.rd, 0)] = (t1, t2) from ht] at h; exact h)
    have hst : Stamps (((w1.alloc (.cells #[.int .i64 n1, .int .i64 n2] 32)).alloc (.cells #[.int .i64 n1, .int .i64 n2, .int .i64 c.rd, .int .i64 0] 32)).drew) (some ⟨w1.heap.size + 1, 0, none⟩) 2 [(n1, n2), (c.rd, 0)] := by
      have h := stampsTwo (w1.alloc (.cells #[.int .i64 n1, .int .i64 n2] 32)) n1 n2 c.rd 0
      rw [World.size_alloc] at h
      exact h
    have hRe : Box (((w1.alloc (.cells #[.int .i64 n1, .int .i64 n2] 32)).alloc (.cells #[.int .i64 n1, .int .i64 n2, .int .i64 c.rd, .int .i64 0] 32)).drew) w.heap.size 0 0 := hR2.alloc _
    have hCe : Clk (((w1.alloc (.cells #[.int .i64 n1, .int .i64 n2] 32)).alloc (.cells #[.int .i64 n1, .int .i64 n2, .int .i64 c.rd, .int .i64 0] 32)).drew) g c := h3.alloc _
    have hBe : Below w.heap.size w (((w1.alloc (.cells #[.int .i64 n1, .int .i64 n2] 32)).alloc (.cells #[.int .i64 n1, .int .i64 n2, .int .i64 c.rd, .int .i64 0] 32)).drew) := (hB2.alloc hB2.size _).drew
    have hstB : Stamps ((((w1.alloc (.cells #[.int .i64 n1, .int .i64 n2] 32)).alloc (.cells #[.int .i64 n1, .int .i64 n2, .int .i64 c.rd, .int .i64 0] 32)).alloc (.cells #[.int .i64 0, .int .i64 0] 32)).drew) (some ⟨w1.heap.size + 1, 0, none⟩) 2 [(n1, n2), (c.rd, 0)] := Stamps.below' (w := ((w1.alloc (.cells #[.int .i64 n1, .int .i64 n2] 32)).alloc (.cells #[.int .i64 n1, .int .i64 n2, .int .i64 c.rd, .int .i64 0] 32))) hst ((Below.refl _ _).alloc (Nat.le_refl _) _).drew
    have hReB : Box ((((w1.alloc (.cells #[.int .i64 n1, .int .i64 n2] 32)).alloc (.cells #[.int .i64 n1, .int .i64 n2, .int .i64 c.rd, .int .i64 0] 32)).alloc (.cells #[.int .i64 0, .int .i64 0] 32)).drew) w.heap.size 0 0 := Box.alloc (w := ((w1.alloc (.cells #[.int .i64 n1, .int .i64 n2] 32)).alloc (.cells #[.int .i64 n1, .int .i64 n2, .int .i64 c.rd, .int .i64 0] 32))) hRe _
    have hNeB : Box ((((w1.alloc (.cells #[.int .i64 n1, .int .i64 n2] 32)).alloc (.cells #[.int .i64 n1, .int .i64 n2, .int .i64 c.rd, .int .i64 0] 32)).alloc (.cells #[.int .i64 0, .int .i64 0] 32)).drew) (w1.heap.size + 1 + 1) 0 0 := Box.new' (g := w1.heap.size + 1 + 1) ((w1.alloc (.cells #[.int .i64 n1, .int .i64 n2] 32)).alloc (.cells #[.int .i64 n1, .int .i64 n2, .int .i64 c.rd, .int .i64 0] 32)) 0 0 (by simp only [World.size_alloc])
    have hCeB : Clk ((((w1.alloc (.cells #[.int .i64 n1, .int .i64 n2] 32)).alloc (.cells #[.int .i64 n1, .int .i64 n2, .int .i64 c.rd, .int .i64 0] 32)).alloc (.cells #[.int .i64 0, .int .i64 0] 32)).drew) g c := Clk.alloc (w := ((w1.alloc (.cells #[.int .i64 n1, .int .i64 n2] 32)).alloc (.cells #[.int .i64 n1, .int .i64 n2, .int .i64 c.rd, .int .i64 0] 32))) hCe _
    have hBeB : Below w.heap.size w ((((w1.alloc (.cells #[.int .i64 n1, .int .i64 n2] 32)).alloc (.cells #[.int .i64 n1, .int .i64 n2, .int .i64 c.rd, .int .i64 0] 32)).alloc (.cells #[.int .i64 0, .int .i64 0] 32)).drew) := (hB2.alloc hB2.size _ |>.alloc (hB2.alloc hB2.size _).size _).drew
    have hstC : Stamps ((((w1.alloc (.cells #[.int .i64 n1, .int .i64 n2] 32)).alloc (.cells #[.int .i64 0, .int .i64 0] 32)).alloc (.cells #[.int .i64 n1, .int .i64 n2, .int .i64 c.rd, .int .i64 0] 32)).drew) (some ⟨w1.heap.size + 1 + 1, 0, none⟩) 2 [(n1, n2), (c.rd, 0)] := by
      have h := stampsTwo ((w1.alloc (.cells #[.int .i64 n1, .int .i64 n2] 32)).alloc (.cells #[.int .i64 0, .int .i64 0] 32)) n1 n2 c.rd 0
      rw [World.size_alloc, World.size_alloc] at h
      exact h
    have hReC : Box ((((w1.alloc (.cells #[.int .i64 n1, .int .i64 n2] 32)).alloc (.cells #[.int .i64 0, .int .i64 0] 32)).alloc (.cells #[.int .i64 n1, .int .i64 n2, .int .i64 c.rd, .int .i64 0] 32)).drew) w.heap.size 0 0 := (hR2.alloc _).alloc _
    have hNeC : Box ((((w1.alloc (.cells #[.int .i64 n1, .int .i64 n2] 32)).alloc (.cells #[.int .i64 0, .int .i64 0] 32)).alloc (.cells #[.int .i64 n1, .int .i64 n2, .int .i64 c.rd, .int .i64 0] 32)).drew) (w1.heap.size + 1) 0 0 := (Box.new' (g := w1.heap.size + 1) (w1.alloc (.cells #[.int .i64 n1, .int .i64 n2] 32)) 0 0 (by simp only [World.size_alloc])).alloc _
    have hCeC : Clk ((((w1.alloc (.cells #[.int .i64 n1, .int .i64 n2] 32)).alloc (.cells #[.int .i64 0, .int .i64 0] 32)).alloc (.cells #[.int .i64 n1, .int .i64 n2, .int .i64 c.rd, .int .i64 0] 32)).drew) g c := (h3.alloc _).alloc _
    have hBeC : Below w.heap.size w ((((w1.alloc (.cells #[.int .i64 n1, .int .i64 n2] 32)).alloc (.cells #[.int .i64 0, .int .i64 0] 32)).alloc (.cells #[.int .i64 n1, .int .i64 n2, .int .i64 c.rd, .int .i64 0] 32)).drew) := (hB2.alloc hB2.size _ |>.alloc (hB2.alloc hB2.size _).size _).drew
    have kC3 : (((w1.alloc (.cells #[.int .i64 n1, .int .i64 n2] 32)).alloc (.cells #[.int .i64 0, .int .i64 0] 32))).cell? ⟨g, 3, none⟩ = some (.int .i64 c.rd) := (h3.alloc _).cell 3
    have sC0 := (hS2.alloc (.cells #[.int .i64 0, .int .i64 0] 32)).c0
    have sC1 := (hS2.alloc (.cells #[.int .i64 0, .int .i64 0] 32)).c1
    go_upto_region 6 with fail
    go_cut [6] from 23 to 31 (fun v wx => ∃ q, v = .pointer (some ⟨q, 0, none⟩) ∧ Hid (NQ w g c t1 t2 q wx))
    case first =>
      go_region_with (first
        | (go_at_call 22; with_reducible refine (T1.out _ _ hst).mono ?_; rintro e w3 ⟨rfl, hb3⟩; have hR3 := hRe.keep hb3; have hC3 := hCe.below hb3; have hB3 := hBe.trans (hb3.mono hBe.size))
        | (go_at_call 22; with_reducible refine (T1.out _ _ hstB).mono ?_; rintro e w3 ⟨rfl, hb3⟩; have hR3 := hReB.keep hb3; have hC3 := hCeB.below hb3; have hB3 := hBeB.trans (hb3.mono hBeB.size); have hN3 := hNeB.keep hb3; have n0 := hN3.c0; have n1 := hN3.c1; have n2 := hN3.fz 0; have n3 := hN3.fz 1)
        | (go_at_call 22; with_reducible refine (T1.out _ _ hstC).mono ?_; rintro e w3 ⟨rfl, hb3⟩; have hR3 := hReC.keep hb3; have hC3 := hCeC.below hb3; have hB3 := hBeC.trans (hb3.mono hBeC.size); have hN3 := hNeC.keep hb3; have n0 := hN3.c0; have n1 := hN3.c1; have n2 := hN3.fz 0; have n3 := hN3.fz 1))
      all_goals (try go_wp2_with fail)
      all_goals go_meet
      all_goals first
        | exact ⟨_, rfl, Lib.hid (NQ.mk1 t1 t2 hR3 hC3 hB3)⟩
        | exact ⟨_, rfl, Lib.hid (NQ.mk2 t1 t2 hN3 hlt (by omega) hR3 hC3 hB3)⟩
    case rest =>
      obtain ⟨q, rfl, hQ⟩ := hcut
      clear hRe hCe hBe hst hBd hB2 hR2 h3 hS2 s0 s1 k3 hB1 hR1 h2 y0 y1 y2 y3 hstB hReB hNeB hCeB hBeB hstC hReC hNeC hCeC hBeC kC3 sC0 sC1 T1
      obtain ⟨hN4, hR4, hC4, hB4, hq⟩ := hQ.out
      clear hQ
      have n0 := hN4.c0
      have n1' := hN4.c1
      have r0 := hR4.c0
      have r1 := hR4.c1
      have z0 := hR4.fz 0
      have z1 := hR4.fz 1
      by_cases hm : c.most ≤ t1
      · have hE := Lib.hid (show nowR c = (0, 0, 61) by unfold nowR cand; rw [HN.out, if_pos rfl]; dsimp only; rw [ht, if_pos hm])
        have hC := Lib.hid (show nowC c = c by unfold nowC cand; rw [HN.out, if_pos rfl]; dsimp only; rw [ht, if_pos hm])
        have T1 := Lib.hid (take_no _ g c t1 t2 hC4 hm)
        clear ht hm
        go_wp2_with (first | (go_at_call 39; refine T1.out.mono ?_; rintro e w5 ⟨rfl, hb5⟩; have hR5 := hR4.keep hb5; have r5 := hR5.c0; have r6 := hR5.c1; have z5 := hR5.fz 0; have z6 := hR5.fz 1))
        exact ret_two rfl rfl ((hR5.put0 _).put1 _) rfl ⟨by rw [hE.out]; rfl, by rw [hC.out]; exact ((hC4.below hb5).far (by omega) _ _).far (by omega) _ _, onto_far (onto_far (onto_trans (onto_below hB4) (onto_below hb5)) (Nat.le_refl _) _ _) (Nat.le_refl _) _ _⟩
      · have hcd : cand c = (t1, t2) := by unfold cand; rw [HN.out]; exact ht
        have hE := Lib.hid (show nowR c = (t1, t2, 0) by unfold nowR cand; rw [HN.out, if_pos rfl]; dsimp only; rw [ht, if_neg hm])
        have hC := Lib.hid (show nowC c = { c with s1 := t1, s2 := t2 } by unfold nowC cand; rw [HN.out, if_pos rfl]; dsimp only; rw [ht, if_neg hm])
        rw [hC.out] at hO
        have T1 := Lib.hid (take_yes _ g c t1 t2 t1 t2 hC4 hm (by have e := two_cand c h.2 (by rw [HN.out]); rwa [hcd] at e) hO)
        clear ht hm hcd hO
        go_wp2_with (first | (go_at_call 39; refine T1.out.mono ?_; rintro e w5 ⟨rfl, hC5, hg5⟩; have hN5 : Box w5 q t1 t2 := (hg5.block q hN4.lt (fun e => (by omega : q ≠ g) (Option.some.inj e))).trans hN4; have hR5 : Box w5 w.heap.size 0 0 := (hg5.block w.heap.size hR4.lt (fun e => (by omega : w.heap.size ≠ g) (Option.some.inj e))).trans hR4; have m0 := hN5.c0; have m1 := hN5.c1; have r5 := hR5.c0; have r6 := hR5.c1; have z5 := hR5.fz 0; have z6 := hR5.fz 1))
        exact ret_two rfl rfl ((hR5.put0 _).put1 _) rfl ⟨by rw [hE.out]; rfl, by rw [hC.out]; exact (hC5.far (by omega) _ _).far (by omega) _ _, onto_far (onto_far (onto_trans (onto_below hB4) hg5) (Nat.le_refl _) _ _) (Nat.le_refl _) _ _⟩
  · have hn0 : (n3 != 0) = true := by simpa using h0
    have hE := Lib.hid (show nowR c = (0, 0, n3) by unfold nowR; rw [HN.out, if_neg h0])
    have hC := Lib.hid (show nowC c = c by unfold nowC; rw [HN.out, if_neg h0])
    go_wp2
    exact ret_two rfl rfl (((hR1.put0 _).put1 _).alloc _) rfl ⟨by rw [hE.out]; rfl, by rw [hC.out]; exact ((h2.far (by omega) _ _).far (by omega) _ _).below ((Below.refl _ _).alloc (Nat.le_refl _) _), onto_trans (onto_far (onto_far (onto_below hB1) (Nat.le_refl _) _ _) (Nat.le_refl _) _ _) (onto_below ((Below.refl _ _).alloc (Nat.le_refl _) _))⟩
theorem clock_ok : ClockOk := ⟨new_bad_c, new_c, set_c, raise_c, ready_c, now_c', see_c', reading_c, last_c, bound_c⟩
end Go.Proofs.Ytmjniibeomjkkaa
