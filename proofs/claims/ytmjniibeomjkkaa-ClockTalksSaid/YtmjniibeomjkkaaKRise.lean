/-
  Layer 6, plain: the stamps of a clock rise, below its bound.
-/
import Derived.Test.YtmjniibeomjkkaaKDo0
set_option linter.unusedVariables false
namespace Go.Proofs.Ytmjniibeomjkkaa

/-- A clock whose last stamp is below its bound. -/
def Good (c : Ck) : Prop := c.ok ∧ (c.s1 < c.most ∨ (c.s1 = 0 ∧ c.s2 = 0))
theorem newC_good {o b : Int} (h : newBad o b = false) : Good (newC o b) := by
  refine ⟨newC_ok h, ?_⟩
  unfold newC
  dsimp only
  split <;> omega
/-- A later clock: its last stamp is not less, its bound and reading have not fallen. -/
def Up (c d : Ck) : Prop := lt (d.s1, d.s2) (c.s1, c.s2) = false ∧ c.most ≤ d.most ∧ d.fst = c.fst
theorem Up.refl (c : Ck) : Up c c := ⟨lt_irr _, Int.le_refl _, rfl⟩
theorem Up.trans {c d e : Ck} (h1 : Up c d) (h2 : Up d e) : Up c e := ⟨lt_trans' h2.1 h1.1, Int.le_trans h1.2.1 h2.2.1, h2.2.2.trans h1.2.2⟩
theorem two_up (x y : Int × Int) : lt (two x y) x = false := (two_ge x y).1

theorem now_up {c : Ck} (h : Good c) : Good (nowC c) ∧ Up c (nowC c) := by
  refine ⟨⟨nowC_ok h.1, ?_⟩, ?_⟩
  · unfold nowC
    split
    · split
      · exact h.2
      · exact .inl (by dsimp only; omega)
    · exact h.2
  · unfold nowC
    split
    · rename_i he
      split
      · exact Up.refl c
      · refine ⟨?_, Int.le_refl _, rfl⟩
        dsimp only
        have h1 := (nxt_may he h.1.2.2.2.2).2
        have h2 := two_up ((nxt c.s1 c.s2).1, (nxt c.s1 c.s2).2.1) (c.rd, 0)
        have h3 : lt ((nxt c.s1 c.s2).1, (nxt c.s1 c.s2).2.1) (c.s1, c.s2) = false := by
          rw [lt_iff] at h1
          rw [lt_no]
          omega
        exact lt_trans' h2 h3
    · exact Up.refl c
/-- A stamp that was made. -/
theorem now_made {c : Ck} (h : Good c) (he : (nowR c).2.2 = 0) :
    lt (c.s1, c.s2) ((nowR c).1, (nowR c).2.1) = true ∧ (nowR c).1 < c.most ∧ c.rd ≤ (nowR c).1 ∧ (nowC c).s1 = (nowR c).1 ∧ (nowC c).s2 = (nowR c).2.1 ∧ (nowC c).most = c.most ∧ (nowC c).rd = c.rd := by
  unfold nowR nowC at *
  by_cases h1 : (nxt c.s1 c.s2).2.2 = 0
  · rw [if_pos h1] at *
    by_cases h2 : c.most ≤ (cand c).1
    · rw [if_pos h2] at he
      exact absurd he (by decide)
    · rw [if_neg h2] at *
      rw [if_pos h1, if_neg h2]
      refine ⟨?_, by dsimp only; omega, ?_, rfl, rfl, rfl, rfl⟩
      · have hn := (nxt_may h1 h.1.2.2.2.2).2
        have hu := two_up ((nxt c.s1 c.s2).1, (nxt c.s1 c.s2).2.1) (c.rd, 0)
        dsimp only
        rw [lt_iff] at *
        rw [lt_no] at hu
        unfold cand
        dsimp only at *
        omega
      · have hu := (two_ge ((nxt c.s1 c.s2).1, (nxt c.s1 c.s2).2.1) (c.rd, 0)).2.1
        rw [lt_no] at hu
        dsimp only at *
        unfold cand
        omega
  · rw [if_neg h1] at he
    exact absurd he h1
theorem see_up {c : Ck} (h : Good c) (a b : Int) : Good (seeC c a b) ∧ Up c (seeC c a b) := by
  refine ⟨⟨seeC_ok h.1 a b, ?_⟩, ?_⟩
  · unfold seeC
    (repeat' split)
    · exact h.2
    · exact h.2
    · exact h.2
    · rename_i h3
      dsimp only
      have hh := h.2
      rcases (two_ge (c.s1, c.s2) (a, b)).2.2 with e | e <;> rw [e]
      · exact hh
      · exact .inl (by dsimp only; omega)
  · unfold seeC
    (repeat' split)
    · exact Up.refl c
    · exact Up.refl c
    · exact Up.refl c
    · exact ⟨two_up (c.s1, c.s2) (a, b), Int.le_refl _, rfl⟩
theorem set_up {c : Ck} (h : Good c) (r : Int) : Good (setC c r) ∧ Up c (setC c r) := by
  refine ⟨⟨setC_ok h.1 r, ?_⟩, ?_⟩ <;> unfold setC <;> split
  · exact h.2
  · exact h.2
  · exact Up.refl c
  · exact ⟨lt_irr _, Int.le_refl _, rfl⟩
theorem rse_up {c : Ck} (h : Good c) (r : Int) : Good (rseC c r) ∧ Up c (rseC c r) := by
  have hh := h.2
  refine ⟨⟨rseC_ok h.1 r, ?_⟩, ?_⟩ <;> unfold rseC <;> split
  · exact hh
  · dsimp only
    omega
  · exact Up.refl c
  · exact ⟨lt_irr _, by dsimp only; omega, rfl⟩
theorem do_up {c : Ck} (h : Good c) (k a x y : Int) : Good (doC c k a x y) ∧ Up c (doC c k a x y) := by
  unfold doC
  (repeat' split)
  · exact set_up h a
  · exact rse_up h a
  · exact now_up h
  · exact see_up h x y
/-- What 'does' tells of a stamp. -/
theorem do_made {c : Ck} (h : Good c) (k a x y : Int) (hm : (doS c k).2.2 = true) :
    lt (c.s1, c.s2) ((doS c k).1, (doS c k).2.1) = true ∧ (doS c k).1 < (doC c k a x y).most ∧ (doC c k a x y).rd ≤ (doS c k).1 ∧ (doC c k a x y).s1 = (doS c k).1 ∧ (doC c k a x y).s2 = (doS c k).2.1 := by
  unfold doS at *
  by_cases h2 : k % 4 = 2
  · rw [if_pos h2] at *
    have he : (nowR c).2.2 = 0 := by simpa using hm
    have hC : doC c k a x y = nowC c := by unfold doC; rw [if_neg (by omega), if_neg (by omega), if_pos h2]
    obtain ⟨h3, h4, h5, h6, h7, h8, h9⟩ := now_made h he
    rw [hC, h8, h9]
    exact ⟨h3, h4, h5, h6, h7⟩
  · rw [if_neg h2] at hm
    exact absurd hm (by simp)
theorem good_last {c : Ck} (h : Good c) : c.s1 < max c.most 1 := by
  have := h.2
  omega
theorem mx_two {x y : Int × Int} (h : lt y x = false) : mx [x, y] = y := by
  show two x y = y
  unfold two
  cases h1 : lt x y with
  | true => rfl
  | false => exact (lt_anti h1 h)
end Go.Proofs.Ytmjniibeomjkkaa
