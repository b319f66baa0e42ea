/-
  Layer 5, plain: stamps: what may be, their order, the next, the one ahead, a later one, the greatest: no program.
-/
import Derived.Test.YtmjniibeomjkkaaBase
set_option linter.unusedVariables false
namespace Go.Proofs.Ytmjniibeomjkkaa

/-- Whether a stamp may be. -/
def may (a b : Int) : Bool := decide (0 ≤ a ∧ a ≤ 1099511627776 ∧ 0 ≤ b ∧ b ≤ 1048575)
theorem may_iff {a b : Int} : may a b = true ↔ 0 ≤ a ∧ a ≤ 1099511627776 ∧ 0 ≤ b ∧ b ≤ 1048575 := by unfold may; exact decide_eq_true_iff
theorem may_no {a b : Int} : may a b = false ↔ ¬ (0 ≤ a ∧ a ≤ 1099511627776 ∧ 0 ≤ b ∧ b ≤ 1048575) := by unfold may; exact decide_eq_false_iff_not

/-- What Check tells. -/
def ck (a b : Int) : Int := if may a b then 0 else 9
/-- Less. -/
def lt (x y : Int × Int) : Bool := decide (x.1 < y.1 ∨ (x.1 = y.1 ∧ x.2 < y.2))
theorem lt_iff {x y : Int × Int} : lt x y = true ↔ x.1 < y.1 ∨ (x.1 = y.1 ∧ x.2 < y.2) := by unfold lt; exact decide_eq_true_iff
theorem lt_no {x y : Int × Int} : lt x y = false ↔ ¬ (x.1 < y.1 ∨ (x.1 = y.1 ∧ x.2 < y.2)) := by unfold lt; exact decide_eq_false_iff_not

/-- What Next tells: the two numbers, and the error. -/
def nxt (a b : Int) : Int × Int × Int :=
  if may a b = false then (0, 0, 9) else if b < 1048575 then (a, b + 1, 0) else if a < 1099511627776 then (a + 1, 0, 0) else (0, 0, 5)
/-- What Prev tells. -/
def prv (a b : Int) : Int × Int × Int :=
  if may a b = false then (0, 0, 9) else if 0 < b then (a, b - 1, 0) else if 0 < a then (a - 1, 1048575, 0) else (0, 0, 5)
/-- What Later tells. -/
def ltr (a b k : Int) : Int × Int × Int :=
  if may a b = false ∨ k < 0 then (0, 0, 9) else if 1099511627776 - a < k then (0, 0, 5) else (a + k, b, 0)

/-- The greater one of two; the greatest one of some. -/
def two (x y : Int × Int) : Int × Int := if lt x y then y else x
def mx : List (Int × Int) → Int × Int
  | [] => (0, 0)
  | x :: l => l.foldl two x

theorem mx_snoc (l : List (Int × Int)) (h : l ≠ []) (y : Int × Int) : mx (l ++ [y]) = two (mx l) y := by
  cases l with
  | nil => exact absurd rfl h
  | cons x l => simp [mx]

/-! ### what Max tells is one of them, and none is greater -/

theorem lt_trans' {x y z : Int × Int} (h1 : lt x y = false) (h2 : lt y z = false) : lt x z = false := by
  rw [lt_no] at *
  omega
theorem lt_irr (x : Int × Int) : lt x x = false := by rw [lt_no]; omega
theorem lt_anti {x y : Int × Int} (h1 : lt x y = false) (h2 : lt y x = false) : x = y := by
  rw [lt_no] at *
  exact Prod.ext (by omega) (by omega)
theorem two_ge (x y : Int × Int) : lt (two x y) x = false ∧ lt (two x y) y = false ∧ (two x y = x ∨ two x y = y) := by
  unfold two
  cases h : lt x y with
  | true =>
    refine ⟨?_, by simpa using lt_irr y, .inr (by simp)⟩
    rw [lt_iff] at h
    simp only [if_true]
    rw [lt_no]
    omega
  | false => exact ⟨by simpa using lt_irr x, by simpa using h, .inl (by simp)⟩
theorem mx_max : ∀ (l : List (Int × Int)) (_ : l ≠ []), mx l ∈ l ∧ ∀ x ∈ l, lt (mx l) x = false := by
  intro l hl
  obtain ⟨x, l, rfl⟩ : ∃ x r, l = x :: r := by cases l with | nil => exact absurd rfl hl | cons x r => exact ⟨x, r, rfl⟩
  show l.foldl two x ∈ x :: l ∧ ∀ y ∈ x :: l, lt (l.foldl two x) y = false
  clear hl
  induction l generalizing x with
  | nil => exact ⟨by simp, fun y hy => by rw [List.mem_singleton.1 hy]; exact lt_irr x⟩
  | cons z l ih =>
    obtain ⟨h1, h2⟩ := ih (two x z)
    obtain ⟨g1, g2, g3⟩ := two_ge x z
    show l.foldl two (two x z) ∈ _ ∧ ∀ y ∈ _, lt (l.foldl two (two x z)) y = false
    have hb := h2 (two x z) (by simp)
    refine ⟨?_, fun y hy => ?_⟩
    · rcases List.mem_cons.1 h1 with h | h
      · rw [h]
        rcases g3 with g | g <;> rw [g] <;> simp
      · simp [h]
    · rcases List.mem_cons.1 hy with rfl | hy
      · exact lt_trans' hb g1
      · rcases List.mem_cons.1 hy with rfl | hy
        · exact lt_trans' hb g2
        · exact h2 y (by simp [hy])
/-- In any order it is the same. -/
theorem mx_perm {l r : List (Int × Int)} (hl : l ≠ []) (h1 : ∀ x ∈ l, x ∈ r) (h2 : ∀ x ∈ r, x ∈ l) : mx r = mx l := by
  have hr : r ≠ [] := by
    obtain ⟨x, t, rfl⟩ : ∃ x t, l = x :: t := by cases l with | nil => exact absurd rfl hl | cons x r => exact ⟨x, r, rfl⟩
    intro h
    have := h1 x (by simp)
    rw [h] at this
    simp at this
  obtain ⟨a1, a2⟩ := mx_max l hl
  obtain ⟨b1, b2⟩ := mx_max r hr
  exact lt_anti (b2 _ (h1 _ a1)) (a2 _ (h2 _ b1))
end Go.Proofs.Ytmjniibeomjkkaa
