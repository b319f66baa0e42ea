/-
  Layer 6, plain: clocks: what each call answers, and makes of a clock: no program.
-/
import Derived.Test.YtmjniibeomjkkaaSMath
set_option linter.unusedVariables false
namespace Go.Proofs.Ytmjniibeomjkkaa

/-- A clock: its offset, its reading, the bound that it had at first, its bound, its last stamp. -/
structure Ck where
  off : Int
  rd : Int
  fst : Int
  most : Int
  s1 : Int
  s2 : Int

def In (x : Int) : Prop := 0 ≤ x ∧ x ≤ 1099511627776
def Ck.ok (c : Ck) : Prop := In c.off ∧ In c.rd ∧ In c.fst ∧ In c.most ∧ may c.s1 c.s2 = true

def newBad (o b : Int) : Bool := decide (o < 0 ∨ 1099511627776 < o ∨ b < 0 ∨ 1099511627776 < b)
def newC (o b : Int) : Ck := ⟨o, 0, b, b, if 0 < b then b - 1 else 0, if 0 < b then 1048575 else 0⟩
theorem newBad_no {o b : Int} : newBad o b = false ↔ In o ∧ In b := by
  unfold newBad In
  rw [decide_eq_false_iff_not]
  omega
theorem newBad_yes {o b : Int} : newBad o b = true ↔ o < 0 ∨ 1099511627776 < o ∨ b < 0 ∨ 1099511627776 < b := by unfold newBad; exact decide_eq_true_iff
theorem newC_ok {o b : Int} (h : newBad o b = false) : (newC o b).ok := by
  obtain ⟨h1, h2⟩ := newBad_no.1 h
  unfold In at h1 h2
  unfold Ck.ok newC In
  refine ⟨h1, ⟨by simp, by simp⟩, h2, h2, ?_⟩
  rw [may_iff]
  dsimp only
  split <;> omega

/-- Set, Raise: the error; the clock. -/
def setE (c : Ck) (r : Int) : Int := if r < c.rd ∨ 1099511627776 < r then 9 else 0
def setC (c : Ck) (r : Int) : Ck := if r < c.rd ∨ 1099511627776 < r then c else { c with rd := r }
def rseE (c : Ck) (b : Int) : Int := if b < c.most ∨ 1099511627776 < b then 9 else 0
def rseC (c : Ck) (b : Int) : Ck := if b < c.most ∨ 1099511627776 < b then c else { c with most := b }
def rdy (c : Ck) : Bool := decide (c.fst ≤ c.rd)
theorem setC_ok {c : Ck} (h : c.ok) (r : Int) : (setC c r).ok := by
  unfold setC
  split
  · exact h
  · unfold Ck.ok In at *
    exact ⟨h.1, ⟨by dsimp only; omega, by dsimp only; omega⟩, h.2.2⟩
theorem rseC_ok {c : Ck} (h : c.ok) (r : Int) : (rseC c r).ok := by
  unfold rseC
  split
  · exact h
  · unfold Ck.ok In at *
    exact ⟨h.1, h.2.1, h.2.2.1, ⟨by dsimp only; omega, by dsimp only; omega⟩, h.2.2.2.2⟩

/-- The stamp that Now would make; what Now tells: two numbers, and the error; the clock. -/
def cand (c : Ck) : Int × Int := two ((nxt c.s1 c.s2).1, (nxt c.s1 c.s2).2.1) (c.rd, 0)
def nowR (c : Ck) : Int × Int × Int :=
  if (nxt c.s1 c.s2).2.2 = 0 then if c.most ≤ (cand c).1 then (0, 0, 61) else ((cand c).1, (cand c).2, 0) else (0, 0, (nxt c.s1 c.s2).2.2)
def nowC (c : Ck) : Ck := if (nxt c.s1 c.s2).2.2 = 0 then if c.most ≤ (cand c).1 then c else { c with s1 := (cand c).1, s2 := (cand c).2 } else c
/-- See: the error; the clock. -/
def seeE (c : Ck) (a b : Int) : Int := if may a b = false then 9 else if c.off < a - c.rd then 60 else if c.most ≤ a then 61 else 0
def seeC (c : Ck) (a b : Int) : Ck :=
  if may a b = false then c else if c.off < a - c.rd then c else if c.most ≤ a then c else { c with s1 := (two (c.s1, c.s2) (a, b)).1, s2 := (two (c.s1, c.s2) (a, b)).2 }

theorem nxt_may {a b : Int} (h : (nxt a b).2.2 = 0) (hm : may a b = true) : may (nxt a b).1 (nxt a b).2.1 = true ∧ lt (a, b) ((nxt a b).1, (nxt a b).2.1) = true := by
  have h0 := may_iff.1 hm
  unfold nxt at *
  rw [if_neg (by rw [hm]; simp)] at *
  by_cases h1 : b < 1048575
  · rw [if_pos h1, may_iff, lt_iff]
    dsimp only
    omega
  · rw [if_neg h1] at *
    by_cases h2 : a < 1099511627776
    · rw [if_pos h2, may_iff, lt_iff]
      dsimp only
      omega
    · rw [if_neg h2] at h
      exact absurd h (by decide)
theorem two_may {x y : Int × Int} (hx : may x.1 x.2 = true) (hy : may y.1 y.2 = true) : may (two x y).1 (two x y).2 = true := by
  unfold two
  split
  · exact hy
  · exact hx
theorem cand_may {c : Ck} (h : c.ok) (he : (nxt c.s1 c.s2).2.2 = 0) : may (cand c).1 (cand c).2 = true := by
  unfold cand
  refine two_may (nxt_may he h.2.2.2.2).1 ?_
  have := h.2.1
  unfold In at this
  rw [may_iff]
  dsimp only
  omega
theorem nowC_ok {c : Ck} (h : c.ok) : (nowC c).ok := by
  unfold nowC
  split
  · rename_i he
    split
    · exact h
    · exact ⟨h.1, h.2.1, h.2.2.1, h.2.2.2.1, cand_may h he⟩
  · exact h
theorem seeC_ok {c : Ck} (h : c.ok) (a b : Int) : (seeC c a b).ok := by
  unfold seeC
  split
  · exact h
  · rename_i hm
    split
    · exact h
    · split
      · exact h
      · exact ⟨h.1, h.2.1, h.2.2.1, h.2.2.2.1, two_may (x := (c.s1, c.s2)) (y := (a, b)) h.2.2.2.2 (by simpa using hm)⟩
end Go.Proofs.Ytmjniibeomjkkaa
