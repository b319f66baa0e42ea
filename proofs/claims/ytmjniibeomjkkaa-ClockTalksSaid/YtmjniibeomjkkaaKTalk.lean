/-
  Layer 6, plain: clocks whose readings are at most the offset apart.
-/
import Derived.Test.YtmjniibeomjkkaaKRise
set_option linter.unusedVariables false
namespace Go.Proofs.Ytmjniibeomjkkaa

/-- One of the three clocks: its reading is d above r; its last stamp's Wall is at most r + 10, its Logic at most m. -/
def Talk (r d m : Int) (c : Ck) : Prop := c.ok ∧ c.off = 10 ∧ c.most = 1099511627776 ∧ c.rd = r + d ∧ c.s1 ≤ r + 10 ∧ c.s2 ≤ m
theorem talk_on {r d m by' : Int} {c : Ck} (h : Talk r d m c) (hb : 0 ≤ by') (hr : r + d + by' ≤ 1099511627776) : setE c (c.rd + by') = 0 ∧ Talk (r + by') d m (setC c (c.rd + by')) := by
  obtain ⟨h1, h2, h3, h4, h5, h6⟩ := h
  have hn : ¬ (c.rd + by' < c.rd ∨ 1099511627776 < c.rd + by') := by omega
  have hok := setC_ok h1 (c.rd + by')
  have hE : setE c (c.rd + by') = 0 := by unfold setE; rw [if_neg hn]
  have hC : setC c (c.rd + by') = { c with rd := c.rd + by' } := by unfold setC; rw [if_neg hn]
  rw [hC] at hok ⊢
  exact ⟨hE, hok, h2, h3, by dsimp only; omega, by dsimp only; omega, h6⟩
/-- What Now tells of such a clock. -/
theorem talk_now {r d m : Int} {c : Ck} (h : Talk r d m c) (hr : 0 ≤ r ∧ r ≤ 100000) (hd : 0 ≤ d ∧ d ≤ 10) (hm : 0 ≤ m ∧ m ≤ 100000) :
    ∃ a b, nowR c = (a, b, 0) ∧ Talk r d (m + 1) (nowC c) ∧ 0 ≤ a ∧ a ≤ r + 10 ∧ 0 ≤ b ∧ b ≤ m + 1 := by
  obtain ⟨h1, h2, h3, h4, h5, h6⟩ := h
  have hmay := may_iff.1 h1.2.2.2.2
  have hn : nxt c.s1 c.s2 = (c.s1, c.s2 + 1, 0) := by
    unfold nxt
    rw [if_neg (by rw [h1.2.2.2.2]; simp), if_pos (by omega)]
  have hok := nowC_ok h1
  have hc : cand c = two (c.s1, c.s2 + 1) (c.rd, 0) := by unfold cand; rw [hn]
  have hb : 0 ≤ (cand c).1 ∧ (cand c).1 ≤ r + 10 ∧ 0 ≤ (cand c).2 ∧ (cand c).2 ≤ m + 1 := by
    rw [hc]
    rcases (two_ge (c.s1, c.s2 + 1) (c.rd, 0)).2.2 with e | e <;> rw [e] <;> dsimp only <;> omega
  refine ⟨(cand c).1, (cand c).2, ?_, ?_, hb⟩
  · unfold nowR
    rw [hn, if_pos rfl, if_neg (by omega)]
  · have hC : nowC c = { c with s1 := (cand c).1, s2 := (cand c).2 } := by unfold nowC; rw [hn, if_pos rfl, if_neg (by omega)]
    rw [hC] at hok ⊢
    exact ⟨hok, h2, h3, h4, hb.2.1, hb.2.2.2⟩
theorem talk_see {r d m a b : Int} {c : Ck} (h : Talk r d m c) (hr : 0 ≤ r ∧ r ≤ 100000) (hd : 0 ≤ d) (ha : 0 ≤ a ∧ a ≤ r + 10) (hb : 0 ≤ b ∧ b ≤ m) (hm : m ≤ 200000) :
    seeE c a b = 0 ∧ Talk r d m (seeC c a b) := by
  obtain ⟨h1, h2, h3, h4, h5, h6⟩ := h
  have hmay : may a b = true := may_iff.2 (by omega)
  have hok := seeC_ok h1 a b
  have hE : seeE c a b = 0 := by unfold seeE; rw [if_neg (by rw [hmay]; simp), if_neg (by omega), if_neg (by omega)]
  have hC : seeC c a b = { c with s1 := (two (c.s1, c.s2) (a, b)).1, s2 := (two (c.s1, c.s2) (a, b)).2 } := by unfold seeC; rw [if_neg (by rw [hmay]; simp), if_neg (by omega), if_neg (by omega)]
  rw [hC] at hok ⊢
  refine ⟨hE, hok, h2, h3, h4, ?_, ?_⟩ <;> dsimp only <;> rcases (two_ge (c.s1, c.s2) (a, b)).2.2 with e | e <;> rw [e] <;> dsimp only <;> omega
theorem talk_mono {r d m m' : Int} {c : Ck} (h : Talk r d m c) (hm : m ≤ m') : Talk r d m' c := by
  obtain ⟨h1, h2, h3, h4, h5, h6⟩ := h
  exact ⟨h1, h2, h3, h4, h5, by omega⟩
/-- How they begin. -/
theorem talk_new (d : Int) (hd : 0 ≤ d ∧ d ≤ 10) : newBad 10 0 = false ∧ rseE (newC 10 0) 1099511627776 = 0 ∧ setE (rseC (newC 10 0) 1099511627776) d = 0 ∧ Talk 0 d 0 (setC (rseC (newC 10 0) 1099511627776) d) := by
  have e1 : newC 10 0 = ⟨10, 0, 0, 0, 0, 0⟩ := rfl
  have e2 : rseC (newC 10 0) 1099511627776 = ⟨10, 0, 0, 1099511627776, 0, 0⟩ := rfl
  have hok := setC_ok (rseC_ok (newC_ok (o := 10) (b := 0) rfl) 1099511627776) d
  rw [e2] at *
  have hn : ¬ (d < 0 ∨ 1099511627776 < d) := by omega
  refine ⟨rfl, rfl, ?_, ?_⟩
  · unfold setE
    rw [if_neg hn]
  · have hC : setC ⟨10, 0, 0, 1099511627776, 0, 0⟩ d = ⟨10, d, 0, 1099511627776, 0, 0⟩ := by unfold setC; rw [if_neg hn]
    rw [hC] at hok ⊢
    exact ⟨hok, rfl, rfl, by dsimp only; omega, by dsimp only; omega, by dsimp only; omega⟩
end Go.Proofs.Ytmjniibeomjkkaa
