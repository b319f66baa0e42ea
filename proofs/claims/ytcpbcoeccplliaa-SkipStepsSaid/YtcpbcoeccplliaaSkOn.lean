/-
  Layer 9, plain: a step among the keys of the one below it.
-/
import Derived.Test.YtcpbcoeccplliaaSkKeys
set_option linter.unusedVariables false
namespace Go.Proofs.Ytcpbcoeccplliaa
open Go.RowKit

def onB (l : List Kv) (p : Nat) : List Kv := l.filter (fun x => decide (p ≤ x.st))
theorem onB_key (l : List Kv) (p : Nat) (h : 1 ≤ p) : kstepI l ((p : Nat) : Int) = (onB l p).map Kv.key := by
  unfold kstepI kstep onB
  rw [if_pos (by omega), Int.toNat_natCast]
theorem onB_succ (l : List Kv) (p : Nat) : onB l (p + 1) = (onB l p).filter (fun x => decide (p + 1 ≤ x.st)) := by
  unfold onB
  rw [List.filter_filter]
  congr 1
  funext x
  rw [Bool.eq_iff_iff, Bool.and_eq_true, decide_eq_true_iff, decide_eq_true_iff]
  omega
theorem ksteps_mem {l : List Kv} (hs : Sor l) {x : Kv} (hx : x ∈ l) : ksteps l x.key = x.st := by
  have hh := (khas_mem hs x.key).2 ⟨x, hx, rfl⟩
  obtain ⟨hp, hk⟩ := (khas_iff _ _).1 hh
  unfold ksteps
  rw [if_pos hh, stAt_eq hp]
  obtain ⟨i, hi, rfl⟩ := List.mem_iff_getElem.1 hx
  rcases Nat.lt_trichotomy (kpos l (l[i]'hi).key) i with h | h | h
  · have h3 := List.pairwise_iff_getElem.1 hs _ _ hp hi h
    rw [hk, kl_irr] at h3
    cases h3
  · congr 2
  · have h3 := List.pairwise_iff_getElem.1 hs _ _ hi hp h
    rw [hk, kl_irr] at h3
    cases h3
/-- How many of the first i on step p stand on the next one. -/
def cntB (l : List Kv) (p i : Nat) : Nat := (((onB l p).take i).filter (fun x => decide (p + 1 ≤ x.st))).length
theorem cntB_0 (l : List Kv) (p : Nat) : cntB l p 0 = 0 := by unfold cntB; rw [List.take_zero]; rfl
theorem cntB_le (l : List Kv) (p i : Nat) : cntB l p i ≤ (onB l (p + 1)).length := by
  unfold cntB
  rw [onB_succ]
  exact List.Sublist.length_le (List.Sublist.filter _ (List.take_sublist _ _))
theorem cntB_all (l : List Kv) (p : Nat) : cntB l p (onB l p).length = (onB l (p + 1)).length := by
  unfold cntB
  rw [List.take_length, onB_succ]
theorem cntB_succ {l : List Kv} {p i : Nat} (hi : i < (onB l p).length) : cntB l p (i + 1) = cntB l p i + if p + 1 ≤ ((onB l p)[i]'hi).st then 1 else 0 := by
  unfold cntB
  rw [List.take_succ_eq_append_getElem hi, List.filter_append, List.length_append]
  congr 1
  by_cases h : p + 1 ≤ ((onB l p)[i]'hi).st
  · rw [if_pos h, List.filter_cons_of_pos (by simpa using h)]; rfl
  · rw [if_neg h, List.filter_cons_of_neg (by simpa using h)]; rfl
theorem onB_sor {l : List Kv} (hs : Sor l) (p : Nat) : Sor (onB l p) := List.Pairwise.filter _ hs
theorem onB_at {l : List Kv} (hs : Sor l) {p i : Nat} (hi : i < (onB l p).length) :
    (p + 1 ≤ ((onB l p)[i]'hi).st → ∃ h : cntB l p i < (onB l (p + 1)).length, (onB l (p + 1))[cntB l p i]'h = (onB l p)[i]'hi) ∧
    (¬ p + 1 ≤ ((onB l p)[i]'hi).st → ∀ h : cntB l p i < (onB l (p + 1)).length, ((onB l (p + 1))[cntB l p i]'h).key ≠ ((onB l p)[i]'hi).key) := by
  have hsp : onB l (p + 1) = ((onB l p).take i).filter (fun x => decide (p + 1 ≤ x.st)) ++ ((onB l p)[i]'hi :: (onB l p).drop (i + 1)).filter (fun x => decide (p + 1 ≤ x.st)) := by
    rw [← List.filter_append, ← List.drop_eq_getElem_cons hi, List.take_append_drop, onB_succ]
  constructor
  · intro h
    rw [List.filter_cons_of_pos (by simpa using h)] at hsp
    have hlt : cntB l p i < (onB l (p + 1)).length := by rw [hsp, List.length_append, List.length_cons]; unfold cntB; omega
    refine ⟨hlt, ?_⟩
    have e : (onB l (p + 1))[cntB l p i]? = some ((onB l p)[i]'hi) := by
      rw [hsp, List.getElem?_append_right (by unfold cntB; exact Nat.le_refl _)]
      unfold cntB
      rw [Nat.sub_self]
      rfl
    rw [List.getElem?_eq_getElem hlt] at e
    injection e
  · intro h hlt
    rw [List.filter_cons_of_neg (by simpa using h)] at hsp
    obtain ⟨y, hy⟩ : ∃ y, (onB l (p + 1))[cntB l p i]'hlt = y := ⟨_, rfl⟩
    have hm : y ∈ (onB l p).drop (i + 1) := by
      have e : (onB l (p + 1))[cntB l p i]? = some y := by rw [List.getElem?_eq_getElem hlt, hy]
      rw [hsp, List.getElem?_append_right (by unfold cntB; exact Nat.le_refl _)] at e
      exact (List.mem_filter.1 (List.mem_of_getElem? e)).1
    rw [hy]
    obtain ⟨j, hj, e⟩ := List.mem_iff_getElem.1 hm
    rw [List.getElem_drop] at e
    rw [List.length_drop] at hj
    intro hk
    have hlt2 := List.pairwise_iff_getElem.1 (onB_sor hs p) i (i + 1 + j) hi (by omega) (by omega)
    rw [e, hk, kl_irr] at hlt2
    cases hlt2
theorem onB_none {l : List Kv} {p : Nat} (h : ∀ x ∈ l, x.st < p) : onB l p = [] := by
  unfold onB
  rw [List.filter_eq_nil_iff]
  intro x hx
  have := h x hx
  rw [decide_eq_true_eq]
  omega
theorem onB_len (l : List Kv) (p : Nat) : (onB l p).length ≤ l.length := List.length_filter_le _ _
theorem onB_sub {l : List Kv} {p : Nat} {x : Kv} (h : x ∈ onB l p) : x ∈ l := (List.mem_filter.1 h).1
theorem listM_16 (ds : List Sd9) (k : Nat) : ∀ x ∈ listM ds k, x.st ≤ 16 := by
  have key : ∀ (ds : List Sd9) (l : List Kv), (∀ x ∈ l, x.st ≤ 16) → ∀ x ∈ ds.foldl doM l, x.st ≤ 16 := by
    intro ds
    induction ds with
    | nil => exact fun l h => h
    | cons d ds ih =>
      intro l h
      refine ih _ (fun x hx => ?_)
      unfold doM at hx
      split at hx
      · exact h x (kdrop_sub hx)
      · unfold kput at hx
        split at hx
        · rename_i hh
          obtain ⟨hp, _⟩ := (khas_iff _ _).1 hh
          rcases List.mem_or_eq_of_mem_set hx with hx | hx
          · exact h x hx
          · subst hx
            show stAt l _ ≤ 16
            rw [stAt_eq hp]
            exact h _ (List.getElem_mem hp)
        · rcases List.mem_append.1 hx with hx | hx
          · exact h x (List.mem_of_mem_take hx)
          · rcases List.mem_cons.1 hx with hx | hx
            · subst hx
              show (1 + d.st % 16).toNat ≤ 16
              have := Int.emod_lt_of_pos d.st (b := 16) (by omega)
              omega
            · exact h x (List.mem_of_mem_drop hx)
  exact key _ _ (fun x hx => nomatch hx)
def ksB (l : List Kv) (p : Nat) : List ByteArray := (onB l p).map Kv.key
theorem ksB_len (l : List Kv) (p : Nat) : (ksB l p).length ≤ l.length := by unfold ksB; rw [List.length_map]; exact onB_len l p
theorem on_round {l : List Kv} (hs : Sor l) (p : Nat) {xs ys : List ByteArray} (hx : xs = ksB l p) (hy : ys = ksB l (p + 1)) (i : Nat) (hi : i < xs.length) :
    ∃ st : Nat, ksteps l (xs[i]'hi) = st ∧ cntB l p i ≤ ys.length ∧ ((p + 1 ≤ st ∧ (∃ h : cntB l p i < ys.length, ys[cntB l p i]'h = xs[i]'hi) ∧ cntB l p (i + 1) = cntB l p i + 1) ∨ (¬ p + 1 ≤ st ∧ (∀ h : cntB l p i < ys.length, ys[cntB l p i]'h ≠ xs[i]'hi) ∧ cntB l p (i + 1) = cntB l p i)) := by
  subst hx; subst hy
  have hi2 : i < (onB l p).length := by simpa [ksB] using hi
  have e1 : (ksB l p)[i]'hi = ((onB l p)[i]'hi2).key := by simp [ksB]
  have e2 : (ksB l (p + 1)).length = (onB l (p + 1)).length := by simp [ksB]
  have e3 : ∀ (j : Nat) (hj : j < (ksB l (p + 1)).length), (ksB l (p + 1))[j]'hj = ((onB l (p + 1))[j]'(by rw [← e2]; exact hj)).key := fun j hj => by simp [ksB]
  obtain ⟨h1, h2⟩ := onB_at hs hi2
  have hc := cntB_succ hi2
  refine ⟨((onB l p)[i]'hi2).st, by rw [e1]; exact ksteps_mem hs (onB_sub (List.getElem_mem hi2)), by rw [e2]; exact cntB_le _ _ _, ?_⟩
  by_cases h : p + 1 ≤ ((onB l p)[i]'hi2).st
  · rw [if_pos h] at hc
    obtain ⟨ha, hb⟩ := h1 h
    exact .inl ⟨h, ⟨by rw [e2]; exact ha, by rw [e3, e1, hb]⟩, hc⟩
  · rw [if_neg h] at hc
    exact .inr ⟨h, fun ha => by rw [e3, e1]; exact h2 h (by rw [← e2]; exact ha), hc⟩
end Go.Proofs.Ytcpbcoeccplliaa
