/-
  Layer 7: the document's files that are put (plain).
-/
import Derived.Test.YtmjoaeljfhgojaaDRem
set_option linter.unusedVariables false
namespace Go.Proofs.Ytmjoaeljfhgojaa
open Go.RowKit

theorem take_add_drop_mem {α : Type} {a b : List α} {x : α} (h : x ∈ a ++ b) : x ∈ a ∨ x ∈ b := List.mem_append.1 h
/-! ### plain: a file that is put keeps the order -/
theorem pos_lt_name {l : List Fl} {s : ByteArray} {i : Nat} (h : i < l.length) (hi : i < pos l s) : nl l[i].name s = true := by
  induction l generalizing i with
  | nil => simp at h
  | cons f l ih =>
    cases hf : nl f.name s with
    | false =>
      have e : pos (f :: l) s = 0 := by unfold pos; rw [List.takeWhile_cons, if_neg (by rw [hf]; decide)]; rfl
      omega
    | true =>
      have e : pos (f :: l) s = pos l s + 1 := by unfold pos; rw [List.takeWhile_cons, if_pos hf]; rfl
      cases i with
      | zero => exact hf
      | succ i => exact ih (by simpa using h) (by omega)
theorem pos_stop {l : List Fl} {s : ByteArray} (h : pos l s < l.length) : nl l[pos l s].name s = false := by
  induction l with
  | nil => simp at h
  | cons f l ih =>
    cases hf : nl f.name s with
    | false =>
      have e : pos (f :: l) s = 0 := by unfold pos; rw [List.takeWhile_cons, if_neg (by rw [hf]; decide)]; rfl
      simp only [e, List.getElem_cons_zero, hf]
    | true =>
      have e : pos (f :: l) s = pos l s + 1 := by unfold pos; rw [List.takeWhile_cons, if_pos hf]; rfl
      simp only [e, List.getElem_cons_succ]
      exact ih (by rw [e] at h; simpa using h)
theorem sorted_get {l : List Fl} (h : l.Pairwise (fun a b => nl a.name b.name = true)) {i j : Nat} (hij : i < j) (hj : j < l.length) : nl (l[i]'(by omega)).name l[j].name = true := List.pairwise_iff_getElem.1 h i j (by omega) hj hij
theorem pos_after {l : List Fl} (hs : l.Pairwise (fun a b => nl a.name b.name = true)) {s : ByteArray} {i : Nat} (h : i < l.length) (hi : pos l s ≤ i) : nl l[i].name s = false := by
  have h0 := pos_stop (l := l) (s := s) (by omega)
  rcases Nat.eq_or_lt_of_le hi with e | e
  · subst e
    exact h0
  · have h1 := sorted_get hs e h
    cases h2 : nl l[i].name s with
    | false => rfl
    | true => rw [nl_trans h1 h2] at h0; cases h0
theorem sum_app (a b : List Fl) : sum (a ++ b) = sum a + sum b := by
  unfold sum
  rw [List.map_append, List.sum_append]
theorem sum_cons (f : Fl) (b : List Fl) : sum (f :: b) = f.bs.length + sum b := by
  unfold sum
  rw [List.map_cons, List.sum_cons]
theorem withF_sorted {l : List Fl} (hs : l.Pairwise (fun a b => nl a.name b.name = true)) (f : Fl) : (withF l f).Pairwise (fun a b => nl a.name b.name = true) := by
  unfold withF
  obtain ⟨k, hk⟩ : ∃ k, (if isAt l f.name = true then 1 else 0) = k := ⟨_, rfl⟩
  rw [hk]
  have hp := pos_le l f.name
  rw [List.pairwise_append]
  refine ⟨hs.sublist (List.take_sublist _ _), List.pairwise_cons.2 ⟨fun b hb => ?_, hs.sublist (List.drop_sublist _ _)⟩, fun a ha b hb => ?_⟩
  · obtain ⟨j, hj, rfl⟩ := List.mem_iff_getElem.1 hb
    rw [List.getElem_drop]
    rw [List.length_drop] at hj
    have h1 := pos_after hs (s := f.name) (i := pos l f.name + k + j) (by omega) (by omega)
    cases h2 : nl f.name (l[pos l f.name + k + j]'(by omega)).name with
    | true => rfl
    | false =>
      exfalso
      have he := nl_total h1 h2
      have h3 : pos l f.name < l.length := by omega
      have h0 : pos l f.name < pos l f.name + k + j ∨ (k = 0 ∧ j = 0) := by omega
      rcases h0 with h0 | ⟨rfl, rfl⟩
      · have h6 := sorted_get hs h0 (by omega)
        rw [he] at h6
        rw [pos_stop h3] at h6
        cases h6
      · have hi : ¬ isAt l f.name = true := fun e => by rw [if_pos e] at hk; cases hk
        rw [isAt_eq rfl h3] at hi
        exact hi (decide_eq_true he)
  · obtain ⟨i, hi, rfl⟩ := List.mem_iff_getElem.1 ha
    rw [List.length_take] at hi
    rw [List.getElem_take]
    have h1 := pos_lt_name (l := l) (s := f.name) (i := i) (by omega) (by omega)
    rcases List.mem_cons.1 hb with rfl | hb
    · exact h1
    · obtain ⟨j, hj, rfl⟩ := List.mem_iff_getElem.1 hb
      rw [List.getElem_drop]
      rw [List.length_drop] at hj
      exact sorted_get hs (by omega) (by omega)
theorem sum_split (l : List Fl) (p : Nat) (h : p < l.length) : sum l = sum (l.take p) + l[p].bs.length + sum (l.drop (p + 1)) := by
  conv => lhs; rw [← List.take_append_drop p l]
  rw [sum_app, List.drop_eq_getElem_cons h, sum_cons]
  omega
theorem withF_sum (l : List Fl) (f : Fl) : sum (withF l f) + (if isAt l f.name = true then (fileAt l f.name).bs.length else 0) = sum l + f.bs.length := by
  unfold withF
  rw [sum_app, sum_cons]
  by_cases hi : isAt l f.name = true
  · rw [if_pos hi, if_pos hi]
    obtain ⟨h, hf, _⟩ := fileAt_eq rfl hi
    rw [hf]
    have := sum_split l (pos l f.name) h
    omega
  · rw [if_neg hi, if_neg hi]
    have := congrArg sum (List.take_append_drop (pos l f.name) l)
    rw [sum_app] at this
    simp only [Nat.add_zero]
    omega
theorem withF_len (l : List Fl) (f : Fl) : (withF l f).length = if isAt l f.name = true then l.length else l.length + 1 := by
  unfold withF
  rw [List.length_append, List.length_cons, List.length_take, List.length_drop]
  have hp := pos_le l f.name
  by_cases hi : isAt l f.name = true
  · have := isAt_lt hi
    rw [if_pos hi, if_pos hi]
    omega
  · rw [if_neg hi, if_neg hi]
    omega
theorem withF_mem {l : List Fl} {f q : Fl} (h : q ∈ withF l f) : q = f ∨ q ∈ l := by
  unfold withF at h
  rcases List.mem_append.1 h with h | h
  · exact .inr (List.mem_of_mem_take h)
  · rcases List.mem_cons.1 h with h | h
    · exact .inl h
    · exact .inr (List.mem_of_mem_drop h)
theorem ok_with {D : Dk} (h : D.ok) {f : Fl} (hm : f.mark ≤ f.bs.length) (hl : isAt D.l f.name = true ∨ D.l.length < 20) (hs : sum D.l + f.bs.length ≤ 4194304 + (if isAt D.l f.name = true then (fileAt D.l f.name).bs.length else 0)) : ({ D with l := withF D.l f } : Dk).ok := by
  refine ⟨withF_sorted h.sorted f, fun q hq => ?_, ?_, ?_, h.low, h.high⟩
  · rcases withF_mem hq with rfl | h1
    · exact hm
    · exact h.marks q h1
  · show (withF D.l f).length ≤ 20
    rw [withF_len]
    have := h.few
    split
    · exact this
    · rename_i hn
      have := hl.resolve_left hn
      omega
  · show sum (withF D.l f) ≤ 4194304
    have := withF_sum D.l f
    omega
theorem without_len {l : List Fl} {s : ByteArray} (h : isAt l s = true) : (without l s).length + 1 = l.length := by
  unfold without
  rw [if_pos h]
  have := isAt_lt h
  rw [List.length_append, List.length_take, List.length_drop]
  omega
theorem without_sum {l : List Fl} {s : ByteArray} (h : isAt l s = true) : sum (without l s) + (fileAt l s).bs.length = sum l := by
  obtain ⟨hl, hf, _⟩ := fileAt_eq rfl h
  unfold without
  rw [if_pos h, sum_app, hf]
  have := sum_split l (pos l s) hl
  omega
end Go.Proofs.Ytmjoaeljfhgojaa
