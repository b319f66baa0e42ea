/-
  Layer 7: the document's disk: Remove.
  Layer 7: the document's files that are put (plain).
-/
import Derived.Test.YtkhalpajomammaaDPub
set_option linter.unusedVariables false
namespace Go.Proofs.Ytkhalpajomammaa
open Go.RowKit

set_option maxRecDepth 100000 in
set_option maxHeartbeats 8000000 in
theorem remove_ok (w : World) (g : Nat) (D : Dk) (F : Nat → Prop) (nm : ByteArray) (h : RDk w g D F) :
    Calls Try.prog 39 #[pt g, .string nm] w fun e w' => e = .returned (.int .i64 (remE D nm)) ∧ Turns RDk w g F (rem D nm) w' := by
  obtain ⟨Fb, v, KA, kn, kc, qs, h⟩ := h
  have FI := Lib.hid (find_ok w g D F nm ⟨Fb, v, KA, kn, kc, qs, h⟩)
  obtain ⟨p, hp⟩ : ∃ p, pos D.l nm = p := ⟨_, rfl⟩
  obtain ⟨is, his⟩ : ∃ b, isAt D.l nm = b := ⟨_, rfl⟩
  obtain ⟨dd, hd⟩ : ∃ b, D.dead = b := ⟨_, rfl⟩
  have c1 := h.c1
  rw [hp, his] at FI
  rw [hd] at c1
  have HP := Lib.hid hp
  have HI := Lib.hid his
  have HD := Lib.hid hd
  have H := Lib.hid h
  clear h hp his hd
  cases dd with
  | true =>
    have hE : remE D nm = 71 := by unfold remE synE nmE; rw [HD.out]; rfl
    have hC : rem D nm = D := by unfold rem nmE; rw [HD.out]; rfl
    rw [hE, hC]
    go_enter Try.func39, Try.ntmps39
    go_wp2_with fail
    go_ret
    exact ⟨rfl, H.out.ends (fun k e => .inl e) (Grow.refl _ _) H.out.lt⟩
  | false =>
    cases is with
    | false =>
      have hE : remE D nm = 70 := by unfold remE synE nmE; rw [HD.out, HI.out]; rfl
      have hC : rem D nm = D := by unfold rem nmE; rw [HD.out, HI.out]; rfl
      rw [hE, hC]
      go_enter Try.func39, Try.ntmps39
      go_wp2_with (first | (go_at_call 69; refine FI.out.mono ?_; rintro e w1 ⟨rfl, hb1⟩))
      go_ret
      exact ⟨rfl, (H.out.below hb1).ends (fun k e => .inl e) (Grow.of_below hb1) H.out.lt⟩
    | true =>
      have hN : nmE D nm = 0 := by unfold nmE; rw [HD.out, HI.out]; rfl
      by_cases hl : D.left = 0
      · have hE : remE D nm = 71 := by unfold remE synE workE; rw [hN, if_pos rfl, if_pos hl]
        have hC : rem D nm = crash D D.keep := by unfold rem; rw [hN, if_pos rfl, work_yes hl]
        rw [hE, hC]
        have FA := Lib.hid (fun V (hb : Below w.heap.size w V) => fails_yes V g D F Fb _ KA kn kc qs (H.out.below hb) hl)
        clear hl hN hE hC
        go_enter Try.func39, Try.ntmps39
        go_wp2_with (first
          | (go_at_call 69; refine FI.out.mono ?_; rintro e w1 ⟨rfl, hb1⟩)
          | (go_at_call 71; refine (FA.out _ hb1).mono ?_; rintro e w2 ⟨rfl, ht2⟩))
        go_ret
        exact ⟨rfl, turns_below hb1 ht2 H.out.lt⟩
      · have hE : remE D nm = 0 := by unfold remE synE workE; rw [hN, if_pos rfl, if_neg hl]
        have hC : rem D nm = { D with l := without D.l nm, left := if 0 < D.left then D.left - 1 else D.left } := by unfold rem; rw [hN, if_pos rfl, work_no hl]
        obtain ⟨D', hD'⟩ : ∃ x, rem D nm = x := ⟨_, rfl⟩
        rw [hE, hD']
        have HC := Lib.hid (hD'.symm.trans hC)
        have FA := Lib.hid (fun V (hb : Below w.heap.size w V) => fails_no V g D F Fb v KA kn kc qs (H.out.below hb) hl)
        clear hl hN hE hC hD'
        go_enter Try.func39, Try.ntmps39
        go_wp2_with (first
          | (go_at_call 69; refine FI.out.mono ?_; rintro e w1 ⟨rfl, hb1⟩)
          | (go_at_call 71; refine (FA.out _ hb1).mono ?_; rintro e w2 ⟨rfl, hR2, hG2⟩; have HR2 := Lib.hid hR2; clear hR2)
          | (go_at_call 73; refine (without_b _ g _ F Fb _ KA kn kc qs nm HR2.out).mono ?_; rintro e w3 ⟨rfl, v3, qs3, hR3, hG3⟩; have HR3 := Lib.hid hR3; clear hR3))
        go_ret
        have hG := (Grow.of_below (F := F) hb1).trans (hG2.mono (fun k e => .inl e))
        rw [HC.out]
        exact ⟨rfl, HR3.out.ends (fun k e => by rcases e with e | e; exact .inl e; exact .inr ⟨Nat.le_trans hG.size e.1, e.2⟩) (hG.trans (hG3.mono (fun k e => .inl (e ▸ H.out.fg.1)))) H.out.lt⟩
end Go.Proofs.Ytkhalpajomammaa

namespace Go.Proofs.Ytkhalpajomammaa
open Go.RowKit

theorem take_add_drop_mem {α : Type} {a b : List α} {x : α} (h : x ∈ a ++ b) : x ∈ a ∨ x ∈ b := List.mem_append.1 h
/-! ### plain: a file that is put keeps the order -/
theorem pos_lt_name {l : List Fl} {s : ByteArray} {i : Nat} (h : i < l.length) (hi : i < pos l s) : nl l[i].name s = true := by
  induction l generalizing i with
  | nil => simp at h
  | cons f l ih =>
    cases hf : nl f.name s with
    | false =>
      have e : pos (f :: l) s = 0 := by unfold pos; rw [List.takeWhile_cons, if_neg (by rw [hf]; decide)]; rfl
      omega
    | true =>
      have e : pos (f :: l) s = pos l s + 1 := by unfold pos; rw [List.takeWhile_cons, if_pos hf]; rfl
      cases i with
      | zero => exact hf
      | succ i => exact ih (by simpa using h) (by omega)
theorem pos_stop {l : List Fl} {s : ByteArray} (h : pos l s < l.length) : nl l[pos l s].name s = false := by
  induction l with
  | nil => simp at h
  | cons f l ih =>
    cases hf : nl f.name s with
    | false =>
      have e : pos (f :: l) s = 0 := by unfold pos; rw [List.takeWhile_cons, if_neg (by rw [hf]; decide)]; rfl
      simp only [e, List.getElem_cons_zero, hf]
    | true =>
      have e : pos (f :: l) s = pos l s + 1 := by unfold pos; rw [List.takeWhile_cons, if_pos hf]; rfl
      simp only [e, List.getElem_cons_succ]
      exact ih (by rw [e] at h; simpa using h)
theorem sorted_get {l : List Fl} (h : l.Pairwise (fun a b => nl a.name b.name = true)) {i j : Nat} (hij : i < j) (hj : j < l.length) : nl (l[i]'(by omega)).name l[j].name = true := List.pairwise_iff_getElem.1 h i j (by omega) hj hij
theorem pos_after {l : List Fl} (hs : l.Pairwise (fun a b => nl a.name b.name = true)) {s : ByteArray} {i : Nat} (h : i < l.length) (hi : pos l s ≤ i) : nl l[i].name s = false := by
  have h0 := pos_stop (l := l) (s := s) (by omega)
  rcases Nat.eq_or_lt_of_le hi with e | e
  · subst e
    exact h0
  · have h1 := sorted_get hs e h
    cases h2 : nl l[i].name s with
    | false => rfl
    | true => rw [nl_trans h1 h2] at h0; cases h0
theorem sum_app (a b : List Fl) : sum (a ++ b) = sum a + sum b := by
  unfold sum
  rw [List.map_append, List.sum_append]
theorem sum_cons (f : Fl) (b : List Fl) : sum (f :: b) = f.bs.length + sum b := by
  unfold sum
  rw [List.map_cons, List.sum_cons]
theorem withF_sorted {l : List Fl} (hs : l.Pairwise (fun a b => nl a.name b.name = true)) (f : Fl) : (withF l f).Pairwise (fun a b => nl a.name b.name = true) := by
  unfold withF
  obtain ⟨k, hk⟩ : ∃ k, (if isAt l f.name = true then 1 else 0) = k := ⟨_, rfl⟩
  rw [hk]
  have hp := pos_le l f.name
  rw [List.pairwise_append]
  refine ⟨hs.sublist (List.take_sublist _ _), List.pairwise_cons.2 ⟨fun b hb => ?_, hs.sublist (List.drop_sublist _ _)⟩, fun a ha b hb => ?_⟩
  · obtain ⟨j, hj, rfl⟩ := List.mem_iff_getElem.1 hb
    rw [List.getElem_drop]
    rw [List.length_drop] at hj
    have h1 := pos_after hs (s := f.name) (i := pos l f.name + k + j) (by omega) (by omega)
    cases h2 : nl f.name (l[pos l f.name + k + j]'(by omega)).name with
    | true => rfl
    | false =>
      exfalso
      have he := nl_total h1 h2
      have h3 : pos l f.name < l.length := by omega
      have h0 : pos l f.name < pos l f.name + k + j ∨ (k = 0 ∧ j = 0) := by omega
      rcases h0 with h0 | ⟨rfl, rfl⟩
      · have h6 := sorted_get hs h0 (by omega)
        rw [he] at h6
        rw [pos_stop h3] at h6
        cases h6
      · have hi : ¬ isAt l f.name = true := fun e => by rw [if_pos e] at hk; cases hk
        rw [isAt_eq rfl h3] at hi
        exact hi (decide_eq_true he)
  · obtain ⟨i, hi, rfl⟩ := List.mem_iff_getElem.1 ha
    rw [List.length_take] at hi
    rw [List.getElem_take]
    have h1 := pos_lt_name (l := l) (s := f.name) (i := i) (by omega) (by omega)
    rcases List.mem_cons.1 hb with rfl | hb
    · exact h1
    · obtain ⟨j, hj, rfl⟩ := List.mem_iff_getElem.1 hb
      rw [List.getElem_drop]
      rw [List.length_drop] at hj
      exact sorted_get hs (by omega) (by omega)
theorem sum_split (l : List Fl) (p : Nat) (h : p < l.length) : sum l = sum (l.take p) + l[p].bs.length + sum (l.drop (p + 1)) := by
  conv => lhs; rw [← List.take_append_drop p l]
  rw [sum_app, List.drop_eq_getElem_cons h, sum_cons]
  omega
theorem withF_sum (l : List Fl) (f : Fl) : sum (withF l f) + (if isAt l f.name = true then (fileAt l f.name).bs.length else 0) = sum l + f.bs.length := by
  unfold withF
  rw [sum_app, sum_cons]
  by_cases hi : isAt l f.name = true
  · rw [if_pos hi, if_pos hi]
    obtain ⟨h, hf, _⟩ := fileAt_eq rfl hi
    rw [hf]
    have := sum_split l (pos l f.name) h
    omega
  · rw [if_neg hi, if_neg hi]
    have := congrArg sum (List.take_append_drop (pos l f.name) l)
    rw [sum_app] at this
    simp only [Nat.add_zero]
    omega
theorem withF_len (l : List Fl) (f : Fl) : (withF l f).length = if isAt l f.name = true then l.length else l.length + 1 := by
  unfold withF
  rw [List.length_append, List.length_cons, List.length_take, List.length_drop]
  have hp := pos_le l f.name
  by_cases hi : isAt l f.name = true
  · have := isAt_lt hi
    rw [if_pos hi, if_pos hi]
    omega
  · rw [if_neg hi, if_neg hi]
    omega
theorem withF_mem {l : List Fl} {f q : Fl} (h : q ∈ withF l f) : q = f ∨ q ∈ l := by
  unfold withF at h
  rcases List.mem_append.1 h with h | h
  · exact .inr (List.mem_of_mem_take h)
  · rcases List.mem_cons.1 h with h | h
    · exact .inl h
    · exact .inr (List.mem_of_mem_drop h)
theorem ok_with {D : Dk} (h : D.ok) {f : Fl} (hm : f.mark ≤ f.bs.length) (hl : isAt D.l f.name = true ∨ D.l.length < 20) (hs : sum D.l + f.bs.length ≤ 4194304 + (if isAt D.l f.name = true then (fileAt D.l f.name).bs.length else 0)) : ({ D with l := withF D.l f } : Dk).ok := by
  refine ⟨withF_sorted h.sorted f, fun q hq => ?_, ?_, ?_, h.low, h.high⟩
  · rcases withF_mem hq with rfl | h1
    · exact hm
    · exact h.marks q h1
  · show (withF D.l f).length ≤ 20
    rw [withF_len]
    have := h.few
    split
    · exact this
    · rename_i hn
      have := hl.resolve_left hn
      omega
  · show sum (withF D.l f) ≤ 4194304
    have := withF_sum D.l f
    omega
theorem without_len {l : List Fl} {s : ByteArray} (h : isAt l s = true) : (without l s).length + 1 = l.length := by
  unfold without
  rw [if_pos h]
  have := isAt_lt h
  rw [List.length_append, List.length_take, List.length_drop]
  omega
theorem without_sum {l : List Fl} {s : ByteArray} (h : isAt l s = true) : sum (without l s) + (fileAt l s).bs.length = sum l := by
  obtain ⟨hl, hf, _⟩ := fileAt_eq rfl h
  unfold without
  rw [if_pos h, sum_app, hf]
  have := sum_split l (pos l s) hl
  omega
end Go.Proofs.Ytkhalpajomammaa
