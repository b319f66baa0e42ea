/-
  Layer 7: the document's disk: Remove.
  Layer 7: the document's files that are put (plain).
  Layer 7: the document's disk: Rename.
-/
import Derived.Test.YtamglegdgcehaaaGreatZ07
set_option linter.unusedVariables false
namespace Go.Proofs.YtamglegdgcehaaaGreat
open Go.RowKit

set_option maxRecDepth 100000 in
set_option maxHeartbeats 8000000 in
theorem remove_ok (w : World) (g : Nat) (D : Dk) (F : Nat → Prop) (nm : ByteArray) (h : RDk w g D F) :
    Calls Tryz.prog 100 #[pt g, .string nm] w fun e w' => e = .returned (.int .i64 (remE D nm)) ∧ Turns RDk w g F (rem D nm) w' := by
  obtain ⟨Fb, v, KA, kn, kc, qs, h⟩ := h
  have FI := Lib.hid (find_ok w g D F nm ⟨Fb, v, KA, kn, kc, qs, h⟩)
  obtain ⟨p, hp⟩ : ∃ p, pos D.l nm = p := ⟨_, rfl⟩
  obtain ⟨is, his⟩ : ∃ b, isAt D.l nm = b := ⟨_, rfl⟩
  obtain ⟨dd, hd⟩ : ∃ b, D.dead = b := ⟨_, rfl⟩
  have c1 := h.c1
  rw [hp, his] at FI
  rw [hd] at c1
  have HP := Lib.hid hp
  have HI := Lib.hid his
  have HD := Lib.hid hd
  have H := Lib.hid h
  clear h hp his hd
  cases dd with
  | true =>
    have hE : remE D nm = 71 := by unfold remE synE nmE; rw [HD.out]; rfl
    have hC : rem D nm = D := by unfold rem nmE; rw [HD.out]; rfl
    rw [hE, hC]
    go_enter Tryz.func100, Tryz.ntmps100
    go_wp2_with fail
    go_ret
    exact ⟨rfl, H.out.ends (fun k e => .inl e) (Grow.refl _ _) H.out.lt⟩
  | false =>
    cases is with
    | false =>
      have hE : remE D nm = 70 := by unfold remE synE nmE; rw [HD.out, HI.out]; rfl
      have hC : rem D nm = D := by unfold rem nmE; rw [HD.out, HI.out]; rfl
      rw [hE, hC]
      go_enter Tryz.func100, Tryz.ntmps100
      go_wp2_with (first | (go_at_call 59; refine FI.out.mono ?_; rintro e w1 ⟨rfl, hb1⟩))
      go_ret
      exact ⟨rfl, (H.out.below hb1).ends (fun k e => .inl e) (Grow.of_below hb1) H.out.lt⟩
    | true =>
      have hN : nmE D nm = 0 := by unfold nmE; rw [HD.out, HI.out]; rfl
      by_cases hl : D.left = 0
      · have hE : remE D nm = 71 := by unfold remE synE workE; rw [hN, if_pos rfl, if_pos hl]
        have hC : rem D nm = crash D D.keep := by unfold rem; rw [hN, if_pos rfl, work_yes hl]
        rw [hE, hC]
        have FA := Lib.hid (fun V (hb : Below w.heap.size w V) => fails_yes V g D F Fb _ KA kn kc qs (H.out.below hb) hl)
        clear hl hN hE hC
        go_enter Tryz.func100, Tryz.ntmps100
        go_wp2_with (first
          | (go_at_call 59; refine FI.out.mono ?_; rintro e w1 ⟨rfl, hb1⟩)
          | (go_at_call 61; refine (FA.out _ hb1).mono ?_; rintro e w2 ⟨rfl, ht2⟩))
        go_ret
        exact ⟨rfl, turns_below hb1 ht2 H.out.lt⟩
      · have hE : remE D nm = 0 := by unfold remE synE workE; rw [hN, if_pos rfl, if_neg hl]
        have hC : rem D nm = { D with l := without D.l nm, left := if 0 < D.left then D.left - 1 else D.left } := by unfold rem; rw [hN, if_pos rfl, work_no hl]
        obtain ⟨D', hD'⟩ : ∃ x, rem D nm = x := ⟨_, rfl⟩
        rw [hE, hD']
        have HC := Lib.hid (hD'.symm.trans hC)
        have FA := Lib.hid (fun V (hb : Below w.heap.size w V) => fails_no V g D F Fb v KA kn kc qs (H.out.below hb) hl)
        clear hl hN hE hC hD'
        go_enter Tryz.func100, Tryz.ntmps100
        go_wp2_with (first
          | (go_at_call 59; refine FI.out.mono ?_; rintro e w1 ⟨rfl, hb1⟩)
          | (go_at_call 61; refine (FA.out _ hb1).mono ?_; rintro e w2 ⟨rfl, hR2, hG2⟩; have HR2 := Lib.hid hR2; clear hR2)
          | (go_at_call 146; refine (without_b _ g _ F Fb _ KA kn kc qs nm HR2.out).mono ?_; rintro e w3 ⟨rfl, v3, qs3, hR3, hG3⟩; have HR3 := Lib.hid hR3; clear hR3))
        go_ret
        have hG := (Grow.of_below (F := F) hb1).trans (hG2.mono (fun k e => .inl e))
        rw [HC.out]
        exact ⟨rfl, HR3.out.ends (fun k e => by rcases e with e | e; exact .inl e; exact .inr ⟨Nat.le_trans hG.size e.1, e.2⟩) (hG.trans (hG3.mono (fun k e => .inl (e ▸ H.out.fg.1)))) H.out.lt⟩
end Go.Proofs.YtamglegdgcehaaaGreat

namespace Go.Proofs.YtamglegdgcehaaaGreat
open Go.RowKit

theorem take_add_drop_mem {α : Type} {a b : List α} {x : α} (h : x ∈ a ++ b) : x ∈ a ∨ x ∈ b := List.mem_append.1 h
/-! ### plain: a file that is put keeps the order -/
theorem pos_lt_name {l : List Fl} {s : ByteArray} {i : Nat} (h : i < l.length) (hi : i < pos l s) : nl l[i].name s = true := by
  induction l generalizing i with
  | nil => simp at h
  | cons f l ih =>
    cases hf : nl f.name s with
    | false =>
      have e : pos (f :: l) s = 0 := by unfold pos; rw [List.takeWhile_cons, if_neg (by rw [hf]; decide)]; rfl
      omega
    | true =>
      have e : pos (f :: l) s = pos l s + 1 := by unfold pos; rw [List.takeWhile_cons, if_pos hf]; rfl
      cases i with
      | zero => exact hf
      | succ i => exact ih (by simpa using h) (by omega)
theorem pos_stop {l : List Fl} {s : ByteArray} (h : pos l s < l.length) : nl l[pos l s].name s = false := by
  induction l with
  | nil => simp at h
  | cons f l ih =>
    cases hf : nl f.name s with
    | false =>
      have e : pos (f :: l) s = 0 := by unfold pos; rw [List.takeWhile_cons, if_neg (by rw [hf]; decide)]; rfl
      simp only [e, List.getElem_cons_zero, hf]
    | true =>
      have e : pos (f :: l) s = pos l s + 1 := by unfold pos; rw [List.takeWhile_cons, if_pos hf]; rfl
      simp only [e, List.getElem_cons_succ]
      exact ih (by rw [e] at h; simpa using h)
theorem sorted_get {l : List Fl} (h : l.Pairwise (fun a b => nl a.name b.name = true)) {i j : Nat} (hij : i < j) (hj : j < l.length) : nl (l[i]'(by omega)).name l[j].name = true := List.pairwise_iff_getElem.1 h i j (by omega) hj hij
theorem pos_after {l : List Fl} (hs : l.Pairwise (fun a b => nl a.name b.name = true)) {s : ByteArray} {i : Nat} (h : i < l.length) (hi : pos l s ≤ i) : nl l[i].name s = false := by
  have h0 := pos_stop (l := l) (s := s) (by omega)
  rcases Nat.eq_or_lt_of_le hi with e | e
  · subst e
    exact h0
  · have h1 := sorted_get hs e h
    cases h2 : nl l[i].name s with
    | false => rfl
    | true => rw [nl_trans h1 h2] at h0; cases h0
theorem sum_app (a b : List Fl) : sum (a ++ b) = sum a + sum b := by
  unfold sum
  rw [List.map_append, List.sum_append]
theorem sum_cons (f : Fl) (b : List Fl) : sum (f :: b) = f.bs.length + sum b := by
  unfold sum
  rw [List.map_cons, List.sum_cons]
theorem withF_sorted {l : List Fl} (hs : l.Pairwise (fun a b => nl a.name b.name = true)) (f : Fl) : (withF l f).Pairwise (fun a b => nl a.name b.name = true) := by
  unfold withF
  obtain ⟨k, hk⟩ : ∃ k, (if isAt l f.name = true then 1 else 0) = k := ⟨_, rfl⟩
  rw [hk]
  have hp := pos_le l f.name
  rw [List.pairwise_append]
  refine ⟨hs.sublist (List.take_sublist _ _), List.pairwise_cons.2 ⟨fun b hb => ?_, hs.sublist (List.drop_sublist _ _)⟩, fun a ha b hb => ?_⟩
  · obtain ⟨j, hj, rfl⟩ := List.mem_iff_getElem.1 hb
    rw [List.getElem_drop]
    rw [List.length_drop] at hj
    have h1 := pos_after hs (s := f.name) (i := pos l f.name + k + j) (by omega) (by omega)
    cases h2 : nl f.name (l[pos l f.name + k + j]'(by omega)).name with
    | true => rfl
    | false =>
      exfalso
      have he := nl_total h1 h2
      have h3 : pos l f.name < l.length := by omega
      have h0 : pos l f.name < pos l f.name + k + j ∨ (k = 0 ∧ j = 0) := by omega
      rcases h0 with h0 | ⟨rfl, rfl⟩
      · have h6 := sorted_get hs h0 (by omega)
        rw [he] at h6
        rw [pos_stop h3] at h6
        cases h6
      · have hi : ¬ isAt l f.name = true := fun e => by rw [if_pos e] at hk; cases hk
        rw [isAt_eq rfl h3] at hi
        exact hi (decide_eq_true he)
  · obtain ⟨i, hi, rfl⟩ := List.mem_iff_getElem.1 ha
    rw [List.length_take] at hi
    rw [List.getElem_take]
    have h1 := pos_lt_name (l := l) (s := f.name) (i := i) (by omega) (by omega)
    rcases List.mem_cons.1 hb with rfl | hb
    · exact h1
    · obtain ⟨j, hj, rfl⟩ := List.mem_iff_getElem.1 hb
      rw [List.getElem_drop]
      rw [List.length_drop] at hj
      exact sorted_get hs (by omega) (by omega)
theorem sum_split (l : List Fl) (p : Nat) (h : p < l.length) : sum l = sum (l.take p) + l[p].bs.length + sum (l.drop (p + 1)) := by
  conv => lhs; rw [← List.take_append_drop p l]
  rw [sum_app, List.drop_eq_getElem_cons h, sum_cons]
  omega
theorem withF_sum (l : List Fl) (f : Fl) : sum (withF l f) + (if isAt l f.name = true then (fileAt l f.name).bs.length else 0) = sum l + f.bs.length := by
  unfold withF
  rw [sum_app, sum_cons]
  by_cases hi : isAt l f.name = true
  · rw [if_pos hi, if_pos hi]
    obtain ⟨h, hf, _⟩ := fileAt_eq rfl hi
    rw [hf]
    have := sum_split l (pos l f.name) h
    omega
  · rw [if_neg hi, if_neg hi]
    have := congrArg sum (List.take_append_drop (pos l f.name) l)
    rw [sum_app] at this
    simp only [Nat.add_zero]
    omega
theorem withF_len (l : List Fl) (f : Fl) : (withF l f).length = if isAt l f.name = true then l.length else l.length + 1 := by
  unfold withF
  rw [List.length_append, List.length_cons, List.length_take, List.length_drop]
  have hp := pos_le l f.name
  by_cases hi : isAt l f.name = true
  · have := isAt_lt hi
    rw [if_pos hi, if_pos hi]
    omega
  · rw [if_neg hi, if_neg hi]
    omega
theorem withF_mem {l : List Fl} {f q : Fl} (h : q ∈ withF l f) : q = f ∨ q ∈ l := by
  unfold withF at h
  rcases List.mem_append.1 h with h | h
  · exact .inr (List.mem_of_mem_take h)
  · rcases List.mem_cons.1 h with h | h
    · exact .inl h
    · exact .inr (List.mem_of_mem_drop h)
theorem ok_with {D : Dk} (h : D.ok) {f : Fl} (hm : f.mark ≤ f.bs.length) (hl : isAt D.l f.name = true ∨ D.l.length < 20) (hs : sum D.l + f.bs.length ≤ 4194304 + (if isAt D.l f.name = true then (fileAt D.l f.name).bs.length else 0)) : ({ D with l := withF D.l f } : Dk).ok := by
  refine ⟨withF_sorted h.sorted f, fun q hq => ?_, ?_, ?_, h.low, h.high⟩
  · rcases withF_mem hq with rfl | h1
    · exact hm
    · exact h.marks q h1
  · show (withF D.l f).length ≤ 20
    rw [withF_len]
    have := h.few
    split
    · exact this
    · rename_i hn
      have := hl.resolve_left hn
      omega
  · show sum (withF D.l f) ≤ 4194304
    have := withF_sum D.l f
    omega
theorem without_len {l : List Fl} {s : ByteArray} (h : isAt l s = true) : (without l s).length + 1 = l.length := by
  unfold without
  rw [if_pos h]
  have := isAt_lt h
  rw [List.length_append, List.length_take, List.length_drop]
  omega
theorem without_sum {l : List Fl} {s : ByteArray} (h : isAt l s = true) : sum (without l s) + (fileAt l s).bs.length = sum l := by
  obtain ⟨hl, hf, _⟩ := fileAt_eq rfl h
  unfold without
  rw [if_pos h, sum_app, hf]
  have := sum_split l (pos l s) hl
  omega
end Go.Proofs.YtamglegdgcehaaaGreat
set_option linter.unusedVariables false
namespace Go.Proofs.YtamglegdgcehaaaGreat
open Go.RowKit

/-- The middle of Rename: the file that was copied out gets its new name, and is put. -/
theorem rename_mid {w w1 w2 w3 : World} {g : Nat} {D D2 : Dk} {F Fb : Nat → Prop} {v v3 : Value} {KA : Option Addr} {kn kc : Nat} {qs qs3 : List Fv} {nm t : ByteArray} {p : Nat} {bs : List UInt8} {mk L : Nat} {qA : Option Addr} {qc : Nat}
    (h : RDkB w g D F Fb v KA kn kc qs) (hb1 : Below w.heap.size w w1) (h2 : RDkB w2 g D2 F Fb v KA kn kc qs) (hG2 : Grow F w1 w2)
    (h3 : RDkB w3 g { D2 with l := without D2.l nm } (nF F (w2.alloc (.cells #[.string nm, .slice qA L qc, .int .i64 (mk : Int)] 106)) w3) Fb v3 KA kn kc qs3)
    (hG3 : Grow (fun k => k = g) (w2.alloc (.cells #[.string nm, .slice qA L qc, .int .i64 (mk : Int)] 106)) w3)
    (hq : p < qs.length) (hqe : qs[p] = ⟨⟨nm, bs, mk⟩, qA, qc⟩) (hL : bs.length = L) (hok : ({ D2 with l := withF (without D2.l nm) ⟨t, bs, mk⟩ } : Dk).ok) :
    (∃ u, w3.cell? ⟨w2.heap.size, 0, none⟩ = some u) ∧ w3.frozen? ⟨w2.heap.size, 0, none⟩ = false ∧
    ((w3.setCell ⟨w2.heap.size, 0, none⟩ (.string t)).cell? ⟨w2.heap.size, 0, none⟩ = some (.string t) ∧ (w3.setCell ⟨w2.heap.size, 0, none⟩ (.string t)).cell? ⟨w2.heap.size, 1, none⟩ = some (.slice qA L qc) ∧ (w3.setCell ⟨w2.heap.size, 0, none⟩ (.string t)).cell? ⟨w2.heap.size, 2, none⟩ = some (.int .i64 (mk : Int))) ∧
    (w2.heap.size < w3.heap.size) ∧
    Calls Tryz.prog 63 #[pt g, .agg #[.string t, .slice qA L qc, .int .i64 (mk : Int)]] (w3.setCell ⟨w2.heap.size, 0, none⟩ (.string t)) fun e w' => e = .returned (.tuple #[]) ∧
      ∃ v' qs', RDkB w' g { D2 with l := withF (without D2.l nm) ⟨t, bs, mk⟩ } (nF (nF F (w2.alloc (.cells #[.string nm, .slice qA L qc, .int .i64 (mk : Int)] 106)) w3) (w3.setCell ⟨w2.heap.size, 0, none⟩ (.string t)) w') Fb v' KA kn kc qs' ∧ Grow (fun k => k = g) (w3.setCell ⟨w2.heap.size, 0, none⟩ (.string t)) w' := by
  have hgl : g < w2.heap.size := Nat.lt_of_lt_of_le (h.lt g h.fg.1) (Nat.le_trans hb1.size hG2.size)
  have hz : w2.heap.size < (w2.alloc (.cells #[.string nm, .slice qA L qc, .int .i64 (mk : Int)] 106)).heap.size := by simp
  have hx : w3.heap[w2.heap.size]? = some (.cells #[.string nm, .slice qA L qc, .int .i64 (mk : Int)] 106 (0, 0)) := (hG3.block _ hz (by omega)).trans (heap_alloc_new w2 _)
  have hx4 : (w3.setCell ⟨w2.heap.size, 0, none⟩ (.string t)).heap[w2.heap.size]? = some (.cells #[.string t, .slice qA L qc, .int .i64 (mk : Int)] 106 (0, 0)) := by
    simp only [World.setCell, Array.getElem?_modify, if_true, hx, Option.map_some]
    rfl
  have hF : ∀ k, F k → k < w2.heap.size := fun k e => Nat.lt_of_lt_of_le (h.lt k e) (Nat.le_trans hb1.size hG2.size)
  refine ⟨⟨_, cell_of_row w3 w2.heap.size 0 _ _ (0, 0) hx⟩, frozen_of_row w3 w2.heap.size 0 _ _ hx, ⟨cell_of_row _ w2.heap.size 0 _ _ (0, 0) hx4, cell_of_row _ w2.heap.size 1 _ _ (0, 0) hx4, cell_of_row _ w2.heap.size 2 _ _ (0, 0) hx4⟩, Nat.lt_of_lt_of_le hz hG3.size, ?_⟩
  have h4 := h3.far (p := ⟨w2.heap.size, 0, none⟩) (by rintro (e | e); exact absurd (hF _ e) (by simp); exact absurd e.1 (by simp)) (.string t)
  have hr := h2.list.each _ (List.getElem_mem hq)
  rw [hqe] at hr
  have hr4 : RFl (w3.setCell ⟨w2.heap.size, 0, none⟩ (.string t)) Fb ⟨⟨t, bs, mk⟩, qA, qc⟩ := by
    have hk : ∀ k, Fb k → (w3.setCell ⟨w2.heap.size, 0, none⟩ (.string t)).heap[k]? = w2.heap[k]? := fun k e => by
      have hl := hF k (h.sub k e)
      rw [set_blk w3 _ _ _ (by omega), hG3.block k (by omega) (fun e2 => h.fg.2.1 (e2 ▸ e))]
      exact ((Below.refl w2.heap.size w2).alloc (Nat.le_refl _) _).block k hl
    exact ⟨hr.at_.on hr.inF hk, hr.cap, hr.capm, hr.inF⟩
  have hw := with_b _ g _ _ Fb v3 KA kn kc qs3 ⟨⟨t, bs, mk⟩, qA, qc⟩ h4 hr4 hok
  simp only [hL] at hw
  exact hw

set_option maxRecDepth 100000 in
set_option maxHeartbeats 8000000 in
theorem rename_ok (w : World) (g : Nat) (D : Dk) (F : Nat → Prop) (nm : ByteArray) (t : ByteArray) (h : RDk w g D F) :
    Calls Tryz.prog 118 #[pt g, .string nm, .string t] w fun e w' => e = .returned (.int .i64 (renE D nm t)) ∧ Turns RDk w g F (ren D nm t) w' := by
  obtain ⟨Fb, v, KA, kn, kc, qs, h⟩ := h
  have FI := Lib.hid (find_ok w g D F nm ⟨Fb, v, KA, kn, kc, qs, h⟩)
  obtain ⟨p, hp⟩ : ∃ p, pos D.l nm = p := ⟨_, rfl⟩
  obtain ⟨is, his⟩ : ∃ b, isAt D.l nm = b := ⟨_, rfl⟩
  obtain ⟨dd, hd⟩ : ∃ b, D.dead = b := ⟨_, rfl⟩
  have c1 := h.c1
  rw [hp, his] at FI
  rw [hd] at c1
  have HP := Lib.hid hp
  have HI := Lib.hid his
  have HD := Lib.hid hd
  have H := Lib.hid h
  clear h hp his hd
  cases dd with
  | true =>
    have hE : renE D nm t = 71 := by unfold renE nmE; rw [HD.out]; rfl
    have hC : ren D nm t = D := by unfold ren nmE; rw [HD.out]; rfl
    rw [hE, hC]
    go_enter Tryz.func118, Tryz.ntmps118
    go_wp2_with fail
    go_ret
    exact ⟨rfl, H.out.ends (fun k e => .inl e) (Grow.refl _ _) H.out.lt⟩
  | false =>
    cases is with
    | false =>
      have hE : renE D nm t = 70 := by unfold renE nmE; rw [HD.out, HI.out]; rfl
      have hC : ren D nm t = D := by unfold ren nmE; rw [HD.out, HI.out]; rfl
      rw [hE, hC]
      go_enter Tryz.func118, Tryz.ntmps118
      go_wp2_with (first | (go_at_call 59; refine FI.out.mono ?_; rintro e w1 ⟨rfl, hb1⟩))
      go_ret
      exact ⟨rfl, (H.out.below hb1).ends (fun k e => .inl e) (Grow.of_below hb1) H.out.lt⟩
    | true =>
      have hN : nmE D nm = 0 := by unfold nmE; rw [HD.out, HI.out]; rfl
      have MY := Lib.hid (fun V => may_ok V t)
      obtain ⟨my, hmy⟩ : ∃ x, mayN t = x := ⟨_, rfl⟩
      rw [hmy] at MY
      have HMY := Lib.hid hmy
      clear hmy
      cases my with
      | false =>
        have hE : renE D nm t = 70 := by unfold renE; rw [hN, if_pos rfl, if_pos HMY.out]
        have hC : ren D nm t = D := by unfold ren; rw [hN, if_pos rfl, if_pos HMY.out]
        rw [hE, hC]
        clear hE hC hN
        go_enter Tryz.func118, Tryz.ntmps118
        go_wp2_with (first
          | (go_at_call 59; refine FI.out.mono ?_; rintro e w1 ⟨rfl, hb1⟩)
          | (go_at_call 58; refine (MY.out _).mono ?_; rintro e w2 ⟨rfl, rfl⟩))
        go_ret
        exact ⟨rfl, (H.out.below hb1).ends (fun k e => .inl e) (Grow.of_below hb1) H.out.lt⟩
      | true =>
        have hMY : ¬ mayN t = false := by rw [HMY.out]; decide
        by_cases hl : D.left = 0
        · have hE : renE D nm t = 71 := by unfold renE workE; rw [hN, if_pos rfl, if_neg hMY, if_pos hl]
          have hC : ren D nm t = crash D D.keep := by unfold ren; rw [hN, if_pos rfl, if_neg hMY, work_yes hl]
          rw [hE, hC]
          have FA := Lib.hid (fun V (hb : Below w.heap.size w V) => fails_yes V g D F Fb _ KA kn kc qs (H.out.below hb) hl)
          clear hl hN hE hC hMY
          go_enter Tryz.func118, Tryz.ntmps118
          go_wp2_with (first
            | (go_at_call 59; refine FI.out.mono ?_; rintro e w1 ⟨rfl, hb1⟩)
            | (go_at_call 58; refine (MY.out _).mono ?_; rintro e w2' ⟨rfl, rfl⟩)
            | (go_at_call 61; refine (FA.out _ hb1).mono ?_; rintro e w2 ⟨rfl, ht2⟩))
          go_ret
          exact ⟨rfl, turns_below hb1 ht2 H.out.lt⟩
        · have hE : renE D nm t = 0 := by unfold renE workE; rw [hN, if_pos rfl, if_neg hMY, if_neg hl]
          obtain ⟨b, m, cap, bs, mk, qA, qc, hq, rfl, hgb, hm, hmc, hqe, hfa, hrf, hmk, hbl, ⟨hdl, hde⟩, hm20⟩ := H.out.file HP.out HI.out
          have hC : ren D nm t = { D with l := withF (without D.l nm) ⟨t, bs, mk⟩, left := if 0 < D.left then D.left - 1 else D.left } := by unfold ren; rw [hN, if_pos rfl, if_neg hMY, work_no hl]; rw [hfa]
          obtain ⟨D', hD'⟩ : ∃ x, ren D nm t = x := ⟨_, rfl⟩
          rw [hE, hD']
          have HC := Lib.hid (hD'.symm.trans hC)
          have FA := Lib.hid (fun V (hb : Below w.heap.size w V) => fails_no V g D F Fb _ KA kn kc qs (H.out.below hb) hl)
          have hok1 : ({ D with left := if 0 < D.left then D.left - 1 else D.left } : Dk).ok := ok_left H.out.ok _ (by have := H.out.ok.low; split <;> omega) (by have := H.out.ok.high; split <;> omega)
          have hok2 := ok_without hok1 nm
          have hok : ({ D with l := withF (without D.l nm) ⟨t, bs, mk⟩, left := if 0 < D.left then D.left - 1 else D.left } : Dk).ok := ok_with (D := { D with l := without D.l nm, left := if 0 < D.left then D.left - 1 else D.left }) (f := ⟨t, bs, mk⟩) hok2 hmk (.inr (by have := without_len HI.out; have := H.out.ok.few; show (without D.l nm).length < 20; omega)) (by have h1 := without_sum HI.out; rw [hfa] at h1; have := H.out.ok.sum; show sum (without D.l nm) + bs.length ≤ 4194304 + _; simp only at h1; omega)
          have HOK := Lib.hid hok
          have HQE := Lib.hid hqe
          obtain ⟨L, hL⟩ : ∃ L, bs.length = L := ⟨_, rfl⟩
          have hpm : p < m := by omega
          have hpI : (p : Int) < (m : Int) := by omega
          have HL := Lib.hid hL
          have hgs := H.out.lt g H.out.fg.1
          obtain ⟨l1, hl1⟩ : ∃ x, (if 0 < D.left then D.left - 1 else D.left) = x := ⟨_, rfl⟩
          rw [hl1] at HOK
          simp only [hl1] at FA
          have HL1 := Lib.hid hl1
          clear hl hN hE hC hqe hfa hrf hde hm hok hok1 hok2 hD' hMY hmk hbl hL hl1
          go_enter Tryz.func118, Tryz.ntmps118
          go_wp2_with (first
            | (go_at_call 59; refine FI.out.mono ?_; rintro e w1 ⟨rfl, hb1⟩)
            | (go_at_call 58; refine (MY.out _).mono ?_; rintro e w2' ⟨rfl, rfl⟩)
            | (go_at_call 61; refine (FA.out _ hb1).mono ?_; rintro e w2 ⟨rfl, hR2, hG2⟩; have c0 := hR2.c0; obtain ⟨d0, d1, d2⟩ := hR2.cells hq HQE.out; rw [HL.out] at d1; have HR2 := Lib.hid hR2; have WO := Lib.hid (without_b _ g _ F Fb _ KA kn kc qs nm (hR2.below ((Below.refl w2.heap.size w2).alloc (Nat.le_refl _) (.cells #[.string nm, .slice qA L qc, .int .i64 (mk : Int)] 106)))); clear hR2)
            | (go_at_call 146; refine WO.out.mono ?_; rintro e w3 ⟨rfl, v3, qs3, hR3, hG3⟩; have HR3 := Lib.hid hR3; obtain ⟨⟨u0, x0⟩, x1, ⟨y0, y1, y2⟩, x3, WB⟩ := rename_mid H.out hb1 HR2.out hG2 HR3.out hG3 hq HQE.out HL.out HOK.out; clear hR3 WO)
            | (go_at_call 63; refine WB.mono ?_; rintro e w5 ⟨rfl, v5, qs5, hR5, hG5⟩; have HR5 := Lib.hid hR5; have HG5 := Lib.hid hG5; clear hR5 hG5))
          go_ret
          have hFg := H.out.fg.1
          have hG := (Grow.of_below (F := F) hb1).trans (hG2.mono (fun k e => .inl e))
          have hGa := hG.trans (Grow.of_below ((Below.refl w2.heap.size w2).alloc (Nat.le_refl _) (.cells #[.string nm, .slice qA L qc, .int .i64 (mk : Int)] 106)))
          have hGb := hGa.trans (hG3.mono (fun k e => .inl (e ▸ hFg)))
          have hGc := hGb.set (p := ⟨w2.heap.size, 0, none⟩) (.inr hG.size) (.string t)
          have hGd := hGc.trans (HG5.out.mono (fun k e => .inl (e ▸ hFg)))
          rw [HC.out, HL1.out]
          refine ⟨rfl, HR5.out.ends (fun k e => ?_) hGd H.out.lt⟩
          have z1 := HG5.out.size
          have z2 := hGa.size
          have z3 := hGc.size
          rw [set_size] at z1 z3
          unfold nF at e ⊢
          rw [set_size] at e
          rcases e with (e | e) | e
          · exact .inl e
          · exact .inr (by omega)
          · exact .inr (by omega)
end Go.Proofs.YtamglegdgcehaaaGreat
