/-
  Layer 7: the document's disk: without; what keeps a disk a disk.
-/
import Derived.Test.YtmjoaeljfhgojaaDWith
set_option linter.unusedVariables false
namespace Go.Proofs.Ytmjoaeljfhgojaa
open Go.RowKit

/-! ### plain -/
theorem without_sub (l : List Fl) (s : ByteArray) : (without l s).Sublist l := by
  unfold without
  split
  · have h : l.take (pos l s) ++ l.drop (pos l s + 1) = l.eraseIdx (pos l s) := (List.eraseIdx_eq_take_drop_succ l (pos l s)).symm
    rw [h]
    exact List.eraseIdx_sublist _ _
  · exact List.Sublist.refl _
theorem sum_sub {a b : List Fl} (h : a.Sublist b) : sum a ≤ sum b := by
  induction h with
  | slnil => exact Nat.le_refl _
  | cons x _ ih =>
    unfold sum at *
    rw [List.map_cons, List.sum_cons]
    omega
  | cons_cons x _ ih =>
    unfold sum at *
    rw [List.map_cons, List.sum_cons, List.map_cons, List.sum_cons]
    omega
theorem ok_sub {D : Dk} (h : D.ok) {l : List Fl} (hs : l.Sublist D.l) : ({ D with l := l } : Dk).ok :=
  ⟨h.sorted.sublist hs, fun f hf => h.marks f (hs.mem hf), Nat.le_trans hs.length_le h.few, Nat.le_trans (sum_sub hs) h.sum, h.low, h.high⟩
theorem ok_without {D : Dk} (h : D.ok) (s : ByteArray) : ({ D with l := without D.l s } : Dk).ok := ok_sub h (without_sub _ _)
theorem ok_left {D : Dk} (h : D.ok) (x : Int) (h1 : -1 ≤ x) (h2 : x ≤ 9223372036854775807) : ({ D with left := x } : Dk).ok := ⟨h.sorted, h.marks, h.few, h.sum, h1, h2⟩

set_option maxRecDepth 100000 in
set_option maxHeartbeats 8000000 in
theorem without_b (w : World) (g : Nat) (D : Dk) (F Fb : Nat → Prop) (v : Value) (KA : Option Addr) (kn kc : Nat) (qs : List Fv) (nm : ByteArray)
    (h : RDkB w g D F Fb v KA kn kc qs) :
    Calls Try.prog 73 #[pt g, .string nm] w fun e w' => e = .returned (.tuple #[]) ∧
      ∃ v' qs', RDkB w' g { D with l := without D.l nm } (nF F w w') Fb v' KA kn kc qs' ∧ Grow (fun k => k = g) w w' := by
  obtain ⟨A, c, rfl, hc1, hc2, _, _⟩ := h.list.form
  have hpart := h.list.part.1
  have hlen := h.len
  have hfew := h.ok.few
  have hgl := h.lt g h.fg.1
  have ho := ok_without h.ok nm
  obtain ⟨m, hm⟩ : ∃ m, qs.length = m := ⟨_, rfl⟩
  have FI := Lib.hid (find_ok w g D F nm ⟨Fb, _, KA, kn, kc, qs, h⟩)
  obtain ⟨p, hp⟩ : ∃ p, pos D.l nm = p := ⟨_, rfl⟩
  obtain ⟨is, his⟩ : ∃ b, isAt D.l nm = b := ⟨_, rfl⟩
  have his2 : is = true → p < D.l.length := fun e => by rw [← hp]; exact isAt_lt (his.trans e)
  have hwl : without D.l nm = if is = true then D.l.take p ++ D.l.drop (p + 1) else D.l := by unfold without; rw [hp, his]
  rw [hp, his] at FI
  have HWL := Lib.hid hwl
  have H := Lib.hid h
  have HO := Lib.hid ho
  have HPART := Lib.hid hpart
  have hm20 : m ≤ 20 := by omega
  have hmc : m ≤ c := by omega
  have his3 : is = true → p < m := fun e => by have := his2 e; omega
  rw [hm] at H HPART
  clear hp his h ho hwl hpart hc1 his2 hlen hfew
  cases is with
  | false =>
    go_enter Try.func73, Try.ntmps73
    go_wp2_with (first
      | (go_at_call 69; refine FI.out.mono ?_; rintro e w1 ⟨rfl, hb1⟩))
    first | go_end0 | (refine bodyPost_ret (results_none rfl _ _ _) rfl ?_)
    rw [HWL.out]
    have h1 := (H.out.below hb1).mono (G := nF F w w1) (fun k e => .inl e) (fun k e => by rcases e with e | e; exact Nat.lt_of_lt_of_le (H.out.lt k e) hb1.size; exact e.2)
    exact ⟨rfl, _, _, h1, Grow.of_below hb1⟩
  | true =>
    have hpm2 : p < m := his3 rfl
    have hwp : IntKind.i64.wrap ((p : Int) + 1) = (p : Int) + 1 := IntWalk.i64_in _ (by omega)
    have hSL1 := fun W : World => by simpa using slf_h A m c .i64 (p : Int) W (by omega) (by omega)
    have hSL2 := fun W : World => slf_l A m c .i64 ((p : Int) + 1) W (by omega) (by omega)
    rw [show ((p : Int) + 1).toNat = p + 1 by omega] at hSL2
    go_enter Try.func73, Try.ntmps73
    go_wp2_with (first
      | (go_at_call 69; refine FI.out.mono ?_; rintro e w1 ⟨rfl, hb1⟩; have c0 := (H.out.below hb1).c0; have hp1 := Lib.hid ((HPART.out.below hb1).head p (by omega)); have hp3 := Lib.hid ((HPART.out.below hb1).tail (p + 1) (by omega) hmc); have hn1 := Lib.hid (World.ownsRow_nil w1 w1.heap.size 97 3))
      | (at_builtin; refine wpList_appF rfl _ _ rfl w1.heap.size (.slice none 0 0) [] (qs.take p) rfl hn1.out A p c rfl hp1.out ?_ (Nat.le_refl _) ?_; · simp; omega
         intro v1 w2 hr1 hb2; have hr1' := Lib.hid hr1; clear hr1; simp only [List.nil_append] at hr1'; have c3 := (hb2.cell (p := ⟨g, 0, none⟩) (by have := hb1.size; simp; omega)).trans c0; have hp3' := Lib.hid (hp3.out.below hb2); have hbs2 := Lib.hid hb2.size; clear hn1 hp1 hp3)
      | (at_builtin; refine wpList_appF rfl _ _ rfl w1.heap.size v1 (qs.take p) (qs.drop (p + 1)) rfl hr1'.out (cutF A c (p + 1)) (m - (p + 1)) (c - (p + 1)) rfl hp3'.out ?_ hbs2.out ?_; · simp; omega
         intro v3 w4 hr3 hb4; have hr3' := Lib.hid hr3; clear hr3; have hB4 := hb1.trans ((hb2.trans hb4).mono hb1.size); have hR4 := H.out.below hB4; have c4 := hR4.c0; have z4 := hR4.fz 0; clear hr1' hp3'; obtain ⟨qn, hqn⟩ : ∃ x, qs.take p ++ qs.drop (p + 1) = x := ⟨_, rfl⟩; rw [hqn] at hr3'; obtain ⟨ln, hln⟩ : ∃ n, qn.length = n := ⟨_, rfl⟩; rw [hln] at hr3'; obtain ⟨A3, cc3, rfl⟩ := rowSlice hr3'.out; have HQN := Lib.hid hqn; have HLN := Lib.hid hln; clear hqn hln))
    first | go_end0 | (refine bodyPost_ret (results_none rfl _ _ _) rfl ?_)
    have hrow := rowBase hr3'.out hb1.size
    have hwl := HWL.out
    simp only [if_true] at hwl
    rw [← HLN.out] at hrow ⊢
    have hl := fun hh => H.out.list_ hB4 hrow (l' := without D.l nm) (by rw [← HQN.out, map_take_drop' qs D.l H.out.eq, hwl]) hh HO.out
    refine ⟨rfl, _, _, hl ?_⟩
    intro q hq
    rw [← HQN.out] at hq
    rcases List.mem_append.1 hq with h1 | h1
    · exact H.out.list.each q (List.mem_of_mem_take h1)
    · exact H.out.list.each q (List.mem_of_mem_drop h1)
end Go.Proofs.Ytmjoaeljfhgojaa
