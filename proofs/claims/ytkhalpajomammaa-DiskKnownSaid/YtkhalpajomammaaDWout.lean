/-
  Layer 7: the document's disk: with, without.
  Layer 7: the document's disk: without; what keeps a disk a disk.
-/
import Derived.Test.YtkhalpajomammaaDApp
set_option linter.unusedVariables false
namespace Go.Proofs.Ytkhalpajomammaa
open Go.RowKit

section
variable {V V' : World} {g : Nat} {D : Dk} {F Fb G : Nat → Prop} {v : Value} {A : Option Addr} {n c : Nat} {qs : List Fv}
/-- A new list of files takes the old one's place. -/
theorem RDkB.list_ (h : RDkB V g D F Fb v A n c qs) (hb : Below V.heap.size V V') {v' : Value} {qs' : List Fv} {l' : List Fl} (hrow : V'.ownsRow V.heap.size 97 3 v' qs'.length (rows qs')) (he : qs'.map Fv.f = l')
    (hr : ∀ q ∈ qs', RFl V Fb q) (ho : ({ D with l := l' } : Dk).ok) :
    RDkB (V'.setCell ⟨g, 0, none⟩ v') g { D with l := l' } (nF F V (V'.setCell ⟨g, 0, none⟩ v')) Fb v' A n c qs' ∧ Grow (fun k => k = g) V (V'.setCell ⟨g, 0, none⟩ v') := by
  have hgl := h.lt g h.fg.1
  have hG : Grow (fun k => k = g) V (V'.setCell ⟨g, 0, none⟩ v') := Grow.set (F := fun k => k = g) (Grow.of_below hb) (p := ⟨g, 0, none⟩) (.inl rfl) _
  have hFl : ∀ k, Fb k → k < V.heap.size := fun k e => h.lt k (h.sub k e)
  have h1 := (h.below hb).mono (G := nF F V V') (fun k e => .inl e) (fun k e => by rcases e with e | e; exact Nat.lt_of_lt_of_le (h.lt k e) hb.size; exact e.2)
  have hz : nF F V (V'.setCell ⟨g, 0, none⟩ v') = nF F V V' := by unfold nF; rw [set_size]
  rw [hz]
  refine ⟨h1.field 0 v' (D' := { D with l := l' }) rfl he ⟨rowBase hrow (Nat.zero_le _), fun k e => ?_, fun q hq => (hr q hq).on (fun k e => hb.block k (hFl k e)) (fun _ e => e)⟩ h1.keep h1.keepF h1.kcap (fun e => ?_) ho, hG⟩
  · have := rowOwn hrow k e
    exact ⟨.inr this, fun e2 => by have := hFl k e2; omega⟩
  · have := (rowOwn hrow g e).1
    omega
end
theorem map_take_drop (qs : List Fv) (l : List Fl) (h : qs.map Fv.f = l) (a b : Nat) (q : Fv) : (qs.take a ++ q :: qs.drop b).map Fv.f = l.take a ++ q.f :: l.drop b := by
  rw [← h]
  simp [List.map_take, List.map_drop]
theorem map_take_drop' (qs : List Fv) (l : List Fl) (h : qs.map Fv.f = l) (a b : Nat) : (qs.take a ++ qs.drop b).map Fv.f = l.take a ++ l.drop b := by
  rw [← h]
  simp [List.map_take, List.map_drop]

theorem rowSlice {w : World} {B n : Nat} {e : TypeId} {s : Nat} {v : Value} {xs : List Value} (h : w.ownsRow B e s v n xs) : ∃ A c, v = .slice A n c := by
  rcases h.2 with ⟨rfl, rfl⟩ | ⟨g, cap, cur, rfl, _⟩
  · exact ⟨_, _, rfl⟩
  · exact ⟨_, _, rfl⟩
theorem one_row (w : World) (nm : ByteArray) (qA : Option Addr) (bs : List UInt8) (qc mk : Nat) :
    RowsAt (w.alloc (.cells #[.string nm, .slice qA bs.length qc, .int .i64 (mk : Int)] 97)) (some ⟨w.heap.size, 0, none⟩) 1 [⟨⟨nm, bs, mk⟩, qA, qc⟩] := by
  refine ⟨rfl, fun _ => ⟨_, 0, rfl, fun j u hj => ?_⟩⟩
  rw [Nat.zero_add, cell_of_row _ w.heap.size j _ _ (0, 0) (heap_alloc_new w _)]
  simpa [rows, Fv.vals] using hj

set_option maxRecDepth 100000 in
set_option maxHeartbeats 8000000 in
theorem with_b (w : World) (g : Nat) (D : Dk) (F Fb : Nat → Prop) (v : Value) (KA : Option Addr) (kn kc : Nat) (qs : List Fv) (q : Fv)
    (h : RDkB w g D F Fb v KA kn kc qs) (hq : RFl w Fb q) (ho : ({ D with l := withF D.l q.f } : Dk).ok) :
    Calls Try.prog 72 #[pt g, .agg #[.string q.f.name, .slice q.A q.f.bs.length q.c, .int .i64 (q.f.mark : Int)]] w fun e w' => e = .returned (.tuple #[]) ∧
      ∃ v' qs', RDkB w' g { D with l := withF D.l q.f } (nF F w w') Fb v' KA kn kc qs' ∧ Grow (fun k => k = g) w w' := by
  obtain ⟨A, c, rfl, hc1, hc2, _, _⟩ := h.list.form
  have hpart := h.list.part.1
  have hlen := h.len
  have hfew := h.ok.few
  have hgl := h.lt g h.fg.1
  obtain ⟨⟨nm, bs, mk⟩, qA, qc⟩ := q
  simp only at *
  obtain ⟨m, hm⟩ : ∃ m, qs.length = m := ⟨_, rfl⟩
  have hb0 := (Below.refl w.heap.size w).alloc (Nat.le_refl _) (.cells #[.string nm, .slice qA bs.length qc, .int .i64 (mk : Int)] 97)
  have hx := heap_alloc_new w (.cells #[.string nm, .slice qA bs.length qc, .int .i64 (mk : Int)] 97)
  have X0 := Lib.hid (cell_of_row _ w.heap.size 0 _ _ (0, 0) hx)
  have X1 := Lib.hid (cell_of_row _ w.heap.size 1 _ _ (0, 0) hx)
  have X2 := Lib.hid (cell_of_row _ w.heap.size 2 _ _ (0, 0) hx)
  have FI := Lib.hid (fun V (hb : Below w.heap.size w V) => find_ok V g D F nm ⟨Fb, _, KA, kn, kc, qs, h.below hb⟩)
  have hpl := pos_le D.l nm
  obtain ⟨p, hp⟩ : ∃ p, pos D.l nm = p := ⟨_, rfl⟩
  obtain ⟨is, his⟩ : ∃ b, isAt D.l nm = b := ⟨_, rfl⟩
  have his2 : is = true → p < D.l.length := fun e => by rw [← hp]; exact isAt_lt (his.trans e)
  have hwl : withF D.l ⟨nm, bs, mk⟩ = D.l.take p ++ ⟨nm, bs, mk⟩ :: D.l.drop (p + if is = true then 1 else 0) := by unfold withF; rw [hp, his]
  rw [hp] at FI hpl
  rw [his] at FI
  have HWL := Lib.hid hwl
  have H := Lib.hid h
  have HQ := Lib.hid hq
  have HO := Lib.hid ho
  have HM := Lib.hid hm
  have HPART := Lib.hid hpart
  have hpm : p ≤ m := by omega
  have hm20 : m ≤ 20 := by omega
  have hmc : m ≤ c := by omega
  have his3 : is = true → p < m := fun e => by have := his2 e; omega
  rw [hm] at H HPART
  clear hp his h hq ho hwl hx hpart hc1 his2 hpl hlen hfew
  cases is with
  | false =>
    have hSL1 := fun W : World => by simpa using slf_h A m c .i64 (p : Int) W (by omega) (by omega)
    have hSL2 := fun W : World => slf_l A m c .i64 (p : Int) W (by omega) (by omega)
    rw [show (p : Int).toNat = p by omega] at hSL2
    go_enter Try.func72, Try.ntmps72
    go_wp2_with (first
      | (go_at_call 69; refine (FI.out _ hb0).mono ?_; rintro e w1 ⟨rfl, hb1⟩; have hB1 := hb0.trans (hb1.mono hb0.size); have x0 := (hb1.cell (p := ⟨w.heap.size, 0, none⟩) (by simp)).trans X0.out; have x1 := (hb1.cell (p := ⟨w.heap.size, 1, none⟩) (by simp)).trans X1.out; have x2 := (hb1.cell (p := ⟨w.heap.size, 2, none⟩) (by simp)).trans X2.out; have c0 := (H.out.below hB1).c0; have hsz1 : w.heap.size < w1.heap.size := World.block_lt_of_cell? _ _ x0; have hp1 := Lib.hid ((HPART.out.below hB1).head p hpm); have hp3 := Lib.hid ((HPART.out.below hB1).tail p (by omega) hmc); have hn1 := Lib.hid (World.ownsRow_nil w1 w1.heap.size 97 3); simp at x0 x1 x2)
      | (at_builtin; refine wpList_appF rfl _ _ rfl w1.heap.size (.slice none 0 0) [] (qs.take p) rfl hn1.out A p c rfl hp1.out ?_ (Nat.le_refl _) ?_; · simp; omega
         intro v1 w2 hr1 hb2; have hr1' := Lib.hid hr1; clear hr1; have y0 := (hb2.cell (p := ⟨w.heap.size, 0, none⟩) hsz1).trans x0; have y1 := (hb2.cell (p := ⟨w.heap.size, 1, none⟩) hsz1).trans x1; have y2 := (hb2.cell (p := ⟨w.heap.size, 2, none⟩) hsz1).trans x2; clear hn1 hp1; have hBx := Lib.hid ((hb2.alloc hb2.size (.cells #[.string nm, .slice qA bs.length qc, .int .i64 (mk : Int)] 97))); have hr1a := Lib.hid (hr1'.out.alloc (.cells #[.string nm, .slice qA bs.length qc, .int .i64 (mk : Int)] 97)); simp only [List.nil_append] at hr1a; have hf1 := Lib.hid (one_row w2 nm qA bs qc mk); have hbs2 := Lib.hid hBx.out.size; clear hr1')
      | (at_builtin; refine wpList_appF rfl _ _ rfl w1.heap.size v1 (qs.take p) [⟨⟨nm, bs, mk⟩, qA, qc⟩] rfl hr1a.out (some ⟨w2.heap.size, 0, none⟩) 1 1 rfl hf1.out ?_ hbs2.out ?_; · simp; omega
         intro v2 w3 hr2 hb3; have hr2' := Lib.hid hr2; clear hr2; have hB3 := hBx.out.trans hb3; have c3 := (hB3.cell (p := ⟨g, 0, none⟩) (by simp; omega)).trans c0; have hp3' := Lib.hid (hp3.out.below hB3); have hbs3 := Lib.hid hB3.size; clear hr1a hf1 hp3)
      | (at_builtin; refine wpList_appF rfl _ _ rfl w1.heap.size v2 (qs.take p ++ [⟨⟨nm, bs, mk⟩, qA, qc⟩]) (qs.drop p) rfl hr2'.out (cutF A c p) (m - p) (c - p) rfl hp3'.out ?_ hbs3.out ?_; · simp; omega
         intro v3 w4 hr3 hb4; have hr3' := Lib.hid hr3; clear hr3; have hB4 := hB1.trans ((hB3.trans hb4).mono hB1.size); have hR4 := H.out.below hB4; have c4 := hR4.c0; have z4 := hR4.fz 0; clear hr2' hp3'; obtain ⟨qn, hqn⟩ : ∃ x, qs.take p ++ [⟨⟨nm, bs, mk⟩, qA, qc⟩] ++ qs.drop p = x := ⟨_, rfl⟩; rw [hqn] at hr3'; obtain ⟨ln, hln⟩ : ∃ n, qn.length = n := ⟨_, rfl⟩; rw [hln] at hr3'; obtain ⟨A3, cc3, rfl⟩ := rowSlice hr3'.out; have HQN := Lib.hid hqn; have HLN := Lib.hid hln; clear hqn hln))
    first | go_end0 | (refine bodyPost_ret (results_none rfl _ _ _) rfl ?_)
    have hrow := rowBase hr3'.out hB1.size
    have ee : qn = qs.take p ++ ⟨⟨nm, bs, mk⟩, qA, qc⟩ :: qs.drop p := by rw [← HQN.out, List.append_assoc, List.singleton_append]
    have hwl := HWL.out
    rw [← HLN.out] at hrow ⊢
    have hl := fun hh => H.out.list_ hB4 hrow (l' := withF D.l ⟨nm, bs, mk⟩) (by rw [ee, map_take_drop qs D.l H.out.eq, hwl]; rfl) hh HO.out
    refine ⟨rfl, _, _, hl ?_⟩
    · intro q hq
      rw [ee] at hq
      rcases List.mem_append.1 hq with h1 | h1
      · exact H.out.list.each q (List.mem_of_mem_take h1)
      · rcases List.mem_cons.1 h1 with rfl | h1
        · exact HQ.out
        · exact H.out.list.each q (List.mem_of_mem_drop h1)
  | true =>
    have hpm2 : p < m := his3 rfl
    have hwp : IntKind.i64.wrap ((p : Int) + 1) = (p : Int) + 1 := IntWalk.i64_in _ (by omega)
    have hSL1 := fun W : World => by simpa using slf_h A m c .i64 (p : Int) W (by omega) (by omega)
    have hSL2 := fun W : World => slf_l A m c .i64 ((p : Int) + 1) W (by omega) (by omega)
    rw [show ((p : Int) + 1).toNat = (p + 1) by omega] at hSL2
    go_enter Try.func72, Try.ntmps72
    go_wp2_with (first
      | (go_at_call 69; refine (FI.out _ hb0).mono ?_; rintro e w1 ⟨rfl, hb1⟩; have hB1 := hb0.trans (hb1.mono hb0.size); have x0 := (hb1.cell (p := ⟨w.heap.size, 0, none⟩) (by simp)).trans X0.out; have x1 := (hb1.cell (p := ⟨w.heap.size, 1, none⟩) (by simp)).trans X1.out; have x2 := (hb1.cell (p := ⟨w.heap.size, 2, none⟩) (by simp)).trans X2.out; have c0 := (H.out.below hB1).c0; have hsz1 : w.heap.size < w1.heap.size := World.block_lt_of_cell? _ _ x0; have hp1 := Lib.hid ((HPART.out.below hB1).head p hpm); have hp3 := Lib.hid ((HPART.out.below hB1).tail (p + 1) (by omega) hmc); have hn1 := Lib.hid (World.ownsRow_nil w1 w1.heap.size 97 3); simp at x0 x1 x2)
      | (at_builtin; refine wpList_appF rfl _ _ rfl w1.heap.size (.slice none 0 0) [] (qs.take p) rfl hn1.out A p c rfl hp1.out ?_ (Nat.le_refl _) ?_; · simp; omega
         intro v1 w2 hr1 hb2; have hr1' := Lib.hid hr1; clear hr1; have y0 := (hb2.cell (p := ⟨w.heap.size, 0, none⟩) hsz1).trans x0; have y1 := (hb2.cell (p := ⟨w.heap.size, 1, none⟩) hsz1).trans x1; have y2 := (hb2.cell (p := ⟨w.heap.size, 2, none⟩) hsz1).trans x2; clear hn1 hp1; have hBx := Lib.hid ((hb2.alloc hb2.size (.cells #[.string nm, .slice qA bs.length qc, .int .i64 (mk : Int)] 97))); have hr1a := Lib.hid (hr1'.out.alloc (.cells #[.string nm, .slice qA bs.length qc, .int .i64 (mk : Int)] 97)); simp only [List.nil_append] at hr1a; have hf1 := Lib.hid (one_row w2 nm qA bs qc mk); have hbs2 := Lib.hid hBx.out.size; clear hr1')
      | (at_builtin; refine wpList_appF rfl _ _ rfl w1.heap.size v1 (qs.take p) [⟨⟨nm, bs, mk⟩, qA, qc⟩] rfl hr1a.out (some ⟨w2.heap.size, 0, none⟩) 1 1 rfl hf1.out ?_ hbs2.out ?_; · simp; omega
         intro v2 w3 hr2 hb3; have hr2' := Lib.hid hr2; clear hr2; have hB3 := hBx.out.trans hb3; have c3 := (hB3.cell (p := ⟨g, 0, none⟩) (by simp; omega)).trans c0; have hp3' := Lib.hid (hp3.out.below hB3); have hbs3 := Lib.hid hB3.size; clear hr1a hf1 hp3)
      | (at_builtin; refine wpList_appF rfl _ _ rfl w1.heap.size v2 (qs.take p ++ [⟨⟨nm, bs, mk⟩, qA, qc⟩]) (qs.drop (p + 1)) rfl hr2'.out (cutF A c (p + 1)) (m - (p + 1)) (c - (p + 1)) rfl hp3'.out ?_ hbs3.out ?_; · simp; omega
         intro v3 w4 hr3 hb4; have hr3' := Lib.hid hr3; clear hr3; have hB4 := hB1.trans ((hB3.trans hb4).mono hB1.size); have hR4 := H.out.below hB4; have c4 := hR4.c0; have z4 := hR4.fz 0; clear hr2' hp3'; obtain ⟨qn, hqn⟩ : ∃ x, qs.take p ++ [⟨⟨nm, bs, mk⟩, qA, qc⟩] ++ qs.drop (p + 1) = x := ⟨_, rfl⟩; rw [hqn] at hr3'; obtain ⟨ln, hln⟩ : ∃ n, qn.length = n := ⟨_, rfl⟩; rw [hln] at hr3'; obtain ⟨A3, cc3, rfl⟩ := rowSlice hr3'.out; have HQN := Lib.hid hqn; have HLN := Lib.hid hln; clear hqn hln))
    first | go_end0 | (refine bodyPost_ret (results_none rfl _ _ _) rfl ?_)
    have hrow := rowBase hr3'.out hB1.size
    have ee : qn = qs.take p ++ ⟨⟨nm, bs, mk⟩, qA, qc⟩ :: qs.drop (p + 1) := by rw [← HQN.out, List.append_assoc, List.singleton_append]
    have hwl := HWL.out
    rw [← HLN.out] at hrow ⊢
    have hl := fun hh => H.out.list_ hB4 hrow (l' := withF D.l ⟨nm, bs, mk⟩) (by rw [ee, map_take_drop qs D.l H.out.eq, hwl]; rfl) hh HO.out
    refine ⟨rfl, _, _, hl ?_⟩
    · intro q hq
      rw [ee] at hq
      rcases List.mem_append.1 hq with h1 | h1
      · exact H.out.list.each q (List.mem_of_mem_take h1)
      · rcases List.mem_cons.1 h1 with rfl | h1
        · exact HQ.out
        · exact H.out.list.each q (List.mem_of_mem_drop h1)
end Go.Proofs.Ytkhalpajomammaa

namespace Go.Proofs.Ytkhalpajomammaa
open Go.RowKit

/-! ### plain -/
theorem without_sub (l : List Fl) (s : ByteArray) : (without l s).Sublist l := by
  unfold without
  split
  · have h : l.take (pos l s) ++ l.drop (pos l s + 1) = l.eraseIdx (pos l s) := (List.eraseIdx_eq_take_drop_succ l (pos l s)).symm
    rw [h]
    exact List.eraseIdx_sublist _ _
  · exact List.Sublist.refl _
theorem sum_sub {a b : List Fl} (h : a.Sublist b) : sum a ≤ sum b := by
  induction h with
  | slnil => exact Nat.le_refl _
  | cons x _ ih =>
    unfold sum at *
    rw [List.map_cons, List.sum_cons]
    omega
  | cons_cons x _ ih =>
    unfold sum at *
    rw [List.map_cons, List.sum_cons, List.map_cons, List.sum_cons]
    omega
theorem ok_sub {D : Dk} (h : D.ok) {l : List Fl} (hs : l.Sublist D.l) : ({ D with l := l } : Dk).ok :=
  ⟨h.sorted.sublist hs, fun f hf => h.marks f (hs.mem hf), Nat.le_trans hs.length_le h.few, Nat.le_trans (sum_sub hs) h.sum, h.low, h.high⟩
theorem ok_without {D : Dk} (h : D.ok) (s : ByteArray) : ({ D with l := without D.l s } : Dk).ok := ok_sub h (without_sub _ _)
theorem ok_left {D : Dk} (h : D.ok) (x : Int) (h1 : -1 ≤ x) (h2 : x ≤ 9223372036854775807) : ({ D with left := x } : Dk).ok := ⟨h.sorted, h.marks, h.few, h.sum, h1, h2⟩

set_option maxRecDepth 100000 in
set_option maxHeartbeats 8000000 in
theorem without_b (w : World) (g : Nat) (D : Dk) (F Fb : Nat → Prop) (v : Value) (KA : Option Addr) (kn kc : Nat) (qs : List Fv) (nm : ByteArray)
    (h : RDkB w g D F Fb v KA kn kc qs) :
    Calls Try.prog 73 #[pt g, .string nm] w fun e w' => e = .returned (.tuple #[]) ∧
      ∃ v' qs', RDkB w' g { D with l := without D.l nm } (nF F w w') Fb v' KA kn kc qs' ∧ Grow (fun k => k = g) w w' := by
  obtain ⟨A, c, rfl, hc1, hc2, _, _⟩ := h.list.form
  have hpart := h.list.part.1
  have hlen := h.len
  have hfew := h.ok.few
  have hgl := h.lt g h.fg.1
  have ho := ok_without h.ok nm
  obtain ⟨m, hm⟩ : ∃ m, qs.length = m := ⟨_, rfl⟩
  have FI := Lib.hid (find_ok w g D F nm ⟨Fb, _, KA, kn, kc, qs, h⟩)
  obtain ⟨p, hp⟩ : ∃ p, pos D.l nm = p := ⟨_, rfl⟩
  obtain ⟨is, his⟩ : ∃ b, isAt D.l nm = b := ⟨_, rfl⟩
  have his2 : is = true → p < D.l.length := fun e => by rw [← hp]; exact isAt_lt (his.trans e)
  have hwl : without D.l nm = if is = true then D.l.take p ++ D.l.drop (p + 1) else D.l := by unfold without; rw [hp, his]
  rw [hp, his] at FI
  have HWL := Lib.hid hwl
  have H := Lib.hid h
  have HO := Lib.hid ho
  have HPART := Lib.hid hpart
  have hm20 : m ≤ 20 := by omega
  have hmc : m ≤ c := by omega
  have his3 : is = true → p < m := fun e => by have := his2 e; omega
  rw [hm] at H HPART
  clear hp his h ho hwl hpart hc1 his2 hlen hfew
  cases is with
  | false =>
    go_enter Try.func73, Try.ntmps73
    go_wp2_with (first
      | (go_at_call 69; refine FI.out.mono ?_; rintro e w1 ⟨rfl, hb1⟩))
    first | go_end0 | (refine bodyPost_ret (results_none rfl _ _ _) rfl ?_)
    rw [HWL.out]
    have h1 := (H.out.below hb1).mono (G := nF F w w1) (fun k e => .inl e) (fun k e => by rcases e with e | e; exact Nat.lt_of_lt_of_le (H.out.lt k e) hb1.size; exact e.2)
    exact ⟨rfl, _, _, h1, Grow.of_below hb1⟩
  | true =>
    have hpm2 : p < m := his3 rfl
    have hwp : IntKind.i64.wrap ((p : Int) + 1) = (p : Int) + 1 := IntWalk.i64_in _ (by omega)
    have hSL1 := fun W : World => by simpa using slf_h A m c .i64 (p : Int) W (by omega) (by omega)
    have hSL2 := fun W : World => slf_l A m c .i64 ((p : Int) + 1) W (by omega) (by omega)
    rw [show ((p : Int) + 1).toNat = p + 1 by omega] at hSL2
    go_enter Try.func73, Try.ntmps73
    go_wp2_with (first
      | (go_at_call 69; refine FI.out.mono ?_; rintro e w1 ⟨rfl, hb1⟩; have c0 := (H.out.below hb1).c0; have hp1 := Lib.hid ((HPART.out.below hb1).head p (by omega)); have hp3 := Lib.hid ((HPART.out.below hb1).tail (p + 1) (by omega) hmc); have hn1 := Lib.hid (World.ownsRow_nil w1 w1.heap.size 97 3))
      | (at_builtin; refine wpList_appF rfl _ _ rfl w1.heap.size (.slice none 0 0) [] (qs.take p) rfl hn1.out A p c rfl hp1.out ?_ (Nat.le_refl _) ?_; · simp; omega
         intro v1 w2 hr1 hb2; have hr1' := Lib.hid hr1; clear hr1; simp only [List.nil_append] at hr1'; have c3 := (hb2.cell (p := ⟨g, 0, none⟩) (by have := hb1.size; simp; omega)).trans c0; have hp3' := Lib.hid (hp3.out.below hb2); have hbs2 := Lib.hid hb2.size; clear hn1 hp1 hp3)
      | (at_builtin; refine wpList_appF rfl _ _ rfl w1.heap.size v1 (qs.take p) (qs.drop (p + 1)) rfl hr1'.out (cutF A c (p + 1)) (m - (p + 1)) (c - (p + 1)) rfl hp3'.out ?_ hbs2.out ?_; · simp; omega
         intro v3 w4 hr3 hb4; have hr3' := Lib.hid hr3; clear hr3; have hB4 := hb1.trans ((hb2.trans hb4).mono hb1.size); have hR4 := H.out.below hB4; have c4 := hR4.c0; have z4 := hR4.fz 0; clear hr1' hp3'; obtain ⟨qn, hqn⟩ : ∃ x, qs.take p ++ qs.drop (p + 1) = x := ⟨_, rfl⟩; rw [hqn] at hr3'; obtain ⟨ln, hln⟩ : ∃ n, qn.length = n := ⟨_, rfl⟩; rw [hln] at hr3'; obtain ⟨A3, cc3, rfl⟩ := rowSlice hr3'.out; have HQN := Lib.hid hqn; have HLN := Lib.hid hln; clear hqn hln))
    first | go_end0 | (refine bodyPost_ret (results_none rfl _ _ _) rfl ?_)
    have hrow := rowBase hr3'.out hb1.size
    have hwl := HWL.out
    simp only [if_true] at hwl
    rw [← HLN.out] at hrow ⊢
    have hl := fun hh => H.out.list_ hB4 hrow (l' := without D.l nm) (by rw [← HQN.out, map_take_drop' qs D.l H.out.eq, hwl]) hh HO.out
    refine ⟨rfl, _, _, hl ?_⟩
    intro q hq
    rw [← HQN.out] at hq
    rcases List.mem_append.1 hq with h1 | h1
    · exact H.out.list.each q (List.mem_of_mem_take h1)
    · exact H.out.list.each q (List.mem_of_mem_drop h1)
end Go.Proofs.Ytkhalpajomammaa
