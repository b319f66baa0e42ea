/-
  Layer 10, the code: Rows, Copy; the statements' words: what All and Back tell, in a list.
-/
import Derived.Test.YtgccichmdddbpaaGreatDoorPA11
import Derived.Test.YtgccichmdddbpaaGreatDoorPA12
import Derived.RangeFuncBox
set_option linter.unusedVariables false
namespace Go.Proofs.YtgccichmdddbpaaGreatDoor
open Go.RowKit Go.Shelf
attribute [local go_sem] Oper.semAt_some

theorem TRD.firm {p g1 g2 g3 : Nat} {f t : ByteArray} {r : List Rw} {B : Nat} {X Y : World} (h : TRD p g1 g2 g3 f t r X) (hf : Firm B X Y) : TRD p g1 g2 g3 f t r Y := by
  obtain ⟨F, h1⟩ := h.tb
  refine ⟨⟨F, (tbA p r).on h1 hf.size (fun k e => ?_)⟩, h.szs, hf.cells h.b1, hf.cells h.b2, hf.cells h.b3⟩
  obtain ⟨o, ho, hc⟩ := tbA_cel h1 k e
  rw [hf.same k o ho (.inl hc), ho]
theorem RRow.firm {w w' : World} {B C n : Nat} {v : Value} {l : List Rw} (h : RRow w B v n l) (hf : Firm C w w') : RRow w' B v n l := ownsRow_firm h hf
/-- What a range that collects carries on. -/
structure CB (V0 : World) (g n : Nat) (L : List Rw) (W : World) : Prop where
  box : ∃ v, Blk W g 50 #[v] ∧ RRow W V0.heap.size v n L
  bel : Below V0.heap.size V0 W
theorem CB.firm {V0 X Y : World} {g n B : Nat} {L : List Rw} (h : CB V0 g n L X) (hf : Firm B X Y) (hB : V0.heap.size ≤ B) : CB V0 g n L Y := by
  obtain ⟨v, h1, h2⟩ := h.box
  exact ⟨⟨v, hf.cells h1, h2.firm hf⟩, h.bel.trans (hf.below hB h.bel.size)⟩
theorem Blk.collect {W w1 : World} {g B n0 size k : Nat} {t e : TypeId} {x v u : Value} {xs : List Value} {tmp : Obj} (h : Blk W g t #[x]) (hte : t ≠ e) (hrow : W.ownsRow n0 e size v k xs) (hgrow : (W.alloc tmp).grownBy w1 v.ownBlock) (hne : g ≠ B) : Blk (w1.setCell ⟨B, 0, none⟩ u) g t #[x] := by
  have hb : Boxed W g t x := h
  have h1 : Boxed w1 g t x := (hb.alloc tmp).kept hgrow (hb.not_row hte hrow)
  exact (heap_setNe hne _).trans h1
set_option maxRecDepth 100000 in
set_option maxHeartbeats 4000000 in
theorem tb_rows {V : World} {p : Nat} {r : List Rw} {F : Nat → Prop} (h : (tbA p r).p V F) (hz : Szs r) (hl : r.length ≤ 1000000) :
    Calls Tryz.prog 17 #[pt p] V fun e w' => ∃ u, e = .returned u ∧ RRow w' V.heap.size u r.length r ∧ Below V.heap.size V w' := by
  have hsor := tbA_sor h
  have hbl : (btw r ⟨#[]⟩ ⟨#[]⟩).length = r.length := by rw [btw_all]
  have hb1 := nbl V (.cells #[.slice none 0 0] 50)
  have hbox1 := Blk.new V 50 #[.slice none 0 0]
  have H := Lib.hid h
  have HB1 := Lib.hid hb1
  have HX1 := Lib.hid hbox1
  have HZ := Lib.hid hz
  have HS := Lib.hid hsor
  have HBL := Lib.hid hbl
  clear h hb1 hbox1 hz hsor hbl
  refine (callsIn_wide (n := 3)).1 (callsIn_of_wp_marks Tryz.func17 rfl trivial (wpIn_wide.2 ?_) rfl)
  simp only [Tryz.ntmps17, List.size_toArray, List.length_cons, List.length_nil, Nat.reduceAdd, Nat.reduceSub, Array.replicate_succ, Array.replicate_zero, List.push_toArray, List.append_toArray, List.nil_append, List.cons_append]
  go_wp2_with fail
  refine (tb_all p ⟨#[]⟩ ⟨#[]⟩ _).mono ?_
  rintro e W0 ⟨g1, g2, g3, rfl, ⟨q1, q2, q3⟩, ⟨k1, k2, k3⟩, hb2⟩
  go_wp2_with fail
  have hB0 : Below V.heap.size V W0 := bst HB1.out hb2
  have hbox : Blk W0 V.heap.size 50 #[.slice none 0 0] := HX1.out.below hb2 (by simp)
  have hrd : TRD p g1 g2 g3 ⟨#[]⟩ ⟨#[]⟩ r W0 := ⟨⟨F, tbA_below H.out hB0⟩, HZ.out, k1, k2, k3⟩
  have hs0 := hB0.size
  have hq : V.heap.size < g1 ∧ V.heap.size < g2 ∧ V.heap.size < g3 := by simp at q1 q2 q3; omega
  clear hb2 k1 k2 k3 q1 q2 q3
  obtain ⟨i0, hi0, hz0, hz1, hz2⟩ := info_parts infoRw
  refine wp_tours (P := Tryz.prog) rfl (fun _ _ => rfl) (tb_all_tours p g1 g2 g3 ⟨#[]⟩ ⟨#[]⟩) rfl r.length
    (fun b r' n W => r' = r ∧ b = upAt r ⟨#[]⟩ ⟨#[]⟩ n ∧ n ≤ (btw r ⟨#[]⟩ ⟨#[]⟩).length ∧ TRD p g1 g2 g3 ⟨#[]⟩ ⟨#[]⟩ r W ∧ CB V V.heap.size n ((btw r ⟨#[]⟩ ⟨#[]⟩).take n) W)
    (fun _ _ => False)
    (fun b r' n X Y h hX hf => ⟨h.1, h.2.1, h.2.2.1, h.2.2.2.1.firm hf, h.2.2.2.2.firm hf hs0⟩)
    (fun _ _ _ h _ _ => h)
    (fun b r' n X h => ⟨by rw [h.1]; exact h.2.2.2.1, by have := h.2.2.1; rw [HBL.out] at this; exact this⟩)
    r ⟨rfl, rfl, Nat.zero_le _, hrd, ⟨_, hbox, RRow.nil _ _⟩, hB0⟩ ?a1 ?assign ?body ?done ?stop
  case assign =>
    intro l x W K hK
    gi_wp2
    exact hK
  case body =>
    rintro l b r' n x W hsW ⟨rfl, rfl, hn, hrd, ⟨⟨u, hu, hrow⟩, hB⟩⟩ hx
    rw [up_next HS.out _ _ hn] at hx
    obtain ⟨hst, hlt⟩ := up_step hx
    have htk : (btw r' ⟨#[]⟩ ⟨#[]⟩).take (n + 1) = (btw r' ⟨#[]⟩ ⟨#[]⟩).take n ++ [x] := by
      obtain ⟨h1, h2⟩ := List.getElem?_eq_some_iff.1 hx
      rw [List.take_succ_eq_append_getElem h1, h2]
    have c1 : W.cell? ⟨V.heap.size, 0, none⟩ = some u := hu.cell 0
    have f1 := hu.frozen 0
    have hsB := hB.size
    have hnl : n + 1 ≤ 1000000 := by have := HBL.out; omega
    obtain ⟨key, value⟩ := x
    obtain ⟨A9, c9, rfl, hat9, hl9, hm9⟩ := hrow.form
    clear hat9 hx
    gi_wp2_with (gi_at_builtin; (refine wpListIn_append_own _ rfl _ _ 50 rfl V.heap.size 70 i0 _ 2 32 Tryz.underlying50 hi0 hz0 hz1 hz2 rfl (by decide) (.slice A9 n c9) n _ rfl (hrow.alloc _) ⟨W.heap.size, 0, none⟩ 1 1 [.string key, .string value] rfl rfl (row_one W key value).news (rfl2_one [⟨key, value⟩]) (by unfold maxLen; omega) (by omega) (by simp; omega) ?_; intro v' w1 hown' hgrow _; obtain ⟨g', cap', rfl⟩ := ownsRow_succ hown'; obtain ⟨hv1, hv2, hr2, hk2, hb2⟩ := Boxed.appended (t := 50) hu (by decide) hrow hsB (Nat.le_refl _) hown' hgrow; have hc1 := hv1.cell; have hf1 := hv1.frozen))
    refine ⟨hk2.from _, hlt, ⟨⟨F, tbA_below H.out (hB.trans hb2)⟩, HZ.out, hrd.b1.collect (by decide) hrow hgrow (by omega), hrd.b2.collect (by decide) hrow hgrow (by omega), hrd.b3.collect (by decide) hrow hgrow (by omega)⟩, ⟨⟨_, hv2, ?_⟩, hB.trans hb2⟩⟩
    unfold RRow
    rw [rfl2_app]
    exact hr2
  case done =>
    rintro D b r' n W hD hsW hno ⟨rfl, rfl, hn, hrd, ⟨⟨u, hu, hrow⟩, hB⟩⟩ hK
    rw [up_next HS.out _ _ hn, List.getElem?_eq_none_iff] at hno
    have c1 : W.cell? ⟨V.heap.size, 0, none⟩ = some u := hu.cell 0
    have hf : Firm V.heap.size W (W.putObj D (.deferred none)) := .put D _ (by omega) hK rfl
    have hrr := hrow
    rw [List.take_of_length_le hno, btw_all] at hrr
    obtain rfl : n = r'.length := hrr.len.symm
    go_wp2
    refine ⟨by simp, .inl ⟨_, _, rfl, run_takeDeferred hK, ?_⟩⟩
    exact ⟨_, results_tmp rfl _ _ _, u, rfl, hrr.firm hf, hB.trans (hf.below (Nat.le_refl _) hB.size)⟩
  case stop =>
    intro D c W _ _ h _
    exact h.elim
end Go.Proofs.YtgccichmdddbpaaGreatDoor
