/-
  Layer 10, the code: Copy.
-/
import Derived.Test.YtgakkeeeadndkaaTbHas
set_option linter.unusedVariables false
namespace Go.Proofs.Ytgakkeeeadndkaa
open Go.RowKit Go.Shelf
attribute [local go_sem] Oper.semAt_some

theorem rone_snoc {L : List Rw} {x : Rw} (hs : RSor (L ++ [x])) : rone L ⟨x.key, x.value, false⟩ = L ++ [x] := by
  have hp : rpos L x.key = L.length := rpos_eq (Nat.le_refl _) (fun i hi _ => by
    have h := List.pairwise_append.1 hs
    exact h.2.2 _ (List.getElem_mem hi) x (by simp)) (fun h => absurd h (Nat.lt_irrefl _))
  have hh : rhas L x.key = false := rhas_end (by rw [hp]; exact Nat.le_refl _)
  unfold rone rrest
  simp only [hp, hh, Bool.false_eq_true, if_false, Nat.add_zero, List.take_length, List.drop_length, List.append_nil]
theorem Has.tbPut {w V : World} {T : List As} {p : Nat} {r : List Rw} (h : Has w (tbA p r :: T) V) (k v : ByteArray) (hl : r.length ≤ 1000000000) (hks : k.size ≤ 281474976710656) :
    Calls Try.prog 46 #[pt p, .string k, .string v] V fun e w' => (∃ u, e = .returned u) ∧ Has w (tbA p (rone r ⟨k, v, false⟩) :: T) w' ∧ ∀ n, KeepsFrom n V w' :=
  h.turnK (cel_tb p r) (Q := fun e => ∃ u, e = .returned u) fun F hA hF => by
    obtain ⟨q, s, m, l, F2, h1, rfl, hF2⟩ := hA
    refine (tb_put h1 k v (by rw [tab_len] at hl; exact hl) hks).mono ?_
    rintro e w' ⟨hu, ⟨F', a, g, n⟩, _⟩
    exact ⟨hu, F', a, g.mono (fun k e => (hF2 k).2 e), fun k e => (n k e).imp (fun e => (hF2 k).2 e) id⟩
set_option maxRecDepth 100000 in
set_option maxHeartbeats 4000000 in
theorem tb_copy {V : World} {p : Nat} {r : List Rw} {F : Nat → Prop} (h : (tbA p r).p V F) (hz : Szs r) (hl : r.length ≤ 1000000) :
    Calls Try.prog 28 #[pt p] V fun e w' => ∃ c, e = .returned (pt c) ∧ Has V [tbA c r] w' := by
  have hsor := tbA_sor h
  obtain ⟨q, hq⟩ := tbA_list h
  have hbl : btw r ⟨#[]⟩ ⟨#[]⟩ = r := btw_all r
  have NO := Lib.hid (tb_isNone p q V hq)
  have NW := Lib.hid (Has.tbNew (Has.nil (Below.refl _ V)) 0)
  have H := Lib.hid h
  have HZ := Lib.hid hz
  have HS := Lib.hid hsor
  have HBL := Lib.hid hbl
  clear h hz hsor hbl hq
  refine (callsIn_wide (n := 3)).1 (callsIn_of_wp_marks Try.func28 rfl trivial (wpIn_wide.2 ?_) rfl)
  simp only [Try.ntmps28, List.size_toArray, List.length_cons, List.length_nil, Nat.reduceAdd, Nat.reduceSub, Array.replicate_succ, Array.replicate_zero, List.push_toArray, List.append_toArray, List.nil_append, List.cons_append]
  go_wp2_with (first
    | (go_at_call 35; refine NO.out.mono ?_; rintro e w2 ⟨rfl, hw⟩; obtain rfl : V = w2 := hw.symm)
    | (go_at_call 12; refine NW.out.mono ?_; rintro e w3 ⟨c, rfl, h3⟩; have H3 := Lib.hid (h3.newBlk 23 #[pt c]); clear h3)
    | (go_at_call 26; refine (Has.tbAll H3.out p ⟨#[]⟩ ⟨#[]⟩).mono ?_; rintro e W0 ⟨g1, g2, g3, rfl, h4⟩; have H4 := Lib.hid h4; clear h4))
  generalize w3.heap.size = g9 at *
  have hs0 := H4.out.size
  have hTR := Lib.hid (fun (r2 : List Rw) W (hh : Has V [blkA g1 23 #[pt p], blkA g2 9 #[.string ⟨#[]⟩], blkA g3 9 #[.string ⟨#[]⟩], blkA g9 23 #[pt c], tbA c r2] W) => (show TRD p g1 g2 g3 ⟨#[]⟩ ⟨#[]⟩ r W from
    ⟨⟨F, tbA_below H.out hh.bel⟩, HZ.out, hh.blkAt (by simp), hh.blkAt (by simp), hh.blkAt (by simp)⟩))
  refine wp_tours (P := Try.prog) rfl (fun _ _ => rfl) (tb_all_tours p g1 g2 g3 ⟨#[]⟩ ⟨#[]⟩) rfl r.length
    (fun b r' n W => r' = r ∧ b = upAt r ⟨#[]⟩ ⟨#[]⟩ n ∧ n ≤ r.length ∧ Has V [blkA g1 23 #[pt p], blkA g2 9 #[.string ⟨#[]⟩], blkA g3 9 #[.string ⟨#[]⟩], blkA g9 23 #[pt c], tbA c (r.take n)] W)
    (fun _ _ => False)
    (fun b r' n X Y h hX hf => ⟨h.1, h.2.1, h.2.2.1, h.2.2.2.firm hf hs0 (fun A hA => by
      simp only [List.mem_cons, List.not_mem_nil, or_false] at hA
      rcases hA with rfl | rfl | rfl | rfl | rfl
      · exact cel_blk _ _ _
      · exact cel_blk _ _ _
      · exact cel_blk _ _ _
      · exact cel_blk _ _ _
      · exact cel_tb _ _)⟩)
    (fun _ _ _ h _ _ => h)
    (fun b r' n X h => ⟨by rw [h.1]; exact hTR.out _ X h.2.2.2, h.2.2.1⟩)
    r ⟨rfl, rfl, Nat.zero_le _, H4.out⟩ ?a1 ?assign ?body ?done ?stop
  case assign =>
    intro l x W K hK
    gi_wp2
    exact hK
  case body =>
    rintro l b r' n x W hsW ⟨rfl, rfl, hn, hh⟩ hx
    rw [up_next HS.out _ _ (by rw [HBL.out]; exact hn)] at hx
    obtain ⟨hst, hlt⟩ := up_step hx
    rw [HBL.out] at hlt hx
    have htk : r'.take (n + 1) = r'.take n ++ [x] := by
      obtain ⟨h1, h2⟩ := List.getElem?_eq_some_iff.1 hx
      rw [List.take_succ_eq_append_getElem h1, h2]
    have hxs := HZ.out x (List.mem_of_getElem? hx)
    have hro : rone (r'.take n) ⟨x.key, x.value, false⟩ = r'.take (n + 1) := by
      rw [htk]
      exact rone_snoc (htk ▸ (List.Pairwise.sublist (List.take_sublist _ _) HS.out : RSor (r'.take (n + 1))))
    have c1 : W.cell? ⟨g9, 0, none⟩ = some (pt c) := (hh.blkAt (g := g9) (t := 23) (cs := #[pt c]) (by simp)).cell 0
    have HH := Lib.hid (hh.perm (l' := [tbA c (r'.take n), blkA g1 23 #[pt p], blkA g2 9 #[.string ⟨#[]⟩], blkA g3 9 #[.string ⟨#[]⟩], blkA g9 23 #[pt c]]) (List.perm_append_comm (l₁ := [_, _, _, _]) (l₂ := [_])))
    obtain ⟨key, value⟩ := x
    have PU := Lib.hid (HH.out.tbPut key value (by rw [List.length_take]; omega) (by have := hxs.2.1; simp only at this; omega))
    rw [hro] at PU
    have HST := Lib.hid hst
    have HLT := Lib.hid hlt
    clear hx hst htk hro hxs hh HH hn hlt
    gi_wp2_with (refine ⟨trivial, ?_⟩; gi_at_call 46; refine ((callsIn_wide.2 PU.out).inRound l).mono ?_; rintro e w5 ⟨⟨u5, rfl⟩, h5, hk5⟩)
    exact ⟨hk5 _, HST.out, HLT.out, h5.perm (List.perm_append_comm (l₁ := [_]) (l₂ := [_, _, _, _]))⟩
  case done =>
    rintro D b r' n W hD hsW hno ⟨rfl, rfl, hn, hh⟩ hK
    rw [up_next HS.out _ _ (by rw [HBL.out]; exact hn), HBL.out, List.getElem?_eq_none_iff] at hno
    have c1 : W.cell? ⟨g9, 0, none⟩ = some (pt c) := (hh.blkAt (g := g9) (t := 23) (cs := #[pt c]) (by simp)).cell 0
    have hf : Firm V.heap.size W (W.putObj D (.deferred none)) := .put D _ (by omega) hK rfl
    rw [List.take_of_length_le hno] at hh
    have hfin : Has V [tbA c r'] (W.putObj D (.deferred none)) := (hh.tail.tail.tail.tail).firm hf (Nat.le_refl _) (fun A hA => by obtain rfl := List.mem_singleton.1 hA; exact cel_tb _ _)
    have HF := Lib.hid hfin
    clear hh hf hfin
    go_wp2
    refine ⟨by simp, .inl ⟨_, _, rfl, run_takeDeferred hK, ?_⟩⟩
    exact ⟨_, results_tmp rfl _ _ _, c, rfl, HF.out⟩
  case stop =>
    intro D c W _ _ h _
    exact h.elim
theorem Has.tbCopy {w V : World} {T : List As} {p : Nat} {r : List Rw} (h : Has w (tbA p r :: T) V) (hz : Szs r) (hl : r.length ≤ 1000000) :
    Calls Try.prog 28 #[pt p] V fun e w' => ∃ c, e = .returned (pt c) ∧ Has w (tbA c r :: tbA p r :: T) w' := by
  obtain ⟨F, hA, _⟩ := h.get
  refine (tb_copy hA hz hl).mono ?_
  rintro e w' ⟨c, rfl, h2⟩
  obtain ⟨F2, h3, h4⟩ := h2.get
  exact ⟨c, rfl, h.new h2.bel h3 h4⟩
end Go.Proofs.Ytgakkeeeadndkaa
