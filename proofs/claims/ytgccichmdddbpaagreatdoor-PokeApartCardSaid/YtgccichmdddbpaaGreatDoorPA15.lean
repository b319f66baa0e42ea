/-
  Layer 10: a walk's own tables: each call takes them one step further; what stays in a range's rounds.
  Layer 10, the code: Copy.
  Layer 10, the statements' words: turned, keys, chapter, works.
  Layer 10: the chapter's table ('chapter', 'works').
-/
import Derived.Test.YtgccichmdddbpaaGreatDoorPA13
import Derived.Test.YtgccichmdddbpaaGreatDoorPA14
set_option linter.unusedVariables false
namespace Go.Proofs.YtgccichmdddbpaaGreatDoor
open Go.RowKit Go.Shelf

def CelA (A : As) : Prop := ∀ V F, A.p V F → Cel V F
theorem cel_tb (p : Nat) (r : List Rw) : CelA (tbA p r) := fun V F h => tbA_cel h
theorem cel_blk (g : Nat) (t : TypeId) (cs : Array Value) : CelA (blkA g t cs) := fun V F h k e => by
  obtain rfl := (h.2 k).1 e
  exact h.1.cel
section
variable {w V V' W : World} {l T : List As} {A A2 A' B C D E : As} {F : Nat → Prop} {p b g g1 g2 g3 : Nat} {r r' : List Rw}
theorem Sep.cel (h : Sep V l F) (hc : ∀ A ∈ l, CelA A) : Cel V F := by
  induction l generalizing F with
  | nil => exact fun k e => absurd e (h k)
  | cons A l ih =>
    obtain ⟨F1, F2, h1, h2, h3, h4⟩ := h
    intro k e
    rcases (h4 k).1 e with e | e
    · exact hc A (by simp) V F1 h1 k e
    · exact ih h2 (fun B hB => hc B (by simp [hB])) k e
theorem Has.firm (h : Has w l V) {n : Nat} (hf : Firm n V V') (hn : w.heap.size ≤ n) (hc : ∀ A ∈ l, CelA A) : Has w l V' := by
  obtain ⟨⟨F, h1, h2⟩, h3⟩ := h
  have hcel := h1.cel hc
  refine ⟨⟨F, h1.on hf.size (fun k e => ?_), h2⟩, h3.trans (hf.below hn h3.size)⟩
  obtain ⟨o, ho, hoc⟩ := hcel k e
  rw [hf.same k o ho (.inl hoc), ho]
theorem Sep.mem (h : Sep V l F) (hm : A ∈ l) : ∃ F1, A.p V F1 ∧ ∀ k, F1 k → F k := by
  induction l generalizing F with
  | nil => cases hm
  | cons B l ih =>
    obtain ⟨F1, F2, h1, h2, h3, h4⟩ := h
    rcases List.mem_cons.1 hm with rfl | hm
    · exact ⟨F1, h1, fun k e => (h4 k).2 (.inl e)⟩
    · obtain ⟨F3, h5, h6⟩ := ih h2 hm
      exact ⟨F3, h5, fun k e => (h4 k).2 (.inr (h6 k e))⟩
theorem Has.at_ (h : Has w l V) (hm : A ∈ l) : ∃ F, A.p V F ∧ ∀ k, F k → w.heap.size ≤ k := by
  obtain ⟨⟨F, h1, h2⟩, _⟩ := h
  obtain ⟨F1, h3, h4⟩ := h1.mem hm
  exact ⟨F1, h3, fun k e => h2 k (h4 k e)⟩
theorem Has.blkAt {t : TypeId} {cs : Array Value} (h : Has w l V) (hm : blkA g t cs ∈ l) : Blk V g t cs := (h.at_ hm).choose_spec.1.1
theorem keeps_grow {n : Nat} (hg : Grow F V W) (hc : Cel V F) : KeepsFrom n V W := by
  refine ⟨hg.size, fun k o _ hk ho => ?_⟩
  have hlt := lt_of_some hk
  rw [hg.block k hlt (fun e => ?_), hk]
  obtain ⟨o2, h2, h3⟩ := hc k e
  rw [hk] at h2
  cases h2
  rw [ho] at h3
  cases h3
theorem keeps_below {n : Nat} (hb : Below V.heap.size V W) : KeepsFrom n V W := ⟨hb.size, fun k o _ hk ho => (hb.block k (lt_of_some hk)).trans hk⟩
/-- The first thing turns; what is no cells stays. -/
theorem Has.turnK (h : Has w (A :: l) V) (hca : CelA A) {f : FuncId} {args : Array Value} {Q : Ending → Prop}
    (hc : ∀ F, A.p V F → (∀ k, F k → w.heap.size ≤ k) → Calls Tryz.prog f args V fun e w' => Q e ∧ AsTurn A' F V w') :
    Calls Tryz.prog f args V fun e w' => Q e ∧ Has w (A' :: l) w' ∧ ∀ n, KeepsFrom n V w' := by
  obtain ⟨F, h1, h1b, h2⟩ := h.step
  refine (hc F h1 h1b).mono ?_
  rintro e w' ⟨hq, F', h3, h4, h5⟩
  exact ⟨hq, h2 w' A' F' h4 h3 h5, fun n => keeps_grow h4 (hca V F h1)⟩
/-- What lies beside the first thing stays while that turns. -/
theorem Has.beside (h : Has w (A :: A2 :: l) V) : ∀ F, A.p V F → True := fun _ _ => trivial
theorem Has.step2 (h : Has w (A :: A2 :: l) V) : ∃ F, A.p V F ∧ (∀ k, F k → w.heap.size ≤ k) ∧ (∀ W, Grow F V W → ∃ F2, A2.p W F2) ∧ ∀ (V' : World) (A' : As) (F' : Nat → Prop), Grow F V V' → A'.p V' F' → (∀ k, F' k → nF F V V' k) → Has w (A' :: A2 :: l) V' := by
  have hs := h
  obtain ⟨⟨F, ⟨F1, F2, h1, h2, h3, h4⟩, h5⟩, h6⟩ := h
  obtain ⟨F3, F4, h7, h8, h9, h10⟩ := h2
  refine ⟨F1, h1, fun k e => h5 k ((h4 k).2 (.inl e)), fun W hg => ⟨F3, A2.on h7 hg.size (fun k e => hg.block k (A2.lt h7 k e) (fun e1 => h3 k e1 ((h10 k).2 (.inl e))))⟩, fun V' A' F' hG hA hF => ?_⟩
  have h2 : Sep V (A2 :: l) F2 := ⟨F3, F4, h7, h8, h9, h10⟩
  have hlt2 := h2.lt
  refine ⟨⟨fun k => F' k ∨ F2 k, ⟨F', F2, hA, h2.on hG.size (fun k e => hG.block k (hlt2 k e) (fun e1 => h3 k e1 e)), fun k e e2 => ?_, fun k => Iff.rfl⟩, fun k e => ?_⟩, hG.below h6 h6.size (fun k e => h5 k ((h4 k).2 (.inl e)))⟩
  · rcases hF k e with e1 | e1
    · exact h3 k e1 e2
    · have := hlt2 k e2; omega
  · rcases e with e | e
    · rcases hF k e with e1 | e1
      · exact h5 k ((h4 k).2 (.inl e1))
      · exact Nat.le_trans h6.size e1.1
    · exact h5 k ((h4 k).2 (.inr e))
/-! the calls -/
theorem Has.tbNew (h : Has w T V) (s : Int) : Calls Tryz.prog 41 #[.int .i64 s] V fun e w' => ∃ p, e = .returned (pt p) ∧ Has w (tbA p [] :: T) w' := by
  refine (tb_new s V).mono ?_
  rintro e w' ⟨p, F, rfl, hA, hF, hb⟩
  exact ⟨p, rfl, h.new hb hA hF⟩
theorem Has.tbApply (h : Has w (tbA p r :: T) V) {N : Nat} (hr : ROk N r) (hN : N ≤ 999999000) (A : Option Addr) (n c : Nat) (ops : List Op_) (ho : OAt w A n ops) (hn : n ≤ 9223372036854775807) (hs : OSz ops) :
    Calls Tryz.prog 19 #[pt p, .slice A n c] V fun e w' => e = .returned (.int .i64 (chk ops)) ∧ Has w (tbA p (rapp r ops) :: T) w' ∧ ∀ n, KeepsFrom n V w' :=
  h.turnK (cel_tb p r) (Q := fun e => e = .returned (.int .i64 (chk ops))) fun F hA hF => tb_apply hA A n c ops (fun W hg => ho.below (hg.below h.bel h.size hF)) hn hr hN hs
theorem Has.tbApplyB (h : Has w (tbA p r :: A2 :: T) V) {N : Nat} (hr : ROk N r) (hN : N ≤ 999999000) (A : Option Addr) (n c : Nat) (ops : List Op_) (ho : ∀ W F2, A2.p W F2 → OAt W A n ops) (hn : n ≤ 9223372036854775807) (hs : OSz ops) :
    Calls Tryz.prog 19 #[pt p, .slice A n c] V fun e w' => e = .returned (.int .i64 (chk ops)) ∧ Has w (tbA p (rapp r ops) :: A2 :: T) w' ∧ ∀ n, KeepsFrom n V w' := by
  obtain ⟨F, h1, h1b, h2, h3⟩ := h.step2
  refine (tb_apply h1 A n c ops (fun W hg => by obtain ⟨F2, h4⟩ := h2 W hg; exact ho W F2 h4) hn hr hN hs).mono ?_
  rintro e w' ⟨hq, F', h4, h5, h6⟩
  exact ⟨hq, h3 w' _ F' h5 h4 h6, fun n => keeps_grow h5 (tbA_cel h1)⟩
/-- Rows of the walk's own. -/
abbrev rwA (v : Value) (l : List Rw) : As := rowA 70 2 v l.length (rfl2 l)
theorem Has.newRw (h : Has w T V) {v : Value} {l : List Rw} (hr : RRow V' V.heap.size v l.length l) (hb : Below V.heap.size V V') : Has w (rwA v l :: T) V' :=
  h.new (F := fun k => v.ownBlock = some k) hb ⟨RRow.base hr (Nat.zero_le _), fun k => Iff.rfl⟩ (fun k e => (World.ownsRow.lt hr k e).1)
theorem Has.tbAll (h : Has w T V) (p : Nat) (f t : ByteArray) : Calls Tryz.prog 56 #[pt p, .string f, .string t] V fun e w' => ∃ g1 g2 g3, e = .returned (.func (.func 107) #[] #[pt g1, pt g2, pt g3]) ∧ Has w (blkA g1 31 #[pt p] :: blkA g2 9 #[.string f] :: blkA g3 9 #[.string t] :: T) w' := by
  refine (tb_all p f t V).mono ?_
  rintro e w' ⟨g1, g2, g3, rfl, ⟨q1, q2, q3, q4, q5⟩, ⟨k1, k2, k3⟩, hb⟩
  refine ⟨g1, g2, g3, rfl, ?_⟩
  obtain ⟨⟨F2, h1, h2⟩, h3⟩ := h
  have hlt := h1.lt
  refine ⟨⟨fun k => k = g1 ∨ k = g2 ∨ k = g3 ∨ F2 k, ⟨fun k => k = g1, fun k => k = g2 ∨ k = g3 ∨ F2 k, ⟨k1, fun k => Iff.rfl⟩, ⟨fun k => k = g2, fun k => k = g3 ∨ F2 k, ⟨k2, fun k => Iff.rfl⟩, ⟨fun k => k = g3, F2, ⟨k3, fun k => Iff.rfl⟩, h1.on hb.size (fun k e => hb.block k (hlt k e)), fun k e e2 => ?_, fun k => Iff.rfl⟩, fun k e e2 => ?_, fun k => Iff.rfl⟩, fun k e e2 => ?_, fun k => Iff.rfl⟩, fun k e => ?_⟩, h3.trans (hb.mono h3.size)⟩
  · have := hlt k e2; omega
  · rcases e2 with e2 | e2
    · omega
    · have := hlt k e2; omega
  · rcases e2 with e2 | e2 | e2
    · omega
    · omega
    · have := hlt k e2; omega
  · have := h3.size
    rcases e with e | e | e | e
    · omega
    · omega
    · omega
    · exact h2 k e
end
end Go.Proofs.YtgccichmdddbpaaGreatDoor
set_option linter.unusedVariables false
namespace Go.Proofs.YtgccichmdddbpaaGreatDoor
open Go.RowKit Go.Shelf
attribute [local go_sem] Oper.semAt_some

theorem rone_snoc {L : List Rw} {x : Rw} (hs : RSor (L ++ [x])) : rone L ⟨x.key, x.value, false⟩ = L ++ [x] := by
  have hp : rpos L x.key = L.length := rpos_eq (Nat.le_refl _) (fun i hi _ => by
    have h := List.pairwise_append.1 hs
    exact h.2.2 _ (List.getElem_mem hi) x (by simp)) (fun h => absurd h (Nat.lt_irrefl _))
  have hh : rhas L x.key = false := rhas_end (by rw [hp]; exact Nat.le_refl _)
  unfold rone rrest
  simp only [hp, hh, Bool.false_eq_true, if_false, Nat.add_zero, List.take_length, List.drop_length, List.append_nil]
theorem Has.tbPut {w V : World} {T : List As} {p : Nat} {r : List Rw} (h : Has w (tbA p r :: T) V) (k v : ByteArray) (hl : r.length ≤ 1000000000) (hks : k.size ≤ 281474976710656) :
    Calls Tryz.prog 110 #[pt p, .string k, .string v] V fun e w' => (∃ u, e = .returned u) ∧ Has w (tbA p (rone r ⟨k, v, false⟩) :: T) w' ∧ ∀ n, KeepsFrom n V w' :=
  h.turnK (cel_tb p r) (Q := fun e => ∃ u, e = .returned u) fun F hA hF => by
    obtain ⟨q, s, m, l, F2, h1, rfl, hF2⟩ := hA
    refine (tb_put h1 k v (by rw [tab_len] at hl; exact hl) hks).mono ?_
    rintro e w' ⟨hu, ⟨F', a, g, n⟩, _⟩
    exact ⟨hu, F', a, g.mono (fun k e => (hF2 k).2 e), fun k e => (n k e).imp (fun e => (hF2 k).2 e) id⟩
set_option maxRecDepth 100000 in
set_option maxHeartbeats 4000000 in
theorem tb_copy {V : World} {p : Nat} {r : List Rw} {F : Nat → Prop} (h : (tbA p r).p V F) (hz : Szs r) (hl : r.length ≤ 1000000) :
    Calls Tryz.prog 68 #[pt p] V fun e w' => ∃ c, e = .returned (pt c) ∧ Has V [tbA c r] w' := by
  have hsor := tbA_sor h
  obtain ⟨q, hq⟩ := tbA_list h
  have hbl : btw r ⟨#[]⟩ ⟨#[]⟩ = r := btw_all r
  have NO := Lib.hid (tb_isNone p q V hq)
  have NW := Lib.hid (Has.tbNew (Has.nil (Below.refl _ V)) 0)
  have H := Lib.hid h
  have HZ := Lib.hid hz
  have HS := Lib.hid hsor
  have HBL := Lib.hid hbl
  clear h hz hsor hbl hq
  refine (callsIn_wide (n := 3)).1 (callsIn_of_wp_marks Tryz.func68 rfl trivial (wpIn_wide.2 ?_) rfl)
  simp only [Tryz.ntmps68, List.size_toArray, List.length_cons, List.length_nil, Nat.reduceAdd, Nat.reduceSub, Array.replicate_succ, Array.replicate_zero, List.push_toArray, List.append_toArray, List.nil_append, List.cons_append]
  go_wp2_with (first
    | (go_at_call 60; refine NO.out.mono ?_; rintro e w2 ⟨rfl, hw⟩; obtain rfl : V = w2 := hw.symm)
    | (go_at_call 41; refine NW.out.mono ?_; rintro e w3 ⟨c, rfl, h3⟩; have H3 := Lib.hid (h3.newBlk 31 #[pt c]); clear h3)
    | (go_at_call 56; refine (Has.tbAll H3.out p ⟨#[]⟩ ⟨#[]⟩).mono ?_; rintro e W0 ⟨g1, g2, g3, rfl, h4⟩; have H4 := Lib.hid h4; clear h4))
  generalize w3.heap.size = g9 at *
  have hs0 := H4.out.size
  have hTR := Lib.hid (fun (r2 : List Rw) W (hh : Has V [blkA g1 31 #[pt p], blkA g2 9 #[.string ⟨#[]⟩], blkA g3 9 #[.string ⟨#[]⟩], blkA g9 31 #[pt c], tbA c r2] W) => (show TRD p g1 g2 g3 ⟨#[]⟩ ⟨#[]⟩ r W from
    ⟨⟨F, tbA_below H.out hh.bel⟩, HZ.out, hh.blkAt (by simp), hh.blkAt (by simp), hh.blkAt (by simp)⟩))
  refine wp_tours (P := Tryz.prog) rfl (fun _ _ => rfl) (tb_all_tours p g1 g2 g3 ⟨#[]⟩ ⟨#[]⟩) rfl r.length
    (fun b r' n W => r' = r ∧ b = upAt r ⟨#[]⟩ ⟨#[]⟩ n ∧ n ≤ r.length ∧ Has V [blkA g1 31 #[pt p], blkA g2 9 #[.string ⟨#[]⟩], blkA g3 9 #[.string ⟨#[]⟩], blkA g9 31 #[pt c], tbA c (r.take n)] W)
    (fun _ _ => False)
    (fun b r' n X Y h hX hf => ⟨h.1, h.2.1, h.2.2.1, h.2.2.2.firm hf hs0 (fun A hA => by
      simp only [List.mem_cons, List.not_mem_nil, or_false] at hA
      rcases hA with rfl | rfl | rfl | rfl | rfl
      · exact cel_blk _ _ _
      · exact cel_blk _ _ _
      · exact cel_blk _ _ _
      · exact cel_blk _ _ _
      · exact cel_tb _ _)⟩)
    (fun _ _ _ h _ _ => h)
    (fun b r' n X h => ⟨by rw [h.1]; exact hTR.out _ X h.2.2.2, h.2.2.1⟩)
    r ⟨rfl, rfl, Nat.zero_le _, H4.out⟩ ?a1 ?assign ?body ?done ?stop
  case assign =>
    intro l x W K hK
    gi_wp2
    exact hK
  case body =>
    rintro l b r' n x W hsW ⟨rfl, rfl, hn, hh⟩ hx
    rw [up_next HS.out _ _ (by rw [HBL.out]; exact hn)] at hx
    obtain ⟨hst, hlt⟩ := up_step hx
    rw [HBL.out] at hlt hx
    have htk : r'.take (n + 1) = r'.take n ++ [x] := by
      obtain ⟨h1, h2⟩ := List.getElem?_eq_some_iff.1 hx
      rw [List.take_succ_eq_append_getElem h1, h2]
    have hxs := HZ.out x (List.mem_of_getElem? hx)
    have hro : rone (r'.take n) ⟨x.key, x.value, false⟩ = r'.take (n + 1) := by
      rw [htk]
      exact rone_snoc (htk ▸ (List.Pairwise.sublist (List.take_sublist _ _) HS.out : RSor (r'.take (n + 1))))
    have c1 : W.cell? ⟨g9, 0, none⟩ = some (pt c) := (hh.blkAt (g := g9) (t := 31) (cs := #[pt c]) (by simp)).cell 0
    have HH := Lib.hid (hh.perm (l' := [tbA c (r'.take n), blkA g1 31 #[pt p], blkA g2 9 #[.string ⟨#[]⟩], blkA g3 9 #[.string ⟨#[]⟩], blkA g9 31 #[pt c]]) (List.perm_append_comm (l₁ := [_, _, _, _]) (l₂ := [_])))
    obtain ⟨key, value⟩ := x
    have PU := Lib.hid (HH.out.tbPut key value (by rw [List.length_take]; omega) (by have := hxs.2.1; simp only at this; omega))
    rw [hro] at PU
    have HST := Lib.hid hst
    have HLT := Lib.hid hlt
    clear hx hst htk hro hxs hh HH hn hlt
    gi_wp2_with (refine ⟨trivial, ?_⟩; gi_at_call 110; refine ((callsIn_wide.2 PU.out).inRound l).mono ?_; rintro e w5 ⟨⟨u5, rfl⟩, h5, hk5⟩)
    exact ⟨hk5 _, HST.out, HLT.out, h5.perm (List.perm_append_comm (l₁ := [_]) (l₂ := [_, _, _, _]))⟩
  case done =>
    rintro D b r' n W hD hsW hno ⟨rfl, rfl, hn, hh⟩ hK
    rw [up_next HS.out _ _ (by rw [HBL.out]; exact hn), HBL.out, List.getElem?_eq_none_iff] at hno
    have c1 : W.cell? ⟨g9, 0, none⟩ = some (pt c) := (hh.blkAt (g := g9) (t := 31) (cs := #[pt c]) (by simp)).cell 0
    have hf : Firm V.heap.size W (W.putObj D (.deferred none)) := .put D _ (by omega) hK rfl
    rw [List.take_of_length_le hno] at hh
    have hfin : Has V [tbA c r'] (W.putObj D (.deferred none)) := (hh.tail.tail.tail.tail).firm hf (Nat.le_refl _) (fun A hA => by obtain rfl := List.mem_singleton.1 hA; exact cel_tb _ _)
    have HF := Lib.hid hfin
    clear hh hf hfin
    go_wp2
    refine ⟨by simp, .inl ⟨_, _, rfl, run_takeDeferred hK, ?_⟩⟩
    exact ⟨_, results_tmp rfl _ _ _, c, rfl, HF.out⟩
  case stop =>
    intro D c W _ _ h _
    exact h.elim
end Go.Proofs.YtgccichmdddbpaaGreatDoor
set_option linter.unusedVariables false
namespace Go.Proofs.YtgccichmdddbpaaGreatDoor
open Go.RowKit Go.Shelf

section
variable {w V : World} {T : List As} {p : Nat} {r : List Rw}
end
end Go.Proofs.YtgccichmdddbpaaGreatDoor
set_option linter.unusedVariables false
namespace Go.Proofs.YtgccichmdddbpaaGreatDoor
open Go.RowKit Go.Shelf

/-! ### reckoned by bytes -/
/-! ### changes in a literal -/
def ofl (l : List Op_) : List Value := l.flatMap fun o => [.string o.key, .string o.value, .bool o.del]
theorem ofl_cons (o : Op_) (l : List Op_) : ofl (o :: l) = .string o.key :: .string o.value :: .bool o.del :: ofl l := by simp [ofl]
theorem ofl_len : ∀ l : List Op_, (ofl l).length = l.length * 3
  | [] => rfl
  | x :: l => by rw [ofl_cons, List.length_cons, List.length_cons, List.length_cons, ofl_len l, List.length_cons]; omega
theorem ofl_get : ∀ (l : List Op_) (i : Nat) (h : i < l.length), (ofl l)[i * 3]? = some (.string (l[i]'h).key) ∧ (ofl l)[i * 3 + 1]? = some (.string (l[i]'h).value) ∧ (ofl l)[i * 3 + 2]? = some (.bool (l[i]'h).del)
  | x :: l, 0, _ => by rw [ofl_cons]; exact ⟨rfl, rfl, rfl⟩
  | x :: l, i + 1, h => by
    have ih := ofl_get l i (by simpa using h)
    rw [ofl_cons, show (i + 1) * 3 = i * 3 + 1 + 1 + 1 by omega]
    simpa using ih
theorem OAt.lit {w : World} {b : Nat} {l : List Op_} {t : TypeId} {f : Nat × Nat} (h : w.heap[b]? = some (.cells (ofl l).toArray t f)) : OAt w (some ⟨b, 0, none⟩) l.length l :=
  ⟨rfl, fun _ => ⟨b, 0, rfl, fun i hi => by
    obtain ⟨h1, h2, h3⟩ := ofl_get l i hi
    exact ⟨by rw [cell_of_row w b _ _ t f h, Nat.zero_add]; simpa using h1, by rw [cell_of_row w b _ _ t f h, Nat.zero_add]; simpa using h2, by rw [cell_of_row w b _ _ t f h, Nat.zero_add]; simpa using h3⟩⟩⟩
section
variable {w V : World} {T : List As} {p : Nat} {r : List Rw}
end
abbrev nB : ByteArray := ⟨#[98]⟩
abbrev nC : ByteArray := ⟨#[99]⟩
abbrev nD : ByteArray := ⟨#[100]⟩
abbrev n1 : ByteArray := ⟨#[49]⟩
abbrev n2 : ByteArray := ⟨#[50]⟩
abbrev n3 : ByteArray := ⟨#[51]⟩
abbrev n4 : ByteArray := ⟨#[52]⟩
abbrev n5 : ByteArray := ⟨#[53]⟩
def T2 : List Rw := [⟨nB, n2⟩, ⟨nC, n5⟩, ⟨nD, n4⟩]
section
variable {w V : World} {T : List As} {p : Nat} {r : List Rw}
end
end Go.Proofs.YtgccichmdddbpaaGreatDoor
