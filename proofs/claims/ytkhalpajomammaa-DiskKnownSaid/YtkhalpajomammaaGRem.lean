/-
  Layer 7: the landed disk: Remove.
-/
import Derived.Test.YtkhalpajomammaaGSync
set_option linter.unusedVariables false
namespace Go.Proofs.Ytkhalpajomammaa
open Go.RowKit Go.Maps

section
variable {V : World} {g : Nat} {D : Dk} {F : Nat → Prop} {mb : Nat} {fp : Option Addr} {es : List (Lit × DataW Empty)} {qs : List Cf}
set_option maxRecDepth 100000 in
theorem RC.key (h : RC V g D F mb fp es qs) {j : Nat} (hj : j < qs.length) : keyOf Try.prog 9 (.string qs[j].f.name) = some (sk qs[j].f.name) := by
  obtain ⟨es', e, hk⟩ := h.map.keysOf
  injection e with e
  subst e
  obtain ⟨v, hv⟩ := hk _ (h.perm.mem_iff.2 (List.mem_map.2 ⟨_, List.getElem_mem hj, rfl⟩))
  obtain ⟨s, e1, e2, e3⟩ := WideMaps.string_of_keyOf Try.underlying9 hv
  have e4 : s = qs[j].f.name := (sk_inj (show sk qs[j].f.name = sk s from e2)).symm
  rw [e4] at e3
  exact @WideMaps.keyOf_string_mk Try.prog 9 Try.underlying9 _ e3
end
theorem keep_all {nm : ByteArray} : ∀ {qs : List Cf}, (∀ c ∈ qs, c.f.name ≠ nm) → (qs.map Cf.ent).filter (fun p => !p.1.sameKey (sk nm)) = qs.map Cf.ent
  | [], _ => rfl
  | c :: qs, h => by
    have h1 : (sk c.f.name).sameKey (sk nm) = false := Maps.sameKey_ne (fun e => h c (by simp) (sk_inj e))
    have h2 := keep_all (qs := qs) (fun x hx => h x (by simp [hx]))
    rw [List.map_cons, List.filter_cons_of_pos (by show (!(sk c.f.name).sameKey (sk nm)) = true; rw [h1]; rfl), h2]
theorem strike_one : ∀ {qs : List Cf} {j : Nat} (hj : j < qs.length), qs.Pairwise (fun a b => a.f.name ≠ b.f.name) → (qs.map Cf.ent).filter (fun p => !p.1.sameKey (sk qs[j].f.name)) = (qs.take j ++ qs.drop (j + 1)).map Cf.ent
  | c :: qs, 0, _, hp => by
    obtain ⟨h1, _⟩ := List.pairwise_cons.1 hp
    have hs : (sk c.f.name).sameKey (sk c.f.name) = true := WideAt.sameKey_self trivial
    have e := keep_all (nm := c.f.name) (qs := qs) (fun x hx e => h1 x hx e.symm)
    simp only [List.getElem_cons_zero, List.take_zero, List.nil_append, List.drop_succ_cons, List.drop_zero]
    rw [List.map_cons, List.filter_cons_of_neg (by show ¬ (!(sk c.f.name).sameKey (sk c.f.name)) = true; rw [hs]; decide), e]
  | c :: qs, j + 1, hj, hp => by
    obtain ⟨h1, h2⟩ := List.pairwise_cons.1 hp
    have hj' : j < qs.length := by simpa using hj
    have ih := strike_one hj' h2
    have hs : (sk c.f.name).sameKey (sk qs[j].f.name) = false := Maps.sameKey_ne (fun e => h1 _ (List.getElem_mem hj') (sk_inj e))
    simp only [List.getElem_cons_succ, List.take_succ_cons, List.drop_succ_cons, List.cons_append]
    rw [List.map_cons, List.filter_cons_of_pos (by show (!(sk c.f.name).sameKey (sk qs[j].f.name)) = true; rw [hs]; rfl), ih, List.map_cons]

set_option maxRecDepth 100000 in
set_option maxHeartbeats 4000000 in
theorem gRemove1 (w : World) (bd bn g : Nat) (nm : ByteArray) (mb : Nat) (es : List (Lit × DataW Empty)) (hd : w.cell? ⟨bd, 0, none⟩ = some (pt g)) (hn : w.cell? ⟨bn, 0, none⟩ = some (.string nm)) (c0 : w.cell? ⟨g, 0, none⟩ = some (.map (some mb))) (hown : w.ownsMap Try.prog 9 fE mb 20 (.map es)) (hkey : keyOf Try.prog 9 (.string nm) = some (sk nm)) :
    Calls Try.prog 67 #[pt bd, pt bn] w fun e w' => e = .returned (.tuple #[]) ∧ w'.ownsMap Try.prog 9 fE mb 20 (.map (es.filter (fun p => !p.1.sameKey (sk nm)))) ∧ w.grownBy w' (some mb) ∧ w'.heap.size = w.heap.size := by
  obtain ⟨w1, hrun, ho1, ht1⟩ := (hown.drew).drop lawK Try.underlying65 hkey 0
  have HS := Lib.hid (show w1.heap.size = w.heap.size by obtain ⟨_, _, _, _, _, rfl⟩ := ht1; simp [ChangeMaps.setBlock])
  have HO := Lib.hid (And.intro ho1 ht1)
  clear ho1 ht1 hown hkey
  go_enter Try.func67, Try.ntmps67
  go_wp2_with fail
  go_region_with (fail)
  all_goals
    go_wp2_with fail
    first | go_end0 | (refine bodyPost_ret (results_none rfl _ _ _) rfl ?_)
    exact ⟨rfl, HO.out.1, ⟨HO.out.2.grown.os, HO.out.2.grown.tape, HO.out.2.grown.output, HO.out.2.grown.size, HO.out.2.grown.block⟩, HS.out⟩

theorem map_cut (qs : List Cf) (a b : Nat) : (qs.take a ++ qs.drop b).map Cf.f = (qs.map Cf.f).take a ++ (qs.map Cf.f).drop b := by rw [List.map_append, List.map_take, List.map_drop]
/-- A file is taken away. -/
theorem RC.gone_ {V V' : World} {g : Nat} {D : Dk} {F : Nat → Prop} {mb : Nat} {fp : Option Addr} {es : List (Lit × DataW Empty)} {qs : List Cf} (h : RC V g D F mb fp es qs) (hd : D.dead = false) {j : Nat} (hj : j < qs.length) {nm : ByteArray} (hn : qs[j].f.name = nm)
    (hm : V'.ownsMap Try.prog 9 fE mb 20 (.map (es.filter (fun p => !p.1.sameKey (sk nm))))) (hg : V.grownBy V' (some mb)) :
    RC V' g { D with l := D.l.take j ++ D.l.drop (j + 1) } F mb fp (es.filter (fun p => !p.1.sameKey (sk nm))) (qs.take j ++ qs.drop (j + 1)) := by
  have hsub : (qs.take j ++ qs.drop (j + 1)).Sublist qs := by
    have e : qs = qs.take (j + 1) ++ qs.drop (j + 1) := (List.take_append_drop _ _).symm
    conv => rhs; rw [e]
    exact (List.take_sublist_take_left (Nat.le_succ j)).append (List.Sublist.refl _)
  have hkk : ∀ k, F k → k ≠ mb → V'.heap[k]? = V.heap[k]? := fun k e hne => hg.block k (h.lt k e) (fun e2 => hne (by injection e2))
  refine h.map' (V' := V') (G := F) (es' := es.filter (fun p => !p.1.sameKey (sk nm))) (qs' := qs.take j ++ qs.drop (j + 1)) hd hm hkk (fun _ e => e) (fun k e => Nat.lt_of_lt_of_le (h.lt k e) hg.size) ?_ (fun c hc => ?_) (h.sep.sublist hsub) (by rw [map_cut, h.eq]) (ok_sub h.ok (by
      have e : D.l = D.l.take (j + 1) ++ D.l.drop (j + 1) := (List.take_append_drop _ _).symm
      conv => rhs; rw [e]
      exact (List.take_sublist_take_left (Nat.le_succ j)).append (List.Sublist.refl _)))
  · rw [← strike_one hj h.names_ne, hn]
    exact h.perm.filter _
  · have hc' := hsub.subset hc
    have hr := h.each c hc'
    exact hr.on (fun k e => hkk k (hr.sub k e) (h.notg hc' e).2) hr.sub
theorem two_bel (w : World) (a b : Obj) : Below w.heap.size w ((w.alloc a).alloc b) := ((Below.refl w.heap.size w).alloc (Nat.le_refl _) a).alloc (by simp) b
theorem two_new (w : World) (a b : Obj) : ((w.alloc a).alloc b).heap[w.heap.size + 1]? = some b := by
  have h1 := heap_alloc_new (w.alloc a) b
  have e : (w.alloc a).heap.size = w.heap.size + 1 := by simp
  rwa [e] at h1
theorem two_old (w : World) (a b : Obj) : ((w.alloc a).alloc b).heap[w.heap.size]? = some a := (((Below.refl (w.alloc a).heap.size (w.alloc a)).alloc (Nat.le_refl _) b).block _ (by simp)).trans (heap_alloc_new w a)
theorem Grow.mp {F : Nat → Prop} {w V V' : World} {mb : Nat} (h : Grow F w V) (hm : F mb) (hg : V.grownBy V' (some mb)) : Grow F w V' := h.trans (Grow.by_ hg (fun k e => by injection e with e; subst e; exact .inl hm))
set_option maxRecDepth 100000 in
set_option maxHeartbeats 8000000 in
theorem gRemove (w : World) (g : Nat) (D : Dk) (F : Nat → Prop) (nm : ByteArray) (h : RCk w g D F) :
    Calls Try.prog 33 #[pt g, .string nm] w fun e w' => e = .returned (.int .i64 (remE D nm)) ∧ Turns RCk w g F (rem D nm) w' := by
  obtain ⟨mb, fp, es, qs, h⟩ := h
  have H := Lib.hid h
  have hbx := two_bel w (.cells #[pt g] 23) (.cells #[.string nm] 9)
  by_cases hn : nmE D nm = 0
  · obtain ⟨hd, hi⟩ := nmE_zero hn
    obtain ⟨p, hp⟩ : ∃ p, pos D.l nm = p := ⟨_, rfl⟩
    obtain ⟨hq, hqn, hfa, hdl, hde⟩ := h.at_ hp hi
    have FI := Lib.hid (gFind_yes ((w.alloc (.cells #[pt g] 23)).alloc (.cells #[.string nm] 9)) g D F mb fp es qs (h.below hbx) nm hp hn hq)
    by_cases hl : D.left = 0
    · have hE : remE D nm = 71 := by unfold remE synE workE; rw [hn, if_pos rfl, if_pos hl]
      have hC : rem D nm = crash D D.keep := by unfold rem; rw [hn, if_pos rfl, work_yes hl]
      rw [hE, hC]
      have WK := Lib.hid (fun V (hb : Below w.heap.size w V) (v : Value) => gWork_yes V g D F mb fp es qs (H.out.below hb) hd hl v)
      generalize qs[p].q = q at *
      clear h hn hE hC hfa hde hqn
      go_enter Try.func33, Try.ntmps33
      go_wp2_with (first
        | (go_at_call 53; refine FI.out.mono ?_; rintro e w1 ⟨rfl, rfl⟩)
        | (go_at_call 51; refine (WK.out _ (by first | exact hbx | exact hbx.drew) _).mono ?_; rintro e w2 ⟨rfl, ht⟩))
      go_ret
      exact ⟨rfl, Turns.new_ H.out.lt (by first | exact hbx | exact hbx.drew) ht⟩
    · have hE : remE D nm = 0 := by unfold remE synE workE; rw [hn, if_pos rfl, if_neg hl]
      have hC : rem D nm = { less D with l := (less D).l.take p ++ (less D).l.drop (p + 1) } := by unfold rem; rw [hn, if_pos rfl, work_no hl]; unfold without; rw [hi, if_pos rfl, hp]; rfl
      rw [hE, hC]
      have WK := Lib.hid (gWork_Remove ((w.alloc (.cells #[pt g] 23)).alloc (.cells #[.string nm] 9)) g D F mb fp es qs (h.below hbx) hd hl #[pt w.heap.size, pt (w.heap.size + 1)] (fun w' => Turns RCk w g F { less D with l := (less D).l.take p ++ (less D).l.drop (p + 1) } w') (by
        intro V hR hs hG
        have hb1 := box_cell (box_kept h.lt hG (b := w.heap.size) (Nat.le_refl _) (two_old w (.cells #[pt g] 23) (.cells #[.string nm] 9)))
        have hb2 := box_cell (box_kept h.lt hG (b := w.heap.size + 1) (by omega) (two_new w (.cells #[pt g] 23) (.cells #[.string nm] 9)))
        have hk := hR.key hq
        rw [hqn] at hk
        refine (gRemove1 V w.heap.size (w.heap.size + 1) g nm mb es hb1 hb2 hR.c0 hR.map hk).mono ?_
        rintro e w' ⟨rfl, hm, hg, _⟩
        exact ⟨rfl, (hR.gone_ hd hq hqn hm hg).ends (fun k e => .inl e) (Grow.of_new hbx (hG.mp h.fm hg)) h.lt⟩))
      generalize qs[p].q = q at *
      clear h hn hE hC hfa hde hqn
      go_enter Try.func33, Try.ntmps33
      go_wp2_with (first
        | (go_at_call 53; refine FI.out.mono ?_; rintro e w1 ⟨rfl, rfl⟩)
        | (go_at_call 51; refine WK.out.mono ?_; rintro e w2 ⟨rfl, ht⟩))
      go_ret
      exact ⟨rfl, ht⟩
  · have FI := Lib.hid (gFind_no ((w.alloc (.cells #[pt g] 23)).alloc (.cells #[.string nm] 9)) g D F mb fp es qs (H.out.below hbx) nm hn)
    have hE : remE D nm = nmE D nm := by unfold remE synE; rw [if_neg hn]
    have hC : rem D nm = D := by unfold rem; rw [if_neg hn]
    rw [hE, hC]
    have hne : (nmE D nm == 0) = false := by simpa using hn
    generalize nmE D nm = E at *
    clear h hn hE hC
    go_enter Try.func33, Try.ntmps33
    go_wp2_with (first
      | (go_at_call 53; refine FI.out.mono ?_; rintro e w1 ⟨rfl, rfl⟩))
    go_ret
    exact ⟨rfl, RCk.turn H.out hbx⟩
end Go.Proofs.Ytkhalpajomammaa
