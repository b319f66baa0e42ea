/-
  Layer 7: the landed disk: a file is put under a name; Rename.
-/
import Derived.Test.YtkhalpajomammaaGRem
set_option linter.unusedVariables false
namespace Go.Proofs.Ytkhalpajomammaa
open Go.RowKit Go.Maps

theorem grown_undrew {w V : World} {r : Option Nat} (h : w.drew.grownBy V r) : w.grownBy V r := ⟨h.os, h.tape, h.output, h.size, h.block⟩
theorem isAt_no {l : List Fl} (hs : l.Pairwise (fun a b => nl a.name b.name = true)) {s : ByteArray} (h : isAt l s = false) : ∀ f ∈ l, f.name ≠ s := fun f hf e => by
  obtain ⟨i, hi, rfl⟩ := List.mem_iff_getElem.1 hf
  have := (isAt_of hs hi).2
  rw [e, h] at this
  cases this
/-- A file is put under its name. -/
theorem RC.stored {V V' : World} {g : Nat} {D : Dk} {F G : Nat → Prop} {mb : Nat} {fp : Option Addr} {es : List (Lit × DataW Empty)} {qs : List Cf} (h : RC V g D F mb fp es qs) (hd : D.dead = false) {c : Cf} {t : ByteArray} (hn : c.f.name = t)
    (hm : V'.ownsMap Try.prog 9 fE mb 21 ((DataW.map es).put (sk t) (.lit (.int .i64 (c.q : Int))))) (hk : ∀ k, F k → k ≠ mb → V'.heap[k]? = V.heap[k]?) (hFG : ∀ k, F k → G k) (hGl : ∀ k, G k → k < V'.heap.size)
    (hc : RCf V' G c) (hsep : ∀ c' ∈ qs, ∀ k, c.B k → ¬ c'.B k) (hok : ({ D with l := withF D.l c.f } : Dk).ok) : ∃ es' qs', RC V' g { D with l := withF D.l c.f } G mb fp es' qs' := by
  obtain ⟨a, ha⟩ : ∃ a, pos D.l t = a := ⟨_, rfl⟩
  obtain ⟨b, hb⟩ : ∃ b, a + (if isAt D.l t = true then 1 else 0) = b := ⟨_, rfl⟩
  have hab : a ≤ b := by omega
  have hW : withF D.l c.f = D.l.take a ++ c.f :: D.l.drop b := by unfold withF; rw [hn, ha, hb]
  have hsub : (qs.take a ++ qs.drop b).Sublist qs := by
    have e : qs = qs.take b ++ qs.drop b := (List.take_append_drop _ _).symm
    conv => rhs; rw [e]
    exact (List.take_sublist_take_left hab).append (List.Sublist.refl _)
  have hfil : (qs.map Cf.ent).filter (fun p => !p.1.sameKey (sk t)) = (qs.take a ++ qs.drop b).map Cf.ent := by
    cases hi : isAt D.l t with
    | true =>
      obtain ⟨hq, hqn, _⟩ := h.at_ ha hi
      rw [hi, if_pos rfl] at hb
      rw [← hb, ← hqn]
      exact strike_one hq h.names_ne
    | false =>
      rw [hi, if_neg (by decide), Nat.add_zero] at hb
      rw [← hb, List.take_append_drop]
      refine keep_all (fun x hx e => isAt_no h.ok.sorted hi x.f ?_ e)
      rw [← h.eq]
      exact List.mem_map.2 ⟨x, hx, rfl⟩
  have hperm : (DataW.insert (sk t, DataW.lit (.int .i64 (c.q : Int))) (es.filter (fun p => !p.1.sameKey (sk t)))).Perm ((qs.take a ++ c :: qs.drop b).map Cf.ent) := by
    refine (WideShapes.insert_perm _ _).trans ?_
    have h1 : (es.filter (fun p => !p.1.sameKey (sk t))).Perm ((qs.take a ++ qs.drop b).map Cf.ent) := by
      rw [← hfil]
      exact h.perm.filter _
    have h2 : ((qs.take a ++ c :: qs.drop b).map Cf.ent).Perm (c.ent :: (qs.take a ++ qs.drop b).map Cf.ent) := by
      rw [← List.map_cons]
      exact (List.perm_middle).map _
    have e : c.ent = (sk t, DataW.lit (.int .i64 (c.q : Int))) := by unfold Cf.ent; rw [hn]
    rw [e] at h2
    exact (h1.cons _).trans h2.symm
  have hmapf : (qs.take a ++ c :: qs.drop b).map Cf.f = withF D.l c.f := by
    rw [hW, List.map_append, List.map_cons, List.map_take, List.map_drop, h.eq]
  refine ⟨DataW.insert (sk t, DataW.lit (.int .i64 (c.q : Int))) (es.filter (fun p => !p.1.sameKey (sk t))), qs.take a ++ c :: qs.drop b, h.map' hd (ownsMap_tight hm ?_) hk hFG hGl hperm (fun x hx => ?_) ?_ hmapf hok⟩
  · rw [hperm.length_eq, List.length_map]
    have := hok.few
    have e := congrArg List.length hmapf
    rw [List.length_map] at e
    rw [e]
    exact this
  · rcases List.mem_append.1 hx with h1 | h1
    · have hx' := List.mem_of_mem_take h1
      have hr := h.each x hx'
      exact hr.on (fun k e => hk k (hr.sub k e) (h.notg hx' e).2) (fun k e => hFG k (hr.sub k e))
    · rcases List.mem_cons.1 h1 with rfl | h1
      · exact hc
      · have hx' := List.mem_of_mem_drop h1
        have hr := h.each x hx'
        exact hr.on (fun k e => hk k (hr.sub k e) (h.notg hx' e).2) (fun k e => hFG k (hr.sub k e))
  · have hp := h.sep.sublist hsub
    obtain ⟨p1, p2, p3⟩ := List.pairwise_append.1 hp
    refine List.pairwise_append.2 ⟨p1, List.pairwise_cons.2 ⟨fun x hx k e => hsep x (List.mem_of_mem_drop hx) k e, p2⟩, fun x hx y hy => ?_⟩
    rcases List.mem_cons.1 hy with rfl | hy
    · exact fun k e e2 => hsep x (List.mem_of_mem_take hx) k e2 e
    · exact p3 x hx y hy
set_option maxRecDepth 100000 in
set_option maxHeartbeats 8000000 in
theorem gRename1 (w : World) (bd bf bt bx g q : Nat) (nm t : ByteArray) (mb : Nat) (es : List (Lit × DataW Empty)) (hd : w.cell? ⟨bd, 0, none⟩ = some (pt g)) (hn : w.cell? ⟨bf, 0, none⟩ = some (.string nm)) (ht : w.cell? ⟨bt, 0, none⟩ = some (.string t)) (hx : w.cell? ⟨bx, 0, none⟩ = some (pt q)) (c0 : w.cell? ⟨g, 0, none⟩ = some (.map (some mb)))
    (hown : w.ownsMap Try.prog 9 fE mb 20 (.map es)) (hkey : keyOf Try.prog 9 (.string nm) = some (sk nm)) (hkt : keyOf Try.prog 9 (.string t) = some (sk t)) :
    Calls Try.prog 60 #[pt bd, pt bf, pt bx, pt bt] w fun e w' => e = .returned (.tuple #[]) ∧ ∃ w1, w1.ownsMap Try.prog 9 fE mb 20 (.map (es.filter (fun p => !p.1.sameKey (sk nm)))) ∧ w.grownBy w1 (some mb) ∧ w'.ownsMap Try.prog 9 fE mb 21 ((DataW.map (es.filter (fun p => !p.1.sameKey (sk nm)))).put (sk t) (.lit (.int .i64 (q : Int)))) ∧ w1.grownBy w' (some mb) := by
  obtain ⟨w1, hrun, ho1, ht1⟩ := (hown.drew).drop lawK Try.underlying65 hkey 0
  have hne : ∀ b u, w.cell? ⟨b, 0, none⟩ = some u → b ≠ mb := fun b u hb e => by
    obtain ⟨e0, cl, hm⟩ := ownsMap_blk hown
    subst e
    simp [World.cell?, hm] at hb
  have hk1 : ∀ b u, w.cell? ⟨b, 0, none⟩ = some u → w1.cell? ⟨b, 0, none⟩ = some u := fun b u hb => by
    have hlt : b < w.heap.size := World.block_lt_of_cell? w _ hb
    exact (World.cell?_of_block (a := ⟨b, 0, none⟩) (ht1.grown.block b hlt (fun e => hne b u hb (by injection e)))).trans hb
  have d1 := hk1 _ _ hd
  have d2 := hk1 _ _ hx
  have d3 := hk1 _ _ ht
  have d4 := hk1 _ _ c0
  obtain ⟨w2, hrun2, ho2, ht2⟩ := (ho1.drew).store lawK Try.underlying65 (by unfold maxLen; omega) hkt (fE_pt q)
  have HO := Lib.hid (And.intro ho1 ht1)
  have HO2 := Lib.hid (And.intro ho2 ht2)
  clear ho1 ht1 ho2 ht2 hown hkey hkt hne hk1
  go_enter Try.func60, Try.ntmps60
  go_wp2_with fail
  go_cut [] from 4 to 40 (fun wx => wx = w1)
  case first =>
    go_region_with (fail)
    all_goals (try go_wp2_with fail)
    all_goals go_meet
    all_goals rfl
  case rest =>
    subst hcut
    clear hd hn ht hx c0 hrun
    go_wp2_with fail
    go_region_with (fail)
    all_goals
      go_wp2_with fail
      first | go_end0 | (refine bodyPost_ret (results_none rfl _ _ _) rfl ?_)
      exact ⟨rfl, _, HO.out.1, grown_undrew HO.out.2.grown, HO2.out.1, grown_undrew HO2.out.2.grown⟩

theorem four_bel (w : World) (a b c d : Obj) : Below w.heap.size w ((((w.alloc a).alloc b).alloc c).alloc d) := (((two_bel w a b).alloc (by simp; omega) c).alloc (by simp; omega) d)
theorem new_at (w : World) (o : Obj) {n : Nat} (h : w.heap.size = n) : (w.alloc o).heap[n]? = some o := by
  subst h
  exact heap_alloc_new w o
theorem old_at (w : World) (o : Obj) {n : Nat} {x : Obj} (h : w.heap[n]? = some x) : (w.alloc o).heap[n]? = some x := ((Below.refl w.heap.size w).alloc (Nat.le_refl _) o).block n (Array.getElem?_eq_some_iff.1 h).1 |>.trans h
theorem four_get (w : World) (a b c d : Obj) : ((((w.alloc a).alloc b).alloc c).alloc d).heap[w.heap.size]? = some a ∧ ((((w.alloc a).alloc b).alloc c).alloc d).heap[w.heap.size + 1]? = some b ∧ ((((w.alloc a).alloc b).alloc c).alloc d).heap[w.heap.size + 1 + 1]? = some c ∧ ((((w.alloc a).alloc b).alloc c).alloc d).heap[w.heap.size + 1 + 1 + 1]? = some d :=
  ⟨old_at _ _ (old_at _ _ (old_at _ _ (new_at _ _ rfl))), old_at _ _ (old_at _ _ (new_at _ _ (by simp))), old_at _ _ (new_at _ _ (by simp)), new_at _ _ (by simp)⟩
set_option maxRecDepth 100000 in
set_option maxHeartbeats 8000000 in
theorem gRename (w : World) (g : Nat) (D : Dk) (F : Nat → Prop) (nm t : ByteArray) (h : RCk w g D F) :
    Calls Try.prog 31 #[pt g, .string nm, .string t] w fun e w' => e = .returned (.int .i64 (renE D nm t)) ∧ Turns RCk w g F (ren D nm t) w' := by
  obtain ⟨mb, fp, es, qs, h⟩ := h
  have H := Lib.hid h
  by_cases hn : nmE D nm = 0
  · obtain ⟨hd, hi⟩ := nmE_zero hn
    obtain ⟨p, hp⟩ : ∃ p, pos D.l nm = p := ⟨_, rfl⟩
    obtain ⟨hq, hqn, hfa, hdl, hde⟩ := h.at_ hp hi
    have FI := Lib.hid (fun V (hb : Below w.heap.size w V) => gFind_yes V g D F mb fp es qs (H.out.below hb) nm hp hn hq)
    have hbx := four_bel w (.cells #[pt g] 23) (.cells #[.string nm] 9) (.cells #[.string t] 9) (.cells #[pt qs[p].q] 71)
    have MY := Lib.hid (gMay ((((w.alloc (.cells #[pt g] 23)).alloc (.cells #[.string nm] 9)).alloc (.cells #[.string t] 9)).alloc (.cells #[pt qs[p].q] 71)) t)
    cases hmt : mayN t with
    | false =>
      have hE : renE D nm t = 70 := by unfold renE; rw [hn, if_pos rfl, if_pos hmt]
      have hC : ren D nm t = D := by unfold ren; rw [hn, if_pos rfl, if_pos hmt]
      rw [hE, hC]
      rw [hmt] at MY
      generalize qs[p].q = q at *
      clear h hn hE hC hfa hde hqn
      go_enter Try.func31, Try.ntmps31
      go_wp2_with (first
        | (go_at_call 53; refine (FI.out _ (by exact (two_bel _ _ _).alloc (by simp; omega) _)).mono ?_; rintro e w1 ⟨rfl, rfl⟩)
        | (go_at_call 49; refine MY.out.mono ?_; rintro e w1 ⟨rfl, rfl⟩))
      go_ret
      exact ⟨rfl, RCk.turn H.out hbx⟩
    | true =>
      have hmf : ¬ mayN t = false := by rw [hmt]; decide
      rw [hmt] at MY
      by_cases hl : D.left = 0
      · have hE : renE D nm t = 71 := by unfold renE workE; rw [hn, if_pos rfl, if_neg hmf, if_pos hl]
        have hC : ren D nm t = crash D D.keep := by unfold ren; rw [hn, if_pos rfl, if_neg hmf, work_yes hl]
        rw [hE, hC]
        have WK := Lib.hid (fun (v : Value) => gWork_yes _ g D F mb fp es qs (H.out.below hbx) hd hl v)
        generalize qs[p].q = q at *
        clear h hn hE hC hfa hde hqn
        go_enter Try.func31, Try.ntmps31
        go_wp2_with (first
          | (go_at_call 53; refine (FI.out _ (by exact (two_bel _ _ _).alloc (by simp; omega) _)).mono ?_; rintro e w1 ⟨rfl, rfl⟩)
          | (go_at_call 49; refine MY.out.mono ?_; rintro e w1 ⟨rfl, rfl⟩)
          | (go_at_call 51; refine (WK.out _).mono ?_; rintro e w2 ⟨rfl, ht⟩))
        go_ret
        exact ⟨rfl, Turns.new_ H.out.lt hbx ht⟩
      · have hE : renE D nm t = 0 := by unfold renE workE; rw [hn, if_pos rfl, if_neg hmf, if_neg hl]
        have hC : ren D nm t = { less D with l := withF ((less D).l.take p ++ (less D).l.drop (p + 1)) ⟨t, qs[p].f.bs, qs[p].f.mark⟩ } := by unfold ren; rw [hn, if_pos rfl, if_neg hmf, work_no hl, hfa]; unfold without; rw [hi, if_pos rfl, hp]; rfl
        have hwl : D.l.take p ++ D.l.drop (p + 1) = without D.l nm := by unfold without; rw [hi, if_pos rfl, hp]
        rw [hE, hC]
        have WK := Lib.hid (gWork_Rename ((((w.alloc (.cells #[pt g] 23)).alloc (.cells #[.string nm] 9)).alloc (.cells #[.string t] 9)).alloc (.cells #[pt qs[p].q] 71)) g D F mb fp es qs (h.below hbx) hd hl #[pt w.heap.size, pt (w.heap.size + 1), pt (w.heap.size + 1 + 1 + 1), pt (w.heap.size + 1 + 1)] (fun w' => Turns RCk w g F { less D with l := withF ((less D).l.take p ++ (less D).l.drop (p + 1)) ⟨t, qs[p].f.bs, qs[p].f.mark⟩ } w') (by
          intro V hR hs hG
          obtain ⟨m1, m2, m3, m4⟩ := four_get w (.cells #[pt g] 23) (.cells #[.string nm] 9) (.cells #[.string t] 9) (.cells #[pt qs[p].q] 71)
          have b1 := box_cell (box_kept h.lt hG (by omega) m1)
          have b2 := box_cell (box_kept h.lt hG (by omega) m2)
          have b3 := box_cell (box_kept h.lt hG (by omega) m3)
          have b4 := box_cell (box_kept h.lt hG (by omega) m4)
          have hk := hR.key hq
          rw [hqn] at hk
          have hkt : keyOf Try.prog 9 (.string t) = some (sk t) := WideMaps.keyOf_string_mk Try.underlying9 (by unfold mayN at hmt; have := of_decide_eq_true hmt; unfold maxLen; omega)
          refine (gRename1 V _ _ _ _ g qs[p].q nm t mb es b1 b2 b3 b4 hR.c0 hR.map hk hkt).mono ?_
          rintro e w' ⟨rfl, w1, hm1, hg1, hm2, hg2⟩
          have hr1 := hR.gone_ hd hq hqn hm1 hg1
          have hr := hR.cf hq
          have hsm := hR.small hq
          have hkk : ∀ k, F k → k ≠ mb → w'.heap[k]? = V.heap[k]? := fun k e hne => (hg2.block k (Nat.lt_of_lt_of_le (hR.lt k e) hg1.size) (fun e2 => hne (by injection e2))).trans (hg1.block k (hR.lt k e) (fun e2 => hne (by injection e2)))
          have hcf : RCf w' F ⟨⟨t, qs[p].f.bs, qs[p].f.mark⟩, qs[p].q, qs[p].v⟩ := by
            have hr' := hr.on (V' := w') (G := F) (fun k e => hkk k (hr.sub k e) (hR.notg (List.getElem_mem hq) e).2) hr.sub
            exact ⟨hr'.obj, hr'.own, hr'.sub⟩
          have hsub : ∀ c' ∈ qs.take p ++ qs.drop (p + 1), ∀ k, qs[p].B k → ¬ c'.B k := fun c' hc' k e => by
            rcases List.mem_append.1 hc' with h1 | h1
            · obtain ⟨j, hj, rfl⟩ := List.mem_iff_getElem.1 h1
              rw [List.length_take] at hj
              rw [List.getElem_take]
              exact hR.apart hq (by omega) (by omega) e
            · obtain ⟨j, hj, rfl⟩ := List.mem_iff_getElem.1 h1
              rw [List.length_drop] at hj
              rw [List.getElem_drop]
              exact hR.apart hq (by omega) (by omega) e
          have hok : ({ ({ less D with l := (less D).l.take p ++ (less D).l.drop (p + 1) } : Dk) with l := withF ((less D).l.take p ++ (less D).l.drop (p + 1)) ⟨t, qs[p].f.bs, qs[p].f.mark⟩ } : Dk).ok :=
            ok_with (f := ⟨t, qs[p].f.bs, qs[p].f.mark⟩) hr1.ok hsm.1 (.inr (by
              show (D.l.take p ++ D.l.drop (p + 1)).length < 20
              rw [hwl]
              have := without_len hi
              have := h.ok.few
              omega)) (by
              have h1 := without_sum hi
              rw [hfa] at h1
              have := h.ok.sum
              show sum (D.l.take p ++ D.l.drop (p + 1)) + qs[p].f.bs.length ≤ 4194304 + _
              rw [hwl]
              omega)
          obtain ⟨es2, qs2, hr2⟩ := hr1.stored (V' := w') (G := F) (c := ⟨⟨t, qs[p].f.bs, qs[p].f.mark⟩, qs[p].q, qs[p].v⟩) hd rfl hm2 (fun k e hne => hg2.block k (Nat.lt_of_lt_of_le (hR.lt k e) hg1.size) (fun e2 => hne (by injection e2))) (fun _ e => e) (fun k e => Nat.lt_of_lt_of_le (hR.lt k e) (Nat.le_trans hg1.size hg2.size)) hcf hsub hok
          exact ⟨rfl, hr2.ends (fun k e => .inl e) (Grow.of_new hbx ((hG.mp h.fm hg1).mp h.fm hg2)) h.lt⟩))
        generalize (⟨t, qs[p].f.bs, qs[p].f.mark⟩ : Fl) = f at *
        generalize qs[p].q = q at *
        clear h hn hE hC hfa hde hqn hwl
        go_enter Try.func31, Try.ntmps31
        go_wp2_with (first
          | (go_at_call 53; refine (FI.out _ (by exact (two_bel _ _ _).alloc (by simp; omega) _)).mono ?_; rintro e w1 ⟨rfl, rfl⟩)
          | (go_at_call 49; refine MY.out.mono ?_; rintro e w1 ⟨rfl, rfl⟩)
          | (go_at_call 51; refine WK.out.mono ?_; rintro e w2 ⟨rfl, ht⟩))
        go_ret
        exact ⟨rfl, ht⟩
  · have FI := Lib.hid (fun V (hb : Below w.heap.size w V) => gFind_no V g D F mb fp es qs (H.out.below hb) nm hn)
    have hE : renE D nm t = nmE D nm := by unfold renE; rw [if_neg hn]
    have hC : ren D nm t = D := by unfold ren; rw [if_neg hn]
    rw [hE, hC]
    have hne : (nmE D nm == 0) = false := by simpa using hn
    generalize nmE D nm = E at *
    clear h hn hE hC
    go_enter Try.func31, Try.ntmps31
    go_wp2_with (first
      | (go_at_call 53; refine (FI.out _ (by exact (two_bel _ _ _).alloc (by simp; omega) _)).mono ?_; rintro e w1 ⟨rfl, rfl⟩))
    go_ret
    exact ⟨rfl, RCk.turn H.out (by exact four_bel _ _ _ _ _)⟩
end Go.Proofs.Ytkhalpajomammaa
