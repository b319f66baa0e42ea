/-
  Layer 7: the landed disk: Sync.
-/
import Derived.Test.YtkhalpajomammaaGWork
set_option linter.unusedVariables false
namespace Go.Proofs.Ytkhalpajomammaa
open Go.RowKit Go.Maps

section
variable {V : World} {g : Nat} {D : Dk} {F : Nat → Prop} {mb : Nat} {fp : Option Addr} {es : List (Lit × DataW Empty)} {qs : List Cf}
theorem RC.cf (h : RC V g D F mb fp es qs) {j : Nat} (hj : j < qs.length) : RCf V F qs[j] := h.each _ (List.getElem_mem hj)
theorem RC.fzq (h : RC V g D F mb fp es qs) {j : Nat} (hj : j < qs.length) (i : Nat) : V.frozen? ⟨qs[j].q, i, none⟩ = false := by
  have ho := (h.cf hj).obj
  simp [World.frozen?, ho]
theorem RC.small (h : RC V g D F mb fp es qs) {j : Nat} (hj : j < qs.length) : qs[j].f.mark ≤ qs[j].f.bs.length ∧ qs[j].f.bs.length ≤ 4194304 := by
  have hl : j < D.l.length := by rw [← h.len]; exact hj
  have hm := h.ok.marks _ (List.getElem_mem hl)
  have h1 := sum_take_succ D.l j hl
  have h2 := sum_take_le D.l (j + 1)
  have h3 := h.ok.sum
  rw [h.get hj] at hm h1
  exact ⟨hm, by omega⟩
end
theorem nmE_zero {D : Dk} {s : ByteArray} (h : nmE D s = 0) : D.dead = false ∧ isAt D.l s = true := by
  unfold nmE at h
  cases hd : D.dead with
  | true => rw [hd, if_pos rfl] at h; exact absurd h (by decide)
  | false =>
    rw [hd, if_neg (by decide)] at h
    cases hi : isAt D.l s with
    | true => exact ⟨rfl, rfl⟩
    | false => rw [hi, if_pos rfl] at h; exact absurd h (by decide)
theorem nmE_ne {D : Dk} {s : ByteArray} (h : nmE D s ≠ 0) : decide (nmE D s = 0) = false := decide_eq_false h

set_option maxRecDepth 100000 in
set_option maxHeartbeats 4000000 in
theorem gSync1 (w : World) (bx q : Nat) (A : Option Addr) (L cap : Nat) (hb : w.cell? ⟨bx, 0, none⟩ = some (pt q)) (c0 : w.cell? ⟨q, 0, none⟩ = some (.slice A L cap)) (c1 : ∃ u, w.cell? ⟨q, 1, none⟩ = some u) (z : ∀ i, w.frozen? ⟨q, i, none⟩ = false) :
    Calls Try.prog 54 #[pt bx] w fun e w' => e = .returned (.tuple #[]) ∧ ∃ n, w' = (w.setCell ⟨q, 1, none⟩ (.int .i64 (L : Int))).drewN n := by
  obtain ⟨u, c1⟩ := c1
  have z1 := z 1
  go_enter Try.func54, Try.ntmps54
  go_wp2_with fail
  go_region_with (fail)
  all_goals
    go_wp2_with fail
    first | go_end0 | (refine bodyPost_ret (results_none rfl _ _ _) rfl ?_)
    first | exact ⟨rfl, 0, rfl⟩ | exact ⟨rfl, 1, rfl⟩ | exact ⟨rfl, 2, rfl⟩

theorem Grow.of_new {F : Nat → Prop} {w V V' : World} (h : Below w.heap.size w V) (h2 : Grow F V V') : Grow F w V' := (Grow.of_below h).trans (h2.mono (fun _ e => .inl e))
theorem RCk.turn {w V : World} {g : Nat} {D : Dk} {F : Nat → Prop} {mb : Nat} {fp : Option Addr} {es : List (Lit × DataW Empty)} {qs : List Cf} (h : RC w g D F mb fp es qs) (hb : Below w.heap.size w V) : Turns RCk w g F D V :=
  (h.below hb).ends (fun k e => .inl e) (Grow.of_below hb) h.lt
theorem Turns.new_ {w V V' : World} {g : Nat} {D : Dk} {F : Nat → Prop} (hl : ∀ k, F k → k < w.heap.size) (h : Below w.heap.size w V) (h2 : Turns RCk V g F D V') : Turns RCk w g F D V' := by
  obtain ⟨⟨mb, fp, es, qs, hR⟩, hG⟩ := h2
  refine ⟨⟨mb, fp, es, qs, hR.mono (fun k e => ?_) (fun k e => ?_)⟩, Grow.of_new h hG⟩
  · rcases e with e | e
    · exact .inl e
    · exact .inr ⟨Nat.le_trans h.size e.1, e.2⟩
  · rcases e with e | e
    · exact Nat.lt_of_lt_of_le (hl k e) (Nat.le_trans h.size hG.size)
    · exact e.2
theorem box_kept {w W V : World} {F : Nat → Prop} (hl : ∀ k, F k → k < w.heap.size) (hG : Grow F W V) {b : Nat} {o : Obj} (hb : w.heap.size ≤ b) (hc : W.heap[b]? = some o) : V.heap[b]? = some o :=
  (hG.block b (Array.getElem?_eq_some_iff.1 hc).1 (fun e => by have := hl b e; omega)).trans hc
theorem box_cell {V : World} {b : Nat} {u : Value} {t : TypeId} (h : V.heap[b]? = some (.cells #[u] t (0, 0))) : V.cell? ⟨b, 0, none⟩ = some u := cell_of_row V b 0 _ _ (0, 0) h
theorem less_eq (D : Dk) : (less D).l = D.l ∧ (less D).dead = D.dead ∧ (less D).keep = D.keep := ⟨rfl, rfl, rfl⟩
/-- A file's cells are written where they lie. -/
theorem RC.cells' {V V' : World} {g : Nat} {D : Dk} {F : Nat → Prop} {mb : Nat} {fp : Option Addr} {es : List (Lit × DataW Empty)} {qs : List Cf} (h : RC V g D F mb fp es qs) {i : Nat} (hi : i < qs.length) {f : Fl} {v : Value} (hn : f.name = qs[i].f.name)
    (hs : V'.heap.size = V.heap.size) (hk : ∀ x, x ≠ qs[i].q → V'.heap[x]? = V.heap[x]?) (hobj : V'.heap[qs[i].q]? = some (.cells #[v, .int .i64 (f.mark : Int)] 76 (0, 0))) (hown : Own V 0 v f.bs) (hov : ∀ x, v.ownBlock = some x → qs[i].v.ownBlock = some x)
    (hm : f.mark ≤ f.bs.length) (hd : D.dead = false) (hb : f.bs.length ≤ qs[i].f.bs.length) : RC V' g { D with l := D.l.set i f } F mb fp es (qs.set i ⟨f, qs[i].q, v⟩) := by
  have hr := h.cf hi
  have hownq : ∀ x, qs[i].v.ownBlock = some x → x ≠ qs[i].q := fun x e ex => by
    rcases hr.own.2 with ⟨e2, _⟩ | ⟨y, c2, cur, e2, _, hh, _⟩
    · rw [e2] at e
      cases e
    · rw [e2] at e
      have e' : some y = some x := e
      injection e' with e'
      subst e'
      rw [ex, hr.obj] at hh
      injection hh with hh
      injection hh with _ hh _
      exact absurd hh (by decide)
  exact h.put (c := ⟨f, qs[i].q, v⟩) hi rfl hn (fun _ e => e) (fun x e => by rw [hs]; exact h.lt x e) (fun x _ hx => hk x (fun e => hx (.inl e)))
    ⟨hobj, hown.onS (fun x e => hk x (hownq x (hov x e))), fun x e => hr.sub x (by rcases e with e | e; exact .inl e; exact .inr (hov x e))⟩ (fun x e => .inl (hov x e)) (fun e => by rw [hd] at e; cases e)
    (ok_set h.ok (by rw [← h.len]; exact hi) (by rw [h.get hi]; exact hn) hm (by
      have h3 := h.ok.sum
      rw [h.get hi]
      show _ + f.bs.length ≤ _
      omega))
set_option maxRecDepth 100000 in
set_option maxHeartbeats 8000000 in
theorem gSync (w : World) (g : Nat) (D : Dk) (F : Nat → Prop) (nm : ByteArray) (h : RCk w g D F) :
    Calls Try.prog 21 #[pt g, .string nm] w fun e w' => e = .returned (.int .i64 (synE D nm)) ∧ Turns RCk w g F (syn D nm) w' := by
  obtain ⟨mb, fp, es, qs, h⟩ := h
  have H := Lib.hid h
  by_cases hn : nmE D nm = 0
  · obtain ⟨hd, hi⟩ := nmE_zero hn
    obtain ⟨p, hp⟩ : ∃ p, pos D.l nm = p := ⟨_, rfl⟩
    obtain ⟨hq, hqn, hfa, hdl, hde⟩ := h.at_ hp hi
    have FI := Lib.hid (gFind_yes w g D F mb fp es qs h nm hp hn hq)
    by_cases hl : D.left = 0
    · have hE : synE D nm = 71 := by unfold synE workE; rw [hn, if_pos rfl, if_pos hl]
      have hC : syn D nm = crash D D.keep := by unfold syn; rw [hn, if_pos rfl, work_yes hl]
      rw [hE, hC]
      have WK := Lib.hid (fun V (hb : Below w.heap.size w V) (v : Value) => gWork_yes V g D F mb fp es qs (H.out.below hb) hd hl v)
      generalize qs[p].q = q at *
      clear h hn hE hC hfa hde hqn
      go_enter Try.func21, Try.ntmps21
      go_wp2_with (first
        | (go_at_call 53; refine FI.out.mono ?_; rintro e w1 ⟨rfl, rfl⟩)
        | (go_at_call 51; refine (WK.out _ ((Below.refl _ _).alloc (Nat.le_refl _) _) _).mono ?_; rintro e w2 ⟨rfl, ht⟩))
      go_ret
      exact ⟨rfl, Turns.new_ H.out.lt ((Below.refl _ _).alloc (Nat.le_refl _) _) ht⟩
    · have hE : synE D nm = 0 := by unfold synE workE; rw [hn, if_pos rfl, if_neg hl]
      have hC : syn D nm = { less D with l := (less D).l.set p ⟨nm, qs[p].f.bs, qs[p].f.bs.length⟩ } := by unfold syn; rw [hn, if_pos rfl, work_no hl]; unfold setAt; rw [hp, hfa]; rfl
      rw [hE, hC]
      have WK := Lib.hid (gWork_Sync (w.alloc (.cells #[pt qs[p].q] 71)) g D F mb fp es qs (h.below ((Below.refl _ _).alloc (Nat.le_refl _) _)) hd hl #[pt w.heap.size] (fun w' => Turns RCk w g F { less D with l := (less D).l.set p ⟨nm, qs[p].f.bs, qs[p].f.bs.length⟩ } w') (by
        intro V hR hs hG
        obtain ⟨A, cap, hv, d0, d1, _⟩ := hR.file hq
        have hbox := box_cell (box_kept h.lt hG (Nat.le_refl _) (heap_alloc_new w (.cells #[pt qs[p].q] 71)))
        refine (gSync1 V w.heap.size qs[p].q A _ cap hbox d0 ⟨_, d1⟩ (hR.fzq hq)).mono ?_
        rintro e w' ⟨rfl, m, rfl⟩
        have hr := hR.cf hq
        have ho := hr.obj
        have hR2 := hR.cells' (V' := (V.setCell ⟨qs[p].q, 1, none⟩ (.int .i64 (qs[p].f.bs.length : Int))).drewN m) hq (f := ⟨nm, qs[p].f.bs, qs[p].f.bs.length⟩) (v := qs[p].v) hqn.symm (set_size _ _ _) (fun x hx => set_blk _ _ _ _ hx)
          (by show (V.setCell ⟨qs[p].q, 1, none⟩ (.int .i64 (qs[p].f.bs.length : Int))).heap[qs[p].q]? = _; simp [World.setCell, Array.getElem?_modify, ho]) hr.own (fun _ e => e) (Nat.le_refl _) hd (Nat.le_refl _)
        exact ⟨rfl, hR2.ends (fun k e => .inl e) (Grow.of_new ((Below.refl _ _).alloc (Nat.le_refl _) _) ((hG.set (p := ⟨qs[p].q, 1, none⟩) (.inl (hr.sub _ (.inl rfl))) _).drewN m)) h.lt⟩))
      generalize (⟨nm, qs[p].f.bs, qs[p].f.bs.length⟩ : Fl) = f at *
      generalize qs[p].q = q at *
      clear h hn hE hC hfa hde hqn
      go_enter Try.func21, Try.ntmps21
      go_wp2_with (first
        | (go_at_call 53; refine FI.out.mono ?_; rintro e w1 ⟨rfl, rfl⟩)
        | (go_at_call 51; refine WK.out.mono ?_; rintro e w2 ⟨rfl, ht⟩))
      go_ret
      exact ⟨rfl, ht⟩
  · have FI := Lib.hid (fun V (hb : Below w.heap.size w V) => gFind_no V g D F mb fp es qs (H.out.below hb) nm hn)
    have hE : synE D nm = nmE D nm := by unfold synE; rw [if_neg hn]
    have hC : syn D nm = D := by unfold syn; rw [if_neg hn]
    rw [hE, hC]
    have hne : (nmE D nm == 0) = false := by simpa using hn
    generalize nmE D nm = E at *
    clear h hn hE hC
    go_enter Try.func21, Try.ntmps21
    go_wp2_with (first
      | (go_at_call 53; refine (FI.out _ (by first | exact Below.refl _ _ | exact (Below.refl _ _).alloc (Nat.le_refl _) _)).mono ?_; rintro e w1 ⟨rfl, rfl⟩))
    go_ret
    exact ⟨rfl, RCk.turn H.out (by first | exact (Below.refl _ _).alloc (Nat.le_refl _) _)⟩
end Go.Proofs.Ytkhalpajomammaa
