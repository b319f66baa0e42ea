/-
  Layer 7: the landed disk: New, Boot, Dead, Read, Size, Names, Crash.
-/
import Derived.Test.YtmjoaeljfhgojaaGRen
set_option linter.unusedVariables false
namespace Go.Proofs.Ytmjoaeljfhgojaa
open Go.RowKit Go.Maps

set_option maxRecDepth 100000 in
theorem gNew (w : World) : Calls Try.prog 9 #[] w fun e w' => ∃ g, e = .returned (pt g) ∧ w.heap.size ≤ g ∧ RCk w' g dk0 (newF w w') ∧ Below w.heap.size w w' := by
  have hmm := @run_makeMap Try.prog
  go_enter Try.func9, Try.ntmps9
  go_wp2_with fail
  go_ret
  have hmap : ((w.alloc (.map #[] 0)).alloc (.cells #[.map (some w.heap.size), .bool false, .pointer none] 68)).ownsMap Try.prog 9 fE w.heap.size 20 (.map []) := ((World.ownsMap_made w Try.prog 9 fE).mono (by omega)).alloc _
  have hsz : ((w.alloc (.map #[] 0)).alloc (.cells #[.map (some w.heap.size), .bool false, .pointer none] 68)).heap.size = w.heap.size + 1 + 1 := by simp
  refine ⟨w.heap.size + 1, rfl, by omega, ⟨w.heap.size, none, [], [], ⟨new_at _ _ (by simp), rfl, hmap, List.Perm.refl _, fun c hc => (nomatch hc), List.Pairwise.nil, fun _ => .inl ⟨by show (-1 : Int) < 0; omega, rfl⟩, fun e => (nomatch e), ⟨by omega, by omega⟩, ⟨by omega, by omega⟩, fun k e => e.2,
    ⟨List.Pairwise.nil, fun f hf => (nomatch hf), by simp [dk0], by simp [dk0, sum], by simp [dk0], by simp [dk0]⟩⟩⟩, ((Below.refl _ _).alloc (Nat.le_refl _) _).alloc (by simp) _⟩
set_option maxRecDepth 100000 in
theorem gBoot (w : World) (g : Nat) (D : Dk) (F : Nat → Prop) (h : RCk w g D F) : Calls Try.prog 24 #[pt g] w fun e w' => e = .returned (.tuple #[]) ∧ Turns RCk w g F (boot D) w' := by
  obtain ⟨mb, fp, es, qs, h⟩ := h
  have N := gNone w g D F mb fp es qs h
  have c1 := h.c1
  have c2 := h.c2
  have z1 := h.fz 1
  have z2 := h.fz 2
  have H := Lib.hid h
  clear h
  go_enter Try.func24, Try.ntmps24
  go_wp2_with (first | (go_at_call 44; refine N.mono ?_; rintro e w1 ⟨rfl, rfl⟩))
  first | go_end0 | (refine bodyPost_ret (results_none rfl _ _ _) rfl ?_)
  have hO := H.out.ok
  have ho := H.out.obj
  have hR := H.out.obj' (V' := (w1.setCell ⟨g, 1, none⟩ (.bool false)).setCell ⟨g, 2, none⟩ (.pointer none)) (D' := boot D) (fp' := none) rfl (by simp [World.setCell, Array.getElem?_modify, ho]; rfl) (fun x _ hx _ => (set_blk _ _ _ _ hx).trans (set_blk _ _ _ _ hx)) (fun _ e => e) (fun x e => by rw [set_size, set_size]; exact H.out.lt x e)
    (fun _ => .inl ⟨by show (-1 : Int) < 0; omega, rfl⟩) (fun e => (nomatch e)) ⟨hO.sorted, hO.marks, hO.few, hO.sum, by show (-1 : Int) ≤ -1; omega, by show (-1 : Int) ≤ _; omega⟩
  exact ⟨rfl, hR.ends (fun k e => .inl e) (((Grow.refl _ _).set (p := ⟨g, 1, none⟩) (.inl H.out.fg) _).set (p := ⟨g, 2, none⟩) (.inl H.out.fg) _) H.out.lt⟩
set_option maxRecDepth 100000 in
theorem gDead (w : World) (g : Nat) (D : Dk) (F : Nat → Prop) (h : RCk w g D F) : Calls Try.prog 15 #[pt g] w fun e w' => e = .returned (.bool D.dead) ∧ Below w.heap.size w w' := by
  obtain ⟨mb, fp, es, qs, h⟩ := h
  have N := gNone w g D F mb fp es qs h
  have c1 := h.c1
  clear h
  go_enter Try.func15, Try.ntmps15
  go_wp2_with (first | (go_at_call 44; refine N.mono ?_; rintro e w1 ⟨rfl, rfl⟩))
  go_ret
  exact ⟨rfl, Below.refl _ _⟩

/-! ### slices.Clone -/
theorem eqIn_sn {P : Program} (w : World) (d : Nat) (t e : TypeId) (a : Option Addr) (n c : Nat) (h : P.underlying t = some (.slice e)) : (Op.equalIn (d + 1) t (.slice a n c) (.slice none 0 0)).run P w = .ok a.isNone w := by
  cases a <;> simp [Op.equalIn, run_underlying h]
theorem eq_sn {P : Program} (w : World) (t e : TypeId) (a : Option Addr) (n c : Nat) (h : P.underlying t = some (.slice e)) : (binOp .eql t (.slice a n c) (.slice none 0 0)).run P w = .ok (.bool a.isNone) w := by
  simp only [binOp]
  simp [Op.equal, Op.maxDepth, eqIn_sn w 9999 t e a n c h]
set_option maxRecDepth 100000 in
set_option maxHeartbeats 1000000 in
theorem cloneB (A : Option Addr) (n c : Nat) (xs : List UInt8) (w : World) (hx : At w A n xs) (hn : n ≤ 225000000000000) :
    Calls Try.prog 56 #[.slice A n c] w fun e w' => ∃ v, e = .returned v ∧ NewBytes w w' v xs ∧ Below w.heap.size w w' := by
  have hl := hx.1
  have qT : ∀ (w : World) (a : Option Addr) (n c : Nat), (binOp .eql 27 (.slice a n c) (.slice none 0 0)).run Try.prog w = .ok (.bool a.isNone) w := fun w a n c => eq_sn w _ _ a n c Try.underlying27
  cases A with
  | none =>
    have h0 : xs = [] := by
      rcases Nat.eq_zero_or_pos n with h | h
      · exact List.eq_nil_of_length_eq_zero (by omega)
      · obtain ⟨b, o, e, _⟩ := hx.2 h
        cases e
    subst h0
    clear hx
    go_enter Try.func56, Try.ntmps56
    go_wp2_with fail
    go_ret
    exact ⟨_, rfl, NewBytes.nil _ _, Below.refl _ _⟩
  | some a =>
    have HX := Lib.hid (fun o => (hx.alloc o))
    have hr : (w.alloc (.cells #[] 5)).ownsRow w.heap.size 5 1 (.slice (some ⟨w.heap.size, 0, none⟩) 0 0) 0 (([] : List UInt8).map bv) := World.ownsRow_lit w #[] 0 (Nat.le_refl _) (by decide) rfl
    have HR := Lib.hid hr
    clear hx hr
    go_enter Try.func56, Try.ntmps56
    go_wp2_with (first
      | (at_builtin; refine wpList_app rfl _ _ 27 rfl w.heap.size 5 Try.underlying27 info5 (.slice (some ⟨w.heap.size, 0, none⟩) 0 0) 0 [] xs rfl HR.out (some a) n c rfl (HX.out _) (by omega) (by simp) ?_; intro v' w' h1 h2 h3; have HH := Lib.hid (And.intro h1 h2); clear h1 h2 h3))
    go_ret
    have h1 := HH.out.1
    rw [Nat.zero_add, List.nil_append] at h1
    have h2 := HH.out.2
    refine ⟨_, rfl, by unfold NewBytes Own; rw [hl]; exact h1, ?_⟩
    refine ((Below.refl w.heap.size w).alloc (Nat.le_refl _) (.cells #[] 5)).trans ⟨h2.os, h2.tape, h2.output, h2.size, fun k hk => h2.block k (by simp; omega) (fun e => ?_)⟩
    injection e with e
    simp only at e
    omega
set_option maxRecDepth 100000 in
set_option maxHeartbeats 1000000 in
theorem cloneI (A : Option Addr) (n c : Nat) (xs : List Int) (w : World) (hx : IAt w A n xs) (hn : n ≤ 17592186044416) :
    Calls Try.prog 59 #[.slice A n c] w fun e w' => ∃ v, e = .returned v ∧ OwnI w' w.heap.size v xs ∧ Below w.heap.size w w' := by
  have hl := hx.1
  have qT : ∀ (w : World) (a : Option Addr) (n c : Nat), (binOp .eql 28 (.slice a n c) (.slice none 0 0)).run Try.prog w = .ok (.bool a.isNone) w := fun w a n c => eq_sn w _ _ a n c Try.underlying28
  cases A with
  | none =>
    have h0 : xs = [] := by
      rcases Nat.eq_zero_or_pos n with h | h
      · exact List.eq_nil_of_length_eq_zero (by omega)
      · obtain ⟨b, o, e, _⟩ := hx.2 h
        cases e
    subst h0
    clear hx
    go_enter Try.func59, Try.ntmps59
    go_wp2_with fail
    go_ret
    exact ⟨_, rfl, World.ownsRow_nil _ _ _ _, Below.refl _ _⟩
  | some a =>
    obtain ⟨i, hi, hz, hsz, hby⟩ := info_parts infoI
    have HX : Hid (∀ j u, (xs.map (Value.int .i64))[j]? = some u → (w.alloc (.cells #[] 3)).cell? (a.add j) = some u) := Lib.hid (fun j u hj => by
      have hj2 : j < xs.length := by simpa using (List.getElem?_eq_some_iff.1 hj).1
      obtain ⟨b, o, e, hc⟩ := hx.2 (by omega)
      injection e with e
      subst e
      rw [Go.WideShapes.add_plain]
      have h1 := hc j hj2
      rw [World.cell?_alloc_lt w _ _ (World.block_lt_of_cell? w _ h1), h1, ← hj]
      simp [List.getElem?_eq_getElem hj2])
    have HO := Lib.hid (show ∀ u ∈ xs.map (Value.int .i64), u.oneCell' = true from fun u hu => by obtain ⟨z, _, rfl⟩ := List.mem_map.1 hu; rfl)
    have HLL := Lib.hid (show (xs.map (Value.int .i64)).length = n * 1 by simp [hl])
    have hr : (w.alloc (.cells #[] 3)).ownsRow w.heap.size 3 1 (.slice (some ⟨w.heap.size, 0, none⟩) 0 0) 0 [] := World.ownsRow_lit w #[] 0 (Nat.le_refl _) (by decide) rfl
    have HR := Lib.hid hr
    have hm : 0 + n ≤ maxLen := by unfold maxLen; omega
    clear hx hr
    go_enter Try.func59, Try.ntmps59
    go_wp2_with (first
      | (at_builtin; refine wpList_append_own _ rfl _ _ 28 rfl w.heap.size 3 i (.int .i64 0) 1 8 Try.underlying28 hi hz hsz hby rfl (by decide) (.slice (some ⟨w.heap.size, 0, none⟩) 0 0) 0 [] rfl HR.out a n c (xs.map (Value.int .i64)) rfl HLL.out HX.out HO.out hm (by omega) (by simp) ?_; intro v' w' h1 h2 h3; have HH := Lib.hid (And.intro h1 h2); clear h1 h2 h3))
    go_ret
    have h1 := HH.out.1
    rw [Nat.zero_add, List.nil_append] at h1
    have h2 := HH.out.2
    refine ⟨_, rfl, by unfold OwnI; rw [hl]; exact h1, ?_⟩
    refine ((Below.refl w.heap.size w).alloc (Nat.le_refl _) (.cells #[] 3)).trans ⟨h2.os, h2.tape, h2.output, h2.size, fun k hk => h2.block k (by simp; omega) (fun e => ?_)⟩
    injection e with e
    simp only at e
    omega

/-! ### Read, Size, Names, Crash -/
set_option maxRecDepth 100000 in
set_option maxHeartbeats 1000000 in
theorem gRead (w : World) (g : Nat) (D : Dk) (F : Nat → Prop) (nm : ByteArray) (h : RCk w g D F) : Calls Try.prog 25 #[pt g, .string nm] w fun e w' => ∃ v, e = .returned (.tuple #[v, .int .i64 (rdE D nm)]) ∧ NewBytes w w' v (rdB D nm) ∧ Below w.heap.size w w' := by
  obtain ⟨mb, fp, es, qs, h⟩ := h
  by_cases hn : nmE D nm = 0
  · obtain ⟨hd, hi⟩ := nmE_zero hn
    obtain ⟨p, hp⟩ : ∃ p, pos D.l nm = p := ⟨_, rfl⟩
    obtain ⟨hq, hqn, hfa, hdl, hde⟩ := h.at_ hp hi
    have FI := Lib.hid (gFind_yes w g D F mb fp es qs h nm hp hn hq)
    obtain ⟨A, cap, hv, d0, d1, hat, _⟩ := h.file hq
    have CL := Lib.hid (cloneB A qs[p].f.bs.length cap qs[p].f.bs w hat (by have := (h.small hq).2; omega))
    have hE : rdE D nm = 0 := hn
    have hB : rdB D nm = qs[p].f.bs := by unfold rdB; rw [hn, if_pos rfl, hfa]
    rw [hE, hB]
    generalize qs[p].f.bs = bs at *
    generalize qs[p].q = q at *
    clear h hn hE hB hde hfa hqn hat hv
    go_enter Try.func25, Try.ntmps25
    go_wp2_with (first
      | (go_at_call 53; refine FI.out.mono ?_; rintro e w1 ⟨rfl, rfl⟩)
      | (go_at_call 56; refine CL.out.mono ?_; rintro e w2 ⟨v, rfl, hv, hb⟩))
    go_ret2
    exact ⟨_, rfl, hv, hb⟩
  · have FI := Lib.hid (gFind_no w g D F mb fp es qs h nm hn)
    have hE : rdE D nm = nmE D nm := rfl
    have hB : rdB D nm = [] := by unfold rdB; rw [if_neg hn]
    rw [hE, hB]
    have hne : (nmE D nm == 0) = false := by simpa using hn
    generalize nmE D nm = E at *
    clear h hn hE hB
    go_enter Try.func25, Try.ntmps25
    go_wp2_with (first
      | (go_at_call 53; refine FI.out.mono ?_; rintro e w1 ⟨rfl, rfl⟩))
    go_ret2
    exact ⟨_, rfl, NewBytes.nil _ _, Below.refl _ _⟩
set_option maxRecDepth 100000 in
set_option maxHeartbeats 1000000 in
theorem gSize (w : World) (g : Nat) (D : Dk) (F : Nat → Prop) (nm : ByteArray) (h : RCk w g D F) : Calls Try.prog 26 #[pt g, .string nm] w fun e w' => e = .returned (.tuple #[.int .i64 ((rdB D nm).length : Nat), .int .i64 (rdE D nm)]) ∧ Below w.heap.size w w' := by
  obtain ⟨mb, fp, es, qs, h⟩ := h
  by_cases hn : nmE D nm = 0
  · obtain ⟨hd, hi⟩ := nmE_zero hn
    obtain ⟨p, hp⟩ : ∃ p, pos D.l nm = p := ⟨_, rfl⟩
    obtain ⟨hq, hqn, hfa, hdl, hde⟩ := h.at_ hp hi
    have FI := Lib.hid (gFind_yes w g D F mb fp es qs h nm hp hn hq)
    obtain ⟨A, cap, hv, d0, d1, hat, _⟩ := h.file hq
    have hE : rdE D nm = 0 := hn
    have hB : rdB D nm = qs[p].f.bs := by unfold rdB; rw [hn, if_pos rfl, hfa]
    rw [hE, hB]
    generalize qs[p].f.bs.length = L at *
    generalize qs[p].q = q at *
    clear h hn hE hB hde hfa hqn hat hv
    go_enter Try.func26, Try.ntmps26
    go_wp2_with (first
      | (go_at_call 53; refine FI.out.mono ?_; rintro e w1 ⟨rfl, rfl⟩))
    go_ret2
    exact ⟨rfl, Below.refl _ _⟩
  · have FI := Lib.hid (gFind_no w g D F mb fp es qs h nm hn)
    have hE : rdE D nm = nmE D nm := rfl
    have hB : rdB D nm = [] := by unfold rdB; rw [if_neg hn]
    rw [hE, hB]
    have hne : (nmE D nm == 0) = false := by simpa using hn
    generalize nmE D nm = E at *
    clear h hn hE hB
    go_enter Try.func26, Try.ntmps26
    go_wp2_with (first
      | (go_at_call 53; refine FI.out.mono ?_; rintro e w1 ⟨rfl, rfl⟩))
    go_ret2
    exact ⟨rfl, Below.refl _ _⟩
set_option maxRecDepth 100000 in
set_option maxHeartbeats 1000000 in
theorem gNamesP (w : World) (g : Nat) (D : Dk) (F : Nat → Prop) (h : RCk w g D F) : Calls Try.prog 27 #[pt g] w fun e w' => ∃ A c, e = .returned (.slice A (nms D).length c) ∧ TAt w' A (nms D).length (nms D) ∧ (nms D).length ≤ c ∧ c ≤ 9223372036854775807 ∧ Below w.heap.size w w' := by
  obtain ⟨mb, fp, es, qs, h⟩ := h
  have CK := Lib.hid (gCheck w g D F mb fp es qs h)
  cases hd : D.dead with
  | true =>
    rw [hd] at CK
    have hN : nms D = [] := by unfold nms; rw [hd]; rfl
    rw [hN]
    clear h
    go_enter Try.func27, Try.ntmps27
    go_wp2_with (first
      | (go_at_call 48; refine CK.out.mono ?_; rintro e w1 ⟨rfl, rfl⟩))
    go_ret
    exact ⟨none, 0, rfl, ⟨rfl, fun h0 => absurd h0 (by simp)⟩, by simp, by omega, Below.refl _ _⟩
  | false =>
    rw [hd] at CK
    have hN : nms D = D.l.map Fl.name := by unfold nms; rw [hd]; rfl
    have NM := Lib.hid (gNames w g D F mb fp es qs h)
    rw [hN, List.length_map]
    clear h
    go_enter Try.func27, Try.ntmps27
    go_wp2_with (first
      | (go_at_call 48; refine CK.out.mono ?_; rintro e w1 ⟨rfl, rfl⟩)
      | (go_at_call 57; refine NM.out.mono ?_; rintro e w2 ⟨A, c, rfl, h1, h2, h3, h4, h5⟩))
    go_ret
    exact ⟨A, c, rfl, h1, h2, h3, h5⟩
set_option maxRecDepth 100000 in
set_option maxHeartbeats 1000000 in
theorem gCrash (w : World) (g : Nat) (D : Dk) (F : Nat → Prop) (A : Option Addr) (n c : Nat) (keep : List Int) (h : RCk w g D F) (hx : IAt w A n keep) (hA : 0 < n → InF (fun k => k < w.heap.size ∧ ¬ F k) A) :
    Calls Try.prog 23 #[pt g, .slice A n c] w fun e w' => e = .returned (.tuple #[]) ∧ Turns RCk w g F (crash D keep) w' := by
  obtain ⟨mb, fp, es, qs, h⟩ := h
  have N := Lib.hid (gNone w g D F mb fp es qs h)
  have FA := Lib.hid (gFall w g D F mb fp es qs h A n c keep hx (fun h0 a ea => ⟨(hA h0 a ea).1, fun e => (hA h0 a ea).2 (by rw [e]; exact h.fg), fun c hc e => (hA h0 a ea).2 (by rw [e]; exact (h.each c hc).sub _ (.inl rfl))⟩))
  have H := Lib.hid h
  clear h hx hA
  go_enter Try.func23, Try.ntmps23
  go_wp2_with (first
    | (go_at_call 44; refine N.out.mono ?_; rintro e w1 ⟨rfl, rfl⟩)
    | (go_at_call 55; refine FA.out.mono ?_; rintro e w2 ⟨rfl, hG, qs', hR, hkp⟩; have HH := Lib.hid (And.intro hG hR); clear hG hR hkp))
  first | go_end0 | (refine bodyPost_ret (results_none rfl _ _ _) rfl ?_)
  obtain ⟨hG, hR⟩ := HH.out
  refine ⟨rfl, ?_⟩
  cases hd : D.dead with
  | true =>
    have hC : crash D keep = D := by unfold crash; rw [hd]; rfl
    rw [fall_gone (H.out.gone hd)] at hR
    have e : ({ D with l := D.l, dead := true } : Dk) = D := by cases D; simp at hd; subst hd; rfl
    rw [e] at hR
    rw [hC]
    exact hR.ends (fun k e => .inl e) hG H.out.lt
  | false =>
    have hC : crash D keep = ⟨fall keep D.l, true, -1, D.keep⟩ := by unfold crash; rw [hd]; rfl
    have hO := hR.ok
    rw [hC]
    have hR2 := hR.obj' (D' := ⟨fall keep D.l, true, -1, D.keep⟩) (fp' := fp) rfl hR.obj (fun _ _ _ _ => rfl) (fun _ e => e) hR.lt (fun h => by cases h) hR.gone ⟨hO.sorted, hO.marks, hO.few, hO.sum, by show (-1 : Int) ≤ -1; omega, by show (-1 : Int) ≤ _; omega⟩
    exact hR2.ends (fun k e => .inl e) hG H.out.lt
end Go.Proofs.Ytmjoaeljfhgojaa
