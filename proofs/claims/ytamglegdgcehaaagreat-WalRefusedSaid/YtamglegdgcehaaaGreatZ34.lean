/-
  Layer 7: the landed disk: New, Boot, Dead, Read, Size, Names, Crash.
  Layer 7: the landed disk: Turn, Fail.
  Layer 7: the landed disk: Fail.
  Layer 7: the landed disk: Cut's closure (80 s).
  Layer 7: the landed disk: Cut.
-/
import Derived.Test.YtamglegdgcehaaaGreatZ32
set_option linter.unusedVariables false
namespace Go.Proofs.YtamglegdgcehaaaGreat
open Go.RowKit Go.Maps

set_option maxRecDepth 100000 in
theorem gNew (w : World) : Calls Tryz.prog 10 #[] w fun e w' => ∃ g, e = .returned (pt g) ∧ w.heap.size ≤ g ∧ RCk w' g dk0 (newF w w') ∧ Below w.heap.size w w' := by
  have hmm := @run_makeMap Tryz.prog
  go_enter Tryz.func10, Tryz.ntmps10
  go_wp2_with fail
  go_ret
  have hmap : ((w.alloc (.map #[] 0)).alloc (.cells #[.map (some w.heap.size), .bool false, .pointer none] 82)).ownsMap Tryz.prog 9 fE w.heap.size 20 (.map []) := ((World.ownsMap_made w Tryz.prog 9 fE).mono (by omega)).alloc _
  have hsz : ((w.alloc (.map #[] 0)).alloc (.cells #[.map (some w.heap.size), .bool false, .pointer none] 82)).heap.size = w.heap.size + 1 + 1 := by simp
  refine ⟨w.heap.size + 1, rfl, by omega, ⟨w.heap.size, none, [], [], ⟨new_at _ _ (by simp), rfl, hmap, List.Perm.refl _, fun c hc => (nomatch hc), List.Pairwise.nil, fun _ => .inl ⟨by show (-1 : Int) < 0; omega, rfl⟩, fun e => (nomatch e), ⟨by omega, by omega⟩, ⟨by omega, by omega⟩, fun k e => e.2,
    ⟨List.Pairwise.nil, fun f hf => (nomatch hf), by simp [dk0], by simp [dk0, sum], by simp [dk0], by simp [dk0]⟩⟩⟩, ((Below.refl _ _).alloc (Nat.le_refl _) _).alloc (by simp) _⟩
set_option maxRecDepth 100000 in
theorem gBoot (w : World) (g : Nat) (D : Dk) (F : Nat → Prop) (h : RCk w g D F) : Calls Tryz.prog 27 #[pt g] w fun e w' => e = .returned (.tuple #[]) ∧ Turns RCk w g F (boot D) w' := by
  obtain ⟨mb, fp, es, qs, h⟩ := h
  have N := gNone w g D F mb fp es qs h
  have c1 := h.c1
  have c2 := h.c2
  have z1 := h.fz 1
  have z2 := h.fz 2
  have H := Lib.hid h
  clear h
  go_enter Tryz.func27, Tryz.ntmps27
  go_wp2_with (first | (go_at_call 84; refine N.mono ?_; rintro e w1 ⟨rfl, rfl⟩))
  first | go_end0 | (refine bodyPost_ret (results_none rfl _ _ _) rfl ?_)
  have hO := H.out.ok
  have ho := H.out.obj
  have hR := H.out.obj' (V' := (w1.setCell ⟨g, 1, none⟩ (.bool false)).setCell ⟨g, 2, none⟩ (.pointer none)) (D' := boot D) (fp' := none) rfl (by simp [World.setCell, Array.getElem?_modify, ho]; rfl) (fun x _ hx _ => (set_blk _ _ _ _ hx).trans (set_blk _ _ _ _ hx)) (fun _ e => e) (fun x e => by rw [set_size, set_size]; exact H.out.lt x e)
    (fun _ => .inl ⟨by show (-1 : Int) < 0; omega, rfl⟩) (fun e => (nomatch e)) ⟨hO.sorted, hO.marks, hO.few, hO.sum, by show (-1 : Int) ≤ -1; omega, by show (-1 : Int) ≤ _; omega⟩
  exact ⟨rfl, hR.ends (fun k e => .inl e) (((Grow.refl _ _).set (p := ⟨g, 1, none⟩) (.inl H.out.fg) _).set (p := ⟨g, 2, none⟩) (.inl H.out.fg) _) H.out.lt⟩
set_option maxRecDepth 100000 in
theorem gDead (w : World) (g : Nat) (D : Dk) (F : Nat → Prop) (h : RCk w g D F) : Calls Tryz.prog 26 #[pt g] w fun e w' => e = .returned (.bool D.dead) ∧ Below w.heap.size w w' := by
  obtain ⟨mb, fp, es, qs, h⟩ := h
  have N := gNone w g D F mb fp es qs h
  have c1 := h.c1
  clear h
  go_enter Tryz.func26, Tryz.ntmps26
  go_wp2_with (first | (go_at_call 84; refine N.mono ?_; rintro e w1 ⟨rfl, rfl⟩))
  go_ret
  exact ⟨rfl, Below.refl _ _⟩

/-! ### slices.Clone -/
theorem eqIn_sn {P : Program} (w : World) (d : Nat) (t e : TypeId) (a : Option Addr) (n c : Nat) (h : P.underlying t = some (.slice e)) : (Op.equalIn (d + 1) t (.slice a n c) (.slice none 0 0)).run P w = .ok a.isNone w := by
  cases a <;> simp [Op.equalIn, run_underlying h]
theorem eq_sn {P : Program} (w : World) (t e : TypeId) (a : Option Addr) (n c : Nat) (h : P.underlying t = some (.slice e)) : (binOp .eql t (.slice a n c) (.slice none 0 0)).run P w = .ok (.bool a.isNone) w := by
  simp only [binOp]
  simp [Op.equal, Op.maxDepth, eqIn_sn w 9999 t e a n c h]
set_option maxRecDepth 100000 in
set_option maxHeartbeats 1000000 in
theorem cloneB (A : Option Addr) (n c : Nat) (xs : List UInt8) (w : World) (hx : At w A n xs) (hn : n ≤ 225000000000000) :
    Calls Tryz.prog 87 #[.slice A n c] w fun e w' => ∃ v, e = .returned v ∧ NewBytes w w' v xs ∧ Below w.heap.size w w' := by
  have hl := hx.1
  have qT : ∀ (w : World) (a : Option Addr) (n c : Nat), (binOp .eql 40 (.slice a n c) (.slice none 0 0)).run Tryz.prog w = .ok (.bool a.isNone) w := fun w a n c => eq_sn w _ _ a n c Tryz.underlying40
  cases A with
  | none =>
    have h0 : xs = [] := by
      rcases Nat.eq_zero_or_pos n with h | h
      · exact List.eq_nil_of_length_eq_zero (by omega)
      · obtain ⟨b, o, e, _⟩ := hx.2 h
        cases e
    subst h0
    clear hx
    go_enter Tryz.func87, Tryz.ntmps87
    go_wp2_with fail
    go_ret
    exact ⟨_, rfl, NewBytes.nil _ _, Below.refl _ _⟩
  | some a =>
    have HX := Lib.hid (fun o => (hx.alloc o))
    have hr : (w.alloc (.cells #[] 5)).ownsRow w.heap.size 5 1 (.slice (some ⟨w.heap.size, 0, none⟩) 0 0) 0 (([] : List UInt8).map bv) := World.ownsRow_lit w #[] 0 (Nat.le_refl _) (by decide) rfl
    have HR := Lib.hid hr
    clear hx hr
    go_enter Tryz.func87, Tryz.ntmps87
    go_wp2_with (first
      | (at_builtin; refine wpList_app rfl _ _ 40 rfl w.heap.size 5 Tryz.underlying40 info5 (.slice (some ⟨w.heap.size, 0, none⟩) 0 0) 0 [] xs rfl HR.out (some a) n c rfl (HX.out _) (by omega) (by simp) ?_; intro v' w' h1 h2 h3; have HH := Lib.hid (And.intro h1 h2); clear h1 h2 h3))
    go_ret
    have h1 := HH.out.1
    rw [Nat.zero_add, List.nil_append] at h1
    have h2 := HH.out.2
    refine ⟨_, rfl, by unfold NewBytes Own; rw [hl]; exact h1, ?_⟩
    refine ((Below.refl w.heap.size w).alloc (Nat.le_refl _) (.cells #[] 5)).trans ⟨h2.os, h2.tape, h2.output, h2.size, fun k hk => h2.block k (by simp; omega) (fun e => ?_)⟩
    injection e with e
    simp only at e
    omega
set_option maxRecDepth 100000 in
set_option maxHeartbeats 1000000 in
theorem cloneI (A : Option Addr) (n c : Nat) (xs : List Int) (w : World) (hx : IAt w A n xs) (hn : n ≤ 17592186044416) :
    Calls Tryz.prog 85 #[.slice A n c] w fun e w' => ∃ v, e = .returned v ∧ OwnI w' w.heap.size v xs ∧ Below w.heap.size w w' := by
  have hl := hx.1
  have qT : ∀ (w : World) (a : Option Addr) (n c : Nat), (binOp .eql 36 (.slice a n c) (.slice none 0 0)).run Tryz.prog w = .ok (.bool a.isNone) w := fun w a n c => eq_sn w _ _ a n c Tryz.underlying36
  cases A with
  | none =>
    have h0 : xs = [] := by
      rcases Nat.eq_zero_or_pos n with h | h
      · exact List.eq_nil_of_length_eq_zero (by omega)
      · obtain ⟨b, o, e, _⟩ := hx.2 h
        cases e
    subst h0
    clear hx
    go_enter Tryz.func85, Tryz.ntmps85
    go_wp2_with fail
    go_ret
    exact ⟨_, rfl, World.ownsRow_nil _ _ _ _, Below.refl _ _⟩
  | some a =>
    obtain ⟨i, hi, hz, hsz, hby⟩ := info_parts infoI
    have HX : Hid (∀ j u, (xs.map (Value.int .i64))[j]? = some u → (w.alloc (.cells #[] 3)).cell? (a.add j) = some u) := Lib.hid (fun j u hj => by
      have hj2 : j < xs.length := by simpa using (List.getElem?_eq_some_iff.1 hj).1
      obtain ⟨b, o, e, hc⟩ := hx.2 (by omega)
      injection e with e
      subst e
      rw [Go.WideShapes.add_plain]
      have h1 := hc j hj2
      rw [World.cell?_alloc_lt w _ _ (World.block_lt_of_cell? w _ h1), h1, ← hj]
      simp [List.getElem?_eq_getElem hj2])
    have HO := Lib.hid (show ∀ u ∈ xs.map (Value.int .i64), u.oneCell' = true from fun u hu => by obtain ⟨z, _, rfl⟩ := List.mem_map.1 hu; rfl)
    have HLL := Lib.hid (show (xs.map (Value.int .i64)).length = n * 1 by simp [hl])
    have hr : (w.alloc (.cells #[] 3)).ownsRow w.heap.size 3 1 (.slice (some ⟨w.heap.size, 0, none⟩) 0 0) 0 [] := World.ownsRow_lit w #[] 0 (Nat.le_refl _) (by decide) rfl
    have HR := Lib.hid hr
    have hm : 0 + n ≤ maxLen := by unfold maxLen; omega
    clear hx hr
    go_enter Tryz.func85, Tryz.ntmps85
    go_wp2_with (first
      | (at_builtin; refine wpList_append_own _ rfl _ _ 36 rfl w.heap.size 3 i (.int .i64 0) 1 8 Tryz.underlying36 hi hz hsz hby rfl (by decide) (.slice (some ⟨w.heap.size, 0, none⟩) 0 0) 0 [] rfl HR.out a n c (xs.map (Value.int .i64)) rfl HLL.out HX.out HO.out hm (by omega) (by simp) ?_; intro v' w' h1 h2 h3; have HH := Lib.hid (And.intro h1 h2); clear h1 h2 h3))
    go_ret
    have h1 := HH.out.1
    rw [Nat.zero_add, List.nil_append] at h1
    have h2 := HH.out.2
    refine ⟨_, rfl, by unfold OwnI; rw [hl]; exact h1, ?_⟩
    refine ((Below.refl w.heap.size w).alloc (Nat.le_refl _) (.cells #[] 3)).trans ⟨h2.os, h2.tape, h2.output, h2.size, fun k hk => h2.block k (by simp; omega) (fun e => ?_)⟩
    injection e with e
    simp only at e
    omega

/-! ### Read, Size, Names, Crash -/
set_option maxRecDepth 100000 in
set_option maxHeartbeats 1000000 in
theorem gRead (w : World) (g : Nat) (D : Dk) (F : Nat → Prop) (nm : ByteArray) (h : RCk w g D F) : Calls Tryz.prog 34 #[pt g, .string nm] w fun e w' => ∃ v, e = .returned (.tuple #[v, .int .i64 (rdE D nm)]) ∧ NewBytes w w' v (rdB D nm) ∧ Below w.heap.size w w' := by
  obtain ⟨mb, fp, es, qs, h⟩ := h
  by_cases hn : nmE D nm = 0
  · obtain ⟨hd, hi⟩ := nmE_zero hn
    obtain ⟨p, hp⟩ : ∃ p, pos D.l nm = p := ⟨_, rfl⟩
    obtain ⟨hq, hqn, hfa, hdl, hde⟩ := h.at_ hp hi
    have FI := Lib.hid (gFind_yes w g D F mb fp es qs h nm hp hn hq)
    obtain ⟨A, cap, hv, d0, d1, hat, _⟩ := h.file hq
    have CL := Lib.hid (cloneB A qs[p].f.bs.length cap qs[p].f.bs w hat (by have := (h.small hq).2; omega))
    have hE : rdE D nm = 0 := hn
    have hB : rdB D nm = qs[p].f.bs := by unfold rdB; rw [hn, if_pos rfl, hfa]
    rw [hE, hB]
    generalize qs[p].f.bs = bs at *
    generalize qs[p].q = q at *
    clear h hn hE hB hde hfa hqn hat hv
    go_enter Tryz.func34, Tryz.ntmps34
    go_wp2_with (first
      | (go_at_call 56; refine FI.out.mono ?_; rintro e w1 ⟨rfl, rfl⟩)
      | (go_at_call 87; refine CL.out.mono ?_; rintro e w2 ⟨v, rfl, hv, hb⟩))
    go_ret2
    exact ⟨_, rfl, hv, hb⟩
  · have FI := Lib.hid (gFind_no w g D F mb fp es qs h nm hn)
    have hE : rdE D nm = nmE D nm := rfl
    have hB : rdB D nm = [] := by unfold rdB; rw [if_neg hn]
    rw [hE, hB]
    have hne : (nmE D nm == 0) = false := by simpa using hn
    generalize nmE D nm = E at *
    clear h hn hE hB
    go_enter Tryz.func34, Tryz.ntmps34
    go_wp2_with (first
      | (go_at_call 56; refine FI.out.mono ?_; rintro e w1 ⟨rfl, rfl⟩))
    go_ret2
    exact ⟨_, rfl, NewBytes.nil _ _, Below.refl _ _⟩
set_option maxRecDepth 100000 in
set_option maxHeartbeats 1000000 in
theorem gSize (w : World) (g : Nat) (D : Dk) (F : Nat → Prop) (nm : ByteArray) (h : RCk w g D F) : Calls Tryz.prog 32 #[pt g, .string nm] w fun e w' => e = .returned (.tuple #[.int .i64 ((rdB D nm).length : Nat), .int .i64 (rdE D nm)]) ∧ Below w.heap.size w w' := by
  obtain ⟨mb, fp, es, qs, h⟩ := h
  by_cases hn : nmE D nm = 0
  · obtain ⟨hd, hi⟩ := nmE_zero hn
    obtain ⟨p, hp⟩ : ∃ p, pos D.l nm = p := ⟨_, rfl⟩
    obtain ⟨hq, hqn, hfa, hdl, hde⟩ := h.at_ hp hi
    have FI := Lib.hid (gFind_yes w g D F mb fp es qs h nm hp hn hq)
    obtain ⟨A, cap, hv, d0, d1, hat, _⟩ := h.file hq
    have hE : rdE D nm = 0 := hn
    have hB : rdB D nm = qs[p].f.bs := by unfold rdB; rw [hn, if_pos rfl, hfa]
    rw [hE, hB]
    generalize qs[p].f.bs.length = L at *
    generalize qs[p].q = q at *
    clear h hn hE hB hde hfa hqn hat hv
    go_enter Tryz.func32, Tryz.ntmps32
    go_wp2_with (first
      | (go_at_call 56; refine FI.out.mono ?_; rintro e w1 ⟨rfl, rfl⟩))
    go_ret2
    exact ⟨rfl, Below.refl _ _⟩
  · have FI := Lib.hid (gFind_no w g D F mb fp es qs h nm hn)
    have hE : rdE D nm = nmE D nm := rfl
    have hB : rdB D nm = [] := by unfold rdB; rw [if_neg hn]
    rw [hE, hB]
    have hne : (nmE D nm == 0) = false := by simpa using hn
    generalize nmE D nm = E at *
    clear h hn hE hB
    go_enter Tryz.func32, Tryz.ntmps32
    go_wp2_with (first
      | (go_at_call 56; refine FI.out.mono ?_; rintro e w1 ⟨rfl, rfl⟩))
    go_ret2
    exact ⟨rfl, Below.refl _ _⟩
set_option maxRecDepth 100000 in
set_option maxHeartbeats 1000000 in
theorem gNamesP (w : World) (g : Nat) (D : Dk) (F : Nat → Prop) (h : RCk w g D F) : Calls Tryz.prog 107 #[pt g] w fun e w' => ∃ A c, e = .returned (.slice A (nms D).length c) ∧ TAt w' A (nms D).length (nms D) ∧ (nms D).length ≤ c ∧ c ≤ 9223372036854775807 ∧ Below w.heap.size w w' := by
  obtain ⟨mb, fp, es, qs, h⟩ := h
  have CK := Lib.hid (gCheck w g D F mb fp es qs h)
  cases hd : D.dead with
  | true =>
    rw [hd] at CK
    have hN : nms D = [] := by unfold nms; rw [hd]; rfl
    rw [hN]
    clear h
    go_enter Tryz.func107, Tryz.ntmps107
    go_wp2_with (first
      | (go_at_call 51; refine CK.out.mono ?_; rintro e w1 ⟨rfl, rfl⟩))
    go_ret
    exact ⟨none, 0, rfl, ⟨rfl, fun h0 => absurd h0 (by simp)⟩, by simp, by omega, Below.refl _ _⟩
  | false =>
    rw [hd] at CK
    have hN : nms D = D.l.map Fl.name := by unfold nms; rw [hd]; rfl
    have NM := Lib.hid (gNames w g D F mb fp es qs h)
    rw [hN, List.length_map]
    clear h
    go_enter Tryz.func107, Tryz.ntmps107
    go_wp2_with (first
      | (go_at_call 51; refine CK.out.mono ?_; rintro e w1 ⟨rfl, rfl⟩)
      | (go_at_call 137; refine NM.out.mono ?_; rintro e w2 ⟨A, c, rfl, h1, h2, h3, h4, h5⟩))
    go_ret
    exact ⟨A, c, rfl, h1, h2, h3, h5⟩
set_option maxRecDepth 100000 in
set_option maxHeartbeats 1000000 in
theorem gCrash (w : World) (g : Nat) (D : Dk) (F : Nat → Prop) (A : Option Addr) (n c : Nat) (keep : List Int) (h : RCk w g D F) (hx : IAt w A n keep) (hA : 0 < n → InF (fun k => k < w.heap.size ∧ ¬ F k) A) :
    Calls Tryz.prog 25 #[pt g, .slice A n c] w fun e w' => e = .returned (.tuple #[]) ∧ Turns RCk w g F (crash D keep) w' := by
  obtain ⟨mb, fp, es, qs, h⟩ := h
  have N := Lib.hid (gNone w g D F mb fp es qs h)
  have FA := Lib.hid (gFall w g D F mb fp es qs h A n c keep hx (fun h0 a ea => ⟨(hA h0 a ea).1, fun e => (hA h0 a ea).2 (by rw [e]; exact h.fg), fun c hc e => (hA h0 a ea).2 (by rw [e]; exact (h.each c hc).sub _ (.inl rfl))⟩))
  have H := Lib.hid h
  clear h hx hA
  go_enter Tryz.func25, Tryz.ntmps25
  go_wp2_with (first
    | (go_at_call 84; refine N.out.mono ?_; rintro e w1 ⟨rfl, rfl⟩)
    | (go_at_call 86; refine FA.out.mono ?_; rintro e w2 ⟨rfl, hG, qs', hR, hkp⟩; have HH := Lib.hid (And.intro hG hR); clear hG hR hkp))
  first | go_end0 | (refine bodyPost_ret (results_none rfl _ _ _) rfl ?_)
  obtain ⟨hG, hR⟩ := HH.out
  refine ⟨rfl, ?_⟩
  cases hd : D.dead with
  | true =>
    have hC : crash D keep = D := by unfold crash; rw [hd]; rfl
    rw [fall_gone (H.out.gone hd)] at hR
    have e : ({ D with l := D.l, dead := true } : Dk) = D := by cases D; simp at hd; subst hd; rfl
    rw [e] at hR
    rw [hC]
    exact hR.ends (fun k e => .inl e) hG H.out.lt
  | false =>
    have hC : crash D keep = ⟨fall keep D.l, true, -1, D.keep⟩ := by unfold crash; rw [hd]; rfl
    have hO := hR.ok
    rw [hC]
    have hR2 := hR.obj' (D' := ⟨fall keep D.l, true, -1, D.keep⟩) (fp' := fp) rfl hR.obj (fun _ _ _ _ => rfl) (fun _ e => e) hR.lt (fun h => by cases h) hR.gone ⟨hO.sorted, hO.marks, hO.few, hO.sum, by show (-1 : Int) ≤ -1; omega, by show (-1 : Int) ≤ _; omega⟩
    exact hR2.ends (fun k e => .inl e) hG H.out.lt
end Go.Proofs.YtamglegdgcehaaaGreat

namespace Go.Proofs.YtamglegdgcehaaaGreat
open Go.RowKit Go.Maps

set_option maxRecDepth 100000 in
set_option maxHeartbeats 4000000 in
theorem gTurn (w : World) (g : Nat) (D : Dk) (F : Nat → Prop) (nm : ByteArray) (i b : Int) (hi0 : -9223372036854775808 ≤ i ∧ i ≤ 9223372036854775807) (hb0 : -9223372036854775808 ≤ b ∧ b ≤ 9223372036854775807) (h : RCk w g D F) :
    Calls Tryz.prog 36 #[pt g, .string nm, .int .i64 i, .int .i64 b] w fun e w' => e = .returned (.int .i64 (trnE D nm i b)) ∧ Turns RCk w g F (trn D nm i b) w' := by
  obtain ⟨mb, fp, es, qs, h⟩ := h
  have H := Lib.hid h
  by_cases hn : nmE D nm = 0
  · obtain ⟨hd, hi⟩ := nmE_zero hn
    obtain ⟨p, hp⟩ : ∃ p, pos D.l nm = p := ⟨_, rfl⟩
    obtain ⟨hq, hqn, hfa, hdl, hde⟩ := h.at_ hp hi
    have FI := Lib.hid (gFind_yes w g D F mb fp es qs h nm hp hn hq)
    obtain ⟨A, cap, hv, d0, d1, hat, _⟩ := h.file hq
    have hsm := h.small hq
    obtain ⟨L, hL⟩ : ∃ L, qs[p].f.bs.length = L := ⟨_, rfl⟩
    have hfl : (fileAt D.l nm).bs.length = L := by rw [hfa, hL]
    by_cases hr : i < 0 ∨ (L : Int) ≤ i ∨ b < 0 ∨ 7 < b
    · have hE : trnE D nm i b = 9 := by unfold trnE; rw [hn, if_pos rfl, hfl, if_pos hr]
      have hC : trn D nm i b = D := by unfold trn; rw [hE, if_neg (by decide)]
      rw [hE, hC]
      rw [hL] at d0
      generalize qs[p].q = q at *
      clear h hn hE hC hfa hde hqn hat hv hfl hL
      go_enter Tryz.func36, Tryz.ntmps36
      go_wp2_with (first
        | (go_at_call 56; refine FI.out.mono ?_; rintro e w1 ⟨rfl, rfl⟩))
      all_goals first
        | (exfalso; omega)
        | (go_ret; exact ⟨rfl, RCk.turn H.out (Below.refl _ _)⟩)
    · have hE : trnE D nm i b = 0 := by unfold trnE; rw [hn, if_pos rfl, hfl, if_neg hr]
      have hC : trn D nm i b = { D with l := D.l.set p ⟨nm, flip qs[p].f.bs i.toNat b.toNat, qs[p].f.mark⟩ } := by unfold trn; rw [hE, if_pos rfl]; unfold setAt; rw [hp, hfa]
      obtain ⟨a, rfl⟩ : ∃ a : Nat, i = (a : Int) := ⟨i.toNat, by omega⟩
      obtain ⟨t, rfl⟩ : ∃ t : Nat, b = (t : Int) := ⟨b.toNat, by omega⟩
      have haL : a < L := by omega
      have ht7 : t ≤ 7 := by omega
      rw [hE, hC, Int.toNat_natCast, Int.toNat_natCast]
      have hr0 := h.cf hq
      have hown := hr0.own
      rw [hv, hL] at hown
      obtain ⟨ob, rfl, _, hob⟩ := hown.some_' hL (by omega)
      obtain ⟨x, hx⟩ : ∃ x, qs[p].f.bs[a]'(by rw [hL]; exact haL) = x := ⟨_, rfl⟩
      have hcl : w.cell? ⟨ob, a, none⟩ = some (.int .u8 (x.toNat : Int)) := by rw [← hx]; exact hown.cell' hL a haL
      have hfz : w.frozen? ⟨ob, a, none⟩ = false := hown.free' hL a
      have haI : (a : Int) < (L : Int) := by omega
      have haI0 : (0 : Int) ≤ (a : Int) := by omega
      have hx8 := x.toNat_lt
      obtain ⟨y, hy⟩ : ∃ y, x ^^^ ((1 : UInt8) <<< UInt8.ofNat t) = y := ⟨_, rfl⟩
      have hvx : Go.bits .xor .u8 (x.toNat : Int) (IntKind.u8.wrap ((2 : Int) ^ t)) = (y.toNat : Int) := by rw [shl_t t ht7, xor_u8, hy]
      have hfp : flip qs[p].f.bs a t = qs[p].f.bs.set a y := by unfold flip; rw [List.getD_eq_getElem?_getD, List.getElem?_eq_getElem (by rw [hL]; exact haL), Option.getD_some, hx, hy]
      have hLs : (qs[p].f.bs.set a y).length = L := by rw [List.length_set, hL]
      have hobq : ob ≠ qs[p].q := fun e => by
        rcases hown.2 with ⟨e2, _⟩ | ⟨z, c2, cur, e2, _, hh, _⟩
        · cases e2
        · injection e2 with e2
          injection e2 with e2
          injection e2 with e2
          rw [← e2, e, hr0.obj] at hh
          injection hh with hh
          injection hh with _ hh _
          exact absurd hh (by decide)
      have hbF : F ob := hr0.sub _ (.inr (by rw [hv]; rfl))
      have hR2 : RC (w.setCell ⟨ob, a, none⟩ (.int .u8 (y.toNat : Int))) g { D with l := D.l.set p ⟨nm, qs[p].f.bs.set a y, qs[p].f.mark⟩ } F mb fp es (qs.set p ⟨⟨nm, qs[p].f.bs.set a y, qs[p].f.mark⟩, qs[p].q, qs[p].v⟩) := by
        refine h.put (c := ⟨⟨nm, qs[p].f.bs.set a y, qs[p].f.mark⟩, qs[p].q, qs[p].v⟩) hq rfl hqn.symm (fun _ e => e) (fun k e => by rw [set_size]; exact h.lt k e) (fun k _ hk => set_blk _ _ _ _ (fun e => hk (.inr (by rw [hv, e]; rfl)))) ⟨(set_blk _ _ _ _ hobq.symm).trans hr0.obj, ?_, hr0.sub⟩ (fun k e => .inl e) (fun e => by rw [hd] at e; cases e)
          (ok_set h.ok hdl (by rw [hde]; exact hqn.symm) (by show qs[p].f.mark ≤ (qs[p].f.bs.set a y).length; rw [hLs, ← hL]; exact hsm.1) (by rw [hde]; have := h.ok.sum; show sum D.l + (qs[p].f.bs.set a y).length ≤ 4194304 + qs[p].f.bs.length; rw [hLs, hL]; omega))
        rw [hv, hL]
        exact hown.set a y
      have HR2 := Lib.hid hR2
      rw [hfp]
      rw [hL] at d0
      generalize (⟨nm, qs[p].f.bs.set a y, qs[p].f.mark⟩ : Fl) = f at *
      generalize hqv : qs[p].q = q at *
      clear h hn hE hC hfa hde hqn hat hv hfl hR2 hr hr0 hown hx hy hLs hfp hobq
      go_enter Tryz.func36, Tryz.ntmps36
      go_wp2_with (first
        | (go_at_call 56; refine FI.out.mono ?_; rintro e w1 ⟨rfl, rfl⟩))
      go_region_with (fail)
      all_goals
        go_wp2_with fail
        go_ret
        exact ⟨rfl, (HR2.out.below (Below.refl _ _).drew).ends (fun k e => .inl e) (((Grow.refl _ _).set (p := ⟨ob, a, none⟩) (.inl hbF) _).drewN 1) H.out.lt⟩
  · have FI := Lib.hid (gFind_no w g D F mb fp es qs h nm hn)
    have hE : trnE D nm i b = nmE D nm := by unfold trnE; rw [if_neg hn]
    have hC : trn D nm i b = D := by unfold trn; rw [hE, if_neg hn]
    rw [hE, hC]
    have hne : (nmE D nm == 0) = false := by simpa using hn
    generalize nmE D nm = E at *
    clear h hn hE hC
    go_enter Tryz.func36, Tryz.ntmps36
    go_wp2_with (first
      | (go_at_call 56; refine FI.out.mono ?_; rintro e w1 ⟨rfl, rfl⟩))
    go_ret
    exact ⟨rfl, RCk.turn H.out (Below.refl _ _)⟩
end Go.Proofs.YtamglegdgcehaaaGreat

namespace Go.Proofs.YtamglegdgcehaaaGreat
open Go.RowKit Go.Maps

theorem sli_size (w : World) : (sizeOf 3).run Tryz.prog w = .ok 1 w := by kernel_rfl
theorem sli_elem : Tryz.prog.elem 36 = 3 := by kernel_rfl
theorem sli_under : Tryz.prog.underlying 36 = some (.slice (Tryz.prog.elem 36)) := by rw [sli_elem]; exact Tryz.underlying36
theorem sli_h (A : Option Addr) (n c : Nat) (kh : IntKind) (h : Int) (w : World) (h0 : 0 ≤ h) (h2 : h ≤ c) :
    (Instr.slice 36 (.slice A n c) none (some (.int kh h)) none).run Tryz.prog w = .ok (.slice A h.toNat c) w := by
  rw [run_slice_h w 36 A n c sli_under kh h h0 h2, sli_elem, sli_size]
  simp only [Result.andThen, sliced, Nat.sub_zero, Nat.zero_mul]
  congr 2
  split
  · rfl
  · cases A with
    | none => rfl
    | some a => simp [Addr.add]
theorem IAt.take {w : World} {A : Option Addr} {n m : Nat} {xs : List Int} (h : IAt w A n xs) (hm : m ≤ n) : IAt w A m (xs.take m) := by
  refine ⟨by rw [List.length_take, h.1]; omega, fun h0 => ?_⟩
  obtain ⟨b, o, e, hc⟩ := h.2 (by omega)
  refine ⟨b, o, e, fun i hi => ?_⟩
  rw [List.getElem_take]
  exact hc i (by rw [List.length_take] at hi; omega)
theorem take_min {xs : List Int} {n : Nat} (h : xs.length = n) : xs.take (min n 20) = xs.take 20 := by
  rcases Nat.le_total n 20 with h1 | h1
  · rw [Nat.min_eq_left h1, List.take_of_length_le (by omega), List.take_of_length_le (by omega)]
  · rw [Nat.min_eq_right h1]
set_option maxRecDepth 100000 in
set_option maxHeartbeats 4000000 in
theorem gFail (w : World) (g : Nat) (D : Dk) (F : Nat → Prop) (k : Int) (A : Option Addr) (n c : Nat) (keep : List Int) (hk0 : -9223372036854775808 ≤ k) (hk1 : k ≤ 9223372036854775807) (h : RCk w g D F) (hx : IAt w A n keep) (hn : n ≤ 17592186044416) (hnc : n ≤ c) :
    Calls Tryz.prog 24 #[pt g, .int .i64 k, .slice A n c] w fun e w' => e = .returned (.tuple #[]) ∧ Turns RCk w g F (fal D k keep) w' := by
  obtain ⟨mb, fp, es, qs, h⟩ := h
  have N := Lib.hid (gNone w g D F mb fp es qs h)
  have c2 := h.c2
  have z2 := h.fz 2
  have H := Lib.hid h
  have hgl := h.lt g h.fg
  have hO := Lib.hid h.ok
  by_cases hk : k < 0
  · clear h
    go_enter Tryz.func24, Tryz.ntmps24
    go_wp2_with (first
      | (go_at_call 84; refine N.out.mono ?_; rintro e w1 ⟨rfl, rfl⟩))
    first | go_end0 | (refine bodyPost_ret (results_none rfl _ _ _) rfl ?_)
    have ho := H.out.obj
    refine ⟨rfl, ?_⟩
    cases hd : D.dead with
    | true =>
      have hF : fal D k keep = D := by unfold fal; rw [hd]; rfl
      rw [hF]
      have hR := H.out.obj' (V' := w1.setCell ⟨g, 2, none⟩ (.pointer none)) (D' := D) (fp' := none) rfl (by simp [World.setCell, Array.getElem?_modify, ho]) (fun x _ hx _ => set_blk _ _ _ _ hx) (fun _ e => e) (fun x e => by rw [set_size]; exact H.out.lt x e) (fun e => by rw [hd] at e; cases e) H.out.gone hO.out
      exact hR.ends (fun k e => .inl e) ((Grow.refl _ _).set (p := ⟨g, 2, none⟩) (.inl H.out.fg) _) H.out.lt
    | false =>
      have hF : fal D k keep = { D with left := -1, keep := keep } := by unfold fal; rw [hd, if_neg (by decide), Int.max_eq_right (by omega)]
      rw [hF]
      have hR := H.out.obj' (V' := w1.setCell ⟨g, 2, none⟩ (.pointer none)) (D' := { D with left := -1, keep := keep }) (fp' := none) rfl (by simp [World.setCell, Array.getElem?_modify, ho]) (fun x _ hx _ => set_blk _ _ _ _ hx) (fun _ e => e) (fun x e => by rw [set_size]; exact H.out.lt x e) (fun _ => .inl ⟨by show (-1 : Int) < 0; omega, rfl⟩) (fun e => by have e' : D.dead = true := e; rw [hd] at e'; cases e') ⟨hO.out.sorted, hO.out.marks, hO.out.few, hO.out.sum, by show (-1 : Int) ≤ -1; omega, by show (-1 : Int) ≤ _; omega⟩
      exact hR.ends (fun k e => .inl e) ((Grow.refl _ _).set (p := ⟨g, 2, none⟩) (.inl H.out.fg) _) H.out.lt
  · obtain ⟨m, hm⟩ : ∃ m, min n 20 = m := ⟨_, rfl⟩
    have hmi : min (n : Int) 20 = (m : Int) := by omega
    have hsl : ∀ V : World, (Instr.slice 36 (.slice A n c) none (some (.int .i64 (m : Int))) none).run Tryz.prog V = .ok (.slice A m c) V := fun V => by
      rw [sli_h A n c .i64 (m : Int) V (by omega) (by omega)]
      rfl
    have hcut := hx.take (m := m) (by omega)
    have e20 : keep.take m = keep.take 20 := by rw [← hm]; exact take_min hx.1
    rw [e20] at hcut
    have hl20 := hcut.1
    have CL := Lib.hid (fun V (hb : Below w.heap.size w V) => (show Calls Tryz.prog 85 #[.slice A m c] V fun e w' => ∃ A1 c1, e = .returned (.slice A1 m c1) ∧ OwnI w' V.heap.size (.slice A1 m c1) (keep.take 20) ∧ Below V.heap.size V w' from (cloneI A m c (keep.take 20) V (by
      refine ⟨hcut.1, fun h0 => ?_⟩
      obtain ⟨b, o, e, hc⟩ := hcut.2 h0
      exact ⟨b, o, e, fun i hi => (hb.cell (World.block_lt_of_cell? w _ (hc i hi))).trans (hc i hi)⟩) (by omega)).mono (by
      rintro e w' ⟨v, rfl, hv, hb⟩
      obtain ⟨A1, c1, rfl, _⟩ := hv.form
      rw [hl20] at hv ⊢
      exact ⟨A1, c1, rfl, hv, hb⟩)))
    clear h hx hcut
    go_enter Tryz.func24, Tryz.ntmps24
    go_wp2_with (first
      | (go_at_call 84; refine N.out.mono ?_; rintro e w1 ⟨rfl, rfl⟩)
      | (go_at_call 85; refine (CL.out _ (Below.refl _ _)).mono ?_; rintro e w2 ⟨A1, c1, rfl, hv, hb⟩; have hR2 := H.out.below hb; have y2 : ∀ o, (w2.alloc o).cell? ⟨g, 2, none⟩ = some (.pointer fp) := fun o => (hR2.below ((Below.refl _ _).alloc (Nat.le_refl _) o)).c2; have y3 : ∀ o, (w2.alloc o).frozen? ⟨g, 2, none⟩ = false := fun o => (hR2.below ((Below.refl _ _).alloc (Nat.le_refl _) o)).fz 2; have HV := Lib.hid (And.intro hv hb); have HR := Lib.hid hR2; clear hv hb hR2))
    first | go_end0 | (refine bodyPost_ret (results_none rfl _ _ _) rfl ?_)
    refine ⟨rfl, ?_⟩
    obtain ⟨hv, hb⟩ := HV.out
    have h3 := HR.out.below ((Below.refl w2.heap.size w2).alloc (Nat.le_refl _) (.cells #[.int .i64 k, .slice A1 m c1] 123))
    have ho := h3.obj
    have hgl2 : g < w2.heap.size := HR.out.lt g HR.out.fg
    have hsz : ((w2.alloc (.cells #[.int .i64 k, .slice A1 m c1] 123)).setCell ⟨g, 2, none⟩ (.pointer (some ⟨w2.heap.size, 0, none⟩))).heap.size = w2.heap.size + 1 := by rw [set_size]; simp
    have hGr : Grow F w1 ((w2.alloc (.cells #[.int .i64 k, .slice A1 m c1] 123)).setCell ⟨g, 2, none⟩ (.pointer (some ⟨w2.heap.size, 0, none⟩))) := (Grow.of_below (hb.alloc hb.size _)).set (p := ⟨g, 2, none⟩) (.inl H.out.fg) _
    have hG1 : ∀ x, F x → nF F w1 ((w2.alloc (.cells #[.int .i64 k, .slice A1 m c1] 123)).setCell ⟨g, 2, none⟩ (.pointer (some ⟨w2.heap.size, 0, none⟩))) x := fun x e => .inl e
    have hG2 : ∀ x, nF F w1 ((w2.alloc (.cells #[.int .i64 k, .slice A1 m c1] 123)).setCell ⟨g, 2, none⟩ (.pointer (some ⟨w2.heap.size, 0, none⟩))) x → x < ((w2.alloc (.cells #[.int .i64 k, .slice A1 m c1] 123)).setCell ⟨g, 2, none⟩ (.pointer (some ⟨w2.heap.size, 0, none⟩))).heap.size := fun x e => by
      rcases e with e | e
      · rw [hsz]
        have := HR.out.lt x e
        omega
      · exact e.2
    have hob : ((w2.alloc (.cells #[.int .i64 k, .slice A1 m c1] 123)).setCell ⟨g, 2, none⟩ (.pointer (some ⟨w2.heap.size, 0, none⟩))).heap[g]? = some (.cells #[.map (some mb), .bool D.dead, .pointer (some ⟨w2.heap.size, 0, none⟩)] 82 (0, 0)) := by
      have e : (w2.alloc (.cells #[.int .i64 k, .slice A1 m c1] 123)).heap[g]? = some (.cells #[.map (some mb), .bool D.dead, .pointer fp] 82 (0, 0)) := ho
      simp only [World.setCell, Array.getElem?_modify, if_true, e, Option.map_some]
      rfl
    cases hd : D.dead with
    | true =>
      have hF : fal D k keep = D := by unfold fal; rw [hd]; rfl
      rw [hF]
      exact (h3.obj' (D' := D) (fp' := some ⟨w2.heap.size, 0, none⟩) rfl hob (fun x _ hx _ => set_blk _ _ _ _ hx) hG1 hG2 (fun e => by rw [hd] at e; cases e) H.out.gone hO.out).ends (fun _ e => e) hGr H.out.lt
    | false =>
      have hF : fal D k keep = { D with left := k, keep := keep } := by unfold fal; rw [hd, if_neg (by decide), Int.max_eq_left (by omega)]
      rw [hF]
      refine (h3.obj' (D' := { D with left := k, keep := keep }) (fp' := some ⟨w2.heap.size, 0, none⟩) rfl hob (fun x _ hx _ => set_blk _ _ _ _ hx) hG1 hG2 (fun _ => .inr ⟨by show (0 : Int) ≤ k; omega, w2.heap.size, .slice A1 m c1, rfl, (set_blk _ _ _ _ (by omega)).trans (heap_alloc_new w2 _), ?_, .inr ⟨hb.size, by rw [hsz]; omega⟩, fun x e => ?_⟩) (fun e => by have e' : D.dead = true := e; rw [hd] at e'; cases e') ⟨hO.out.sorted, hO.out.marks, hO.out.few, hO.out.sum, by show (-1 : Int) ≤ k; omega, hk1⟩).ends (fun _ e => e) hGr H.out.lt
      · refine (hv.base_ (Nat.zero_le _)).onS (fun x e => ?_)
        have hl := (rowOwn hv x e)
        refine (set_blk _ _ _ _ (fun e2 => ?_)).trans (((Below.refl w2.heap.size w2).alloc (Nat.le_refl _) _).block x hl.2)
        omega
      · have hl := (rowOwn hv x e)
        exact .inr ⟨hl.1, by rw [hsz]; omega⟩
end Go.Proofs.YtamglegdgcehaaaGreat
set_option linter.unusedVariables false
namespace Go.Proofs.YtamglegdgcehaaaGreat
open Go.RowKit Go.Maps

theorem hid_dec {p : Prop} [Decidable p] {b : Bool} (h : decide p = b) : decide p = b := h
set_option maxRecDepth 100000 in
set_option maxHeartbeats 4000000 in
theorem gCut1 (w : World) (bx bs q : Nat) (A : Option Addr) (L cap mk k : Nat) (hb : w.cell? ⟨bx, 0, none⟩ = some (pt q)) (hs : w.cell? ⟨bs, 0, none⟩ = some (.int .i64 (k : Int))) (hxq : bx ≠ q) (hsq : bs ≠ q) (c0 : w.cell? ⟨q, 0, none⟩ = some (.slice A L cap)) (c1 : w.cell? ⟨q, 1, none⟩ = some (.int .i64 (mk : Int))) (z : ∀ i, w.frozen? ⟨q, i, none⟩ = false) (hk : k ≤ L) (hL : L ≤ cap) :
    Calls Tryz.prog 179 #[pt bx, pt bs] w fun e w' => e = .returned (.tuple #[]) ∧ ∃ n, w' = ((w.setCell ⟨q, 0, none⟩ (.slice A k cap)).setCell ⟨q, 1, none⟩ (.int .i64 ((min mk k : Nat) : Int))).drewN n := by
  have z0 := z 0
  have z1 := z 1
  have hsl : ∀ V : World, (Instr.slice 40 (.slice A L cap) none (some (.int .i64 (k : Int))) none).run Tryz.prog V = .ok (.slice A k cap) V := fun V => by
    rw [slb_h A L cap .i64 (k : Int) V (by omega) (by omega)]
    rfl
  have e1 : (w.setCell ⟨q, 0, none⟩ (.slice A k cap)).cell? ⟨q, 1, none⟩ = some (.int .i64 (mk : Int)) := (set_off w _ (by decide)).trans c1
  have e2 : (w.setCell ⟨q, 0, none⟩ (.slice A k cap)).cell? ⟨bx, 0, none⟩ = some (pt q) := (set_cell w _ hxq).trans hb
  have e3 : (w.setCell ⟨q, 0, none⟩ (.slice A k cap)).cell? ⟨bs, 0, none⟩ = some (.int .i64 (k : Int)) := (set_cell w _ hsq).trans hs
  have hmin : min (mk : Int) (k : Int) = ((min mk k : Nat) : Int) := by omega
  go_enter Tryz.func179, Tryz.ntmps179
  go_wp2_with fail
  go_cut [] from 2 to 40 (fun wx => ∃ n, wx = (w.setCell ⟨q, 0, none⟩ (.slice A k cap)).drewN n)
  case first =>
    go_region_with (fail)
    all_goals (try go_wp2_with fail)
    all_goals go_meet
    all_goals first | exact ⟨1, rfl⟩ | exact ⟨0, rfl⟩
  case rest =>
    obtain ⟨n, rfl⟩ := hcut
    have zq : (w.setCell ⟨q, 0, none⟩ (.slice A k cap)).frozen? ⟨q, 1, none⟩ = false := by rw [World.frozen?_setCell]; exact z1
    obtain ⟨V, hV⟩ : ∃ V, w.setCell ⟨q, 0, none⟩ (.slice A k cap) = V := ⟨_, rfl⟩
    rw [hV] at zq e1 e2 e3 ⊢
    have HV := Lib.hid hV
    clear hV
    clear hb hs c0 c1 z z0 z1 hsl
    go_wp2_with fail
    go_region_with (fail)
    all_goals
      go_wp2_with fail
      first | go_end0 | (refine bodyPost_ret (results_none rfl _ _ _) rfl ?_)
      exact ⟨rfl, n + 1, by rw [HV.out]; rfl⟩
end Go.Proofs.YtamglegdgcehaaaGreat
set_option linter.unusedVariables false
namespace Go.Proofs.YtamglegdgcehaaaGreat
open Go.RowKit Go.Maps

set_option maxRecDepth 100000 in
set_option maxHeartbeats 8000000 in
theorem gCut (w : World) (g : Nat) (D : Dk) (F : Nat → Prop) (nm : ByteArray) (k : Int) (hk : -9223372036854775808 ≤ k ∧ k ≤ 9223372036854775807) (h : RCk w g D F) :
    Calls Tryz.prog 163 #[pt g, .string nm, .int .i64 k] w fun e w' => e = .returned (.int .i64 (cutE D nm k)) ∧ Turns RCk w g F (cut D nm k) w' := by
  obtain ⟨mb, fp, es, qs, h⟩ := h
  have H := Lib.hid h
  have hb0 : Below w.heap.size w (w.alloc (.cells #[.int .i64 k] 3)) := (Below.refl _ _).alloc (Nat.le_refl _) _
  by_cases hn : nmE D nm = 0
  · obtain ⟨hd, hi⟩ := nmE_zero hn
    obtain ⟨p, hp⟩ : ∃ p, pos D.l nm = p := ⟨_, rfl⟩
    obtain ⟨hq, hqn, hfa, hdl, hde⟩ := h.at_ hp hi
    have FI := Lib.hid (gFind_yes (w.alloc (.cells #[.int .i64 k] 3)) g D F mb fp es qs (h.below hb0) nm hp hn hq)
    have hbx : Below w.heap.size w ((w.alloc (.cells #[.int .i64 k] 3)).alloc (.cells #[pt qs[p].q] 96)) := hb0.alloc hb0.size _
    obtain ⟨A, cap, hv, d0, d1, hat, hcap, hcapm, _⟩ := (h.below hbx).file hq
    have hsm := h.small hq
    obtain ⟨L, hL⟩ : ∃ L, qs[p].f.bs.length = L := ⟨_, rfl⟩
    have hfl : (fileAt D.l nm).bs.length = L := by rw [hfa, hL]
    by_cases hr : k < 0 ∨ (L : Int) < k
    · have hE : cutE D nm k = 9 := by unfold cutE; rw [hn, if_pos rfl, hfl, if_pos hr]
      have hC : cut D nm k = D := by unfold cut; rw [hn, if_pos rfl, hfl, if_pos hr]
      rw [hE, hC]
      rw [hL] at d0
      have hsz : ((w.alloc (.cells #[.int .i64 k] 3)).alloc (.cells #[pt qs[p].q] 96)).cell? ⟨w.heap.size, 0, none⟩ = some (.int .i64 k) := box_cell (two_old _ _ _)
      have hbq : ((w.alloc (.cells #[.int .i64 k] 3)).alloc (.cells #[pt qs[p].q] 96)).cell? ⟨w.heap.size + 1, 0, none⟩ = some (pt qs[p].q) := box_cell (two_new _ _ _)
      generalize qs[p].q = q at *
      clear h hn hE hC hfa hde hqn hat hv hfl hL
      by_cases hk0 : k < 0
      · have g1 : decide (k < 0) = true := decide_eq_true hk0
        go_enter Tryz.func163, Tryz.ntmps163
        go_wp2_with (first
          | (go_at_call 56; refine FI.out.mono ?_; rintro e w1 ⟨rfl, rfl⟩))
        go_quiet (fail)
        go_wp2_with fail
        go_ret
        exact ⟨rfl, RCk.turn H.out (below_drewN hbx _)⟩
      · have g1 : decide (k < 0) = false := decide_eq_false hk0
        have g2 : decide ((L : Int) < k) = true := decide_eq_true (by omega)
        go_enter Tryz.func163, Tryz.ntmps163
        go_wp2_with (first
          | (go_at_call 56; refine FI.out.mono ?_; rintro e w1 ⟨rfl, rfl⟩))
        go_quiet (fail)
        go_wp2_with fail
        go_ret
        exact ⟨rfl, RCk.turn H.out (below_drewN hbx _)⟩
    · obtain ⟨K, rfl⟩ : ∃ K : Nat, k = (K : Int) := ⟨k.toNat, by omega⟩
      have hKL : K ≤ L := by omega
      have g1 : decide ((K : Int) < 0) = false := decide_eq_false (by omega)
      have g2 : decide ((L : Int) < (K : Int)) = false := decide_eq_false (by omega)
      have hsz : ((w.alloc (.cells #[.int .i64 (K : Int)] 3)).alloc (.cells #[pt qs[p].q] 96)).cell? ⟨w.heap.size, 0, none⟩ = some (.int .i64 (K : Int)) := box_cell (two_old _ _ _)
      have hbq : ((w.alloc (.cells #[.int .i64 (K : Int)] 3)).alloc (.cells #[pt qs[p].q] 96)).cell? ⟨w.heap.size + 1, 0, none⟩ = some (pt qs[p].q) := box_cell (two_new _ _ _)
      have hbd : ∀ n, Below w.heap.size w (((w.alloc (.cells #[.int .i64 (K : Int)] 3)).alloc (.cells #[pt qs[p].q] 96)).drewN n) := fun n => below_drewN hbx n
      rw [hL] at d0
      by_cases hl : D.left = 0
      · have hE : cutE D nm K = 71 := by unfold cutE workE; rw [hn, if_pos rfl, hfl, if_neg hr, if_pos hl]
        have hC : cut D nm K = crash D D.keep := by unfold cut; rw [hn, if_pos rfl, hfl, if_neg hr, work_yes hl]
        rw [hE, hC]
        have WK := Lib.hid (fun n (v : Value) => gWork_yes (((w.alloc (.cells #[.int .i64 (K : Int)] 3)).alloc (.cells #[pt qs[p].q] 96)).drewN n) g D F mb fp es qs (H.out.below (hbd n)) hd hl v)
        generalize qs[p].q = q at *
        clear h hn hE hC hfa hde hqn hat hv hfl hL
        go_enter Tryz.func163, Tryz.ntmps163
        go_wp2_with (first
          | (go_at_call 56; refine FI.out.mono ?_; rintro e w1 ⟨rfl, rfl⟩))
        go_quiet (fail)
        go_wp2_with (first
          | (go_at_call 54; refine (WK.out _ _).mono ?_; rintro e w2 ⟨rfl, ht⟩))
        go_ret
        exact ⟨rfl, Turns.new_ H.out.lt (hbd _) ht⟩
      · have hE : cutE D nm K = 0 := by unfold cutE workE; rw [hn, if_pos rfl, hfl, if_neg hr, if_neg hl]
        have hC : cut D nm K = { less D with l := (less D).l.set p ⟨nm, qs[p].f.bs.take K, min qs[p].f.mark K⟩ } := by unfold cut; rw [hn, if_pos rfl, hfl, if_neg hr, work_no hl]; unfold setAt; rw [hp, hfa]; rfl
        rw [hE, hC]
        have WK := Lib.hid (fun n => gWork_Cut (((w.alloc (.cells #[.int .i64 (K : Int)] 3)).alloc (.cells #[pt qs[p].q] 96)).drewN n) g D F mb fp es qs (h.below (hbd n)) hd hl #[pt (w.heap.size + 1), pt w.heap.size] (fun w' => Turns RCk w g F { less D with l := (less D).l.set p ⟨nm, qs[p].f.bs.take K, min qs[p].f.mark K⟩ } w') (by
          intro V hR hs hG
          obtain ⟨A', cap', hv', e0, e1, _, hc1, _⟩ := hR.file hq
          have hbox := box_cell (box_kept h.lt hG (b := w.heap.size + 1) (by omega) (two_new w (.cells #[.int .i64 (K : Int)] 3) (.cells #[pt qs[p].q] 96)))
          have hbos := box_cell (box_kept h.lt hG (b := w.heap.size) (Nat.le_refl _) (two_old w (.cells #[.int .i64 (K : Int)] 3) (.cells #[pt qs[p].q] 96)))
          have hqF : F qs[p].q := (h.cf hq).sub _ (.inl rfl)
          have hql := h.lt _ hqF
          refine (gCut1 V (w.heap.size + 1) w.heap.size qs[p].q A' _ cap' qs[p].f.mark K hbox hbos (by omega) (by omega) e0 e1 (hR.fzq hq) (by omega) hc1).mono ?_
          rintro e w' ⟨rfl, m, rfl⟩
          have hr := hR.cf hq
          have ho := hr.obj
          have hown := hr.own
          rw [hv'] at hown
          have hR2 := hR.cells' (V' := ((V.setCell ⟨qs[p].q, 0, none⟩ (.slice A' K cap')).setCell ⟨qs[p].q, 1, none⟩ (.int .i64 ((min qs[p].f.mark K : Nat) : Int))).drewN m) hq (f := ⟨nm, qs[p].f.bs.take K, min qs[p].f.mark K⟩) (v := .slice A' K cap') hqn.symm
            (by show ((V.setCell ⟨qs[p].q, 0, none⟩ (.slice A' K cap')).setCell ⟨qs[p].q, 1, none⟩ (.int .i64 ((min qs[p].f.mark K : Nat) : Int))).heap.size = _; rw [set_size, set_size])
            (fun x hx => (set_blk _ _ _ _ hx).trans (set_blk _ _ _ _ hx))
            (by show ((V.setCell ⟨qs[p].q, 0, none⟩ (.slice A' K cap')).setCell ⟨qs[p].q, 1, none⟩ (.int .i64 ((min qs[p].f.mark K : Nat) : Int))).heap[qs[p].q]? = _; simp [World.setCell, Array.getElem?_modify, ho]) (hown.take (by omega)) (fun x e => by rw [hv']; cases A' with | none => cases e | some a => exact e)
            (by show min qs[p].f.mark K ≤ (qs[p].f.bs.take K).length; rw [List.length_take]; omega) hd (by show (qs[p].f.bs.take K).length ≤ _; rw [List.length_take]; omega)
          exact ⟨rfl, hR2.ends (fun k e => .inl e) (Grow.of_new (hbd n) (((hG.set (p := ⟨qs[p].q, 0, none⟩) (.inl hqF) _).set (p := ⟨qs[p].q, 1, none⟩) (.inl hqF) _).drewN m)) h.lt⟩))
        generalize (⟨nm, qs[p].f.bs.take K, min qs[p].f.mark K⟩ : Fl) = f at *
        generalize qs[p].q = q at *
        clear h hn hE hC hfa hde hqn hat hv hfl hL
        go_enter Tryz.func163, Tryz.ntmps163
        go_wp2_with (first
          | (go_at_call 56; refine FI.out.mono ?_; rintro e w1 ⟨rfl, rfl⟩))
        go_quiet (fail)
        go_wp2_with (first
          | (go_at_call 54; refine (WK.out _).mono ?_; rintro e w2 ⟨rfl, ht⟩))
        go_ret
        exact ⟨rfl, ht⟩
  · have FI := Lib.hid (fun V (hb : Below w.heap.size w V) => gFind_no V g D F mb fp es qs (H.out.below hb) nm hn)
    have hE : cutE D nm k = nmE D nm := by unfold cutE; rw [if_neg hn]
    have hC : cut D nm k = D := by unfold cut; rw [if_neg hn]
    rw [hE, hC]
    have hne : (nmE D nm == 0) = false := by simpa using hn
    generalize nmE D nm = E at *
    clear h hn hE hC
    go_enter Tryz.func163, Tryz.ntmps163
    go_wp2_with (first
      | (go_at_call 56; refine (FI.out _ (by first | exact Below.refl _ _ | exact (Below.refl _ _).alloc (Nat.le_refl _) _)).mono ?_; rintro e w1 ⟨rfl, rfl⟩))
    go_ret
    exact ⟨rfl, RCk.turn H.out (by first | exact hb0.alloc hb0.size _)⟩
end Go.Proofs.YtamglegdgcehaaaGreat
