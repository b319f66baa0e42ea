/-
  Layer 7: the landed disk: a work, counted, or the power goes instead. (Written by wip/tools/gwork.py.)
  Layer 7: the landed disk: Sync.
  Layer 7: the landed disk: Remove.
  Layer 7: the landed disk: a file is put under a name; Rename.
-/
import Derived.Test.YtamglegdgcehaaaGreatZ31
set_option linter.unusedVariables false
namespace Go.Proofs.YtamglegdgcehaaaGreat
open Go.RowKit Go.Maps

theorem fall_take {keep : List Int} {l : List Fl} (h : l.length ≤ 20) : fall (keep.take 20) l = fall keep l := by
  unfold fall
  apply List.ext_getElem
  · simp
  · intro i h1 h2
    have hi : i < l.length := by simpa using h2
    have hi' : i < 20 := by omega
    simp only [List.getElem_mapIdx]
    unfold fallF
    have e1 : (i < (keep.take 20).length) = (i < keep.length) := by rw [List.length_take]; exact propext ⟨fun h => by omega, fun h => by omega⟩
    have e2 : (keep.take 20).getD i 0 = keep.getD i 0 := by
      rw [List.getD_eq_getElem?_getD, List.getD_eq_getElem?_getD, List.getElem?_take, if_pos hi']
    simp only [e1, e2]
theorem fall_nil (l : List Fl) (h : ∀ f ∈ l, f.mark ≤ f.bs.length) : True := trivial
/-- One work fewer is left. -/
def less (D : Dk) : Dk := { D with left := if 0 < D.left then D.left - 1 else D.left }
theorem less_ok {D : Dk} (h : D.ok) : (less D).ok := ok_left h _ (by have := h.low; split <;> omega) (by have := h.high; split <;> omega)
set_option maxRecDepth 100000 in
set_option maxHeartbeats 8000000 in
/-- The power goes. -/
theorem gWork_yes (w : World) (g : Nat) (D : Dk) (F : Nat → Prop) (mb : Nat) (fp : Option Addr) (es : List (Lit × DataW Empty)) (qs : List Cf) (h : RC w g D F mb fp es qs) (hd : D.dead = false) (hl : D.left = 0) (v : Value) :
    Calls Tryz.prog 54 #[pt g, v] w fun e w' => e = .returned (.int .i64 71) ∧ Turns RCk w g F (crash D D.keep) w' := by
  rcases h.fail hd with ⟨h0, _⟩ | ⟨_, p, kv, rfl, hp, hI, hpF, hkF⟩
  · omega
  obtain ⟨A, c, rfl, hx, hc1, hc2, _⟩ := hI.form
  have c2 := h.c2
  have z2 := h.fz 2
  rw [hl] at hp
  have p0 : w.cell? ⟨p, 0, none⟩ = some (.int .i64 0) := cell_of_row w p 0 _ _ (0, 0) hp
  have p1 : w.cell? ⟨p, 1, none⟩ = some (.slice A (D.keep.take 20).length c) := cell_of_row w p 1 _ _ (0, 0) hp
  have hA : 0 < (D.keep.take 20).length → InF (fun k => k < w.heap.size ∧ k ≠ g ∧ ∀ c ∈ qs, k ≠ c.q) A := fun h0 a ea => by
    have hk : F a.block := hkF _ (by rw [ea]; rfl)
    rcases hI.2 with ⟨e, _⟩ | ⟨q, cap, cur, e, _, hh, _⟩
    · injection e with e
      rw [ea] at e
      cases e
    · injection e with e
      rw [ea] at e
      injection e with e
      subst e
      refine ⟨h.lt _ hk, fun e2 => ?_, fun c' hc' e2 => ?_⟩
      · simp only at e2
        rw [e2, h.obj] at hh
        injection hh with hh
        injection hh with _ hh _
        exact absurd hh (by decide)
      · exact (h.each c' hc').ne_t (.inl rfl) hh (by decide) (by decide) e2.symm
  have FA := Lib.hid (fun V (hb : Below w.heap.size w V) => gFall V g D F mb (some ⟨p, 0, none⟩) es qs (h.below hb) A (D.keep.take 20).length c (D.keep.take 20) (hx.on (F := F) (fun a ea => hkF _ (by rw [ea]; rfl)) (fun k e => hb.block k (h.lt k e))) (fun h0 a ea => ⟨Nat.lt_of_lt_of_le (hA h0 a ea).1 hb.size, (hA h0 a ea).2⟩))
  have hgl := h.lt g h.fg
  have H := Lib.hid h
  generalize (D.keep.take 20).length = kn at *
  clear h hI hx hA hp
  go_enter Tryz.func54, Tryz.ntmps54
  go_wp2_with (first
    | (go_at_call 86; refine (FA.out _ (by first | exact Below.refl _ _ | exact (Below.refl _ _).drew | exact below_drewN (Below.refl _ _) _)).mono ?_; rintro e w1 ⟨rfl, hG, qs', hR, hkp⟩; have hc2 := hR.c2; have hz2 := hR.fz 2))
  go_ret
  have hfew := H.out.ok.few
  rw [fall_take hfew] at hR
  have hC : crash D D.keep = ⟨fall D.keep D.l, true, -1, D.keep⟩ := by unfold crash; rw [hd]; rfl
  have hO := hR.ok
  have ho := hR.obj
  have hR2 := hR.obj' (V' := w1.setCell ⟨g, 2, none⟩ (.pointer none)) (D' := ⟨fall D.keep D.l, true, -1, D.keep⟩) (fp' := none) rfl (by simp [World.setCell, Array.getElem?_modify, ho]) (fun x _ hx _ => set_blk _ _ _ _ hx) (fun _ e => e) (fun x e => by rw [set_size]; exact hR.lt x e) (fun h => by cases h) hR.gone ⟨hO.sorted, hO.marks, hO.few, hO.sum, by show (-1 : Int) ≤ -1; omega, by show (-1 : Int) ≤ _; omega⟩
  rw [hC]
  exact ⟨rfl, hR2.ends (fun k e => .inl e) (hG.set (p := ⟨g, 2, none⟩) (.inl H.out.fg) _) H.out.lt⟩
set_option maxRecDepth 100000 in
set_option maxHeartbeats 8000000 in
theorem gWork_Append (w : World) (g : Nat) (D : Dk) (F : Nat → Prop) (mb : Nat) (fp : Option Addr) (es : List (Lit × DataW Empty)) (qs : List Cf) (h : RC w g D F mb fp es qs) (hd : D.dead = false) (hl : D.left ≠ 0) (caps : Array Value) (Q : World → Prop)
    (hdo : ∀ V, RC V g (less D) F mb fp es qs → V.heap.size = w.heap.size → Grow F w V → Calls Tryz.prog 55 caps V fun e w' => e = .returned (.tuple #[]) ∧ Q w') :
    Calls Tryz.prog 54 #[pt g, .func (.func 55) #[] caps] w fun e w' => e = .returned (.int .i64 0) ∧ Q w' := by
  have c2 := h.c2
  have HDO := Lib.hid hdo
  clear hdo
  rcases h.fail hd with ⟨h0, rfl⟩ | ⟨hp0, p, kv, rfl, hp, hI, hpF, hkF⟩
  · have hR : RC w g (less D) F mb none es qs := h.obj' (D' := less D) rfl h.obj (fun _ _ _ _ => rfl) (fun _ e => e) h.lt (fun _ => .inl ⟨by show (if 0 < D.left then D.left - 1 else D.left) < 0; rw [if_neg (by omega)]; exact h0, rfl⟩) h.gone (less_ok h.ok)
    have DO := Lib.hid (HDO.out w hR rfl (Grow.refl _ _))
    clear HDO h hR
    go_enter Tryz.func54, Tryz.ntmps54
    go_wp2_with (first
      | (go_at_call 55; refine DO.out.mono ?_; rintro e w1 ⟨rfl, hQ⟩))
    go_ret
    exact ⟨rfl, hQ⟩
  · have p0 : w.cell? ⟨p, 0, none⟩ = some (.int .i64 D.left) := cell_of_row w p 0 _ _ (0, 0) hp
    have pz : w.frozen? ⟨p, 0, none⟩ = false := by simp [World.frozen?, hp]
    have hgp : g ≠ p := fun e => by
      rw [← e, h.obj] at hp
      injection hp with hp
      injection hp with _ hp _
      exact absurd hp (by decide)
    have hlo := h.ok.low
    have hhi := h.ok.high
    have hR : ∀ V : World, V = w → RC (V.setCell ⟨p, 0, none⟩ (.int .i64 (D.left - 1))) g (less D) F mb (some ⟨p, 0, none⟩) es qs := by
      rintro V rfl
      have hlq : (less D).left = D.left - 1 := by show (if 0 < D.left then D.left - 1 else D.left) = _; rw [if_pos (by omega)]
      refine h.obj' (D' := less D) rfl ((set_blk _ _ _ _ hgp).trans h.obj) (fun x hx _ hn => set_blk _ _ _ _ (fun e => hn #[.int .i64 D.left, kv] (by rw [e]; exact hp))) (fun _ e => e) (fun x e => by rw [set_size]; exact h.lt x e) (fun _ => .inr ⟨by rw [hlq]; omega, p, kv, rfl, by rw [hlq]; simp [World.setCell, Array.getElem?_modify, hp], hI.onS (fun x e => set_blk _ _ _ _ (fun e2 => ?_)), hpF, hkF⟩) h.gone (less_ok h.ok)
      rcases hI.2 with ⟨ev, _⟩ | ⟨q, cap, cur, ev, _, hh, _⟩
      · rw [ev] at e
        cases e
      · rw [ev] at e
        have e' : some q = some x := e
        injection e' with e'
        rw [e', e2, hp] at hh
        injection hh with hh
        injection hh with _ hh _
        exact absurd hh (by decide)
    have hG : Grow F w (w.setCell ⟨p, 0, none⟩ (.int .i64 (D.left - 1))) := (Grow.refl F w).set (p := ⟨p, 0, none⟩) (.inl hpF) _
    have hb : ∀ n, Below w.heap.size (w.setCell ⟨p, 0, none⟩ (.int .i64 (D.left - 1))) ((w.setCell ⟨p, 0, none⟩ (.int .i64 (D.left - 1))).drewN n) := fun n => below_drewN (Below.refl _ _) n
    have DO := Lib.hid (fun n => HDO.out ((w.setCell ⟨p, 0, none⟩ (.int .i64 (D.left - 1))).drewN n) ((hR w rfl).below (below_drewN (Below.refl _ _) n)) (set_size _ _ _) (hG.drewN n))
    obtain ⟨l, hll⟩ : ∃ l, D.left = l := ⟨_, rfl⟩
    have hl0 : (l == 0) = false := by rw [← hll]; simpa using hl
    have hw1 : IntKind.i64.wrap (l - 1) = l - 1 := IntWalk.i64_in _ (by omega)
    rw [hll] at DO p0
    clear HDO h hR hG hb hI hp
    go_enter Tryz.func54, Tryz.ntmps54
    go_wp2_with (first
      | (go_at_call 55; first | (refine (DO.out 0).mono ?_; rintro e w1 ⟨rfl, hQ⟩) | (refine (DO.out 1).mono ?_; rintro e w1 ⟨rfl, hQ⟩)))
    all_goals first
      | (go_ret; exact ⟨rfl, hQ⟩)

set_option maxRecDepth 100000 in
set_option maxHeartbeats 8000000 in
theorem gWork_Sync (w : World) (g : Nat) (D : Dk) (F : Nat → Prop) (mb : Nat) (fp : Option Addr) (es : List (Lit × DataW Empty)) (qs : List Cf) (h : RC w g D F mb fp es qs) (hd : D.dead = false) (hl : D.left ≠ 0) (caps : Array Value) (Q : World → Prop)
    (hdo : ∀ V, RC V g (less D) F mb fp es qs → V.heap.size = w.heap.size → Grow F w V → Calls Tryz.prog 57 caps V fun e w' => e = .returned (.tuple #[]) ∧ Q w') :
    Calls Tryz.prog 54 #[pt g, .func (.func 57) #[] caps] w fun e w' => e = .returned (.int .i64 0) ∧ Q w' := by
  have c2 := h.c2
  have HDO := Lib.hid hdo
  clear hdo
  rcases h.fail hd with ⟨h0, rfl⟩ | ⟨hp0, p, kv, rfl, hp, hI, hpF, hkF⟩
  · have hR : RC w g (less D) F mb none es qs := h.obj' (D' := less D) rfl h.obj (fun _ _ _ _ => rfl) (fun _ e => e) h.lt (fun _ => .inl ⟨by show (if 0 < D.left then D.left - 1 else D.left) < 0; rw [if_neg (by omega)]; exact h0, rfl⟩) h.gone (less_ok h.ok)
    have DO := Lib.hid (HDO.out w hR rfl (Grow.refl _ _))
    clear HDO h hR
    go_enter Tryz.func54, Tryz.ntmps54
    go_wp2_with (first
      | (go_at_call 57; refine DO.out.mono ?_; rintro e w1 ⟨rfl, hQ⟩))
    go_ret
    exact ⟨rfl, hQ⟩
  · have p0 : w.cell? ⟨p, 0, none⟩ = some (.int .i64 D.left) := cell_of_row w p 0 _ _ (0, 0) hp
    have pz : w.frozen? ⟨p, 0, none⟩ = false := by simp [World.frozen?, hp]
    have hgp : g ≠ p := fun e => by
      rw [← e, h.obj] at hp
      injection hp with hp
      injection hp with _ hp _
      exact absurd hp (by decide)
    have hlo := h.ok.low
    have hhi := h.ok.high
    have hR : ∀ V : World, V = w → RC (V.setCell ⟨p, 0, none⟩ (.int .i64 (D.left - 1))) g (less D) F mb (some ⟨p, 0, none⟩) es qs := by
      rintro V rfl
      have hlq : (less D).left = D.left - 1 := by show (if 0 < D.left then D.left - 1 else D.left) = _; rw [if_pos (by omega)]
      refine h.obj' (D' := less D) rfl ((set_blk _ _ _ _ hgp).trans h.obj) (fun x hx _ hn => set_blk _ _ _ _ (fun e => hn #[.int .i64 D.left, kv] (by rw [e]; exact hp))) (fun _ e => e) (fun x e => by rw [set_size]; exact h.lt x e) (fun _ => .inr ⟨by rw [hlq]; omega, p, kv, rfl, by rw [hlq]; simp [World.setCell, Array.getElem?_modify, hp], hI.onS (fun x e => set_blk _ _ _ _ (fun e2 => ?_)), hpF, hkF⟩) h.gone (less_ok h.ok)
      rcases hI.2 with ⟨ev, _⟩ | ⟨q, cap, cur, ev, _, hh, _⟩
      · rw [ev] at e
        cases e
      · rw [ev] at e
        have e' : some q = some x := e
        injection e' with e'
        rw [e', e2, hp] at hh
        injection hh with hh
        injection hh with _ hh _
        exact absurd hh (by decide)
    have hG : Grow F w (w.setCell ⟨p, 0, none⟩ (.int .i64 (D.left - 1))) := (Grow.refl F w).set (p := ⟨p, 0, none⟩) (.inl hpF) _
    have hb : ∀ n, Below w.heap.size (w.setCell ⟨p, 0, none⟩ (.int .i64 (D.left - 1))) ((w.setCell ⟨p, 0, none⟩ (.int .i64 (D.left - 1))).drewN n) := fun n => below_drewN (Below.refl _ _) n
    have DO := Lib.hid (fun n => HDO.out ((w.setCell ⟨p, 0, none⟩ (.int .i64 (D.left - 1))).drewN n) ((hR w rfl).below (below_drewN (Below.refl _ _) n)) (set_size _ _ _) (hG.drewN n))
    obtain ⟨l, hll⟩ : ∃ l, D.left = l := ⟨_, rfl⟩
    have hl0 : (l == 0) = false := by rw [← hll]; simpa using hl
    have hw1 : IntKind.i64.wrap (l - 1) = l - 1 := IntWalk.i64_in _ (by omega)
    rw [hll] at DO p0
    clear HDO h hR hG hb hI hp
    go_enter Tryz.func54, Tryz.ntmps54
    go_wp2_with (first
      | (go_at_call 57; first | (refine (DO.out 0).mono ?_; rintro e w1 ⟨rfl, hQ⟩) | (refine (DO.out 1).mono ?_; rintro e w1 ⟨rfl, hQ⟩)))
    all_goals first
      | (go_ret; exact ⟨rfl, hQ⟩)

set_option maxRecDepth 100000 in
set_option maxHeartbeats 8000000 in
theorem gWork_Cut (w : World) (g : Nat) (D : Dk) (F : Nat → Prop) (mb : Nat) (fp : Option Addr) (es : List (Lit × DataW Empty)) (qs : List Cf) (h : RC w g D F mb fp es qs) (hd : D.dead = false) (hl : D.left ≠ 0) (caps : Array Value) (Q : World → Prop)
    (hdo : ∀ V, RC V g (less D) F mb fp es qs → V.heap.size = w.heap.size → Grow F w V → Calls Tryz.prog 179 caps V fun e w' => e = .returned (.tuple #[]) ∧ Q w') :
    Calls Tryz.prog 54 #[pt g, .func (.func 179) #[] caps] w fun e w' => e = .returned (.int .i64 0) ∧ Q w' := by
  have c2 := h.c2
  have HDO := Lib.hid hdo
  clear hdo
  rcases h.fail hd with ⟨h0, rfl⟩ | ⟨hp0, p, kv, rfl, hp, hI, hpF, hkF⟩
  · have hR : RC w g (less D) F mb none es qs := h.obj' (D' := less D) rfl h.obj (fun _ _ _ _ => rfl) (fun _ e => e) h.lt (fun _ => .inl ⟨by show (if 0 < D.left then D.left - 1 else D.left) < 0; rw [if_neg (by omega)]; exact h0, rfl⟩) h.gone (less_ok h.ok)
    have DO := Lib.hid (HDO.out w hR rfl (Grow.refl _ _))
    clear HDO h hR
    go_enter Tryz.func54, Tryz.ntmps54
    go_wp2_with (first
      | (go_at_call 179; refine DO.out.mono ?_; rintro e w1 ⟨rfl, hQ⟩))
    go_ret
    exact ⟨rfl, hQ⟩
  · have p0 : w.cell? ⟨p, 0, none⟩ = some (.int .i64 D.left) := cell_of_row w p 0 _ _ (0, 0) hp
    have pz : w.frozen? ⟨p, 0, none⟩ = false := by simp [World.frozen?, hp]
    have hgp : g ≠ p := fun e => by
      rw [← e, h.obj] at hp
      injection hp with hp
      injection hp with _ hp _
      exact absurd hp (by decide)
    have hlo := h.ok.low
    have hhi := h.ok.high
    have hR : ∀ V : World, V = w → RC (V.setCell ⟨p, 0, none⟩ (.int .i64 (D.left - 1))) g (less D) F mb (some ⟨p, 0, none⟩) es qs := by
      rintro V rfl
      have hlq : (less D).left = D.left - 1 := by show (if 0 < D.left then D.left - 1 else D.left) = _; rw [if_pos (by omega)]
      refine h.obj' (D' := less D) rfl ((set_blk _ _ _ _ hgp).trans h.obj) (fun x hx _ hn => set_blk _ _ _ _ (fun e => hn #[.int .i64 D.left, kv] (by rw [e]; exact hp))) (fun _ e => e) (fun x e => by rw [set_size]; exact h.lt x e) (fun _ => .inr ⟨by rw [hlq]; omega, p, kv, rfl, by rw [hlq]; simp [World.setCell, Array.getElem?_modify, hp], hI.onS (fun x e => set_blk _ _ _ _ (fun e2 => ?_)), hpF, hkF⟩) h.gone (less_ok h.ok)
      rcases hI.2 with ⟨ev, _⟩ | ⟨q, cap, cur, ev, _, hh, _⟩
      · rw [ev] at e
        cases e
      · rw [ev] at e
        have e' : some q = some x := e
        injection e' with e'
        rw [e', e2, hp] at hh
        injection hh with hh
        injection hh with _ hh _
        exact absurd hh (by decide)
    have hG : Grow F w (w.setCell ⟨p, 0, none⟩ (.int .i64 (D.left - 1))) := (Grow.refl F w).set (p := ⟨p, 0, none⟩) (.inl hpF) _
    have hb : ∀ n, Below w.heap.size (w.setCell ⟨p, 0, none⟩ (.int .i64 (D.left - 1))) ((w.setCell ⟨p, 0, none⟩ (.int .i64 (D.left - 1))).drewN n) := fun n => below_drewN (Below.refl _ _) n
    have DO := Lib.hid (fun n => HDO.out ((w.setCell ⟨p, 0, none⟩ (.int .i64 (D.left - 1))).drewN n) ((hR w rfl).below (below_drewN (Below.refl _ _) n)) (set_size _ _ _) (hG.drewN n))
    obtain ⟨l, hll⟩ : ∃ l, D.left = l := ⟨_, rfl⟩
    have hl0 : (l == 0) = false := by rw [← hll]; simpa using hl
    have hw1 : IntKind.i64.wrap (l - 1) = l - 1 := IntWalk.i64_in _ (by omega)
    rw [hll] at DO p0
    clear HDO h hR hG hb hI hp
    go_enter Tryz.func54, Tryz.ntmps54
    go_wp2_with (first
      | (go_at_call 179; first | (refine (DO.out 0).mono ?_; rintro e w1 ⟨rfl, hQ⟩) | (refine (DO.out 1).mono ?_; rintro e w1 ⟨rfl, hQ⟩)))
    all_goals first
      | (go_ret; exact ⟨rfl, hQ⟩)

set_option maxRecDepth 100000 in
set_option maxHeartbeats 8000000 in
theorem gWork_Rename (w : World) (g : Nat) (D : Dk) (F : Nat → Prop) (mb : Nat) (fp : Option Addr) (es : List (Lit × DataW Empty)) (qs : List Cf) (h : RC w g D F mb fp es qs) (hd : D.dead = false) (hl : D.left ≠ 0) (caps : Array Value) (Q : World → Prop)
    (hdo : ∀ V, RC V g (less D) F mb fp es qs → V.heap.size = w.heap.size → Grow F w V → Calls Tryz.prog 133 caps V fun e w' => e = .returned (.tuple #[]) ∧ Q w') :
    Calls Tryz.prog 54 #[pt g, .func (.func 133) #[] caps] w fun e w' => e = .returned (.int .i64 0) ∧ Q w' := by
  have c2 := h.c2
  have HDO := Lib.hid hdo
  clear hdo
  rcases h.fail hd with ⟨h0, rfl⟩ | ⟨hp0, p, kv, rfl, hp, hI, hpF, hkF⟩
  · have hR : RC w g (less D) F mb none es qs := h.obj' (D' := less D) rfl h.obj (fun _ _ _ _ => rfl) (fun _ e => e) h.lt (fun _ => .inl ⟨by show (if 0 < D.left then D.left - 1 else D.left) < 0; rw [if_neg (by omega)]; exact h0, rfl⟩) h.gone (less_ok h.ok)
    have DO := Lib.hid (HDO.out w hR rfl (Grow.refl _ _))
    clear HDO h hR
    go_enter Tryz.func54, Tryz.ntmps54
    go_wp2_with (first
      | (go_at_call 133; refine DO.out.mono ?_; rintro e w1 ⟨rfl, hQ⟩))
    go_ret
    exact ⟨rfl, hQ⟩
  · have p0 : w.cell? ⟨p, 0, none⟩ = some (.int .i64 D.left) := cell_of_row w p 0 _ _ (0, 0) hp
    have pz : w.frozen? ⟨p, 0, none⟩ = false := by simp [World.frozen?, hp]
    have hgp : g ≠ p := fun e => by
      rw [← e, h.obj] at hp
      injection hp with hp
      injection hp with _ hp _
      exact absurd hp (by decide)
    have hlo := h.ok.low
    have hhi := h.ok.high
    have hR : ∀ V : World, V = w → RC (V.setCell ⟨p, 0, none⟩ (.int .i64 (D.left - 1))) g (less D) F mb (some ⟨p, 0, none⟩) es qs := by
      rintro V rfl
      have hlq : (less D).left = D.left - 1 := by show (if 0 < D.left then D.left - 1 else D.left) = _; rw [if_pos (by omega)]
      refine h.obj' (D' := less D) rfl ((set_blk _ _ _ _ hgp).trans h.obj) (fun x hx _ hn => set_blk _ _ _ _ (fun e => hn #[.int .i64 D.left, kv] (by rw [e]; exact hp))) (fun _ e => e) (fun x e => by rw [set_size]; exact h.lt x e) (fun _ => .inr ⟨by rw [hlq]; omega, p, kv, rfl, by rw [hlq]; simp [World.setCell, Array.getElem?_modify, hp], hI.onS (fun x e => set_blk _ _ _ _ (fun e2 => ?_)), hpF, hkF⟩) h.gone (less_ok h.ok)
      rcases hI.2 with ⟨ev, _⟩ | ⟨q, cap, cur, ev, _, hh, _⟩
      · rw [ev] at e
        cases e
      · rw [ev] at e
        have e' : some q = some x := e
        injection e' with e'
        rw [e', e2, hp] at hh
        injection hh with hh
        injection hh with _ hh _
        exact absurd hh (by decide)
    have hG : Grow F w (w.setCell ⟨p, 0, none⟩ (.int .i64 (D.left - 1))) := (Grow.refl F w).set (p := ⟨p, 0, none⟩) (.inl hpF) _
    have hb : ∀ n, Below w.heap.size (w.setCell ⟨p, 0, none⟩ (.int .i64 (D.left - 1))) ((w.setCell ⟨p, 0, none⟩ (.int .i64 (D.left - 1))).drewN n) := fun n => below_drewN (Below.refl _ _) n
    have DO := Lib.hid (fun n => HDO.out ((w.setCell ⟨p, 0, none⟩ (.int .i64 (D.left - 1))).drewN n) ((hR w rfl).below (below_drewN (Below.refl _ _) n)) (set_size _ _ _) (hG.drewN n))
    obtain ⟨l, hll⟩ : ∃ l, D.left = l := ⟨_, rfl⟩
    have hl0 : (l == 0) = false := by rw [← hll]; simpa using hl
    have hw1 : IntKind.i64.wrap (l - 1) = l - 1 := IntWalk.i64_in _ (by omega)
    rw [hll] at DO p0
    clear HDO h hR hG hb hI hp
    go_enter Tryz.func54, Tryz.ntmps54
    go_wp2_with (first
      | (go_at_call 133; first | (refine (DO.out 0).mono ?_; rintro e w1 ⟨rfl, hQ⟩) | (refine (DO.out 1).mono ?_; rintro e w1 ⟨rfl, hQ⟩)))
    all_goals first
      | (go_ret; exact ⟨rfl, hQ⟩)

set_option maxRecDepth 100000 in
set_option maxHeartbeats 8000000 in
theorem gWork_Remove (w : World) (g : Nat) (D : Dk) (F : Nat → Prop) (mb : Nat) (fp : Option Addr) (es : List (Lit × DataW Empty)) (qs : List Cf) (h : RC w g D F mb fp es qs) (hd : D.dead = false) (hl : D.left ≠ 0) (caps : Array Value) (Q : World → Prop)
    (hdo : ∀ V, RC V g (less D) F mb fp es qs → V.heap.size = w.heap.size → Grow F w V → Calls Tryz.prog 134 caps V fun e w' => e = .returned (.tuple #[]) ∧ Q w') :
    Calls Tryz.prog 54 #[pt g, .func (.func 134) #[] caps] w fun e w' => e = .returned (.int .i64 0) ∧ Q w' := by
  have c2 := h.c2
  have HDO := Lib.hid hdo
  clear hdo
  rcases h.fail hd with ⟨h0, rfl⟩ | ⟨hp0, p, kv, rfl, hp, hI, hpF, hkF⟩
  · have hR : RC w g (less D) F mb none es qs := h.obj' (D' := less D) rfl h.obj (fun _ _ _ _ => rfl) (fun _ e => e) h.lt (fun _ => .inl ⟨by show (if 0 < D.left then D.left - 1 else D.left) < 0; rw [if_neg (by omega)]; exact h0, rfl⟩) h.gone (less_ok h.ok)
    have DO := Lib.hid (HDO.out w hR rfl (Grow.refl _ _))
    clear HDO h hR
    go_enter Tryz.func54, Tryz.ntmps54
    go_wp2_with (first
      | (go_at_call 134; refine DO.out.mono ?_; rintro e w1 ⟨rfl, hQ⟩))
    go_ret
    exact ⟨rfl, hQ⟩
  · have p0 : w.cell? ⟨p, 0, none⟩ = some (.int .i64 D.left) := cell_of_row w p 0 _ _ (0, 0) hp
    have pz : w.frozen? ⟨p, 0, none⟩ = false := by simp [World.frozen?, hp]
    have hgp : g ≠ p := fun e => by
      rw [← e, h.obj] at hp
      injection hp with hp
      injection hp with _ hp _
      exact absurd hp (by decide)
    have hlo := h.ok.low
    have hhi := h.ok.high
    have hR : ∀ V : World, V = w → RC (V.setCell ⟨p, 0, none⟩ (.int .i64 (D.left - 1))) g (less D) F mb (some ⟨p, 0, none⟩) es qs := by
      rintro V rfl
      have hlq : (less D).left = D.left - 1 := by show (if 0 < D.left then D.left - 1 else D.left) = _; rw [if_pos (by omega)]
      refine h.obj' (D' := less D) rfl ((set_blk _ _ _ _ hgp).trans h.obj) (fun x hx _ hn => set_blk _ _ _ _ (fun e => hn #[.int .i64 D.left, kv] (by rw [e]; exact hp))) (fun _ e => e) (fun x e => by rw [set_size]; exact h.lt x e) (fun _ => .inr ⟨by rw [hlq]; omega, p, kv, rfl, by rw [hlq]; simp [World.setCell, Array.getElem?_modify, hp], hI.onS (fun x e => set_blk _ _ _ _ (fun e2 => ?_)), hpF, hkF⟩) h.gone (less_ok h.ok)
      rcases hI.2 with ⟨ev, _⟩ | ⟨q, cap, cur, ev, _, hh, _⟩
      · rw [ev] at e
        cases e
      · rw [ev] at e
        have e' : some q = some x := e
        injection e' with e'
        rw [e', e2, hp] at hh
        injection hh with hh
        injection hh with _ hh _
        exact absurd hh (by decide)
    have hG : Grow F w (w.setCell ⟨p, 0, none⟩ (.int .i64 (D.left - 1))) := (Grow.refl F w).set (p := ⟨p, 0, none⟩) (.inl hpF) _
    have hb : ∀ n, Below w.heap.size (w.setCell ⟨p, 0, none⟩ (.int .i64 (D.left - 1))) ((w.setCell ⟨p, 0, none⟩ (.int .i64 (D.left - 1))).drewN n) := fun n => below_drewN (Below.refl _ _) n
    have DO := Lib.hid (fun n => HDO.out ((w.setCell ⟨p, 0, none⟩ (.int .i64 (D.left - 1))).drewN n) ((hR w rfl).below (below_drewN (Below.refl _ _) n)) (set_size _ _ _) (hG.drewN n))
    obtain ⟨l, hll⟩ : ∃ l, D.left = l := ⟨_, rfl⟩
    have hl0 : (l == 0) = false := by rw [← hll]; simpa using hl
    have hw1 : IntKind.i64.wrap (l - 1) = l - 1 := IntWalk.i64_in _ (by omega)
    rw [hll] at DO p0
    clear HDO h hR hG hb hI hp
    go_enter Tryz.func54, Tryz.ntmps54
    go_wp2_with (first
      | (go_at_call 134; first | (refine (DO.out 0).mono ?_; rintro e w1 ⟨rfl, hQ⟩) | (refine (DO.out 1).mono ?_; rintro e w1 ⟨rfl, hQ⟩)))
    all_goals first
      | (go_ret; exact ⟨rfl, hQ⟩)

end Go.Proofs.YtamglegdgcehaaaGreat
set_option linter.unusedVariables false
namespace Go.Proofs.YtamglegdgcehaaaGreat
open Go.RowKit Go.Maps

section
variable {V : World} {g : Nat} {D : Dk} {F : Nat → Prop} {mb : Nat} {fp : Option Addr} {es : List (Lit × DataW Empty)} {qs : List Cf}
theorem RC.cf (h : RC V g D F mb fp es qs) {j : Nat} (hj : j < qs.length) : RCf V F qs[j] := h.each _ (List.getElem_mem hj)
theorem RC.fzq (h : RC V g D F mb fp es qs) {j : Nat} (hj : j < qs.length) (i : Nat) : V.frozen? ⟨qs[j].q, i, none⟩ = false := by
  have ho := (h.cf hj).obj
  simp [World.frozen?, ho]
theorem RC.small (h : RC V g D F mb fp es qs) {j : Nat} (hj : j < qs.length) : qs[j].f.mark ≤ qs[j].f.bs.length ∧ qs[j].f.bs.length ≤ 4194304 := by
  have hl : j < D.l.length := by rw [← h.len]; exact hj
  have hm := h.ok.marks _ (List.getElem_mem hl)
  have h1 := sum_take_succ D.l j hl
  have h2 := sum_take_le D.l (j + 1)
  have h3 := h.ok.sum
  rw [h.get hj] at hm h1
  exact ⟨hm, by omega⟩
end
theorem nmE_zero {D : Dk} {s : ByteArray} (h : nmE D s = 0) : D.dead = false ∧ isAt D.l s = true := by
  unfold nmE at h
  cases hd : D.dead with
  | true => rw [hd, if_pos rfl] at h; exact absurd h (by decide)
  | false =>
    rw [hd, if_neg (by decide)] at h
    cases hi : isAt D.l s with
    | true => exact ⟨rfl, rfl⟩
    | false => rw [hi, if_pos rfl] at h; exact absurd h (by decide)
theorem nmE_ne {D : Dk} {s : ByteArray} (h : nmE D s ≠ 0) : decide (nmE D s = 0) = false := decide_eq_false h

set_option maxRecDepth 100000 in
set_option maxHeartbeats 4000000 in
theorem gSync1 (w : World) (bx q : Nat) (A : Option Addr) (L cap : Nat) (hb : w.cell? ⟨bx, 0, none⟩ = some (pt q)) (c0 : w.cell? ⟨q, 0, none⟩ = some (.slice A L cap)) (c1 : ∃ u, w.cell? ⟨q, 1, none⟩ = some u) (z : ∀ i, w.frozen? ⟨q, i, none⟩ = false) :
    Calls Tryz.prog 57 #[pt bx] w fun e w' => e = .returned (.tuple #[]) ∧ ∃ n, w' = (w.setCell ⟨q, 1, none⟩ (.int .i64 (L : Int))).drewN n := by
  obtain ⟨u, c1⟩ := c1
  have z1 := z 1
  go_enter Tryz.func57, Tryz.ntmps57
  go_wp2_with fail
  go_region_with (fail)
  all_goals
    go_wp2_with fail
    first | go_end0 | (refine bodyPost_ret (results_none rfl _ _ _) rfl ?_)
    first | exact ⟨rfl, 0, rfl⟩ | exact ⟨rfl, 1, rfl⟩ | exact ⟨rfl, 2, rfl⟩

theorem Grow.of_new {F : Nat → Prop} {w V V' : World} (h : Below w.heap.size w V) (h2 : Grow F V V') : Grow F w V' := (Grow.of_below h).trans (h2.mono (fun _ e => .inl e))
theorem RCk.turn {w V : World} {g : Nat} {D : Dk} {F : Nat → Prop} {mb : Nat} {fp : Option Addr} {es : List (Lit × DataW Empty)} {qs : List Cf} (h : RC w g D F mb fp es qs) (hb : Below w.heap.size w V) : Turns RCk w g F D V :=
  (h.below hb).ends (fun k e => .inl e) (Grow.of_below hb) h.lt
theorem Turns.new_ {w V V' : World} {g : Nat} {D : Dk} {F : Nat → Prop} (hl : ∀ k, F k → k < w.heap.size) (h : Below w.heap.size w V) (h2 : Turns RCk V g F D V') : Turns RCk w g F D V' := by
  obtain ⟨⟨mb, fp, es, qs, hR⟩, hG⟩ := h2
  refine ⟨⟨mb, fp, es, qs, hR.mono (fun k e => ?_) (fun k e => ?_)⟩, Grow.of_new h hG⟩
  · rcases e with e | e
    · exact .inl e
    · exact .inr ⟨Nat.le_trans h.size e.1, e.2⟩
  · rcases e with e | e
    · exact Nat.lt_of_lt_of_le (hl k e) (Nat.le_trans h.size hG.size)
    · exact e.2
theorem box_kept {w W V : World} {F : Nat → Prop} (hl : ∀ k, F k → k < w.heap.size) (hG : Grow F W V) {b : Nat} {o : Obj} (hb : w.heap.size ≤ b) (hc : W.heap[b]? = some o) : V.heap[b]? = some o :=
  (hG.block b (Array.getElem?_eq_some_iff.1 hc).1 (fun e => by have := hl b e; omega)).trans hc
theorem box_cell {V : World} {b : Nat} {u : Value} {t : TypeId} (h : V.heap[b]? = some (.cells #[u] t (0, 0))) : V.cell? ⟨b, 0, none⟩ = some u := cell_of_row V b 0 _ _ (0, 0) h
theorem less_eq (D : Dk) : (less D).l = D.l ∧ (less D).dead = D.dead ∧ (less D).keep = D.keep := ⟨rfl, rfl, rfl⟩
/-- A file's cells are written where they lie. -/
theorem RC.cells' {V V' : World} {g : Nat} {D : Dk} {F : Nat → Prop} {mb : Nat} {fp : Option Addr} {es : List (Lit × DataW Empty)} {qs : List Cf} (h : RC V g D F mb fp es qs) {i : Nat} (hi : i < qs.length) {f : Fl} {v : Value} (hn : f.name = qs[i].f.name)
    (hs : V'.heap.size = V.heap.size) (hk : ∀ x, x ≠ qs[i].q → V'.heap[x]? = V.heap[x]?) (hobj : V'.heap[qs[i].q]? = some (.cells #[v, .int .i64 (f.mark : Int)] 100 (0, 0))) (hown : Own V 0 v f.bs) (hov : ∀ x, v.ownBlock = some x → qs[i].v.ownBlock = some x)
    (hm : f.mark ≤ f.bs.length) (hd : D.dead = false) (hb : f.bs.length ≤ qs[i].f.bs.length) : RC V' g { D with l := D.l.set i f } F mb fp es (qs.set i ⟨f, qs[i].q, v⟩) := by
  have hr := h.cf hi
  have hownq : ∀ x, qs[i].v.ownBlock = some x → x ≠ qs[i].q := fun x e ex => by
    rcases hr.own.2 with ⟨e2, _⟩ | ⟨y, c2, cur, e2, _, hh, _⟩
    · rw [e2] at e
      cases e
    · rw [e2] at e
      have e' : some y = some x := e
      injection e' with e'
      subst e'
      rw [ex, hr.obj] at hh
      injection hh with hh
      injection hh with _ hh _
      exact absurd hh (by decide)
  exact h.put (c := ⟨f, qs[i].q, v⟩) hi rfl hn (fun _ e => e) (fun x e => by rw [hs]; exact h.lt x e) (fun x _ hx => hk x (fun e => hx (.inl e)))
    ⟨hobj, hown.onS (fun x e => hk x (hownq x (hov x e))), fun x e => hr.sub x (by rcases e with e | e; exact .inl e; exact .inr (hov x e))⟩ (fun x e => .inl (hov x e)) (fun e => by rw [hd] at e; cases e)
    (ok_set h.ok (by rw [← h.len]; exact hi) (by rw [h.get hi]; exact hn) hm (by
      have h3 := h.ok.sum
      rw [h.get hi]
      show _ + f.bs.length ≤ _
      omega))
set_option maxRecDepth 100000 in
set_option maxHeartbeats 8000000 in
theorem gSync (w : World) (g : Nat) (D : Dk) (F : Nat → Prop) (nm : ByteArray) (h : RCk w g D F) :
    Calls Tryz.prog 16 #[pt g, .string nm] w fun e w' => e = .returned (.int .i64 (synE D nm)) ∧ Turns RCk w g F (syn D nm) w' := by
  obtain ⟨mb, fp, es, qs, h⟩ := h
  have H := Lib.hid h
  by_cases hn : nmE D nm = 0
  · obtain ⟨hd, hi⟩ := nmE_zero hn
    obtain ⟨p, hp⟩ : ∃ p, pos D.l nm = p := ⟨_, rfl⟩
    obtain ⟨hq, hqn, hfa, hdl, hde⟩ := h.at_ hp hi
    have FI := Lib.hid (gFind_yes w g D F mb fp es qs h nm hp hn hq)
    by_cases hl : D.left = 0
    · have hE : synE D nm = 71 := by unfold synE workE; rw [hn, if_pos rfl, if_pos hl]
      have hC : syn D nm = crash D D.keep := by unfold syn; rw [hn, if_pos rfl, work_yes hl]
      rw [hE, hC]
      have WK := Lib.hid (fun V (hb : Below w.heap.size w V) (v : Value) => gWork_yes V g D F mb fp es qs (H.out.below hb) hd hl v)
      generalize qs[p].q = q at *
      clear h hn hE hC hfa hde hqn
      go_enter Tryz.func16, Tryz.ntmps16
      go_wp2_with (first
        | (go_at_call 56; refine FI.out.mono ?_; rintro e w1 ⟨rfl, rfl⟩)
        | (go_at_call 54; refine (WK.out _ ((Below.refl _ _).alloc (Nat.le_refl _) _) _).mono ?_; rintro e w2 ⟨rfl, ht⟩))
      go_ret
      exact ⟨rfl, Turns.new_ H.out.lt ((Below.refl _ _).alloc (Nat.le_refl _) _) ht⟩
    · have hE : synE D nm = 0 := by unfold synE workE; rw [hn, if_pos rfl, if_neg hl]
      have hC : syn D nm = { less D with l := (less D).l.set p ⟨nm, qs[p].f.bs, qs[p].f.bs.length⟩ } := by unfold syn; rw [hn, if_pos rfl, work_no hl]; unfold setAt; rw [hp, hfa]; rfl
      rw [hE, hC]
      have WK := Lib.hid (gWork_Sync (w.alloc (.cells #[pt qs[p].q] 96)) g D F mb fp es qs (h.below ((Below.refl _ _).alloc (Nat.le_refl _) _)) hd hl #[pt w.heap.size] (fun w' => Turns RCk w g F { less D with l := (less D).l.set p ⟨nm, qs[p].f.bs, qs[p].f.bs.length⟩ } w') (by
        intro V hR hs hG
        obtain ⟨A, cap, hv, d0, d1, _⟩ := hR.file hq
        have hbox := box_cell (box_kept h.lt hG (Nat.le_refl _) (heap_alloc_new w (.cells #[pt qs[p].q] 96)))
        refine (gSync1 V w.heap.size qs[p].q A _ cap hbox d0 ⟨_, d1⟩ (hR.fzq hq)).mono ?_
        rintro e w' ⟨rfl, m, rfl⟩
        have hr := hR.cf hq
        have ho := hr.obj
        have hR2 := hR.cells' (V' := (V.setCell ⟨qs[p].q, 1, none⟩ (.int .i64 (qs[p].f.bs.length : Int))).drewN m) hq (f := ⟨nm, qs[p].f.bs, qs[p].f.bs.length⟩) (v := qs[p].v) hqn.symm (set_size _ _ _) (fun x hx => set_blk _ _ _ _ hx)
          (by show (V.setCell ⟨qs[p].q, 1, none⟩ (.int .i64 (qs[p].f.bs.length : Int))).heap[qs[p].q]? = _; simp [World.setCell, Array.getElem?_modify, ho]) hr.own (fun _ e => e) (Nat.le_refl _) hd (Nat.le_refl _)
        exact ⟨rfl, hR2.ends (fun k e => .inl e) (Grow.of_new ((Below.refl _ _).alloc (Nat.le_refl _) _) ((hG.set (p := ⟨qs[p].q, 1, none⟩) (.inl (hr.sub _ (.inl rfl))) _).drewN m)) h.lt⟩))
      generalize (⟨nm, qs[p].f.bs, qs[p].f.bs.length⟩ : Fl) = f at *
      generalize qs[p].q = q at *
      clear h hn hE hC hfa hde hqn
      go_enter Tryz.func16, Tryz.ntmps16
      go_wp2_with (first
        | (go_at_call 56; refine FI.out.mono ?_; rintro e w1 ⟨rfl, rfl⟩)
        | (go_at_call 54; refine WK.out.mono ?_; rintro e w2 ⟨rfl, ht⟩))
      go_ret
      exact ⟨rfl, ht⟩
  · have FI := Lib.hid (fun V (hb : Below w.heap.size w V) => gFind_no V g D F mb fp es qs (H.out.below hb) nm hn)
    have hE : synE D nm = nmE D nm := by unfold synE; rw [if_neg hn]
    have hC : syn D nm = D := by unfold syn; rw [if_neg hn]
    rw [hE, hC]
    have hne : (nmE D nm == 0) = false := by simpa using hn
    generalize nmE D nm = E at *
    clear h hn hE hC
    go_enter Tryz.func16, Tryz.ntmps16
    go_wp2_with (first
      | (go_at_call 56; refine (FI.out _ (by first | exact Below.refl _ _ | exact (Below.refl _ _).alloc (Nat.le_refl _) _)).mono ?_; rintro e w1 ⟨rfl, rfl⟩))
    go_ret
    exact ⟨rfl, RCk.turn H.out (by first | exact (Below.refl _ _).alloc (Nat.le_refl _) _)⟩
end Go.Proofs.YtamglegdgcehaaaGreat
set_option linter.unusedVariables false
namespace Go.Proofs.YtamglegdgcehaaaGreat
open Go.RowKit Go.Maps

section
variable {V : World} {g : Nat} {D : Dk} {F : Nat → Prop} {mb : Nat} {fp : Option Addr} {es : List (Lit × DataW Empty)} {qs : List Cf}
set_option maxRecDepth 100000 in
theorem RC.key (h : RC V g D F mb fp es qs) {j : Nat} (hj : j < qs.length) : keyOf Tryz.prog 9 (.string qs[j].f.name) = some (sk qs[j].f.name) := by
  obtain ⟨es', e, hk⟩ := h.map.keysOf
  injection e with e
  subst e
  obtain ⟨v, hv⟩ := hk _ (h.perm.mem_iff.2 (List.mem_map.2 ⟨_, List.getElem_mem hj, rfl⟩))
  obtain ⟨s, e1, e2, e3⟩ := WideMaps.string_of_keyOf Tryz.underlying9 hv
  have e4 : s = qs[j].f.name := (sk_inj (show sk qs[j].f.name = sk s from e2)).symm
  rw [e4] at e3
  exact @WideMaps.keyOf_string_mk Tryz.prog 9 Tryz.underlying9 _ e3
end
theorem keep_all {nm : ByteArray} : ∀ {qs : List Cf}, (∀ c ∈ qs, c.f.name ≠ nm) → (qs.map Cf.ent).filter (fun p => !p.1.sameKey (sk nm)) = qs.map Cf.ent
  | [], _ => rfl
  | c :: qs, h => by
    have h1 : (sk c.f.name).sameKey (sk nm) = false := Maps.sameKey_ne (fun e => h c (by simp) (sk_inj e))
    have h2 := keep_all (qs := qs) (fun x hx => h x (by simp [hx]))
    rw [List.map_cons, List.filter_cons_of_pos (by show (!(sk c.f.name).sameKey (sk nm)) = true; rw [h1]; rfl), h2]
theorem strike_one : ∀ {qs : List Cf} {j : Nat} (hj : j < qs.length), qs.Pairwise (fun a b => a.f.name ≠ b.f.name) → (qs.map Cf.ent).filter (fun p => !p.1.sameKey (sk qs[j].f.name)) = (qs.take j ++ qs.drop (j + 1)).map Cf.ent
  | c :: qs, 0, _, hp => by
    obtain ⟨h1, _⟩ := List.pairwise_cons.1 hp
    have hs : (sk c.f.name).sameKey (sk c.f.name) = true := WideAt.sameKey_self trivial
    have e := keep_all (nm := c.f.name) (qs := qs) (fun x hx e => h1 x hx e.symm)
    simp only [List.getElem_cons_zero, List.take_zero, List.nil_append, List.drop_succ_cons, List.drop_zero]
    rw [List.map_cons, List.filter_cons_of_neg (by show ¬ (!(sk c.f.name).sameKey (sk c.f.name)) = true; rw [hs]; decide), e]
  | c :: qs, j + 1, hj, hp => by
    obtain ⟨h1, h2⟩ := List.pairwise_cons.1 hp
    have hj' : j < qs.length := by simpa using hj
    have ih := strike_one hj' h2
    have hs : (sk c.f.name).sameKey (sk qs[j].f.name) = false := Maps.sameKey_ne (fun e => h1 _ (List.getElem_mem hj') (sk_inj e))
    simp only [List.getElem_cons_succ, List.take_succ_cons, List.drop_succ_cons, List.cons_append]
    rw [List.map_cons, List.filter_cons_of_pos (by show (!(sk c.f.name).sameKey (sk qs[j].f.name)) = true; rw [hs]; rfl), ih, List.map_cons]

set_option maxRecDepth 100000 in
set_option maxHeartbeats 4000000 in
theorem gRemove1 (w : World) (bd bn g : Nat) (nm : ByteArray) (mb : Nat) (es : List (Lit × DataW Empty)) (hd : w.cell? ⟨bd, 0, none⟩ = some (pt g)) (hn : w.cell? ⟨bn, 0, none⟩ = some (.string nm)) (c0 : w.cell? ⟨g, 0, none⟩ = some (.map (some mb))) (hown : w.ownsMap Tryz.prog 9 fE mb 20 (.map es)) (hkey : keyOf Tryz.prog 9 (.string nm) = some (sk nm)) :
    Calls Tryz.prog 134 #[pt bd, pt bn] w fun e w' => e = .returned (.tuple #[]) ∧ w'.ownsMap Tryz.prog 9 fE mb 20 (.map (es.filter (fun p => !p.1.sameKey (sk nm)))) ∧ w.grownBy w' (some mb) ∧ w'.heap.size = w.heap.size := by
  obtain ⟨w1, hrun, ho1, ht1⟩ := (hown.drew).drop lawK Tryz.underlying79 hkey 0
  have HS := Lib.hid (show w1.heap.size = w.heap.size by obtain ⟨_, _, _, _, _, rfl⟩ := ht1; simp [ChangeMaps.setBlock])
  have HO := Lib.hid (And.intro ho1 ht1)
  clear ho1 ht1 hown hkey
  go_enter Tryz.func134, Tryz.ntmps134
  go_wp2_with fail
  go_region_with (fail)
  all_goals
    go_wp2_with fail
    first | go_end0 | (refine bodyPost_ret (results_none rfl _ _ _) rfl ?_)
    exact ⟨rfl, HO.out.1, ⟨HO.out.2.grown.os, HO.out.2.grown.tape, HO.out.2.grown.output, HO.out.2.grown.size, HO.out.2.grown.block⟩, HS.out⟩

theorem map_cut (qs : List Cf) (a b : Nat) : (qs.take a ++ qs.drop b).map Cf.f = (qs.map Cf.f).take a ++ (qs.map Cf.f).drop b := by rw [List.map_append, List.map_take, List.map_drop]
/-- A file is taken away. -/
theorem RC.gone_ {V V' : World} {g : Nat} {D : Dk} {F : Nat → Prop} {mb : Nat} {fp : Option Addr} {es : List (Lit × DataW Empty)} {qs : List Cf} (h : RC V g D F mb fp es qs) (hd : D.dead = false) {j : Nat} (hj : j < qs.length) {nm : ByteArray} (hn : qs[j].f.name = nm)
    (hm : V'.ownsMap Tryz.prog 9 fE mb 20 (.map (es.filter (fun p => !p.1.sameKey (sk nm))))) (hg : V.grownBy V' (some mb)) :
    RC V' g { D with l := D.l.take j ++ D.l.drop (j + 1) } F mb fp (es.filter (fun p => !p.1.sameKey (sk nm))) (qs.take j ++ qs.drop (j + 1)) := by
  have hsub : (qs.take j ++ qs.drop (j + 1)).Sublist qs := by
    have e : qs = qs.take (j + 1) ++ qs.drop (j + 1) := (List.take_append_drop _ _).symm
    conv => rhs; rw [e]
    exact (List.take_sublist_take_left (Nat.le_succ j)).append (List.Sublist.refl _)
  have hkk : ∀ k, F k → k ≠ mb → V'.heap[k]? = V.heap[k]? := fun k e hne => hg.block k (h.lt k e) (fun e2 => hne (by injection e2))
  refine h.map' (V' := V') (G := F) (es' := es.filter (fun p => !p.1.sameKey (sk nm))) (qs' := qs.take j ++ qs.drop (j + 1)) hd hm hkk (fun _ e => e) (fun k e => Nat.lt_of_lt_of_le (h.lt k e) hg.size) ?_ (fun c hc => ?_) (h.sep.sublist hsub) (by rw [map_cut, h.eq]) (ok_sub h.ok (by
      have e : D.l = D.l.take (j + 1) ++ D.l.drop (j + 1) := (List.take_append_drop _ _).symm
      conv => rhs; rw [e]
      exact (List.take_sublist_take_left (Nat.le_succ j)).append (List.Sublist.refl _)))
  · rw [← strike_one hj h.names_ne, hn]
    exact h.perm.filter _
  · have hc' := hsub.subset hc
    have hr := h.each c hc'
    exact hr.on (fun k e => hkk k (hr.sub k e) (h.notg hc' e).2) hr.sub
theorem two_bel (w : World) (a b : Obj) : Below w.heap.size w ((w.alloc a).alloc b) := ((Below.refl w.heap.size w).alloc (Nat.le_refl _) a).alloc (by simp) b
theorem two_new (w : World) (a b : Obj) : ((w.alloc a).alloc b).heap[w.heap.size + 1]? = some b := by
  have h1 := heap_alloc_new (w.alloc a) b
  have e : (w.alloc a).heap.size = w.heap.size + 1 := by simp
  rwa [e] at h1
theorem two_old (w : World) (a b : Obj) : ((w.alloc a).alloc b).heap[w.heap.size]? = some a := (((Below.refl (w.alloc a).heap.size (w.alloc a)).alloc (Nat.le_refl _) b).block _ (by simp)).trans (heap_alloc_new w a)
theorem Grow.mp {F : Nat → Prop} {w V V' : World} {mb : Nat} (h : Grow F w V) (hm : F mb) (hg : V.grownBy V' (some mb)) : Grow F w V' := h.trans (Grow.by_ hg (fun k e => by injection e with e; subst e; exact .inl hm))
set_option maxRecDepth 100000 in
set_option maxHeartbeats 8000000 in
theorem gRemove (w : World) (g : Nat) (D : Dk) (F : Nat → Prop) (nm : ByteArray) (h : RCk w g D F) :
    Calls Tryz.prog 81 #[pt g, .string nm] w fun e w' => e = .returned (.int .i64 (remE D nm)) ∧ Turns RCk w g F (rem D nm) w' := by
  obtain ⟨mb, fp, es, qs, h⟩ := h
  have H := Lib.hid h
  have hbx := two_bel w (.cells #[pt g] 24) (.cells #[.string nm] 9)
  by_cases hn : nmE D nm = 0
  · obtain ⟨hd, hi⟩ := nmE_zero hn
    obtain ⟨p, hp⟩ : ∃ p, pos D.l nm = p := ⟨_, rfl⟩
    obtain ⟨hq, hqn, hfa, hdl, hde⟩ := h.at_ hp hi
    have FI := Lib.hid (gFind_yes ((w.alloc (.cells #[pt g] 24)).alloc (.cells #[.string nm] 9)) g D F mb fp es qs (h.below hbx) nm hp hn hq)
    by_cases hl : D.left = 0
    · have hE : remE D nm = 71 := by unfold remE synE workE; rw [hn, if_pos rfl, if_pos hl]
      have hC : rem D nm = crash D D.keep := by unfold rem; rw [hn, if_pos rfl, work_yes hl]
      rw [hE, hC]
      have WK := Lib.hid (fun V (hb : Below w.heap.size w V) (v : Value) => gWork_yes V g D F mb fp es qs (H.out.below hb) hd hl v)
      generalize qs[p].q = q at *
      clear h hn hE hC hfa hde hqn
      go_enter Tryz.func81, Tryz.ntmps81
      go_wp2_with (first
        | (go_at_call 56; refine FI.out.mono ?_; rintro e w1 ⟨rfl, rfl⟩)
        | (go_at_call 54; refine (WK.out _ (by first | exact hbx | exact hbx.drew) _).mono ?_; rintro e w2 ⟨rfl, ht⟩))
      go_ret
      exact ⟨rfl, Turns.new_ H.out.lt (by first | exact hbx | exact hbx.drew) ht⟩
    · have hE : remE D nm = 0 := by unfold remE synE workE; rw [hn, if_pos rfl, if_neg hl]
      have hC : rem D nm = { less D with l := (less D).l.take p ++ (less D).l.drop (p + 1) } := by unfold rem; rw [hn, if_pos rfl, work_no hl]; unfold without; rw [hi, if_pos rfl, hp]; rfl
      rw [hE, hC]
      have WK := Lib.hid (gWork_Remove ((w.alloc (.cells #[pt g] 24)).alloc (.cells #[.string nm] 9)) g D F mb fp es qs (h.below hbx) hd hl #[pt w.heap.size, pt (w.heap.size + 1)] (fun w' => Turns RCk w g F { less D with l := (less D).l.take p ++ (less D).l.drop (p + 1) } w') (by
        intro V hR hs hG
        have hb1 := box_cell (box_kept h.lt hG (b := w.heap.size) (Nat.le_refl _) (two_old w (.cells #[pt g] 24) (.cells #[.string nm] 9)))
        have hb2 := box_cell (box_kept h.lt hG (b := w.heap.size + 1) (by omega) (two_new w (.cells #[pt g] 24) (.cells #[.string nm] 9)))
        have hk := hR.key hq
        rw [hqn] at hk
        refine (gRemove1 V w.heap.size (w.heap.size + 1) g nm mb es hb1 hb2 hR.c0 hR.map hk).mono ?_
        rintro e w' ⟨rfl, hm, hg, _⟩
        exact ⟨rfl, (hR.gone_ hd hq hqn hm hg).ends (fun k e => .inl e) (Grow.of_new hbx (hG.mp h.fm hg)) h.lt⟩))
      generalize qs[p].q = q at *
      clear h hn hE hC hfa hde hqn
      go_enter Tryz.func81, Tryz.ntmps81
      go_wp2_with (first
        | (go_at_call 56; refine FI.out.mono ?_; rintro e w1 ⟨rfl, rfl⟩)
        | (go_at_call 54; refine WK.out.mono ?_; rintro e w2 ⟨rfl, ht⟩))
      go_ret
      exact ⟨rfl, ht⟩
  · have FI := Lib.hid (gFind_no ((w.alloc (.cells #[pt g] 24)).alloc (.cells #[.string nm] 9)) g D F mb fp es qs (H.out.below hbx) nm hn)
    have hE : remE D nm = nmE D nm := by unfold remE synE; rw [if_neg hn]
    have hC : rem D nm = D := by unfold rem; rw [if_neg hn]
    rw [hE, hC]
    have hne : (nmE D nm == 0) = false := by simpa using hn
    generalize nmE D nm = E at *
    clear h hn hE hC
    go_enter Tryz.func81, Tryz.ntmps81
    go_wp2_with (first
      | (go_at_call 56; refine FI.out.mono ?_; rintro e w1 ⟨rfl, rfl⟩))
    go_ret
    exact ⟨rfl, RCk.turn H.out hbx⟩
end Go.Proofs.YtamglegdgcehaaaGreat
set_option linter.unusedVariables false
namespace Go.Proofs.YtamglegdgcehaaaGreat
open Go.RowKit Go.Maps

theorem grown_undrew {w V : World} {r : Option Nat} (h : w.drew.grownBy V r) : w.grownBy V r := ⟨h.os, h.tape, h.output, h.size, h.block⟩
theorem isAt_no {l : List Fl} (hs : l.Pairwise (fun a b => nl a.name b.name = true)) {s : ByteArray} (h : isAt l s = false) : ∀ f ∈ l, f.name ≠ s := fun f hf e => by
  obtain ⟨i, hi, rfl⟩ := List.mem_iff_getElem.1 hf
  have := (isAt_of hs hi).2
  rw [e, h] at this
  cases this
/-- A file is put under its name. -/
theorem RC.stored {V V' : World} {g : Nat} {D : Dk} {F G : Nat → Prop} {mb : Nat} {fp : Option Addr} {es : List (Lit × DataW Empty)} {qs : List Cf} (h : RC V g D F mb fp es qs) (hd : D.dead = false) {c : Cf} {t : ByteArray} (hn : c.f.name = t)
    (hm : V'.ownsMap Tryz.prog 9 fE mb 21 ((DataW.map es).put (sk t) (.lit (.int .i64 (c.q : Int))))) (hk : ∀ k, F k → k ≠ mb → V'.heap[k]? = V.heap[k]?) (hFG : ∀ k, F k → G k) (hGl : ∀ k, G k → k < V'.heap.size)
    (hc : RCf V' G c) (hsep : ∀ c' ∈ qs, ∀ k, c.B k → ¬ c'.B k) (hok : ({ D with l := withF D.l c.f } : Dk).ok) : ∃ es' qs', RC V' g { D with l := withF D.l c.f } G mb fp es' qs' := by
  obtain ⟨a, ha⟩ : ∃ a, pos D.l t = a := ⟨_, rfl⟩
  obtain ⟨b, hb⟩ : ∃ b, a + (if isAt D.l t = true then 1 else 0) = b := ⟨_, rfl⟩
  have hab : a ≤ b := by omega
  have hW : withF D.l c.f = D.l.take a ++ c.f :: D.l.drop b := by unfold withF; rw [hn, ha, hb]
  have hsub : (qs.take a ++ qs.drop b).Sublist qs := by
    have e : qs = qs.take b ++ qs.drop b := (List.take_append_drop _ _).symm
    conv => rhs; rw [e]
    exact (List.take_sublist_take_left hab).append (List.Sublist.refl _)
  have hfil : (qs.map Cf.ent).filter (fun p => !p.1.sameKey (sk t)) = (qs.take a ++ qs.drop b).map Cf.ent := by
    cases hi : isAt D.l t with
    | true =>
      obtain ⟨hq, hqn, _⟩ := h.at_ ha hi
      rw [hi, if_pos rfl] at hb
      rw [← hb, ← hqn]
      exact strike_one hq h.names_ne
    | false =>
      rw [hi, if_neg (by decide), Nat.add_zero] at hb
      rw [← hb, List.take_append_drop]
      refine keep_all (fun x hx e => isAt_no h.ok.sorted hi x.f ?_ e)
      rw [← h.eq]
      exact List.mem_map.2 ⟨x, hx, rfl⟩
  have hperm : (DataW.insert (sk t, DataW.lit (.int .i64 (c.q : Int))) (es.filter (fun p => !p.1.sameKey (sk t)))).Perm ((qs.take a ++ c :: qs.drop b).map Cf.ent) := by
    refine (WideShapes.insert_perm _ _).trans ?_
    have h1 : (es.filter (fun p => !p.1.sameKey (sk t))).Perm ((qs.take a ++ qs.drop b).map Cf.ent) := by
      rw [← hfil]
      exact h.perm.filter _
    have h2 : ((qs.take a ++ c :: qs.drop b).map Cf.ent).Perm (c.ent :: (qs.take a ++ qs.drop b).map Cf.ent) := by
      rw [← List.map_cons]
      exact (List.perm_middle).map _
    have e : c.ent = (sk t, DataW.lit (.int .i64 (c.q : Int))) := by unfold Cf.ent; rw [hn]
    rw [e] at h2
    exact (h1.cons _).trans h2.symm
  have hmapf : (qs.take a ++ c :: qs.drop b).map Cf.f = withF D.l c.f := by
    rw [hW, List.map_append, List.map_cons, List.map_take, List.map_drop, h.eq]
  refine ⟨DataW.insert (sk t, DataW.lit (.int .i64 (c.q : Int))) (es.filter (fun p => !p.1.sameKey (sk t))), qs.take a ++ c :: qs.drop b, h.map' hd (ownsMap_tight hm ?_) hk hFG hGl hperm (fun x hx => ?_) ?_ hmapf hok⟩
  · rw [hperm.length_eq, List.length_map]
    have := hok.few
    have e := congrArg List.length hmapf
    rw [List.length_map] at e
    rw [e]
    exact this
  · rcases List.mem_append.1 hx with h1 | h1
    · have hx' := List.mem_of_mem_take h1
      have hr := h.each x hx'
      exact hr.on (fun k e => hk k (hr.sub k e) (h.notg hx' e).2) (fun k e => hFG k (hr.sub k e))
    · rcases List.mem_cons.1 h1 with rfl | h1
      · exact hc
      · have hx' := List.mem_of_mem_drop h1
        have hr := h.each x hx'
        exact hr.on (fun k e => hk k (hr.sub k e) (h.notg hx' e).2) (fun k e => hFG k (hr.sub k e))
  · have hp := h.sep.sublist hsub
    obtain ⟨p1, p2, p3⟩ := List.pairwise_append.1 hp
    refine List.pairwise_append.2 ⟨p1, List.pairwise_cons.2 ⟨fun x hx k e => hsep x (List.mem_of_mem_drop hx) k e, p2⟩, fun x hx y hy => ?_⟩
    rcases List.mem_cons.1 hy with rfl | hy
    · exact fun k e e2 => hsep x (List.mem_of_mem_take hx) k e2 e
    · exact p3 x hx y hy
set_option maxRecDepth 100000 in
set_option maxHeartbeats 8000000 in
theorem gRename1 (w : World) (bd bf bt bx g q : Nat) (nm t : ByteArray) (mb : Nat) (es : List (Lit × DataW Empty)) (hd : w.cell? ⟨bd, 0, none⟩ = some (pt g)) (hn : w.cell? ⟨bf, 0, none⟩ = some (.string nm)) (ht : w.cell? ⟨bt, 0, none⟩ = some (.string t)) (hx : w.cell? ⟨bx, 0, none⟩ = some (pt q)) (c0 : w.cell? ⟨g, 0, none⟩ = some (.map (some mb)))
    (hown : w.ownsMap Tryz.prog 9 fE mb 20 (.map es)) (hkey : keyOf Tryz.prog 9 (.string nm) = some (sk nm)) (hkt : keyOf Tryz.prog 9 (.string t) = some (sk t)) :
    Calls Tryz.prog 133 #[pt bd, pt bf, pt bx, pt bt] w fun e w' => e = .returned (.tuple #[]) ∧ ∃ w1, w1.ownsMap Tryz.prog 9 fE mb 20 (.map (es.filter (fun p => !p.1.sameKey (sk nm)))) ∧ w.grownBy w1 (some mb) ∧ w'.ownsMap Tryz.prog 9 fE mb 21 ((DataW.map (es.filter (fun p => !p.1.sameKey (sk nm)))).put (sk t) (.lit (.int .i64 (q : Int)))) ∧ w1.grownBy w' (some mb) := by
  obtain ⟨w1, hrun, ho1, ht1⟩ := (hown.drew).drop lawK Tryz.underlying79 hkey 0
  have hne : ∀ b u, w.cell? ⟨b, 0, none⟩ = some u → b ≠ mb := fun b u hb e => by
    obtain ⟨e0, cl, hm⟩ := ownsMap_blk hown
    subst e
    simp [World.cell?, hm] at hb
  have hk1 : ∀ b u, w.cell? ⟨b, 0, none⟩ = some u → w1.cell? ⟨b, 0, none⟩ = some u := fun b u hb => by
    have hlt : b < w.heap.size := World.block_lt_of_cell? w _ hb
    exact (World.cell?_of_block (a := ⟨b, 0, none⟩) (ht1.grown.block b hlt (fun e => hne b u hb (by injection e)))).trans hb
  have d1 := hk1 _ _ hd
  have d2 := hk1 _ _ hx
  have d3 := hk1 _ _ ht
  have d4 := hk1 _ _ c0
  obtain ⟨w2, hrun2, ho2, ht2⟩ := (ho1.drew).store lawK Tryz.underlying79 (by unfold maxLen; omega) hkt (fE_pt q)
  have HO := Lib.hid (And.intro ho1 ht1)
  have HO2 := Lib.hid (And.intro ho2 ht2)
  clear ho1 ht1 ho2 ht2 hown hkey hkt hne hk1
  go_enter Tryz.func133, Tryz.ntmps133
  go_wp2_with fail
  go_cut [] from 4 to 40 (fun wx => wx = w1)
  case first =>
    go_region_with (fail)
    all_goals (try go_wp2_with fail)
    all_goals go_meet
    all_goals rfl
  case rest =>
    subst hcut
    clear hd hn ht hx c0 hrun
    go_wp2_with fail
    go_region_with (fail)
    all_goals
      go_wp2_with fail
      first | go_end0 | (refine bodyPost_ret (results_none rfl _ _ _) rfl ?_)
      exact ⟨rfl, _, HO.out.1, grown_undrew HO.out.2.grown, HO2.out.1, grown_undrew HO2.out.2.grown⟩

theorem four_bel (w : World) (a b c d : Obj) : Below w.heap.size w ((((w.alloc a).alloc b).alloc c).alloc d) := (((two_bel w a b).alloc (by simp; omega) c).alloc (by simp; omega) d)
theorem new_at (w : World) (o : Obj) {n : Nat} (h : w.heap.size = n) : (w.alloc o).heap[n]? = some o := by
  subst h
  exact heap_alloc_new w o
theorem old_at (w : World) (o : Obj) {n : Nat} {x : Obj} (h : w.heap[n]? = some x) : (w.alloc o).heap[n]? = some x := ((Below.refl w.heap.size w).alloc (Nat.le_refl _) o).block n (Array.getElem?_eq_some_iff.1 h).1 |>.trans h
theorem four_get (w : World) (a b c d : Obj) : ((((w.alloc a).alloc b).alloc c).alloc d).heap[w.heap.size]? = some a ∧ ((((w.alloc a).alloc b).alloc c).alloc d).heap[w.heap.size + 1]? = some b ∧ ((((w.alloc a).alloc b).alloc c).alloc d).heap[w.heap.size + 1 + 1]? = some c ∧ ((((w.alloc a).alloc b).alloc c).alloc d).heap[w.heap.size + 1 + 1 + 1]? = some d :=
  ⟨old_at _ _ (old_at _ _ (old_at _ _ (new_at _ _ rfl))), old_at _ _ (old_at _ _ (new_at _ _ (by simp))), old_at _ _ (new_at _ _ (by simp)), new_at _ _ (by simp)⟩
set_option maxRecDepth 100000 in
set_option maxHeartbeats 8000000 in
theorem gRename (w : World) (g : Nat) (D : Dk) (F : Nat → Prop) (nm t : ByteArray) (h : RCk w g D F) :
    Calls Tryz.prog 79 #[pt g, .string nm, .string t] w fun e w' => e = .returned (.int .i64 (renE D nm t)) ∧ Turns RCk w g F (ren D nm t) w' := by
  obtain ⟨mb, fp, es, qs, h⟩ := h
  have H := Lib.hid h
  by_cases hn : nmE D nm = 0
  · obtain ⟨hd, hi⟩ := nmE_zero hn
    obtain ⟨p, hp⟩ : ∃ p, pos D.l nm = p := ⟨_, rfl⟩
    obtain ⟨hq, hqn, hfa, hdl, hde⟩ := h.at_ hp hi
    have FI := Lib.hid (fun V (hb : Below w.heap.size w V) => gFind_yes V g D F mb fp es qs (H.out.below hb) nm hp hn hq)
    have hbx := four_bel w (.cells #[pt g] 24) (.cells #[.string nm] 9) (.cells #[.string t] 9) (.cells #[pt qs[p].q] 96)
    have MY := Lib.hid (gMay ((((w.alloc (.cells #[pt g] 24)).alloc (.cells #[.string nm] 9)).alloc (.cells #[.string t] 9)).alloc (.cells #[pt qs[p].q] 96)) t)
    cases hmt : mayN t with
    | false =>
      have hE : renE D nm t = 70 := by unfold renE; rw [hn, if_pos rfl, if_pos hmt]
      have hC : ren D nm t = D := by unfold ren; rw [hn, if_pos rfl, if_pos hmt]
      rw [hE, hC]
      rw [hmt] at MY
      generalize qs[p].q = q at *
      clear h hn hE hC hfa hde hqn
      go_enter Tryz.func79, Tryz.ntmps79
      go_wp2_with (first
        | (go_at_call 56; refine (FI.out _ (by exact (two_bel _ _ _).alloc (by simp; omega) _)).mono ?_; rintro e w1 ⟨rfl, rfl⟩)
        | (go_at_call 52; refine MY.out.mono ?_; rintro e w1 ⟨rfl, rfl⟩))
      go_ret
      exact ⟨rfl, RCk.turn H.out hbx⟩
    | true =>
      have hmf : ¬ mayN t = false := by rw [hmt]; decide
      rw [hmt] at MY
      by_cases hl : D.left = 0
      · have hE : renE D nm t = 71 := by unfold renE workE; rw [hn, if_pos rfl, if_neg hmf, if_pos hl]
        have hC : ren D nm t = crash D D.keep := by unfold ren; rw [hn, if_pos rfl, if_neg hmf, work_yes hl]
        rw [hE, hC]
        have WK := Lib.hid (fun (v : Value) => gWork_yes _ g D F mb fp es qs (H.out.below hbx) hd hl v)
        generalize qs[p].q = q at *
        clear h hn hE hC hfa hde hqn
        go_enter Tryz.func79, Tryz.ntmps79
        go_wp2_with (first
          | (go_at_call 56; refine (FI.out _ (by exact (two_bel _ _ _).alloc (by simp; omega) _)).mono ?_; rintro e w1 ⟨rfl, rfl⟩)
          | (go_at_call 52; refine MY.out.mono ?_; rintro e w1 ⟨rfl, rfl⟩)
          | (go_at_call 54; refine (WK.out _).mono ?_; rintro e w2 ⟨rfl, ht⟩))
        go_ret
        exact ⟨rfl, Turns.new_ H.out.lt hbx ht⟩
      · have hE : renE D nm t = 0 := by unfold renE workE; rw [hn, if_pos rfl, if_neg hmf, if_neg hl]
        have hC : ren D nm t = { less D with l := withF ((less D).l.take p ++ (less D).l.drop (p + 1)) ⟨t, qs[p].f.bs, qs[p].f.mark⟩ } := by unfold ren; rw [hn, if_pos rfl, if_neg hmf, work_no hl, hfa]; unfold without; rw [hi, if_pos rfl, hp]; rfl
        have hwl : D.l.take p ++ D.l.drop (p + 1) = without D.l nm := by unfold without; rw [hi, if_pos rfl, hp]
        rw [hE, hC]
        have WK := Lib.hid (gWork_Rename ((((w.alloc (.cells #[pt g] 24)).alloc (.cells #[.string nm] 9)).alloc (.cells #[.string t] 9)).alloc (.cells #[pt qs[p].q] 96)) g D F mb fp es qs (h.below hbx) hd hl #[pt w.heap.size, pt (w.heap.size + 1), pt (w.heap.size + 1 + 1 + 1), pt (w.heap.size + 1 + 1)] (fun w' => Turns RCk w g F { less D with l := withF ((less D).l.take p ++ (less D).l.drop (p + 1)) ⟨t, qs[p].f.bs, qs[p].f.mark⟩ } w') (by
          intro V hR hs hG
          obtain ⟨m1, m2, m3, m4⟩ := four_get w (.cells #[pt g] 24) (.cells #[.string nm] 9) (.cells #[.string t] 9) (.cells #[pt qs[p].q] 96)
          have b1 := box_cell (box_kept h.lt hG (by omega) m1)
          have b2 := box_cell (box_kept h.lt hG (by omega) m2)
          have b3 := box_cell (box_kept h.lt hG (by omega) m3)
          have b4 := box_cell (box_kept h.lt hG (by omega) m4)
          have hk := hR.key hq
          rw [hqn] at hk
          have hkt : keyOf Tryz.prog 9 (.string t) = some (sk t) := WideMaps.keyOf_string_mk Tryz.underlying9 (by unfold mayN at hmt; have := of_decide_eq_true hmt; unfold maxLen; omega)
          refine (gRename1 V _ _ _ _ g qs[p].q nm t mb es b1 b2 b3 b4 hR.c0 hR.map hk hkt).mono ?_
          rintro e w' ⟨rfl, w1, hm1, hg1, hm2, hg2⟩
          have hr1 := hR.gone_ hd hq hqn hm1 hg1
          have hr := hR.cf hq
          have hsm := hR.small hq
          have hkk : ∀ k, F k → k ≠ mb → w'.heap[k]? = V.heap[k]? := fun k e hne => (hg2.block k (Nat.lt_of_lt_of_le (hR.lt k e) hg1.size) (fun e2 => hne (by injection e2))).trans (hg1.block k (hR.lt k e) (fun e2 => hne (by injection e2)))
          have hcf : RCf w' F ⟨⟨t, qs[p].f.bs, qs[p].f.mark⟩, qs[p].q, qs[p].v⟩ := by
            have hr' := hr.on (V' := w') (G := F) (fun k e => hkk k (hr.sub k e) (hR.notg (List.getElem_mem hq) e).2) hr.sub
            exact ⟨hr'.obj, hr'.own, hr'.sub⟩
          have hsub : ∀ c' ∈ qs.take p ++ qs.drop (p + 1), ∀ k, qs[p].B k → ¬ c'.B k := fun c' hc' k e => by
            rcases List.mem_append.1 hc' with h1 | h1
            · obtain ⟨j, hj, rfl⟩ := List.mem_iff_getElem.1 h1
              rw [List.length_take] at hj
              rw [List.getElem_take]
              exact hR.apart hq (by omega) (by omega) e
            · obtain ⟨j, hj, rfl⟩ := List.mem_iff_getElem.1 h1
              rw [List.length_drop] at hj
              rw [List.getElem_drop]
              exact hR.apart hq (by omega) (by omega) e
          have hok : ({ ({ less D with l := (less D).l.take p ++ (less D).l.drop (p + 1) } : Dk) with l := withF ((less D).l.take p ++ (less D).l.drop (p + 1)) ⟨t, qs[p].f.bs, qs[p].f.mark⟩ } : Dk).ok :=
            ok_with (f := ⟨t, qs[p].f.bs, qs[p].f.mark⟩) hr1.ok hsm.1 (.inr (by
              show (D.l.take p ++ D.l.drop (p + 1)).length < 20
              rw [hwl]
              have := without_len hi
              have := h.ok.few
              omega)) (by
              have h1 := without_sum hi
              rw [hfa] at h1
              have := h.ok.sum
              show sum (D.l.take p ++ D.l.drop (p + 1)) + qs[p].f.bs.length ≤ 4194304 + _
              rw [hwl]
              omega)
          obtain ⟨es2, qs2, hr2⟩ := hr1.stored (V' := w') (G := F) (c := ⟨⟨t, qs[p].f.bs, qs[p].f.mark⟩, qs[p].q, qs[p].v⟩) hd rfl hm2 (fun k e hne => hg2.block k (Nat.lt_of_lt_of_le (hR.lt k e) hg1.size) (fun e2 => hne (by injection e2))) (fun _ e => e) (fun k e => Nat.lt_of_lt_of_le (hR.lt k e) (Nat.le_trans hg1.size hg2.size)) hcf hsub hok
          exact ⟨rfl, hr2.ends (fun k e => .inl e) (Grow.of_new hbx ((hG.mp h.fm hg1).mp h.fm hg2)) h.lt⟩))
        generalize (⟨t, qs[p].f.bs, qs[p].f.mark⟩ : Fl) = f at *
        generalize qs[p].q = q at *
        clear h hn hE hC hfa hde hqn hwl
        go_enter Tryz.func79, Tryz.ntmps79
        go_wp2_with (first
          | (go_at_call 56; refine (FI.out _ (by exact (two_bel _ _ _).alloc (by simp; omega) _)).mono ?_; rintro e w1 ⟨rfl, rfl⟩)
          | (go_at_call 52; refine MY.out.mono ?_; rintro e w1 ⟨rfl, rfl⟩)
          | (go_at_call 54; refine WK.out.mono ?_; rintro e w2 ⟨rfl, ht⟩))
        go_ret
        exact ⟨rfl, ht⟩
  · have FI := Lib.hid (fun V (hb : Below w.heap.size w V) => gFind_no V g D F mb fp es qs (H.out.below hb) nm hn)
    have hE : renE D nm t = nmE D nm := by unfold renE; rw [if_neg hn]
    have hC : ren D nm t = D := by unfold ren; rw [if_neg hn]
    rw [hE, hC]
    have hne : (nmE D nm == 0) = false := by simpa using hn
    generalize nmE D nm = E at *
    clear h hn hE hC
    go_enter Tryz.func79, Tryz.ntmps79
    go_wp2_with (first
      | (go_at_call 56; refine (FI.out _ (by exact (two_bel _ _ _).alloc (by simp; omega) _)).mono ?_; rintro e w1 ⟨rfl, rfl⟩))
    go_ret
    exact ⟨rfl, RCk.turn H.out (by exact four_bel _ _ _ _ _)⟩
end Go.Proofs.YtamglegdgcehaaaGreat
