/-
  Layer 7: the landed disk: a work, counted, or the power goes instead. (Written by wip/tools/gwork.py.)
-/
import Derived.Test.YtkhalpajomammaaGFall
set_option linter.unusedVariables false
namespace Go.Proofs.Ytkhalpajomammaa
open Go.RowKit Go.Maps

theorem fall_take {keep : List Int} {l : List Fl} (h : l.length ≤ 20) : fall (keep.take 20) l = fall keep l := by
  unfold fall
  apply List.ext_getElem
  · simp
  · intro i h1 h2
    have hi : i < l.length := by simpa using h2
    have hi' : i < 20 := by omega
    simp only [List.getElem_mapIdx]
    unfold fallF
    have e1 : (i < (keep.take 20).length) = (i < keep.length) := by rw [List.length_take]; exact propext ⟨fun h => by omega, fun h => by omega⟩
    have e2 : (keep.take 20).getD i 0 = keep.getD i 0 := by
      rw [List.getD_eq_getElem?_getD, List.getD_eq_getElem?_getD, List.getElem?_take, if_pos hi']
    simp only [e1, e2]
theorem fall_nil (l : List Fl) (h : ∀ f ∈ l, f.mark ≤ f.bs.length) : True := trivial
/-- One work fewer is left. -/
def less (D : Dk) : Dk := { D with left := if 0 < D.left then D.left - 1 else D.left }
theorem less_ok {D : Dk} (h : D.ok) : (less D).ok := ok_left h _ (by have := h.low; split <;> omega) (by have := h.high; split <;> omega)
set_option maxRecDepth 100000 in
set_option maxHeartbeats 8000000 in
/-- The power goes. -/
theorem gWork_yes (w : World) (g : Nat) (D : Dk) (F : Nat → Prop) (mb : Nat) (fp : Option Addr) (es : List (Lit × DataW Empty)) (qs : List Cf) (h : RC w g D F mb fp es qs) (hd : D.dead = false) (hl : D.left = 0) (v : Value) :
    Calls Try.prog 51 #[pt g, v] w fun e w' => e = .returned (.int .i64 71) ∧ Turns RCk w g F (crash D D.keep) w' := by
  rcases h.fail hd with ⟨h0, _⟩ | ⟨_, p, kv, rfl, hp, hI, hpF, hkF⟩
  · omega
  obtain ⟨A, c, rfl, hx, hc1, hc2, _⟩ := hI.form
  have c2 := h.c2
  have z2 := h.fz 2
  rw [hl] at hp
  have p0 : w.cell? ⟨p, 0, none⟩ = some (.int .i64 0) := cell_of_row w p 0 _ _ (0, 0) hp
  have p1 : w.cell? ⟨p, 1, none⟩ = some (.slice A (D.keep.take 20).length c) := cell_of_row w p 1 _ _ (0, 0) hp
  have hA : 0 < (D.keep.take 20).length → InF (fun k => k < w.heap.size ∧ k ≠ g ∧ ∀ c ∈ qs, k ≠ c.q) A := fun h0 a ea => by
    have hk : F a.block := hkF _ (by rw [ea]; rfl)
    rcases hI.2 with ⟨e, _⟩ | ⟨q, cap, cur, e, _, hh, _⟩
    · injection e with e
      rw [ea] at e
      cases e
    · injection e with e
      rw [ea] at e
      injection e with e
      subst e
      refine ⟨h.lt _ hk, fun e2 => ?_, fun c' hc' e2 => ?_⟩
      · simp only at e2
        rw [e2, h.obj] at hh
        injection hh with hh
        injection hh with _ hh _
        exact absurd hh (by decide)
      · exact (h.each c' hc').ne_t (.inl rfl) hh (by decide) (by decide) e2.symm
  have FA := Lib.hid (fun V (hb : Below w.heap.size w V) => gFall V g D F mb (some ⟨p, 0, none⟩) es qs (h.below hb) A (D.keep.take 20).length c (D.keep.take 20) (hx.on (F := F) (fun a ea => hkF _ (by rw [ea]; rfl)) (fun k e => hb.block k (h.lt k e))) (fun h0 a ea => ⟨Nat.lt_of_lt_of_le (hA h0 a ea).1 hb.size, (hA h0 a ea).2⟩))
  have hgl := h.lt g h.fg
  have H := Lib.hid h
  generalize (D.keep.take 20).length = kn at *
  clear h hI hx hA hp
  go_enter Try.func51, Try.ntmps51
  go_wp2_with (first
    | (go_at_call 55; refine (FA.out _ (by first | exact Below.refl _ _ | exact (Below.refl _ _).drew | exact below_drewN (Below.refl _ _) _)).mono ?_; rintro e w1 ⟨rfl, hG, qs', hR, hkp⟩; have hc2 := hR.c2; have hz2 := hR.fz 2))
  go_ret
  have hfew := H.out.ok.few
  rw [fall_take hfew] at hR
  have hC : crash D D.keep = ⟨fall D.keep D.l, true, -1, D.keep⟩ := by unfold crash; rw [hd]; rfl
  have hO := hR.ok
  have ho := hR.obj
  have hR2 := hR.obj' (V' := w1.setCell ⟨g, 2, none⟩ (.pointer none)) (D' := ⟨fall D.keep D.l, true, -1, D.keep⟩) (fp' := none) rfl (by simp [World.setCell, Array.getElem?_modify, ho]) (fun x _ hx _ => set_blk _ _ _ _ hx) (fun _ e => e) (fun x e => by rw [set_size]; exact hR.lt x e) (fun h => by cases h) hR.gone ⟨hO.sorted, hO.marks, hO.few, hO.sum, by show (-1 : Int) ≤ -1; omega, by show (-1 : Int) ≤ _; omega⟩
  rw [hC]
  exact ⟨rfl, hR2.ends (fun k e => .inl e) (hG.set (p := ⟨g, 2, none⟩) (.inl H.out.fg) _) H.out.lt⟩
set_option maxRecDepth 100000 in
set_option maxHeartbeats 8000000 in
theorem gWork_Append (w : World) (g : Nat) (D : Dk) (F : Nat → Prop) (mb : Nat) (fp : Option Addr) (es : List (Lit × DataW Empty)) (qs : List Cf) (h : RC w g D F mb fp es qs) (hd : D.dead = false) (hl : D.left ≠ 0) (caps : Array Value) (Q : World → Prop)
    (hdo : ∀ V, RC V g (less D) F mb fp es qs → V.heap.size = w.heap.size → Grow F w V → Calls Try.prog 52 caps V fun e w' => e = .returned (.tuple #[]) ∧ Q w') :
    Calls Try.prog 51 #[pt g, .func (.func 52) #[] caps] w fun e w' => e = .returned (.int .i64 0) ∧ Q w' := by
  have c2 := h.c2
  have HDO := Lib.hid hdo
  clear hdo
  rcases h.fail hd with ⟨h0, rfl⟩ | ⟨hp0, p, kv, rfl, hp, hI, hpF, hkF⟩
  · have hR : RC w g (less D) F mb none es qs := h.obj' (D' := less D) rfl h.obj (fun _ _ _ _ => rfl) (fun _ e => e) h.lt (fun _ => .inl ⟨by show (if 0 < D.left then D.left - 1 else D.left) < 0; rw [if_neg (by omega)]; exact h0, rfl⟩) h.gone (less_ok h.ok)
    have DO := Lib.hid (HDO.out w hR rfl (Grow.refl _ _))
    clear HDO h hR
    go_enter Try.func51, Try.ntmps51
    go_wp2_with (first
      | (go_at_call 52; refine DO.out.mono ?_; rintro e w1 ⟨rfl, hQ⟩))
    go_ret
    exact ⟨rfl, hQ⟩
  · have p0 : w.cell? ⟨p, 0, none⟩ = some (.int .i64 D.left) := cell_of_row w p 0 _ _ (0, 0) hp
    have pz : w.frozen? ⟨p, 0, none⟩ = false := by simp [World.frozen?, hp]
    have hgp : g ≠ p := fun e => by
      rw [← e, h.obj] at hp
      injection hp with hp
      injection hp with _ hp _
      exact absurd hp (by decide)
    have hlo := h.ok.low
    have hhi := h.ok.high
    have hR : ∀ V : World, V = w → RC (V.setCell ⟨p, 0, none⟩ (.int .i64 (D.left - 1))) g (less D) F mb (some ⟨p, 0, none⟩) es qs := by
      rintro V rfl
      have hlq : (less D).left = D.left - 1 := by show (if 0 < D.left then D.left - 1 else D.left) = _; rw [if_pos (by omega)]
      refine h.obj' (D' := less D) rfl ((set_blk _ _ _ _ hgp).trans h.obj) (fun x hx _ hn => set_blk _ _ _ _ (fun e => hn #[.int .i64 D.left, kv] (by rw [e]; exact hp))) (fun _ e => e) (fun x e => by rw [set_size]; exact h.lt x e) (fun _ => .inr ⟨by rw [hlq]; omega, p, kv, rfl, by rw [hlq]; simp [World.setCell, Array.getElem?_modify, hp], hI.onS (fun x e => set_blk _ _ _ _ (fun e2 => ?_)), hpF, hkF⟩) h.gone (less_ok h.ok)
      rcases hI.2 with ⟨ev, _⟩ | ⟨q, cap, cur, ev, _, hh, _⟩
      · rw [ev] at e
        cases e
      · rw [ev] at e
        have e' : some q = some x := e
        injection e' with e'
        rw [e', e2, hp] at hh
        injection hh with hh
        injection hh with _ hh _
        exact absurd hh (by decide)
    have hG : Grow F w (w.setCell ⟨p, 0, none⟩ (.int .i64 (D.left - 1))) := (Grow.refl F w).set (p := ⟨p, 0, none⟩) (.inl hpF) _
    have hb : ∀ n, Below w.heap.size (w.setCell ⟨p, 0, none⟩ (.int .i64 (D.left - 1))) ((w.setCell ⟨p, 0, none⟩ (.int .i64 (D.left - 1))).drewN n) := fun n => below_drewN (Below.refl _ _) n
    have DO := Lib.hid (fun n => HDO.out ((w.setCell ⟨p, 0, none⟩ (.int .i64 (D.left - 1))).drewN n) ((hR w rfl).below (below_drewN (Below.refl _ _) n)) (set_size _ _ _) (hG.drewN n))
    obtain ⟨l, hll⟩ : ∃ l, D.left = l := ⟨_, rfl⟩
    have hl0 : (l == 0) = false := by rw [← hll]; simpa using hl
    have hw1 : IntKind.i64.wrap (l - 1) = l - 1 := IntWalk.i64_in _ (by omega)
    rw [hll] at DO p0
    clear HDO h hR hG hb hI hp
    go_enter Try.func51, Try.ntmps51
    go_wp2_with (first
      | (go_at_call 52; first | (refine (DO.out 0).mono ?_; rintro e w1 ⟨rfl, hQ⟩) | (refine (DO.out 1).mono ?_; rintro e w1 ⟨rfl, hQ⟩)))
    all_goals first
      | (go_ret; exact ⟨rfl, hQ⟩)

set_option maxRecDepth 100000 in
set_option maxHeartbeats 8000000 in
theorem gWork_Sync (w : World) (g : Nat) (D : Dk) (F : Nat → Prop) (mb : Nat) (fp : Option Addr) (es : List (Lit × DataW Empty)) (qs : List Cf) (h : RC w g D F mb fp es qs) (hd : D.dead = false) (hl : D.left ≠ 0) (caps : Array Value) (Q : World → Prop)
    (hdo : ∀ V, RC V g (less D) F mb fp es qs → V.heap.size = w.heap.size → Grow F w V → Calls Try.prog 54 caps V fun e w' => e = .returned (.tuple #[]) ∧ Q w') :
    Calls Try.prog 51 #[pt g, .func (.func 54) #[] caps] w fun e w' => e = .returned (.int .i64 0) ∧ Q w' := by
  have c2 := h.c2
  have HDO := Lib.hid hdo
  clear hdo
  rcases h.fail hd with ⟨h0, rfl⟩ | ⟨hp0, p, kv, rfl, hp, hI, hpF, hkF⟩
  · have hR : RC w g (less D) F mb none es qs := h.obj' (D' := less D) rfl h.obj (fun _ _ _ _ => rfl) (fun _ e => e) h.lt (fun _ => .inl ⟨by show (if 0 < D.left then D.left - 1 else D.left) < 0; rw [if_neg (by omega)]; exact h0, rfl⟩) h.gone (less_ok h.ok)
    have DO := Lib.hid (HDO.out w hR rfl (Grow.refl _ _))
    clear HDO h hR
    go_enter Try.func51, Try.ntmps51
    go_wp2_with (first
      | (go_at_call 54; refine DO.out.mono ?_; rintro e w1 ⟨rfl, hQ⟩))
    go_ret
    exact ⟨rfl, hQ⟩
  · have p0 : w.cell? ⟨p, 0, none⟩ = some (.int .i64 D.left) := cell_of_row w p 0 _ _ (0, 0) hp
    have pz : w.frozen? ⟨p, 0, none⟩ = false := by simp [World.frozen?, hp]
    have hgp : g ≠ p := fun e => by
      rw [← e, h.obj] at hp
      injection hp with hp
      injection hp with _ hp _
      exact absurd hp (by decide)
    have hlo := h.ok.low
    have hhi := h.ok.high
    have hR : ∀ V : World, V = w → RC (V.setCell ⟨p, 0, none⟩ (.int .i64 (D.left - 1))) g (less D) F mb (some ⟨p, 0, none⟩) es qs := by
      rintro V rfl
      have hlq : (less D).left = D.left - 1 := by show (if 0 < D.left then D.left - 1 else D.left) = _; rw [if_pos (by omega)]
      refine h.obj' (D' := less D) rfl ((set_blk _ _ _ _ hgp).trans h.obj) (fun x hx _ hn => set_blk _ _ _ _ (fun e => hn #[.int .i64 D.left, kv] (by rw [e]; exact hp))) (fun _ e => e) (fun x e => by rw [set_size]; exact h.lt x e) (fun _ => .inr ⟨by rw [hlq]; omega, p, kv, rfl, by rw [hlq]; simp [World.setCell, Array.getElem?_modify, hp], hI.onS (fun x e => set_blk _ _ _ _ (fun e2 => ?_)), hpF, hkF⟩) h.gone (less_ok h.ok)
      rcases hI.2 with ⟨ev, _⟩ | ⟨q, cap, cur, ev, _, hh, _⟩
      · rw [ev] at e
        cases e
      · rw [ev] at e
        have e' : some q = some x := e
        injection e' with e'
        rw [e', e2, hp] at hh
        injection hh with hh
        injection hh with _ hh _
        exact absurd hh (by decide)
    have hG : Grow F w (w.setCell ⟨p, 0, none⟩ (.int .i64 (D.left - 1))) := (Grow.refl F w).set (p := ⟨p, 0, none⟩) (.inl hpF) _
    have hb : ∀ n, Below w.heap.size (w.setCell ⟨p, 0, none⟩ (.int .i64 (D.left - 1))) ((w.setCell ⟨p, 0, none⟩ (.int .i64 (D.left - 1))).drewN n) := fun n => below_drewN (Below.refl _ _) n
    have DO := Lib.hid (fun n => HDO.out ((w.setCell ⟨p, 0, none⟩ (.int .i64 (D.left - 1))).drewN n) ((hR w rfl).below (below_drewN (Below.refl _ _) n)) (set_size _ _ _) (hG.drewN n))
    obtain ⟨l, hll⟩ : ∃ l, D.left = l := ⟨_, rfl⟩
    have hl0 : (l == 0) = false := by rw [← hll]; simpa using hl
    have hw1 : IntKind.i64.wrap (l - 1) = l - 1 := IntWalk.i64_in _ (by omega)
    rw [hll] at DO p0
    clear HDO h hR hG hb hI hp
    go_enter Try.func51, Try.ntmps51
    go_wp2_with (first
      | (go_at_call 54; first | (refine (DO.out 0).mono ?_; rintro e w1 ⟨rfl, hQ⟩) | (refine (DO.out 1).mono ?_; rintro e w1 ⟨rfl, hQ⟩)))
    all_goals first
      | (go_ret; exact ⟨rfl, hQ⟩)

set_option maxRecDepth 100000 in
set_option maxHeartbeats 8000000 in
theorem gWork_Cut (w : World) (g : Nat) (D : Dk) (F : Nat → Prop) (mb : Nat) (fp : Option Addr) (es : List (Lit × DataW Empty)) (qs : List Cf) (h : RC w g D F mb fp es qs) (hd : D.dead = false) (hl : D.left ≠ 0) (caps : Array Value) (Q : World → Prop)
    (hdo : ∀ V, RC V g (less D) F mb fp es qs → V.heap.size = w.heap.size → Grow F w V → Calls Try.prog 58 caps V fun e w' => e = .returned (.tuple #[]) ∧ Q w') :
    Calls Try.prog 51 #[pt g, .func (.func 58) #[] caps] w fun e w' => e = .returned (.int .i64 0) ∧ Q w' := by
  have c2 := h.c2
  have HDO := Lib.hid hdo
  clear hdo
  rcases h.fail hd with ⟨h0, rfl⟩ | ⟨hp0, p, kv, rfl, hp, hI, hpF, hkF⟩
  · have hR : RC w g (less D) F mb none es qs := h.obj' (D' := less D) rfl h.obj (fun _ _ _ _ => rfl) (fun _ e => e) h.lt (fun _ => .inl ⟨by show (if 0 < D.left then D.left - 1 else D.left) < 0; rw [if_neg (by omega)]; exact h0, rfl⟩) h.gone (less_ok h.ok)
    have DO := Lib.hid (HDO.out w hR rfl (Grow.refl _ _))
    clear HDO h hR
    go_enter Try.func51, Try.ntmps51
    go_wp2_with (first
      | (go_at_call 58; refine DO.out.mono ?_; rintro e w1 ⟨rfl, hQ⟩))
    go_ret
    exact ⟨rfl, hQ⟩
  · have p0 : w.cell? ⟨p, 0, none⟩ = some (.int .i64 D.left) := cell_of_row w p 0 _ _ (0, 0) hp
    have pz : w.frozen? ⟨p, 0, none⟩ = false := by simp [World.frozen?, hp]
    have hgp : g ≠ p := fun e => by
      rw [← e, h.obj] at hp
      injection hp with hp
      injection hp with _ hp _
      exact absurd hp (by decide)
    have hlo := h.ok.low
    have hhi := h.ok.high
    have hR : ∀ V : World, V = w → RC (V.setCell ⟨p, 0, none⟩ (.int .i64 (D.left - 1))) g (less D) F mb (some ⟨p, 0, none⟩) es qs := by
      rintro V rfl
      have hlq : (less D).left = D.left - 1 := by show (if 0 < D.left then D.left - 1 else D.left) = _; rw [if_pos (by omega)]
      refine h.obj' (D' := less D) rfl ((set_blk _ _ _ _ hgp).trans h.obj) (fun x hx _ hn => set_blk _ _ _ _ (fun e => hn #[.int .i64 D.left, kv] (by rw [e]; exact hp))) (fun _ e => e) (fun x e => by rw [set_size]; exact h.lt x e) (fun _ => .inr ⟨by rw [hlq]; omega, p, kv, rfl, by rw [hlq]; simp [World.setCell, Array.getElem?_modify, hp], hI.onS (fun x e => set_blk _ _ _ _ (fun e2 => ?_)), hpF, hkF⟩) h.gone (less_ok h.ok)
      rcases hI.2 with ⟨ev, _⟩ | ⟨q, cap, cur, ev, _, hh, _⟩
      · rw [ev] at e
        cases e
      · rw [ev] at e
        have e' : some q = some x := e
        injection e' with e'
        rw [e', e2, hp] at hh
        injection hh with hh
        injection hh with _ hh _
        exact absurd hh (by decide)
    have hG : Grow F w (w.setCell ⟨p, 0, none⟩ (.int .i64 (D.left - 1))) := (Grow.refl F w).set (p := ⟨p, 0, none⟩) (.inl hpF) _
    have hb : ∀ n, Below w.heap.size (w.setCell ⟨p, 0, none⟩ (.int .i64 (D.left - 1))) ((w.setCell ⟨p, 0, none⟩ (.int .i64 (D.left - 1))).drewN n) := fun n => below_drewN (Below.refl _ _) n
    have DO := Lib.hid (fun n => HDO.out ((w.setCell ⟨p, 0, none⟩ (.int .i64 (D.left - 1))).drewN n) ((hR w rfl).below (below_drewN (Below.refl _ _) n)) (set_size _ _ _) (hG.drewN n))
    obtain ⟨l, hll⟩ : ∃ l, D.left = l := ⟨_, rfl⟩
    have hl0 : (l == 0) = false := by rw [← hll]; simpa using hl
    have hw1 : IntKind.i64.wrap (l - 1) = l - 1 := IntWalk.i64_in _ (by omega)
    rw [hll] at DO p0
    clear HDO h hR hG hb hI hp
    go_enter Try.func51, Try.ntmps51
    go_wp2_with (first
      | (go_at_call 58; first | (refine (DO.out 0).mono ?_; rintro e w1 ⟨rfl, hQ⟩) | (refine (DO.out 1).mono ?_; rintro e w1 ⟨rfl, hQ⟩)))
    all_goals first
      | (go_ret; exact ⟨rfl, hQ⟩)

set_option maxRecDepth 100000 in
set_option maxHeartbeats 8000000 in
theorem gWork_Rename (w : World) (g : Nat) (D : Dk) (F : Nat → Prop) (mb : Nat) (fp : Option Addr) (es : List (Lit × DataW Empty)) (qs : List Cf) (h : RC w g D F mb fp es qs) (hd : D.dead = false) (hl : D.left ≠ 0) (caps : Array Value) (Q : World → Prop)
    (hdo : ∀ V, RC V g (less D) F mb fp es qs → V.heap.size = w.heap.size → Grow F w V → Calls Try.prog 60 caps V fun e w' => e = .returned (.tuple #[]) ∧ Q w') :
    Calls Try.prog 51 #[pt g, .func (.func 60) #[] caps] w fun e w' => e = .returned (.int .i64 0) ∧ Q w' := by
  have c2 := h.c2
  have HDO := Lib.hid hdo
  clear hdo
  rcases h.fail hd with ⟨h0, rfl⟩ | ⟨hp0, p, kv, rfl, hp, hI, hpF, hkF⟩
  · have hR : RC w g (less D) F mb none es qs := h.obj' (D' := less D) rfl h.obj (fun _ _ _ _ => rfl) (fun _ e => e) h.lt (fun _ => .inl ⟨by show (if 0 < D.left then D.left - 1 else D.left) < 0; rw [if_neg (by omega)]; exact h0, rfl⟩) h.gone (less_ok h.ok)
    have DO := Lib.hid (HDO.out w hR rfl (Grow.refl _ _))
    clear HDO h hR
    go_enter Try.func51, Try.ntmps51
    go_wp2_with (first
      | (go_at_call 60; refine DO.out.mono ?_; rintro e w1 ⟨rfl, hQ⟩))
    go_ret
    exact ⟨rfl, hQ⟩
  · have p0 : w.cell? ⟨p, 0, none⟩ = some (.int .i64 D.left) := cell_of_row w p 0 _ _ (0, 0) hp
    have pz : w.frozen? ⟨p, 0, none⟩ = false := by simp [World.frozen?, hp]
    have hgp : g ≠ p := fun e => by
      rw [← e, h.obj] at hp
      injection hp with hp
      injection hp with _ hp _
      exact absurd hp (by decide)
    have hlo := h.ok.low
    have hhi := h.ok.high
    have hR : ∀ V : World, V = w → RC (V.setCell ⟨p, 0, none⟩ (.int .i64 (D.left - 1))) g (less D) F mb (some ⟨p, 0, none⟩) es qs := by
      rintro V rfl
      have hlq : (less D).left = D.left - 1 := by show (if 0 < D.left then D.left - 1 else D.left) = _; rw [if_pos (by omega)]
      refine h.obj' (D' := less D) rfl ((set_blk _ _ _ _ hgp).trans h.obj) (fun x hx _ hn => set_blk _ _ _ _ (fun e => hn #[.int .i64 D.left, kv] (by rw [e]; exact hp))) (fun _ e => e) (fun x e => by rw [set_size]; exact h.lt x e) (fun _ => .inr ⟨by rw [hlq]; omega, p, kv, rfl, by rw [hlq]; simp [World.setCell, Array.getElem?_modify, hp], hI.onS (fun x e => set_blk _ _ _ _ (fun e2 => ?_)), hpF, hkF⟩) h.gone (less_ok h.ok)
      rcases hI.2 with ⟨ev, _⟩ | ⟨q, cap, cur, ev, _, hh, _⟩
      · rw [ev] at e
        cases e
      · rw [ev] at e
        have e' : some q = some x := e
        injection e' with e'
        rw [e', e2, hp] at hh
        injection hh with hh
        injection hh with _ hh _
        exact absurd hh (by decide)
    have hG : Grow F w (w.setCell ⟨p, 0, none⟩ (.int .i64 (D.left - 1))) := (Grow.refl F w).set (p := ⟨p, 0, none⟩) (.inl hpF) _
    have hb : ∀ n, Below w.heap.size (w.setCell ⟨p, 0, none⟩ (.int .i64 (D.left - 1))) ((w.setCell ⟨p, 0, none⟩ (.int .i64 (D.left - 1))).drewN n) := fun n => below_drewN (Below.refl _ _) n
    have DO := Lib.hid (fun n => HDO.out ((w.setCell ⟨p, 0, none⟩ (.int .i64 (D.left - 1))).drewN n) ((hR w rfl).below (below_drewN (Below.refl _ _) n)) (set_size _ _ _) (hG.drewN n))
    obtain ⟨l, hll⟩ : ∃ l, D.left = l := ⟨_, rfl⟩
    have hl0 : (l == 0) = false := by rw [← hll]; simpa using hl
    have hw1 : IntKind.i64.wrap (l - 1) = l - 1 := IntWalk.i64_in _ (by omega)
    rw [hll] at DO p0
    clear HDO h hR hG hb hI hp
    go_enter Try.func51, Try.ntmps51
    go_wp2_with (first
      | (go_at_call 60; first | (refine (DO.out 0).mono ?_; rintro e w1 ⟨rfl, hQ⟩) | (refine (DO.out 1).mono ?_; rintro e w1 ⟨rfl, hQ⟩)))
    all_goals first
      | (go_ret; exact ⟨rfl, hQ⟩)

set_option maxRecDepth 100000 in
set_option maxHeartbeats 8000000 in
theorem gWork_Remove (w : World) (g : Nat) (D : Dk) (F : Nat → Prop) (mb : Nat) (fp : Option Addr) (es : List (Lit × DataW Empty)) (qs : List Cf) (h : RC w g D F mb fp es qs) (hd : D.dead = false) (hl : D.left ≠ 0) (caps : Array Value) (Q : World → Prop)
    (hdo : ∀ V, RC V g (less D) F mb fp es qs → V.heap.size = w.heap.size → Grow F w V → Calls Try.prog 67 caps V fun e w' => e = .returned (.tuple #[]) ∧ Q w') :
    Calls Try.prog 51 #[pt g, .func (.func 67) #[] caps] w fun e w' => e = .returned (.int .i64 0) ∧ Q w' := by
  have c2 := h.c2
  have HDO := Lib.hid hdo
  clear hdo
  rcases h.fail hd with ⟨h0, rfl⟩ | ⟨hp0, p, kv, rfl, hp, hI, hpF, hkF⟩
  · have hR : RC w g (less D) F mb none es qs := h.obj' (D' := less D) rfl h.obj (fun _ _ _ _ => rfl) (fun _ e => e) h.lt (fun _ => .inl ⟨by show (if 0 < D.left then D.left - 1 else D.left) < 0; rw [if_neg (by omega)]; exact h0, rfl⟩) h.gone (less_ok h.ok)
    have DO := Lib.hid (HDO.out w hR rfl (Grow.refl _ _))
    clear HDO h hR
    go_enter Try.func51, Try.ntmps51
    go_wp2_with (first
      | (go_at_call 67; refine DO.out.mono ?_; rintro e w1 ⟨rfl, hQ⟩))
    go_ret
    exact ⟨rfl, hQ⟩
  · have p0 : w.cell? ⟨p, 0, none⟩ = some (.int .i64 D.left) := cell_of_row w p 0 _ _ (0, 0) hp
    have pz : w.frozen? ⟨p, 0, none⟩ = false := by simp [World.frozen?, hp]
    have hgp : g ≠ p := fun e => by
      rw [← e, h.obj] at hp
      injection hp with hp
      injection hp with _ hp _
      exact absurd hp (by decide)
    have hlo := h.ok.low
    have hhi := h.ok.high
    have hR : ∀ V : World, V = w → RC (V.setCell ⟨p, 0, none⟩ (.int .i64 (D.left - 1))) g (less D) F mb (some ⟨p, 0, none⟩) es qs := by
      rintro V rfl
      have hlq : (less D).left = D.left - 1 := by show (if 0 < D.left then D.left - 1 else D.left) = _; rw [if_pos (by omega)]
      refine h.obj' (D' := less D) rfl ((set_blk _ _ _ _ hgp).trans h.obj) (fun x hx _ hn => set_blk _ _ _ _ (fun e => hn #[.int .i64 D.left, kv] (by rw [e]; exact hp))) (fun _ e => e) (fun x e => by rw [set_size]; exact h.lt x e) (fun _ => .inr ⟨by rw [hlq]; omega, p, kv, rfl, by rw [hlq]; simp [World.setCell, Array.getElem?_modify, hp], hI.onS (fun x e => set_blk _ _ _ _ (fun e2 => ?_)), hpF, hkF⟩) h.gone (less_ok h.ok)
      rcases hI.2 with ⟨ev, _⟩ | ⟨q, cap, cur, ev, _, hh, _⟩
      · rw [ev] at e
        cases e
      · rw [ev] at e
        have e' : some q = some x := e
        injection e' with e'
        rw [e', e2, hp] at hh
        injection hh with hh
        injection hh with _ hh _
        exact absurd hh (by decide)
    have hG : Grow F w (w.setCell ⟨p, 0, none⟩ (.int .i64 (D.left - 1))) := (Grow.refl F w).set (p := ⟨p, 0, none⟩) (.inl hpF) _
    have hb : ∀ n, Below w.heap.size (w.setCell ⟨p, 0, none⟩ (.int .i64 (D.left - 1))) ((w.setCell ⟨p, 0, none⟩ (.int .i64 (D.left - 1))).drewN n) := fun n => below_drewN (Below.refl _ _) n
    have DO := Lib.hid (fun n => HDO.out ((w.setCell ⟨p, 0, none⟩ (.int .i64 (D.left - 1))).drewN n) ((hR w rfl).below (below_drewN (Below.refl _ _) n)) (set_size _ _ _) (hG.drewN n))
    obtain ⟨l, hll⟩ : ∃ l, D.left = l := ⟨_, rfl⟩
    have hl0 : (l == 0) = false := by rw [← hll]; simpa using hl
    have hw1 : IntKind.i64.wrap (l - 1) = l - 1 := IntWalk.i64_in _ (by omega)
    rw [hll] at DO p0
    clear HDO h hR hG hb hI hp
    go_enter Try.func51, Try.ntmps51
    go_wp2_with (first
      | (go_at_call 67; first | (refine (DO.out 0).mono ?_; rintro e w1 ⟨rfl, hQ⟩) | (refine (DO.out 1).mono ?_; rintro e w1 ⟨rfl, hQ⟩)))
    all_goals first
      | (go_ret; exact ⟨rfl, hQ⟩)

end Go.Proofs.Ytkhalpajomammaa
