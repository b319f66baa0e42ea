/-
  Layer 7: the landed disk: Append's walk, in the three ways of its question. (Written by wip/tools/gapp.py.)
-/
import Derived.Test.YtkhalpajomammaaGAppA
set_option linter.unusedVariables false
namespace Go.Proofs.Ytkhalpajomammaa
open Go.RowKit Go.Maps

theorem three_bel (w : World) (a b c : Obj) : Below w.heap.size w (((w.alloc a).alloc b).alloc c) := ((two_bel w a b).alloc (by simp; omega) c)
theorem three_get (w : World) (a b c : Obj) : (((w.alloc a).alloc b).alloc c).heap[w.heap.size]? = some a ∧ (((w.alloc a).alloc b).alloc c).heap[w.heap.size + 1]? = some b ∧ (((w.alloc a).alloc b).alloc c).heap[w.heap.size + 1 + 1]? = some c :=
  ⟨old_at _ _ (old_at _ _ (new_at _ _ rfl)), old_at _ _ (new_at _ _ (by simp)), new_at _ _ (by simp)⟩
theorem five_bel (w : World) (a b c d e : Obj) : Below w.heap.size w (((((w.alloc a).alloc b).alloc c).alloc d).alloc e) := (four_bel w a b c d).alloc (by simp; omega) e
theorem five_get (w : World) (a b c d e : Obj) : (((((w.alloc a).alloc b).alloc c).alloc d).alloc e).heap[w.heap.size]? = some a ∧ (((((w.alloc a).alloc b).alloc c).alloc d).alloc e).heap[w.heap.size + 1]? = some b ∧ (((((w.alloc a).alloc b).alloc c).alloc d).alloc e).heap[w.heap.size + 1 + 1]? = some c ∧ (((((w.alloc a).alloc b).alloc c).alloc d).alloc e).heap[w.heap.size + 1 + 1 + 1]? = some d ∧ (((((w.alloc a).alloc b).alloc c).alloc d).alloc e).heap[w.heap.size + 1 + 1 + 1 + 1]? = some e :=
  ⟨old_at _ _ (four_get w a b c d).1, old_at _ _ (four_get w a b c d).2.1, old_at _ _ (four_get w a b c d).2.2.1, old_at _ _ (four_get w a b c d).2.2.2, new_at _ _ (by simp)⟩
/-- The five boxes. -/
structure AB (w : World) (g : Nat) (nm : ByteArray) (XA : Option Addr) (xn xc : Nat) (fv : Value) (fo : Bool) (b8 b9 : Nat) (V : World) : Prop where
  bel : Below w.heap.size w V
  h0 : V.heap[w.heap.size]? = some (.cells #[pt g] 23 (0, 0))
  h1 : V.heap[w.heap.size + 1]? = some (.cells #[.string nm] 9 (0, 0))
  h2 : V.heap[w.heap.size + 1 + 1]? = some (.cells #[.slice XA xn xc] 27 (0, 0))
  h8 : V.heap[b8]? = some (.cells #[fv] 71 (0, 0))
  h9 : V.heap[b9]? = some (.cells #[.bool fo] 4 (0, 0))
  l8 : w.heap.size ≤ b8
  l9 : w.heap.size ≤ b9
theorem AB.mk1 (w : World) (g : Nat) (nm : ByteArray) (XA : Option Addr) (xn xc : Nat) (fv : Value) (fo : Bool) :
    AB w g nm XA xn xc fv fo (w.heap.size + 1 + 1 + 1) (w.heap.size + 1 + 1 + 1 + 1) (((((w.alloc (.cells #[pt g] 23)).alloc (.cells #[.string nm] 9)).alloc (.cells #[.slice XA xn xc] 27)).alloc (.cells #[fv] 71)).alloc (.cells #[.bool fo] 4)).drew := by
  obtain ⟨h0, h1, h2, h3, h4⟩ := five_get w (.cells #[pt g] 23) (.cells #[.string nm] 9) (.cells #[.slice XA xn xc] 27) (.cells #[fv] 71) (.cells #[.bool fo] 4)
  exact ⟨(five_bel w _ _ _ _ _).drew, h0, h1, h2, h3, h4, by omega, by omega⟩
theorem AB.mk2 (w : World) (g : Nat) (nm : ByteArray) (XA : Option Addr) (xn xc : Nat) (fv : Value) (fo : Bool) :
    AB w g nm XA xn xc fv fo (w.heap.size + 1 + 1 + 1 + 1) (w.heap.size + 1 + 1 + 1) (((((w.alloc (.cells #[pt g] 23)).alloc (.cells #[.string nm] 9)).alloc (.cells #[.slice XA xn xc] 27)).alloc (.cells #[.bool fo] 4)).alloc (.cells #[fv] 71)).drew := by
  obtain ⟨h0, h1, h2, h3, h4⟩ := five_get w (.cells #[pt g] 23) (.cells #[.string nm] 9) (.cells #[.slice XA xn xc] 27) (.cells #[.bool fo] 4) (.cells #[fv] 71)
  exact ⟨(five_bel w _ _ _ _ _).drew, h0, h1, h2, h4, h3, by omega, by omega⟩
/-- What the look-up's region reads. -/
@[reducible] def SA (w : World) (g mb : Nat) (nm : ByteArray) (fv : Value) (fo : Bool) (V : World) : Prop :=
  V.cell? ⟨w.heap.size, 0, none⟩ = some (pt g) ∧ V.cell? ⟨w.heap.size + 1, 0, none⟩ = some (.string nm) ∧ V.cell? ⟨g, 0, none⟩ = some (.map (some mb)) ∧ (Instr.lookup 65 (.map (some mb)) (.string nm) true).run Try.prog V = .ok (.tuple #[fv, .bool fo]) V
/-- What the question's region reads. -/
@[reducible] def SB (w : World) (g mb : Nat) (XA : Option Addr) (xn xc : Nat) (fo : Bool) (b9 : Nat) (V : World) : Prop :=
  V.cell? ⟨w.heap.size, 0, none⟩ = some (pt g) ∧ V.cell? ⟨w.heap.size + 1 + 1, 0, none⟩ = some (.slice XA xn xc) ∧ V.cell? ⟨b9, 0, none⟩ = some (.bool fo) ∧ V.cell? ⟨g, 0, none⟩ = some (.map (some mb))
theorem AB.below {w V V' : World} {g : Nat} {nm : ByteArray} {XA : Option Addr} {xn xc : Nat} {fv : Value} {fo : Bool} {b8 b9 : Nat} (h : AB w g nm XA xn xc fv fo b8 b9 V) (hb : Below V.heap.size V V') : AB w g nm XA xn xc fv fo b8 b9 V' :=
  ⟨h.bel.trans (hb.mono h.bel.size), (hb.block _ (Array.getElem?_eq_some_iff.1 h.h0).1).trans h.h0, (hb.block _ (Array.getElem?_eq_some_iff.1 h.h1).1).trans h.h1, (hb.block _ (Array.getElem?_eq_some_iff.1 h.h2).1).trans h.h2, (hb.block _ (Array.getElem?_eq_some_iff.1 h.h8).1).trans h.h8, (hb.block _ (Array.getElem?_eq_some_iff.1 h.h9).1).trans h.h9, h.l8, h.l9⟩
theorem AB.sb {w V : World} {g : Nat} {nm : ByteArray} {XA : Option Addr} {xn xc : Nat} {fv : Value} {fo : Bool} {b8 b9 : Nat} (h : AB w g nm XA xn xc fv fo b8 b9 V) {D : Dk} {F : Nat → Prop} {mb : Nat} {fp : Option Addr} {es : List (Lit × DataW Empty)} {qs : List Cf} (hR : RC w g D F mb fp es qs) : SB w g mb XA xn xc fo b9 V :=
  ⟨box_cell h.h0, box_cell h.h2, box_cell h.h9, (hR.below h.bel).c0⟩
theorem step_lenM {P : Program} {ops : Array Oper} {o : Oper} {a : Act} {w : World} {K : Act → World → Prop} {Q : Exit → Act → World → Prop} {E : Prop} (m : Operand) (t : TypeId) (hop : o.op = Op.call { callee := Callee.builtin Builtin.len, args := #[m], argTypes := #[t] })
    (hw : Region.wanted o (yielded ops a.tmps) = true) (b : Nat) (v : Value) (hm : a.eval m = .map (some b)) (hrun : (Builtin.len_ #[t] o.type #[.map (some b)]).run P w = .ok v w) (hK : K (a.put o.dst v) w) : if Region.wanted o (yielded ops a.tmps) = true then Oper.wp P o a w K Q else E := by
  rw [if_pos hw]
  unfold Oper.wp
  simp [execOp, hop, resolve, invoke, builtin, hm, hrun, Result.andThen]
  exact hK
theorem RC.size_eq {w : World} {g : Nat} {D : Dk} {F : Nat → Prop} {mb : Nat} {fp : Option Addr} {es : List (Lit × DataW Empty)} {qs : List Cf} (h : RC w g D F mb fp es qs) : Maps.size (DataW.map es) = D.l.length := by
  have h1 := h.perm.length_eq
  rw [List.length_map, h.len] at h1
  exact h1
set_option maxRecDepth 100000 in
set_option maxHeartbeats 8000000 in
theorem gApp_there (w : World) (g : Nat) (D : Dk) (F : Nat → Prop) (mb : Nat) (fp : Option Addr) (es : List (Lit × DataW Empty)) (qs : List Cf) (nm : ByteArray) (XA : Option Addr) (xn xc : Nat) (h : RC w g D F mb fp es qs) (hx : xn ≤ 140000000000000) (hd : D.dead = false) (hmy : mayN nm = true) (fv : Value) (hf : ∃ q, fv = pt q)
    (hlk : ∀ V, RC V g D F mb fp es qs → (Instr.lookup 65 (.map (some mb)) (.string nm) true).run Try.prog V = .ok (.tuple #[fv, .bool true]) V) (E : Int) (D' : Dk) (full : Bool) (hfull : decide (4194304 < (sum D.l : Int) + (xn : Int)) = full)
    (hE : full = true → E = 7 ∧ D' = D) (hW : full = false → ∀ b8 b9 V, AB w g nm XA xn xc fv true b8 b9 V → Calls Try.prog 51 #[pt g, .func (.func 52) #[] #[pt b9, pt b8, pt w.heap.size, pt (w.heap.size + 1), pt (w.heap.size + 1 + 1)]] V fun e w' => e = .returned (.int .i64 E) ∧ Turns RCk w g F D' w') :
    Calls Try.prog 20 #[pt g, .string nm, .slice XA xn xc] w fun e w' => e = .returned (.int .i64 E) ∧ Turns RCk w g F D' w' := by
  have H := Lib.hid h
  have CK := Lib.hid (fun V (hb : Below w.heap.size w V) => gCheck V g D F mb fp es qs (H.out.below hb))
  have MY := Lib.hid (fun V => gMay V nm)
  rw [hd] at CK
  rw [hmy] at MY
  have hb3 := three_bel w (.cells #[pt g] 23) (.cells #[.string nm] 9) (.cells #[.slice XA xn xc] 27)
  have HS : ∀ V, Below (((w.alloc (.cells #[pt g] 23)).alloc (.cells #[.string nm] 9)).alloc (.cells #[.slice XA xn xc] 27)).heap.size (((w.alloc (.cells #[pt g] 23)).alloc (.cells #[.string nm] 9)).alloc (.cells #[.slice XA xn xc] 27)) V → SA w g mb nm fv true V := fun V hb => by
    have hR := (h.below hb3).below hb
    have hg := three_get w (.cells #[pt g] 23) (.cells #[.string nm] 9) (.cells #[.slice XA xn xc] 27)
    exact ⟨box_cell ((hb.block _ (Array.getElem?_eq_some_iff.1 hg.1).1).trans hg.1), box_cell ((hb.block _ (Array.getElem?_eq_some_iff.1 hg.2.1).1).trans hg.2.1), hR.c0, hlk V hR⟩
  have HSd := HS _ ((Below.refl _ _).drew)
  obtain ⟨S, hS⟩ : ∃ S, sum D.l = S := ⟨_, rfl⟩
  have HE := Lib.hid hE
  have HW := Lib.hid hW
  clear h hlk hE hW
  obtain ⟨q, rfl⟩ := hf
  all_goals
   go_enter Try.func20, Try.ntmps20
   go_wp2_with (first
     | (go_at_call 48; refine (CK.out _ hb3).mono ?_; rintro e w1 ⟨rfl, rfl⟩)
     | (go_at_call 49; refine (MY.out _).mono ?_; rintro e w1 ⟨rfl, rfl⟩))
   go_cut [8, 9] from 18 to 26 (fun u v wx => ∃ b8 b9, u = .pointer (some ⟨b8, 0, none⟩) ∧ v = .pointer (some ⟨b9, 0, none⟩) ∧ Hid (AB w g nm XA xn xc (pt q) true b8 b9 wx))
   case first =>
     go_region_held3 (fun V => SA w g mb nm (pt q) true V)
       (first | with_reducible assumption | (with_reducible refine HS _ ?_; repeat (first | exact Below.refl _ _ | refine Below.drew ?_ | refine Below.alloc ?_ (by simp) _ | refine Below.setCell ?_ (by simp) _))) (fail)
     all_goals (try go_wp2_with fail)
     all_goals go_meet
     all_goals first
       | exact ⟨_, _, rfl, rfl, Lib.hid (AB.mk1 _ _ _ _ _ _ _ _)⟩
       | exact ⟨_, _, rfl, rfl, Lib.hid (AB.mk2 _ _ _ _ _ _ _ _)⟩
   case rest =>
     obtain ⟨b8, b9, rfl, rfl, HA⟩ := hcut
     obtain ⟨x0, x2, x9, c0⟩ := (HA.out.below (Below.refl _ _).drew).sb H.out
     have HSB := Lib.hid (fun V (hb : Below wc.heap.size wc V) => (HA.out.below hb).sb H.out)
     have ST := Lib.hid (fun V (hb : Below wc.heap.size wc V) => gStored V g D F mb fp es qs (H.out.below (HA.out.below hb).bel))
     have hw1 : IntKind.i64.wrap ((S : Int) + (xn : Int)) = (S : Int) + (xn : Int) := IntWalk.i64_in _ (by have := H.out.ok.sum; omega)
     rw [hS] at ST hfull
     clear HS HSd CK MY
     go_wp2_with fail
     go_cut [44] from 18 to 47 (fun v wx => v = .bool full ∧ Hid (AB w g nm XA xn xc (pt q) true b8 b9 wx))
     case first =>
       go_region_with
         (first | (go_at_call 50; refine (ST.out _ (Below.refl _ _).drew).mono ?_; rintro e w6 ⟨rfl, hb6⟩; have hb6' := (Below.refl wc.heap.size wc).drew.trans hb6; obtain ⟨z0, z2, z9, d0⟩ := HSB.out _ hb6'; have HB6 := Lib.hid hb6'; clear hb6 hb6'))
       all_goals (try go_wp2_with fail)
       all_goals go_meet
       all_goals first
         | exact ⟨rfl, Lib.hid (HA.out.below HB6.out)⟩
         | exact ⟨by rw [hfull], Lib.hid (HA.out.below (Below.refl _ _).drew)⟩
     case rest =>
       obtain ⟨rfl, HA2⟩ := hcut
       have y0 := box_cell HA2.out.h0
       have hfb : Below w.heap.size w wc := HA2.out.bel
       cases full with
       | true =>
         obtain ⟨rfl, rfl⟩ := HE.out rfl
         go_wp2_with fail
         go_ret
         exact ⟨rfl, RCk.turn H.out hfb⟩
       | false =>
         have WK := Lib.hid (HW.out rfl b8 b9 wc HA2.out)
         go_wp2_with (first
           | (go_at_call 51; refine WK.out.mono ?_; rintro e w7 ⟨rfl, ht⟩))
         go_ret
         exact ⟨rfl, ht⟩
end Go.Proofs.Ytkhalpajomammaa
