/-
  Layer 7: the landed disk: Append's walk, of a new file. (Written by wip/tools/gapp.py.)
-/
import Derived.Test.YtmjoaeljfhgojaaGAppB
set_option linter.unusedVariables false
namespace Go.Proofs.Ytmjoaeljfhgojaa
open Go.RowKit Go.Maps

set_option maxRecDepth 100000 in
set_option maxHeartbeats 8000000 in
theorem gApp_few (w : World) (g : Nat) (D : Dk) (F : Nat → Prop) (mb : Nat) (fp : Option Addr) (es : List (Lit × DataW Empty)) (qs : List Cf) (nm : ByteArray) (XA : Option Addr) (xn xc : Nat) (h : RC w g D F mb fp es qs) (hx : xn ≤ 140000000000000) (hd : D.dead = false) (hmy : mayN nm = true) (fv : Value) (hf : fv = .pointer none)
    (hlk : ∀ V, RC V g D F mb fp es qs → (Instr.lookup 65 (.map (some mb)) (.string nm) true).run Try.prog V = .ok (.tuple #[fv, .bool false]) V) (h20 : D.l.length < 20) (E : Int) (D' : Dk) (full : Bool) (hfull : decide (4194304 < (sum D.l : Int) + (xn : Int)) = full)
    (hE : full = true → E = 7 ∧ D' = D) (hW : full = false → ∀ b8 b9 V, AB w g nm XA xn xc fv false b8 b9 V → Calls Try.prog 51 #[pt g, .func (.func 52) #[] #[pt b9, pt b8, pt w.heap.size, pt (w.heap.size + 1), pt (w.heap.size + 1 + 1)]] V fun e w' => e = .returned (.int .i64 E) ∧ Turns RCk w g F D' w') :
    Calls Try.prog 20 #[pt g, .string nm, .slice XA xn xc] w fun e w' => e = .returned (.int .i64 E) ∧ Turns RCk w g F D' w' := by
  have H := Lib.hid h
  have CK := Lib.hid (fun V (hb : Below w.heap.size w V) => gCheck V g D F mb fp es qs (H.out.below hb))
  have MY := Lib.hid (fun V => gMay V nm)
  rw [hd] at CK
  rw [hmy] at MY
  have hb3 := three_bel w (.cells #[pt g] 23) (.cells #[.string nm] 9) (.cells #[.slice XA xn xc] 27)
  have HS : ∀ V, Below (((w.alloc (.cells #[pt g] 23)).alloc (.cells #[.string nm] 9)).alloc (.cells #[.slice XA xn xc] 27)).heap.size (((w.alloc (.cells #[pt g] 23)).alloc (.cells #[.string nm] 9)).alloc (.cells #[.slice XA xn xc] 27)) V → SA w g mb nm fv false V := fun V hb => by
    have hR := (h.below hb3).below hb
    have hg := three_get w (.cells #[pt g] 23) (.cells #[.string nm] 9) (.cells #[.slice XA xn xc] 27)
    exact ⟨box_cell ((hb.block _ (Array.getElem?_eq_some_iff.1 hg.1).1).trans hg.1), box_cell ((hb.block _ (Array.getElem?_eq_some_iff.1 hg.2.1).1).trans hg.2.1), hR.c0, hlk V hR⟩
  have HSd := HS _ ((Below.refl _ _).drew)
  obtain ⟨S, hS⟩ : ∃ S, sum D.l = S := ⟨_, rfl⟩
  have HE := Lib.hid hE
  have HW := Lib.hid hW
  clear h hlk hE hW
  subst hf
  all_goals
   go_enter Try.func20, Try.ntmps20
   go_wp2_with (first
     | (go_at_call 48; refine (CK.out _ hb3).mono ?_; rintro e w1 ⟨rfl, rfl⟩)
     | (go_at_call 49; refine (MY.out _).mono ?_; rintro e w1 ⟨rfl, rfl⟩))
   go_cut [8, 9] from 18 to 26 (fun u v wx => ∃ b8 b9, u = .pointer (some ⟨b8, 0, none⟩) ∧ v = .pointer (some ⟨b9, 0, none⟩) ∧ Hid (AB w g nm XA xn xc (.pointer none) false b8 b9 wx))
   case first =>
     go_region_held3 (fun V => SA w g mb nm (.pointer none) false V)
       (first | with_reducible assumption | (with_reducible refine HS _ ?_; repeat (first | exact Below.refl _ _ | refine Below.drew ?_ | refine Below.alloc ?_ (by simp) _ | refine Below.setCell ?_ (by simp) _))) (fail)
     all_goals (try go_wp2_with fail)
     all_goals go_meet
     all_goals first
       | exact ⟨_, _, rfl, rfl, Lib.hid (AB.mk1 _ _ _ _ _ _ _ _)⟩
       | exact ⟨_, _, rfl, rfl, Lib.hid (AB.mk2 _ _ _ _ _ _ _ _)⟩
   case rest =>
     obtain ⟨b8, b9, rfl, rfl, HA⟩ := hcut
     obtain ⟨x0, x2, x9, c0⟩ := (HA.out.below (Below.refl _ _).drew).sb H.out
     have HSB := Lib.hid (fun V (hb : Below wc.heap.size wc V) => (HA.out.below hb).sb H.out)
     have ST := Lib.hid (fun V (hb : Below wc.heap.size wc V) => gStored V g D F mb fp es qs (H.out.below (HA.out.below hb).bel))
     have hw1 : IntKind.i64.wrap ((S : Int) + (xn : Int)) = (S : Int) + (xn : Int) := IntWalk.i64_in _ (by have := H.out.ok.sum; omega)
     rw [hS] at ST hfull
     have hln : (Builtin.len_ #[65] 3 #[.map (some mb)]).run Try.prog wc.drew = .ok (.int .i64 (D.l.length : Nat)) wc.drew := by
       have h1 := (H.out.below (HA.out.below (Below.refl _ _).drew).bel).map.len Try.underlying65 3
       rw [H.out.size_eq] at h1
       exact h1
     obtain ⟨N, hN⟩ : ∃ N, D.l.length = N := ⟨_, rfl⟩
     rw [hN] at hln h20
     have hg : ((N : Int) == 20) = false := by simpa using (by omega : ¬ (N : Int) = 20)
     have HLN := Lib.hid hln
     clear hln
     clear HS HSd CK MY
     go_wp2_with fail
     go_cut [44] from 18 to 47 (fun v wx => v = .bool full ∧ Hid (AB w g nm XA xn xc (.pointer none) false b8 b9 wx))
     case first =>
       go_region_law
         (first | (refine step_lenM (.tmp 33) 65 rfl (by rfl) mb _ rfl HLN.out ?_) | (go_simp; go_at_call 50; refine (ST.out _ (Below.refl _ _).drew).mono ?_; rintro e w6 ⟨rfl, hb6⟩; have hb6' := (Below.refl wc.heap.size wc).drew.trans hb6; obtain ⟨z0, z2, z9, d0⟩ := HSB.out _ hb6'; have HB6 := Lib.hid hb6'; clear hb6 hb6'))
       all_goals (try go_wp2_with fail)
       all_goals go_meet
       all_goals first
         | exact ⟨rfl, Lib.hid (HA.out.below HB6.out)⟩
         | exact ⟨by rw [hfull], Lib.hid (HA.out.below (Below.refl _ _).drew)⟩
     case rest =>
       obtain ⟨rfl, HA2⟩ := hcut
       have y0 := box_cell HA2.out.h0
       have hfb : Below w.heap.size w wc := HA2.out.bel
       cases full with
       | true =>
         obtain ⟨rfl, rfl⟩ := HE.out rfl
         go_wp2_with fail
         go_ret
         exact ⟨rfl, RCk.turn H.out hfb⟩
       | false =>
         have WK := Lib.hid (HW.out rfl b8 b9 wc HA2.out)
         go_wp2_with (first
           | (go_at_call 51; refine WK.out.mono ?_; rintro e w7 ⟨rfl, ht⟩))
         go_ret
         exact ⟨rfl, ht⟩
end Go.Proofs.Ytmjoaeljfhgojaa
