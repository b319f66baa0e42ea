/-
  Layer 7: the landed disk: isNone, check, mayBeName, find, names.
-/
import Derived.Test.YtmjoaeljfhgojaaGRep
import Derived.Test.YtmjoaeljfhgojaaIter
import Derived.WalkSpells
set_option linter.unusedVariables false
namespace Go.Proofs.Ytmjoaeljfhgojaa
open Go.RowKit Go.Maps

section
variable (w : World) (g : Nat) (D : Dk) (F : Nat → Prop) (mb : Nat) (fp : Option Addr) (es : List (Lit × DataW Empty)) (qs : List Cf) (h : RC w g D F mb fp es qs)
include h
set_option maxRecDepth 100000 in
theorem gNone : Calls Try.prog 44 #[pt g] w fun e w' => e = .returned (.bool false) ∧ w' = w := by
  have c0 := h.c0
  have qT : ∀ (w : World) (r : Option Nat), (binOp .eql 65 (.map r) (.map none)).run Try.prog w = .ok (.bool r.isNone) w := fun w r => run_eql_map_nil w _ _ _ r Try.underlying65
  clear h
  go_enter Try.func44, Try.ntmps44
  go_wp2
  go_ret
  exact ⟨rfl, rfl⟩
theorem gCheck : Calls Try.prog 48 #[pt g] w fun e w' => e = .returned (.int .i64 (if D.dead then 71 else 0)) ∧ w' = w := by
  have N := gNone w g D F mb fp es qs h
  have c1 := h.c1
  clear h
  cases hd : D.dead with
  | true =>
    rw [hd] at c1
    go_enter Try.func48, Try.ntmps48
    go_wp2_with (first | (go_at_call 44; refine N.mono ?_; rintro e w1 ⟨rfl, rfl⟩))
    go_ret
    exact ⟨rfl, rfl⟩
  | false =>
    rw [hd] at c1
    go_enter Try.func48, Try.ntmps48
    go_wp2_with (first | (go_at_call 44; refine N.mono ?_; rintro e w1 ⟨rfl, rfl⟩))
    go_ret
    exact ⟨rfl, rfl⟩
omit h in
theorem gMay (s : ByteArray) : Calls Try.prog 49 #[.string s] w fun e w' => e = .returned (.bool (mayN s)) ∧ w' = w := by
  obtain ⟨b, hb⟩ : ∃ b, mayN s = b := ⟨_, rfl⟩
  have hb2 := hb
  unfold mayN at hb2
  rw [hb]
  have HB := Lib.hid hb2
  clear hb hb2
  by_cases h1 : (1 : Int) ≤ (s.size : Int)
  · have e : decide ((s.size : Int) ≤ 40) = b := by rw [← HB.out]; exact decide_eq_decide.2 (by omega)
    go_enter Try.func49, Try.ntmps49
    go_wp2
    go_ret
    exact ⟨rfl, rfl⟩
  · have e : b = false := by rw [← HB.out]; simp; omega
    subst e
    go_enter Try.func49, Try.ntmps49
    go_wp2
    go_ret
    exact ⟨rfl, rfl⟩
/-- find, of a name that is not there. -/
theorem gFind_no (s : ByteArray) (hn : nmE D s ≠ 0) : Calls Try.prog 53 #[pt g, .string s] w fun e w' => e = .returned (.tuple #[.pointer none, .int .i64 (nmE D s)]) ∧ w' = w := by
  have C := gCheck w g D F mb fp es qs h
  have c0 := h.c0
  cases hd : D.dead with
  | true =>
    have hE : nmE D s = 71 := by unfold nmE; rw [hd]; rfl
    rw [hE]
    rw [hd] at C
    have C' := Lib.hid C
    clear C h hn
    go_enter Try.func53, Try.ntmps53
    go_wp2_with (first | (go_at_call 48; refine C'.out.mono ?_; rintro e w1 ⟨rfl, rfl⟩))
    go_ret2
    exact ⟨rfl, rfl⟩
  | false =>
    rw [hd] at C
    have C' := Lib.hid C
    cases hi : isAt D.l s with
    | true => exact absurd (by unfold nmE; rw [hd, hi]; rfl) hn
    | false =>
      have hE : nmE D s = 70 := by unfold nmE; rw [hd, hi]; rfl
      rw [hE]
      have hL := h.look_no hi true
      simp only [if_true] at hL
      clear C h hn
      go_enter Try.func53, Try.ntmps53
      go_wp2_with (first | (go_at_call 48; refine C'.out.mono ?_; rintro e w1 ⟨rfl, rfl⟩))
      go_ret2
      exact ⟨rfl, rfl⟩
/-- .. of one that is. -/
theorem gFind_yes (s : ByteArray) {p : Nat} (hp : pos D.l s = p) (hn : nmE D s = 0) (hq : p < qs.length) : Calls Try.prog 53 #[pt g, .string s] w fun e w' => e = .returned (.tuple #[pt qs[p].q, .int .i64 0]) ∧ w' = w := by
  have C := gCheck w g D F mb fp es qs h
  have c0 := h.c0
  have hd : D.dead = false := by
    cases hd : D.dead with
    | true => unfold nmE at hn; rw [hd, if_pos rfl] at hn; exact absurd hn (by decide)
    | false => rfl
  have hi : isAt D.l s = true := by
    cases hi : isAt D.l s with
    | true => rfl
    | false => unfold nmE at hn; rw [hd, hi, if_neg (by decide), if_pos rfl] at hn; exact absurd hn (by decide)
  rw [hd] at C
  have C' := Lib.hid C
  have hL := h.look_yes hp hi true hq
  simp only [if_true] at hL
  obtain ⟨q, hqq⟩ : ∃ q, qs[p].q = q := ⟨_, rfl⟩
  rw [hqq] at hL ⊢
  clear C h hn hqq
  go_enter Try.func53, Try.ntmps53
  go_wp2_with (first | (go_at_call 48; refine C'.out.mono ?_; rintro e w1 ⟨rfl, rfl⟩))
  go_ret2
  exact ⟨rfl, rfl⟩
end
end Go.Proofs.Ytmjoaeljfhgojaa
