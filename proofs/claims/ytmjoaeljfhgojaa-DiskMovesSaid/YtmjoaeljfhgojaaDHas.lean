/-
  Layer 7: 'has'; a disk of one file.
-/
import Derived.Test.YtmjoaeljfhgojaaDSame
set_option linter.unusedVariables false
namespace Go.Proofs.Ytmjoaeljfhgojaa
open Go.RowKit

set_option maxRecDepth 100000 in
set_option maxHeartbeats 4000000 in
theorem has_w {R : DRep} (hD : DiskOk R) (w : World) (g : Nat) (D : Dk) (F : Nat → Prop) (nm : ByteArray) (A : Option Addr) (n c : Nat) (xs : List UInt8) (h : R w g D F) (hx : At w A n xs) :
    Calls Try.prog 28 #[pt g, .string nm, .slice A n c] w fun e w' => e = .returned (.bool (rdE D nm == 0 && rdB D nm == xs)) ∧ Below w.heap.size w w' := by
  have C1 := Lib.hid (hD.read w g D F nm h)
  obtain ⟨E, hE⟩ : ∃ E, rdE D nm = E := ⟨_, rfl⟩
  obtain ⟨bs, hbs⟩ : ∃ bs, rdB D nm = bs := ⟨_, rfl⟩
  obtain ⟨m, hm⟩ : ∃ m, bs.length = m := ⟨_, rfl⟩
  have HM := Lib.hid hm
  obtain ⟨q, hq⟩ : ∃ q, (bs == xs) = q := ⟨_, rfl⟩
  rw [hE, hbs] at C1 ⊢
  rw [hq]
  have HQ := Lib.hid hq
  clear hE hbs hm h hD hq
  by_cases h0 : E = 0
  · subst h0
    have e0 : ((0 : Int) == 0) = true := rfl
    rw [e0]
    go_enter Try.func28, Try.ntmps28
    go_wp2_with (first
      | (go_at_call 25; refine C1.out.mono ?_; rintro e3 w3 ⟨v3, rfl, ho3, hb3⟩; obtain ⟨A3, c3, rfl, hat3, hc3, hcm3, _⟩ := Own.form ho3; rw [HM.out] at hat3 hc3 ⊢; have hx3 := hx.below' hb3; have hca3 := Nat.le_trans hc3 hcm3)
      | (go_at_call 16; refine (eqBytes _ _ _ _ _ _ bs xs _ hat3 hx3 hca3).mono ?_; rintro e7 w7 ⟨rfl, j7, rfl⟩; rw [HQ.out]))
    go_ret
    exact ⟨rfl, below_drewN hb3 _⟩
  · have e0 : (E == 0) = false := by simpa using h0
    rw [e0, Bool.false_and]
    go_enter Try.func28, Try.ntmps28
    go_wp2_with (first
      | (go_at_call 25; refine C1.out.mono ?_; rintro e3 w3 ⟨v3, rfl, ho3, hb3⟩; obtain ⟨A3, c3, rfl, hat3, hc3, hcm3, _⟩ := Own.form ho3; rw [HM.out] at hat3 hc3 ⊢; have hx3 := hx.below' hb3; have hca3 := Nat.le_trans hc3 hcm3))
    go_ret
    exact ⟨rfl, hb3⟩
end Go.Proofs.Ytmjoaeljfhgojaa
