/-
  What a walk within a walk has made.
-/
import Derived.Test.YtgakkeeeadndkaaSep
set_option linter.unusedVariables false
namespace Go.Proofs.Ytgakkeeeadndkaa
open Go.RowKit

section
variable {w V V' : World} {l l' : List As} {A : As}
theorem Sep.congr {F G : Nat → Prop} (h : Sep V l F) (e : ∀ k, F k ↔ G k) : Sep V l G := by
  cases l with
  | nil => exact fun k hk => h k ((e k).2 hk)
  | cons A l =>
    obtain ⟨F1, F2, h1, h2, h3, h4⟩ := h
    exact ⟨F1, F2, h1, h2, h3, fun k => (e k).symm.trans (h4 k)⟩
theorem Sep.app {F G : Nat → Prop} (h : Sep V l F) (h2 : Sep V l' G) (hd : ∀ k, F k → ¬ G k) : Sep V (l ++ l') (fun k => F k ∨ G k) := by
  induction l generalizing F with
  | nil => exact h2.congr (fun k => ⟨.inr, fun e => e.elim (fun e => absurd e (h k)) id⟩)
  | cons A l ih =>
    obtain ⟨F1, F2, h1, h3, h4, h5⟩ := h
    refine ⟨F1, _, h1, ih h3 (fun k e => hd k ((h5 k).2 (.inr e))), fun k e e2 => ?_, fun k => ?_⟩
    · rcases e2 with e2 | e2
      · exact h4 k e e2
      · exact hd k ((h5 k).2 (.inl e)) e2
    · show (F k ∨ G k) ↔ _
      rw [h5]
      exact or_assoc
/-- What a walk within a walk has made. -/
theorem Has.join (h : Has w l V) (h2 : Has V l' V') : Has w (l' ++ l) V' := by
  obtain ⟨⟨F, h1, h3⟩, h4⟩ := h
  obtain ⟨⟨G, h5, h6⟩, h7⟩ := h2
  have hlt := h1.lt
  have hk := h1.on h7.size (fun k e => h7.block k (hlt k e))
  refine ⟨⟨_, h5.app hk (fun k e e2 => by have := h6 k e; have := hlt k e2; omega), fun k e => ?_⟩, h4.trans (h7.mono h4.size)⟩
  rcases e with e | e
  · exact Nat.le_trans h4.size (h6 k e)
  · exact h3 k e
end
end Go.Proofs.Ytgakkeeeadndkaa
