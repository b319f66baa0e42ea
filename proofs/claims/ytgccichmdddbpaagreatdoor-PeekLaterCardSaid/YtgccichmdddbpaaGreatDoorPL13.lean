/-
  Layer 10, the code: Rows, Copy; the statements' words: what All and Back tell, in a list.
-/
import Derived.Test.YtgccichmdddbpaaGreatDoorPL11
import Derived.Test.YtgccichmdddbpaaGreatDoorPL12
import Derived.RangeFuncBox
set_option linter.unusedVariables false
namespace Go.Proofs.YtgccichmdddbpaaGreatDoor
open Go.RowKit Go.Shelf
attribute [local go_sem] Oper.semAt_some

theorem TRD.firm {p g1 g2 g3 : Nat} {f t : ByteArray} {r : List Rw} {B : Nat} {X Y : World} (h : TRD p g1 g2 g3 f t r X) (hf : Firm B X Y) : TRD p g1 g2 g3 f t r Y := by
  obtain ⟨F, h1⟩ := h.tb
  refine ⟨⟨F, (tbA p r).on h1 hf.size (fun k e => ?_)⟩, h.szs, hf.cells h.b1, hf.cells h.b2, hf.cells h.b3⟩
  obtain ⟨o, ho, hc⟩ := tbA_cel h1 k e
  rw [hf.same k o ho (.inl hc), ho]
theorem RRow.firm {w w' : World} {B C n : Nat} {v : Value} {l : List Rw} (h : RRow w B v n l) (hf : Firm C w w') : RRow w' B v n l := ownsRow_firm h hf
/-- What a range that collects carries on. -/
structure CB (V0 : World) (g n : Nat) (L : List Rw) (W : World) : Prop where
  box : ∃ v, Blk W g 50 #[v] ∧ RRow W V0.heap.size v n L
  bel : Below V0.heap.size V0 W
theorem CB.firm {V0 X Y : World} {g n B : Nat} {L : List Rw} (h : CB V0 g n L X) (hf : Firm B X Y) (hB : V0.heap.size ≤ B) : CB V0 g n L Y := by
  obtain ⟨v, h1, h2⟩ := h.box
  exact ⟨⟨v, hf.cells h1, h2.firm hf⟩, h.bel.trans (hf.below hB h.bel.size)⟩
end Go.Proofs.YtgccichmdddbpaaGreatDoor
