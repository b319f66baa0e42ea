/-
  Layer 11, the document's answers: TakeIntent.
-/
import Derived.Test.YtgccichmdddbpaaGreatDoorPA29
import Derived.Test.YtgccichmdddbpaaGreatDoorPA27
import Derived.Deep.AppendLies
set_option linter.unusedVariables false
set_option linter.unusedSimpArgs false
set_option maxRecDepth 100000
namespace Go.Proofs.YtgccichmdddbpaaGreatDoor
open Go.RowKit


section
variable {w V : World} {T : List As} {g v : Nat} {s s' s2 : Rst} {u : ByteArray} {d : Bool}
end

theorem step_appI {w : World} {ops : Array Oper} {o : Oper} {a : Act} {K : Act → World → Prop} {Q : Exit → Act → World → Prop} {E : Prop} (hgd : o.guard = none) (s x : Operand)
    (ho : o.op = .call { callee := .builtin .append, args := #[s, x], argTypes := #[36, 36] })
    (v : Value) (l : List Ch) (hs : a.eval s = v) (hown : w.ownsRow 0 24 3 v l.length (l.flatMap chc))
    (g c : Nat) (y : Ch) (hx : a.eval x = .slice (some ⟨g, 0, none⟩) 1 c) (hb : w.heap[g]? = some (.cells (chc y).toArray 24)) (hl : l.length ≤ 4096)
    (h : ∀ v' w', w'.ownsRow 0 24 3 v' (l.length + 1) (l.flatMap chc ++ chc y) → w.grownBy w' v.ownBlock → (v'.ownBlock = v.ownBlock ∨ v'.ownBlock = some w.heap.size) → (∃ A n c, v' = .slice A n c) → K (a.put o.dst v') w') :
    if Region.wanted o (yielded ops a.tmps) = true then Oper.wp Tryz.prog o a w K Q else E := by
  obtain ⟨i0, hi0, hz0, hz1, hz2⟩ := info_parts infoCh
  refine step_append_lies (w := w) hgd s x 36 ho 0 24 i0 _ 3 32 Tryz.underlying36 hi0 hz0 hz1 hz2 rfl (by decide) v l.length (l.flatMap chc) hs hown ⟨g, 0, none⟩ 1 c (chc y) hx (by rfl)
    (fun j u hj => ?_) (fun u hu => ?_) (by omega) (by unfold maxLen; omega) (by omega) (Nat.zero_le _) _ rfl (fun g' cap w' hr hg hob _ => ?_)
  · rw [Go.WideShapes.add_plain, Nat.zero_add, cell_of_row w g j _ _ _ hb]; simpa using hj
  · simp [chc] at hu
    rcases hu with rfl | rfl | rfl <;> rfl
  · exact h _ w' hr hg (hob.elim (fun e => .inl e.symm) (fun e => .inr (by rw [e]; rfl))) ⟨_, _, _, rfl⟩

theorem may_top {x : It} (h : mayI x = true) : x.l.length ≤ 16 := by
  simp only [mayI, Bool.and_eq_true] at h
  exact (of_decide_eq_true h.1.2).2

end Go.Proofs.YtgccichmdddbpaaGreatDoor
