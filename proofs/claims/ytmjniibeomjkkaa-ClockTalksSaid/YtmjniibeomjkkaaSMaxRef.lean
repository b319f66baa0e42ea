/-
  Layer 5, the document's answer: Max.
-/
import Derived.Test.YtmjniibeomjkkaaSRef
set_option linter.unusedVariables false
namespace Go.Proofs.Ytmjniibeomjkkaa
open Go.RowKit

theorem mx_take_succ (l : List (Int × Int)) (k : Nat) (h0 : 0 < k) (h : k < l.length) : mx (l.take (k + 1)) = two (mx (l.take k)) l[k] := by
  have hne : l.take k ≠ [] := by
    intro h1
    have := congrArg List.length h1
    rw [List.length_take, List.length_nil] at this
    omega
  rw [List.take_succ_eq_append_getElem h, mx_snoc _ hne]

/-- One stamp in a block, another one in a list. -/
abbrev SE (w : World) (g b o : Nat) (m1 m2 e1 e2 : Int) (V : World) : Prop :=
  V.cell? ⟨g, 0, none⟩ = some (.int .i64 m1) ∧ V.cell? ⟨g, 1, none⟩ = some (.int .i64 m2) ∧ V.cell? ⟨b, o, none⟩ = some (.int .i64 e1) ∧ V.cell? ⟨b, o + 1, none⟩ = some (.int .i64 e2) ∧ Below w.heap.size w V
theorem SE.keep {w V V' : World} {g b o : Nat} {m1 m2 e1 e2 : Int} (h : SE w g b o m1 m2 e1 e2 V) (hb : Below V.heap.size V V') : SE w g b o m1 m2 e1 e2 V' :=
  ⟨(hb.cell (World.block_lt_of_cell? V _ h.1)).trans h.1, (hb.cell (World.block_lt_of_cell? V _ h.2.1)).trans h.2.1, (hb.cell (World.block_lt_of_cell? V _ h.2.2.1)).trans h.2.2.1,
    (hb.cell (World.block_lt_of_cell? V _ h.2.2.2.1)).trans h.2.2.2.1, h.2.2.2.2.trans (hb.mono h.2.2.2.2.size)⟩
theorem SE.drew {w V : World} {g b o : Nat} {m1 m2 e1 e2 : Int} (h : SE w g b o m1 m2 e1 e2 V) : SE w g b o m1 m2 e1 e2 V.drew := ⟨h.1, h.2.1, h.2.2.1, h.2.2.2.1, h.2.2.2.2.drew⟩
theorem SE.call {w V : World} {g b o : Nat} {m1 m2 e1 e2 : Int} {f : FuncId} {args : Array Value} {v : Value} (k : SE w g b o m1 m2 e1 e2 V) (hc : Calls Try.prog f args V fun e V' => e = .returned v ∧ Below V.heap.size V V') :
    Calls Try.prog f args V fun e V' => e = .returned v ∧ SE w g b o m1 m2 e1 e2 V' ∧ Below V.heap.size V V' := hc.mono fun _ _ hh => ⟨hh.1, k.keep hh.2, hh.2⟩

end Go.Proofs.Ytmjniibeomjkkaa
