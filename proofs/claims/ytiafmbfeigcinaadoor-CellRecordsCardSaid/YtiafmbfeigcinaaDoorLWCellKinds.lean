/-
  CellKinds: the walk.
-/
import Derived.Test.YtiafmbfeigcinaaDoorZ15
import Derived.Test.YtiafmbfeigcinaaDoorLClIds
set_option linter.unusedVariables false
set_option linter.unusedSimpArgs false
set_option maxRecDepth 100000
namespace Go.Proofs.YtiafmbfeigcinaaDoor
open Go.RowKit

/-- Two stamps in blocks, and what is older stays. -/
abbrev S4 (w : World) (g1 g2 : Nat) (p o a b : Int) (V : World) : Prop :=
  V.cell? ⟨g1, 0, none⟩ = some (.int .i64 p) ∧ V.cell? ⟨g1, 1, none⟩ = some (.int .i64 o) ∧ V.cell? ⟨g2, 0, none⟩ = some (.int .i64 a) ∧ V.cell? ⟨g2, 1, none⟩ = some (.int .i64 b) ∧ Below w.heap.size w V
theorem S4.bel {w V : World} {g1 g2 : Nat} {p o a b : Int} (h : S4 w g1 g2 p o a b V) : Below w.heap.size w V := h.2.2.2.2
theorem S4.keep {w V V' : World} {g1 g2 : Nat} {p o a b : Int} (h : S4 w g1 g2 p o a b V) (hb : Below V.heap.size V V') : S4 w g1 g2 p o a b V' :=
  ⟨kept_below hb _ _ h.1, kept_below hb _ _ h.2.1, kept_below hb _ _ h.2.2.1, kept_below hb _ _ h.2.2.2.1, h.2.2.2.2.trans (hb.mono h.2.2.2.2.size)⟩
theorem S4.call {w V : World} {g1 g2 : Nat} {p o a b : Int} {f : FuncId} {args : Array Value} {v : Value} (h : S4 w g1 g2 p o a b V) (hc : Calls Tryd.prog f args V fun e V' => e = .returned v ∧ Below V.heap.size V V') :
    Calls Tryd.prog f args V fun e V' => e = .returned v ∧ S4 w g1 g2 p o a b V' := hc.mono fun _ _ hh => ⟨hh.1, h.keep hh.2⟩
theorem self_eq2 (s : ByteArray) : (s.toList == s.toList) = true := by simp
/-- The text of a key that begins with a mark. -/
theorem markK_two (m : UInt8) (k : ByteArray) (b : List UInt8) (h : isK k = true) : ∃ s : ByteArray, markK [m] k b = .returned (.tuple #[.string s, .int .i64 0]) ∧ sb s = m :: (okey (sb k) ++ b) ∧ s.size ≤ 67 + b.length := by
  refine ⟨⟨([m] ++ okey (sb k) ++ b).toArray⟩, ?_, rfl, ?_⟩
  · unfold markK
    rw [h, if_pos rfl]
    rfl
  · show ([m] ++ okey (sb k) ++ b).length ≤ _
    have := okey_len k (isK_iff.1 h).2
    simp only [List.length_append, List.length_singleton]
    omega
theorem less_mark {s t : ByteArray} {a b : UInt8} {l m : List UInt8} (hs : sb s = a :: l) (ht : sb t = b :: m) (h : a < b) : Op.bytesLess s.toList t.toList = true := by
  rw [Lib.toList_data, Lib.toList_data]
  show Op.bytesLess (sb s) (sb t) = true
  rw [hs, ht]
  simp [Op.bytesLess, h]
end Go.Proofs.YtiafmbfeigcinaaDoor
