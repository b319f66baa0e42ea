/-
  Layer 2: isStamp, Down, TakeDown, of the code and of the document.
  Layer 2: the document's answers Down and TakeDown.
-/
import Derived.Test.YtiafmbfeigcinaaDoorZ05
import Derived.Test.YtiafmbfeigcinaaDoorZ07
import Derived.Test.YtiafmbfeigcinaaDoorZ03
import Derived.StillTailTactics
set_option linter.unusedVariables false
set_option maxRecDepth 100000
namespace Go.Proofs.YtiafmbfeigcinaaDoor
open Go.RowKit

/-- A stamp's value. -/
def stv (a b : Int) : Value := .agg #[.int .i64 a, .int .i64 b]



/-- A stamp's bytes. -/
def odown (a b : Int) : List UInt8 := wide 6 (1099511627776 - a).toNat ++ wide 3 (1048575 - b).toNat
theorem odown_len (a b : Int) : (odown a b).length = 9 := by simp [odown, wide_len]


theorem box_cell {w w1 : World} {a b : Int} (t : TypeId) (hb : Below (w.alloc (.cells #[.int .i64 a, .int .i64 b] t)).heap.size (w.alloc (.cells #[.int .i64 a, .int .i64 b] t)) w1) :
    w1.cell? ⟨w.heap.size, 0, none⟩ = some (.int .i64 a) ∧ w1.cell? ⟨w.heap.size, 1, none⟩ = some (.int .i64 b) := by
  have hB := (Blk.new w t #[.int .i64 a, .int .i64 b]).below hb (by simp)
  exact ⟨by rw [hB.cell]; rfl, by rw [hB.cell]; rfl⟩


end Go.Proofs.YtiafmbfeigcinaaDoor
set_option linter.unusedVariables false
set_option maxRecDepth 100000
namespace Go.Proofs.YtiafmbfeigcinaaDoor
open Go.RowKit


theorem keepS {w1 V w2 : World} {p q : Addr} {u v : Value} (h : V.cell? p = some u ∧ V.cell? q = some v ∧ Below w1.heap.size w1 V) (hb : Below V.heap.size V w2) :
    w2.cell? p = some u ∧ w2.cell? q = some v ∧ Below w1.heap.size w1 w2 :=
  ⟨(hb.cell (World.block_lt_of_cell? V _ h.1)).trans h.1, (hb.cell (World.block_lt_of_cell? V _ h.2.1)).trans h.2.1, h.2.2.trans (hb.mono h.2.2.size)⟩

theorem str_app (x y : List UInt8) : (⟨x.toArray⟩ : ByteArray) ++ ⟨y.toArray⟩ = ⟨(x ++ y).toArray⟩ := by
  apply ByteArray.ext
  simp


end Go.Proofs.YtiafmbfeigcinaaDoor
