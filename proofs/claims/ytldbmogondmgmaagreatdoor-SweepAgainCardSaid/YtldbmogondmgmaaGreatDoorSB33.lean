/-
  How arguments are opened: an intent, a record.
-/
import Derived.Test.YtldbmogondmgmaaGreatDoorSB02
import Derived.Test.YtldbmogondmgmaaGreatDoorSB25
import Derived.Lib.SmallJoins
import Derived.Deep.SlicePairs
set_option linter.unusedVariables false
set_option linter.unusedSimpArgs false
set_option maxRecDepth 100000
namespace Go.Proofs.YtldbmogondmgmaaGreatDoor
open Go.ChangeShapes Go.WideShapes Go.ChangeAt Go.RowKit Go.Joins Go.Deep

theorem kIn : Tryz.prog.cellsOf 3 = 1 := by kernel_rfl
theorem kSt : Tryz.prog.cellsOf 9 = 1 := by kernel_rfl
theorem kBl : Tryz.prog.cellsOf 4 = 1 := by kernel_rfl
theorem kSp : Tryz.prog.cellsOf 26 = 2 := by kernel_rfl
theorem l2 {α : Type} {l : List α} (h : l.length = 2) : ∃ a b, l = [a, b] := by
  match l, h with
  | [a, b], _ => exact ⟨a, b, rfl⟩
theorem mem_allW11 {H : Type} {P : Program} {e : TypeId} {x : Nat} : ∀ {l : List (DataW H)} {d : DataW H}, d ∈ l → x ∈ d.weights P e → x ∈ DataW.weightsAll P e l
  | a :: l, d, h, hx => by
    unfold DataW.weightsAll
    rcases List.mem_cons.1 h with rfl | h
    · exact List.mem_append.2 (.inl hx)
    · exact List.mem_append.2 (.inr (mem_allW11 h hx))
section
variable {H : Type} {enc : TypeId × Value → H} {w : World} {base : Nat} {held : Bool} {d : DataW H} {p : List MemPlace} {v : Value} {r : Reach} {b0 : Nat} {fuel : Nat} {cs : List Value}
theorem open_sp {cs : List Value} {y : DataW H × List MemPlace} (hf : DataW.trod enc Tryz.prog w base (fun _ => true) held fuel 26 cs = some y) : ∃ a b : Int, cs = [.int .i64 a, .int .i64 b] := by
  obtain ⟨xs, k', hk', hxy, hcl, hxl, hfl⟩ := DataW.trod_struct Tryz.underlying26 hf
  rw [kSp] at hcl
  obtain ⟨v0, v1, rfl⟩ := l2 hcl
  obtain ⟨y0, y1, rfl⟩ := l2 hxl
  have g0 := hfl 0 _ rfl
  have g1 := hfl 1 _ rfl
  simp [kIn] at g0 g1
  obtain ⟨z0, e0, _, _⟩ := DataW.trod_int Tryz.underlying3 g0
  obtain ⟨z1, e1, _, _⟩ := DataW.trod_int Tryz.underlying3 g1
  simp at e0 e1
  exact ⟨z0, z1, by rw [e0, e1]⟩
end
end Go.Proofs.YtldbmogondmgmaaGreatDoor
