/-
  How arguments are opened: numbers of 32 bits (as bit vectors), bytes.
-/
import Derived.Test.YthbegaknlhclpaaOpen
import Derived.Test.YthbegaknlhclpaaCNum
set_option linter.unusedVariables false
namespace Go.Proofs.Ythbegaknlhclpaa

theorem u32_surj {x : Int} (h : (Lit.int .u32 x).wf = true) : ∃ s : BitVec 32, x = N s := by
  have : 0 ≤ x ∧ x ≤ 4294967295 := by simpa [Lit.wf, IntKind.min, IntKind.max, IntKind.signed, IntKind.bits] using h
  exact N_surj (by omega) (by omega)
theorem u8_surj {x : Int} (h : (Lit.int .u8 x).wf = true) : ∃ b : UInt8, x = (b.toNat : Int) := by
  obtain ⟨h0, h1⟩ := byte_wf h
  refine ⟨UInt8.ofNat x.toNat, ?_⟩
  rw [UInt8.toNat_ofNat']
  omega
end Go.Proofs.Ythbegaknlhclpaa
