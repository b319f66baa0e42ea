/-
  How arguments are opened: two numbers in an array.
-/
import Derived.Test.YtgakkeeeadndkaaOpen
import Derived.Lib.SmallJoins
import Derived.Deep.SlicePairs
set_option linter.unusedVariables false
namespace Go.Proofs.Ytgakkeeeadndkaa
open Go.ChangeShapes Go.WideShapes Go.ChangeAt Go.RowKit Go.Joins Go.Deep

section
variable {H : Type} {enc : TypeId × Value → H} {w : World} {base : Nat} {spare : Nat → Bool} {held : Bool} {d : DataW H} {p : List MemPlace} {v : Value} {r : Reach} {b0 : Nat}
theorem cellsTwo : Try.prog.cellsOf 53 = 2 := by kernel_rfl
theorem cellsInt : Try.prog.cellsOf 3 = 1 := by kernel_rfl
theorem open_two (hv : Value.okWide Try.prog w r b0 53 v) (h : DataW.Trod enc Try.prog w base spare held 53 v d p) :
    ∃ a b : Int, v = .agg #[.int .i64 a, .int .i64 b] ∧ d = .agg [.lit (.int .i64 a), .lit (.int .i64 b)] ∧ p = [] ∧ (Lit.int .i64 a).wf = true ∧ (Lit.int .i64 b).wf = true := by
  obtain ⟨cs, rfl, hsz⟩ : ∃ cs, v = .agg cs ∧ cs.size = Try.prog.cellsOf 53 := by
    simp only [Value.okWide, Try.underlying53] at hv
    obtain ⟨cs, h1, h2, _⟩ := hv
    exact ⟨cs, h1, h2⟩
  obtain ⟨c0, c1, rfl⟩ := array2 (hsz.trans cellsTwo)
  obtain ⟨fuel, hf⟩ := h
  obtain ⟨xs, m, _, hx, _, hlen, hi⟩ := DataW.trod_array Try.underlying53 hf
  have h0 := hi 0 (by decide)
  have h1 := hi 1 (by decide)
  rw [cellsInt] at h0 h1
  match xs, hlen with
  | [y0, y1], _ =>
    obtain ⟨a, e0, hy0, wa⟩ := DataW.trod_int Try.underlying3 h0
    obtain ⟨b, e1, hy1, wb⟩ := DataW.trod_int Try.underlying3 h1
    simp [Value.cells] at e0 e1
    subst e0 e1
    subst hy0 hy1
    simp only [Prod.mk.injEq] at hx
    exact ⟨a, b, rfl, by simpa using hx.1, by simpa using hx.2, wa, wb⟩
theorem shut_two {a b : Int} (wa : (Lit.int .i64 a).wf = true) (wb : (Lit.int .i64 b).wf = true) :
    DataW.Trod enc Try.prog w base spare held 53 (.agg #[.int .i64 a, .int .i64 b]) (.agg [.lit (.int .i64 a), .lit (.int .i64 b)]) [] := by
  have h0 : DataW.trod enc Try.prog w base spare held 1 3 [.int .i64 a] = some (.lit (.int .i64 a), []) := by simp [DataW.trod, Try.underlying3, wa]
  have h1 : DataW.trod enc Try.prog w base spare held 1 3 [.int .i64 b] = some (.lit (.int .i64 b), []) := by simp [DataW.trod, Try.underlying3, wb]
  refine ⟨2, ?_⟩
  unfold DataW.trod
  rw [Try.underlying53]
  simp [Value.cells, cellsTwo, cellsInt, List.range_succ, h0, h1]
end
end Go.Proofs.Ytgakkeeeadndkaa
