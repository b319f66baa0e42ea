/-
  How a pair of texts is opened and shut.
-/
import Derived.Test.YtcphhambckohbaaDoorOFrame
set_option linter.unusedVariables false
namespace Go.Proofs.YtcphhambckohbaaDoor
open Go.ChangeShapes Go.WideShapes Go.ChangeAt Go.RowKit Go.Joins
open Go.ChangeMaps (open_string shut_string)
section
variable {H : Type} {enc : TypeId × Value → H} {w : World} {base : Nat} {spare : Nat → Bool} {held : Bool} {d : DataW H} {p : List MemPlace} {v : Value} {r : Reach} {b0 : Nat}

theorem cellsStr : Tryd.prog.cellsOf 9 = 1 := by kernel_rfl
theorem cellsPair : Tryd.prog.cellsOf 41 = 2 := by kernel_rfl

theorem open_pair (hv : Value.okWide Tryd.prog w r b0 41 v) (h : DataW.Trod enc Tryd.prog w base spare held 41 v d p) :
    ∃ x y : ByteArray, v = .agg #[.string x, .string y] ∧ d = .agg [.lit (.string x.data.toList), .lit (.string y.data.toList)] ∧ p = [] ∧ x.size ≤ maxLen ∧ y.size ≤ maxLen := by
  obtain ⟨cs, rfl, hsz⟩ : ∃ cs, v = .agg cs ∧ cs.size = Tryd.prog.cellsOf 41 := by
    simp only [Value.okWide, Tryd.underlying41] at hv
    obtain ⟨cs, h1, h2, _⟩ := hv
    exact ⟨cs, h1, h2⟩
  obtain ⟨c0, c1, rfl⟩ := array2 (hsz.trans cellsPair)
  obtain ⟨fuel, hf⟩ := h
  obtain ⟨xs, m, _, hx, _, hlen, hi⟩ := DataW.trod_array Tryd.underlying41 hf
  have h0 := hi 0 (by decide)
  have h1 := hi 1 (by decide)
  rw [cellsStr] at h0 h1
  match xs, hlen with
  | [y0, y1], _ =>
    obtain ⟨s0, e0, hy0, m0⟩ := DataW.trod_string Tryd.underlying9 h0
    obtain ⟨s1, e1, hy1, m1⟩ := DataW.trod_string Tryd.underlying9 h1
    simp [Value.cells] at e0 e1
    subst e0 e1
    subst hy0 hy1
    simp only [Prod.mk.injEq] at hx
    exact ⟨s0, s1, rfl, by simpa using hx.1, by simpa using hx.2, m0, m1⟩
theorem shut_pair {x y : ByteArray} (mx : x.size ≤ maxLen) (my : y.size ≤ maxLen) :
    DataW.Trod enc Tryd.prog w base spare held 41 (.agg #[.string x, .string y]) (.agg [.lit (.string x.data.toList), .lit (.string y.data.toList)]) [] := by
  have h0 : DataW.trod enc Tryd.prog w base spare held 1 9 [.string x] = some (.lit (.string x.data.toList), []) := by simp [DataW.trod, Tryd.underlying9, mx]
  have h1 : DataW.trod enc Tryd.prog w base spare held 1 9 [.string y] = some (.lit (.string y.data.toList), []) := by simp [DataW.trod, Tryd.underlying9, my]
  refine ⟨2, ?_⟩
  unfold DataW.trod
  rw [Tryd.underlying41]
  simp [Value.cells, cellsPair, cellsStr, List.range_succ, h0, h1]
end

end Go.Proofs.YtcphhambckohbaaDoor
