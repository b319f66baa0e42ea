/-
  How two stamps are opened and shut.
-/
import Derived.Test.YtchebellejkdnaaDoorZ19
set_option linter.unusedVariables false
set_option maxRecDepth 100000
namespace Go.Proofs.YtchebellejkdnaaDoor
open Go.ChangeShapes Go.WideShapes Go.ChangeAt Go.RowKit Go.Joins
section
variable {H : Type} {enc : TypeId × Value → H} {w : World} {base : Nat} {spare : Nat → Bool} {held : Bool} {d : DataW H} {p : List MemPlace} {v : Value} {r : Reach} {b0 : Nat}

theorem cellsI1 : Tryd.prog.cellsOf 3 = 1 := by kernel_rfl
theorem cellsS2 : Tryd.prog.cellsOf 23 = 2 := by kernel_rfl
theorem cellsSS : Tryd.prog.cellsOf 56 = 4 := by kernel_rfl

theorem trod_sp {fuel : Nat} {c0 c1 : Value} {y : DataW H × List MemPlace} (h : DataW.trod enc Tryd.prog w base spare held fuel 23 [c0, c1] = some y) :
    ∃ a b : Int, c0 = .int .i64 a ∧ c1 = .int .i64 b ∧ y = (.agg [.lit (.int .i64 a), .lit (.int .i64 b)], []) ∧ (Lit.int .i64 a).wf = true ∧ (Lit.int .i64 b).wf = true := by
  obtain ⟨y0, y1, n, hx, _, h0, h1⟩ := trod_struct2 Tryd.underlying23 h
  simp [cellsI1] at h0 h1
  obtain ⟨a, e0, z0, wa⟩ := DataW.trod_int Tryd.underlying3 h0
  obtain ⟨b, e1, z1, wb⟩ := DataW.trod_int Tryd.underlying3 h1
  simp at e0 e1
  refine ⟨a, b, e0, e1, ?_, wa, wb⟩
  rw [hx, z0, z1]
  rfl
theorem open_tstamps (hv : Value.okWide Tryd.prog w r b0 56 v) (h : DataW.Trod enc Tryd.prog w base spare held 56 v d p) :
    ∃ a b x y : Int, v = .agg #[.int .i64 a, .int .i64 b, .int .i64 x, .int .i64 y] ∧ d = .agg [.agg [.lit (.int .i64 a), .lit (.int .i64 b)], .agg [.lit (.int .i64 x), .lit (.int .i64 y)]] ∧ p = [] ∧
      (Lit.int .i64 a).wf = true ∧ (Lit.int .i64 b).wf = true ∧ (Lit.int .i64 x).wf = true ∧ (Lit.int .i64 y).wf = true := by
  obtain ⟨cs, rfl, hsz⟩ : ∃ cs, v = .agg cs ∧ cs.size = Tryd.prog.cellsOf 56 := by
    simp only [Value.okWide, Tryd.underlying56] at hv
    obtain ⟨cs, h1, h2, _⟩ := hv
    exact ⟨cs, h1, h2⟩
  rw [cellsSS] at hsz
  obtain ⟨l⟩ := cs
  match l, hsz with
  | [c0, c1, c2, c3], _ =>
    obtain ⟨fuel, hf⟩ := h
    obtain ⟨xs, m, _, hx, _, hlen, hi⟩ := DataW.trod_array Tryd.underlying56 hf
    have h0 := hi 0 (by decide)
    have h1 := hi 1 (by decide)
    rw [cellsS2] at h0 h1
    match xs, hlen with
    | [y0, y1], _ =>
      simp [Value.cells] at h0 h1
      obtain ⟨a, b, rfl, rfl, rfl, wa, wb⟩ := trod_sp h0
      obtain ⟨x, y, rfl, rfl, rfl, wx, wy⟩ := trod_sp h1
      simp only [Prod.mk.injEq] at hx
      exact ⟨a, b, x, y, rfl, by simpa using hx.1, by simpa using hx.2, wa, wb, wx, wy⟩
theorem shut_sp {a b : Int} (k : Nat) (wa : (Lit.int .i64 a).wf = true) (wb : (Lit.int .i64 b).wf = true) :
    DataW.trod enc Tryd.prog w base spare held (k + 2) 23 [.int .i64 a, .int .i64 b] = some (.agg [.lit (.int .i64 a), .lit (.int .i64 b)], []) := by
  have h0 : DataW.trod enc Tryd.prog w base spare held (k + 1) 3 [.int .i64 a] = some (.lit (.int .i64 a), []) := by simp [DataW.trod, Tryd.underlying3, wa]
  have h1 : DataW.trod enc Tryd.prog w base spare held (k + 1) 3 [.int .i64 b] = some (.lit (.int .i64 b), []) := by simp [DataW.trod, Tryd.underlying3, wb]
  unfold DataW.trod
  rw [Tryd.underlying23]
  simp [cellsS2, cellsI1, h0, h1]
theorem shut_tstamps {a b x y : Int} (wa : (Lit.int .i64 a).wf = true) (wb : (Lit.int .i64 b).wf = true) (wx : (Lit.int .i64 x).wf = true) (wy : (Lit.int .i64 y).wf = true) :
    DataW.Trod enc Tryd.prog w base spare held 56 (.agg #[.int .i64 a, .int .i64 b, .int .i64 x, .int .i64 y]) (.agg [.agg [.lit (.int .i64 a), .lit (.int .i64 b)], .agg [.lit (.int .i64 x), .lit (.int .i64 y)]]) [] := by
  have h0 := shut_sp (enc := enc) (w := w) (base := base) (spare := spare) (held := held) 0 wa wb
  have h1 := shut_sp (enc := enc) (w := w) (base := base) (spare := spare) (held := held) 0 wx wy
  refine ⟨3, ?_⟩
  unfold DataW.trod
  rw [Tryd.underlying56]
  simp [Value.cells, cellsSS, cellsS2, List.range_succ, h0, h1]
end
end Go.Proofs.YtchebellejkdnaaDoor
