/-
  The frame of the cards: how a stamp and a pair of texts are opened and shut; a world in which the library's listed tables are laid; the library's MaxLen.
  How two stamps are opened and shut.
-/
import Derived.Test.YtldbmogondmgmaaGreatDoorCards
import Derived.Test.YtldbmogondmgmaaGreatDoorTie
import Derived.Test.YtldbmogondmgmaaGreatDoorSB02
import Derived.Test.YtldbmogondmgmaaGreatDoorSB21
import Derived.WalkKit
import Derived.ProofKit
import Derived.OpenShut
import Derived.Deep.DeepHandedRow
import Derived.Lib.LaidTab
import Derived.Lib.SmallJoins
import Derived.Shelf.Vars
set_option linter.unusedVariables false
set_option maxRecDepth 100000
namespace Go.Proofs.YtldbmogondmgmaaGreatDoor
open Go.ChangeShapes Go.WideShapes Go.ChangeAt Go.RowKit Go.Joins
open Go.ChangeMaps (open_string shut_string)

theorem own : ownKnob Tryz.prog.godebug = none := by kernel_rfl
theorem laidOut : laidOutB Tryz.prog = true := by kernel_rfl

theorem maxL {W : World} (h : W.ShapedOpen Tryz.prog) : MaxL W :=
  cell_of_shapedOpen_int (zero := #[.int .i64 0]) (t := 3) h (by decide +kernel) (by kernel_rfl) rfl (by kernel_rfl) (by kernel_rfl) Tryz.underlying3

noncomputable def tabFirst : Obj → Obj
  | .cells _ t frozen => .cells (Go.Pinned.utf8FirstZ.map fun (n : Nat) => Value.int .u8 n).toArray t frozen
  | o => o
noncomputable def tabRanges : Obj → Obj
  | .cells _ t frozen => .cells (([128, 191, 160, 191, 128, 159, 144, 191, 128, 143] ++ List.replicate 22 0).map fun (n : Nat) => Value.int .u8 n).toArray t frozen
  | o => o
/-- The settled world, the two tables holding what their initialisers lay. -/
noncomputable def laidWorld (os : Os) : World :=
  { World.holding Tryz.prog os ⟨#[], #[], []⟩ with
    heap := Array.modify (Array.modify (World.holding Tryz.prog os ⟨#[], #[], []⟩).heap 1 tabFirst) 2 tabRanges }

section
variable {H : Type} {enc : TypeId × Value → H} {w : World} {base : Nat} {spare : Nat → Bool} {held : Bool} {d : DataW H} {p : List MemPlace} {v : Value} {r : Reach} {b0 : Nat}

theorem open_stamp (hv : Value.okWide Tryz.prog w r b0 26 v) (h : DataW.Trod enc Tryz.prog w base spare held 26 v d p) :
    ∃ a b : Int, v = .agg #[.int .i64 a, .int .i64 b] ∧ d = .agg [.lit (.int .i64 a), .lit (.int .i64 b)] ∧ p = [] ∧ (Lit.int .i64 a).wf = true ∧ (Lit.int .i64 b).wf = true := by
  obtain ⟨c0, c1, y0, y1, m, rfl, rfl, rfl, hy0, hy1⟩ := open_agg2 Tryz.underlying26 (by kernel_rfl) (by kernel_rfl) hv h
  obtain ⟨a, e0, rfl, wa⟩ := DataW.trod_int Tryz.underlying3 hy0
  obtain ⟨b, e1, rfl, wb⟩ := DataW.trod_int Tryz.underlying3 hy1
  simp at e0 e1
  subst e0 e1
  exact ⟨a, b, rfl, rfl, rfl, wa, wb⟩
theorem shut_stamp {a b : Int} (wa : (Lit.int .i64 a).wf = true) (wb : (Lit.int .i64 b).wf = true) :
    DataW.Trod enc Tryz.prog w base spare held 26 (.agg #[.int .i64 a, .int .i64 b]) (.agg [.lit (.int .i64 a), .lit (.int .i64 b)]) [] :=
  shut_agg2 (y0 := (.lit (.int .i64 a), [])) (y1 := (.lit (.int .i64 b), [])) Tryz.underlying26 (by kernel_rfl) (by kernel_rfl) ⟨1, by simp [DataW.trod, Tryz.underlying3, wa]⟩ ⟨1, by simp [DataW.trod, Tryz.underlying3, wb]⟩
end

end Go.Proofs.YtldbmogondmgmaaGreatDoor
set_option linter.unusedVariables false
set_option maxRecDepth 100000
namespace Go.Proofs.YtldbmogondmgmaaGreatDoor
open Go.ChangeShapes Go.WideShapes Go.ChangeAt Go.RowKit Go.Joins
section
variable {H : Type} {enc : TypeId × Value → H} {w : World} {base : Nat} {spare : Nat → Bool} {held : Bool} {d : DataW H} {p : List MemPlace} {v : Value} {r : Reach} {b0 : Nat}

theorem cellsI1 : Tryz.prog.cellsOf 3 = 1 := by kernel_rfl
theorem cellsS2 : Tryz.prog.cellsOf 26 = 2 := by kernel_rfl
theorem cellsSS : Tryz.prog.cellsOf 77 = 4 := by kernel_rfl

theorem trod_sp {fuel : Nat} {c0 c1 : Value} {y : DataW H × List MemPlace} (h : DataW.trod enc Tryz.prog w base spare held fuel 26 [c0, c1] = some y) :
    ∃ a b : Int, c0 = .int .i64 a ∧ c1 = .int .i64 b ∧ y = (.agg [.lit (.int .i64 a), .lit (.int .i64 b)], []) ∧ (Lit.int .i64 a).wf = true ∧ (Lit.int .i64 b).wf = true := by
  obtain ⟨y0, y1, n, hx, _, h0, h1⟩ := trod_struct2 Tryz.underlying26 h
  simp [cellsI1] at h0 h1
  obtain ⟨a, e0, z0, wa⟩ := DataW.trod_int Tryz.underlying3 h0
  obtain ⟨b, e1, z1, wb⟩ := DataW.trod_int Tryz.underlying3 h1
  simp at e0 e1
  refine ⟨a, b, e0, e1, ?_, wa, wb⟩
  rw [hx, z0, z1]
  rfl
theorem open_tstamps (hv : Value.okWide Tryz.prog w r b0 77 v) (h : DataW.Trod enc Tryz.prog w base spare held 77 v d p) :
    ∃ a b x y : Int, v = .agg #[.int .i64 a, .int .i64 b, .int .i64 x, .int .i64 y] ∧ d = .agg [.agg [.lit (.int .i64 a), .lit (.int .i64 b)], .agg [.lit (.int .i64 x), .lit (.int .i64 y)]] ∧ p = [] ∧
      (Lit.int .i64 a).wf = true ∧ (Lit.int .i64 b).wf = true ∧ (Lit.int .i64 x).wf = true ∧ (Lit.int .i64 y).wf = true := by
  obtain ⟨cs, rfl, hsz⟩ : ∃ cs, v = .agg cs ∧ cs.size = Tryz.prog.cellsOf 77 := by
    simp only [Value.okWide, Tryz.underlying77] at hv
    obtain ⟨cs, h1, h2, _⟩ := hv
    exact ⟨cs, h1, h2⟩
  rw [cellsSS] at hsz
  obtain ⟨l⟩ := cs
  match l, hsz with
  | [c0, c1, c2, c3], _ =>
    obtain ⟨fuel, hf⟩ := h
    obtain ⟨xs, m, _, hx, _, hlen, hi⟩ := DataW.trod_array Tryz.underlying77 hf
    have h0 := hi 0 (by decide)
    have h1 := hi 1 (by decide)
    rw [cellsS2] at h0 h1
    match xs, hlen with
    | [y0, y1], _ =>
      simp [Value.cells] at h0 h1
      obtain ⟨a, b, rfl, rfl, rfl, wa, wb⟩ := trod_sp h0
      obtain ⟨x, y, rfl, rfl, rfl, wx, wy⟩ := trod_sp h1
      simp only [Prod.mk.injEq] at hx
      exact ⟨a, b, x, y, rfl, by simpa using hx.1, by simpa using hx.2, wa, wb, wx, wy⟩
theorem shut_sp {a b : Int} (k : Nat) (wa : (Lit.int .i64 a).wf = true) (wb : (Lit.int .i64 b).wf = true) :
    DataW.trod enc Tryz.prog w base spare held (k + 2) 26 [.int .i64 a, .int .i64 b] = some (.agg [.lit (.int .i64 a), .lit (.int .i64 b)], []) := by
  have h0 : DataW.trod enc Tryz.prog w base spare held (k + 1) 3 [.int .i64 a] = some (.lit (.int .i64 a), []) := by simp [DataW.trod, Tryz.underlying3, wa]
  have h1 : DataW.trod enc Tryz.prog w base spare held (k + 1) 3 [.int .i64 b] = some (.lit (.int .i64 b), []) := by simp [DataW.trod, Tryz.underlying3, wb]
  unfold DataW.trod
  rw [Tryz.underlying26]
  simp [cellsS2, cellsI1, h0, h1]
theorem shut_tstamps {a b x y : Int} (wa : (Lit.int .i64 a).wf = true) (wb : (Lit.int .i64 b).wf = true) (wx : (Lit.int .i64 x).wf = true) (wy : (Lit.int .i64 y).wf = true) :
    DataW.Trod enc Tryz.prog w base spare held 77 (.agg #[.int .i64 a, .int .i64 b, .int .i64 x, .int .i64 y]) (.agg [.agg [.lit (.int .i64 a), .lit (.int .i64 b)], .agg [.lit (.int .i64 x), .lit (.int .i64 y)]]) [] := by
  have h0 := shut_sp (enc := enc) (w := w) (base := base) (spare := spare) (held := held) 0 wa wb
  have h1 := shut_sp (enc := enc) (w := w) (base := base) (spare := spare) (held := held) 0 wx wy
  refine ⟨3, ?_⟩
  unfold DataW.trod
  rw [Tryz.underlying77]
  simp [Value.cells, cellsSS, cellsS2, List.range_succ, h0, h1]
end
end Go.Proofs.YtldbmogondmgmaaGreatDoor
