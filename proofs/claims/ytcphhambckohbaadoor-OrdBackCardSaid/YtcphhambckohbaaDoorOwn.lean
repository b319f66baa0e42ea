/-
  A row of bytes of the call's own.
-/
import Derived.Test.YtcphhambckohbaaDoorBase
set_option linter.unusedVariables false
namespace Go.Proofs.YtcphhambckohbaaDoor
open Go.RowKit

theorem info5 : (Tryd.prog.info? 5).map (fun i => (i.zero, i.size, i.bytes)) = some (some (.int .u8 0), 1, 1) := by kernel_rfl

/-- What a call hands back in memory of its own. -/
def Own (w : World) (base : Nat) (v : Value) (xs : List UInt8) : Prop := w.ownsRow base 5 1 v xs.length (xs.map bv)

theorem Own.base {w : World} {B B' : Nat} {v : Value} {xs : List UInt8} (h : Own w B v xs) (hB : B' ≤ B) : Own w B' v xs := by
  refine ⟨h.1, ?_⟩
  rcases h.2 with hn | ⟨g, cap, cur, hv, hb, rest⟩
  · exact .inl hn
  · exact .inr ⟨g, cap, cur, hv, by omega, rest⟩
theorem Own.form {w : World} {B : Nat} {v : Value} {xs : List UInt8} (h : Own w B v xs) : ∃ A c, v = .slice A xs.length c ∧ At w A xs.length xs ∧ xs.length ≤ c ∧ c ≤ 9223372036854775807 ∧ (A = none → c = 0) := by
  rcases h.2 with ⟨rfl, hn⟩ | ⟨g, cap, cur, rfl, hb, hg, hnc, hcm, _⟩
  · exact ⟨none, 0, by rw [hn], ⟨rfl, fun h0 => by omega⟩, by omega, by omega, fun _ => rfl⟩
  · refine ⟨_, cap, rfl, ⟨rfl, fun h0 => ⟨g, 0, rfl, fun i hi => ?_⟩⟩, hnc, hcm, fun h => by cases h⟩
    have hc := World.ownsRow.cells h (g := g) rfl i (bv xs[i]) (by simp [hi])
    rw [Go.WideShapes.add_plain] at hc
    simpa [bv] using hc

theorem Own.at_ {w : World} {B : Nat} {A : Option Addr} {n c : Nat} {xs : List UInt8} (h : Own w B (.slice A n c) xs) : At w A n xs := by
  obtain ⟨A', c', e, hat, _⟩ := h.form
  injection e with e1 e2 _
  rw [e1, e2]
  exact hat
theorem Own.len {w : World} {B : Nat} {A : Option Addr} {n c : Nat} {xs : List UInt8} (h : Own w B (.slice A n c) xs) : xs.length = n := h.at_.1

theorem own_one {w : World} {B : Nat} {x : Int} {b : UInt8} (hB : B ≤ w.heap.size) (h : x = (b.toNat : Int)) :
    (w.alloc (.cells #[.int .u8 x] 5)).ownsRow B 5 1 (.slice (some ⟨w.heap.size, 0, none⟩) 1 1) 1 ([b].map bv) := by
  subst h
  exact World.ownsRow_lit w #[bv b] 1 hB (by decide) rfl

end Go.Proofs.YtcphhambckohbaaDoor
