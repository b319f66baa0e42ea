/-
  quill.TakeNum.
-/
import Derived.Test.YthbegaknlhclpaaCut
set_option linter.unusedVariables false
namespace Go.Proofs.Ythbegaknlhclpaa
open Go.RowKit

def CutP (w : World) (v : Nat) (rest : List UInt8) (x : Nat) (e : Ending) (w' : World) : Prop :=
  ∃ A' m c', e = .returned (.tuple #[.int .i64 v, .slice A' m c', .int .i64 x]) ∧ At w A' m rest ∧ m ≤ c' ∧ c' ≤ 9223372036854775807 ∧ ∃ k, w' = w.drewN k

theorem cut' (A : Option Addr) (n c : Nat) (b rest : List UInt8) (v x : Nat) (w : World) (hx : At w A n b) (hnc : n ≤ c) (hc : c ≤ 9223372036854775807) (ht : tk b = (v, rest, x)) :
    Calls Try.prog 39 #[.slice A n c] w (CutP w v rest x) := by
  refine (cutNum A n c b w hx hnc hc).mono ?_
  rintro e w' ⟨A', c', rfl, h1, h2, h3, h4⟩
  rw [ht] at h1 h2 ⊢
  exact ⟨A', _, c', rfl, h1, h2, h3, h4⟩

theorem tk_rest (b : List UInt8) : (tk b).2.1.length ≤ b.length := by
  rcases tk_cases b with h | h | ⟨l, rest, hb, _, _, _, h⟩
  · rw [h]; simp
  · rw [h]; simp
  · rw [h, hb]; simp; omega

set_option maxHeartbeats 400000 in
theorem takeNum (A : Option Addr) (n c : Nat) (b rest : List UInt8) (v x : Nat) (w : World) (hx : At w A n b) (hnc : n ≤ c) (hc : c ≤ 9223372036854775807) (hn : n ≤ 225000000000000) (ht : tk b = (v, rest, x)) :
    Calls Try.prog 32 #[.slice A n c] w fun e w' => ∃ r, e = .returned (.tuple #[.int .i64 v, r, .int .i64 x]) ∧ Own w' w.heap.size r rest ∧ Below w.heap.size w w' := by
  have hrl : rest.length ≤ n := by
    have := tk_rest b
    rw [ht] at this
    have := hx.1
    simp at *
    omega
  have HC := Lib.hid (cut' A n c b rest v x w hx hnc hc ht)
  clear ht
  go_enter Try.func32, Try.ntmps32
  go_wp2_with fail
  refine HC.out.mono ?_
  rintro e w1 ⟨A', m, c', rfl, hat, h1, h2, k, rfl⟩
  have hml := hat.1
  have hm : m ≤ n := by omega
  have HL := Lib.hid (lists_one (c := c') 22 (hat.drewN k))
  clear hml
  go_wp2_with fail
  refine (join _ 1 1 [rest] _ ?hl (by omega) ?hb).mono ?_
  case hl => simpa using HL.out
  case hb => simp; omega
  rintro e w2 ⟨r, rfl, hown, hb⟩
  have hown' : Own w2 w.heap.size r rest := by
    have : [rest].flatten = rest := by simp
    rw [this] at hown
    exact hown.base (by simp)
  have hbel : Below w.heap.size w w2 := by
    have h1 : Below w.heap.size w (w.drewN k) := ⟨rfl, rfl, rfl, Nat.le_refl _, fun _ _ => rfl⟩
    exact (h1.alloc (by simp) _).trans (hb.mono (by simp))
  clear hown hb
  go_wp2
  go_ret3
  exact ⟨r, rfl, hown', hbel⟩

end Go.Proofs.Ythbegaknlhclpaa
