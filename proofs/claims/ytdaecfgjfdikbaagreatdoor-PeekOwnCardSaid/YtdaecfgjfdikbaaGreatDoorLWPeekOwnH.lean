/-
  PeekOwn, walked (written by wip/genpeekown.py).
-/
import Derived.Test.YtdaecfgjfdikbaaGreatDoorZ34
import Derived.Test.YtdaecfgjfdikbaaGreatDoorZ35
import Derived.Test.YtdaecfgjfdikbaaGreatDoorZ01
set_option linter.unusedVariables false
set_option linter.unusedSimpArgs false
set_option maxRecDepth 100000
namespace Go.Proofs.YtdaecfgjfdikbaaGreatDoor
open Go.RowKit

theorem Has.all9 {w V : World} {l : List As} {g : Nat} {t : TypeId} {c0 c1 c2 c3 c4 c5 c6 c7 c8 v0 v1 v2 v3 v4 v5 v6 v7 v8 : Value} (h : Has w (blkA g t #[c0, c1, c2, c3, c4, c5, c6, c7, c8] :: l) V) : Has w (blkA g t #[v0, v1, v2, v3, v4, v5, v6, v7, v8] :: l) (((((((((V.setCell ⟨g, 0, none⟩ v0).setCell ⟨g, 1, none⟩ v1).setCell ⟨g, 2, none⟩ v2).setCell ⟨g, 3, none⟩ v3).setCell ⟨g, 4, none⟩ v4).setCell ⟨g, 5, none⟩ v5).setCell ⟨g, 6, none⟩ v6).setCell ⟨g, 7, none⟩ v7).setCell ⟨g, 8, none⟩ v8) := by
  have := (((((((((h.setBlk 0 v0).setBlk 1 v1).setBlk 2 v2).setBlk 3 v3).setBlk 4 v4).setBlk 5 v5).setBlk 6 v6).setBlk 7 v7).setBlk 8 v8)
  simpa using this
theorem ROk.put {N : Nat} {r : List Rw} (h : ROk N r) {x : Th} (hz : TSz x) : ROk (N + 128) (putP r x) := by
  unfold putP
  cases ho : opOf x with
  | none => exact h.mono (by omega)
  | some o => exact h.app (l := [o]) (fun y hy => by rw [List.mem_singleton.1 hy]; have := opOf_sz hz ho; exact ⟨this.1, this.2.1⟩)
theorem ch_of_blk {w : World} {g : Nat} {q : Int} {s : ByteArray} {d : Bool} (h : Blk w g 79 #[.int .i64 q, .string s, .bool d]) : ChAt w (some ⟨g, 0, none⟩) 1 [⟨q, s, d⟩] := by
  refine ⟨rfl, fun _ => ⟨g, 0, rfl, fun i hi => ?_⟩⟩
  have : i = 0 := by simp at hi; omega
  subst this
  exact ⟨h.cell 0, h.cell 1, h.cell 2⟩
theorem Has.drop_ {w V : World} {T : List As} : ∀ (l : List As), Has w (l ++ T) V → Has w T V
  | [], h => h
  | _ :: l, h => Has.drop_ l (Has.tail h)
theorem Has.pick2 {w V : World} {A0 A1 A2 A3 A4 A5 A6 : As} {T : List As} (h : Has w (A0 :: A1 :: A2 :: A3 :: A4 :: A5 :: A6 :: T) V) : Has w (A0 :: A6 :: []) V :=
  ((h.perm (show (A0 :: A1 :: A2 :: A3 :: A4 :: A5 :: A6 :: T).Perm ((A1 :: A2 :: A3 :: A4 :: A5 :: T) ++ [A0, A6]) from by
    refine List.Perm.trans (List.Perm.cons _ ?_) (List.perm_append_comm (l₁ := [A0, A6]) (l₂ := A1 :: A2 :: A3 :: A4 :: A5 :: T))
    exact List.perm_middle (l₁ := [A1, A2, A3, A4, A5])))).drop_ _
theorem read_pos {x : Tx} (hx : mayX x = true) (h : ¬ (x.rw = 0 ∧ x.rl = 0)) : lt (0, 0) (x.rw, x.rl) = true := by
  unfold mayX at hx
  simp only [Bool.and_eq_true] at hx
  have := may_iff.1 hx.2.1
  rw [lt_iff]
  simp only
  omega
end Go.Proofs.YtdaecfgjfdikbaaGreatDoor
