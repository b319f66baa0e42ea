/-
  Layer 13, the code: Put, its words (written by wip/genpoput.py).
-/
import Derived.Test.YtgccichmdddbpaaGreatDoorPA35
set_option linter.unusedVariables false
set_option linter.unusedSimpArgs false
set_option maxRecDepth 100000
namespace Go.Proofs.YtgccichmdddbpaaGreatDoor
open Go.RowKit

theorem Has.newRowG {w V V' : World} {T : List As} {E : TypeId} {sz n : Nat} {v : Value} {xs : List Value} (h : Has w T V) (hr : V'.ownsRow V.heap.size E sz v n xs) (hb : Below V.heap.size V V') : Has w (rowA E sz v n xs :: T) V' :=
  h.new (F := fun k => v.ownBlock = some k) hb ⟨World.ownsRow.up_ hr (Nat.zero_le _), fun k => Iff.rfl⟩ (fun k e => (World.ownsRow.lt hr k e).1)
theorem OAt.put {w : World} {A : Option Addr} {n g i : Nat} {u : Value} {l : List Op_} (h : OAt w A n l) (ha : 0 < n → ∀ a, A = some a → a.block ≠ g) : OAt (w.setCell ⟨g, i, none⟩ u) A n l := by
  refine ⟨h.1, fun hn => ?_⟩
  obtain ⟨b, o, e, hc⟩ := h.2 hn
  have hb : b ≠ g := ha hn _ e
  refine ⟨b, o, e, fun i hi => ?_⟩
  obtain ⟨h1, h2, h3⟩ := hc i hi
  exact ⟨(cell_set_ne (by exact hb)).trans h1, (cell_set_ne (by exact hb)).trans h2, (cell_set_ne (by exact hb)).trans h3⟩
theorem OAt.apart {w : World} {A : Option Addr} {n g : Nat} {t : TypeId} {cs : Array Value} {l : List Op_} (h : OAt w A n l) (hB : Blk w g t cs)
    (hno : ∀ o k s d, cs[o]? = some (.string k) → cs[o + 1]? = some (.string s) → cs[o + 2]? = some (.bool d) → False) : 0 < n → ∀ a, A = some a → a.block ≠ g := by
  rintro hn a rfl e
  obtain ⟨b, o, e2, hc⟩ := h.2 hn
  cases e2
  simp only at e
  subst e
  obtain ⟨h1, h2, h3⟩ := hc 0 (by have := h.1; omega)
  rw [hB.cell] at h1 h2 h3
  simp only [Nat.zero_mul, Nat.add_zero] at h1 h2 h3
  exact hno _ _ _ _ h1 h2 h3
abbrev dzc : Array Value := #[.slice none 0 0, .int .i64 0, .int .i64 0, .int .i64 0, .int .i64 0, .int .i64 0, .string ⟨#[]⟩, .int .i64 0, .int .i64 0, .int .i64 0, .int .i64 0, .slice none 0 0]
theorem dz_no : ∀ o q s d, dzc[o]? = some (.int .i64 q) → dzc[o + 1]? = some (.string s) → dzc[o + 2]? = some (.bool d) → False := by
  intro o q s d h1 h2 h
  match o with
  | 0 | 1 | 2 | 3 | 4 | 5 | 6 | 7 | 8 | 9 => simp at h1 h2 h
  | n + 10 => simp at h
theorem ChAt.put12 {W : World} {A : Option Addr} {n g : Nat} {l : List Ch} {v0 v1 v2 v3 v4 v5 v6 v7 v8 v9 v10 v11 : Value} (h : ChAt W A n l) (hne : 0 < n → ∀ a, A = some a → a.block ≠ g) : ChAt ((((((((((((W.setCell ⟨g, 0, none⟩ v0).setCell ⟨g, 1, none⟩ v1).setCell ⟨g, 2, none⟩ v2).setCell ⟨g, 3, none⟩ v3).setCell ⟨g, 4, none⟩ v4).setCell ⟨g, 5, none⟩ v5).setCell ⟨g, 6, none⟩ v6).setCell ⟨g, 7, none⟩ v7).setCell ⟨g, 8, none⟩ v8).setCell ⟨g, 9, none⟩ v9).setCell ⟨g, 10, none⟩ v10).setCell ⟨g, 11, none⟩ v11) A n l := ((((((((((((h.put hne).put hne).put hne).put hne).put hne).put hne).put hne).put hne).put hne).put hne).put hne).put hne)
theorem OAt.put12 {W : World} {A : Option Addr} {n g : Nat} {l : List Op_} {v0 v1 v2 v3 v4 v5 v6 v7 v8 v9 v10 v11 : Value} (h : OAt W A n l) (hne : 0 < n → ∀ a, A = some a → a.block ≠ g) : OAt ((((((((((((W.setCell ⟨g, 0, none⟩ v0).setCell ⟨g, 1, none⟩ v1).setCell ⟨g, 2, none⟩ v2).setCell ⟨g, 3, none⟩ v3).setCell ⟨g, 4, none⟩ v4).setCell ⟨g, 5, none⟩ v5).setCell ⟨g, 6, none⟩ v6).setCell ⟨g, 7, none⟩ v7).setCell ⟨g, 8, none⟩ v8).setCell ⟨g, 9, none⟩ v9).setCell ⟨g, 10, none⟩ v10).setCell ⟨g, 11, none⟩ v11) A n l := ((((((((((((h.put hne).put hne).put hne).put hne).put hne).put hne).put hne).put hne).put hne).put hne).put hne).put hne)
theorem findW_nil (c : Ch) : findW [] c = (false, 0) := rfl
theorem goW_add {nv m : Int × Int} {own : It} {c : Ch} {x : Tx} (h : findW own.l c = (false, 0)) : goW nv own c x m = addW nv own c x m := by
  unfold goW
  rw [h]
  rfl
theorem add_may {nv m : Int × Int} {own : It} {c : Ch} {x : Tx} (h1 : mayI (wIt x x.ww x.wl [c]) = true) (ho : own = zI ∨ mayI own = true) (h : findW own.l c = (false, 0)) (hz : (nxt (two m nv).1 (two m nv).2).2.2 = 0) :
    mayI (wIt x (atW nv m own x).1 (atW nv m own x).2 (own.l ++ [c])) = true := by
  have := goW_may (nv := nv) (m := m) (own := own) (c := c) (x := x) h1 ho (y := wIt x (atW nv m own x).1 (atW nv m own x).2 (own.l ++ [c])) (by rw [goW_add h]; unfold addW; rw [if_pos hz])
  exact this.1
section
variable {w V : World} {A R D B9 B8 B7 P : As} {T : List As}
/-- A box, a row, then what Put has: the row and the table to the front. -/
theorem Has.toAdd (h : Has w (A :: R :: D :: B9 :: B8 :: B7 :: P :: T) V) : Has w (R :: P :: A :: D :: B9 :: B8 :: B7 :: T) V :=
  h.perm ((List.Perm.swap _ _ _).trans (List.Perm.cons R (List.perm_middle (l₁ := [A, D, B9, B8, B7]))))
theorem Has.dropTb3 {O : As} (h : Has w (D :: O :: P :: A :: B9 :: B8 :: B7 :: T) V) : Has w (O :: P :: T) V :=
  Has.dropN [A, B9, B8, B7] (h.tail.perm (show (O :: P :: A :: B9 :: B8 :: B7 :: T).Perm ([A, B9, B8, B7] ++ (O :: P :: T)) from List.perm_append_comm_assoc [O, P] [A, B9, B8, B7] T))
theorem Has.dropTb2 (h : Has w (P :: A :: B9 :: B8 :: B7 :: T) V) : Has w (P :: T) V :=
  Has.dropN [A, B9, B8, B7] (h.perm (List.perm_middle (l₁ := [A, B9, B8, B7])).symm)
end
end Go.Proofs.YtgccichmdddbpaaGreatDoor
