/-
  What the bound of the second form gives.
-/
import Derived.Test.YthbegaknlhclpaaRows
namespace Go.Proofs.Ythbegaknlhclpaa.bulks

theorem pos {H : Type} (d : DataW H) : 1 ≤ Rows.uptoBulk d := by
  cases d with
  | lit l => cases l <;> simp [Rows.uptoBulk]
  | _ => simp [Rows.uptoBulk]

theorem all_len {H : Type} : ∀ l : List (DataW H), l.length ≤ Rows.uptoBulkAll l
  | [] => Nat.zero_le _
  | d :: l => by
    have h1 := pos d
    have h2 := all_len l
    rw [Rows.uptoBulkAll, List.length_cons]
    omega

theorem slice_le {H : Type} (elems spare : List (DataW H)) : elems.length + spare.length + 1 ≤ Rows.uptoBulk (.slice elems spare) := by
  have h1 := all_len elems
  have h2 := all_len spare
  rw [Rows.uptoBulk]
  omega

theorem slice_elems {H : Type} (elems spare : List (DataW H)) : Rows.uptoBulkAll elems + 1 ≤ Rows.uptoBulk (.slice elems spare) := by
  rw [Rows.uptoBulk]
  omega

theorem string_eq {H : Type} (b : List UInt8) : Rows.uptoBulk (DataW.lit (H := H) (.string b)) = b.length + 1 := by
  rw [Rows.uptoBulk]

theorem bound {H : Type} {l : List (DataW H)} (h : Rows.uptoSmall H l = true) : Rows.uptoBulkAll l ≤ 1048576 := by
  unfold Rows.uptoSmall at h
  exact of_decide_eq_true h

end Go.Proofs.Ythbegaknlhclpaa.bulks
