/-
  Layer 10: TableMoves: what its range carries on.
-/
import Derived.Test.YtgakkeeeadndkaaTbBrk
set_option linter.unusedVariables false
namespace Go.Proofs.Ytgakkeeeadndkaa
open Go.RowKit Go.Shelf
/-- The rows behind 'j' rounds. -/
def mvR (bs : List (List Op_)) (R0 : List Rw) (j : Nat) : List Rw := (bs.take (min j 20)).foldl rapp R0
theorem mvR_zero (bs : List (List Op_)) (R0 : List Rw) : mvR bs R0 0 = R0 := rfl
theorem mvR_in {bs : List (List Op_)} {R0 : List Rw} {j : Nat} (h : j < bs.length) (h2 : j < 20) : mvR bs R0 (j + 1) = rapp (mvR bs R0 j) (bs[j]'h) := by
  unfold mvR
  rw [show min (j + 1) 20 = j + 1 by omega, show min j 20 = j by omega, List.take_succ_eq_append_getElem h, List.foldl_append]
  rfl
theorem mvR_out {bs : List (List Op_)} {R0 : List Rw} {j : Nat} (h : ¬ j < bs.length ∨ ¬ j < 20) : mvR bs R0 (j + 1) = mvR bs R0 j := by
  unfold mvR
  by_cases h2 : j < 20
  · rw [List.take_of_length_le (by omega), List.take_of_length_le (by omega)]
  · rw [show min (j + 1) 20 = 20 by omega, show min j 20 = 20 by omega]
theorem mvR_ok {bs : List (List Op_)} {R0 : List Rw} {N : Nat} (hz : ∀ b ∈ bs, OSz b) (h0 : ROk N R0) (j : Nat) : ROk (N + 128 * j) (mvR bs R0 j) := by
  induction j with
  | zero => exact h0
  | succ j ih =>
    by_cases h : j < bs.length
    · by_cases h2 : j < 20
      · rw [mvR_in h h2]
        exact (ih.app (hz _ (List.getElem_mem h))).mono (by omega)
      · rw [mvR_out (.inr h2)]
        exact ih.mono (by omega)
    · rw [mvR_out (.inl h)]
      exact ih.mono (by omega)
theorem nxU_btw {r : List Rw} (hs : RSor r) (a t : ByteArray) : nxU t r a = (btw r a t)[0]? := up_next hs a t (n := 0) (Nat.zero_le _)
theorem mv_perm (g1 g2 g3 M K a r : As) (T : List As) : (g1 :: g2 :: g3 :: M :: K :: a :: r :: T).Perm (a :: r :: M :: K :: g1 :: g2 :: g3 :: T) :=
  (List.perm_append_comm_assoc [g1, g2, g3] [M, K, a, r] T).trans (List.perm_append_comm_assoc [M, K] [a, r] _)
section
variable {w V V' : World} {p b GM GT n : Nat} {r : List Rw} {key : ByteArray} {T : List As}
def MvL (p b GM GT : Nat) (r : List Rw) (n : Nat) (key : ByteArray) (T : List As) : List As := tbA p r :: rtA b r :: blkA GM 3 #[.int .i64 (n : Nat)] :: blkA GT 9 #[.string key] :: T
theorem mv_sub : ∀ A ∈ T, A ∈ MvL p b GM GT r n key T := fun A h => by unfold MvL; simp [h]
theorem mv_cells (h : Has w (MvL p b GM GT r n key T) V) : V.cell? ⟨GM, 0, none⟩ = some (.int .i64 (n : Nat)) ∧ V.cell? ⟨GT, 0, none⟩ = some (.string key) :=
  ⟨(h.blkAt (g := GM) (t := 3) (cs := #[.int .i64 (n : Nat)]) (by simp [MvL])).cell 0, (h.blkAt (g := GT) (t := 9) (cs := #[.string key]) (by simp [MvL])).cell 0⟩
theorem mv_blks (h : Has w (MvL p b GM GT r n key T) V) : Blk V GM 3 #[.int .i64 (n : Nat)] ∧ Blk V GT 9 #[.string key] :=
  ⟨h.blkAt (by simp [MvL]), h.blkAt (by simp [MvL])⟩
theorem mv_setK (h : Has w (MvL p b GM GT r n key T) V) (k2 : ByteArray) : Has w (MvL p b GM GT r n k2 T) (V.setCell ⟨GT, 0, none⟩ (.string k2)) := by
  have h1 := h.perm (l' := blkA GT 9 #[.string key] :: ([tbA p r, rtA b r, blkA GM 3 #[.int .i64 (n : Nat)]] ++ T)) (List.perm_middle (l₁ := [_, _, _]))
  have h2 := h1.setBlk 0 (.string k2)
  exact h2.perm (l' := MvL p b GM GT r n k2 T) (List.perm_middle (l₁ := [_, _, _])).symm
theorem mv_setN (h : Has w (MvL p b GM GT r n key T) V) (m : Nat) : Has w (MvL p b GM GT r m key T) (V.setCell ⟨GM, 0, none⟩ (.int .i64 (m : Nat))) := by
  have h1 := h.perm (l' := blkA GM 3 #[.int .i64 (n : Nat)] :: ([tbA p r, rtA b r] ++ (blkA GT 9 #[.string key] :: T))) (List.perm_middle (l₁ := [_, _]))
  have h2 := h1.setBlk 0 (.int .i64 (m : Nat))
  exact h2.perm (l' := MvL p b GM GT r m key T) (List.perm_middle (l₁ := [_, _])).symm
theorem mv_firm (h : Has w (MvL p b GM GT r n key T) V) (hc : ∀ A ∈ T, CelA A) {B : Nat} (hf : Firm B V V') (hB : w.heap.size ≤ B) : Has w (MvL p b GM GT r n key T) V' := by
  refine Has.firm h hf hB (fun A hA => ?_)
  unfold MvL at hA
  simp only [List.mem_cons] at hA
  rcases hA with rfl | rfl | rfl | rfl | hA
  · exact cel_tb _ _
  · exact cel_rt _ _
  · exact cel_blk _ _ _
  · exact cel_blk _ _ _
  · exact hc A hA
end
end Go.Proofs.Ytgakkeeeadndkaa
