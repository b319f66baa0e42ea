/-
  Layer 5, plain: a list that begins elsewhere.
-/
import Derived.Test.YtnjfabgajebfeaaSMath
set_option linter.unusedVariables false
namespace Go.Proofs.Ytnjfabgajebfeaa

def rt (l : List (Int × Int)) (s k : Nat) : List (Int × Int) := (List.range k).map fun i => l.getD ((i + s) % l.length) (0, 0)
theorem rt_zero (l : List (Int × Int)) (s : Nat) : rt l s 0 = [] := rfl
theorem rt_succ (l : List (Int × Int)) (s k : Nat) : rt l s (k + 1) = rt l s k ++ [l.getD ((k + s) % l.length) (0, 0)] := by
  unfold rt
  rw [List.range_succ, List.map_append]
  rfl
theorem rt_mem {l : List (Int × Int)} {s : Nat} (hs : s < l.length) : (∀ x ∈ l, x ∈ rt l s l.length) ∧ (∀ x ∈ rt l s l.length, x ∈ l) := by
  constructor
  · intro x hx
    obtain ⟨j, hj, rfl⟩ := List.getElem_of_mem hx
    unfold rt
    refine List.mem_map.2 ⟨if s ≤ j then j - s else j + l.length - s, List.mem_range.2 (by split <;> omega), ?_⟩
    have : ((if s ≤ j then j - s else j + l.length - s) + s) % l.length = j := by
      split
      · rw [Nat.sub_add_cancel (by omega), Nat.mod_eq_of_lt hj]
      · rw [Nat.sub_add_cancel (by omega), Nat.add_mod_right, Nat.mod_eq_of_lt hj]
    rw [this, List.getD_eq_getElem?_getD, List.getElem?_eq_getElem hj]
    rfl
  · intro x hx
    obtain ⟨i, _, rfl⟩ := List.mem_map.1 hx
    have h0 : (i + s) % l.length < l.length := Nat.mod_lt _ (by omega)
    rw [List.getD_eq_getElem?_getD, List.getElem?_eq_getElem h0]
    exact List.getElem_mem _
theorem rt_mx {l : List (Int × Int)} {s : Nat} (hs : s < l.length) : mx (rt l s l.length) = mx l :=
  mx_perm (by intro h; rw [h] at hs; simp at hs) (rt_mem hs).1 (rt_mem hs).2
end Go.Proofs.Ytnjfabgajebfeaa
