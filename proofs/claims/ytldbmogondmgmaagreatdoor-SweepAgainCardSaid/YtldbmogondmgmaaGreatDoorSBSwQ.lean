/-
  Layer 15, plain: swept again; what goes was to go (written by wip/gensw4.py).
-/
import Derived.Test.YtldbmogondmgmaaGreatDoorSB31
set_option linter.unusedVariables false
set_option linter.unusedSimpArgs false
set_option maxRecDepth 100000
namespace Go.Proofs.YtldbmogondmgmaaGreatDoor
open Go.RowKit

theorem btw_rdel {r : List Rw} (hs : RSor r) (f t : ByteArray) (ht : t.toList ≠ []) (D : List ByteArray) : btw (rdel r D) f t = rdel (btw r f t) D := by
  rw [btw_filter (rdel_sor hs D) f t ht, btw_filter hs f t ht]
  unfold rdel
  rw [List.filter_filter, List.filter_filter]
  congr 1
  funext x
  exact Bool.and_comm _ _
theorem btw_sor {r : List Rw} (hs : RSor r) (f t : ByteArray) : RSor (btw r f t) := by
  unfold btw
  exact (hs.sublist (List.take_sublist _ _)).sublist (List.drop_sublist _ _)
theorem btw_sub (r : List Rw) (f t : ByteArray) : (btw r f t).Sublist r := by
  unfold btw
  exact (List.drop_sublist _ _).trans (List.take_sublist _ _)
theorem swC_again {r : List Rw} (hs : RSor r) {F X : ByteArray} {to_ : Int × Int} (he : swE F X to_ = 0) : swC (rdel r (gk (swC r F X to_))) F X to_ = [] := by
  rw [swC_go F X to_ he, swC_go F X to_ he, btw_rdel hs _ _ (vfr_ne X)]
  refine go_again (btw_sor hs _ _) (fun y hy s a b v i hv => ?_) (fun y hy s a b v i hv h => h)
  show Op.bytesLess (sb s) [] = false
  exact kl_nil _
theorem rhas_mem {r : List Rw} (hs : RSor r) (k : ByteArray) : rhas r k = true ↔ ∃ x ∈ r, x.key = k := by
  have e : rhas r k = khas (kvOf r) k := by rw [← tab_has, tab_kv]
  rw [e, khas_mem ((kv_sor r).2 hs)]
  unfold kvOf
  constructor
  · rintro ⟨y, hy, h⟩
    obtain ⟨x, hx, rfl⟩ := List.mem_map.1 hy
    exact ⟨x, hx, h⟩
  · rintro ⟨x, hx, h⟩
    exact ⟨_, List.mem_map.2 ⟨x, hx, rfl⟩, h⟩
theorem sor_eq {r : List Rw} (hs : RSor r) {x y : Rw} (hx : x ∈ r) (hy : y ∈ r) (h : x.key = y.key) : x = y := by
  obtain ⟨i, hi, rfl⟩ := List.mem_iff_getElem.1 hx
  obtain ⟨j, hj, rfl⟩ := List.mem_iff_getElem.1 hy
  rcases Nat.lt_trichotomy i j with h1 | h1 | h1
  · exact absurd h (kl_ne (List.pairwise_iff_getElem.1 hs i j hi hj h1))
  · subst h1; rfl
  · exact absurd h.symm (kl_ne (List.pairwise_iff_getElem.1 hs j i hj hi h1))
/-- What a row's key tells behind a sweep: it is there, or was to go. -/
theorem sw_row {r : List Rw} (hs : RSor r) {F X : ByteArray} {to_ : Int × Int} (he : swE F X to_ = 0) {x : Rw} (hx : x ∈ r) :
    rhas (rdel r (gk (swC r F X to_))) x.key = true ∨ ∃ s a b v i, vrd x = some (s, a, b, v, i) ∧ lt to_ (a, b) = false ∧ Op.bytesLess s.toList F.toList = false ∧ Op.bytesLess s.toList X.toList = true := by
  by_cases hm : x.key ∈ gk (swC r F X to_)
  · right
    rw [swC_go F X to_ he] at hm
    obtain ⟨o, ho, e⟩ := List.mem_map.1 hm
    obtain ⟨y, hy, rfl, s, a, b, v, i, hv, hl⟩ := go_mem ho
    have hyr := (btw_sub r _ _).subset hy
    obtain rfl : y = x := sor_eq hs hyr hx e
    rw [btw_filter hs _ _ (vfr_ne X)] at hy
    have h2 := (List.mem_filter.1 hy).2
    obtain ⟨hmm, hk, hi⟩ := vrd_key hv
    rw [vfr_lt hi hmm hk, vfr_lt hi hmm hk] at h2
    simp only [Bool.and_eq_true, Bool.not_eq_true'] at h2
    exact ⟨s, a, b, v, i, hv, hl, h2.1, h2.2⟩
  · left
    rw [rhas_mem (rdel_sor hs _)]
    exact ⟨x, List.mem_filter.2 ⟨hx, outOf_iff.2 hm⟩, rfl⟩
theorem sw_len {r : List Rw} (hs : RSor r) {F X : ByteArray} {to_ : Int × Int} (he : swE F X to_ = 0) : (rdel r (gk (swC r F X to_))).length + (swC r F X to_).length = r.length := by
  have h1 : (gk (swC r F X to_)).Sublist (r.map Rw.key) := by
    rw [swC_go F X to_ he]
    exact (gk_sub _ _).trans ((btw_sub r _ _).map Rw.key)
  have := rdel_len hs h1
  unfold gk at this ⊢
  simpa using this
theorem sw_step1 {r : List Rw} (hs : RSor r) (hz : Szs r) {F X : ByteArray} {to_ : Int × Int} (he : swE F X to_ = 0) (m : Nat) (hm : m < (swC r F X to_).length) :
    chk [(swC r F X to_)[m]'hm] = 0 ∧ OSz [(swC r F X to_)[m]'hm] ∧ rapp (rdel r (gk ((swC r F X to_).take m))) [(swC r F X to_)[m]'hm] = rdel r (gk ((swC r F X to_).take (m + 1))) := by
  obtain ⟨x, hx, e⟩ : ∃ x ∈ r, (swC r F X to_)[m]'hm = delO x := by
    have h1 := List.getElem_mem hm
    generalize hq : (swC r F X to_)[m]'hm = q at *
    rw [swC_go F X to_ he] at h1
    obtain ⟨x, hx, e⟩ := go_key h1
    exact ⟨x, (btw_sub r _ _).subset hx, e⟩
  have hd : gk ((swC r F X to_).take (m + 1)) = gk ((swC r F X to_).take m) ++ [x.key] := by
    rw [List.take_succ_eq_append_getElem hm, e]
    unfold gk
    rw [List.map_append]
    rfl
  rw [hd, e]
  obtain ⟨h1, h2⟩ := del_step hs hz hx (gk ((swC r F X to_).take m))
  refine ⟨h1, szs_del hz hx, ?_⟩
  rw [h2]
  exact rdel_congr fun k => by simp [or_comm]
end Go.Proofs.YtldbmogondmgmaaGreatDoor
