/-
  Layer 15: what the statements lean on (written by wip/gensw4.py).
-/
import Derived.Test.YtldbmogondmgmaaGreatDoorSBSwL
import Derived.Test.YtldbmogondmgmaaGreatDoorSB29
set_option linter.unusedVariables false
set_option linter.unusedSimpArgs false
set_option maxRecDepth 100000
namespace Go.Proofs.YtldbmogondmgmaaGreatDoor
open Go.RowKit

theorem vfr_ne (X : ByteArray) : (vfr X).toList ≠ [] := by
  unfold vfr
  split
  · exact zr_ne _
  · rw [Lib.toList_data]
    simp [bs, vkey]
/-- A sweep of all keys. -/
theorem swC_all {r : List Rw} (hs : RSor r) (to_ : Int × Int) (he : swE ⟨#[]⟩ t33 to_ = 0) : swC r ⟨#[]⟩ t33 to_ = go to_ ⟨#[]⟩ r := by
  unfold swC
  rw [if_pos he, go_all, btw_filter hs _ _ (vfr_ne _), go_filter]
  intro x hx hp
  cases hv : vrd x with
  | none => rfl
  | some q =>
    obtain ⟨s, a, b, v, i⟩ := q
    exfalso
    obtain ⟨hm, hk, hi⟩ := vrd_key hv
    rw [vfr_lt hi hm hk, vfr_lt hi hm hk] at hp
    have h1 : Op.bytesLess s.toList (⟨#[]⟩ : ByteArray).toList = false := by
      rw [Lib.toList_data, Lib.toList_data]
      exact kl_nil _
    have h2 : Op.bytesLess s.toList t33.toList = true := by
      rw [Lib.toList_data, Lib.toList_data]
      refine bl_max 33 _ ?_
      have := (isK_iff.1 hi).2
      rw [Array.length_toList]
      show s.size < 33
      omega
    rw [h1, h2] at hp
    cases hp
theorem swC_go {r : List Rw} (F X : ByteArray) (to_ : Int × Int) (he : swE F X to_ = 0) : swC r F X to_ = go to_ ⟨#[]⟩ (btw r (vfr F) (vfr X)) := by
  unfold swC
  rw [if_pos he, go_all]
theorem swC_no {r : List Rw} (F X : ByteArray) (to_ : Int × Int) (he : ¬ swE F X to_ = 0) : swC r F X to_ = [] := by
  unfold swC
  rw [if_neg he]
theorem rdel_szs {r : List Rw} (h : Szs r) (D : List ByteArray) : Szs (rdel r D) := fun x hx => h x (List.mem_filter.1 hx).1
theorem rdel_ok {N : Nat} {r : List Rw} (h : ROk N r) (D : List ByteArray) : ROk N (rdel r D) := ⟨rdel_sor h.sor D, rdel_szs h.szs D, Nat.le_trans (List.length_filter_le _ _) h.len⟩
theorem rdel_rdel (r : List Rw) (D E : List ByteArray) : rdel (rdel r D) E = rdel r (E ++ D) := by
  unfold rdel
  rw [List.filter_filter]
  congr 1
  funext x
  unfold outOf
  rw [List.all_append]
theorem szs_del {r : List Rw} (h : Szs r) {x : Rw} (hx : x ∈ r) : OSz [delO x] := fun o ho => by
  rw [List.mem_singleton.1 ho]
  exact ⟨(h x hx).2.1, by show (⟨#[]⟩ : ByteArray).size ≤ _; decide⟩
/-- One change of a sweep, done to what is left of the table. -/
theorem del_step {r : List Rw} (hs : RSor r) (hz : Szs r) {x : Rw} (hx : x ∈ r) (D : List ByteArray) : chk [delO x] = 0 ∧ rapp (rdel r D) [delO x] = rdel r (x.key :: D) := by
  obtain ⟨h1, h2⟩ := rapp_del (rdel_sor hs D) (x := x) (hz x hx).1
  exact ⟨h1, by rw [h2, rdel_rdel]; rfl⟩
theorem go_key {to_ : Int × Int} {r : List Rw} {a0 : ByteArray} {o : Op_} (h : o ∈ go to_ a0 r) : ∃ x ∈ r, o = delO x := by
  obtain ⟨x, hx, e, -⟩ := go_mem h
  exact ⟨x, hx, e⟩
theorem Has.read15 {w V : World} {T : List As} {p : Nat} {r : List Rw} (h : Has w (tbA p r :: T) V) (hz : Szs r) (key : ByteArray) (a b : Int) :
    Calls Tryz.prog 26 #[pt p, .string key, sv a b] V fun e w' => e = .returned (.tuple #[.string (rdC r key (a, b)).1, .bool (rdC r key (a, b)).2]) ∧ Has w (tbA p r :: T) w' := by
  obtain ⟨F, hA, _⟩ := h.get
  refine (Go.Proofs.YtldbmogondmgmaaGreatDoor.read15 hA hz key a b).mono ?_
  rintro e w' ⟨rfl, hb⟩
  exact ⟨rfl, h.keep hb⟩
theorem Has.applyOne {w V : World} {T : List As} {p N q n c m : Nat} {R : List Rw} {L : List Op_} (h : Has w (tbA p R :: opA (.slice (some ⟨q, 0, none⟩) n c) L :: T) V) (hR : ROk N R) (hN : N ≤ 999999000) (hn : n = L.length) (hm : m < L.length) (hc : chk [L[m]] = 0) (hz : OSz [L[m]]) :
    Calls Tryz.prog 27 #[pt p, .slice (some ⟨q, m * 3, none⟩) 1 (c - m)] V fun e w' => e = .returned (.int .i64 0) ∧ Has w (tbA p (rapp R [L[m]]) :: opA (.slice (some ⟨q, 0, none⟩) n c) L :: T) w' := by
  refine (Has.tbApplyB h hR hN (some ⟨q, m * 3, none⟩) 1 (c - m) [L[m]] (fun W F2 hF => (opA_at hF hn).pick hm |> fun h => by rw [hn] at *; exact h) (by decide) hz).mono ?_
  rintro e w' ⟨rfl, h2, -⟩
  rw [hc]
  exact ⟨rfl, h2⟩
theorem Has.tbGetK {w V : World} {l : List As} {p : Nat} {r : List Rw} (h : Has w l V) (hm : tbA p r ∈ l) (key : ByteArray) : Calls Tryz.prog 14 #[pt p, .string key] V fun e w' => e = .returned (.tuple #[.string (rval r key), .bool (rhas r key)]) ∧ Has w l w' ∧ Below V.heap.size V w' := by
  obtain ⟨F, hA, _⟩ := h.at_ hm
  refine (tb_get hA key).mono ?_
  rintro e w' ⟨rfl, hb⟩
  exact ⟨rfl, h.keep hb, hb⟩
end Go.Proofs.YtldbmogondmgmaaGreatDoor
