/-
  DiskKeeps, plain: what was synced stays.
-/
import Derived.Test.YtmjoaeljfhgojaaDSep
set_option linter.unusedVariables false
namespace Go.Proofs.Ytmjoaeljfhgojaa
open Go.RowKit

abbrev nK : ByteArray := ⟨#[107, 101, 112, 116]⟩
theorem may_k : mayN nK = true := by decide
/-- 'kept' is there, with these bytes and this mark; the disk lives, and has not been told to fail. -/
def KP (D : Dk) (x : List UInt8) (p : Nat) : Prop := D.dead = false ∧ D.left = -1 ∧ (⟨nK, x, p⟩ : Fl) ∈ D.l
theorem mem_parts {l : List Fl} {f : Fl} {a b : Nat} (hf : f ∈ l) (h : ∀ i (hi : i < l.length), l[i] = f → i < a ∨ b ≤ i) : f ∈ l.take a ∨ f ∈ l.drop b := by
  obtain ⟨i, hi, e⟩ := List.getElem_of_mem hf
  rcases h i hi e with h1 | h1
  · left
    rw [List.mem_take_iff_getElem]
    exact ⟨i, by omega, e⟩
  · right
    rw [List.mem_drop_iff_getElem]
    refine ⟨i - b, by omega, ?_⟩
    simp only [show b + (i - b) = i by omega]
    exact e
theorem at_name {l : List Fl} {s : ByteArray} (hs : isAt l s = true) : (l[pos l s]'(isAt_lt hs)).name = s := by
  have h := isAt_eq rfl (isAt_lt hs)
  rw [hs] at h
  simpa using h.symm
theorem mem_without {l : List Fl} {f : Fl} {s : ByteArray} (hf : f ∈ l) (hn : f.name ≠ s) : f ∈ without l s := by
  unfold without
  split
  · rename_i hs
    rw [List.mem_append]
    refine mem_parts hf (fun i hi e => ?_)
    have : i ≠ pos l s := fun h => hn (by subst h; rw [← e]; exact at_name hs)
    omega
  · exact hf
theorem mem_withF {l : List Fl} {f g : Fl} (hf : f ∈ l) (hn : f.name ≠ g.name) : f ∈ withF l g := by
  unfold withF
  rw [List.mem_append, List.mem_cons]
  cases hs : isAt l g.name with
  | true =>
    rcases mem_parts (a := pos l g.name) (b := pos l g.name + 1) hf (fun i hi e => by
      have : i ≠ pos l g.name := fun h => hn (by subst h; rw [← e]; exact at_name hs)
      omega) with h | h
    · exact .inl h
    · exact .inr (.inr (by simpa using h))
  | false =>
    rcases mem_parts (a := pos l g.name) (b := pos l g.name) hf (fun i hi e => by omega) with h | h
    · exact .inl h
    · exact .inr (.inr (by simpa using h))
theorem mem_setAt {l : List Fl} {f g : Fl} {s : ByteArray} (hf : f ∈ l) (hs : isAt l s = true) (hn : f.name ≠ s) : f ∈ setAt l s g := by
  unfold setAt
  obtain ⟨i, hi, e⟩ := List.getElem_of_mem hf
  have : pos l s ≠ i := fun h => hn (by subst h; rw [← e]; exact at_name hs)
  rw [List.mem_iff_getElem]
  exact ⟨i, by rw [List.length_set]; exact hi, by rw [List.getElem_set_ne this]; exact e⟩
section
variable {D : Dk} {x : List UInt8} {p : Nat} {s t : ByteArray}
theorem KP.work (h : KP D x p) {g : List Fl → List Fl} (hg : (⟨nK, x, p⟩ : Fl) ∈ g D.l) : KP (work D g) x p := by
  unfold Go.Proofs.Ytmjoaeljfhgojaa.work
  have h2 := h.2.1
  rw [if_neg (by omega)]
  exact ⟨h.1, by show (if 0 < D.left then D.left - 1 else D.left) = -1; rw [if_neg (by omega)]; exact h2, hg⟩
theorem KP.is_ (h : nmE D s = 0) : isAt D.l s = true := by
  unfold nmE at h
  cases hd : D.dead <;> cases hi : isAt D.l s <;> simp [hd, hi] at h ⊢
theorem KP.app_ (h : KP D x p) (hs : s ≠ nK) (bs : List UInt8) : KP (app D s bs) x p := by
  unfold app
  split
  · exact h
  · split
    · exact h
    · split
      · exact h
      · exact h.work (mem_withF h.2.2 (Ne.symm hs))
theorem KP.syn_ (h : KP D x p) (hs : s ≠ nK) : KP (syn D s) x p := by
  unfold syn
  split
  · rename_i hn
    exact h.work (mem_setAt h.2.2 (KP.is_ hn) (Ne.symm hs))
  · exact h
theorem KP.cut_ (h : KP D x p) (hs : s ≠ nK) (k : Int) : KP (cut D s k) x p := by
  unfold cut
  split
  · rename_i hn
    split
    · exact h
    · exact h.work (mem_setAt h.2.2 (KP.is_ hn) (Ne.symm hs))
  · exact h
theorem KP.ren_ (h : KP D x p) (hs : s ≠ nK) (ht : t ≠ nK) : KP (ren D s t) x p := by
  unfold ren
  split
  · split
    · exact h
    · exact h.work (mem_withF (mem_without h.2.2 (Ne.symm hs)) (Ne.symm ht))
  · exact h
theorem KP.rem_ (h : KP D x p) (hs : s ≠ nK) : KP (rem D s) x p := by
  unfold rem
  split
  · exact h.work (mem_without h.2.2 (Ne.symm hs))
  · exact h
theorem KP.deed (h : KP D x p) (d : Dd) (hk : d.k % 12 < 8) (hn : d.nm ≠ nK) (ht : d.tn ≠ nK) : KP (deedC D d) x p := by
  unfold deedC
  split
  · exact h.app_ hn _
  · split
    · exact h.syn_ hn
    · split
      · exact h.cut_ hn _
      · split
        · exact h.ren_ hn ht
        · split
          · exact h.rem_ hn
          · rw [if_neg (by omega), if_neg (by omega), if_neg (by omega)]
            have := Int.emod_nonneg d.k (b := 12) (by omega)
            omega
theorem KP.new_ (x : List UInt8) (p : Nat) : KP (wd nK x p false (-1)) x p := ⟨rfl, rfl, by simp [wd]⟩
theorem KP.end_ (h : KP D x p) (hok : D.ok) (keep : List Int) : ∃ k, k ≤ x.length - p ∧ rdE (boot (crash D keep)) nK = 0 ∧ rdB (boot (crash D keep)) nK = x.take (p + k) := by
  obtain ⟨i, hi, e⟩ := List.getElem_of_mem h.2.2
  have hl : (boot (crash D keep)).l = fall keep D.l := by unfold boot crash; rw [h.1]; rfl
  have hd : (boot (crash D keep)).dead = false := rfl
  have hlen : (fall keep D.l).length = D.l.length := by unfold fall; simp
  have hget : ∀ j (hj : j < D.l.length), (fall keep D.l)[j]'(by rw [hlen]; exact hj) = fallF keep j D.l[j] := fun j hj => by unfold fall; simp
  have hname : ∀ j f, (fallF keep j f).name = f.name := fun _ _ => rfl
  have hp : pos (fall keep D.l) nK = i := pos_eq (by omega) (fun j hj => by
      rw [hget j (by omega), hname]
      have := List.pairwise_iff_getElem.1 hok.sorted j i (by omega) hi hj
      rw [e] at this
      exact this) (fun hh => by
      rw [hget i hi, hname, e]
      exact nl_irr _)
  have hi' : i < (fall keep D.l).length := by omega
  have his : isAt (fall keep D.l) nK = true := by
    rw [isAt_eq hp hi', hget i hi, hname, e]
    simp
  have hf : fileAt (fall keep D.l) nK = fallF keep i ⟨nK, x, p⟩ := by
    unfold fileAt
    rw [his, if_pos rfl, hp, List.getD_eq_getElem?_getD, List.getElem?_eq_getElem hi', Option.getD_some, hget i hi, e]
  have hnm : nmE (boot (crash D keep)) nK = 0 := by unfold nmE; rw [hd, hl, his]; rfl
  refine ⟨if i < keep.length then brn (keep.getD i 0) (x.length - p + 1) else 0, ?_, hnm, ?_⟩
  · split
    · unfold brn
      rw [if_neg (by omega)]
      have := Int.emod_lt_of_pos (keep.getD i 0) (b := ((x.length - p + 1 : Nat) : Int)) (by omega)
      omega
    · omega
  · unfold rdB
    rw [hnm, if_pos rfl, hl, hf]
    rfl
end
theorem cat_ne (a : UInt8) (s : ByteArray) (ha : a ≠ 107) : (⟨#[a]⟩ : ByteArray) ++ s ≠ nK := by
  intro h
  have h1 := congrArg (fun t : ByteArray => t.data[0]?) h
  simp [ByteArray.data_append, Array.getElem?_append] at h1
  exact ha h1
end Go.Proofs.Ytmjoaeljfhgojaa
