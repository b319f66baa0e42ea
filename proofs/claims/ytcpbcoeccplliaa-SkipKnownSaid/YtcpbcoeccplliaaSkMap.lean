/-
  Layer 9, the statements: a plain map beside the list.
-/
import Derived.Test.YtcpbcoeccplliaaSkDone
import Derived.Test.YtcpbcoeccplliaaSkWorks
import Derived.Maps.OwnSet
import Derived.Maps.OwnOps
set_option linter.unusedVariables false
namespace Go.Proofs.Ytcpbcoeccplliaa
open Go.RowKit Go.Maps

/-! ### plain: what is there behind a call -/
theorem khas_mem {l : List Kv} (hs : Sor l) (k : ByteArray) : khas l k = true ↔ ∃ x ∈ l, x.key = k := by
  constructor
  · intro h
    obtain ⟨hp, hk⟩ := (khas_iff _ _).1 h
    exact ⟨_, List.getElem_mem hp, hk⟩
  · rintro ⟨x, hx, rfl⟩
    obtain ⟨i, hi, rfl⟩ := List.mem_iff_getElem.1 hx
    have h1 : ¬ i < kpos l (l[i]'hi).key := fun h => by
      obtain ⟨_, h2⟩ := kpos_lt h
      rw [kl_irr] at h2
      cases h2
    by_cases h2 : kpos l (l[i]'hi).key < i
    · have hp : kpos l (l[i]'hi).key < l.length := by omega
      have h3 := List.pairwise_iff_getElem.1 hs _ _ hp hi h2
      have h4 := kpos_at hp
      rw [h3] at h4
      cases h4
    · have e : kpos l (l[i]'hi).key = i := by omega
      refine (khas_iff _ _).2 ⟨by omega, ?_⟩
      congr 2
theorem kval_mem {z : Value} {l : List Kv} (hs : Sor l) {x : Kv} (hx : x ∈ l) : kval z l x.key = x.val := by
  have hh := (khas_mem hs x.key).2 ⟨x, hx, rfl⟩
  obtain ⟨hp, hk⟩ := (khas_iff _ _).1 hh
  rw [kval_eq hp hh]
  obtain ⟨i, hi, rfl⟩ := List.mem_iff_getElem.1 hx
  rcases Nat.lt_trichotomy (kpos l (l[i]'hi).key) i with h | h | h
  · have h3 := List.pairwise_iff_getElem.1 hs _ _ hp hi h
    rw [hk, kl_irr] at h3
    cases h3
  · congr 2
  · have h3 := List.pairwise_iff_getElem.1 hs _ _ hi hp h
    rw [hk, kl_irr] at h3
    cases h3
theorem mem_kput {l : List Kv} (hs : Sor l) (k : ByteArray) (v : Value) (s : Nat) (y : Kv) : y ∈ kput l k v s → (y.key = k ∧ y.val = v) ∨ (y ∈ l ∧ y.key ≠ k) := by
  intro h
  by_cases hk : y.key = k
  · have hs2 := Sor.put hs k v s
    have e := kval_mem (z := z9) hs2 h
    have hh : khas (kput l k v s) k = true := (khas_mem hs2 k).2 ⟨y, h, hk⟩
    refine .inl ⟨hk, ?_⟩
    have hn : (⟨k, v, if khas l k then stAt l (kpos l k) else s⟩ : Kv) ∈ kput l k v s := by
      unfold kput
      split
      · rename_i h0
        obtain ⟨hp, _⟩ := (khas_iff _ _).1 h0
        exact List.mem_iff_getElem.2 ⟨kpos l k, by rw [List.length_set]; exact hp, by rw [List.getElem_set_self]⟩
      · exact List.mem_append_right _ List.mem_cons_self
    have e2 := kval_mem (z := z9) hs2 hn
    rw [← e, hk]
    exact e2
  · refine .inr ⟨?_, hk⟩
    unfold kput at h
    split at h
    · rcases List.mem_or_eq_of_mem_set h with h1 | h1
      · exact h1
      · subst h1; exact absurd rfl hk
    · rcases List.mem_append.1 h with h1 | h1
      · exact List.mem_of_mem_take h1
      · rcases List.mem_cons.1 h1 with h1 | h1
        · subst h1; exact absurd rfl hk
        · exact List.mem_of_mem_drop h1
theorem kput_mem {l : List Kv} (hs : Sor l) (k : ByteArray) (v : Value) (s : Nat) : (∃ y ∈ kput l k v s, y.key = k ∧ y.val = v) ∧ ∀ y ∈ l, y.key ≠ k → y ∈ kput l k v s := by
  unfold kput
  split
  · rename_i h0
    obtain ⟨hp, hk⟩ := (khas_iff _ _).1 h0
    refine ⟨⟨_, List.mem_iff_getElem.2 ⟨kpos l k, by rw [List.length_set]; exact hp, rfl⟩, by rw [List.getElem_set_self], by rw [List.getElem_set_self]⟩, fun y hy hne => ?_⟩
    obtain ⟨i, hi, rfl⟩ := List.mem_iff_getElem.1 hy
    refine List.mem_iff_getElem.2 ⟨i, by rw [List.length_set]; exact hi, ?_⟩
    rw [List.getElem_set_ne (fun e => hne (by subst e; exact hk))]
  · refine ⟨⟨_, List.mem_append_right _ List.mem_cons_self, rfl, rfl⟩, fun y hy _ => ?_⟩
    rw [← List.take_append_drop (kpos l k) l] at hy
    rcases List.mem_append.1 hy with h1 | h1
    · exact List.mem_append_left _ h1
    · exact List.mem_append_right _ (List.mem_cons_of_mem _ h1)
theorem kput_has {l : List Kv} (hs : Sor l) (k k' : ByteArray) (v : Value) (s : Nat) : khas (kput l k v s) k' = if k' = k then true else khas l k' := by
  rw [Bool.eq_iff_iff, khas_mem (Sor.put hs k v s)]
  obtain ⟨h1, h2⟩ := kput_mem hs k v s
  by_cases e : k' = k
  · rw [if_pos e]
    obtain ⟨y, hy, hk, _⟩ := h1
    exact ⟨fun _ => rfl, fun _ => ⟨y, hy, by rw [hk, e]⟩⟩
  · rw [if_neg e, khas_mem hs]
    constructor
    · rintro ⟨y, hy, hk⟩
      rcases mem_kput hs k v s y hy with ⟨h3, _⟩ | ⟨h3, _⟩
      · exact absurd (hk.symm.trans h3) e
      · exact ⟨y, h3, hk⟩
    · rintro ⟨y, hy, hk⟩
      exact ⟨y, h2 y hy (fun h => e (hk.symm.trans h)), hk⟩
theorem kput_val {z : Value} {l : List Kv} (hs : Sor l) (k k' : ByteArray) (v : Value) (s : Nat) (hh : khas (kput l k v s) k' = true) : kval z (kput l k v s) k' = if k' = k then v else kval z l k' := by
  have hs2 := Sor.put hs k v s
  obtain ⟨y, hy, rfl⟩ := (khas_mem hs2 k').1 hh
  rw [kval_mem hs2 hy]
  rcases mem_kput hs k v s y hy with ⟨h3, h4⟩ | ⟨h3, h4⟩
  · rw [if_pos h3, h4]
  · rw [if_neg h4, kval_mem hs h3]
theorem kdrop_mem {l : List Kv} (hs : Sor l) (k : ByteArray) (y : Kv) : y ∈ kdrop l k ↔ y ∈ l ∧ y.key ≠ k := by
  unfold kdrop
  by_cases hh : khas l k = true
  · rw [if_pos hh]
    obtain ⟨hp, hk⟩ := (khas_iff _ _).1 hh
    have hsp : l.take (kpos l k) ++ l[kpos l k]'hp :: l.drop (kpos l k + 1) = l := by rw [← List.drop_eq_getElem_cons hp, List.take_append_drop]
    have hs2 := hs
    rw [← hsp] at hs2
    obtain ⟨_, hb, hab⟩ := List.pairwise_append.1 hs2
    obtain ⟨hb1, hb2⟩ := List.pairwise_cons.1 hb
    have hmem : y ∈ l ↔ y ∈ l.take (kpos l k) ∨ y = l[kpos l k]'hp ∨ y ∈ l.drop (kpos l k + 1) := by
      constructor
      · intro h
        rw [← hsp] at h
        rcases List.mem_append.1 h with h | h
        · exact .inl h
        · rcases List.mem_cons.1 h with h | h
          · exact .inr (.inl h)
          · exact .inr (.inr h)
      · rintro (h | h | h)
        · exact List.mem_of_mem_take h
        · subst h; exact List.getElem_mem hp
        · exact List.mem_of_mem_drop h
    rw [List.mem_append, hmem]
    constructor
    · rintro (h | h)
      · refine ⟨.inl h, fun e => ?_⟩
        have := hab y h _ List.mem_cons_self
        rw [hk, e, kl_irr] at this
        cases this
      · refine ⟨.inr (.inr h), fun e => ?_⟩
        have := hb1 y h
        rw [hk, e, kl_irr] at this
        cases this
    · rintro ⟨h | h | h, hne⟩
      · exact .inl h
      · subst h; exact absurd hk hne
      · exact .inr h
  · rw [if_neg hh]
    refine ⟨fun h => ⟨h, fun e => hh ((khas_mem hs k).2 ⟨y, h, e⟩)⟩, fun h => h.1⟩
theorem kdrop_has {l : List Kv} (hs : Sor l) (k k' : ByteArray) : khas (kdrop l k) k' = if k' = k then false else khas l k' := by
  rw [Bool.eq_iff_iff, khas_mem (Sor.dropk hs k)]
  by_cases e : k' = k
  · rw [if_pos e]
    refine ⟨?_, fun h => by cases h⟩
    rintro ⟨y, hy, hk⟩
    exact absurd (hk.trans e) ((kdrop_mem hs k y).1 hy).2
  · rw [if_neg e, khas_mem hs]
    constructor
    · rintro ⟨y, hy, hk⟩
      exact ⟨y, ((kdrop_mem hs k y).1 hy).1, hk⟩
    · rintro ⟨y, hy, hk⟩
      exact ⟨y, (kdrop_mem hs k y).2 ⟨hy, fun h => e (hk.symm.trans h)⟩, hk⟩
theorem kdrop_val {z : Value} {l : List Kv} (hs : Sor l) (k k' : ByteArray) (hh : khas (kdrop l k) k' = true) : kval z (kdrop l k) k' = kval z l k' := by
  have hs2 := Sor.dropk hs k
  obtain ⟨y, hy, rfl⟩ := (khas_mem hs2 k').1 hh
  rw [kval_mem hs2 hy, kval_mem hs ((kdrop_mem hs k y).1 hy).1]

/-! ### the map -/
def sk9 (s : ByteArray) : Lit := .string s.data.toList
theorem sk9_inj {s t : ByteArray} (h : sk9 s = sk9 t) : s = t := by
  unfold sk9 at h
  injection h with h
  exact ByteArray.ext (Array.toList_inj.1 h)
theorem sk9_key (s : ByteArray) : WideAt.IsKeyLit (sk9 s) := trivial
/-- A map that has what a list has. -/
structure MpIs (D : DataW Empty) (l : List Kv) : Prop where
  tidy : Tidy D
  has : ∀ k, Maps.has D (sk9 k) = khas l k
  val : ∀ k, khas l k = true → ∀ z, ∃ n : Int, D.atKey (sk9 k) z = .lit (.int .i64 n) ∧ kval z9 l k = .int .i64 n
  size : Maps.size D = l.length
  sor : Sor l
theorem MpIs.nil : MpIs (.map [] : DataW Empty) [] := ⟨tidy_empty, (fun k => rfl), (fun k h => nomatch h), rfl, List.Pairwise.nil⟩
theorem MpIs.put {D : DataW Empty} {l : List Kv} (h : MpIs D l) (k : ByteArray) (n : Int) (s : Nat) : MpIs (D.put (sk9 k) (.lit (.int .i64 n))) (kput l k (.int .i64 n) s) := by
  refine ⟨h.tidy.put (sk9_key k) _, fun k' => ?_, fun k' hh z => ?_, ?_, Sor.put h.sor _ _ _⟩
  · rw [kput_has h.sor]
    by_cases e : k' = k
    · subst e
      rw [if_pos rfl, has_put_same h.tidy.isMap (sk9_key _)]
    · rw [if_neg e, has_put_other (fun e2 => e (sk9_inj e2)), h.has]
  · rw [kput_val h.sor _ _ _ _ hh]
    by_cases e : k' = k
    · subst e
      rw [if_pos rfl, atKey_put_same h.tidy.isMap (sk9_key _)]
      exact ⟨n, rfl, rfl⟩
    · rw [if_neg e, atKey_put_other (fun e2 => e (sk9_inj e2))]
      refine h.val k' ?_ z
      rw [kput_has h.sor, if_neg e] at hh
      exact hh
  · rw [size_put h.tidy, h.has, kput_len, h.size]
    split <;> rfl
theorem MpIs.del {D : DataW Empty} {l : List Kv} (h : MpIs D l) (k : ByteArray) : MpIs (D.del (sk9 k)) (kdrop l k) := by
  refine ⟨h.tidy.del _, fun k' => ?_, fun k' hh z => ?_, ?_, Sor.dropk h.sor _⟩
  · rw [kdrop_has h.sor]
    by_cases e : k' = k
    · subst e
      rw [if_pos rfl, has_del_same]
    · rw [if_neg e, has_del_other (fun e2 => e (sk9_inj e2)), h.has]
  · rw [kdrop_val h.sor _ _ hh]
    have e : k' ≠ k := fun e => by rw [kdrop_has h.sor, if_pos e] at hh; cases hh
    rw [atKey_del_other (fun e2 => e (sk9_inj e2))]
    refine h.val k' ?_ z
    rw [kdrop_has h.sor, if_neg e] at hh
    exact hh
  · have h1 := size_del (k := sk9 k) h.tidy
    have h2 := kdrop_len l k
    rw [h.has, h.size] at h1
    split at h1 <;> simp_all <;> omega
/-- A map of the walk's own. -/
def mapA (b c : Nat) (l : List Kv) : As where
  p V F := (∃ D, V.ownsMap Try.prog 9 (plainElem Try.prog 3) b c D ∧ MpIs D l) ∧ ∀ k, F k ↔ k = b
  on {V V' F} h hs hk := by
    obtain ⟨⟨D, ⟨es, clock, hb, r⟩, hM⟩, hF⟩ := h
    exact ⟨⟨D, ⟨es, clock, (hk b ((hF b).2 rfl)).trans hb, r⟩, hM⟩, hF⟩
  lt {V F} h k e := by
    obtain ⟨⟨D, hO, hM⟩, hF⟩ := h
    rw [(hF k).1 e]
    exact hO.lt
end Go.Proofs.Ytcpbcoeccplliaa
