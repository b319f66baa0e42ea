/-
  Layer 12, plain: things that stand in a table; what is read under a key.
  Layer 10, plain: who is there, and what has it, behind a change.
-/
import Derived.Test.YtdaecfgjfdikbaaGreatDoorZ16
import Derived.Test.YtdaecfgjfdikbaaGreatDoorZ28
set_option linter.unusedVariables false
namespace Go.Proofs.YtdaecfgjfdikbaaGreatDoor
open Go.RowKit

structure Th where
  k : Int
  key : ByteArray
  value : ByteArray
  gone : Bool
  sw : Int
  sl : Int
  it : It
/-- The keys of a version, of an intent. -/
def vkey (s : List UInt8) (a b : Int) : List UInt8 := 118 :: (okey s ++ odown a b)
def ikey (s : List UInt8) : List UInt8 := 105 :: okey s
def bs (l : List UInt8) : ByteArray := ⟨l.toArray⟩
theorem sb_bs (l : List UInt8) : sb (bs l) = l := rfl
theorem bs_sb (s : ByteArray) : bs (sb s) = s := mk_tb s
theorem bs_size (l : List UInt8) : (bs l).size = l.length := rfl
/-- Which kind a thing is. -/
def kd (k : Int) : Int := (k.tmod 3 + 3).tmod 3
theorem kd_is (k : Int) : kd k = 0 ∨ kd k = 1 ∨ kd k = 2 := by
  unfold kd
  have h1 : -3 < k.tmod 3 := Int.lt_tmod_of_pos k (by omega)
  have h2 : k.tmod 3 < 3 := Int.tmod_lt_of_pos k (by omega)
  have h3 := Int.tmod_nonneg 3 (show 0 ≤ k.tmod 3 + 3 by omega)
  have h4 := Int.tmod_lt_of_pos (k.tmod 3 + 3) (show (0 : Int) < 3 by omega)
  omega
/-- What the document's VersionKey, Version, IntentKey, Intent answer. -/
def vkS (s : ByteArray) (a b : Int) : ByteArray := if s.size ≤ 1000 ∧ may a b = true then bs (vkey (sb s) a b) else ⟨#[]⟩
def ikS (s : ByteArray) : ByteArray := if s.size ≤ 1000 then bs (ikey (sb s)) else ⟨#[]⟩
def okV (x : Th) : Bool := decide (x.key.size ≤ 1000) && may x.sw x.sl && isV (if x.gone then ⟨#[]⟩ else x.value) (!x.gone)
def okI (x : Th) : Bool := decide (x.key.size ≤ 1000) && mayI x.it
/-- A thing's change, if it can stand there. -/
def opOf (x : Th) : Option Op_ :=
  if kd x.k = 0 then (if okV x then some ⟨bs (vkey (sb x.key) x.sw x.sl), bs (txV (if x.gone then ⟨#[]⟩ else x.value) (!x.gone)), false⟩ else none)
  else if kd x.k = 1 then (if okI x then some ⟨bs (ikey (sb x.key)), bs (txI x.it), false⟩ else none)
  else some ⟨x.key, x.value, false⟩
def laidP (l : List Th) : List Op_ := (l.take 60).filterMap opOf
def tabP (l : List Th) : List Rw := (laidP l).foldl (fun r o => rapp r [o]) []

/-! ### things in memory -/
abbrev thc (x : Th) (v : Value) : Array Value := #[.int .i64 x.k, .string x.key, .string x.value, .bool x.gone, .int .i64 x.sw, .int .i64 x.sl, .int .i64 x.it.id, .int .i64 x.it.ep, .int .i64 x.it.pr, .string x.it.an, .int .i64 x.it.sw, .int .i64 x.it.sl, .int .i64 x.it.bw, .int .i64 x.it.bl, v]
abbrev thv (x : Th) (v : Value) : Value := .agg (thc x v)
/-- What a thing's numbers and texts must keep. -/
def TSz (x : Th) : Prop := x.key.size ≤ 140737488351232 ∧ x.value.size ≤ 140737488351232 ∧ -9223372036854775808 ≤ x.k ∧ x.k ≤ 9223372036854775807
def ThAt (w : World) (A : Option Addr) (n : Nat) (l : List Th) : Prop :=
  l.length = n ∧ (0 < n → ∃ b o, A = some ⟨b, o, none⟩ ∧ ∀ i (h : i < l.length), ∃ Ai ni ci, (∀ j u, (thc (l[i]'h) (.slice Ai ni ci))[j]? = some u → w.cell? ⟨b, o + i * 15 + j, none⟩ = some u) ∧ ChAt w Ai ni (l[i]'h).it.l ∧ ni ≤ 9223372036854775807)
theorem ThAt.below {w w' : World} {A : Option Addr} {n : Nat} {l : List Th} (h : ThAt w A n l) (hb : Below w.heap.size w w') : ThAt w' A n l := by
  refine ⟨h.1, fun hn => ?_⟩
  obtain ⟨b, o, e, hc⟩ := h.2 hn
  refine ⟨b, o, e, fun i hi => ?_⟩
  obtain ⟨Ai, ni, ci, h1, h2, h3⟩ := hc i hi
  exact ⟨Ai, ni, ci, fun j u hu => kept_below hb _ _ (h1 j u hu), h2.below hb, h3⟩
theorem ThAt.nil (w : World) (A : Option Addr) : ThAt w A 0 [] := ⟨rfl, fun h => absurd h (by omega)⟩

/-! ### sizes -/
theorem odown_le (a b : Int) : (odown a b).length ≤ 9 := by
  unfold odown
  simp [wide_len]
theorem okey_le (s : List UInt8) (h : s.length ≤ 1000) : (okey s).length ≤ 2002 := by
  have := esc_len s
  unfold okey
  rw [List.length_append]
  simp
  omega
theorem opOf_sz {x : Th} (h : TSz x) {o : Op_} (ho : opOf x = some o) : o.key.size ≤ 140737488351232 ∧ o.value.size ≤ 140737488351232 ∧ o.del = false := by
  unfold opOf at ho
  split at ho
  · split at ho
    · rename_i hk
      simp only [okV, Bool.and_eq_true] at hk
      have h1 := okey_le (sb x.key) (by rw [sb_len]; exact of_decide_eq_true hk.1.1)
      have h2 := odown_le x.sw x.sl
      have h3 := txV_len _ _ hk.2
      cases ho
      refine ⟨?_, ?_, rfl⟩
      · show (vkey _ _ _).length ≤ _
        simp only [vkey, List.length_cons, List.length_append]
        omega
      · show (txV _ _).length ≤ _
        omega
    · cases ho
  · split at ho
    · split at ho
      · rename_i hk
        simp only [okI, Bool.and_eq_true] at hk
        have h1 := okey_le (sb x.key) (by rw [sb_len]; exact of_decide_eq_true hk.1)
        have h3 := txI_len _ hk.2
        cases ho
        refine ⟨?_, ?_, rfl⟩
        · show (ikey _).length ≤ _
          simp only [ikey, List.length_cons]
          omega
        · show (txI _).length ≤ _
          omega
      · cases ho
    · cases ho
      exact ⟨h.1, h.2.1, rfl⟩
theorem tab_fold {l : List Op_} : ∀ {N : Nat} {r : List Rw}, ROk N r → (∀ o ∈ l, o.key.size ≤ 140737488351232 ∧ o.value.size ≤ 140737488351232) → ROk (N + 128 * l.length) (l.foldl (fun r o => rapp r [o]) r) := by
  induction l with
  | nil => intro N r h _; exact h
  | cons o l ih =>
    intro N r h h1
    have := ih (h.app (l := [o]) (fun y hy => by rw [List.mem_singleton.1 hy]; exact h1 o (by simp))) (fun y hy => h1 y (by simp [hy]))
    rw [List.length_cons, List.foldl_cons]
    exact this.mono (by omega)
theorem laidP_sz {l : List Th} (h : ∀ x ∈ l, TSz x) : ∀ o ∈ laidP l, o.key.size ≤ 140737488351232 ∧ o.value.size ≤ 140737488351232 := by
  intro o ho
  obtain ⟨x, hx, hxo⟩ := List.mem_filterMap.1 ho
  have := opOf_sz (h x (List.mem_of_mem_take hx)) hxo
  exact ⟨this.1, this.2.1⟩
theorem laidP_len (l : List Th) : (laidP l).length ≤ 60 := by
  unfold laidP
  refine Nat.le_trans (List.length_filterMap_le _ _) ?_
  rw [List.length_take]
  omega
theorem tabP_ok {l : List Th} (h : ∀ x ∈ l, TSz x) : ROk 7680 (tabP l) := (tab_fold ROk.nil (laidP_sz h)).mono (by have := laidP_len l; omega)
end Go.Proofs.YtdaecfgjfdikbaaGreatDoor
set_option linter.unusedVariables false
namespace Go.Proofs.YtdaecfgjfdikbaaGreatDoor
open Go.RowKit

/-! ### plain: what is there behind a call -/
theorem khas_mem {l : List Kv} (hs : Sor l) (k : ByteArray) : khas l k = true ↔ ∃ x ∈ l, x.key = k := by
  constructor
  · intro h
    obtain ⟨hp, hk⟩ := (khas_iff _ _).1 h
    exact ⟨_, List.getElem_mem hp, hk⟩
  · rintro ⟨x, hx, rfl⟩
    obtain ⟨i, hi, rfl⟩ := List.mem_iff_getElem.1 hx
    have h1 : ¬ i < kpos l (l[i]'hi).key := fun h => by
      obtain ⟨_, h2⟩ := kpos_lt h
      rw [kl_irr] at h2
      cases h2
    by_cases h2 : kpos l (l[i]'hi).key < i
    · have hp : kpos l (l[i]'hi).key < l.length := by omega
      have h3 := List.pairwise_iff_getElem.1 hs _ _ hp hi h2
      have h4 := kpos_at hp
      rw [h3] at h4
      cases h4
    · have e : kpos l (l[i]'hi).key = i := by omega
      refine (khas_iff _ _).2 ⟨by omega, ?_⟩
      congr 2
theorem kval_mem {z : Value} {l : List Kv} (hs : Sor l) {x : Kv} (hx : x ∈ l) : kval z l x.key = x.val := by
  have hh := (khas_mem hs x.key).2 ⟨x, hx, rfl⟩
  obtain ⟨hp, hk⟩ := (khas_iff _ _).1 hh
  rw [kval_eq hp hh]
  obtain ⟨i, hi, rfl⟩ := List.mem_iff_getElem.1 hx
  rcases Nat.lt_trichotomy (kpos l (l[i]'hi).key) i with h | h | h
  · have h3 := List.pairwise_iff_getElem.1 hs _ _ hp hi h
    rw [hk, kl_irr] at h3
    cases h3
  · congr 2
  · have h3 := List.pairwise_iff_getElem.1 hs _ _ hi hp h
    rw [hk, kl_irr] at h3
    cases h3
theorem mem_kput {l : List Kv} (hs : Sor l) (k : ByteArray) (v : Value) (s : Nat) (y : Kv) : y ∈ kput l k v s → (y.key = k ∧ y.val = v) ∨ (y ∈ l ∧ y.key ≠ k) := by
  intro h
  by_cases hk : y.key = k
  · have hs2 := Sor.put hs k v s
    have e := kval_mem (z := z9) hs2 h
    have hh : khas (kput l k v s) k = true := (khas_mem hs2 k).2 ⟨y, h, hk⟩
    refine .inl ⟨hk, ?_⟩
    have hn : (⟨k, v, if khas l k then stAt l (kpos l k) else s⟩ : Kv) ∈ kput l k v s := by
      unfold kput
      split
      · rename_i h0
        obtain ⟨hp, _⟩ := (khas_iff _ _).1 h0
        exact List.mem_iff_getElem.2 ⟨kpos l k, by rw [List.length_set]; exact hp, by rw [List.getElem_set_self]⟩
      · exact List.mem_append_right _ List.mem_cons_self
    have e2 := kval_mem (z := z9) hs2 hn
    rw [← e, hk]
    exact e2
  · refine .inr ⟨?_, hk⟩
    unfold kput at h
    split at h
    · rcases List.mem_or_eq_of_mem_set h with h1 | h1
      · exact h1
      · subst h1; exact absurd rfl hk
    · rcases List.mem_append.1 h with h1 | h1
      · exact List.mem_of_mem_take h1
      · rcases List.mem_cons.1 h1 with h1 | h1
        · subst h1; exact absurd rfl hk
        · exact List.mem_of_mem_drop h1
theorem kput_mem {l : List Kv} (hs : Sor l) (k : ByteArray) (v : Value) (s : Nat) : (∃ y ∈ kput l k v s, y.key = k ∧ y.val = v) ∧ ∀ y ∈ l, y.key ≠ k → y ∈ kput l k v s := by
  unfold kput
  split
  · rename_i h0
    obtain ⟨hp, hk⟩ := (khas_iff _ _).1 h0
    refine ⟨⟨_, List.mem_iff_getElem.2 ⟨kpos l k, by rw [List.length_set]; exact hp, rfl⟩, by rw [List.getElem_set_self], by rw [List.getElem_set_self]⟩, fun y hy hne => ?_⟩
    obtain ⟨i, hi, rfl⟩ := List.mem_iff_getElem.1 hy
    refine List.mem_iff_getElem.2 ⟨i, by rw [List.length_set]; exact hi, ?_⟩
    rw [List.getElem_set_ne (fun e => hne (by subst e; exact hk))]
  · refine ⟨⟨_, List.mem_append_right _ List.mem_cons_self, rfl, rfl⟩, fun y hy _ => ?_⟩
    rw [← List.take_append_drop (kpos l k) l] at hy
    rcases List.mem_append.1 hy with h1 | h1
    · exact List.mem_append_left _ h1
    · exact List.mem_append_right _ (List.mem_cons_of_mem _ h1)
theorem kput_has {l : List Kv} (hs : Sor l) (k k' : ByteArray) (v : Value) (s : Nat) : khas (kput l k v s) k' = if k' = k then true else khas l k' := by
  rw [Bool.eq_iff_iff, khas_mem (Sor.put hs k v s)]
  obtain ⟨h1, h2⟩ := kput_mem hs k v s
  by_cases e : k' = k
  · rw [if_pos e]
    obtain ⟨y, hy, hk, _⟩ := h1
    exact ⟨fun _ => rfl, fun _ => ⟨y, hy, by rw [hk, e]⟩⟩
  · rw [if_neg e, khas_mem hs]
    constructor
    · rintro ⟨y, hy, hk⟩
      rcases mem_kput hs k v s y hy with ⟨h3, _⟩ | ⟨h3, _⟩
      · exact absurd (hk.symm.trans h3) e
      · exact ⟨y, h3, hk⟩
    · rintro ⟨y, hy, hk⟩
      exact ⟨y, h2 y hy (fun h => e (hk.symm.trans h)), hk⟩
theorem kput_val {z : Value} {l : List Kv} (hs : Sor l) (k k' : ByteArray) (v : Value) (s : Nat) (hh : khas (kput l k v s) k' = true) : kval z (kput l k v s) k' = if k' = k then v else kval z l k' := by
  have hs2 := Sor.put hs k v s
  obtain ⟨y, hy, rfl⟩ := (khas_mem hs2 k').1 hh
  rw [kval_mem hs2 hy]
  rcases mem_kput hs k v s y hy with ⟨h3, h4⟩ | ⟨h3, h4⟩
  · rw [if_pos h3, h4]
  · rw [if_neg h4, kval_mem hs h3]
theorem kdrop_mem {l : List Kv} (hs : Sor l) (k : ByteArray) (y : Kv) : y ∈ kdrop l k ↔ y ∈ l ∧ y.key ≠ k := by
  unfold kdrop
  by_cases hh : khas l k = true
  · rw [if_pos hh]
    obtain ⟨hp, hk⟩ := (khas_iff _ _).1 hh
    have hsp : l.take (kpos l k) ++ l[kpos l k]'hp :: l.drop (kpos l k + 1) = l := by rw [← List.drop_eq_getElem_cons hp, List.take_append_drop]
    have hs2 := hs
    rw [← hsp] at hs2
    obtain ⟨_, hb, hab⟩ := List.pairwise_append.1 hs2
    obtain ⟨hb1, hb2⟩ := List.pairwise_cons.1 hb
    have hmem : y ∈ l ↔ y ∈ l.take (kpos l k) ∨ y = l[kpos l k]'hp ∨ y ∈ l.drop (kpos l k + 1) := by
      constructor
      · intro h
        rw [← hsp] at h
        rcases List.mem_append.1 h with h | h
        · exact .inl h
        · rcases List.mem_cons.1 h with h | h
          · exact .inr (.inl h)
          · exact .inr (.inr h)
      · rintro (h | h | h)
        · exact List.mem_of_mem_take h
        · subst h; exact List.getElem_mem hp
        · exact List.mem_of_mem_drop h
    rw [List.mem_append, hmem]
    constructor
    · rintro (h | h)
      · refine ⟨.inl h, fun e => ?_⟩
        have := hab y h _ List.mem_cons_self
        rw [hk, e, kl_irr] at this
        cases this
      · refine ⟨.inr (.inr h), fun e => ?_⟩
        have := hb1 y h
        rw [hk, e, kl_irr] at this
        cases this
    · rintro ⟨h | h | h, hne⟩
      · exact .inl h
      · subst h; exact absurd hk hne
      · exact .inr h
  · rw [if_neg hh]
    refine ⟨fun h => ⟨h, fun e => hh ((khas_mem hs k).2 ⟨y, h, e⟩)⟩, fun h => h.1⟩
theorem kdrop_has {l : List Kv} (hs : Sor l) (k k' : ByteArray) : khas (kdrop l k) k' = if k' = k then false else khas l k' := by
  rw [Bool.eq_iff_iff, khas_mem (Sor.dropk hs k)]
  by_cases e : k' = k
  · rw [if_pos e]
    refine ⟨?_, fun h => by cases h⟩
    rintro ⟨y, hy, hk⟩
    exact absurd (hk.trans e) ((kdrop_mem hs k y).1 hy).2
  · rw [if_neg e, khas_mem hs]
    constructor
    · rintro ⟨y, hy, hk⟩
      exact ⟨y, ((kdrop_mem hs k y).1 hy).1, hk⟩
    · rintro ⟨y, hy, hk⟩
      exact ⟨y, (kdrop_mem hs k y).2 ⟨hy, fun h => e (hk.symm.trans h)⟩, hk⟩
theorem kdrop_val {z : Value} {l : List Kv} (hs : Sor l) (k k' : ByteArray) (hh : khas (kdrop l k) k' = true) : kval z (kdrop l k) k' = kval z l k' := by
  have hs2 := Sor.dropk hs k
  obtain ⟨y, hy, rfl⟩ := (khas_mem hs2 k').1 hh
  rw [kval_mem hs2 hy, kval_mem hs ((kdrop_mem hs k y).1 hy).1]


theorem rone_has {r : List Rw} (hs : RSor r) (o : Op_) (k : ByteArray) : rhas (rone r o) k = if k = o.key then !o.del else rhas r k := by
  have h1 := (kv_sor r).2 hs
  have e : rhas r k = khas (kvOf r) k := by rw [← tab_has, tab_kv]
  rw [rone_kv, tab_has, e]
  cases hd : o.del with
  | true => rw [if_pos rfl, kdrop_has h1]; rfl
  | false => rw [if_neg (by decide), kput_has h1]; rfl
theorem kv_strs (r : List Rw) : Strs (kvOf r) := by
  intro x hx
  unfold kvOf at hx
  obtain ⟨y, _, rfl⟩ := List.mem_map.1 hx
  exact ⟨_, rfl⟩
theorem rval_kv (r : List Rw) (k : ByteArray) : kval z9 (kvOf r) k = .string (rval r k) := by
  have := tab_val (kv_strs r) k
  rw [tab_kv] at this
  exact this
theorem rone_val {r : List Rw} (hs : RSor r) (o : Op_) (k : ByteArray) (hh : rhas (rone r o) k = true) : rval (rone r o) k = if k = o.key then o.value else rval r k := by
  have h1 := (kv_sor r).2 hs
  cases hd : o.del with
  | true =>
    have e : rone r o = tab (kdrop (kvOf r) o.key) := by rw [rone_kv, hd, if_pos rfl]
    have hh2 : khas (kdrop (kvOf r) o.key) k = true := by rw [e, tab_has] at hh; exact hh
    have hne : k ≠ o.key := fun e2 => by rw [rone_has hs, if_pos e2, hd] at hh; cases hh
    have h3 := tab_val (Strs.drop (kv_strs r) o.key) k
    rw [kdrop_val h1 _ _ hh2, rval_kv, ← e] at h3
    injection h3 with h3
    rw [if_neg hne, h3]
  | false =>
    have e : rone r o = tab (kput (kvOf r) o.key (.string o.value) 1) := by rw [rone_kv, hd, if_neg (by decide)]
    have hh2 : khas (kput (kvOf r) o.key (.string o.value) 1) k = true := by rw [e, tab_has] at hh; exact hh
    have h3 := tab_val (Strs.put (kv_strs r) o.key o.value 1) k
    rw [kput_val h1 _ _ _ _ hh2, ← e] at h3
    by_cases e2 : k = o.key
    · rw [if_pos e2] at h3 ⊢
      injection h3 with h3
      exact h3.symm
    · rw [if_neg e2, rval_kv] at h3
      injection h3 with h3
      rw [if_neg e2, h3]
end Go.Proofs.YtdaecfgjfdikbaaGreatDoor
