/-
  Layer 10, the statements: a plain map beside the table.
-/
import Derived.Test.YtgakkeeeadndkaaTbOps
import Derived.Test.YtgakkeeeadndkaaSepJoin
import Derived.Maps.OwnSet
import Derived.Maps.OwnOps
import Derived.StringKeys
import Derived.Carry
set_option linter.unusedVariables false
namespace Go.Proofs.Ytgakkeeeadndkaa
open Go.RowKit Go.Maps Go.MapKept

/-! ### plain: what is there behind a call -/
theorem khas_mem {l : List Kv} (hs : Sor l) (k : ByteArray) : khas l k = true ↔ ∃ x ∈ l, x.key = k := by
  constructor
  · intro h
    obtain ⟨hp, hk⟩ := (khas_iff _ _).1 h
    exact ⟨_, List.getElem_mem hp, hk⟩
  · rintro ⟨x, hx, rfl⟩
    obtain ⟨i, hi, rfl⟩ := List.mem_iff_getElem.1 hx
    have h1 : ¬ i < kpos l (l[i]'hi).key := fun h => by
      obtain ⟨_, h2⟩ := kpos_lt h
      rw [kl_irr] at h2
      cases h2
    by_cases h2 : kpos l (l[i]'hi).key < i
    · have hp : kpos l (l[i]'hi).key < l.length := by omega
      have h3 := List.pairwise_iff_getElem.1 hs _ _ hp hi h2
      have h4 := kpos_at hp
      rw [h3] at h4
      cases h4
    · have e : kpos l (l[i]'hi).key = i := by omega
      refine (khas_iff _ _).2 ⟨by omega, ?_⟩
      congr 2
theorem kval_mem {z : Value} {l : List Kv} (hs : Sor l) {x : Kv} (hx : x ∈ l) : kval z l x.key = x.val := by
  have hh := (khas_mem hs x.key).2 ⟨x, hx, rfl⟩
  obtain ⟨hp, hk⟩ := (khas_iff _ _).1 hh
  rw [kval_eq hp hh]
  obtain ⟨i, hi, rfl⟩ := List.mem_iff_getElem.1 hx
  rcases Nat.lt_trichotomy (kpos l (l[i]'hi).key) i with h | h | h
  · have h3 := List.pairwise_iff_getElem.1 hs _ _ hp hi h
    rw [hk, kl_irr] at h3
    cases h3
  · congr 2
  · have h3 := List.pairwise_iff_getElem.1 hs _ _ hi hp h
    rw [hk, kl_irr] at h3
    cases h3
theorem mem_kput {l : List Kv} (hs : Sor l) (k : ByteArray) (v : Value) (s : Nat) (y : Kv) : y ∈ kput l k v s → (y.key = k ∧ y.val = v) ∨ (y ∈ l ∧ y.key ≠ k) := by
  intro h
  by_cases hk : y.key = k
  · have hs2 := Sor.put hs k v s
    have e := kval_mem (z := z9) hs2 h
    have hh : khas (kput l k v s) k = true := (khas_mem hs2 k).2 ⟨y, h, hk⟩
    refine .inl ⟨hk, ?_⟩
    have hn : (⟨k, v, if khas l k then stAt l (kpos l k) else s⟩ : Kv) ∈ kput l k v s := by
      unfold kput
      split
      · rename_i h0
        obtain ⟨hp, _⟩ := (khas_iff _ _).1 h0
        exact List.mem_iff_getElem.2 ⟨kpos l k, by rw [List.length_set]; exact hp, by rw [List.getElem_set_self]⟩
      · exact List.mem_append_right _ List.mem_cons_self
    have e2 := kval_mem (z := z9) hs2 hn
    rw [← e, hk]
    exact e2
  · refine .inr ⟨?_, hk⟩
    unfold kput at h
    split at h
    · rcases List.mem_or_eq_of_mem_set h with h1 | h1
      · exact h1
      · subst h1; exact absurd rfl hk
    · rcases List.mem_append.1 h with h1 | h1
      · exact List.mem_of_mem_take h1
      · rcases List.mem_cons.1 h1 with h1 | h1
        · subst h1; exact absurd rfl hk
        · exact List.mem_of_mem_drop h1
theorem kput_mem {l : List Kv} (hs : Sor l) (k : ByteArray) (v : Value) (s : Nat) : (∃ y ∈ kput l k v s, y.key = k ∧ y.val = v) ∧ ∀ y ∈ l, y.key ≠ k → y ∈ kput l k v s := by
  unfold kput
  split
  · rename_i h0
    obtain ⟨hp, hk⟩ := (khas_iff _ _).1 h0
    refine ⟨⟨_, List.mem_iff_getElem.2 ⟨kpos l k, by rw [List.length_set]; exact hp, rfl⟩, by rw [List.getElem_set_self], by rw [List.getElem_set_self]⟩, fun y hy hne => ?_⟩
    obtain ⟨i, hi, rfl⟩ := List.mem_iff_getElem.1 hy
    refine List.mem_iff_getElem.2 ⟨i, by rw [List.length_set]; exact hi, ?_⟩
    rw [List.getElem_set_ne (fun e => hne (by subst e; exact hk))]
  · refine ⟨⟨_, List.mem_append_right _ List.mem_cons_self, rfl, rfl⟩, fun y hy _ => ?_⟩
    rw [← List.take_append_drop (kpos l k) l] at hy
    rcases List.mem_append.1 hy with h1 | h1
    · exact List.mem_append_left _ h1
    · exact List.mem_append_right _ (List.mem_cons_of_mem _ h1)
theorem kput_has {l : List Kv} (hs : Sor l) (k k' : ByteArray) (v : Value) (s : Nat) : khas (kput l k v s) k' = if k' = k then true else khas l k' := by
  rw [Bool.eq_iff_iff, khas_mem (Sor.put hs k v s)]
  obtain ⟨h1, h2⟩ := kput_mem hs k v s
  by_cases e : k' = k
  · rw [if_pos e]
    obtain ⟨y, hy, hk, _⟩ := h1
    exact ⟨fun _ => rfl, fun _ => ⟨y, hy, by rw [hk, e]⟩⟩
  · rw [if_neg e, khas_mem hs]
    constructor
    · rintro ⟨y, hy, hk⟩
      rcases mem_kput hs k v s y hy with ⟨h3, _⟩ | ⟨h3, _⟩
      · exact absurd (hk.symm.trans h3) e
      · exact ⟨y, h3, hk⟩
    · rintro ⟨y, hy, hk⟩
      exact ⟨y, h2 y hy (fun h => e (hk.symm.trans h)), hk⟩
theorem kput_val {z : Value} {l : List Kv} (hs : Sor l) (k k' : ByteArray) (v : Value) (s : Nat) (hh : khas (kput l k v s) k' = true) : kval z (kput l k v s) k' = if k' = k then v else kval z l k' := by
  have hs2 := Sor.put hs k v s
  obtain ⟨y, hy, rfl⟩ := (khas_mem hs2 k').1 hh
  rw [kval_mem hs2 hy]
  rcases mem_kput hs k v s y hy with ⟨h3, h4⟩ | ⟨h3, h4⟩
  · rw [if_pos h3, h4]
  · rw [if_neg h4, kval_mem hs h3]
theorem kdrop_mem {l : List Kv} (hs : Sor l) (k : ByteArray) (y : Kv) : y ∈ kdrop l k ↔ y ∈ l ∧ y.key ≠ k := by
  unfold kdrop
  by_cases hh : khas l k = true
  · rw [if_pos hh]
    obtain ⟨hp, hk⟩ := (khas_iff _ _).1 hh
    have hsp : l.take (kpos l k) ++ l[kpos l k]'hp :: l.drop (kpos l k + 1) = l := by rw [← List.drop_eq_getElem_cons hp, List.take_append_drop]
    have hs2 := hs
    rw [← hsp] at hs2
    obtain ⟨_, hb, hab⟩ := List.pairwise_append.1 hs2
    obtain ⟨hb1, hb2⟩ := List.pairwise_cons.1 hb
    have hmem : y ∈ l ↔ y ∈ l.take (kpos l k) ∨ y = l[kpos l k]'hp ∨ y ∈ l.drop (kpos l k + 1) := by
      constructor
      · intro h
        rw [← hsp] at h
        rcases List.mem_append.1 h with h | h
        · exact .inl h
        · rcases List.mem_cons.1 h with h | h
          · exact .inr (.inl h)
          · exact .inr (.inr h)
      · rintro (h | h | h)
        · exact List.mem_of_mem_take h
        · subst h; exact List.getElem_mem hp
        · exact List.mem_of_mem_drop h
    rw [List.mem_append, hmem]
    constructor
    · rintro (h | h)
      · refine ⟨.inl h, fun e => ?_⟩
        have := hab y h _ List.mem_cons_self
        rw [hk, e, kl_irr] at this
        cases this
      · refine ⟨.inr (.inr h), fun e => ?_⟩
        have := hb1 y h
        rw [hk, e, kl_irr] at this
        cases this
    · rintro ⟨h | h | h, hne⟩
      · exact .inl h
      · subst h; exact absurd hk hne
      · exact .inr h
  · rw [if_neg hh]
    refine ⟨fun h => ⟨h, fun e => hh ((khas_mem hs k).2 ⟨y, h, e⟩)⟩, fun h => h.1⟩
theorem kdrop_has {l : List Kv} (hs : Sor l) (k k' : ByteArray) : khas (kdrop l k) k' = if k' = k then false else khas l k' := by
  rw [Bool.eq_iff_iff, khas_mem (Sor.dropk hs k)]
  by_cases e : k' = k
  · rw [if_pos e]
    refine ⟨?_, fun h => by cases h⟩
    rintro ⟨y, hy, hk⟩
    exact absurd (hk.trans e) ((kdrop_mem hs k y).1 hy).2
  · rw [if_neg e, khas_mem hs]
    constructor
    · rintro ⟨y, hy, hk⟩
      exact ⟨y, ((kdrop_mem hs k y).1 hy).1, hk⟩
    · rintro ⟨y, hy, hk⟩
      exact ⟨y, (kdrop_mem hs k y).2 ⟨hy, fun h => e (hk.symm.trans h)⟩, hk⟩
theorem kdrop_val {z : Value} {l : List Kv} (hs : Sor l) (k k' : ByteArray) (hh : khas (kdrop l k) k' = true) : kval z (kdrop l k) k' = kval z l k' := by
  have hs2 := Sor.dropk hs k
  obtain ⟨y, hy, rfl⟩ := (khas_mem hs2 k').1 hh
  rw [kval_mem hs2 hy, kval_mem hs ((kdrop_mem hs k y).1 hy).1]


theorem rone_has {r : List Rw} (hs : RSor r) (o : Op_) (k : ByteArray) : rhas (rone r o) k = if k = o.key then !o.del else rhas r k := by
  have h1 := (kv_sor r).2 hs
  have e : rhas r k = khas (kvOf r) k := by rw [← tab_has, tab_kv]
  rw [rone_kv, tab_has, e]
  cases hd : o.del with
  | true => rw [if_pos rfl, kdrop_has h1]; rfl
  | false => rw [if_neg (by decide), kput_has h1]; rfl
theorem kv_strs (r : List Rw) : Strs (kvOf r) := by
  intro x hx
  unfold kvOf at hx
  obtain ⟨y, _, rfl⟩ := List.mem_map.1 hx
  exact ⟨_, rfl⟩
theorem rval_kv (r : List Rw) (k : ByteArray) : kval z9 (kvOf r) k = .string (rval r k) := by
  have := tab_val (kv_strs r) k
  rw [tab_kv] at this
  exact this
theorem rone_val {r : List Rw} (hs : RSor r) (o : Op_) (k : ByteArray) (hh : rhas (rone r o) k = true) : rval (rone r o) k = if k = o.key then o.value else rval r k := by
  have h1 := (kv_sor r).2 hs
  cases hd : o.del with
  | true =>
    have e : rone r o = tab (kdrop (kvOf r) o.key) := by rw [rone_kv, hd, if_pos rfl]
    have hh2 : khas (kdrop (kvOf r) o.key) k = true := by rw [e, tab_has] at hh; exact hh
    have hne : k ≠ o.key := fun e2 => by rw [rone_has hs, if_pos e2, hd] at hh; cases hh
    have h3 := tab_val (Strs.drop (kv_strs r) o.key) k
    rw [kdrop_val h1 _ _ hh2, rval_kv, ← e] at h3
    injection h3 with h3
    rw [if_neg hne, h3]
  | false =>
    have e : rone r o = tab (kput (kvOf r) o.key (.string o.value) 1) := by rw [rone_kv, hd, if_neg (by decide)]
    have hh2 : khas (kput (kvOf r) o.key (.string o.value) 1) k = true := by rw [e, tab_has] at hh; exact hh
    have h3 := tab_val (Strs.put (kv_strs r) o.key o.value 1) k
    rw [kput_val h1 _ _ _ _ hh2, ← e] at h3
    by_cases e2 : k = o.key
    · rw [if_pos e2] at h3 ⊢
      injection h3 with h3
      exact h3.symm
    · rw [if_neg e2, rval_kv] at h3
      injection h3 with h3
      rw [if_neg e2, h3]
theorem rone_lenT (r : List Rw) (o : Op_) : (rone r o).length + (if o.del ∧ rhas r o.key = true then 1 else 0) = r.length + (if o.del = false ∧ rhas r o.key = false then 1 else 0) := by
  have hp := rpos_le r o.key
  have hq : rhas r o.key = true → rpos r o.key < r.length := fun h => ((rhas_iff r o.key).1 h).choose
  unfold rone rrest
  simp only [List.length_append, List.length_take, List.length_drop]
  cases hd : o.del <;> cases hh : rhas r o.key <;> simp <;> (try have := hq hh) <;> omega
/-- Rows as a map's elements: the key of each is without bytes. -/
def rowE (v : Value) : Option (DataW Empty × List MemPlace) :=
  match v with
  | .agg cs =>
    match cs.toList with
    | [.string a, .string s] => if a.data.toList = [] then some (.lit (.string s.data.toList), []) else none
    | _ => none
  | _ => none
theorem rowE_mk (s : ByteArray) : rowE (.agg #[.string ⟨#[]⟩, .string s]) = some (.lit (.string s.data.toList), []) := rfl
theorem rowE_inv {v : Value} {z : DataW Empty × List MemPlace} (h : rowE v = some z) : ∃ s : ByteArray, v = .agg #[.string ⟨#[]⟩, .string s] ∧ z = (.lit (.string s.data.toList), []) := by
  unfold rowE at h
  split at h
  · rename_i cs
    split at h
    · rename_i a s hcs
      split at h
      · rename_i ha
        injection h with h
        have e : a = ⟨#[]⟩ := ByteArray.ext (Array.toList_inj.1 ha)
        subst e
        refine ⟨s, ?_, h.symm⟩
        congr 1
        exact Array.toList_inj.1 hcs
      · cases h
    · cases h
  · cases h
def sk9 (s : ByteArray) : Lit := .string s.data.toList
theorem sk9_inj {s t : ByteArray} (h : sk9 s = sk9 t) : s = t := by
  unfold sk9 at h
  injection h with h
  exact ByteArray.ext (Array.toList_inj.1 h)
theorem sk9_key (s : ByteArray) : WideAt.IsKeyLit (sk9 s) := trivial
theorem mapK9 : Keyed Try.prog 9 := string_keyed Try.underlying9
theorem HKey9 (s : ByteArray) (h : s.size ≤ 281474976710656) : keyOf Try.prog 9 (.string s) = some (sk9 s) :=
  Go.WideMaps.keyOf_string_mk (P := Try.prog) Try.underlying9 (s := s) (by unfold maxLen; omega)
/-- A map that has what rows have. -/
structure MpIs (D : DataW Empty) (r : List Rw) : Prop where
  tidy : Tidy D
  has : ∀ k, Maps.has D (sk9 k) = rhas r k
  val : ∀ k, rhas r k = true → ∀ z, D.atKey (sk9 k) z = .lit (.string (rval r k).data.toList)
  size : Maps.size D = r.length
  sor : RSor r
theorem MpIs.nil : MpIs (.map [] : DataW Empty) [] := ⟨tidy_empty, (fun k => rfl), (fun k h => nomatch h), rfl, List.Pairwise.nil⟩
theorem MpIs.put {D : DataW Empty} {r : List Rw} (h : MpIs D r) (k v : ByteArray) : MpIs (D.put (sk9 k) (.lit (.string v.data.toList))) (rone r ⟨k, v, false⟩) := by
  refine ⟨h.tidy.put (sk9_key k) _, fun k' => ?_, fun k' hh z => ?_, ?_, h.sor.one _⟩
  · rw [rone_has h.sor]
    by_cases e : k' = k
    · subst e
      rw [if_pos rfl, has_put_same h.tidy.isMap (sk9_key _)]
      rfl
    · rw [if_neg e, has_put_other (fun e2 => e (sk9_inj e2)), h.has]
  · rw [rone_val h.sor _ _ hh]
    by_cases e : k' = k
    · subst e
      rw [if_pos rfl, atKey_put_same h.tidy.isMap (sk9_key _)]
    · rw [if_neg e, atKey_put_other (fun e2 => e (sk9_inj e2))]
      refine h.val k' ?_ z
      rw [rone_has h.sor, if_neg e] at hh
      exact hh
  · have := rone_lenT r ⟨k, v, false⟩
    rw [size_put h.tidy, h.has, h.size]
    cases hh : rhas r k with
    | true => simp [hh] at this ⊢; omega
    | false => simp [hh] at this ⊢; omega
theorem MpIs.del {D : DataW Empty} {r : List Rw} (h : MpIs D r) (k v : ByteArray) : MpIs (D.del (sk9 k)) (rone r ⟨k, v, true⟩) := by
  refine ⟨h.tidy.del _, fun k' => ?_, fun k' hh z => ?_, ?_, h.sor.one _⟩
  · rw [rone_has h.sor]
    by_cases e : k' = k
    · subst e
      rw [if_pos rfl, has_del_same]
      rfl
    · rw [if_neg e, has_del_other (fun e2 => e (sk9_inj e2)), h.has]
  · have e : k' ≠ k := fun e => by rw [rone_has h.sor, if_pos e] at hh; cases hh
    rw [rone_val h.sor _ _ hh, if_neg e, atKey_del_other (fun e2 => e (sk9_inj e2))]
    refine h.val k' ?_ z
    rw [rone_has h.sor, if_neg e] at hh
    exact hh
  · have h1 := size_del (k := sk9 k) h.tidy
    have h2 := rone_lenT r ⟨k, v, true⟩
    rw [h.has, h.size] at h1
    cases hh : rhas r k with
    | true => simp [hh] at h1 h2 ⊢; omega
    | false => simp [hh] at h1 h2 ⊢; omega
/-- A map of the walk's own. -/
def mpA (b c : Nat) (r : List Rw) : As where
  p V F := (∃ D, V.ownsMap Try.prog 9 rowE b c D ∧ MpIs D r) ∧ ∀ k, F k ↔ k = b
  on {V V' F} h hs hk := by
    obtain ⟨⟨D, ⟨es, clock, hb, r⟩, hM⟩, hF⟩ := h
    exact ⟨⟨D, ⟨es, clock, (hk b ((hF b).2 rfl)).trans hb, r⟩, hM⟩, hF⟩
  lt {V F} h k e := by
    obtain ⟨⟨D, hO, hM⟩, hF⟩ := h
    rw [(hF k).1 e]
    exact hO.lt
section
variable {w V V' : World} {T : List As} {b c c' : Nat} {r r' : List Rw}
theorem Has.mp (h : Has w (mpA b c r :: T) V) : ∃ D, V.ownsMap Try.prog 9 rowE b c D ∧ MpIs D r ∧ ∀ (V' : World) (c' : Nat) (r' : List Rw) (D' : DataW Empty), V.grownBy V' (some b) → V'.ownsMap Try.prog 9 rowE b c' D' → MpIs D' r' → Has w (mpA b c' r' :: T) V' := by
  obtain ⟨F, ⟨⟨D, hO, hM⟩, hF⟩, _, h2⟩ := h.step
  refine ⟨D, hO, hM, fun V' c' r' D' hg hO' hM' => h2 V' (mpA b c' r') F (Grow.by_ hg (fun k e => (hF k).2 (by injection e with e; exact e.symm))) ⟨⟨D', hO', hM'⟩, hF⟩ (fun k e => .inl e)⟩
theorem Has.mpMono (h : Has w (mpA b c r :: T) V) (hc : c ≤ c') : Has w (mpA b c' r :: T) V :=
  h.imp (fun F ⟨⟨D, hO, hM⟩, hF⟩ => ⟨⟨D, hO.mono hc, hM⟩, hF⟩)
theorem Has.mpNew (h : Has w T V) : Has w (mpA V.heap.size 0 [] :: T) (V.alloc (.map #[] 0)) :=
  h.new (F := fun k => k = V.heap.size) (nbl V _) ⟨⟨.map [], World.ownsMap_made V Try.prog 9 _, MpIs.nil⟩, fun k => Iff.rfl⟩ (fun k e => Nat.le_of_eq e.symm)
theorem Has.mpLen (h : Has w (mpA b c r :: T) V) {k : Nat} (hl : r.length = k) :
    (Builtin.len_ #[51] 3 #[.map (some b)]).run Try.prog V = .ok (.int .i64 (k : Int)) V := by
  obtain ⟨D, hO, hM, _⟩ := h.mp
  have e := hO.len (t := 51) Try.underlying51 3
  rw [hM.size, hl] at e
  exact e
end
section
variable (w : World) {ops : Array Oper} {rest : List Oper} {o : Oper} {a : Act} {Q : Exit → Act → World → Prop}
theorem wpList_look10 (hg : o.guard = none) (m x : Operand) (hop : o.op = Op.lookup 51 m x true) (b n : Nat) (D : DataW Empty) (r : List Rw) (s u : ByteArray)
    (hm : a.eval m = .map (some b)) (hown : w.ownsMap Try.prog 9 rowE b n D) (hM : MpIs D r) (hx : a.eval x = .string s) (hs : s.size ≤ 281474976710656) (hh : rhas r s = true) (hv : rval r s = u)
    (hK : wpList Try.prog ops Q rest (a.put o.dst (.tuple #[.agg #[.string ⟨#[]⟩, .string u], .bool true])) w) :
    wpList Try.prog ops Q (o :: rest) a w := by
  refine wpList_lookup_own_ok w hg m x 51 hop 9 39 mapK9 Try.underlying51 rowE (z := .agg #[.string ⟨#[]⟩, .string ⟨#[]⟩]) (by kernel_rfl) (.lit (.string [])) [] (rowE_mk ⟨#[]⟩) b n D hm hown _ (sk9 s) hx (HKey9 s hs) (fun v ps hat => ?_)
  obtain ⟨s2, rfl, h2⟩ := rowE_inv hat
  rw [hM.val s hh] at h2
  injection h2 with h2 _
  injection h2 with h2
  injection h2 with h2
  have e : s2 = u := by rw [← hv]; exact ByteArray.ext (Array.toList_inj.1 h2.symm)
  subst e
  rw [hM.has, hh]
  exact hK
end
end Go.Proofs.Ytgakkeeeadndkaa
