/-
  Layer 10, plain: rows in the order of their keys, changes; what a list of texts tells of rows; what stands between two keys.
-/
import Derived.Test.YtgakkeeeadndkaaStHas
set_option linter.unusedVariables false
namespace Go.Proofs.Ytgakkeeeadndkaa
open Go.RowKit

structure Rw where
  key : ByteArray
  value : ByteArray
structure Op_ where
  key : ByteArray
  value : ByteArray
  del : Bool
def rpos (r : List Rw) (k : ByteArray) : Nat := (r.takeWhile (fun x => kl x.key k)).length
def rhas (r : List Rw) (k : ByteArray) : Bool := match r[rpos r k]? with | some x => decide (x.key = k) | none => false
def rval (r : List Rw) (k : ByteArray) : ByteArray := if rhas r k then (r[rpos r k]?.map Rw.value).getD ⟨#[]⟩ else ⟨#[]⟩
def rrest (r : List Rw) (k : ByteArray) : Nat := rpos r k + if rhas r k then 1 else 0
def rone (r : List Rw) (o : Op_) : List Rw := r.take (rpos r o.key) ++ (if o.del then [] else [⟨o.key, o.value⟩]) ++ r.drop (rrest r o.key)
def opBad (o : Op_) : Bool := o.key.toList.isEmpty || (o.del && !o.value.toList.isEmpty)
def chk (l : List Op_) : Nat := if 128 < l.length then 5 else if l.any opBad then 2 else 0
def rapp (r : List Rw) (l : List Op_) : List Rw := if chk l = 0 then l.foldl rone r else r
def rkey (r : List Rw) (n : Nat) : ByteArray := (r[n]?.map Rw.key).getD ⟨#[]⟩
/-- Where Last looks. -/
def rend (r : List Rw) (k : ByteArray) : Nat := if k.toList = [] then r.length else rpos r k
def RSor (r : List Rw) : Prop := r.Pairwise (fun a b => kl a.key b.key = true)
def btw (r : List Rw) (from_ to_ : ByteArray) : List Rw := (r.take (rend r to_)).drop (rpos r from_)

/-! ### a list of texts as rows -/
def strOf : Value → ByteArray
  | .string s => s
  | _ => ⟨#[]⟩
def rw1 (x : Kv) : Rw := ⟨x.key, strOf x.val⟩
def tab (l : List Kv) : List Rw := l.map rw1
def Strs (l : List Kv) : Prop := ∀ x ∈ l, ∃ s, x.val = .string s
theorem tab_len (l : List Kv) : (tab l).length = l.length := by simp [tab]
theorem tab_get (l : List Kv) (n : Nat) : (tab l)[n]? = l[n]?.map rw1 := by simp [tab]
theorem tab_pos (l : List Kv) (k : ByteArray) : rpos (tab l) k = kpos l k := by
  unfold rpos kpos tab
  rw [List.takeWhile_map, List.length_map]
  rfl
theorem tab_has (l : List Kv) (k : ByteArray) : rhas (tab l) k = khas l k := by
  unfold rhas khas
  rw [tab_get, tab_pos]
  cases l[kpos l k]? <;> rfl
theorem tab_key (l : List Kv) (n : Nat) : rkey (tab l) n = keyAt l n := by
  unfold rkey keyAt
  rw [tab_get]
  cases l[n]? <;> rfl
theorem tab_end (l : List Kv) (k : ByteArray) : rend (tab l) k = kend l k := by
  unfold rend kend
  rw [tab_len, tab_pos]
theorem tab_val {l : List Kv} (h : Strs l) (k : ByteArray) : kval z9 l k = .string (rval (tab l) k) := by
  unfold kval rval
  rw [tab_has, tab_get, tab_pos]
  cases hh : khas l k with
  | false => rfl
  | true =>
    obtain ⟨hp, _⟩ := (khas_iff l k).1 hh
    obtain ⟨s, hs⟩ := h _ (List.getElem_mem hp)
    rw [if_pos rfl, if_pos rfl, List.getElem?_eq_getElem hp]
    show (l[kpos l k]'hp).val = .string (strOf (l[kpos l k]'hp).val)
    rw [hs]
    rfl
theorem tab_sor (l : List Kv) : RSor (tab l) ↔ Sor l := by
  unfold RSor Sor tab
  rw [List.pairwise_map]
  exact Iff.rfl
theorem tab_put (l : List Kv) (k v : ByteArray) (s : Nat) : tab (kput l k (.string v) s) = rone (tab l) ⟨k, v, false⟩ := by
  unfold kput rone rrest
  simp only [tab_has, tab_pos]
  cases hh : khas l k with
  | true =>
    obtain ⟨hp, _⟩ := (khas_iff l k).1 hh
    rw [if_pos rfl, if_pos rfl]
    simp only [Bool.false_eq_true, if_false]
    rw [List.set_eq_take_append_cons_drop, if_pos hp]
    simp [tab, List.map_take, List.map_drop, rw1, strOf]
  | false =>
    simp only [Bool.false_eq_true, if_false]
    simp [tab, List.map_take, List.map_drop, rw1, strOf]
theorem tab_drop (l : List Kv) (k v : ByteArray) : tab (kdrop l k) = rone (tab l) ⟨k, v, true⟩ := by
  unfold kdrop rone rrest
  simp only [tab_has, tab_pos]
  cases hh : khas l k with
  | true =>
    rw [if_pos rfl, if_pos rfl]
    simp [tab, List.map_take, List.map_drop]
  | false =>
    simp only [Bool.false_eq_true, if_false, if_true]
    simp [tab]
theorem Strs.put {l : List Kv} (h : Strs l) (k v : ByteArray) (s : Nat) : Strs (kput l k (.string v) s) := by
  unfold kput
  split
  · intro x hx
    rcases List.mem_or_eq_of_mem_set hx with h1 | h1
    · exact h x h1
    · exact ⟨v, by rw [h1]⟩
  · intro x hx
    rcases List.mem_append.1 hx with h1 | h1
    · exact h x (List.mem_of_mem_take h1)
    · rcases List.mem_cons.1 h1 with h1 | h1
      · exact ⟨v, by rw [h1]⟩
      · exact h x (List.mem_of_mem_drop h1)
theorem Strs.drop {l : List Kv} (h : Strs l) (k : ByteArray) : Strs (kdrop l k) := by
  unfold kdrop
  split
  · intro x hx
    rcases List.mem_append.1 hx with h1 | h1
    · exact h x (List.mem_of_mem_take h1)
    · exact h x (List.mem_of_mem_drop h1)
  · exact h

/-! ### rows -/
theorem rpos_le (r : List Rw) (k : ByteArray) : rpos r k ≤ r.length := by
  unfold rpos
  induction r with
  | nil => simp
  | cons a r ih =>
    rw [List.takeWhile_cons]
    split
    · simp only [List.length_cons]; omega
    · simp
/-- Rows as a list. -/
def kvOf (r : List Rw) : List Kv := r.map (fun x => ⟨x.key, .string x.value, 1⟩)
theorem tab_kv (r : List Rw) : tab (kvOf r) = r := by
  unfold tab kvOf
  rw [List.map_map]
  exact List.map_id'' (fun x => rfl) r
theorem kv_len (r : List Rw) : (kvOf r).length = r.length := by simp [kvOf]
theorem kv_key {r : List Rw} {i : Nat} (h : i < r.length) : ((kvOf r)[i]'(by rw [kv_len]; exact h)).key = (r[i]'h).key := by simp [kvOf]
theorem kv_pos (r : List Rw) (k : ByteArray) : kpos (kvOf r) k = rpos r k := by rw [← tab_pos, tab_kv]
theorem kv_sor (r : List Rw) : Sor (kvOf r) ↔ RSor r := by rw [← tab_sor, tab_kv]
theorem rpos_lt {r : List Rw} {k : ByteArray} {i : Nat} (h : i < rpos r k) : ∃ hi : i < r.length, kl (r[i]'hi).key k = true := by
  rw [← kv_pos] at h
  obtain ⟨hi, h2⟩ := kpos_lt h
  have hi2 : i < r.length := by rw [kv_len] at hi; exact hi
  exact ⟨hi2, by rw [← kv_key hi2]; exact h2⟩
theorem rpos_ge {r : List Rw} (hs : RSor r) {k : ByteArray} {i : Nat} (h : rpos r k ≤ i) (hi : i < r.length) : kl (r[i]'hi).key k = false := by
  rw [← kv_pos] at h
  rw [← kv_key hi]
  exact kpos_ge ((kv_sor r).2 hs) h (by rw [kv_len]; exact hi)
theorem rpos_at {r : List Rw} {k : ByteArray} (h : rpos r k < r.length) : kl (r[rpos r k]'h).key k = false := by
  have h2 : kpos (kvOf r) k < (kvOf r).length := by rw [kv_pos, kv_len]; exact h
  have := kpos_at h2
  simp only [kv_pos] at this
  rw [← kv_key h]
  exact this
theorem rpos_iff {r : List Rw} (hs : RSor r) {k : ByteArray} {i : Nat} (hi : i < r.length) : kl (r[i]'hi).key k = decide (i < rpos r k) := by
  by_cases h : i < rpos r k
  · rw [decide_eq_true h]; exact (rpos_lt h).2
  · rw [decide_eq_false h]; exact rpos_ge hs (by omega) hi
theorem rend_le (r : List Rw) (k : ByteArray) : rend r k ≤ r.length := by
  unfold rend
  split
  · exact Nat.le_refl _
  · exact rpos_le _ _
theorem rend_iff {r : List Rw} (hs : RSor r) {k : ByteArray} {i : Nat} (hi : i < r.length) : (decide (k.toList = []) || kl (r[i]'hi).key k) = decide (i < rend r k) := by
  unfold rend
  by_cases h : k.toList = []
  · rw [decide_eq_true h, if_pos h, decide_eq_true hi]; rfl
  · rw [decide_eq_false h, if_neg h, rpos_iff hs hi]; rfl
theorem rhas_iff (r : List Rw) (k : ByteArray) : rhas r k = true ↔ ∃ h : rpos r k < r.length, (r[rpos r k]'h).key = k := by
  unfold rhas
  by_cases h : rpos r k < r.length
  · rw [List.getElem?_eq_getElem h]; simp [h]
  · rw [List.getElem?_eq_none (by omega)]; simp [h]
theorem rhas_at {r : List Rw} {k : ByteArray} (h : rpos r k < r.length) : rhas r k = decide ((r[rpos r k]'h).key = k) := by
  unfold rhas
  rw [List.getElem?_eq_getElem h]
theorem rhas_end {r : List Rw} {k : ByteArray} (h : r.length ≤ rpos r k) : rhas r k = false := by
  unfold rhas
  rw [List.getElem?_eq_none h]
theorem rone_kv (r : List Rw) (o : Op_) : rone r o = tab (if o.del then kdrop (kvOf r) o.key else kput (kvOf r) o.key (.string o.value) 1) := by
  obtain ⟨k, v, d⟩ := o
  cases d with
  | true => simp only [if_true]; rw [tab_drop _ _ v, tab_kv]
  | false => simp only [Bool.false_eq_true, if_false]; rw [tab_put, tab_kv]
theorem RSor.one {r : List Rw} (h : RSor r) (o : Op_) : RSor (rone r o) := by
  rw [rone_kv, tab_sor]
  have := (kv_sor r).2 h
  split
  · exact Sor.dropk this _
  · exact Sor.put this _ _ _
theorem rone_len (r : List Rw) (o : Op_) : (rone r o).length ≤ r.length + 1 := by
  have := rpos_le r o.key
  unfold rone rrest
  simp only [List.length_append, List.length_take, List.length_drop]
  split <;> split <;> simp <;> omega
theorem rone_mem {r : List Rw} {o : Op_} {x : Rw} (hx : x ∈ rone r o) : x ∈ r ∨ (o.del = false ∧ x = ⟨o.key, o.value⟩) := by
  unfold rone at hx
  rcases List.mem_append.1 hx with h | h
  · rcases List.mem_append.1 h with h | h
    · exact .inl (List.mem_of_mem_take h)
    · cases hd : o.del with
      | true => rw [hd] at h; simp at h
      | false => rw [hd] at h; exact .inr ⟨rfl, by simpa using h⟩
  · exact .inl (List.mem_of_mem_drop h)
/-- Rows that may stand in a table: in order, no key without bytes, none too long to be told. -/
def Szs (r : List Rw) : Prop := ∀ x ∈ r, x.key.toList ≠ [] ∧ x.key.size ≤ 140737488351232 ∧ x.value.size ≤ 140737488351232
def OSz (l : List Op_) : Prop := ∀ o ∈ l, o.key.size ≤ 140737488351232 ∧ o.value.size ≤ 140737488351232
theorem Szs.one {r : List Rw} (h : Szs r) {o : Op_} (ho : opBad o = false) (hs : o.key.size ≤ 140737488351232 ∧ o.value.size ≤ 140737488351232) : Szs (rone r o) := by
  intro x hx
  rcases rone_mem hx with h1 | ⟨_, rfl⟩
  · exact h x h1
  · refine ⟨fun e => ?_, hs⟩
    unfold opBad at ho
    rw [e] at ho
    cases ho
theorem chk_ok {l : List Op_} (h : chk l = 0) : l.length ≤ 128 ∧ ∀ o ∈ l, opBad o = false := by
  unfold chk at h
  split at h
  · cases h
  · split at h
    · cases h
    · rename_i h1 h2
      refine ⟨by omega, fun o ho => ?_⟩
      cases hb : opBad o with
      | false => rfl
      | true => exact absurd (List.any_eq_true.2 ⟨o, ho, hb⟩) h2
/-- What a table may have. -/
structure ROk (N : Nat) (r : List Rw) : Prop where
  sor : RSor r
  szs : Szs r
  len : r.length ≤ N
theorem ROk.nil : ROk 0 [] := ⟨List.Pairwise.nil, fun x hx => (nomatch hx), Nat.le_refl _⟩
theorem ROk.mono {N M : Nat} {r : List Rw} (h : ROk N r) (hm : N ≤ M) : ROk M r := ⟨h.sor, h.szs, Nat.le_trans h.len hm⟩
theorem ROk.one {N : Nat} {r : List Rw} (h : ROk N r) {o : Op_} (ho : opBad o = false) (hs : o.key.size ≤ 140737488351232 ∧ o.value.size ≤ 140737488351232) : ROk (N + 1) (rone r o) :=
  ⟨h.sor.one o, h.szs.one ho hs, Nat.le_trans (rone_len r o) (by have := h.len; omega)⟩
theorem ROk.fold {l : List Op_} : ∀ {N : Nat} {r : List Rw}, ROk N r → (∀ o ∈ l, opBad o = false) → OSz l → ROk (N + l.length) (l.foldl rone r) := by
  induction l with
  | nil => intro N r h _ _; exact h
  | cons o l ih =>
    intro N r h h1 h2
    have := ih (h.one (h1 o (by simp)) (h2 o (by simp))) (fun o ho => h1 o (by simp [ho])) (fun o ho => h2 o (by simp [ho]))
    rw [List.length_cons, Nat.add_comm l.length, ← Nat.add_assoc]
    exact this
theorem ROk.app {N : Nat} {r : List Rw} (h : ROk N r) {l : List Op_} (hs : OSz l) : ROk (N + 128) (rapp r l) := by
  unfold rapp
  split
  · rename_i h0
    obtain ⟨h1, h2⟩ := chk_ok h0
    exact (h.fold h2 hs).mono (by omega)
  · exact h.mono (by omega)

/-! ### one key behind the other -/
def zr : ByteArray := ⟨#[0]⟩
theorem kb_next : ∀ a b : List UInt8, Op.bytesLess b (a ++ [0]) = !(Op.bytesLess a b)
  | [], [] => rfl
  | [], c :: b => by
    have h0 : Op.bytesLess b [] = false := by cases b <;> rfl
    have h1 : ¬ c < 0 := UInt8.not_lt_zero
    simp [Op.bytesLess, h0, h1]
  | x :: a, [] => rfl
  | x :: a, c :: b => by
    have ih := kb_next a b
    simp only [List.cons_append, Op.bytesLess, ih]
    by_cases h1 : c < x
    · have h2 : ¬ x < c := fun h => UInt8.lt_irrefl _ (UInt8.lt_trans h1 h)
      have h3 : x ≠ c := fun e => by subst e; exact UInt8.lt_irrefl _ h1
      simp [h1, h2, h3]
    · by_cases h2 : x < c
      · have h3 : c ≠ x := fun e => by subst e; exact UInt8.lt_irrefl _ h2
        simp [h1, h2, h3]
      · have h3 : c = x := UInt8.le_antisymm (UInt8.not_lt.1 h2) (UInt8.not_lt.1 h1)
        subst h3
        simp [UInt8.lt_irrefl]
theorem ztoList (a : ByteArray) : (a ++ zr).toList = a.toList ++ [0] := by
  rw [Lib.toList_data, Lib.toList_data, ByteArray.data_append, Array.toList_append]
  rfl
theorem kl_next (a b : ByteArray) : kl b (a ++ zr) = !(kl a b) := by
  unfold kl
  rw [ztoList]
  exact kb_next _ _
theorem rpos_eq {r : List Rw} {k : ByteArray} {n : Nat} (hn : n ≤ r.length) (h1 : ∀ i (hi : i < r.length), i < n → kl (r[i]'hi).key k = true) (h2 : ∀ hn : n < r.length, kl (r[n]'hn).key k = false) : rpos r k = n := by
  rw [← kv_pos]
  refine kpos_eq (by rw [kv_len]; exact hn) (fun i hi h => ?_) (fun hn => ?_)
  · have hi2 : i < r.length := by rw [kv_len] at hi; exact hi
    rw [kv_key hi2]; exact h1 i hi2 h
  · have hn2 : n < r.length := by rw [kv_len] at hn; exact hn
    rw [kv_key hn2]; exact h2 hn2
theorem rpos_self {r : List Rw} (hs : RSor r) {i : Nat} (hi : i < r.length) : rpos r (r[i]'hi).key = i :=
  rpos_eq (Nat.le_of_lt hi) (fun j hj h => List.pairwise_iff_getElem.1 hs j i hj hi h) (fun _ => kl_irr _)
theorem rpos_next {r : List Rw} (hs : RSor r) {i : Nat} (hi : i < r.length) : rpos r ((r[i]'hi).key ++ zr) = i + 1 := by
  refine rpos_eq hi (fun j hj h => ?_) (fun hn => ?_)
  · rw [kl_next]
    rcases Nat.lt_or_ge j i with h1 | h1
    · rw [kl_asym (List.pairwise_iff_getElem.1 hs j i hj hi h1)]; rfl
    · obtain rfl : j = i := by omega
      rw [kl_irr]; rfl
  · rw [kl_next, List.pairwise_iff_getElem.1 hs i (i + 1) hi hn (by omega)]; rfl
theorem rend_self {r : List Rw} (hs : RSor r) (hz : Szs r) {i : Nat} (hi : i < r.length) : rend r (r[i]'hi).key = i := by
  unfold rend
  rw [if_neg (hz _ (List.getElem_mem hi)).1, rpos_self hs hi]
theorem rpos_emp (r : List Rw) : rpos r ⟨#[]⟩ = 0 := rpos_eq (Nat.zero_le _) (fun i _ h => absurd h (Nat.not_lt_zero _)) (fun hn => kl_empty _ _ (by rw [Lib.toList_data]))
theorem rend_emp (r : List Rw) : rend r ⟨#[]⟩ = r.length := by unfold rend; rw [if_pos (by rw [Lib.toList_data])]
theorem btw_all (r : List Rw) : btw r ⟨#[]⟩ ⟨#[]⟩ = r := by unfold btw; rw [rpos_emp, rend_emp, List.take_length, List.drop_zero]

/-- The next row, rising: from 'at_' on, below 'to_'. -/
def nxU (to_ : ByteArray) (r : List Rw) (at_ : ByteArray) : Option Rw := if rpos r at_ < rend r to_ then r[rpos r at_]? else none
/-- The next row, falling: below 'at_', not below 'from_'. -/
def nxD (from_ : ByteArray) (r : List Rw) (at_ : ByteArray) : Option Rw := if rpos r from_ < rend r at_ then r[rend r at_ - 1]? else none
theorem btw_len (r : List Rw) (f t : ByteArray) : (btw r f t).length = rend r t - rpos r f := by
  unfold btw
  have := rend_le r t
  rw [List.length_drop, List.length_take, Nat.min_eq_left this]
theorem btw_get {r : List Rw} {f t : ByteArray} {i : Nat} (h : i < (btw r f t).length) : ∃ h2 : rpos r f + i < r.length, (btw r f t)[i]'h = r[rpos r f + i]'h2 := by
  have := rend_le r t
  have hl := btw_len r f t
  refine ⟨by omega, ?_⟩
  simp only [btw, List.getElem_drop, List.getElem_take]
/-- The way up, at rest. -/
def upAt (r : List Rw) (f t : ByteArray) (n : Nat) : ByteArray := if n = 0 then f else rkey (btw r f t) (n - 1) ++ zr
theorem rkey_eq {r : List Rw} {n : Nat} (h : n < r.length) : rkey r n = (r[n]'h).key := by unfold rkey; rw [List.getElem?_eq_getElem h]; rfl
theorem up_pos {r : List Rw} (hs : RSor r) (f t : ByteArray) {n : Nat} (hn : n ≤ (btw r f t).length) : rpos r (upAt r f t n) = rpos r f + n := by
  unfold upAt
  split
  · subst n; rfl
  · have h : n - 1 < (btw r f t).length := by omega
    obtain ⟨h2, e⟩ := btw_get h
    rw [rkey_eq h, e, rpos_next hs h2]
    omega
theorem up_next {r : List Rw} (hs : RSor r) (f t : ByteArray) {n : Nat} (hn : n ≤ (btw r f t).length) : nxU t r (upAt r f t n) = (btw r f t)[n]? := by
  have hl := btw_len r f t
  have hp := rpos_le r f
  have hr := rend_le r t
  unfold nxU
  rw [up_pos hs f t hn]
  by_cases h : n < (btw r f t).length
  · obtain ⟨h2, e⟩ := btw_get h
    rw [if_pos (by omega), List.getElem?_eq_getElem h, List.getElem?_eq_getElem h2, e]
  · rw [if_neg (by omega), List.getElem?_eq_none (by omega)]
theorem up_step {r : List Rw} {f t : ByteArray} {n : Nat} {x : Rw} (h : (btw r f t)[n]? = some x) : x.key ++ zr = upAt r f t (n + 1) ∧ n < (btw r f t).length := by
  obtain ⟨hn, e⟩ := List.getElem?_eq_some_iff.1 h
  refine ⟨?_, hn⟩
  unfold upAt
  rw [if_neg (by omega), Nat.add_sub_cancel, rkey_eq hn, e]
/-- The way down, at rest. -/
def dnAt (r : List Rw) (f t : ByteArray) (n : Nat) : ByteArray := if n = 0 then t else rkey (btw r f t).reverse (n - 1)
theorem rev_get {r : List Rw} {f t : ByteArray} {i : Nat} (h : i < (btw r f t).reverse.length) : ∃ h2 : rend r t - 1 - i < r.length, (btw r f t).reverse[i]'h = r[rend r t - 1 - i]'h2 := by
  have hl := btw_len r f t
  have := rend_le r t
  rw [List.length_reverse] at h
  refine ⟨by omega, ?_⟩
  rw [List.getElem_reverse]
  obtain ⟨h2, e⟩ := btw_get (r := r) (f := f) (t := t) (i := (btw r f t).length - 1 - i) (by omega)
  rw [e]
  congr 1
  omega
theorem dn_pos {r : List Rw} (hs : RSor r) (hz : Szs r) (f t : ByteArray) {n : Nat} (hn : n ≤ (btw r f t).length) : rend r (dnAt r f t n) = rend r t - n := by
  unfold dnAt
  split
  · subst n; rfl
  · have h : n - 1 < (btw r f t).reverse.length := by rw [List.length_reverse]; omega
    obtain ⟨h2, e⟩ := rev_get h
    rw [rkey_eq h, e, rend_self hs hz h2]
    omega
theorem dn_next {r : List Rw} (hs : RSor r) (hz : Szs r) (f t : ByteArray) {n : Nat} (hn : n ≤ (btw r f t).length) : nxD f r (dnAt r f t n) = (btw r f t).reverse[n]? := by
  have hl := btw_len r f t
  unfold nxD
  rw [dn_pos hs hz f t hn]
  by_cases h : n < (btw r f t).length
  · obtain ⟨h2, e⟩ := rev_get (r := r) (f := f) (t := t) (i := n) (by rw [List.length_reverse]; exact h)
    have e2 : rend r t - n - 1 = rend r t - 1 - n := by omega
    rw [if_pos (by omega), e2, List.getElem?_eq_getElem h2, List.getElem?_eq_getElem (by rw [List.length_reverse]; exact h), e]
  · rw [if_neg (by omega), List.getElem?_eq_none (by rw [List.length_reverse]; omega)]
theorem dn_step {r : List Rw} {f t : ByteArray} {n : Nat} {x : Rw} (h : (btw r f t).reverse[n]? = some x) : x.key = dnAt r f t (n + 1) ∧ n < (btw r f t).length := by
  obtain ⟨hn, e⟩ := List.getElem?_eq_some_iff.1 h
  refine ⟨?_, by rw [List.length_reverse] at hn; exact hn⟩
  unfold dnAt
  rw [if_neg (by omega), Nat.add_sub_cancel, rkey_eq hn, e]
/-- What First and Last say of the next. -/
theorem nxU_first {r : List Rw} (hs : RSor r) (t at_ : ByteArray) : (∃ x, nxU t r at_ = some x ∧ x ∈ r ∧ rpos r at_ < r.length ∧ rkey r (rpos r at_) = x.key ∧ (t.toList = [] ∨ kl x.key t = true) ∧ rhas r x.key = true ∧ rval r x.key = x.value) ∨
    (nxU t r at_ = none ∧ (¬ rpos r at_ < r.length ∨ (t.toList ≠ [] ∧ rpos r at_ < r.length ∧ kl (rkey r (rpos r at_)) t = false))) := by
  by_cases hp : rpos r at_ < r.length
  · have hk := rkey_eq hp
    have he := rend_iff hs (k := t) hp
    by_cases h : rpos r at_ < rend r t
    · rw [decide_eq_true h] at he
      have hps := rpos_self hs hp
      have hh : rhas r (r[rpos r at_]'hp).key = true := (rhas_iff _ _).2 ⟨by rw [hps]; exact hp, by simp only [hps]⟩
      refine .inl ⟨r[rpos r at_]'hp, ?_, List.getElem_mem hp, hp, hk, ?_, hh, ?_⟩
      · unfold nxU; rw [if_pos h, List.getElem?_eq_getElem hp]
      · rcases Bool.or_eq_true_iff.1 he with h1 | h1
        · exact .inl (of_decide_eq_true h1)
        · exact .inr h1
      · unfold rval
        rw [hh, if_pos rfl, hps, List.getElem?_eq_getElem hp]
        rfl
    · rw [decide_eq_false h, Bool.or_eq_false_iff] at he
      refine .inr ⟨by unfold nxU; rw [if_neg h], .inr ⟨of_decide_eq_false he.1, hp, by rw [hk]; exact he.2⟩⟩
  · refine .inr ⟨?_, .inl hp⟩
    have := rend_le r t
    unfold nxU
    rw [if_neg (by omega)]
theorem nxD_last {r : List Rw} (hs : RSor r) (f at_ : ByteArray) : (∃ x, nxD f r at_ = some x ∧ x ∈ r ∧ 0 < rend r at_ ∧ rkey r (rend r at_ - 1) = x.key ∧ kl x.key f = false ∧ rhas r x.key = true ∧ rval r x.key = x.value) ∨
    (nxD f r at_ = none ∧ (rend r at_ = 0 ∨ (0 < rend r at_ ∧ kl (rkey r (rend r at_ - 1)) f = true))) := by
  have hle := rend_le r at_
  by_cases hp : 0 < rend r at_
  · have hp2 : rend r at_ - 1 < r.length := by omega
    have hk := rkey_eq hp2
    have he := rpos_iff hs (k := f) hp2
    by_cases h : rpos r f < rend r at_
    · rw [decide_eq_false (by omega)] at he
      have hps := rpos_self hs hp2
      have hh : rhas r (r[rend r at_ - 1]'hp2).key = true := (rhas_iff _ _).2 ⟨by rw [hps]; exact hp2, by simp only [hps]⟩
      refine .inl ⟨r[rend r at_ - 1]'hp2, ?_, List.getElem_mem hp2, hp, hk, he, hh, ?_⟩
      · unfold nxD; rw [if_pos h, List.getElem?_eq_getElem hp2]
      · unfold rval
        rw [hh, if_pos rfl, hps, List.getElem?_eq_getElem hp2]
        rfl
    · rw [decide_eq_true (by omega)] at he
      exact .inr ⟨by unfold nxD; rw [if_neg h], .inr ⟨hp, by rw [hk]; exact he⟩⟩
  · exact .inr ⟨by unfold nxD; rw [if_neg (by omega)], .inl (by omega)⟩
/-- Between, row by row. -/
theorem btw_take {r : List Rw} {p q i : Nat} (hi : i < r.length) : ((r.take (i + 1)).take q).drop p = ((r.take i).take q).drop p ++ if p ≤ i ∧ i < q then [r[i]'hi] else [] := by
  rw [List.take_take, List.take_take]
  by_cases hq : i < q
  · rw [show min q (i + 1) = i + 1 by omega, show min q i = i by omega, List.take_succ_eq_append_getElem hi]
    by_cases hp : p ≤ i
    · rw [if_pos ⟨hp, hq⟩, List.drop_append_of_le_length (by rw [List.length_take]; omega)]
    · rw [if_neg (fun h => hp h.1), List.append_nil, List.drop_eq_nil_of_le (by rw [List.length_append, List.length_take, List.length_singleton]; omega), List.drop_eq_nil_of_le (by rw [List.length_take]; omega)]
  · rw [show min q (i + 1) = q by omega, show min q i = q by omega, if_neg (fun h => hq h.2), List.append_nil]
end Go.Proofs.Ytgakkeeeadndkaa
