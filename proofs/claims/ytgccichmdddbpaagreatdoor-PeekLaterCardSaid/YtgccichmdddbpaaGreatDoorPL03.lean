/-
  Layer 9, plain: keys in their order, with values, on steps; what stands behind what on a step.
  Layer 9: how the code's list lies in memory: a block for the list, one for the head, one for each key.
-/
import Derived.Test.YtgccichmdddbpaaGreatDoorPL01
import Derived.Lib.IndexBytes
set_option linter.unusedVariables false
namespace Go.Proofs.YtgccichmdddbpaaGreatDoor
open Go.RowKit

/-! ### the order of keys -/
def kl (a b : ByteArray) : Bool := Op.bytesLess a.toList b.toList
theorem kb_irr : ∀ l : List UInt8, Op.bytesLess l l = false
  | [] => rfl
  | a :: l => by simp [Op.bytesLess, kb_irr l]
theorem kb_trans : ∀ {x y z : List UInt8}, Op.bytesLess x y = true → Op.bytesLess y z = true → Op.bytesLess x z = true
  | _, [], _, h, _ => by cases ‹List UInt8› <;> simp [Op.bytesLess] at h
  | _, _ :: _, [], _, h => by simp [Op.bytesLess] at h
  | [], _ :: _, _ :: _, _, _ => rfl
  | a :: x, b :: y, c :: z, h1, h2 => by
    simp only [Op.bytesLess, Bool.or_eq_true, decide_eq_true_eq, Bool.and_eq_true, beq_iff_eq] at *
    rcases h1 with h1 | ⟨rfl, h1⟩
    · rcases h2 with h2 | ⟨rfl, _⟩
      · exact .inl (UInt8.lt_trans h1 h2)
      · exact .inl h1
    · rcases h2 with h2 | ⟨rfl, h2⟩
      · exact .inl h2
      · exact .inr ⟨rfl, kb_trans h1 h2⟩
theorem kb_total : ∀ {x y : List UInt8}, Op.bytesLess x y = false → Op.bytesLess y x = false → x = y
  | [], [], _, _ => rfl
  | [], _ :: _, h, _ => by simp [Op.bytesLess] at h
  | _ :: _, [], _, h => by simp [Op.bytesLess] at h
  | a :: x, b :: y, h1, h2 => by
    simp only [Op.bytesLess, Bool.or_eq_false_iff, decide_eq_false_iff_not, Bool.and_eq_false_iff, beq_eq_false_iff_ne] at h1 h2
    have e : a = b := UInt8.le_antisymm (UInt8.not_lt.1 h2.1) (UInt8.not_lt.1 h1.1)
    subst e
    rw [kb_total (h1.2.resolve_left (by simp)) (h2.2.resolve_left (by simp))]
theorem ktoList_inj {s t : ByteArray} (h : s.toList = t.toList) : s = t := by
  rw [Lib.toList_data, Lib.toList_data] at h
  cases s; cases t
  simp only [ByteArray.mk.injEq]
  exact Array.ext' h
theorem kl_irr (a : ByteArray) : kl a a = false := kb_irr _
theorem kl_trans {a b c : ByteArray} (h1 : kl a b = true) (h2 : kl b c = true) : kl a c = true := kb_trans h1 h2
theorem kl_total {a b : ByteArray} (h1 : kl a b = false) (h2 : kl b a = false) : a = b := ktoList_inj (kb_total h1 h2)
theorem kl_asym {a b : ByteArray} (h : kl a b = true) : kl b a = false := by
  cases h2 : kl b a with
  | false => rfl
  | true => exact absurd (kl_trans h h2) (by rw [kl_irr]; decide)
theorem kbeq (s t : ByteArray) : (s.toList == t.toList) = decide (s = t) := by
  by_cases h : s = t
  · subst h; simp
  · rw [decide_eq_false h]
    exact beq_eq_false_iff_ne.2 (fun e => h (ktoList_inj e))
/-! ### keys, values, steps -/
structure Kv where
  key : ByteArray
  val : Value
  st : Nat
def Sor (l : List Kv) : Prop := l.Pairwise (fun a b => kl a.key b.key = true)
def kpos (l : List Kv) (k : ByteArray) : Nat := (l.takeWhile (fun x => kl x.key k)).length
def khas (l : List Kv) (k : ByteArray) : Bool := match l[kpos l k]? with | some x => decide (x.key = k) | none => false
def stAt (l : List Kv) (n : Nat) : Nat := (l[n]?.map Kv.st).getD 0
def kput (l : List Kv) (k : ByteArray) (v : Value) (s : Nat) : List Kv :=
  if khas l k then l.set (kpos l k) ⟨k, v, stAt l (kpos l k)⟩ else l.take (kpos l k) ++ ⟨k, v, s⟩ :: l.drop (kpos l k)
def kdrop (l : List Kv) (k : ByteArray) : List Kv := if khas l k then l.take (kpos l k) ++ l.drop (kpos l k + 1) else l
def kval (z : Value) (l : List Kv) (k : ByteArray) : Value := if khas l k then (l[kpos l k]?.map Kv.val).getD z else z
def ksteps (l : List Kv) (k : ByteArray) : Nat := if khas l k then stAt l (kpos l k) else 0
def keyAt (l : List Kv) (n : Nat) : ByteArray := (l[n]?.map Kv.key).getD ⟨#[]⟩
theorem kpos_le (l : List Kv) (k : ByteArray) : kpos l k ≤ l.length := by
  unfold kpos
  induction l with
  | nil => simp
  | cons a l ih =>
    rw [List.takeWhile_cons]
    split
    · simp only [List.length_cons]; omega
    · simp
theorem kpos_lt {l : List Kv} {k : ByteArray} {i : Nat} (h : i < kpos l k) : ∃ hi : i < l.length, kl (l[i]'hi).key k = true := by
  refine ⟨Nat.lt_of_lt_of_le h (kpos_le l k), ?_⟩
  induction l generalizing i with
  | nil => exact absurd h (by simp [kpos])
  | cons a l ih =>
    by_cases ha : kl a.key k = true
    · cases i with
      | zero => exact ha
      | succ i =>
        simp only [kpos, List.takeWhile_cons, ha, if_true, List.length_cons] at h
        exact ih (i := i) (by unfold kpos; omega)
    · simp only [kpos, List.takeWhile_cons, ha] at h
      simp at h
theorem kpos_at {l : List Kv} {k : ByteArray} (h : kpos l k < l.length) : kl (l[kpos l k]'h).key k = false := by
  induction l with
  | nil => exact absurd h (by simp)
  | cons a l ih =>
    unfold kpos at h ih ⊢
    by_cases ha : kl a.key k = true
    · simp only [List.takeWhile_cons, ha, if_true, List.length_cons] at h ⊢
      exact ih (by omega)
    · simp only [List.takeWhile_cons, ha] at h ⊢
      simpa using ha
theorem kpos_ge {l : List Kv} (hs : Sor l) {k : ByteArray} {i : Nat} (h : kpos l k ≤ i) (hi : i < l.length) : kl (l[i]'hi).key k = false := by
  have h0 := kpos_at (k := k) (l := l) (by omega)
  by_cases e : i = kpos l k
  · subst e
    exact h0
  · have hp := List.pairwise_iff_getElem.1 hs (kpos l k) i (by omega) hi (by omega)
    cases h2 : kl (l[i]'hi).key k with
    | false => rfl
    | true => exact absurd (kl_trans hp h2) (by rw [h0]; decide)
theorem kpos_eq {l : List Kv} {k : ByteArray} {n : Nat} (hn : n ≤ l.length) (h1 : ∀ i (hi : i < l.length), i < n → kl (l[i]'hi).key k = true) (h2 : ∀ hn : n < l.length, kl (l[n]'hn).key k = false) : kpos l k = n := by
  rcases Nat.lt_trichotomy (kpos l k) n with h | h | h
  · have := kpos_at (k := k) (l := l) (by omega)
    rw [h1 _ (by omega) h] at this
    cases this
  · exact h
  · obtain ⟨hi, hk⟩ := kpos_lt h
    rw [h2 hi] at hk
    cases hk
theorem khas_iff (l : List Kv) (k : ByteArray) : khas l k = true ↔ ∃ h : kpos l k < l.length, (l[kpos l k]'h).key = k := by
  unfold khas
  by_cases h : kpos l k < l.length
  · rw [List.getElem?_eq_getElem h]
    simp [h]
  · rw [List.getElem?_eq_none (by omega)]
    simp [h]
theorem khas_at {l : List Kv} {k : ByteArray} (h : kpos l k < l.length) : khas l k = decide ((l[kpos l k]'h).key = k) := by
  unfold khas
  rw [List.getElem?_eq_getElem h]
theorem khas_end {l : List Kv} {k : ByteArray} (h : l.length ≤ kpos l k) : khas l k = false := by
  unfold khas
  rw [List.getElem?_eq_none h]
theorem stAt_eq {l : List Kv} {n : Nat} (h : n < l.length) : stAt l n = (l[n]'h).st := by unfold stAt; rw [List.getElem?_eq_getElem h]; rfl
theorem keyAt_eq {l : List Kv} {n : Nat} (h : n < l.length) : keyAt l n = (l[n]'h).key := by unfold keyAt; rw [List.getElem?_eq_getElem h]; rfl
theorem kval_eq {z : Value} {l : List Kv} {k : ByteArray} (h : kpos l k < l.length) (hh : khas l k = true) : kval z l k = (l[kpos l k]'h).val := by unfold kval; rw [hh, List.getElem?_eq_getElem h]; rfl
theorem Sor.take {l : List Kv} (h : Sor l) (n : Nat) : Sor (l.take n) := List.Pairwise.sublist (List.take_sublist _ _) h
theorem Sor.drop {l : List Kv} (h : Sor l) (n : Nat) : Sor (l.drop n) := List.Pairwise.sublist (List.drop_sublist _ _) h
theorem Sor.put {l : List Kv} (h : Sor l) (k : ByteArray) (v : Value) (s : Nat) : Sor (kput l k v s) := by
  unfold kput
  by_cases hh : khas l k = true
  · obtain ⟨h1, h2⟩ := (khas_iff l k).1 hh
    rw [if_pos hh]
    refine List.pairwise_iff_getElem.2 fun i j hi hj hij => ?_
    rw [List.length_set] at hi hj
    have hp := List.pairwise_iff_getElem.1 h i j hi hj hij
    simp only [List.getElem_set]
    split
    · rename_i e
      subst e
      rw [if_neg (by omega)]
      rw [h2] at hp
      exact hp
    · split
      · rename_i e
        subst e
        rw [h2] at hp
        exact hp
      · exact hp
  · rw [if_neg hh]
    have hle := kpos_le l k
    refine List.pairwise_append.2 ⟨h.take _, List.pairwise_cons.2 ⟨fun b hb => ?_, h.drop _⟩, fun a ha b hb => ?_⟩
    · obtain ⟨i, hi, rfl⟩ := List.mem_iff_getElem.1 hb
      rw [List.length_drop] at hi
      rw [List.getElem_drop]
      have h1 := kpos_ge h (k := k) (i := kpos l k + i) (by omega) (by omega)
      cases h2 : kl k (l[kpos l k + i]'(by omega)).key with
      | true => rfl
      | false =>
        exfalso
        have e := kl_total h1 h2
        have hlt : kpos l k < l.length := by omega
        cases i with
        | zero => exact hh ((khas_iff l k).2 ⟨hlt, e⟩)
        | succ i =>
          have hp := List.pairwise_iff_getElem.1 h (kpos l k) (kpos l k + (i + 1)) hlt (by omega) (by omega)
          rw [e] at hp
          rw [kpos_at hlt] at hp
          cases hp
    · obtain ⟨i, hi, rfl⟩ := List.mem_iff_getElem.1 ha
      rw [List.length_take] at hi
      rw [List.getElem_take]
      obtain ⟨hi2, hk⟩ := kpos_lt (l := l) (k := k) (i := i) (by omega)
      rcases List.mem_cons.1 hb with rfl | hb
      · exact hk
      · obtain ⟨j, hj, rfl⟩ := List.mem_iff_getElem.1 hb
        rw [List.length_drop] at hj
        rw [List.getElem_drop]
        exact List.pairwise_iff_getElem.1 h i (kpos l k + j) hi2 (by omega) (by omega)
theorem Sor.dropk {l : List Kv} (h : Sor l) (k : ByteArray) : Sor (kdrop l k) := by
  unfold kdrop
  split
  · refine List.Pairwise.sublist ?_ h
    have : l.take (kpos l k) ++ l.drop (kpos l k + 1) = l.eraseIdx (kpos l k) := (List.eraseIdx_eq_take_drop_succ l _).symm
    rw [this]
    exact List.eraseIdx_sublist _ _
  · exact h

/-! ### what stands behind what, on the step m (numbers from 0): addresses and steps -/
abbrev Sh := List (Nat × Nat)
def nx (m : Nat) (S : Sh) : Option Nat := (S.find? (fun x => decide (m < x.2))).map (·.1)
def la (m : Nat) : Sh → Nat
  | [] => 0
  | x :: S => if S.any (fun y => decide (m < y.2)) then la m S else x.1
def Ck (m : Nat) : Sh → (Nat → Option Nat) → Prop
  | [], _ => True
  | x :: S, g => (m < x.2 → g x.1 = nx m S) ∧ Ck m S g
def on (m : Nat) (S : Sh) : Bool := S.any (fun y => decide (m < y.2))
theorem nx_app_on {m : Nat} {A B : Sh} (h : on m A = true) : nx m (A ++ B) = nx m A := by
  unfold nx
  rw [List.find?_append]
  cases hf : A.find? (fun x => decide (m < x.2)) with
  | some x => rfl
  | none =>
    rw [List.find?_eq_none] at hf
    unfold on at h
    rw [List.any_eq_true] at h
    obtain ⟨x, hx, e⟩ := h
    exact absurd e (hf x hx)
theorem nx_app_off {m : Nat} {A B : Sh} (h : on m A = false) : nx m (A ++ B) = nx m B := by
  unfold nx
  rw [List.find?_append]
  have : A.find? (fun x => decide (m < x.2)) = none := List.find?_eq_none.2 (fun x hx e => by
    unfold on at h
    rw [List.any_eq_false] at h
    exact h x hx e)
  rw [this]
  rfl
theorem nx_cons {m : Nat} {x : Nat × Nat} {B : Sh} (h : m < x.2) : nx m (x :: B) = some x.1 := by
  unfold nx
  rw [List.find?_cons_of_pos (by simpa using h)]
  rfl
theorem nx_skip {m : Nat} {x : Nat × Nat} {B : Sh} (h : ¬ m < x.2) : nx m (x :: B) = nx m B := by
  unfold nx
  rw [List.find?_cons_of_neg (by simpa using h)]
theorem nx_mid {m : Nat} {A : Sh} {x : Nat × Nat} {B : Sh} (h : ¬ m < x.2) : nx m (A ++ x :: B) = nx m (A ++ B) := by
  cases ho : on m A with
  | true => rw [nx_app_on ho, nx_app_on ho]
  | false => rw [nx_app_off ho, nx_app_off ho, nx_skip h]
theorem la_mem {m : Nat} {S : Sh} (h : S ≠ []) : la m S ∈ S.map (·.1) := by
  induction S with
  | nil => exact absurd rfl h
  | cons x S ih =>
    unfold la
    split
    · rename_i h2
      refine List.mem_cons_of_mem _ (ih (fun e => ?_))
      subst e
      simp at h2
    · simp
theorem la_cons_on {m : Nat} {x : Nat × Nat} {S : Sh} (h : on m S = true) : la m (x :: S) = la m S := by
  show (if on m S then _ else _) = _
  rw [if_pos h]
theorem la_cons_off {m : Nat} {x : Nat × Nat} {S : Sh} (h : on m S = false) : la m (x :: S) = x.1 := by
  show (if on m S then _ else _) = _
  rw [if_neg (by rw [h]; decide)]
theorem on_ne {m : Nat} {S : Sh} (h : on m S = true) : S ≠ [] := fun e => by subst e; cases h
theorem ck_right {m : Nat} {A B : Sh} {g : Nat → Option Nat} (h : Ck m (A ++ B) g) : Ck m B g := by
  induction A with
  | nil => exact h
  | cons x A ih => exact ih h.2
theorem ck_congr {m : Nat} {S : Sh} {g g' : Nat → Option Nat} (h : Ck m S g) (e : ∀ x ∈ S, m < x.2 → g' x.1 = g x.1) : Ck m S g' := by
  induction S with
  | nil => trivial
  | cons x S ih => exact ⟨fun hm => (e x (by simp) hm).trans (h.1 hm), ih h.2 (fun y hy => e y (List.mem_cons_of_mem _ hy))⟩
theorem ck_get {m : Nat} {S : Sh} {g : Nat → Option Nat} (h : Ck m S g) {j : Nat} (hj : j < S.length) (hm : m < (S[j]'hj).2) : g (S[j]'hj).1 = nx m (S.drop (j + 1)) := by
  induction S generalizing j with
  | nil => exact absurd hj (by simp)
  | cons x S ih =>
    cases j with
    | zero => exact h.1 hm
    | succ j => exact ih h.2 (by simpa using hj) hm
/-- What the last one of A on the step points to. -/
theorem ck_la {m : Nat} {A B : Sh} {g : Nat → Option Nat} (h : Ck m (A ++ B) g) (ho : on m A = true) : g (la m A) = nx m B := by
  induction A with
  | nil => cases ho
  | cons x A ih =>
    cases h2 : on m A with
    | true => rw [la_cons_on h2]; exact ih h.2 h2
    | false =>
      rw [la_cons_off h2]
      have hx : m < x.2 := by
        have e : on m (x :: A) = (decide (m < x.2) || on m A) := rfl
        rw [e, h2, Bool.or_false] at ho
        exact of_decide_eq_true ho
      exact (h.1 hx).trans (nx_app_off h2)
theorem ck_mid {m : Nat} {A : Sh} {x : Nat × Nat} {B : Sh} {g : Nat → Option Nat} (hx : ¬ m < x.2) : Ck m (A ++ x :: B) g ↔ Ck m (A ++ B) g := by
  induction A with
  | nil => exact ⟨fun h => h.2, fun h => ⟨fun e => absurd e hx, h⟩⟩
  | cons y A ih =>
    constructor
    · intro h
      exact ⟨fun e => (h.1 e).trans (nx_mid hx), ih.1 h.2⟩
    · intro h
      exact ⟨fun e => (h.1 e).trans (nx_mid hx).symm, ih.2 h.2⟩
theorem ck_ins {m : Nat} {A B : Sh} {n : Nat × Nat} {g : Nat → Option Nat} (h : Ck m (A ++ B) g) (ho : on m A = true) (hn : m < n.2) (hd : ((A ++ B).map (·.1)).Nodup) (hnn : n.1 ∉ (A ++ B).map (·.1)) :
    Ck m (A ++ n :: B) (fun a => if a = n.1 then g (la m A) else if a = la m A then some n.1 else g a) := by
  obtain ⟨c, hc⟩ : ∃ c, la m A = c := ⟨_, rfl⟩
  rw [hc]
  have hB : g c = nx m B := hc ▸ ck_la h ho
  induction A with
  | nil => cases ho
  | cons x A ih =>
    have hd2 : x.1 ∉ (A ++ B).map (·.1) ∧ ((A ++ B).map (·.1)).Nodup := by simpa using hd
    have hxn : x.1 ≠ n.1 := fun e => hnn (by rw [← e]; simp)
    cases h2 : on m A with
    | true =>
      rw [la_cons_on h2] at hc
      have hcm : c ∈ (A ++ B).map (·.1) := by
        rw [← hc, List.map_append]
        exact List.mem_append_left _ (la_mem (on_ne h2))
      refine ⟨fun hx => ?_, ih h.2 h2 hd2.2 (fun e => hnn (List.mem_cons_of_mem _ e)) hc⟩
      show (if x.1 = n.1 then _ else if x.1 = c then _ else _) = _
      rw [if_neg hxn, if_neg (fun (e : x.1 = c) => hd2.1 (e ▸ hcm))]
      exact ((h.1 hx).trans (nx_app_on h2)).trans (nx_app_on h2).symm
    | false =>
      rw [la_cons_off h2] at hc
      subst hc
      have hx : m < x.2 := by
        have e : on m (x :: A) = (decide (m < x.2) || on m A) := rfl
        rw [e, h2, Bool.or_false] at ho
        exact of_decide_eq_true ho
      refine ⟨fun _ => ?_, ?_⟩
      · show (if x.1 = n.1 then _ else if x.1 = x.1 then _ else _) = nx m (A ++ n :: B)
        rw [if_neg hxn, if_pos rfl, nx_app_off h2, nx_cons hn]
      · have hr : Ck m (n :: B) (fun a => if a = n.1 then g x.1 else if a = x.1 then some n.1 else g a) := by
          refine ⟨fun _ => ?_, ck_congr (ck_right h.2) (fun y hy hm => ?_)⟩
          · show (if n.1 = n.1 then _ else _) = _
            rw [if_pos rfl, hB]
          · have hy1 : y.1 ∈ (A ++ B).map (·.1) := List.mem_map.2 ⟨y, List.mem_append_right _ hy, rfl⟩
            show (if y.1 = n.1 then _ else _) = _
            rw [if_neg (fun (e : y.1 = n.1) => hnn (List.mem_cons_of_mem _ (e ▸ hy1))), if_neg (fun (e : y.1 = x.1) => hd2.1 (e ▸ hy1))]
        clear ih hd hnn ho h hd2
        show Ck m (A ++ n :: B) _
        generalize (fun a => if a = n.1 then g x.1 else if a = x.1 then some n.1 else g a) = g' at *
        induction A with
        | nil => exact hr
        | cons y A ih2 =>
          have e : on m (y :: A) = (decide (m < y.2) || on m A) := rfl
          rw [e, Bool.or_eq_false_iff] at h2
          exact ⟨fun hy => absurd hy (of_decide_eq_false h2.1), ih2 h2.2⟩
theorem ck_del {m : Nat} {A B : Sh} {x : Nat × Nat} {g : Nat → Option Nat} (h : Ck m (A ++ x :: B) g) (ho : on m A = true) (hx : m < x.2) (hd : ((A ++ x :: B).map (·.1)).Nodup) :
    Ck m (A ++ B) (fun a => if a = la m A then g x.1 else g a) := by
  obtain ⟨c, hc⟩ : ∃ c, la m A = c := ⟨_, rfl⟩
  rw [hc]
  have hgx : g x.1 = nx m B := (ck_right h).1 hx
  induction A with
  | nil => cases ho
  | cons y A ih =>
    have hd2 : y.1 ∉ (A ++ x :: B).map (·.1) ∧ ((A ++ x :: B).map (·.1)).Nodup := by simpa using hd
    cases h2 : on m A with
    | true =>
      rw [la_cons_on h2] at hc
      have hcm : c ∈ (A ++ x :: B).map (·.1) := by
        rw [← hc, List.map_append]
        exact List.mem_append_left _ (la_mem (on_ne h2))
      refine ⟨fun hy => ?_, ih h.2 h2 hd2.2 hc⟩
      show (if y.1 = c then _ else _) = _
      rw [if_neg (fun (e : y.1 = c) => hd2.1 (e ▸ hcm))]
      exact ((h.1 hy).trans (nx_app_on h2)).trans (nx_app_on h2).symm
    | false =>
      rw [la_cons_off h2] at hc
      subst hc
      refine ⟨fun _ => ?_, ?_⟩
      · show (if y.1 = y.1 then _ else _) = _
        rw [if_pos rfl, hgx]
        exact (nx_app_off h2).symm
      · have hr : Ck m B (fun a => if a = y.1 then g x.1 else g a) := by
          refine ck_congr (ck_right h.2).2 (fun z hz hm => ?_)
          have hz1 : z.1 ∈ (A ++ x :: B).map (·.1) := List.mem_map.2 ⟨z, List.mem_append_right _ (List.mem_cons_of_mem _ hz), rfl⟩
          show (if z.1 = y.1 then _ else _) = _
          rw [if_neg (fun (e : z.1 = y.1) => hd2.1 (e ▸ hz1))]
        clear ih hd ho h hd2
        show Ck m (A ++ B) _
        generalize (fun a => if a = y.1 then g x.1 else g a) = g' at *
        induction A with
        | nil => exact hr
        | cons z A ih2 =>
          have e : on m (z :: A) = (decide (m < z.2) || on m A) := rfl
          rw [e, Bool.or_eq_false_iff] at h2
          exact ⟨fun hz => absurd hz (of_decide_eq_false h2.1), ih2 h2.2⟩
/-! ### the search -/
theorem nx_none {m : Nat} {S : Sh} (h : nx m S = none) : on m S = false := by
  cases ho : on m S with
  | false => rfl
  | true =>
    unfold on at ho
    rw [List.any_eq_true] at ho
    obtain ⟨x, hx, e⟩ := ho
    unfold nx at h
    rw [Option.map_eq_none_iff, List.find?_eq_none] at h
    exact absurd e (h x hx)
theorem nx_some {m a : Nat} {S : Sh} (h : nx m S = some a) : ∃ i, ∃ hi : i < S.length, (S[i]'hi).1 = a ∧ m < (S[i]'hi).2 ∧ ∀ j (hj : j < S.length), j < i → ¬ m < (S[j]'hj).2 := by
  induction S with
  | nil => cases h
  | cons x S ih =>
    by_cases hx : m < x.2
    · rw [nx_cons hx] at h
      injection h with h
      exact ⟨0, by simp, h, hx, fun j _ hj => absurd hj (by omega)⟩
    · rw [nx_skip hx] at h
      obtain ⟨i, hi, h1, h2, h3⟩ := ih h
      refine ⟨i + 1, by simpa using hi, h1, h2, fun j hj hji => ?_⟩
      cases j with
      | zero => exact hx
      | succ j => exact h3 j (by simpa using hj) (by omega)
theorem on_take {m : Nat} {S : Sh} {p : Nat} (h : ∀ j (hj : j < S.length), j < p → ¬ m < (S[j]'hj).2) : on m (S.take p) = false := by
  unfold on
  rw [List.any_eq_false]
  intro x hx e
  obtain ⟨j, hj, rfl⟩ := List.mem_iff_getElem.1 hx
  rw [List.length_take] at hj
  rw [List.getElem_take] at e
  exact h j (by omega) (by omega) (of_decide_eq_true e)
theorem la_at {m : Nat} {S : Sh} {j p : Nat} (hj : j < S.length) (hp : j ≤ p) (hm : m < (S[j]'hj).2) (h : ∀ i (hi : i < S.length), j < i → i ≤ p → ¬ m < (S[i]'hi).2) : la m (S.take (p + 1)) = (S[j]'hj).1 := by
  induction S generalizing j p with
  | nil => exact absurd hj (by simp)
  | cons x S ih =>
    rw [List.take_succ_cons]
    cases j with
    | zero =>
      rw [la_cons_off]
      · rfl
      · exact on_take (fun i hi hip => h (i + 1) (by simpa using hi) (by omega) (by omega))
    | succ j =>
      obtain ⟨p, rfl⟩ : ∃ q, p = q + 1 := ⟨p - 1, by omega⟩
      have hj' : j < S.length := by simpa using hj
      rw [la_cons_on]
      · exact ih hj' (by omega) hm (fun i hi h1 h2 => h (i + 1) (by simpa using hi) (by omega) (by omega))
      · unfold on
        rw [List.any_eq_true]
        exact ⟨S[j], List.mem_iff_getElem.2 ⟨j, by rw [List.length_take]; omega, List.getElem_take⟩, by simpa using hm⟩
end Go.Proofs.YtgccichmdddbpaaGreatDoor
set_option linter.unusedVariables false
namespace Go.Proofs.YtgccichmdddbpaaGreatDoor
open Go.RowKit

abbrev Nd := Nat × Kv
def pp : Option Nat → Value
  | none => .pointer none
  | some a => pt a
def nodeC (k : ByteArray) (v : Value) (s : Int) (f : Nat → Option Nat) : Array Value :=
  #[.string k, v, .int .i64 s, pp (f 0), pp (f 1), pp (f 2), pp (f 3), pp (f 4), pp (f 5), pp (f 6), pp (f 7), pp (f 8), pp (f 9), pp (f 10), pp (f 11), pp (f 12), pp (f 13), pp (f 14), pp (f 15)]
/-- The sixteen ways as one value, as an array's cells. -/
def waysC (f : Nat → Value) : Array Value := #[f 0, f 1, f 2, f 3, f 4, f 5, f 6, f 7, f 8, f 9, f 10, f 11, f 12, f 13, f 14, f 15]
theorem six16 {i : Nat} (h : i < 16) : i = 0 ∨ i = 1 ∨ i = 2 ∨ i = 3 ∨ i = 4 ∨ i = 5 ∨ i = 6 ∨ i = 7 ∨ i = 8 ∨ i = 9 ∨ i = 10 ∨ i = 11 ∨ i = 12 ∨ i = 13 ∨ i = 14 ∨ i = 15 := by omega
theorem nodeC_get (k : ByteArray) (v : Value) (s : Int) (f : Nat → Option Nat) {i : Nat} (h : i < 16) : (nodeC k v s f)[3 + i]? = some (pp (f i)) := by
  rcases six16 h with rfl | rfl | rfl | rfl | rfl | rfl | rfl | rfl | rfl | rfl | rfl | rfl | rfl | rfl | rfl | rfl <;> rfl
theorem nodeC_set (k : ByteArray) (v : Value) (s : Int) (f : Nat → Option Nat) {i : Nat} (h : i < 16) (x : Option Nat) : (nodeC k v s f).setIfInBounds (3 + i) (pp x) = nodeC k v s (fun m => if m = i then x else f m) := by
  rcases six16 h with rfl | rfl | rfl | rfl | rfl | rfl | rfl | rfl | rfl | rfl | rfl | rfl | rfl | rfl | rfl | rfl <;> rfl
theorem waysC_get (f : Nat → Value) {i : Nat} (h : i < 16) : (waysC f)[i]? = some (f i) := by
  rcases six16 h with rfl | rfl | rfl | rfl | rfl | rfl | rfl | rfl | rfl | rfl | rfl | rfl | rfl | rfl | rfl | rfl <;> rfl
theorem waysC_set (f : Nat → Value) {i : Nat} (h : i < 16) (x : Value) : (waysC f).setIfInBounds i x = waysC (fun m => if m = i then x else f m) := by
  rcases six16 h with rfl | rfl | rfl | rfl | rfl | rfl | rfl | rfl | rfl | rfl | rfl | rfl | rfl | rfl | rfl | rfl <;> rfl
theorem nodeC_congr (k : ByteArray) (v : Value) (s : Int) {f g : Nat → Option Nat} (h : ∀ m, m < 16 → f m = g m) : nodeC k v s f = nodeC k v s g := by
  unfold nodeC
  rw [h 0 (by omega), h 1 (by omega), h 2 (by omega), h 3 (by omega), h 4 (by omega), h 5 (by omega), h 6 (by omega), h 7 (by omega), h 8 (by omega), h 9 (by omega), h 10 (by omega), h 11 (by omega), h 12 (by omega), h 13 (by omega), h 14 (by omega), h 15 (by omega)]
theorem waysC_congr {f g : Nat → Value} (h : ∀ m, m < 16 → f m = g m) : waysC f = waysC g := by
  unfold waysC
  rw [h 0 (by omega), h 1 (by omega), h 2 (by omega), h 3 (by omega), h 4 (by omega), h 5 (by omega), h 6 (by omega), h 7 (by omega), h 8 (by omega), h 9 (by omega), h 10 (by omega), h 11 (by omega), h 12 (by omega), h 13 (by omega), h 14 (by omega), h 15 (by omega)]

def sh (h : Nat) (L : List Nd) : Sh := (h, 16) :: L.map (fun x => (x.1, x.2.st))
theorem sh_len (h : Nat) (L : List Nd) : (sh h L).length = L.length + 1 := by simp [sh]
theorem sh_get (h : Nat) (L : List Nd) {i : Nat} (hi : i < L.length) : (sh h L)[i + 1]'(by rw [sh_len]; omega) = ((L[i]'hi).1, (L[i]'hi).2.st) := by simp [sh]
theorem sh_take (h : Nat) (L : List Nd) (p : Nat) : (sh h L).take (p + 1) = sh h (L.take p) := by simp [sh, List.map_take]
theorem sh_drop (h : Nat) (L : List Nd) (p : Nat) : (sh h L).drop (p + 1) = (L.drop p).map (fun x => (x.1, x.2.st)) := by simp [sh, List.map_drop]
theorem sh_on {m : Nat} (hm : m < 16) (h : Nat) (L : List Nd) : on m (sh h L) = true := by
  unfold on sh
  rw [List.any_cons, decide_eq_true hm]
  rfl

/-- The blocks. -/
structure SkW (TL TI : TypeId) (z : Value) (V : World) (q h : Nat) (cnt : Nat) (L : List Nd) (g : Nat → Nat → Option Nat) : Prop where
  obj : Blk V q TL #[pt h, .int .i64 (cnt : Int)]
  head : Blk V h TI (nodeC ⟨#[]⟩ z 0 (fun m => g m h))
  node : ∀ x ∈ L, Blk V x.1 TI (nodeC x.2.key x.2.val (x.2.st : Int) (fun m => g m x.1))
  ne : (q :: h :: L.map (·.1)).Nodup
/-- The whole. -/
structure SkR (TL TI : TypeId) (z : Value) (V : World) (q h : Nat) (L : List Nd) (g : Nat → Nat → Option Nat) : Prop where
  mem : SkW TL TI z V q h L.length L g
  ck : ∀ m, m < 16 → Ck m (sh h L) (g m)
  st : ∀ x ∈ L, 1 ≤ x.2.st ∧ x.2.st ≤ 16
  sor : Sor (L.map (·.2))
def skF (q h : Nat) (L : List Nd) : Nat → Prop := fun k => k = q ∨ k = h ∨ k ∈ L.map (·.1)
section
variable {TL TI : TypeId} {z : Value} {V V' : World} {q h cnt : Nat} {L : List Nd} {g : Nat → Nat → Option Nat}
theorem SkW.on (hM : SkW TL TI z V q h cnt L g) (hk : ∀ k, skF q h L k → V'.heap[k]? = V.heap[k]?) : SkW TL TI z V' q h cnt L g :=
  ⟨(hk q (.inl rfl)).trans hM.obj, (hk h (.inr (.inl rfl))).trans hM.head, fun x hx => (hk x.1 (.inr (.inr (List.mem_map.2 ⟨x, hx, rfl⟩)))).trans (hM.node x hx), hM.ne⟩
theorem SkW.lt (hM : SkW TL TI z V q h cnt L g) {k : Nat} (e : skF q h L k) : k < V.heap.size := by
  rcases e with rfl | rfl | e
  · exact hM.obj.lt
  · exact hM.head.lt
  · obtain ⟨x, hx, rfl⟩ := List.mem_map.1 e
    exact (hM.node x hx).lt
theorem SkW.qh (hM : SkW TL TI z V q h cnt L g) : q ≠ h := fun e => by
  have := hM.ne
  rw [List.nodup_cons] at this
  exact this.1 (by rw [e]; simp)
theorem SkW.qL (hM : SkW TL TI z V q h cnt L g) {a : Nat} (ha : a ∈ L.map (·.1)) : a ≠ q := fun e => by
  have := hM.ne
  rw [List.nodup_cons] at this
  exact this.1 (by rw [← e]; exact List.mem_cons_of_mem _ ha)
theorem SkW.hL (hM : SkW TL TI z V q h cnt L g) {a : Nat} (ha : a ∈ L.map (·.1)) : a ≠ h := fun e => by
  have := hM.ne
  rw [List.nodup_cons, List.nodup_cons] at this
  exact this.2.1 (by rw [← e]; exact ha)
theorem SkW.nd (hM : SkW TL TI z V q h cnt L g) : ((sh h L).map (·.1)).Nodup := by
  have := hM.ne
  rw [List.nodup_cons] at this
  have e : (sh h L).map (·.1) = h :: L.map (·.1) := by simp [sh]
  rw [e]
  exact this.2
theorem SkW.next (hM : SkW TL TI z V q h cnt L g) {a : Nat} (ha : a = h ∨ a ∈ L.map (·.1)) {i : Nat} (hi : i < 16) : V.cell? ⟨a, 3 + i, none⟩ = some (pp (g i a)) := by
  rcases ha with rfl | ha
  · rw [hM.head.cell, nodeC_get _ _ _ _ hi]
  · obtain ⟨x, hx, rfl⟩ := List.mem_map.1 ha
    rw [(hM.node x hx).cell, nodeC_get _ _ _ _ hi]
theorem SkW.free (hM : SkW TL TI z V q h cnt L g) {a : Nat} (ha : a = h ∨ a ∈ L.map (·.1)) (i : Nat) : V.frozen? ⟨a, i, none⟩ = false := by
  rcases ha with rfl | ha
  · exact hM.head.frozen i
  · obtain ⟨x, hx, rfl⟩ := List.mem_map.1 ha
    exact (hM.node x hx).frozen i
theorem SkW.key (hM : SkW TL TI z V q h cnt L g) {x : Nd} (hx : x ∈ L) : V.cell? ⟨x.1, 0, none⟩ = some (.string x.2.key) := (hM.node x hx).cell 0
theorem SkW.val (hM : SkW TL TI z V q h cnt L g) {x : Nd} (hx : x ∈ L) : V.cell? ⟨x.1, 1, none⟩ = some x.2.val := (hM.node x hx).cell 1
theorem SkW.stc (hM : SkW TL TI z V q h cnt L g) {x : Nd} (hx : x ∈ L) : V.cell? ⟨x.1, 2, none⟩ = some (.int .i64 (x.2.st : Int)) := (hM.node x hx).cell 2
theorem heap_setNe {V : World} {k : Nat} {p : Addr} (hk : k ≠ p.block) (u : Value) : (V.setCell p u).heap[k]? = V.heap[k]? := Below.heap_setCell V p u k hk
/-- A way is set. -/
theorem SkW.setNext (hM : SkW TL TI z V q h cnt L g) {a : Nat} (ha : a = h ∨ a ∈ L.map (·.1)) {i : Nat} (hi : i < 16) (x : Option Nat) : SkW TL TI z (V.setCell ⟨a, 3 + i, none⟩ (pp x)) q h cnt L (fun m b => if m = i ∧ b = a then x else g m b) := by
  have haq : a ≠ q := by rcases ha with rfl | ha; exact (hM.qh).symm; exact hM.qL ha
  refine ⟨(heap_setNe (fun e => haq e.symm) _).trans hM.obj, ?_, fun y hy => ?_, hM.ne⟩
  · by_cases e : h = a
    · subst e
      have := hM.head.set_ (3 + i) (pp x)
      rw [nodeC_set _ _ _ _ hi] at this
      have e2 : nodeC ⟨#[]⟩ z 0 (fun m => if m = i then x else g m h) = nodeC ⟨#[]⟩ z 0 (fun m => if m = i ∧ h = h then x else g m h) := nodeC_congr _ _ _ (fun m _ => by simp)
      rw [e2] at this
      exact this
    · have e2 : nodeC ⟨#[]⟩ z 0 (fun m => g m h) = nodeC ⟨#[]⟩ z 0 (fun m => if m = i ∧ h = a then x else g m h) := nodeC_congr _ _ _ (fun m _ => by rw [if_neg (fun e3 => e e3.2)])
      have := (heap_setNe (p := ⟨a, 3 + i, none⟩) e (pp x)).trans hM.head
      rw [e2] at this
      exact this
  · by_cases e : y.1 = a
    · have := (hM.node y hy).set_ (3 + i) (pp x)
      rw [nodeC_set _ _ _ _ hi] at this
      have e2 : nodeC y.2.key y.2.val y.2.st (fun m => if m = i then x else g m y.1) = nodeC y.2.key y.2.val y.2.st (fun m => if m = i ∧ y.1 = a then x else g m y.1) := nodeC_congr _ _ _ (fun m _ => by simp [e])
      rw [e2, e] at this
      rw [e]
      exact this
    · have e2 : nodeC y.2.key y.2.val y.2.st (fun m => g m y.1) = nodeC y.2.key y.2.val y.2.st (fun m => if m = i ∧ y.1 = a then x else g m y.1) := nodeC_congr _ _ _ (fun m _ => by rw [if_neg (fun e3 => e e3.2)])
      have := (heap_setNe (p := ⟨a, 3 + i, none⟩) e (pp x)).trans (hM.node y hy)
      rw [e2] at this
      exact this
theorem SkW.setCnt (hM : SkW TL TI z V q h cnt L g) (c : Nat) : SkW TL TI z (V.setCell ⟨q, 1, none⟩ (.int .i64 (c : Int))) q h c L g :=
  ⟨hM.obj.set_ 1 _, (heap_setNe (Ne.symm hM.qh) _).trans hM.head, fun y hy => (heap_setNe (hM.qL (List.mem_map.2 ⟨y, hy, rfl⟩)) _).trans (hM.node y hy), hM.ne⟩
/-- Another order, or fewer. -/
theorem SkW.sub (hM : SkW TL TI z V q h cnt L g) {L' : List Nd} (hs : ∀ x ∈ L', x ∈ L) (hn : (q :: h :: L'.map (·.1)).Nodup) : SkW TL TI z V q h cnt L' g := ⟨hM.obj, hM.head, fun x hx => hM.node x (hs x hx), hn⟩
end
end Go.Proofs.YtgccichmdddbpaaGreatDoor
