/-
  Layer 9: one key behind the other (plain); texts that a walk puts one to the other.
-/
import Derived.Test.YtcpbcoeccplliaaSkKeys
import Derived.Laws.OwnMore
set_option linter.unusedVariables false
namespace Go.Proofs.Ytcpbcoeccplliaa
open Go.RowKit

def zr : ByteArray := ⟨#[0]⟩
theorem kb_next : ∀ a b : List UInt8, Op.bytesLess b (a ++ [0]) = !(Op.bytesLess a b)
  | [], [] => rfl
  | [], c :: b => by
    have h0 : Op.bytesLess b [] = false := by cases b <;> rfl
    have h1 : ¬ c < 0 := UInt8.not_lt_zero
    simp [Op.bytesLess, h0, h1]
  | x :: a, [] => rfl
  | x :: a, c :: b => by
    have ih := kb_next a b
    simp only [List.cons_append, Op.bytesLess, ih]
    by_cases h1 : c < x
    · have h2 : ¬ x < c := fun h => UInt8.lt_irrefl _ (UInt8.lt_trans h1 h)
      have h3 : x ≠ c := fun e => by subst e; exact UInt8.lt_irrefl _ h1
      simp [h1, h2, h3]
    · by_cases h2 : x < c
      · have h3 : c ≠ x := fun e => by subst e; exact UInt8.lt_irrefl _ h2
        simp [h1, h2, h3]
      · have h3 : c = x := UInt8.le_antisymm (UInt8.not_lt.1 h2) (UInt8.not_lt.1 h1)
        subst h3
        simp [UInt8.lt_irrefl]
theorem ztoList (a : ByteArray) : (a ++ zr).toList = a.toList ++ [0] := by
  rw [Lib.toList_data, Lib.toList_data, ByteArray.data_append, Array.toList_append]
  rfl
theorem kl_next (a b : ByteArray) : kl b (a ++ zr) = !(kl a b) := by
  unfold kl
  rw [ztoList]
  exact kb_next _ _
theorem kpos_emp (l : List Kv) : kpos l ⟨#[]⟩ = 0 := by
  refine kpos_eq (Nat.zero_le _) (fun i _ h => absurd h (Nat.not_lt_zero _)) (fun hn => kl_empty _ _ (by rw [Lib.toList_data]))
theorem kpos_self {l : List Kv} (hs : Sor l) {i : Nat} (hi : i < l.length) : kpos l (l[i]'hi).key = i :=
  kpos_eq (Nat.le_of_lt hi) (fun j hj h => List.pairwise_iff_getElem.1 hs j i hj hi h) (fun _ => kl_irr _)
theorem kpos_next {l : List Kv} (hs : Sor l) {i : Nat} (hi : i < l.length) : kpos l ((l[i]'hi).key ++ zr) = i + 1 := by
  refine kpos_eq hi (fun j hj h => ?_) (fun hn => ?_)
  · rw [kl_next]
    rcases Nat.lt_or_ge j i with h1 | h1
    · rw [kl_asym (List.pairwise_iff_getElem.1 hs j i hj hi h1)]; rfl
    · obtain rfl : j = i := by omega
      rw [kl_irr]; rfl
  · rw [kl_next, List.pairwise_iff_getElem.1 hs i (i + 1) hi hn (by omega)]; rfl
/-- Where the walk up stands. -/
def fromAt (l : List Kv) (i : Nat) (f : ByteArray) : Prop := kpos l f = i ∧ f.size ≤ 281474976710657
/-- Where the walk down stands: i keys have come. -/
def toAt (l : List Kv) (i : Nat) (f : ByteArray) : Prop := (i = 0 ∧ f = ⟨#[]⟩) ∨ (0 < i ∧ ∃ h : l.length - i < l.length, f = (l[l.length - i]'h).key)
theorem first_at {l : List Kv} {i : Nat} {f : ByteArray} (h : fromAt l i f) : firstV l f = .tuple #[.string (keyAt l i), .bool (decide (i < l.length))] := by
  unfold firstV
  rw [h.1]
theorem last_at {l : List Kv} (hs : Sor l) {i : Nat} {f : ByteArray} (h : toAt l i f) (hi : i < l.length) :
    lastV l f = .tuple #[.string (keyAt l (l.length - i - 1)), .bool true] ∧ (0 < i → (f.toList == ([] : List UInt8)) = false) := by
  rcases h with ⟨rfl, rfl⟩ | ⟨h0, h1, rfl⟩
  · have e : kend l ⟨#[]⟩ = l.length := by unfold kend; rw [if_pos (by rw [Lib.toList_data])]
    refine ⟨?_, fun h => absurd h (Nat.lt_irrefl _)⟩
    unfold lastV
    rw [e, if_neg (by omega), decide_eq_true (by omega), Nat.sub_zero]
  · have hne : (l[l.length - i]'h1).key.toList ≠ [] := fun e => by
      have h2 := List.pairwise_iff_getElem.1 hs (l.length - i - 1) (l.length - i) (by omega) h1 (by omega)
      rw [kl_empty _ _ e] at h2
      cases h2
    have e : kend l (l[l.length - i]'h1).key = l.length - i := by unfold kend; rw [if_neg hne, kpos_self hs h1]
    refine ⟨?_, fun _ => by simpa using hne⟩
    unfold lastV
    rw [e, if_neg (by omega), decide_eq_true (by omega)]
theorem last_end {l : List Kv} (hs : Sor l) {f : ByteArray} (h : toAt l l.length f) :
    (∃ k, lastV l f = .tuple #[.string k, .bool false]) ∨ ((∃ k, lastV l f = .tuple #[.string k, .bool true]) ∧ 0 < l.length ∧ f = ⟨#[]⟩) := by
  rcases h with ⟨h0, rfl⟩ | ⟨h0, h1, rfl⟩
  · have e : kend l ⟨#[]⟩ = 0 := by unfold kend; rw [if_pos (by rw [Lib.toList_data])]; exact h0
    refine .inl ⟨⟨#[]⟩, ?_⟩
    unfold lastV
    rw [e, decide_eq_false (by omega), if_pos rfl]
  · by_cases hne : (l[l.length - l.length]'h1).key.toList = []
    · have e : kend l (l[l.length - l.length]'h1).key = l.length := by unfold kend; rw [if_pos hne]
      refine .inr ⟨⟨keyAt l (l.length - 1), ?_⟩, h0, ktoList_inj (by rw [hne, Lib.toList_data])⟩
      unfold lastV
      rw [e, decide_eq_true h0, if_neg (by omega)]
    · have e : kend l (l[l.length - l.length]'h1).key = 0 := by unfold kend; rw [if_neg hne, kpos_self hs h1]; omega
      refine .inl ⟨⟨#[]⟩, ?_⟩
      unfold lastV
      rw [e, decide_eq_false (by omega), if_pos rfl]

/-! ### texts in a row of the walk's own -/
abbrev TxRow (w : World) (B : Nat) (v : Value) (n : Nat) (xs : List ByteArray) : Prop := w.ownsRow B 9 1 v n (xs.map Value.string)
theorem TxRow.len {w : World} {B n : Nat} {v : Value} {xs : List ByteArray} (h : TxRow w B v n xs) : xs.length = n := by have := h.1; rw [List.length_map] at this; omega
theorem TxRow.form {w : World} {B n : Nat} {v : Value} {xs : List ByteArray} (h : TxRow w B v n xs) : ∃ A c, v = .slice A n c ∧ SAt w A n xs ∧ n ≤ c ∧ c ≤ 9223372036854775807 := by
  have e := h.len
  subst e
  exact rowS h
theorem TxRow.keep {w w' : World} {B n : Nat} {v : Value} {xs : List ByteArray} (h : TxRow w B v n xs) (hb : Below w.heap.size w w') : TxRow w' B v n xs :=
  World.ownsRow.kept h (row := none) ⟨hb.os, hb.tape, hb.output, hb.size, fun k hk _ => hb.block k hk⟩ (by
    cases hv : v.ownBlock with
    | none => exact .inl rfl
    | some q => exact .inr (by simp))
theorem text_one (w : World) (s : ByteArray) : SAt (w.alloc (.cells #[.string s] 9)) (some ⟨w.heap.size, 0, none⟩) 1 [s] :=
  SAt.lit (xs := [s]) (heap_alloc_new w _)
theorem text_row (w : World) (B : Nat) (s : ByteArray) (h : B ≤ w.heap.size) : TxRow (w.alloc (.cells #[.string s] 9)) B (.slice (some ⟨w.heap.size, 0, none⟩) 1 1) 1 [s] :=
  ⟨rfl, .inr ⟨w.heap.size, 1, #[.string s], rfl, h, heap_alloc_new w _, Nat.le_refl _, by decide, rfl, rfl⟩⟩
set_option maxRecDepth 100000 in
/-- 'append(v, l...)'. -/
theorem wpList_appT {w : World} {ops : Array Oper} {rest : List Oper} {o : Oper} {a : Act} {Q : Exit → Act → World → Prop} (hgd : o.guard = none) (s x : Operand)
    (ho : o.op = .call { callee := .builtin .append, args := #[s, x], argTypes := #[36, 36] })
    (B : Nat) (v : Value) (k : Nat) (xs ys : List ByteArray) (hs : a.eval s = v) (hown : TxRow w B v k xs)
    (A : Option Addr) (n c : Nat) (hx : a.eval x = .slice A n c) (hr : SAt w A n ys) (hbytes : k + n ≤ 1000) (hbase : B ≤ w.heap.size)
    (h : ∀ v' w', TxRow w' B v' (k + n) (xs ++ ys) → w.grownBy w' v.ownBlock → wpList Try.prog ops Q rest (a.put o.dst v') w') :
    wpList Try.prog ops Q (o :: rest) a w := by
  obtain ⟨i, hi, hz, hsz, hby⟩ := info_parts info9s
  cases A with
  | none =>
    have hm : n = 0 := by
      rcases Nat.eq_zero_or_pos n with h0 | h0
      · exact h0
      · obtain ⟨b, o, hh, _⟩ := hr.2 h0
        cases hh
    subst hm
    obtain rfl : ys = [] := List.eq_nil_of_length_eq_zero hr.1
    have hrun := run_append_none (P := Try.prog) w B 36 o.type 9 i 1 Try.underlying36 hi v k _ hown c
    refine wpList_plain hgd fun K hK => ?_
    unfold Oper.wp execOp
    simp only [ho, resolve, invoke, builtin, Sem.run_bind, Sem.run_pure, Result.andThen_ok, List.map_toArray, List.map_cons, List.map_nil, hs, hx, hrun]
    exact hK _ _ (h v w (by simpa using hown) (World.grownBy.refl w _))
  | some ad =>
    have hnews : ∀ j u, (ys.map Value.string)[j]? = some u → w.cell? (ad.add j) = some u := by
      intro j u hj
      rw [List.getElem?_map] at hj
      obtain ⟨y, hy, rfl⟩ := Option.map_eq_some_iff.1 hj
      obtain ⟨hjl, rfl⟩ := List.getElem?_eq_some_iff.1 hy
      obtain ⟨b, o2, hh, hc⟩ := hr.2 (by have := hr.1; omega)
      injection hh with hh
      subst hh
      rw [Go.WideShapes.add_plain]
      exact hc j hjl
    refine wpList_append_own w hgd s x 36 ho B 9 i _ 1 16 Try.underlying36 hi hz hsz hby rfl (by decide) v k (xs.map Value.string) hs hown ad n c (ys.map Value.string) hx (by rw [List.length_map, hr.1]; omega) hnews (fun u hu => ?_) (by unfold maxLen; omega) (by omega) hbase ?_
    · obtain ⟨y, _, rfl⟩ := List.mem_map.1 hu
      rfl
    · intro v' w' h1 h2 _
      refine h v' w' ?_ h2
      unfold TxRow
      rw [List.map_append]
      exact h1
section
variable {w V : World} {T : List As} {q : Nat} {l : List Kv}
theorem Has.skFirstB (h : Has w (skA q l :: T) V) (key : ByteArray) : Calls Try.prog 18 #[pt q, .string key] V fun e w' => e = .returned (firstV l key) ∧ Below V.heap.size V w' := by
  obtain ⟨F, ⟨h', L, g, hR, rfl, hF⟩, _⟩ := h.get
  exact sk_first z9 q h' L g key V hR
theorem Has.skLastB (h : Has w (skA q l :: T) V) (key : ByteArray) : Calls Try.prog 20 #[pt q, .string key] V fun e w' => e = .returned (lastV l key) ∧ Below V.heap.size V w' := by
  obtain ⟨F, ⟨h', L, g, hR, rfl, hF⟩, _⟩ := h.get
  exact sk_last z9 q h' L g key V hR
end
end Go.Proofs.Ytcpbcoeccplliaa
