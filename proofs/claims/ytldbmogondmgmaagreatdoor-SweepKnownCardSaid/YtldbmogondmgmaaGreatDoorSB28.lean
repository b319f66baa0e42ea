/-
  Layer 15, plain: which versions go; what is read behind them, and what is left.
  Layer 12, the code: a key's intent; what is read in an own one.
  Layer 12, the code: the version up to a stamp (written by wip/genpkver.py).
  Layer 15, the code: where versions begin; whether a key was not seen just ahead; what was handed in.
-/
import Derived.Test.YtldbmogondmgmaaGreatDoorSB27
import Derived.Test.YtldbmogondmgmaaGreatDoorSB15
import Derived.Test.YtldbmogondmgmaaGreatDoorSB24
set_option linter.unusedVariables false
set_option linter.unusedSimpArgs false
set_option maxRecDepth 100000
namespace Go.Proofs.YtldbmogondmgmaaGreatDoor
open Go.RowKit

/-! ### what goes -/
/-- Where the versions begin of the keys that are not below a text. -/
def vfr (t : ByteArray) : ByteArray := if 32 < t.size then bs (vkey (sb (t.extract 0 32)) 0 0) ++ zr else bs (vkey (sb (smax t zr)) 1099511627776 1048575)
/-- A row that is a version: its key, stamp, value, and whether there is one. -/
def vrd (x : Rw) : Option (ByteArray × Int × Int × ByteArray × Bool) :=
  match rdVK (sb x.key), tkV (sb x.value) with
  | some (s, a, b), some (v, i) => some (bs s, a, b, v, i)
  | _, _ => none
def delO (x : Rw) : Op_ := ⟨x.key, ⟨#[]⟩, true⟩
def swSt (to_ : Int × Int) (st : ByteArray × List Op_) (x : Rw) : ByteArray × List Op_ :=
  match vrd x with
  | none => st
  | some (s, a, b, v, i) => if lt to_ (a, b) = true then st else if (decide (s ≠ st.1) && i) = true then (s, st.2) else (s, st.2 ++ [delO x])
def swL (to_ : Int × Int) (l : List Rw) : ByteArray × List Op_ := l.foldl (swSt to_) (⟨#[]⟩, [])
def swE (F T : ByteArray) (to_ : Int × Int) : Int := if 33 < F.size ∨ 33 < T.size then 5 else if Op.bytesLess F.toList T.toList = false ∨ may to_.1 to_.2 = false then 2 else 0
/-- What Sweep answers. -/
def swC (r : List Rw) (F T : ByteArray) (to_ : Int × Int) : List Op_ := if swE F T to_ = 0 then (swL to_ (btw r (vfr F) (vfr T))).2 else []
/-- The same, by what was seen ahead. -/
def go (to_ : Int × Int) : ByteArray → List Rw → List Op_
  | _, [] => []
  | a0, x :: l => match vrd x with
    | none => go to_ a0 l
    | some (s, a, b, v, i) => if lt to_ (a, b) = true then go to_ a0 l else if (decide (s ≠ a0) && i) = true then go to_ s l else delO x :: go to_ s l
theorem swL_go (to_ : Int × Int) : ∀ (l : List Rw) (a0 : ByteArray) (acc : List Op_), (l.foldl (swSt to_) (a0, acc)).2 = acc ++ go to_ a0 l
  | [], a0, acc => by simp [go]
  | x :: l, a0, acc => by
    rw [List.foldl_cons]
    unfold go
    cases hv : vrd x with
    | none =>
      have : swSt to_ (a0, acc) x = (a0, acc) := by unfold swSt; rw [hv]
      rw [this]
      exact swL_go to_ l a0 acc
    | some q =>
      obtain ⟨s, a, b, v, i⟩ := q
      have : swSt to_ (a0, acc) x = if lt to_ (a, b) = true then (a0, acc) else if (decide (s ≠ a0) && i) = true then (s, acc) else (s, acc ++ [delO x]) := by unfold swSt; rw [hv]
      rw [this]
      simp only
      split
      · exact swL_go to_ l a0 acc
      · split
        · exact swL_go to_ l s acc
        · rw [swL_go to_ l s _, List.append_assoc]
          rfl
theorem go_all (to_ : Int × Int) (l : List Rw) : (swL to_ l).2 = go to_ ⟨#[]⟩ l := by
  unfold swL
  rw [swL_go, List.nil_append]
theorem swL_succ (to_ : Int × Int) (l : List Rw) (n : Nat) (h : n < l.length) : swL to_ (l.take (n + 1)) = swSt to_ (swL to_ (l.take n)) (l[n]'h) := by
  unfold swL
  rw [List.take_succ_eq_append_getElem h, List.foldl_append]
  rfl

/-! ### the order of versions -/
theorem kb_asym {x y : List UInt8} (h : Op.bytesLess x y = true) : Op.bytesLess y x = false := by
  cases h2 : Op.bytesLess y x with
  | false => rfl
  | true =>
    have := kb_trans h h2
    rw [kb_irr] at this
    cases this
theorem vrd_is {x : Rw} {s v : ByteArray} {a b : Int} {i : Bool} (h : vrd x = some (s, a, b, v, i)) : rdVK (sb x.key) = some (sb s, a, b) ∧ tkV (sb x.value) = some (v, i) := by
  unfold vrd at h
  split at h
  · rename_i s' a' b' v' i' h1 h2
    cases h
    exact ⟨by rw [h1, sb_bs], h2⟩
  · cases h
theorem vrd_key {x : Rw} {s v : ByteArray} {a b : Int} {i : Bool} (h : vrd x = some (s, a, b, v, i)) : may a b = true ∧ sb x.key = vkey (sb s) a b ∧ isK s = true := by
  obtain ⟨h1, -⟩ := vrd_is h
  obtain ⟨hm, hk⟩ := rdVK_is h1
  refine ⟨hm, hk, ?_⟩
  unfold rdVK at h1
  split at h1
  · cases h1
  · rename_i s' r' hr
    obtain ⟨-, h2, h3, -⟩ := rk_size hr
    split at h1
    · injection h1 with h1
      cases h1
      rw [isK_iff, ← sb_len]
      exact ⟨h2, h3⟩
    · cases h1
theorem vrd_val {x : Rw} {s v : ByteArray} {a b : Int} (h : vrd x = some (s, a, b, v, false)) : v = ⟨#[]⟩ := by
  obtain ⟨-, h2⟩ := vrd_is h
  have := (tkV_back h2).1
  unfold isV at this
  have h3 := of_decide_eq_true this
  have h4 : v.size = 0 := by
    rcases h3.2 with h | h
    · cases h
    · exact h
  have h5 : v.data = #[] := Array.eq_empty_of_size_eq_zero h4
  cases v
  simp only at h5
  rw [h5]
/-- Of two versions, one behind the other in the table. -/
theorem vrd_ord {x y : Rw} {s t v u : ByteArray} {a b c d : Int} {i j : Bool} (hx : vrd x = some (s, a, b, v, i)) (hy : vrd y = some (t, c, d, u, j)) (h : kl x.key y.key = true) :
    Op.bytesLess (sb t) (sb s) = false ∧ (s = t → lt (c, d) (a, b) = true) := by
  obtain ⟨m1, k1, -⟩ := vrd_key hx
  obtain ⟨m2, k2, -⟩ := vrd_key hy
  rw [kl_cmp, k1, k2, cmp_vkey] at h
  have h := of_decide_eq_true h
  by_cases e : Lib.compareBytes (sb s) (sb t) = 0
  · rw [if_pos e] at h
    have e2 := cmp_eq _ _ e
    refine ⟨?_, fun _ => ?_⟩
    · rw [e2]
      rcases cmp3 (sb t) (sb t) with ⟨h1, _, _⟩ | ⟨_, h1, _⟩ | ⟨_, h1, _⟩
      · rw [cmp_refl] at h1; cases h1
      · exact h1
      · exact h1
    · rw [odown_cmp a b c d m1 m2] at h
      rw [lt_iff]
      split at h
      · rename_i h1
        simp only
        omega
      · split at h <;> cases h
  · rw [if_neg e] at h
    refine ⟨?_, fun e2 => absurd (by rw [e2]; exact cmp_refl _) e⟩
    rcases cmp3 (sb s) (sb t) with ⟨_, h1, _⟩ | ⟨h1, _, _⟩ | ⟨h1, _, _⟩
    · rcases cmp3 (sb t) (sb s) with ⟨_, h2, _⟩ | ⟨_, h2, _⟩ | ⟨_, h2, _⟩
      · exact absurd h2 (by rw [kb_asym h1]; decide)
      · exact h2
      · exact h2
    · exact absurd h1 e
    · rw [h1] at h; cases h
theorem bl_take3 : ∀ (n : Nat) (s t : List UInt8), s.length ≤ n → n < t.length → (!(Op.bytesLess (t.take n) s)) = Op.bytesLess s t
  | _, s, [], _, h => absurd h (Nat.not_lt_zero _)
  | 0, s, c :: t, h, _ => by
    obtain rfl : s = [] := List.eq_nil_of_length_eq_zero (by omega)
    rfl
  | n + 1, [], c :: t, _, _ => rfl
  | n + 1, x :: s, c :: t, h1, h2 => by
    have ih := bl_take3 n s t (by simp at h1; omega) (by simp at h2; omega)
    rw [List.take_succ_cons]
    simp only [Op.bytesLess]
    rw [← ih]
    by_cases h3 : c < x
    · have e1 : ¬ x < c := fun e => UInt8.lt_irrefl _ (UInt8.lt_trans h3 e)
      have e2 : x ≠ c := fun e => by rw [e] at h3; exact UInt8.lt_irrefl _ h3
      simp [h3, e1, e2]
    · by_cases h4 : x < c
      · have e2 : c ≠ x := fun e => by rw [e] at h4; exact UInt8.lt_irrefl _ h4
        simp [h3, h4, e2]
      · have e : c = x := UInt8.le_antisymm (UInt8.not_lt.1 h4) (UInt8.not_lt.1 h3)
        subst e
        simp [UInt8.lt_irrefl]
/-- Which versions stand behind where a text's begin. -/
theorem vfr_lt {k : ByteArray} {s : ByteArray} {a b : Int} (hs : isK s = true) (hm : may a b = true) (hk : sb k = vkey (sb s) a b) (X : ByteArray) : kl k (vfr X) = Op.bytesLess s.toList X.toList := by
  have hs2 := isK_iff.1 hs
  have hm2 := may_iff.1 hm
  have hM : may 1099511627776 1048575 = true := by decide
  have h00 : may 0 0 = true := by decide
  have bl : ∀ l m : List UInt8, decide (Lib.compareBytes l m = -1) = Op.bytesLess l m := by
    intro l m
    rcases cmp3 l m with ⟨h1, h2, _⟩ | ⟨h1, h2, _⟩ | ⟨h1, h2, _⟩ <;> rw [h1, h2] <;> rfl
  have e3 : ∀ (p : Prop) [Decidable p], ¬ ((if p then (0 : Int) else 1) = -1) := by
    intro p _
    split <;> decide
  rw [Lib.toList_data, Lib.toList_data]
  show _ = Op.bytesLess (sb s) (sb X)
  unfold vfr
  split
  · rename_i hX
    rw [kl_next, kl_cmp, sb_bs, hk, cmp_vkey, odown_cmp 0 0 a b h00 hm]
    have hx : sb (X.extract 0 32) = (sb X).take 32 := by
      unfold sb
      rw [Lib.extract_from_zero]
    have e2 : ¬ (a < 0 ∨ ((0 : Int) = a ∧ b < 0)) := by omega
    rw [if_neg e2, hx, ← bl_take3 32 (sb s) (sb X) (by rw [sb_len]; exact hs2.2) (by rw [sb_len]; exact hX), ← bl]
    congr 1
    by_cases e : Lib.compareBytes ((sb X).take 32) (sb s) = 0
    · rw [if_pos e, e]
      rw [decide_eq_false (e3 _)]
      rfl
    · rw [if_neg e]
  · rw [kl_cmp, sb_bs, hk, cmp_vkey, odown_cmp a b _ _ hm hM]
    have e1 : ¬ ((1099511627776 : Int) < a ∨ (a = 1099511627776 ∧ (1048575 : Int) < b)) := by omega
    rw [if_neg e1]
    have e4 : decide ((if Lib.compareBytes (sb s) (sb (smax X zr)) = 0 then (if a = 1099511627776 ∧ b = 1048575 then (0 : Int) else 1) else Lib.compareBytes (sb s) (sb (smax X zr))) = -1) = Op.bytesLess (sb s) (sb (smax X zr)) := by
      rw [← bl]
      by_cases e : Lib.compareBytes (sb s) (sb (smax X zr)) = 0
      · rw [if_pos e, e, decide_eq_false (e3 _)]
        rfl
      · rw [if_neg e]
    rw [e4]
    unfold smax
    split
    · rename_i h
      rw [Lib.toList_data, Lib.toList_data] at h
      have h' : Op.bytesLess (sb X) [0] = true := h
      have hz : sb zr = [0] := rfl
      rw [hz]
      cases hl : sb s with
      | nil =>
        have := sb_len s
        rw [hl] at this
        simp at this
        omega
      | cons c l =>
        cases hX : sb X with
        | nil =>
          rw [kl_nil]
          simp [Op.bytesLess, kl_nil]
        | cons y m =>
          rw [hX] at h'
          simp [Op.bytesLess, kl_nil] at h'
    · rfl
theorem bl_max : ∀ (n : Nat) (s : List UInt8), s.length < n → Op.bytesLess s (List.replicate n 255) = true
  | 0, s, h => absurd h (Nat.not_lt_zero _)
  | n + 1, [], h => rfl
  | n + 1, x :: s, h => by
    have ih := bl_max n s (by simp at h; omega)
    rw [List.replicate_succ]
    simp only [Op.bytesLess]
    by_cases e : x = 255
    · subst e
      simp [ih]
    · have : x < 255 := by
        rw [UInt8.lt_iff_toNat_lt]
        have h1 := x.toNat_lt
        have h2 : x.toNat ≠ (255 : UInt8).toNat := fun h => e (UInt8.toNat_inj.1 h)
        have h3 : (255 : UInt8).toNat = 255 := rfl
        omega
      simp [this]

/-! ### rows without some -/
def outOf (D : List ByteArray) (k : ByteArray) : Bool := D.all (fun j => decide (j ≠ k))
theorem outOf_iff {D : List ByteArray} {k : ByteArray} : outOf D k = true ↔ k ∉ D := by
  unfold outOf
  rw [List.all_eq_true]
  constructor
  · intro h hm
    exact of_decide_eq_true (h k hm) rfl
  · intro h j hj
    refine decide_eq_true fun e => h ?_
    rw [← e]
    exact hj
theorem outOf_no {D : List ByteArray} {k : ByteArray} : outOf D k = false ↔ k ∈ D := by
  rw [← Bool.not_eq_true, outOf_iff]
  exact Classical.not_not
def rdel (r : List Rw) (D : List ByteArray) : List Rw := r.filter (fun x => outOf D x.key)
theorem rone_del {k v : ByteArray} : ∀ {r : List Rw}, RSor r → rone r ⟨k, v, true⟩ = r.filter (fun x => decide (x.key ≠ k))
  | [], _ => by simp [rone, rrest, rpos, rhas]
  | x :: r, hs => by
    have hs' : RSor r := (List.pairwise_cons.1 hs).2
    have hx := (List.pairwise_cons.1 hs).1
    have ih := rone_del (k := k) (v := v) hs'
    cases hc : kl x.key k with
    | true =>
      have hne : x.key ≠ k := fun e => by rw [e, kl_irr] at hc; cases hc
      have hp : rpos (x :: r) k = rpos r k + 1 := by rw [st_rpos, if_pos hc]
      have hh : rhas (x :: r) k = rhas r k := by unfold rhas; rw [hp, List.getElem?_cons_succ]
      rw [List.filter_cons, if_pos (by simpa using hne), ← ih]
      unfold rone rrest
      simp only [hp, hh, if_true, List.append_nil]
      have e2 : (rpos r k + 1 + if rhas r k = true then 1 else 0) = (rpos r k + if rhas r k = true then 1 else 0) + 1 := by omega
      rw [e2, List.take_succ_cons, List.drop_succ_cons, List.cons_append]
    | false =>
      have hp : rpos (x :: r) k = 0 := by rw [st_rpos, if_neg (by rw [hc]; decide)]
      have hall : ∀ y ∈ r, decide (y.key ≠ k) = true := by
        intro y hy
        refine decide_eq_true fun e => ?_
        have := hx y hy
        rw [e, hc] at this
        cases this
      have hf : r.filter (fun x => decide (x.key ≠ k)) = r := List.filter_eq_self.2 hall
      by_cases he : x.key = k
      · have hh : rhas (x :: r) k = true := by unfold rhas; rw [hp]; simp [he]
        rw [List.filter_cons, if_neg (by simpa using he), hf]
        unfold rone rrest
        simp only [hp, hh, if_true, List.take_zero, List.nil_append, Nat.zero_add, List.drop_succ_cons, List.drop_zero]
      · have hh : rhas (x :: r) k = false := by unfold rhas; rw [hp]; simp [he]
        rw [List.filter_cons, if_pos (by simpa using he), hf]
        unfold rone rrest
        simp only [hp, hh, Bool.false_eq_true, if_false, if_true, List.take_zero, List.nil_append, Nat.zero_add, List.drop_zero]
theorem rdel_nil (r : List Rw) : rdel r [] = r := by
  unfold rdel
  exact List.filter_eq_self.2 (fun x _ => rfl)
theorem rdel_sor {r : List Rw} (h : RSor r) (D : List ByteArray) : RSor (rdel r D) := List.Pairwise.filter _ h
theorem rdel_cons (r : List Rw) (k : ByteArray) (D : List ByteArray) : (rdel r D).filter (fun x => decide (x.key ≠ k)) = rdel r (k :: D) := by
  unfold rdel
  rw [List.filter_filter]
  congr 1
  funext x
  show (decide (x.key ≠ k) && outOf D x.key) = (decide (k ≠ x.key) && outOf D x.key)
  congr 1
  by_cases h1 : x.key = k
  · rw [h1]
  · rw [decide_eq_true (show x.key ≠ k from h1), decide_eq_true (show k ≠ x.key from fun e => h1 e.symm)]
theorem rdel_congr {r : List Rw} {D E : List ByteArray} (h : ∀ k, k ∈ D ↔ k ∈ E) : rdel r D = rdel r E := by
  unfold rdel
  congr 1
  funext x
  rw [Bool.eq_iff_iff, outOf_iff, outOf_iff, h]
theorem opBad_del {x : Rw} (h : x.key.toList ≠ []) : opBad (delO x) = false := by
  unfold opBad delO
  have : (⟨#[]⟩ : ByteArray).toList = [] := by rw [Lib.toList_data]
  simp only [this]
  cases hx : x.key.toList with
  | nil => exact absurd hx h
  | cons a l => rfl
theorem rapp_del {r : List Rw} (hs : RSor r) {x : Rw} (h : x.key.toList ≠ []) : chk [delO x] = 0 ∧ rapp r [delO x] = rdel r [x.key] := by
  have hc : chk [delO x] = 0 := by
    unfold chk
    simp [opBad_del h]
  refine ⟨hc, ?_⟩
  unfold rapp
  rw [if_pos hc]
  show rone r (delO x) = _
  unfold delO
  rw [rone_del hs, ← rdel_cons, rdel_nil]
theorem go_mem {to_ : Int × Int} : ∀ {l : List Rw} {a0 : ByteArray} {o : Op_}, o ∈ go to_ a0 l → ∃ x ∈ l, o = delO x ∧ ∃ s a b v i, vrd x = some (s, a, b, v, i) ∧ lt to_ (a, b) = false
  | [], _, _, h => nomatch h
  | x :: l, a0, o, h => by
    have nxt : ∀ a1, o ∈ go to_ a1 l → ∃ y ∈ x :: l, o = delO y ∧ ∃ s a b v i, vrd y = some (s, a, b, v, i) ∧ lt to_ (a, b) = false := by
      intro a1 h1
      obtain ⟨y, hy, h2⟩ := go_mem h1
      exact ⟨y, List.mem_cons_of_mem _ hy, h2⟩
    unfold go at h
    cases hv : vrd x with
    | none => rw [hv] at h; exact nxt _ h
    | some q =>
      obtain ⟨s, a, b, v, i⟩ := q
      rw [hv] at h
      simp only at h
      split at h
      · exact nxt _ h
      · rename_i hl
        split at h
        · exact nxt _ h
        · rcases List.mem_cons.1 h with h | h
          · exact ⟨x, List.mem_cons_self, h, s, a, b, v, i, hv, by simpa using hl⟩
          · exact nxt _ h
def gk (l : List Op_) : List ByteArray := l.map Op_.key
theorem gk_mem {to_ : Int × Int} {l : List Rw} {a0 k : ByteArray} (h : k ∈ gk (go to_ a0 l)) : ∃ x ∈ l, x.key = k := by
  obtain ⟨o, ho, rfl⟩ := List.mem_map.1 h
  obtain ⟨x, hx, rfl, -⟩ := go_mem ho
  exact ⟨x, hx, rfl⟩
theorem gk_sub {to_ : Int × Int} : ∀ (l : List Rw) (a0 : ByteArray), (gk (go to_ a0 l)).Sublist (l.map Rw.key)
  | [], _ => by simp [go, gk]
  | x :: l, a0 => by
    have nx := fun a1 => (gk_sub (to_ := to_) l a1).cons x.key
    unfold go
    cases hv : vrd x with
    | none => exact nx _
    | some q =>
      obtain ⟨s, a, b, v, i⟩ := q
      simp only
      split
      · exact nx _
      · split
        · exact nx _
        · exact (gk_sub l s).cons_cons x.key
theorem rdel_len : ∀ {r : List Rw}, RSor r → ∀ {D : List ByteArray}, D.Sublist (r.map Rw.key) → (rdel r D).length + D.length = r.length
  | [], _, D, h => by
    have := h.length_le
    simp at this
    subst this
    rfl
  | x :: r, hs, D, h => by
    have hs' : RSor r := (List.pairwise_cons.1 hs).2
    have hx := (List.pairwise_cons.1 hs).1
    have nin : ∀ E : List ByteArray, E.Sublist (r.map Rw.key) → x.key ∉ E := by
      intro E hE hm
      obtain ⟨y, hy, e⟩ := List.mem_map.1 (hE.subset hm)
      exact kl_ne (hx y hy) e.symm
    rw [List.map_cons] at h
    cases h with
    | cons _ h =>
      have := rdel_len hs' h
      have h1 : rdel (x :: r) D = x :: rdel r D := by
        unfold rdel
        rw [List.filter_cons, if_pos (outOf_iff.2 (nin D h))]
      rw [h1, List.length_cons, List.length_cons]
      omega
    | cons_cons _ h =>
      rename_i D'
      have := rdel_len hs' h
      have h1 : rdel (x :: r) (x.key :: D') = rdel r D' := by
        unfold rdel
        rw [List.filter_cons, if_neg (by rw [outOf_no.2 List.mem_cons_self]; decide)]
        refine List.filter_congr fun y hy => ?_
        have := kl_ne (hx y hy)
        show (decide (x.key ≠ y.key) && outOf D' y.key) = _
        rw [decide_eq_true this]
        rfl
      rw [h1, List.length_cons, List.length_cons]
      omega
theorem go_filter {to_ : Int × Int} (p : Rw → Bool) : ∀ (l : List Rw) (a0 : ByteArray), (∀ x ∈ l, p x = false → vrd x = none) → go to_ a0 (l.filter p) = go to_ a0 l
  | [], _, _ => rfl
  | x :: l, a0, h => by
    have ih := fun a1 => go_filter (to_ := to_) p l a1 (fun y hy => h y (by simp [hy]))
    cases hp : p x with
    | false =>
      have hv := h x (by simp) hp
      rw [List.filter_cons, if_neg (by rw [hp]; decide), ih]
      conv => rhs; unfold go
      rw [hv]
    | true =>
      rw [List.filter_cons, if_pos hp]
      unfold go
      cases vrd x with
      | none => exact ih _
      | some q =>
        obtain ⟨s, a, b, v, i⟩ := q
        simp only [ih]

/-! ### what is read -/
/-- What a row says to who reads a key below a stamp. -/
def rdf (key : ByteArray) (bl : Int × Int) (x : Rw) : Option (ByteArray × Bool) :=
  match vrd x with
  | some (s, a, b, v, i) => if s = key ∧ lt (a, b) bl = true then some (v, i) else none
  | none => none
def rdC (r : List Rw) (key : ByteArray) (bl : Int × Int) : ByteArray × Bool := (r.findSome? (rdf key bl)).getD (⟨#[]⟩, false)
theorem rdf_none {key : ByteArray} {bl : Int × Int} {x : Rw} (h : ∀ a b v i, vrd x ≠ some (key, a, b, v, i)) : rdf key bl x = none := by
  unfold rdf
  cases hv : vrd x with
  | none => rfl
  | some q =>
    obtain ⟨s, a, b, v, i⟩ := q
    simp only
    rw [if_neg]
    rintro ⟨rfl, -⟩
    exact h _ _ _ _ hv
theorem go_own {to_ : Int × Int} {key : ByteArray} : ∀ {l : List Rw} {a0 : ByteArray}, RSor l → (∀ y ∈ l, ∀ a b v i, vrd y = some (key, a, b, v, i) → lt to_ (a, b) = false) → (∀ y ∈ l, ∀ s a b v i, vrd y = some (s, a, b, v, i) → Op.bytesLess (sb s) (sb key) = false) →
    (a0 = key ∨ ∀ y ∈ l, ∀ a b v i, vrd y ≠ some (key, a, b, v, i)) → ∀ y ∈ l, ∀ a b v i, vrd y = some (key, a, b, v, i) → y.key ∈ gk (go to_ a0 l)
  | [], _, _, _, _, _, y, hy, _, _, _, _, _ => nomatch hy
  | x :: l, a0, hs, h1, h2, h3, y, hy, a, b, v, i, hv => by
    have hs' : RSor l := (List.pairwise_cons.1 hs).2
    have hx := (List.pairwise_cons.1 hs).1
    have h3 : a0 = key := by
      rcases h3 with h | h
      · exact h
      · exact absurd hv (h y hy a b v i)
    subst h3
    have h1' := fun y hy => h1 y (List.mem_cons_of_mem _ hy)
    have h2' := fun y hy => h2 y (List.mem_cons_of_mem _ hy)
    unfold go
    cases hvx : vrd x with
    | none =>
      simp only
      rcases List.mem_cons.1 hy with rfl | hy
      · rw [hvx] at hv; cases hv
      · exact go_own hs' h1' h2' (.inl rfl) y hy a b v i hv
    | some q =>
      obtain ⟨s, c, d, u, j⟩ := q
      simp only
      -- a row of another key: none of this one is behind it
      have other : s ≠ a0 → False := by
        intro hne
        rcases List.mem_cons.1 hy with rfl | hy
        · rw [hvx] at hv; cases hv; exact hne rfl
        · have e1 := (vrd_ord hvx hv (hx y hy)).1
          have e2 := h2 x List.mem_cons_self _ _ _ _ _ hvx
          exact hne (by
            have := kb_total e2 e1
            rw [← bs_sb s, ← bs_sb a0, this])
      by_cases hsk : s = a0
      · subst hsk
        have hl := h1 x List.mem_cons_self _ _ _ _ hvx
        rw [if_neg (by rw [hl]; decide), if_neg (by simp)]
        rcases List.mem_cons.1 hy with rfl | hy
        · exact List.mem_cons_self
        · exact List.mem_cons_of_mem _ (go_own hs' h1' h2' (.inl rfl) y hy a b v i hv)
      · exact (other hsk).elim
theorem fs_none {key : ByteArray} {bl : Int × Int} {l : List Rw} (h : ∀ y ∈ l, ∀ a b v i, vrd y ≠ some (key, a, b, v, i)) : l.findSome? (rdf key bl) = none :=
  List.findSome?_eq_none_iff.2 fun y hy => rdf_none (h y hy)
theorem rdel_cons_in {x : Rw} {l : List Rw} {D : List ByteArray} (h : x.key ∈ D) : rdel (x :: l) D = rdel l D := by
  unfold rdel
  rw [List.filter_cons, if_neg (by rw [outOf_no.2 h]; decide)]
theorem rdel_cons_out {x : Rw} {l : List Rw} {D : List ByteArray} (h : x.key ∉ D) : rdel (x :: l) D = x :: rdel l D := by
  unfold rdel
  rw [List.filter_cons, if_pos (outOf_iff.2 h)]
theorem rdel_skip {x : Rw} {l : List Rw} {D : List ByteArray} (h : ∀ y ∈ l, kl x.key y.key = true) : rdel l (x.key :: D) = rdel l D := by
  unfold rdel
  refine List.filter_congr fun y hy => ?_
  have := kl_ne (h y hy)
  show (decide (x.key ≠ y.key) && outOf D y.key) = _
  rw [decide_eq_true this]
  rfl
theorem gk_drop (l : List Op_) (n : Nat) : gk (l.drop n) = (gk l).drop n := by unfold gk; rw [List.map_drop]
/-- Behind any part of a sweep that takes elder versions first a key reads the same. -/
theorem rd_same {to_ bl : Int × Int} (hlt : lt to_ bl = true) {key : ByteArray} : ∀ {l : List Rw} {a0 : ByteArray} (n : Nat), RSor l → a0 ≠ key →
    rdC (rdel l (gk ((go to_ a0 l).drop n))) key bl = rdC l key bl
  | [], _, _, _, _ => by simp [rdel]
  | x :: l, a0, n, hs, ha => by
    have hs' : RSor l := (List.pairwise_cons.1 hs).2
    have hx := (List.pairwise_cons.1 hs).1
    have out : ∀ (a1 : ByteArray) (n : Nat), x.key ∉ gk ((go to_ a1 l).drop n) := by
      intro a1 n hm
      rw [gk_drop] at hm
      obtain ⟨y, hy, e⟩ := gk_mem (List.mem_of_mem_drop hm)
      exact kl_ne (hx y hy) e.symm
    -- the first row stays
    have keep : ∀ (a1 : ByteArray) (n : Nat), a1 ≠ key → rdC (rdel (x :: l) (gk ((go to_ a1 l).drop n))) key bl = rdC (x :: l) key bl := by
      intro a1 n h1
      rw [rdel_cons_out (out a1 n)]
      unfold rdC
      rw [List.findSome?_cons, List.findSome?_cons]
      cases rdf key bl x with
      | some q => rfl
      | none => exact rd_same hlt n hs' h1
    unfold go
    cases hv : vrd x with
    | none => exact keep a0 n ha
    | some q =>
      obtain ⟨s, a, b, v, i⟩ := q
      simp only
      have hlt' := lt_iff.1 hlt
      split
      · exact keep a0 n ha
      · rename_i hl
        have hl' := lt_no.1 (by simpa using hl)
        simp only at hl'
        by_cases hsk : s = key
        · -- of this key the first one at or below the stamp
          have hlb : lt (a, b) bl = true := by
            rw [lt_iff]
            simp only
            omega
          have hf : rdf key bl x = some (v, i) := by
            unfold rdf
            rw [hv]
            simp only
            rw [if_pos ⟨hsk, hlb⟩]
          have hR : rdC (x :: l) key bl = (v, i) := by
            unfold rdC
            rw [List.findSome?_cons, hf]
            rfl
          rw [hR]
          have stay : ∀ D : List ByteArray, x.key ∉ D → rdC (rdel (x :: l) D) key bl = (v, i) := by
            intro D hD
            rw [rdel_cons_out hD]
            unfold rdC
            rw [List.findSome?_cons, hf]
            rfl
          split
          · exact stay _ (out s n)
          · rename_i hgone
            have hi : i = false := by
              cases i with
              | false => rfl
              | true =>
                exfalso
                apply hgone
                simp [hsk, Ne.symm ha]
            subst hi
            cases n with
            | succ n =>
              rw [List.drop_succ_cons]
              exact stay _ (out s n)
            | zero =>
              rw [List.drop_zero]
              have hD : gk (delO x :: go to_ s l) = x.key :: gk (go to_ s l) := rfl
              rw [hD, rdel_cons_in List.mem_cons_self, rdel_skip hx, vrd_val hv]
              have hnone : ∀ y ∈ rdel l (gk (go to_ s l)), ∀ a b v i, vrd y ≠ some (key, a, b, v, i) := by
                intro y hy c d u j hvy
                unfold rdel at hy
                obtain ⟨hy1, hy2⟩ := List.mem_filter.1 hy
                have hy2 := outOf_iff.1 hy2
                refine hy2 (go_own hs' ?_ ?_ (.inl hsk) y hy1 c d u j hvy)
                · intro z hz c d u j hvz
                  have := (vrd_ord hv hvz (hx z hz)).2 hsk
                  have h1 := lt_iff.1 this
                  rw [lt_no]
                  simp only at h1 ⊢
                  omega
                · intro z hz t c d u j hvz
                  rw [← hsk]
                  exact (vrd_ord hv hvz (hx z hz)).1
              unfold rdC
              rw [fs_none hnone]
              rfl
        · -- of another key
          have hf : rdf key bl x = none := rdf_none fun a b v i e => by rw [hv] at e; cases e; exact hsk rfl
          split
          · exact keep s n hsk
          · cases n with
            | succ n =>
              rw [List.drop_succ_cons]
              exact keep s n hsk
            | zero =>
              rw [List.drop_zero]
              have hD : gk (delO x :: go to_ s l) = x.key :: gk (go to_ s l) := rfl
              rw [hD, rdel_cons_in List.mem_cons_self, rdel_skip hx]
              have ih := rd_same hlt (key := key) 0 hs' hsk
              rw [List.drop_zero] at ih
              rw [ih]
              unfold rdC
              rw [List.findSome?_cons, hf]
/-- Swept again nothing is left to do. -/
theorem go_again {to_ : Int × Int} : ∀ {l : List Rw} {a0 a1 : ByteArray}, RSor l → (∀ y ∈ l, ∀ s a b v i, vrd y = some (s, a, b, v, i) → Op.bytesLess (sb s) (sb a0) = false) →
    (∀ y ∈ l, ∀ s a b v i, vrd y = some (s, a, b, v, i) → s ≠ a0 → s ≠ a1) → go to_ a1 (rdel l (gk (go to_ a0 l))) = []
  | [], _, _, _, _, _ => rfl
  | x :: l, a0, a1, hs, hB, hA => by
    have hs' : RSor l := (List.pairwise_cons.1 hs).2
    have hx := (List.pairwise_cons.1 hs).1
    have hB' := fun y hy => hB y (List.mem_cons_of_mem _ hy)
    have hA' := fun y hy => hA y (List.mem_cons_of_mem _ hy)
    have out : ∀ (a2 : ByteArray), x.key ∉ gk (go to_ a2 l) := by
      intro a2 hm
      obtain ⟨y, hy, e⟩ := gk_mem hm
      exact kl_ne (hx y hy) e.symm
    cases hv : vrd x with
    | none =>
      have e1 : go to_ a0 (x :: l) = go to_ a0 l := by
        conv => lhs; unfold go
        rw [hv]
      rw [e1, rdel_cons_out (out a0)]
      unfold go
      rw [hv]
      exact go_again hs' hB' hA'
    | some q =>
      obtain ⟨s, a, b, v, i⟩ := q
      have e0 : go to_ a0 (x :: l) = if lt to_ (a, b) = true then go to_ a0 l else if (decide (s ≠ a0) && i) = true then go to_ s l else delO x :: go to_ s l := by
        conv => lhs; unfold go
        rw [hv]
      rw [e0]
      have hBs : ∀ y ∈ l, ∀ t a b v i, vrd y = some (t, a, b, v, i) → Op.bytesLess (sb t) (sb s) = false := fun y hy t c d u j h => (vrd_ord hv h (hx y hy)).1
      split
      · rename_i hl
        rw [rdel_cons_out (out a0)]
        unfold go
        rw [hv]
        simp only
        rw [if_pos hl]
        exact go_again hs' hB' hA'
      · rename_i hl
        split
        · rename_i hc
          have hne : s ≠ a0 := by
            intro e
            rw [e] at hc
            simp at hc
          have hi : i = true := by
            cases i
            · simp at hc
            · rfl
          have h1 := hA x List.mem_cons_self _ _ _ _ _ hv hne
          rw [rdel_cons_out (out s)]
          unfold go
          rw [hv]
          simp only
          rw [if_neg hl, if_pos (by simp [h1, hi])]
          exact go_again hs' hBs (fun y hy t c d u j h hne => hne)
        · rename_i hc
          have hD : gk (delO x :: go to_ s l) = x.key :: gk (go to_ s l) := rfl
          rw [hD, rdel_cons_in List.mem_cons_self, rdel_skip hx]
          refine go_again hs' hBs fun y hy t c d u j h hne => ?_
          by_cases hta : t = a0
          · -- then the key ahead is this one's too
            exfalso
            apply hne
            have e1 := hBs y hy t c d u j h
            have e2 := hB x List.mem_cons_self _ _ _ _ _ hv
            rw [hta] at e1 ⊢
            have := kb_total e1 e2
            rw [← bs_sb a0, ← bs_sb s, this]
          · exact hA y (List.mem_cons_of_mem _ hy) t c d u j h hta
end Go.Proofs.YtldbmogondmgmaaGreatDoor
set_option linter.unusedVariables false
set_option linter.unusedSimpArgs false
set_option maxRecDepth 100000
namespace Go.Proofs.YtldbmogondmgmaaGreatDoor
open Go.RowKit

theorem cell_set_ne {w : World} {g i : Nat} {u : Value} {p : Addr} (h : p.block ≠ g) : (w.setCell ⟨g, i, none⟩ u).cell? p = w.cell? p := by
  unfold World.cell? World.setCell
  simp only [Array.getElem?_modify]
  rw [if_neg (fun e => h e.symm)]
theorem ChAt.put {w : World} {A : Option Addr} {n g i : Nat} {u : Value} {l : List Ch} (h : ChAt w A n l) (ha : 0 < n → ∀ a, A = some a → a.block ≠ g) : ChAt (w.setCell ⟨g, i, none⟩ u) A n l := by
  refine ⟨h.1, fun hn => ?_⟩
  obtain ⟨b, o, e, hc⟩ := h.2 hn
  have hb : b ≠ g := ha hn _ e
  refine ⟨b, o, e, fun i hi => ?_⟩
  obtain ⟨h1, h2, h3⟩ := hc i hi
  exact ⟨(cell_set_ne (by exact hb)).trans h1, (cell_set_ne (by exact hb)).trans h2, (cell_set_ne (by exact hb)).trans h3⟩
theorem ChAt.apart {w : World} {A : Option Addr} {n g : Nat} {t : TypeId} {cs : Array Value} {l : List Ch} (h : ChAt w A n l) (hB : Blk w g t cs)
    (hno : ∀ o q s d, cs[o]? = some (.int .i64 q) → cs[o + 1]? = some (.string s) → cs[o + 2]? = some (.bool d) → False) : 0 < n → ∀ a, A = some a → a.block ≠ g := by
  rintro hn a rfl e
  obtain ⟨b, o, e2, hc⟩ := h.2 hn
  cases e2
  simp only at e
  subst e
  obtain ⟨h1, h2, h3⟩ := hc 0 (by have := h.1; omega)
  rw [hB.cell] at h1 h2 h3
  simp only [Nat.zero_mul, Nat.add_zero] at h1 h2 h3
  exact hno _ _ _ _ h1 h2 h3
end Go.Proofs.YtldbmogondmgmaaGreatDoor
set_option linter.unusedVariables false
set_option linter.unusedSimpArgs false
set_option maxRecDepth 100000
namespace Go.Proofs.YtldbmogondmgmaaGreatDoor
open Go.RowKit Go.Shelf
attribute [local go_sem] Oper.semAt_some

theorem pk_from_put {B g i : Nat} {u : Value} {t : TypeId} {cs : Array Value} {W : World} (h : Blk W g t cs) : KeepsFrom B W (W.setCell ⟨g, i, none⟩ u) := by
  refine ⟨by simp [World.setCell], fun k o _ hk ho => ?_⟩
  have hne : g ≠ k := by
    rintro rfl
    unfold Blk at h
    rw [h] at hk
    cases hk
    cases ho
  simp only [World.setCell, Array.getElem?_modify]
  rw [if_neg hne, hk]
theorem vkey_le (key : ByteArray) (a b : Int) (h : isK key = true) : (bs (vkey (sb key) a b)).size ≤ 1000 := by
  have h1 := okey_len key (isK_iff.1 h).2
  have h2 := odown_le a b
  show (vkey _ _ _).length ≤ _
  simp only [vkey, List.length_cons, List.length_append]
  omega
theorem pkVKey (key : ByteArray) (a b : Int) (hk : isK key = true) (hm : may a b = true) (W : World) (hM : MaxL W) :
    Calls Tryz.prog 130 #[.string key, sv a b] W fun e w' => e = .returned (.tuple #[.string (bs (vkey (sb key) a b)), .int .i64 0]) ∧ Below W.heap.size W w' := by
  have := versionKey_c key a b W hM hm
  unfold markK at this
  rw [if_pos hk] at this
  have e : ([118] ++ okey (sb key) ++ odown a b : List UInt8) = vkey (sb key) a b := by simp [vkey]
  rw [e] at this
  exact this
theorem heap_set_ne {W : World} {g i D : Nat} {u : Value} (h : D ≠ g) : (W.setCell ⟨g, i, none⟩ u).heap[D]? = W.heap[D]? := by
  simp only [World.setCell, Array.getElem?_modify]
  rw [if_neg (fun e => h e.symm)]
theorem Has.all15 {w V : World} {l : List As} {g : Nat} {t : TypeId} {c0 c1 c2 c3 c4 c5 c6 c7 c8 c9 c10 c11 c12 c13 c14 v0 v1 v2 v3 v4 v5 v6 v7 v8 v9 v10 v11 v12 v13 v14 : Value} (h : Has w (blkA g t #[c0, c1, c2, c3, c4, c5, c6, c7, c8, c9, c10, c11, c12, c13, c14] :: l) V) : Has w (blkA g t #[v0, v1, v2, v3, v4, v5, v6, v7, v8, v9, v10, v11, v12, v13, v14] :: l) (((((((((((((((V.setCell ⟨g, 0, none⟩ v0).setCell ⟨g, 1, none⟩ v1).setCell ⟨g, 2, none⟩ v2).setCell ⟨g, 3, none⟩ v3).setCell ⟨g, 4, none⟩ v4).setCell ⟨g, 5, none⟩ v5).setCell ⟨g, 6, none⟩ v6).setCell ⟨g, 7, none⟩ v7).setCell ⟨g, 8, none⟩ v8).setCell ⟨g, 9, none⟩ v9).setCell ⟨g, 10, none⟩ v10).setCell ⟨g, 11, none⟩ v11).setCell ⟨g, 12, none⟩ v12).setCell ⟨g, 13, none⟩ v13).setCell ⟨g, 14, none⟩ v14) := by
  have := (((((((((((((((h.setBlk 0 v0).setBlk 1 v1).setBlk 2 v2).setBlk 3 v3).setBlk 4 v4).setBlk 5 v5).setBlk 6 v6).setBlk 7 v7).setBlk 8 v8).setBlk 9 v9).setBlk 10 v10).setBlk 11 v11).setBlk 12 v12).setBlk 13 v13).setBlk 14 v14)
  simpa using this
theorem ansV_form (o : Option (ByteArray × Bool)) : ∃ v i n, AnsV o = .returned (.tuple #[.string v, .bool i, .int .i64 n]) := by
  cases o with
  | none => exact ⟨_, _, _, rfl⟩
  | some x => exact ⟨_, _, _, rfl⟩
end Go.Proofs.YtldbmogondmgmaaGreatDoor
set_option linter.unusedVariables false
set_option linter.unusedSimpArgs false
set_option maxRecDepth 100000
namespace Go.Proofs.YtldbmogondmgmaaGreatDoor
open Go.RowKit
attribute [local go_sem high] run_max_strs

theorem smax_is {X : ByteArray} (h : X.size ≤ 32) : isK (smax X zr) = true := by
  rw [isK_iff]
  unfold smax
  split
  · exact ⟨by decide, by decide⟩
  · rename_i h1
    refine ⟨?_, h⟩
    rcases Nat.eq_zero_or_pos X.size with h0 | h0
    · exfalso
      apply h1
      have e : X.toList = [] := by
        rw [Lib.toList_data]
        exact List.eq_nil_of_length_eq_zero (by rw [Array.length_toList]; exact h0)
      rw [e, Lib.toList_data]
      rfl
    · exact h0
set_option maxHeartbeats 1000000 in
theorem swFrom (X : ByteArray) (w : World) (hM : MaxL w) (hs : X.size ≤ 9223372036854775807) :
    Calls Tryz.prog 82 #[.string X] w fun e w' => e = .returned (.string (vfr X)) ∧ Below w.heap.size w w' := by
  unfold vfr
  by_cases h : 32 < X.size
  · rw [if_pos h]
    have h32 : (32 : Int) ≤ (X.size : Int) := by omega
    have hk : isK (X.extract 0 32) = true := by rw [isK_iff, extract_size X 32 (by omega)]; omega
    have HV := Lib.hid (pkVKey (X.extract 0 32) 0 0 hk (by decide) w hM)
    have hle := vkey_le (X.extract 0 32) 0 0 hk
    have hz : zr = ⟨#[0]⟩ := rfl
    rw [hz]
    obtain ⟨Y, hY⟩ : ∃ Y, X.extract 0 32 = Y := ⟨_, rfl⟩
    rw [hY] at HV hle ⊢
    generalize bs (vkey (sb Y) 0 0) = k at *
    have hsz : ¬ 9223372036854775807 < k.size + (⟨#[0]⟩ : ByteArray).size := by
      have : (⟨#[0]⟩ : ByteArray).size = 1 := rfl
      omega
    have HY := Lib.hid hY
    clear hY hk hle hM
    go_enter Tryz.func82, Tryz.ntmps82
    go_wp2_with (go_at_call 130; rw [HY.out]; refine HV.out.mono ?_; rintro e w1 ⟨rfl, hb1⟩)
    go_ret
    exact ⟨rfl, hb1⟩
  · rw [if_neg h]
    have hk := smax_is (X := X) (by omega)
    have HV := Lib.hid (pkVKey (smax X zr) 1099511627776 1048575 hk (by decide) w hM)
    have hz : zr = ⟨#[0]⟩ := rfl
    rw [hz] at HV ⊢
    clear hM hk
    go_enter Tryz.func82, Tryz.ntmps82
    go_wp2_with (go_at_call 130; refine HV.out.mono ?_; rintro e w1 ⟨rfl, hb1⟩)
    go_ret
    exact ⟨rfl, hb1⟩
theorem ne_list (s t : ByteArray) : (s.toList != t.toList) = decide (s ≠ t) := by
  by_cases h : s = t
  · subst h
    simp
  · have h2 : s.toList ≠ t.toList := fun e => h (by
      rw [Lib.toList_data, Lib.toList_data] at e
      exact ByteArray.ext (Array.toList_inj.1 e))
    rw [decide_eq_true h]
    simpa using h2
section
variable {w V : World} {T : List As} {p g N : Nat} {r : List Rw}
theorem Has.swFirsts (h : Has w T V) : Calls Tryz.prog 81 #[] V fun e w' => ∃ g, e = .returned (.func (.func 146) #[] #[pt g]) ∧ Has w (blkA g 9 #[.string ⟨#[]⟩] :: T) w' ∧ Below V.heap.size V w' := by
  have H := Lib.hid (h.newBlk 9 #[.string ⟨#[]⟩])
  have B := Lib.hid (nbl V (.cells #[.string ⟨#[]⟩] 9))
  clear h
  go_enter Tryz.func81, Tryz.ntmps81
  go_wp2_with fail
  go_ret
  exact ⟨_, rfl, H.out, B.out⟩
theorem Has.swFirst {a0 : ByteArray} (h : Has w (blkA g 9 #[.string a0] :: T) V) (s : ByteArray) :
    Calls Tryz.prog 146 #[.string s, pt g] V fun e w' => e = .returned (.bool (decide (s ≠ a0))) ∧ Has w (blkA g 9 #[.string s] :: T) w' ∧ ∀ n, KeepsFrom n V w' := by
  have hb := h.blk.1
  have c0 := hb.cell 0
  have f0 := hb.frozen 0
  simp at c0
  have H2 := Lib.hid (h.setBlk 0 (.string s))
  have HK := Lib.hid (fun n => pk_from_put (B := n) (i := 0) (u := .string s) hb)
  clear h hb
  rw [← ne_list]
  go_enter Tryz.func146, Tryz.ntmps146
  go_wp2_with fail
  go_ret
  exact ⟨rfl, H2.out, HK.out⟩
set_option maxHeartbeats 4000000 in
theorem swCheck (h : Has w (tbA p r :: T) V) (hr : ROk N r) (hN : N ≤ 999999000) (F X : ByteArray) (a b : Int) :
    Calls Tryz.prog 80 #[pt p, .agg #[.string F, .string X], sv a b] V fun e w' => e = .returned (.int .i64 (swE F X (a, b))) ∧ Has w (tbA p r :: T) w' := by
  have hz1 : (V.alloc (.cells #[.string F, .string X] 66)).heap.size = V.heap.size + 1 := World.size_alloc _ _
  have h1 := (h.newBlk 66 #[.string F, .string X]).newBlk 26 #[.int .i64 a, .int .i64 b]
  rw [hz1] at h1
  have h2 := h1.perm (List.perm_middle (l₁ := [_, _]))
  have HA := Lib.hid (Has.tbApply h2 hr hN none 0 0 [] (OAt.nil _ _) (by omega) (fun o ho => nomatch ho))
  have hrr : rapp r [] = r := rfl
  have hcc : chk [] = 0 := rfl
  rw [hrr, hcc] at HA
  have HE := Lib.hid (show swE F X (a, b) = if 33 < F.size ∨ 33 < X.size then 5 else if Op.bytesLess F.toList X.toList = false ∨ may a b = false then 2 else 0 from rfl)
  have HC := Lib.hid (fun W => check_c a b W)
  have HCK := Lib.hid (show ck a b = if may a b = true then 0 else 9 from by unfold ck; cases may a b <;> rfl)
  rw [HE.out]
  clear h h1 h2 hr hN hz1 hrr hcc HE
  have arms : True := trivial
  by_cases hF : 33 < F.size
  · rw [if_pos (.inl hF)]
    have hFi : (33 : Int) < (F.size : Int) := by omega
    go_enter Tryz.func80, Tryz.ntmps80
    go_wp2_with (first
      | (go_at_call 27; refine HA.out.mono ?_; rintro e w1 ⟨rfl, h3, -⟩
         have z1 := h3.blkAt (g := V.heap.size) (t := 66) (cs := #[.string F, .string X]) (by simp)
         have cf0 := z1.cell 0
         have cf1 := z1.cell 1
         simp at cf0 cf1
         have H3 := Lib.hid h3
         clear h3 z1))
    go_ret
    exact ⟨rfl, (H3.out.perm (List.perm_middle (l₁ := [_, _])).symm).tail.tail⟩
  have hFi : ¬ (33 : Int) < (F.size : Int) := by omega
  by_cases hX : 33 < X.size
  · rw [if_pos (.inr hX)]
    have hXi : (33 : Int) < (X.size : Int) := by omega
    go_enter Tryz.func80, Tryz.ntmps80
    go_wp2_with (first
      | (go_at_call 27; refine HA.out.mono ?_; rintro e w1 ⟨rfl, h3, -⟩
         have z1 := h3.blkAt (g := V.heap.size) (t := 66) (cs := #[.string F, .string X]) (by simp)
         have cf0 := z1.cell 0
         have cf1 := z1.cell 1
         simp at cf0 cf1
         have H3 := Lib.hid h3
         clear h3 z1))
    go_ret
    exact ⟨rfl, (H3.out.perm (List.perm_middle (l₁ := [_, _])).symm).tail.tail⟩
  have hXi : ¬ (33 : Int) < (X.size : Int) := by omega
  rw [if_neg (fun h => h.elim hF hX)]
  cases hlt : Op.bytesLess F.toList X.toList with
  | false =>
    rw [if_pos (.inl rfl)]
    go_enter Tryz.func80, Tryz.ntmps80
    go_wp2_with (first
      | (go_at_call 27; refine HA.out.mono ?_; rintro e w1 ⟨rfl, h3, -⟩
         have z1 := h3.blkAt (g := V.heap.size) (t := 66) (cs := #[.string F, .string X]) (by simp)
         have cf0 := z1.cell 0
         have cf1 := z1.cell 1
         simp at cf0 cf1
         have H3 := Lib.hid h3
         clear h3 z1))
    go_ret
    exact ⟨rfl, (H3.out.perm (List.perm_middle (l₁ := [_, _])).symm).tail.tail⟩
  | true =>
    rw [HCK.out] at HC
    cases hm : may a b with
    | false =>
      rw [if_pos (.inr rfl)]
      rw [hm] at HC
      go_enter Tryz.func80, Tryz.ntmps80
      go_wp2_with (first
        | (go_at_call 27; refine HA.out.mono ?_; rintro e w1 ⟨rfl, h3, -⟩
           have z1 := h3.blkAt (g := V.heap.size) (t := 66) (cs := #[.string F, .string X]) (by simp)
           have cf0 := z1.cell 0
           have cf1 := z1.cell 1
           simp at cf0 cf1
           have z2 := h3.blkAt (g := V.heap.size + 1) (t := 26) (cs := #[.int .i64 a, .int .i64 b]) (by simp)
           have ct0 := z2.cell 0
           have ct1 := z2.cell 1
           simp at ct0 ct1
           have H3 := Lib.hid h3
           clear h3 z1 z2)
        | (go_at_call 145; refine (HC.out _).mono ?_; rintro e w2 ⟨rfl, hb2⟩; have H4 := Lib.hid (H3.out.keep hb2); clear hb2))
      go_ret
      exact ⟨rfl, (H4.out.perm (List.perm_middle (l₁ := [_, _])).symm).tail.tail⟩
    | true =>
      rw [if_neg (by simp)]
      rw [hm] at HC
      go_enter Tryz.func80, Tryz.ntmps80
      go_wp2_with (first
        | (go_at_call 27; refine HA.out.mono ?_; rintro e w1 ⟨rfl, h3, -⟩
           have z1 := h3.blkAt (g := V.heap.size) (t := 66) (cs := #[.string F, .string X]) (by simp)
           have cf0 := z1.cell 0
           have cf1 := z1.cell 1
           simp at cf0 cf1
           have z2 := h3.blkAt (g := V.heap.size + 1) (t := 26) (cs := #[.int .i64 a, .int .i64 b]) (by simp)
           have ct0 := z2.cell 0
           have ct1 := z2.cell 1
           simp at ct0 ct1
           have H3 := Lib.hid h3
           clear h3 z1 z2)
        | (go_at_call 145; refine (HC.out _).mono ?_; rintro e w2 ⟨rfl, hb2⟩; have H4 := Lib.hid (H3.out.keep hb2); clear hb2))
      go_ret
      exact ⟨rfl, (H4.out.perm (List.perm_middle (l₁ := [_, _])).symm).tail.tail⟩
end
end Go.Proofs.YtldbmogondmgmaaGreatDoor
