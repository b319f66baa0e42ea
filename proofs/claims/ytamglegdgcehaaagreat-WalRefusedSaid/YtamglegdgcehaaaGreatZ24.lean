/-
  Layer 8: a log's disk: three files at most; what works make of them.
  Layer 8: what opening makes of a log, wherever the power went.
  Layer 8: what a log's calls make of its disk, plainly: also where the power goes.
  Layer 8: the chapter's examples, plainly.
-/
import Derived.Test.YtamglegdgcehaaaGreatZ10
set_option linter.unusedVariables false
namespace Go.Proofs.YtamglegdgcehaaaGreat
open Go.RowKit

/-- A file's bytes, and its mark. -/
abbrev Fm := List UInt8 × Nat
structure T3 where
  b : Option Fm
  l : Option Fm
  n : Option Fm
def fo (s : ByteArray) : Option Fm → List Fl
  | none => []
  | some x => [⟨s, x.1, x.2⟩]
def T3.fl (t : T3) : List Fl := fo nBase t.b ++ (fo nLog t.l ++ fo nNext t.n)
theorem nl_bl : nl nBase nLog = true := by unfold nl; rw [Lib.toList_data, Lib.toList_data]; rfl
theorem nl_lb : nl nLog nBase = false := by unfold nl; rw [Lib.toList_data, Lib.toList_data]; rfl
theorem nl_bn : nl nBase nNext = true := by unfold nl; rw [Lib.toList_data, Lib.toList_data]; rfl
theorem nl_nb : nl nNext nBase = false := by unfold nl; rw [Lib.toList_data, Lib.toList_data]; rfl
theorem nl_ln : nl nLog nNext = true := by unfold nl; rw [Lib.toList_data, Lib.toList_data]; rfl
theorem nl_nl : nl nNext nLog = false := by unfold nl; rw [Lib.toList_data, Lib.toList_data]; rfl
theorem ne_bl : nBase ≠ nLog := by decide
theorem ne_bn : nBase ≠ nNext := by decide
theorem ne_ln : nLog ≠ nNext := by decide
theorem may_base : mayN nBase = true := by decide
theorem may_log : mayN nLog = true := by decide
theorem may_next : mayN nNext = true := by decide
def bsO (o : Option Fm) : List UInt8 := match o with | none => [] | some x => x.1
def mkO (o : Option Fm) : Nat := match o with | none => 0 | some x => x.2
section
variable (b l n : Option Fm)
theorem fl_posB : pos (T3.mk b l n).fl nBase = 0 := by
  unfold pos T3.fl
  cases b <;> cases l <;> cases n <;> simp [fo, nl_irr, nl_lb, nl_nb]
theorem fl_posL : pos (T3.mk b l n).fl nLog = if b.isSome then 1 else 0 := by
  unfold pos T3.fl
  cases b <;> cases l <;> cases n <;> simp [fo, nl_irr, nl_bl, nl_nl]
theorem fl_posN : pos (T3.mk b l n).fl nNext = (if b.isSome then 1 else 0) + (if l.isSome then 1 else 0) := by
  unfold pos T3.fl
  cases b <;> cases l <;> cases n <;> simp [fo, nl_irr, nl_bn, nl_ln]
theorem fl_isB : isAt (T3.mk b l n).fl nBase = b.isSome := by
  unfold isAt
  rw [fl_posB]
  cases b <;> cases l <;> cases n <;> simp [T3.fl, fo, ne_bl.symm, ne_bn.symm]
theorem fl_isL : isAt (T3.mk b l n).fl nLog = l.isSome := by
  unfold isAt
  rw [fl_posL]
  cases b <;> cases l <;> cases n <;> simp [T3.fl, fo, ne_ln.symm]
theorem fl_isN : isAt (T3.mk b l n).fl nNext = n.isSome := by
  unfold isAt
  rw [fl_posN]
  cases b <;> cases l <;> cases n <;> simp [T3.fl, fo]
theorem fl_atB : fileAt (T3.mk b l n).fl nBase = ⟨nBase, bsO b, mkO b⟩ := by
  unfold fileAt
  rw [fl_isB, fl_posB]
  cases b <;> cases l <;> cases n <;> simp [T3.fl, fo, bsO, mkO]
theorem fl_atL : fileAt (T3.mk b l n).fl nLog = ⟨nLog, bsO l, mkO l⟩ := by
  unfold fileAt
  rw [fl_isL, fl_posL]
  cases b <;> cases l <;> cases n <;> simp [T3.fl, fo, bsO, mkO]
theorem fl_atN : fileAt (T3.mk b l n).fl nNext = ⟨nNext, bsO n, mkO n⟩ := by
  unfold fileAt
  rw [fl_isN, fl_posN]
  cases b <;> cases l <;> cases n <;> simp [T3.fl, fo, bsO, mkO]
theorem fl_withB (x : List UInt8) (m : Nat) : withF (T3.mk b l n).fl ⟨nBase, x, m⟩ = (T3.mk (some (x, m)) l n).fl := by
  unfold withF
  simp only [fl_posB, fl_isB]
  cases b <;> cases l <;> cases n <;> simp [T3.fl, fo]
theorem fl_withL (x : List UInt8) (m : Nat) : withF (T3.mk b l n).fl ⟨nLog, x, m⟩ = (T3.mk b (some (x, m)) n).fl := by
  unfold withF
  simp only [fl_posL, fl_isL]
  cases b <;> cases l <;> cases n <;> simp [T3.fl, fo]
theorem fl_withN (x : List UInt8) (m : Nat) : withF (T3.mk b l n).fl ⟨nNext, x, m⟩ = (T3.mk b l (some (x, m))).fl := by
  unfold withF
  simp only [fl_posN, fl_isN]
  cases b <;> cases l <;> cases n <;> simp [T3.fl, fo]
theorem fl_outL : without (T3.mk b l n).fl nLog = (T3.mk b none n).fl := by
  unfold without
  rw [fl_isL, fl_posL]
  cases b <;> cases l <;> cases n <;> simp [T3.fl, fo]
theorem fl_outN : without (T3.mk b l n).fl nNext = (T3.mk b l none).fl := by
  unfold without
  rw [fl_isN, fl_posN]
  cases b <;> cases l <;> cases n <;> simp [T3.fl, fo]
theorem fl_setL (h : l.isSome = true) (x : List UInt8) (m : Nat) : setAt (T3.mk b l n).fl nLog ⟨nLog, x, m⟩ = (T3.mk b (some (x, m)) n).fl := by
  unfold setAt
  rw [fl_posL]
  cases l with
  | none => cases h
  | some y => cases b <;> cases n <;> simp [T3.fl, fo]
theorem fl_setN (h : n.isSome = true) (x : List UInt8) (m : Nat) : setAt (T3.mk b l n).fl nNext ⟨nNext, x, m⟩ = (T3.mk b l (some (x, m))).fl := by
  unfold setAt
  rw [fl_posN]
  cases n with
  | none => cases h
  | some y => cases b <;> cases l <;> simp [T3.fl, fo]
theorem fl_setB (h : b.isSome = true) (x : List UInt8) (m : Nat) : setAt (T3.mk b l n).fl nBase ⟨nBase, x, m⟩ = (T3.mk (some (x, m)) l n).fl := by
  unfold setAt
  rw [fl_posB]
  cases b with
  | none => cases h
  | some y => cases l <;> cases n <;> simp [T3.fl, fo]
theorem fl_sum : sum (T3.mk b l n).fl = (bsO b).length + (bsO l).length + (bsO n).length := by
  unfold sum
  cases b <;> cases l <;> cases n <;> simp [T3.fl, fo, bsO] <;> omega
theorem fl_len : (T3.mk b l n).fl.length ≤ 3 := by cases b <;> cases l <;> cases n <;> simp [T3.fl, fo]
end
/-- A file behind a fall: a beginning, with all that is synced; it is kept. -/
def Fel : Option Fm → Option Fm → Prop
  | none, none => True
  | some x, some y => ∃ j, x.2 ≤ j ∧ j ≤ x.1.length ∧ y = (x.1.take j, j)
  | _, _ => False
def Fell (t u : T3) : Prop := Fel t.b u.b ∧ Fel t.l u.l ∧ Fel t.n u.n
def T3.marks (t : T3) : Prop := (mkO t.b ≤ (bsO t.b).length) ∧ (mkO t.l ≤ (bsO t.l).length) ∧ (mkO t.n ≤ (bsO t.n).length)
theorem fallF_one (keep : List Int) (i : Nat) (s : ByteArray) (x : Fm) (h : x.2 ≤ x.1.length) : ∃ y, Fel (some x) (some y) ∧ fallF keep i ⟨s, x.1, x.2⟩ = ⟨s, y.1, y.2⟩ := by
  obtain ⟨bs, m⟩ := x
  have hk : ∃ k, k ≤ bs.length - m ∧ (if i < keep.length then brn (keep.getD i 0) (bs.length - m + 1) else 0) = k := by
    refine ⟨_, ?_, rfl⟩
    split
    · unfold brn
      rw [if_neg (by omega)]
      have h1 := Int.emod_nonneg (keep.getD i 0) (b := ((bs.length - m + 1 : Nat) : Int)) (by omega)
      have h2 := Int.emod_lt_of_pos (keep.getD i 0) (b := ((bs.length - m + 1 : Nat) : Int)) (by omega)
      omega
    · omega
  obtain ⟨k, hk1, hk2⟩ := hk
  refine ⟨(bs.take (m + k), m + k), ⟨m + k, by simp, by simp at h ⊢; omega, rfl⟩, ?_⟩
  unfold fallF
  simp only [hk2]
theorem fall_fl (keep : List Int) (t : T3) (h : t.marks) : ∃ u, Fell t u ∧ fall keep t.fl = u.fl := by
  obtain ⟨b, l, n⟩ := t
  obtain ⟨hb, hl, hn⟩ := h
  have B : ∃ b', Fel b b' ∧ ∀ i, ∃ b', Fel b b' ∧ (fo nBase b).mapIdx (fun j f => fallF keep (j + i) f) = fo nBase b' := by
    cases b with
    | none => exact ⟨none, trivial, fun i => ⟨none, trivial, rfl⟩⟩
    | some x =>
      obtain ⟨y, h1, h2⟩ := fallF_one keep 0 nBase x hb
      refine ⟨some y, h1, fun i => ?_⟩
      obtain ⟨y, h1, h2⟩ := fallF_one keep (0 + i) nBase x hb
      exact ⟨some y, h1, by simp only [fo, List.mapIdx_cons, List.mapIdx_nil, h2]⟩
  have L : ∀ i, ∃ b', Fel l b' ∧ (fo nLog l).mapIdx (fun j f => fallF keep (j + i) f) = fo nLog b' := by
    cases l with
    | none => exact fun i => ⟨none, trivial, rfl⟩
    | some x =>
      refine fun i => ?_
      obtain ⟨y, h1, h2⟩ := fallF_one keep (0 + i) nLog x hl
      exact ⟨some y, h1, by simp only [fo, List.mapIdx_cons, List.mapIdx_nil, h2]⟩
  have N : ∀ i, ∃ b', Fel n b' ∧ (fo nNext n).mapIdx (fun j f => fallF keep (j + i) f) = fo nNext b' := by
    cases n with
    | none => exact fun i => ⟨none, trivial, rfl⟩
    | some x =>
      refine fun i => ?_
      obtain ⟨y, h1, h2⟩ := fallF_one keep (0 + i) nNext x hn
      exact ⟨some y, h1, by simp only [fo, List.mapIdx_cons, List.mapIdx_nil, h2]⟩
  obtain ⟨_, _, B⟩ := B
  obtain ⟨b', hb1, hb2⟩ := B 0
  obtain ⟨l', hl1, hl2⟩ := L (fo nBase b).length
  obtain ⟨n', hn1, hn2⟩ := N ((fo nBase b).length + (fo nLog l).length)
  refine ⟨⟨b', l', n'⟩, ⟨hb1, hl1, hn1⟩, ?_⟩
  unfold fall T3.fl
  simp only
  rw [List.mapIdx_append, List.mapIdx_append, ← hb2, ← hl2, ← hn2]
  simp only [Nat.add_zero]
  congr 2
  congr 1
  funext i f
  congr 1
  omega
theorem Fel.bs {o o' : Option Fm} (h : Fel o o') : ∃ j, mkO o ≤ j ∧ j ≤ (bsO o).length ∧ bsO o' = (bsO o).take j ∧ mkO o' = j ∧ (bsO o').length = j ∧ o'.isSome = o.isSome := by
  cases o <;> cases o'
  · exact ⟨0, Nat.le_refl _, Nat.le_refl _, rfl, rfl, rfl, rfl⟩
  · exact h.elim
  · exact h.elim
  · obtain ⟨j, h1, h2, rfl⟩ := h
    exact ⟨j, h1, h2, rfl, rfl, by simp only [bsO, List.length_take]; exact Nat.min_eq_left h2, rfl⟩

/-! ### works -/
def dk (t : T3) (left : Int) (keep : List Int) : Dk := ⟨t.fl, false, left, keep⟩
def down (t : T3) (keep : List Int) : Dk := ⟨fall keep t.fl, true, -1, keep⟩
def dec (left : Int) : Int := if 0 < left then left - 1 else left
/-- A work that is done, or the power goes. -/
def Step (a : Doing) (t u : T3) : Prop := ∀ left keep, a (dk t left keep) = if left = 0 then (down t keep, 71) else (dk u (dec left) keep, 0)
/-- One that is refused. -/
def Nope (a : Doing) (t : T3) (e : Int) : Prop := ∀ left keep, a (dk t left keep) = (dk t left keep, e)
theorem work_dk (t u : T3) (left : Int) (keep : List Int) (g : List Fl → List Fl) (h : g t.fl = u.fl) : (work (dk t left keep) g, workE (dk t left keep)) = if left = 0 then (down t keep, (71 : Int)) else (dk u (dec left) keep, 0) := by
  unfold work workE dk
  by_cases h0 : left = 0
  · simp only [h0, if_true]
    rfl
  · simp only [h0, if_false, h]
    rfl
section
variable (b l n : Option Fm)
theorem app_l (xs : List UInt8) (h : (bsO b).length + (bsO l).length + (bsO n).length + xs.length ≤ 4194304) : Step (aApp nLog xs) ⟨b, l, n⟩ ⟨b, some (bsO l ++ xs, mkO l), n⟩ := fun left keep => by
  unfold aApp app appE
  rw [show (dk ⟨b, l, n⟩ left keep).dead = false from rfl, may_log]
  have hs := fl_sum b l n
  have hf := fl_len b l n
  have hc : ¬ ((isAt (dk ⟨b, l, n⟩ left keep).l nLog = false ∧ 20 ≤ (dk ⟨b, l, n⟩ left keep).l.length) ∨ 4194304 < sum (dk ⟨b, l, n⟩ left keep).l + xs.length) := by
    show ¬ ((_ ∧ 20 ≤ (T3.mk b l n).fl.length) ∨ 4194304 < sum (T3.mk b l n).fl + xs.length)
    rw [hs]
    omega
  rw [if_neg hc]
  simp only [Bool.false_eq_true, if_false, reduceCtorEq]
  rw [if_neg hc]
  refine work_dk _ _ left keep _ ?_
  rw [fl_atL]
  exact fl_withL b l n _ _
theorem app_n (xs : List UInt8) (h : (bsO b).length + (bsO l).length + (bsO n).length + xs.length ≤ 4194304) : Step (aApp nNext xs) ⟨b, l, n⟩ ⟨b, l, some (bsO n ++ xs, mkO n)⟩ := fun left keep => by
  unfold aApp app appE
  rw [show (dk ⟨b, l, n⟩ left keep).dead = false from rfl, may_next]
  have hs := fl_sum b l n
  have hf := fl_len b l n
  have hc : ¬ ((isAt (dk ⟨b, l, n⟩ left keep).l nNext = false ∧ 20 ≤ (dk ⟨b, l, n⟩ left keep).l.length) ∨ 4194304 < sum (dk ⟨b, l, n⟩ left keep).l + xs.length) := by
    show ¬ ((_ ∧ 20 ≤ (T3.mk b l n).fl.length) ∨ 4194304 < sum (T3.mk b l n).fl + xs.length)
    rw [hs]
    omega
  rw [if_neg hc]
  simp only [Bool.false_eq_true, if_false, reduceCtorEq]
  rw [if_neg hc]
  refine work_dk _ _ left keep _ ?_
  rw [fl_atN]
  exact fl_withN b l n _ _
theorem app_full (s : ByteArray) (hs : mayN s = true) (xs : List UInt8) (h : 4194304 < (bsO b).length + (bsO l).length + (bsO n).length + xs.length) : Nope (aApp s xs) ⟨b, l, n⟩ 7 := fun left keep => by
  unfold aApp app appE
  rw [show (dk ⟨b, l, n⟩ left keep).dead = false from rfl, hs]
  have hc : ((isAt (dk ⟨b, l, n⟩ left keep).l s = false ∧ 20 ≤ (dk ⟨b, l, n⟩ left keep).l.length) ∨ 4194304 < sum (dk ⟨b, l, n⟩ left keep).l + xs.length) := by
    refine .inr ?_
    show 4194304 < sum (T3.mk b l n).fl + xs.length
    rw [fl_sum]
    omega
  simp only [Bool.false_eq_true, if_false, reduceCtorEq]
  rw [if_pos hc, if_pos hc]
theorem syn_l (x : Fm) : Step (aSyn nLog) ⟨b, some x, n⟩ ⟨b, some (x.1, x.1.length), n⟩ := fun left keep => by
  have hN : nmE (dk ⟨b, some x, n⟩ left keep) nLog = 0 := by unfold nmE; rw [show (dk ⟨b, some x, n⟩ left keep).dead = false from rfl, show (dk ⟨b, some x, n⟩ left keep).l = (T3.mk b (some x) n).fl from rfl, fl_isL]; rfl
  unfold aSyn syn synE
  rw [if_pos hN, if_pos hN]
  refine work_dk _ _ left keep _ ?_
  rw [fl_atL]
  exact fl_setL b (some x) n rfl _ _
theorem syn_n (x : Fm) : Step (aSyn nNext) ⟨b, l, some x⟩ ⟨b, l, some (x.1, x.1.length)⟩ := fun left keep => by
  have hN : nmE (dk ⟨b, l, some x⟩ left keep) nNext = 0 := by unfold nmE; rw [show (dk ⟨b, l, some x⟩ left keep).dead = false from rfl, show (dk ⟨b, l, some x⟩ left keep).l = (T3.mk b l (some x)).fl from rfl, fl_isN]; rfl
  unfold aSyn syn synE
  rw [if_pos hN, if_pos hN]
  refine work_dk _ _ left keep _ ?_
  rw [fl_atN]
  exact fl_setN b l (some x) rfl _ _
theorem syn_b (x : Fm) : Step (aSyn nBase) ⟨some x, l, n⟩ ⟨some (x.1, x.1.length), l, n⟩ := fun left keep => by
  have hN : nmE (dk ⟨some x, l, n⟩ left keep) nBase = 0 := by unfold nmE; rw [show (dk ⟨some x, l, n⟩ left keep).dead = false from rfl, show (dk ⟨some x, l, n⟩ left keep).l = (T3.mk (some x) l n).fl from rfl, fl_isB]; rfl
  unfold aSyn syn synE
  rw [if_pos hN, if_pos hN]
  refine work_dk _ _ left keep _ ?_
  rw [fl_atB]
  exact fl_setB (some x) l n rfl _ _
theorem ren_nb (x : Fm) : Step (aRen nNext nBase) ⟨b, l, some x⟩ ⟨some x, l, none⟩ := fun left keep => by
  have hN : nmE (dk ⟨b, l, some x⟩ left keep) nNext = 0 := by unfold nmE; rw [show (dk ⟨b, l, some x⟩ left keep).dead = false from rfl, show (dk ⟨b, l, some x⟩ left keep).l = (T3.mk b l (some x)).fl from rfl, fl_isN]; rfl
  unfold aRen ren renE
  rw [if_pos hN, if_pos hN, may_base]
  simp only [reduceCtorEq, if_false]
  refine work_dk _ _ left keep _ ?_
  rw [fl_atN, fl_outN]
  exact fl_withB b l none _ _
theorem rem_l (x : Fm) : Step (aRem nLog) ⟨b, some x, n⟩ ⟨b, none, n⟩ := fun left keep => by
  have hN : nmE (dk ⟨b, some x, n⟩ left keep) nLog = 0 := by unfold nmE; rw [show (dk ⟨b, some x, n⟩ left keep).dead = false from rfl, show (dk ⟨b, some x, n⟩ left keep).l = (T3.mk b (some x) n).fl from rfl, fl_isL]; rfl
  unfold aRem rem remE synE
  rw [if_pos hN, if_pos hN]
  refine work_dk _ _ left keep _ ?_
  exact fl_outL b (some x) n
theorem rm_l (x : Fm) : Step (aRm nLog) ⟨b, some x, n⟩ ⟨b, none, n⟩ := fun left keep => by
  have h := rem_l b n x left keep
  unfold aRem at h
  unfold aRm
  by_cases h0 : left = 0
  · rw [if_pos h0] at h ⊢
    injection h with h1 h2
    rw [h1, h2]
    rfl
  · rw [if_neg h0] at h ⊢
    injection h with h1 h2
    rw [h1, h2]
    rfl
theorem rm_n (x : Fm) : Step (aRm nNext) ⟨b, l, some x⟩ ⟨b, l, none⟩ := fun left keep => by
  have hN : nmE (dk ⟨b, l, some x⟩ left keep) nNext = 0 := by unfold nmE; rw [show (dk ⟨b, l, some x⟩ left keep).dead = false from rfl, show (dk ⟨b, l, some x⟩ left keep).l = (T3.mk b l (some x)).fl from rfl, fl_isN]; rfl
  have h := work_dk ⟨b, l, some x⟩ ⟨b, l, none⟩ left keep (fun q => without q nNext) (fl_outN b l (some x))
  unfold aRm rem remE synE
  rw [if_pos hN, if_pos hN]
  by_cases h0 : left = 0
  · rw [if_pos h0] at h ⊢
    injection h with h1 h2
    rw [h1, h2]
    rfl
  · rw [if_neg h0] at h ⊢
    injection h with h1 h2
    rw [h1, h2]
    rfl
theorem rm_none_l : Nope (aRm nLog) ⟨b, none, n⟩ 0 := fun left keep => by
  have hN : nmE (dk ⟨b, none, n⟩ left keep) nLog = 70 := by unfold nmE; rw [show (dk ⟨b, none, n⟩ left keep).dead = false from rfl, show (dk ⟨b, none, n⟩ left keep).l = (T3.mk b none n).fl from rfl, fl_isL]; rfl
  unfold aRm rem remE synE
  rw [hN]
  rfl
theorem rm_none_n : Nope (aRm nNext) ⟨b, l, none⟩ 0 := fun left keep => by
  have hN : nmE (dk ⟨b, l, none⟩ left keep) nNext = 70 := by unfold nmE; rw [show (dk ⟨b, l, none⟩ left keep).dead = false from rfl, show (dk ⟨b, l, none⟩ left keep).l = (T3.mk b l none).fl from rfl, fl_isN]; rfl
  unfold aRm rem remE synE
  rw [hN]
  rfl
theorem cut_l (x : Fm) (k : Nat) (hk : k ≤ x.1.length) : Step (aCut nLog k) ⟨b, some x, n⟩ ⟨b, some (x.1.take k, min x.2 k), n⟩ := fun left keep => by
  have hN : nmE (dk ⟨b, some x, n⟩ left keep) nLog = 0 := by unfold nmE; rw [show (dk ⟨b, some x, n⟩ left keep).dead = false from rfl, show (dk ⟨b, some x, n⟩ left keep).l = (T3.mk b (some x) n).fl from rfl, fl_isL]; rfl
  have hc : ¬ ((k : Int) < 0 ∨ ((fileAt (dk ⟨b, some x, n⟩ left keep).l nLog).bs.length : Int) < k) := by
    rw [show (dk ⟨b, some x, n⟩ left keep).l = (T3.mk b (some x) n).fl from rfl, fl_atL]
    show ¬ ((k : Int) < 0 ∨ ((x.1.length : Nat) : Int) < k)
    omega
  unfold aCut cut cutE
  rw [if_pos hN, if_pos hN, if_neg hc, if_neg hc]
  refine work_dk _ _ left keep _ ?_
  rw [fl_atL, Int.toNat_natCast]
  exact fl_setL b (some x) n rfl _ _
theorem rd_b (left : Int) (keep : List Int) : rdB (dk ⟨b, l, n⟩ left keep) nBase = bsO b ∧ rdE (dk ⟨b, l, n⟩ left keep) nBase = if b.isSome then 0 else 70 := by
  unfold rdB rdE nmE
  rw [show (dk ⟨b, l, n⟩ left keep).dead = false from rfl, show (dk ⟨b, l, n⟩ left keep).l = (T3.mk b l n).fl from rfl, fl_isB, fl_atB]
  cases b <;> simp [bsO]
theorem rd_l (left : Int) (keep : List Int) : rdB (dk ⟨b, l, n⟩ left keep) nLog = bsO l ∧ rdE (dk ⟨b, l, n⟩ left keep) nLog = if l.isSome then 0 else 70 := by
  unfold rdB rdE nmE
  rw [show (dk ⟨b, l, n⟩ left keep).dead = false from rfl, show (dk ⟨b, l, n⟩ left keep).l = (T3.mk b l n).fl from rfl, fl_isL, fl_atL]
  cases l <;> simp [bsO]
end
/-- Works one behind the other; where the power may go. -/
inductive Chain (Mid : T3 → Prop) : List Doing → T3 → T3 → Prop
  | nil (t : T3) : Chain Mid [] t t
  | cons {a : Doing} {l : List Doing} {t u v : T3} : Mid t → Step a t u → Chain Mid l u v → Chain Mid (a :: l) t v
  | skip {a : Doing} {l : List Doing} {t v : T3} : Nope a t 0 → Chain Mid l t v → Chain Mid (a :: l) t v
theorem Chain.run {Mid : T3 → Prop} {acts : List Doing} {t v : T3} (h : Chain Mid acts t v) : ∀ left keep,
    (∃ left', runA acts (dk t left keep) = (dk v left' keep, 0) ∧ (left < 0 → left' = left)) ∨ (0 ≤ left ∧ ∃ s, Mid s ∧ runA acts (dk t left keep) = (down s keep, 71)) := by
  induction h with
  | nil t => exact fun left keep => .inl ⟨left, rfl, fun _ => rfl⟩
  | cons hm hs hc ih =>
    rename_i a l t u v
    intro left keep
    have h1 := hs left keep
    by_cases h0 : left = 0
    · rw [if_pos h0] at h1
      refine .inr ⟨by omega, t, hm, ?_⟩
      show (if (a (dk t left keep)).2 = 0 then _ else _) = _
      rw [h1]
      rfl
    · rw [if_neg h0] at h1
      have e : runA (a :: l) (dk t left keep) = runA l (dk u (dec left) keep) := by
        show (if (a (dk t left keep)).2 = 0 then _ else _) = _
        rw [h1]
        rfl
      rw [e]
      rcases ih (dec left) keep with ⟨left', g1, g2⟩ | ⟨g1, g2⟩
      · refine .inl ⟨left', g1, fun hl => ?_⟩
        have : dec left = left := by unfold dec; rw [if_neg (by omega)]
        rw [g2 (by omega), this]
      · refine .inr ⟨?_, g2⟩
        unfold dec at g1
        split at g1 <;> omega
  | skip hn hc ih =>
    rename_i a l t v
    intro left keep
    have e : runA (a :: l) (dk t left keep) = runA l (dk t left keep) := by
      show (if (a (dk t left keep)).2 = 0 then _ else _) = _
      rw [hn left keep]
      rfl
    rw [e]
    exact ih left keep
theorem runA_app (xs ys : List Doing) (D : Dk) : runA (xs ++ ys) D = if (runA xs D).2 = 0 then runA ys (runA xs D).1 else runA xs D := by
  induction xs generalizing D with
  | nil => rfl
  | cons a xs ih =>
    rw [List.cons_append]
    show (if (a D).2 = 0 then runA (xs ++ ys) (a D).1 else a D) = _
    by_cases h : (a D).2 = 0
    · have e : runA (a :: xs) D = runA xs (a D).1 := by show (if (a D).2 = 0 then _ else _) = _; rw [if_pos h]
      rw [if_pos h, ih, e]
    · have e : runA (a :: xs) D = a D := by show (if (a D).2 = 0 then _ else _) = _; rw [if_neg h]
      rw [if_neg h, e, if_neg h]
theorem runA_one (a : Doing) (D : Dk) : runA [a] D = a D := by
  show (if (a D).2 = 0 then ((a D).1, (0 : Int)) else a D) = a D
  by_cases h : (a D).2 = 0
  · rw [if_pos h, ← h]
  · rw [if_neg h]
theorem runA_last (xs ys : List Doing) (D : Dk) : runA (xs ++ [runA ys]) D = runA (xs ++ ys) D := by
  rw [runA_app, runA_app, runA_one]
end Go.Proofs.YtamglegdgcehaaaGreat
set_option linter.unusedVariables false
namespace Go.Proofs.YtamglegdgcehaaaGreat
open Go.RowKit

/-- What a log is to have: its turn, the number of the last batch ahead, its rows, its batches. -/
structure Pl where
  t : Nat
  n : Nat
  rows : List Rw
  bats : List (List Op_)
structure Pl.ok (p : Pl) : Prop where
  t1 : 1 ≤ p.t
  t2 : p.t ≤ 1000000
  n2 : p.n + p.bats.length ≤ 1000000
  rows : rowsE p.rows = 0
  bats : BOk p.n p.bats
def BaseIs (o : Option Fm) (t n : Nat) (rows : List Rw) : Prop := (o = none ∧ t = 1 ∧ n = 0 ∧ rows = []) ∨ o = some (baseB t n rows, (baseB t n rows).length)
def Pl.log (p : Pl) : List UInt8 := logB p.t p.n p.bats
/-- How many bytes the log has up to batch k. -/
def Pl.upto (p : Pl) (k : Nat) : Nat := (logB p.t p.n (p.bats.take k)).length
def Pl.cut (p : Pl) (k : Nat) : Pl := ⟨p.t, p.n, p.rows, p.bats.take k⟩
structure Good (u : T3) (p : Pl) (k : Nat) : Prop where
  base : BaseIs u.b p.t p.n p.rows
  next : u.n = none
  kle : k ≤ p.bats.length
  log : ∃ m, u.l = some (p.log, m) ∧ p.upto k ≤ m ∧ m ≤ p.log.length
  sum : (bsO u.b).length + p.log.length ≤ 4194304
/-- The file "log" behind a fall (or not), from which the first k batches can be opened. -/
def LogIs (o : Option Fm) (p : Pl) (k : Nat) : Prop :=
  (k = 0 ∧ o = none) ∨ (k = 0 ∧ ∃ t' n' bs' j m, t' < p.t ∧ 1 ≤ t' ∧ BOk n' bs' ∧ n' + bs'.length ≤ 1000000 ∧ j ≤ (logB t' n' bs').length ∧ o = some ((logB t' n' bs').take j, m)) ∨
    ∃ j m, j ≤ p.log.length ∧ (k = 0 ∨ p.upto k ≤ j) ∧ o = some (p.log.take j, m)
structure Lost (u : T3) (p : Pl) (k : Nat) : Prop where
  base : BaseIs u.b p.t p.n p.rows
  kle : k ≤ p.bats.length
  log : LogIs u.l p k
  room : (bsO u.b).length + (fr (headB p.t p.n)).length ≤ 4194304
  sum : (bsO u.b).length + (bsO u.l).length ≤ 4194304
theorem Pl.cut_ok {p : Pl} (h : p.ok) (k : Nat) : (p.cut k).ok := ⟨h.t1, h.t2, by have := h.n2; show p.n + (p.bats.take k).length ≤ _; rw [List.length_take]; omega, h.rows, h.bats.take k⟩
theorem logB_head (t n : Nat) (bs : List (List Op_)) : (fr (headB t n)).length ≤ (logB t n bs).length := by unfold logB; rw [List.length_append]; omega
theorem upto_le (p : Pl) (k : Nat) : p.upto k ≤ p.log.length := by
  unfold Pl.upto Pl.log
  rw [logB_eq, logB_eq, recs_len, recs_len, ← payl_take, ← List.take_succ_cons]
  exact rsize_mono _ _
theorem upto_all (p : Pl) : p.upto p.bats.length = p.log.length := by unfold Pl.upto Pl.log; rw [List.take_length]
theorem log_prefix (t n : Nat) (bs : List (List Op_)) (k : Nat) : (logB t n bs).take (logB t n (bs.take k)).length = logB t n (bs.take k) := by
  rw [logB_eq, logB_eq, ← payl_take, ← List.take_succ_cons]
  generalize headB t n :: payl n bs = ps
  have : recs ps = recs (ps.take (k + 1)) ++ recs (ps.drop (k + 1)) := by rw [← recs_app, List.take_append_drop]
  rw [this, List.take_left]
theorem Good.lost {u : T3} {p : Pl} {k : Nat} (h : Good u p k) : Lost u p p.bats.length := by
  obtain ⟨m, h1, h2, h3⟩ := h.log
  refine ⟨h.base, Nat.le_refl _, .inr (.inr ⟨p.log.length, m, Nat.le_refl _, .inr (by rw [upto_all]; exact Nat.le_refl _), by rw [List.take_length]; exact h1⟩), ?_, by rw [h1]; exact h.sum⟩
  have := h.sum
  have := logB_head p.t p.n p.bats
  show (bsO u.b).length + _ ≤ _
  unfold Pl.log at *
  omega
theorem BaseIs.fel {o o' : Option Fm} {t n : Nat} {rows : List Rw} (h : BaseIs o t n rows) (hf : Fel o o') : BaseIs o' t n rows ∧ (bsO o').length = (bsO o).length := by
  rcases h with ⟨rfl, h⟩ | rfl
  · cases o' with
    | none => exact ⟨.inl ⟨rfl, h⟩, rfl⟩
    | some x => exact hf.elim
  · cases o' with
    | none => exact hf.elim
    | some x =>
      obtain ⟨j, h1, h2, rfl⟩ := hf
      obtain rfl : j = (baseB t n rows).length := Nat.le_antisymm h2 h1
      rw [List.take_length]
      exact ⟨.inr rfl, rfl⟩
theorem Good.fell {u u' : T3} {p : Pl} {k : Nat} (h : Good u p k) (hf : Fell u u') : Lost u' p k := by
  obtain ⟨m, h1, h2, h3⟩ := h.log
  obtain ⟨f1, f2, f3⟩ := hf
  obtain ⟨b1, b2⟩ := h.base.fel f1
  rw [h1] at f2
  refine ⟨b1, h.kle, ?_, ?_, ?_⟩
  · cases hl : u'.l with
    | none => rw [hl] at f2; exact f2.elim
    | some x =>
      rw [hl] at f2
      obtain ⟨j, g1, g2, rfl⟩ := f2
      exact .inr (.inr ⟨j, j, g2, .inr (Nat.le_trans h2 g1), rfl⟩)
  · have := h.sum
    have := logB_head p.t p.n p.bats
    rw [b2]
    unfold Pl.log at *
    omega
  · obtain ⟨j, _, g2, _, _, g3, _⟩ := f2.bs
    have := h.sum
    rw [b2, g3]
    exact Nat.le_trans (Nat.add_le_add_left g2 _) this
theorem Good.marks {u : T3} {p : Pl} {k : Nat} (h : Good u p k) : u.marks := by
  obtain ⟨m, h1, h2, h3⟩ := h.log
  refine ⟨?_, ?_, ?_⟩
  · rcases h.base with ⟨e, _⟩ | e <;> rw [e]
    · exact Nat.le_refl _
    · exact Nat.le_refl _
  · rw [h1]; exact h3
  · rw [h.next]; exact Nat.le_refl _

/-- The base, as it is read. -/
theorem opnBase_is {u : T3} {t n : Nat} {rows : List Rw} (h : BaseIs u.b t n rows) (h1 : 1 ≤ t) (h2 : t ≤ 1000000) (h3 : n ≤ 1000000) (hr : rowsE rows = 0) (left : Int) (keep : List Int) : opnBase (dk u left keep) = some (t, n, rows) := by
  obtain ⟨b, l, x⟩ := u
  obtain ⟨e1, e2⟩ := rd_b b l x left keep
  unfold opnBase
  rw [e1, e2]
  rcases h with ⟨e, rfl, rfl, rfl⟩ | e
  · simp only at e
    subst e
    rfl
  · simp only at e
    subst e
    simp only [Option.isSome_some, if_true]
    exact rdBase_back t n rows h1 (by omega) (by omega) hr

section
variable {b l : Option Fm} {p : Pl}
/-- A log written anew. -/
theorem renew_ok (hb : BaseIs b p.t p.n p.rows) (hr : (bsO b).length + (fr (headB p.t p.n)).length ≤ 4194304) (keep : List Int) :
    renewA p.t p.n (dk ⟨b, l, none⟩ (-1) keep) = (dk ⟨b, some (fr (headB p.t p.n), (fr (headB p.t p.n)).length), none⟩ (-1) keep, 0) := by
  unfold renewA
  have hc : Chain (fun _ => True) [aRm nLog, aApp nLog (fr (headB p.t p.n)), aSyn nLog] ⟨b, l, none⟩ ⟨b, some (fr (headB p.t p.n), (fr (headB p.t p.n)).length), none⟩ := by
    have h2 : Chain (fun _ => True) [aApp nLog (fr (headB p.t p.n)), aSyn nLog] ⟨b, none, none⟩ ⟨b, some (fr (headB p.t p.n), (fr (headB p.t p.n)).length), none⟩ :=
      .cons trivial (app_l b none none _ (by simpa [bsO] using hr)) (.cons trivial (syn_l b none (fr (headB p.t p.n), 0)) (.nil _))
    cases l with
    | none => exact .skip (rm_none_l b none) h2
    | some x => exact .cons trivial (rm_l b none x) h2
  have := runA_last [aRm nLog] [aApp nLog (fr (headB p.t p.n)), aSyn nLog] (dk ⟨b, l, none⟩ (-1) keep)
  unfold writeA
  refine this.trans ?_
  rcases hc.run (-1) keep with ⟨left', g1, g2⟩ | ⟨g1, _⟩
  · rw [g2 (by omega)] at g1
    exact g1
  · omega
/-- Cut behind what is whole, and kept. -/
theorem keep_ok (x : Fm) (k : Nat) (hk : k ≤ x.1.length) (keep : List Int) : keepA k x.1.length (dk ⟨b, some x, none⟩ (-1) keep) = (dk ⟨b, some (x.1.take k, k), none⟩ (-1) keep, 0) := by
  unfold keepA
  have hc : Chain (fun _ => True) ((if k < x.1.length then [aCut nLog k] else []) ++ [aSyn nLog]) ⟨b, some x, none⟩ ⟨b, some (x.1.take k, k), none⟩ := by
    split
    · have := syn_l b none (x.1.take k, min x.2 k)
      rw [List.length_take, Nat.min_eq_left hk] at this
      exact .cons trivial (cut_l b none x k hk) (.cons trivial this (.nil _))
    · obtain rfl : k = x.1.length := by omega
      rw [List.take_length]
      exact .cons trivial (syn_l b none x) (.nil _)
  rcases hc.run (-1) keep with ⟨left', g1, g2⟩ | ⟨g1, _⟩
  · rw [g2 (by omega)] at g1
    exact g1
  · omega
end
theorem rm_next (b l n : Option Fm) (keep : List Int) : aRm nNext (dk ⟨b, l, n⟩ (-1) keep) = (dk ⟨b, l, none⟩ (-1) keep, 0) := by
  cases n with
  | none => exact rm_none_n b l (-1) keep
  | some x => exact (rm_n b l x (-1) keep).trans (by simp [dec])
/-- Opening, wherever the power went: the first batches, all that are sure among them; the log is whole then. -/
theorem opn_lost {u : T3} {p : Pl} {k : Nat} (h : Lost u p k) (hp : p.ok) (keep : List Int) :
    ∃ k' u', k ≤ k' ∧ k' ≤ p.bats.length ∧ opn (dk u (-1) keep) = (dk u' (-1) keep, 0, some (⟨p.t, p.n + k', p.n + k'⟩, ⟨p.rows, p.bats.take k'⟩)) ∧ Good u' (p.cut k') k' := by
  obtain ⟨b, l, n⟩ := u
  have hn2 := hp.n2
  have ht2 := hp.t2
  have hroom := h.room
  have hO := opnBase_is (u := ⟨b, l, none⟩) h.base hp.t1 hp.t2 (by omega) hp.rows (-1) keep
  have hL := (rd_l b l none (-1) keep).1
  have hbase := h.base
  have e0 : opn (dk ⟨b, l, n⟩ (-1) keep) = opnLog (dk ⟨b, l, none⟩ (-1) keep) p.t p.n p.rows := by
    unfold opn
    simp only [rm_next b l n keep]
    rw [if_neg (by simp), hO]
  rw [e0]
  unfold opnLog
  rw [hL]
  have hnew : rdLog p.t p.n (bsO l) = .anew → k = 0 → ∃ k' u', k ≤ k' ∧ k' ≤ p.bats.length ∧ (match rdLog p.t p.n (bsO l) with
      | .wrong => (dk ⟨b, l, none⟩ (-1) keep, (80 : Int), none)
      | .anew => let r := renewA p.t p.n (dk ⟨b, l, none⟩ (-1) keep); (r.1, r.2, if r.2 = 0 then some ((⟨p.t, p.n, p.n⟩ : Lg), (⟨p.rows, []⟩ : Kp)) else none)
      | .goes bs size => let r := keepA size (bsO l).length (dk ⟨b, l, none⟩ (-1) keep); (r.1, r.2, if r.2 = 0 then some ((⟨p.t, p.n + bs.length, p.n + bs.length⟩ : Lg), (⟨p.rows, bs⟩ : Kp)) else none)) = (dk u' (-1) keep, 0, some (⟨p.t, p.n + k', p.n + k'⟩, ⟨p.rows, p.bats.take k'⟩)) ∧ Good u' (p.cut k') k' := by
    intro e hk
    rw [e]
    simp only [renew_ok hbase hroom keep, if_true]
    refine ⟨0, ⟨b, some (fr (headB p.t p.n), (fr (headB p.t p.n)).length), none⟩, by omega, Nat.zero_le _, rfl, hbase, rfl, Nat.zero_le _, ⟨(fr (headB p.t p.n)).length, ?_, ?_, ?_⟩, ?_⟩
    · have : (p.cut 0).log = fr (headB p.t p.n) := by simp [Pl.cut, Pl.log, logB, batchesB]
      rw [this]
    · simp [Pl.cut, Pl.upto, logB, batchesB]
    · simp [Pl.cut, Pl.log, logB, batchesB]
    · have : (p.cut 0).log = fr (headB p.t p.n) := by simp [Pl.cut, Pl.log, logB, batchesB]
      rw [this]
      exact hroom
  rcases h.log with ⟨hk, e⟩ | ⟨hk, t', n', bs', j, m, g1, g2, g3, g4, g5, e⟩ | ⟨j, m, g1, g2, e⟩
  · simp only at e
    subst e
    exact hnew (rdLog_nil _ _) hk
  · simp only at e
    subst e
    exact hnew (rdLog_old p.t p.n t' n' bs' j g1 g2 (by omega) (by omega) g3 g5) hk
  · simp only at e
    subst e
    rcases rdLog_cut p.t p.n p.bats j hp.t1 (by omega) (by omega) hp.bats g1 with ⟨q1, q2⟩ | ⟨k', q1, q2, q3, q4⟩
    · refine hnew q2 ?_
      rcases g2 with g2 | g2
      · exact g2
      · have := logB_head p.t p.n (p.bats.take k)
        unfold Pl.upto at g2
        omega
    · show ∃ k' u', _
      rw [show bsO (some (p.log.take j, m)) = (logB p.t p.n p.bats).take j from rfl, q2]
      have hlen : ((logB p.t p.n p.bats).take j).length = j := by rw [List.length_take]; exact Nat.min_eq_left g1
      have hk1 : (p.bats.take k').length = k' := by rw [List.length_take]; omega
      have hkp := keep_ok (b := b) ((logB p.t p.n p.bats).take j, m) (logB p.t p.n (p.bats.take k')).length (by rw [hlen]; exact q3) keep
      simp only at hkp
      have htt : ((logB p.t p.n p.bats).take j).take (logB p.t p.n (p.bats.take k')).length = logB p.t p.n (p.bats.take k') := by
        rw [List.take_take, Nat.min_eq_left q3, log_prefix]
      rw [htt] at hkp
      simp only [Pl.log, hkp, if_true, hk1]
      refine ⟨k', _, ?_, q1, rfl, hbase, rfl, by show k' ≤ (p.bats.take k').length; omega, ⟨_, rfl, ?_, Nat.le_refl _⟩, ?_⟩
      · rcases g2 with g2 | g2
        · omega
        · exact q4 k h.kle g2
      · show (logB p.t p.n ((p.bats.take k').take k')).length ≤ _
        rw [List.take_take, Nat.min_self]
        exact Nat.le_refl _
      · show (bsO b).length + (logB p.t p.n (p.bats.take k')).length ≤ _
        have hs := h.sum
        rw [show (bsO (some (p.log.take j, m))).length = j from by show (p.log.take j).length = j; rw [List.length_take]; exact Nat.min_eq_left g1] at hs
        simp only at hs
        omega
end Go.Proofs.YtamglegdgcehaaaGreat
set_option linter.unusedVariables false
namespace Go.Proofs.YtamglegdgcehaaaGreat
open Go.RowKit

def Pl.lg (p : Pl) (k : Nat) : Lg := ⟨p.t, p.n + p.bats.length, p.n + k⟩
def Pl.snoc (p : Pl) (l : List Op_) : Pl := ⟨p.t, p.n, p.rows, p.bats ++ [l]⟩
def Pl.next (p : Pl) (rows : List Rw) : Pl := ⟨p.t + 1, p.n + p.bats.length, rows, []⟩
theorem Pl.snoc_log (p : Pl) (l : List Op_) : (p.snoc l).log = p.log ++ fr (batB (p.n + p.bats.length + 1) l) := logB_snoc p.t p.n p.bats l
theorem Pl.snoc_upto (p : Pl) (l : List Op_) {k : Nat} (hk : k ≤ p.bats.length) : (p.snoc l).upto k = p.upto k := by
  unfold Pl.upto Pl.snoc
  simp only
  rw [List.take_append_of_le_length hk]
theorem addE_ok {g : Lg} {l : List Op_} (h : addE g l = 0) : opsE l = 0 ∧ (batB (g.last + 1) l).length ≤ 65536 := by
  unfold addE at h
  split at h
  · rename_i h0; exact absurd h h0
  · rename_i h0
    split at h
    · cases h
    · exact ⟨by simpa using h0, by omega⟩
theorem Pl.snoc_ok {p : Pl} (h : p.ok) {k : Nat} {l : List Op_} (hl : addE (p.lg k) l = 0) (hn : p.n + p.bats.length + 1 ≤ 1000000) : (p.snoc l).ok := by
  obtain ⟨h1, h2⟩ := addE_ok hl
  exact ⟨h.t1, h.t2, by simp only [Pl.snoc, List.length_append, List.length_singleton]; omega, h.rows, h.bats.snoc h1 h2⟩
theorem Pl.next_ok {p : Pl} (h : p.ok) {rows : List Rw} (hr : rowsE rows = 0) (ht : p.t + 1 ≤ 1000000) : (p.next rows).ok :=
  ⟨by simp [Pl.next], ht, by have := h.n2; simpa [Pl.next] using this, hr, BOk.nil _⟩

/-! ### Add -/
theorem add_no {D : Dk} {g : Lg} {l : List Op_} (h : addE g l ≠ 0) : Js.add ⟨D, some g⟩ l = (⟨D, some g⟩, 0, addE g l) := by
  show (if addE g l ≠ 0 then _ else _) = _
  rw [if_pos h]
theorem add_yes {D : Dk} {g : Lg} {l : List Op_} (h : addE g l = 0) : Js.add ⟨D, some g⟩ l = (⟨(aApp nLog (fr (batB (g.last + 1) l)) D).1, if (aApp nLog (fr (batB (g.last + 1) l)) D).2 = 0 then some ⟨g.turn, g.last + 1, g.safe⟩ else none⟩, (if (aApp nLog (fr (batB (g.last + 1) l)) D).2 = 0 then g.last + 1 else 0), (aApp nLog (fr (batB (g.last + 1) l)) D).2) := by
  show (if addE g l ≠ 0 then _ else _) = _
  rw [if_neg (by rw [h]; simp)]
  rfl
/-- A batch that may be: it is added; or there is no room; or the power goes. -/
theorem add_good {u : T3} {p : Pl} {k : Nat} (h : Good u p k) (hp : p.ok) (l : List Op_) (ha : addE (p.lg k) l = 0) (left : Int) (keep : List Int) :
    (4194304 < (bsO u.b).length + (p.snoc l).log.length ∧ Js.add ⟨dk u left keep, some (p.lg k)⟩ l = (⟨dk u left keep, none⟩, 0, 7)) ∨
      (left = 0 ∧ Js.add ⟨dk u left keep, some (p.lg k)⟩ l = (⟨down u keep, none⟩, 0, 71)) ∨
        (left ≠ 0 ∧ ∃ u', Js.add ⟨dk u left keep, some (p.lg k)⟩ l = (⟨dk u' (dec left) keep, some ((p.snoc l).lg k)⟩, p.n + p.bats.length + 1, 0) ∧ Good u' (p.snoc l) k ∧ u'.b = u.b) := by
  obtain ⟨b, lo, n⟩ := u
  obtain ⟨m, h1, h2, h3⟩ := h.log
  have hnx := h.next
  simp only at h1 hnx
  subst h1
  subst hnx
  rw [add_yes ha]
  have e1 : (p.lg k).last = p.n + p.bats.length := rfl
  rw [e1]
  have hlg : (⟨(p.lg k).turn, p.n + p.bats.length + 1, (p.lg k).safe⟩ : Lg) = (p.snoc l).lg k := by
    simp only [Pl.lg, Pl.snoc, List.length_append, List.length_singleton]
    rfl
  rw [hlg]
  by_cases hfull : 4194304 < (bsO b).length + (p.snoc l).log.length
  · refine .inl ⟨hfull, ?_⟩
    have := app_full b (some (p.log, m)) none nLog may_log (fr (batB (p.n + p.bats.length + 1) l)) (by
      rw [Pl.snoc_log, List.length_append] at hfull
      show 4194304 < (bsO b).length + p.log.length + 0 + _
      omega) left keep
    rw [this]
    rfl
  · have hst := app_l b (some (p.log, m)) none (fr (batB (p.n + p.bats.length + 1) l)) (by
      rw [Pl.snoc_log, List.length_append] at hfull
      show (bsO b).length + p.log.length + 0 + _ ≤ 4194304
      omega) left keep
    by_cases hl : left = 0
    · refine .inr (.inl ⟨hl, ?_⟩)
      rw [if_pos hl] at hst
      rw [hst]
      rfl
    · refine .inr (.inr ⟨hl, ⟨b, some (p.log ++ fr (batB (p.n + p.bats.length + 1) l), m), none⟩, ?_, ?_, rfl⟩)
      · rw [if_neg hl] at hst
        rw [hst]
        rfl
      · refine ⟨h.base, rfl, by have := h.kle; simp only [Pl.snoc, List.length_append]; omega, ⟨m, by rw [Pl.snoc_log], by rw [Pl.snoc_upto p l h.kle]; exact h2, by rw [Pl.snoc_log, List.length_append]; omega⟩, by
          show (bsO b).length + _ ≤ _
          omega⟩

/-! ### Sync -/
theorem sync_good {u : T3} {p : Pl} {k : Nat} (h : Good u p k) (left : Int) (keep : List Int) :
    (left = 0 ∧ Js.sync ⟨dk u left keep, some (p.lg k)⟩ = (⟨down u keep, none⟩, 71)) ∨
      (left ≠ 0 ∧ ∃ u', Js.sync ⟨dk u left keep, some (p.lg k)⟩ = (⟨dk u' (dec left) keep, some (p.lg p.bats.length)⟩, 0) ∧ Good u' p p.bats.length ∧ u'.b = u.b) := by
  obtain ⟨b, lo, n⟩ := u
  obtain ⟨m, h1, h2, h3⟩ := h.log
  have hnx := h.next
  simp only at h1 hnx
  subst h1
  subst hnx
  have hs := syn_l b none (p.log, m) left keep
  have he : Js.sync ⟨dk ⟨b, some (p.log, m), none⟩ left keep, some (p.lg k)⟩ = (⟨(aSyn nLog (dk ⟨b, some (p.log, m), none⟩ left keep)).1, if (aSyn nLog (dk ⟨b, some (p.log, m), none⟩ left keep)).2 = 0 then some ⟨p.t, p.n + p.bats.length, p.n + p.bats.length⟩ else none⟩, (aSyn nLog (dk ⟨b, some (p.log, m), none⟩ left keep)).2) := rfl
  rw [he]
  by_cases hl : left = 0
  · rw [if_pos hl] at hs
    rw [hs]
    exact .inl ⟨hl, rfl⟩
  · rw [if_neg hl] at hs
    rw [hs]
    refine .inr ⟨hl, ⟨b, some (p.log, p.log.length), none⟩, rfl, ⟨h.base, rfl, Nat.le_refl _, ⟨p.log.length, rfl, by rw [upto_all]; exact Nat.le_refl _, Nat.le_refl _⟩, h.sum⟩, rfl⟩

/-! ### Checkpoint -/
/-- Where the power may go: what is opened is what was there, or what was to be. -/
def Safe (p : Pl) (k : Nat) (rows : List Rw) (s : T3) : Prop := s.marks ∧ ∀ s', Fell s s' → Lost s' p k ∨ Lost s' (p.next rows) 0
theorem enc_small (x : Nat) (h : x ≤ 255) : (enc x).length = if x = 0 then 1 else 2 := by
  unfold enc
  by_cases h0 : x = 0
  · subst h0
    rw [digs_zero]
    rfl
  · rw [digs_pos x (by omega), show x / 256 = 0 from by omega, digs_zero, if_neg h0]
    rfl
theorem head_len (t n : Nat) (h1 : 1 ≤ t) (h2 : t ≤ 255) (h3 : n ≤ 255) : (fr (headB t n)).length = 8 + (if n = 0 then 1 else 2) := by
  have e : (headB t n).length = 2 + (if n = 0 then 1 else 2) := by
    unfold headB
    rw [List.length_append, enc_small t h2, enc_small n h3, if_neg (by omega)]
  rw [fr_len, e, enc_small _ (by split <;> omega)]
  split <;> simp
theorem head_room (p : Pl) (h1 : 1 ≤ p.t) (h2 : p.t + 1 ≤ 255) (h3 : p.n + p.bats.length ≤ 255) : (fr (headB (p.t + 1) (p.n + p.bats.length))).length ≤ p.log.length := by
  rw [head_len _ _ (by omega) h2 h3]
  unfold Pl.log logB
  rw [List.length_append, head_len p.t p.n h1 (by omega) (by omega)]
  cases hb : p.bats with
  | nil => simp
  | cons b bs =>
    unfold batchesB
    rw [List.length_append, fr_len]
    split <;> split <;> omega
theorem lost_next {b l n : Option Fm} {p : Pl} {k : Nat} {m : Nat} (hb : BaseIs b p.t p.n p.rows) (hl : l = some (p.log, m)) (hm : p.upto k ≤ m) (hk : k ≤ p.bats.length) (hs : (bsO b).length + p.log.length ≤ 4194304) {s' : T3} (hf : Fell ⟨b, l, n⟩ s') : Lost s' p k := by
  obtain ⟨f1, f2, f3⟩ := hf
  obtain ⟨b1, b2⟩ := hb.fel f1
  subst hl
  have hh := logB_head p.t p.n p.bats
  refine ⟨b1, hk, ?_, ?_, ?_⟩
  · cases hl : s'.l with
    | none => rw [hl] at f2; exact f2.elim
    | some x =>
      rw [hl] at f2
      obtain ⟨j, g1, g2, rfl⟩ := f2
      exact .inr (.inr ⟨j, j, g2, .inr (Nat.le_trans hm g1), rfl⟩)
  · rw [b2]
    unfold Pl.log at *
    exact Nat.le_trans (Nat.add_le_add_left hh _) hs
  · obtain ⟨j, _, g2, _, _, g3, _⟩ := f2.bs
    rw [b2, g3]
    exact Nat.le_trans (Nat.add_le_add_left g2 _) hs
theorem base_marks {b : Option Fm} {t n : Nat} {rows : List Rw} (h : BaseIs b t n rows) : mkO b ≤ (bsO b).length := by
  rcases h with ⟨e, _⟩ | e <;> rw [e]
  · exact Nat.le_refl _
  · exact Nat.le_refl _
/-- A checkpoint: no room; or the power goes; or it is done. -/
theorem ckp_good {u : T3} {p : Pl} {k : Nat} (h : Good u p k) (hp : p.ok) (rows : List Rw) (hr : rowsE rows = 0) (h2 : p.t + 1 ≤ 255) (h3 : p.n + p.bats.length ≤ 255) (left : Int) (keep : List Int) :
    (4194304 < (bsO u.b).length + p.log.length + (baseB (p.t + 1) (p.n + p.bats.length) rows).length ∧ Js.ckp ⟨dk u left keep, some (p.lg k)⟩ rows = (⟨dk u left keep, none⟩, 7)) ∨
      (0 ≤ left ∧ ∃ s, Safe p k rows s ∧ Js.ckp ⟨dk u left keep, some (p.lg k)⟩ rows = (⟨down s keep, none⟩, 71)) ∨
        (∃ u' left', Js.ckp ⟨dk u left keep, some (p.lg k)⟩ rows = (⟨dk u' left' keep, some ((p.next rows).lg 0)⟩, 0) ∧ Good u' (p.next rows) 0 ∧ (left < 0 → left' = left) ∧ bsO u'.b = baseB (p.t + 1) (p.n + p.bats.length) rows) := by
  have hbase := h.base
  have hkle := h.kle
  have hsum := h.sum
  obtain ⟨b, lo, n⟩ := u
  obtain ⟨m, h1, hm1, hm2⟩ := h.log
  have hnx := h.next
  simp only at h1 hnx hbase hsum
  subst h1
  subst hnx
  have hck : Js.ckp ⟨dk ⟨b, some (p.log, m), none⟩ left keep, some (p.lg k)⟩ rows = (⟨(ckA (p.t + 1) (p.n + p.bats.length) rows (dk ⟨b, some (p.log, m), none⟩ left keep)).1, if (ckA (p.t + 1) (p.n + p.bats.length) rows (dk ⟨b, some (p.log, m), none⟩ left keep)).2 = 0 then some ⟨p.t + 1, p.n + p.bats.length, p.n + p.bats.length⟩ else none⟩, (ckA (p.t + 1) (p.n + p.bats.length) rows (dk ⟨b, some (p.log, m), none⟩ left keep)).2) := by
    show (if rowsE rows ≠ 0 then _ else _) = _
    rw [if_neg (by rw [hr]; simp)]
    rfl
  rw [hck]
  obtain ⟨L, hL⟩ : ∃ L, baseB (p.t + 1) (p.n + p.bats.length) rows = L := ⟨_, rfl⟩
  obtain ⟨H, hH⟩ : ∃ H, fr (headB (p.t + 1) (p.n + p.bats.length)) = H := ⟨_, rfl⟩
  have hroom := head_room p hp.t1 h2 h3
  rw [hH] at hroom
  have hflat : ckA (p.t + 1) (p.n + p.bats.length) rows (dk ⟨b, some (p.log, m), none⟩ left keep) = runA [aApp nNext L, aSyn nNext, aRen nNext nBase, aRem nLog, aApp nLog H, aSyn nLog] (dk ⟨b, some (p.log, m), none⟩ left keep) := by
    have := runA_last [aApp nNext L, aSyn nNext, aRen nNext nBase, aRem nLog] [aApp nLog H, aSyn nLog] (dk ⟨b, some (p.log, m), none⟩ left keep)
    rw [← hL, ← hH] at this ⊢
    exact this
  rw [hflat, hL]
  by_cases hfull : 4194304 < (bsO b).length + p.log.length + L.length
  · refine .inl ⟨hfull, ?_⟩
    have ha := app_full b (some (p.log, m)) none nNext may_next L (by show 4194304 < (bsO b).length + p.log.length + 0 + _; omega) left keep
    have e : runA [aApp nNext L, aSyn nNext, aRen nNext nBase, aRem nLog, aApp nLog H, aSyn nLog] (dk ⟨b, some (p.log, m), none⟩ left keep) = (dk ⟨b, some (p.log, m), none⟩ left keep, 7) := by
      show (if (aApp nNext L (dk ⟨b, some (p.log, m), none⟩ left keep)).2 = 0 then _ else _) = _
      rw [ha]
      rfl
    rw [e]
    rfl
  · have hbm := base_marks hbase
    have hnext : BaseIs (some (L, L.length)) (p.next rows).t (p.next rows).n (p.next rows).rows := .inr (by simp only [Pl.next]; rw [hL])
    have hnlog : (p.next rows).log = H := by simp [Pl.log, Pl.next, logB, batchesB, hH]
    have s0 : Safe p k rows ⟨b, some (p.log, m), none⟩ := ⟨⟨hbm, hm2, Nat.le_refl _⟩, fun s' hf => .inl (lost_next hbase rfl hm1 hkle hsum hf)⟩
    have s1 : Safe p k rows ⟨b, some (p.log, m), some (bsO none ++ L, mkO none)⟩ := ⟨⟨hbm, hm2, Nat.zero_le _⟩, fun s' hf => .inl (lost_next hbase rfl hm1 hkle hsum hf)⟩
    have s2 : Safe p k rows ⟨b, some (p.log, m), some (L, L.length)⟩ := ⟨⟨hbm, hm2, Nat.le_refl _⟩, fun s' hf => .inl (lost_next hbase rfl hm1 hkle hsum hf)⟩
    have s3 : Safe p k rows ⟨some (L, L.length), some (p.log, m), none⟩ := by
      refine ⟨⟨Nat.le_refl _, hm2, Nat.le_refl _⟩, fun s' hf => .inr ?_⟩
      obtain ⟨f1, f2, f3⟩ := hf
      obtain ⟨b1, b2⟩ := hnext.fel f1
      refine ⟨b1, Nat.zero_le _, ?_, ?_, ?_⟩
      · cases hl : s'.l with
        | none => rw [hl] at f2; exact f2.elim
        | some x =>
          rw [hl] at f2
          obtain ⟨j, g1, g2, rfl⟩ := f2
          exact .inr (.inl ⟨rfl, p.t, p.n, p.bats, j, j, Nat.lt_succ_self _, hp.t1, hp.bats, hp.n2, g2, rfl⟩)
      · rw [b2]
        show L.length + (fr (headB (p.t + 1) (p.n + p.bats.length))).length ≤ _
        rw [hH]
        omega
      · obtain ⟨j, _, g2, _, _, g3, _⟩ := f2.bs
        rw [b2, g3]
        have : j ≤ p.log.length := g2
        show L.length + j ≤ _
        omega
    have s4 : Safe p k rows ⟨some (L, L.length), none, none⟩ := by
      refine ⟨⟨Nat.le_refl _, Nat.le_refl _, Nat.le_refl _⟩, fun s' hf => .inr ?_⟩
      obtain ⟨f1, f2, f3⟩ := hf
      obtain ⟨b1, b2⟩ := hnext.fel f1
      have hl : s'.l = none := by
        cases hl : s'.l with
        | none => rfl
        | some x => rw [hl] at f2; exact f2.elim
      refine ⟨b1, Nat.zero_le _, .inl ⟨rfl, hl⟩, ?_, ?_⟩
      · rw [b2]
        show L.length + (fr (headB (p.t + 1) (p.n + p.bats.length))).length ≤ _
        rw [hH]
        omega
      · rw [b2, hl]
        show L.length + 0 ≤ _
        omega
    have s5 : Safe p k rows ⟨some (L, L.length), some (bsO none ++ H, mkO none), none⟩ := by
      refine ⟨⟨Nat.le_refl _, Nat.zero_le _, Nat.le_refl _⟩, fun s' hf => .inr ?_⟩
      obtain ⟨f1, f2, f3⟩ := hf
      obtain ⟨b1, b2⟩ := hnext.fel f1
      refine ⟨b1, Nat.zero_le _, ?_, ?_, ?_⟩
      · cases hl : s'.l with
        | none => rw [hl] at f2; exact f2.elim
        | some x =>
          rw [hl] at f2
          obtain ⟨j, g1, g2, rfl⟩ := f2
          exact .inr (.inr ⟨j, j, by rw [hnlog]; exact g2, .inl rfl, by rw [hnlog]; rfl⟩)
      · rw [b2]
        show L.length + (fr (headB (p.t + 1) (p.n + p.bats.length))).length ≤ _
        rw [hH]
        omega
      · obtain ⟨j, _, g2, _, _, g3, _⟩ := f2.bs
        rw [b2, g3]
        have : j ≤ H.length := g2
        show L.length + j ≤ _
        omega
    have hc : Chain (Safe p k rows) [aApp nNext L, aSyn nNext, aRen nNext nBase, aRem nLog, aApp nLog H, aSyn nLog] ⟨b, some (p.log, m), none⟩ ⟨some (L, L.length), some (H, H.length), none⟩ :=
      .cons s0 (app_n b (some (p.log, m)) none L (by show (bsO b).length + p.log.length + 0 + _ ≤ 4194304; omega)) (.cons s1 (syn_n b (some (p.log, m)) (bsO none ++ L, mkO none)) (.cons s2 (ren_nb b (some (p.log, m)) (L, L.length))
        (.cons s3 (rem_l (some (L, L.length)) none (p.log, m)) (.cons s4 (app_l (some (L, L.length)) none none H (by show L.length + 0 + 0 + _ ≤ 4194304; omega)) (.cons s5 (syn_l (some (L, L.length)) none (bsO none ++ H, mkO none)) (.nil _))))))
    refine .inr ?_
    rcases hc.run left keep with ⟨left', g1, g2⟩ | ⟨g0, s, g1, g2⟩
    · rw [g1]
      refine .inr ⟨⟨some (L, L.length), some (H, H.length), none⟩, left', rfl, ⟨hnext, rfl, Nat.zero_le _, ⟨H.length, by rw [hnlog], ?_, by rw [hnlog]; exact Nat.le_refl _⟩, ?_⟩, g2, rfl⟩
      · show (logB (p.t + 1) (p.n + p.bats.length) []).length ≤ _
        simp [logB, batchesB, hH]
      · rw [hnlog]
        show L.length + H.length ≤ _
        omega
    · rw [g2]
      exact .inl ⟨g0, s, g1, rfl⟩
end Go.Proofs.YtamglegdgcehaaaGreat
set_option linter.unusedVariables false
namespace Go.Proofs.YtamglegdgcehaaaGreat
open Go.RowKit

section
variable {u u' : T3} {p : Pl} {k : Nat} {l : List Op_} {keep : List Int}
theorem BaseIs.len {o : Option Fm} {t n : Nat} {rows : List Rw} (h : BaseIs o t n rows) : (bsO o).length ≤ (baseB t n rows).length := by
  rcases h with ⟨rfl, _⟩ | rfl
  · exact Nat.zero_le _
  · exact Nat.le_refl _
/-- Add, while the power stays, and there is room. -/
theorem lAdd (h : Good u p k) (ha : addE (p.lg k) l = 0) (room : (bsO u.b).length + (p.snoc l).log.length ≤ 4194304) :
    ∃ u', Js.add ⟨dk u (-1) keep, some (p.lg k)⟩ l = (⟨dk u' (-1) keep, some ((p.snoc l).lg k)⟩, p.n + p.bats.length + 1, 0) ∧ Good u' (p.snoc l) k ∧ u'.b = u.b ∧ mkO u'.l = mkO u.l := by
  obtain ⟨b, lo, n⟩ := u
  obtain ⟨m, h1, h2, h3⟩ := h.log
  have hnx := h.next
  simp only at h1 hnx room
  subst h1
  subst hnx
  rw [Pl.snoc_log, List.length_append] at room
  have hst := app_l b (some (p.log, m)) none (fr (batB (p.n + p.bats.length + 1) l)) (by
    show (bsO b).length + p.log.length + 0 + _ ≤ 4194304
    omega) (-1) keep
  rw [if_neg (by omega)] at hst
  rw [add_yes ha]
  have e1 : (p.lg k).last = p.n + p.bats.length := rfl
  have hlg : (⟨(p.lg k).turn, p.n + p.bats.length + 1, (p.lg k).safe⟩ : Lg) = (p.snoc l).lg k := by
    simp only [Pl.lg, Pl.snoc, List.length_append, List.length_singleton]
    rfl
  rw [e1, hlg, hst]
  refine ⟨⟨b, some (p.log ++ fr (batB (p.n + p.bats.length + 1) l), m), none⟩, rfl, ⟨h.base, rfl, by have := h.kle; simp only [Pl.snoc, List.length_append]; omega, ⟨m, by rw [Pl.snoc_log], by rw [Pl.snoc_upto p l h.kle]; exact h2, by rw [Pl.snoc_log, List.length_append]; omega⟩, ?_⟩, rfl, rfl⟩
  rw [Pl.snoc_log, List.length_append]
  exact room
theorem lSync (h : Good u p k) : ∃ u', Js.sync ⟨dk u (-1) keep, some (p.lg k)⟩ = (⟨dk u' (-1) keep, some (p.lg p.bats.length)⟩, 0) ∧ Good u' p p.bats.length ∧ u'.b = u.b ∧ mkO u'.l = p.log.length := by
  rcases sync_good h (-1) keep with ⟨h0, _⟩ | ⟨_, u', h1, h2, h3⟩
  · exact absurd h0 (by omega)
  · refine ⟨u', h1, h2, h3, ?_⟩
    obtain ⟨m, e1, e2, e3⟩ := h2.log
    rw [upto_all] at e2
    rw [e1]
    show m = _
    omega
theorem lOpen (h : Lost u p p.bats.length) (hp : p.ok) : ∃ u', opn (dk u (-1) keep) = (dk u' (-1) keep, 0, some (p.lg p.bats.length, ⟨p.rows, p.bats⟩)) ∧ Good u' p p.bats.length := by
  obtain ⟨k', u', h1, h2, h3, h4⟩ := opn_lost h hp keep
  obtain rfl : k' = p.bats.length := Nat.le_antisymm h2 h1
  rw [List.take_length] at h3
  refine ⟨u', h3, ?_⟩
  unfold Pl.cut at h4
  rw [List.take_length] at h4
  exact h4
theorem lCkp (h : Good u p k) (hp : p.ok) {rows : List Rw} (hr : rowsE rows = 0) (h2 : p.t + 1 ≤ 255) (h3 : p.n + p.bats.length ≤ 255) (room : (bsO u.b).length + p.log.length + (baseB (p.t + 1) (p.n + p.bats.length) rows).length ≤ 4194304) :
    ∃ u', Js.ckp ⟨dk u (-1) keep, some (p.lg k)⟩ rows = (⟨dk u' (-1) keep, some ((p.next rows).lg 0)⟩, 0) ∧ Good u' (p.next rows) 0 := by
  rcases ckp_good h hp rows hr h2 h3 (-1) keep with ⟨h0, _⟩ | ⟨h0, _⟩ | ⟨u', left', e1, e2, e3, _⟩
  · exact absurd h0 (by omega)
  · exact absurd h0 (by omega)
  · rw [e3 (by omega)] at e1
    exact ⟨u', e1, e2⟩
def cutO : Option Fm → Option Fm
  | none => none
  | some x => some (x.1.take x.2, x.2)
theorem fallL_nil (b l n : Option Fm) : fall [] (T3.mk b l n).fl = (T3.mk (cutO b) (cutO l) (cutO n)).fl := by
  unfold fall
  cases b <;> cases l <;> cases n <;> simp [T3.fl, fo, cutO, fallF]
theorem cut_fel {o : Option Fm} (h : mkO o ≤ (bsO o).length) : Fel o (cutO o) := by
  cases o with
  | none => trivial
  | some x => exact ⟨x.2, Nat.le_refl _, h, rfl⟩
/-- The power goes; nothing that is not synced stays; and comes back. -/
theorem lFall (h : Good u p k) (hm : mkO u.l = p.upto k) (left : Int) : ∃ u', boot (crash (dk u left keep) []) = dk u' (-1) keep ∧ Lost u' (p.cut k) (p.cut k).bats.length := by
  have hg := h.lost
  have hbase := h.base
  have hkle := h.kle
  obtain ⟨b, lo, n⟩ := u
  obtain ⟨m, h1, h2, h3⟩ := h.log
  have hnx := h.next
  have hsum := h.sum
  simp only at h1 hnx hbase hsum
  subst h1
  subst hnx
  obtain rfl : m = p.upto k := hm
  refine ⟨⟨cutO b, some (p.log.take (p.upto k), p.upto k), none⟩, ?_, ?_⟩
  · show (⟨fall [] (T3.mk b (some (p.log, p.upto k)) none).fl, false, -1, keep⟩ : Dk) = _
    rw [fallL_nil]
    rfl
  · obtain ⟨b1, b2⟩ := hbase.fel (cut_fel (base_marks hbase))
    have hlen : (p.cut k).bats.length = k := by show (p.bats.take k).length = k; rw [List.length_take]; omega
    have hl : (p.log.take (p.upto k)) = (p.cut k).log := log_prefix p.t p.n p.bats k
    have hu : (p.cut k).log.length = p.upto k := rfl
    have hh := logB_head p.t p.n p.bats
    rw [hlen]
    refine ⟨b1, by rw [hlen]; exact Nat.le_refl _, .inr (.inr ⟨(p.cut k).log.length, p.upto k, Nat.le_refl _, .inr ?_, ?_⟩), ?_, ?_⟩
    · have := upto_all (p.cut k)
      rw [hlen] at this
      rw [this]
      exact Nat.le_refl _
    · show some _ = some _
      rw [hl, List.take_length]
    · show (bsO (cutO b)).length + _ ≤ _
      rw [b2]
      show (bsO b).length + (fr (headB p.t p.n)).length ≤ _
      unfold Pl.log at hsum
      omega
    · show (bsO (cutO b)).length + (p.log.take (p.upto k)).length ≤ _
      rw [b2, List.length_take]
      omega
end
abbrev kA : ByteArray := ⟨#[97]⟩
abbrev kB : ByteArray := ⟨#[98]⟩
abbrev kC : ByteArray := ⟨#[99]⟩
abbrev k1 : ByteArray := ⟨#[49]⟩
abbrev k2 : ByteArray := ⟨#[50]⟩
abbrev k3 : ByteArray := ⟨#[51]⟩
abbrev kE : ByteArray := ⟨#[]⟩
def one : List Op_ := [⟨kA, k1, false⟩]
def two : List Op_ := [⟨kB, k2, false⟩, ⟨kA, kE, true⟩]
def three : List Op_ := [⟨kC, k3, false⟩]
def row : List Rw := [⟨kB, k2⟩]
def p0 : Pl := ⟨1, 0, [], []⟩
theorem p0_ok : p0.ok := ⟨by decide, by decide, by decide, by decide, BOk.nil _⟩
theorem empty_lost : Lost ⟨none, none, none⟩ p0 p0.bats.length := by
  refine ⟨.inl ⟨rfl, rfl, rfl, rfl⟩, Nat.le_refl _, .inl ⟨rfl, rfl⟩, ?_, by show 0 + 0 ≤ _; omega⟩
  rw [show p0.t = 1 from rfl, show p0.n = 0 from rfl, head_len 1 0 (by omega) (by omega) (by omega)]
  show 0 + _ ≤ _
  simp
theorem dk0_dk : dk0 = dk ⟨none, none, none⟩ (-1) [] := rfl
theorem open_new : ∃ u, opn dk0 = (dk u (-1) [], 0, some (⟨1, 0, 0⟩, ⟨[], []⟩)) ∧ Good u p0 0 := lOpen empty_lost p0_ok
theorem small_1 : (baseB 1 0 []).length + ((p0.snoc one).log.length + (((p0.snoc one).snoc two).log.length + (((p0.snoc one).snoc two).snoc three).log.length)) ≤ 10000 := of_decide_eq_true (by kernel_rfl)
theorem small_2 : (baseB 2 2 row).length + (logB 2 2 [one]).length ≤ 10000 := of_decide_eq_true (by kernel_rfl)
structure WorksM (D1 D2 D3 D4 D5 D7 D8 D9 D10 D11 : Dk) : Prop where
  a : opn dk0 = (D1, 0, some (⟨1, 0, 0⟩, ⟨[], []⟩))
  b : Js.add ⟨D1, some ⟨1, 0, 0⟩⟩ one = (⟨D2, some ⟨1, 1, 0⟩⟩, 1, 0)
  c : Js.add ⟨D2, some ⟨1, 1, 0⟩⟩ two = (⟨D3, some ⟨1, 2, 0⟩⟩, 2, 0)
  d : Js.sync ⟨D3, some ⟨1, 2, 0⟩⟩ = (⟨D4, some ⟨1, 2, 2⟩⟩, 0)
  e : Js.add ⟨D4, some ⟨1, 2, 2⟩⟩ three = (⟨D5, some ⟨1, 3, 2⟩⟩, 3, 0)
  f : opn (boot (crash D5 [])) = (D7, 0, some (⟨1, 2, 2⟩, ⟨[], [one, two]⟩))
  g : Js.ckp ⟨D7, some ⟨1, 2, 2⟩⟩ row = (⟨D8, some ⟨2, 2, 2⟩⟩, 0)
  h : Js.add ⟨D8, some ⟨2, 2, 2⟩⟩ one = (⟨D9, some ⟨2, 3, 2⟩⟩, 3, 0)
  i : Js.sync ⟨D9, some ⟨2, 3, 2⟩⟩ = (⟨D10, some ⟨2, 3, 3⟩⟩, 0)
  j : opn D10 = (D11, 0, some (⟨2, 3, 3⟩, ⟨row, [one]⟩))
theorem works_m : ∃ D1 D2 D3 D4 D5 D7 D8 D9 D10 D11, WorksM D1 D2 D3 D4 D5 D7 D8 D9 D10 D11 := by
  obtain ⟨u1, a, ga⟩ := open_new
  have hb1 := ga.base.len
  have s1 := small_1
  have s2 := small_2
  rw [show p0.t = 1 from rfl, show p0.n = 0 from rfl, show p0.rows = [] from rfl] at hb1
  have A1 : addE (p0.lg 0) one = 0 := by kernel_rfl
  have A2 : addE ((p0.snoc one).lg 0) two = 0 := by kernel_rfl
  have A3 : addE (((p0.snoc one).snoc two).lg 2) three = 0 := by kernel_rfl
  have o1 : (p0.snoc one).ok := Pl.snoc_ok p0_ok A1 (by decide)
  have o2 : ((p0.snoc one).snoc two).ok := Pl.snoc_ok o1 A2 (by decide)
  obtain ⟨u2, b, gb, b2, m2⟩ := lAdd (keep := []) ga A1 (by omega)
  obtain ⟨u3, c, gc, b3, m3⟩ := lAdd (keep := []) gb A2 (by rw [b2]; omega)
  obtain ⟨u4, d, gd, b4, m4⟩ := lSync (keep := []) gc
  obtain ⟨u5, e, ge, b5, m5⟩ := lAdd (keep := []) gd A3 (by rw [b4, b3, b2]; omega)
  have hm : mkO u5.l = (((p0.snoc one).snoc two).snoc three).upto 2 := by
    rw [m5, m4, Pl.snoc_upto _ _ (show 2 ≤ ((p0.snoc one).snoc two).bats.length by decide)]
    exact (upto_all ((p0.snoc one).snoc two)).symm
  obtain ⟨u6, f0, gf0⟩ := lFall (keep := []) ge hm (-1)
  have gf0 : Lost u6 ((p0.snoc one).snoc two) ((p0.snoc one).snoc two).bats.length := gf0
  obtain ⟨u7, f, gf⟩ := lOpen (keep := []) gf0 o2
  have hb7 := gf.base.len
  rw [show ((p0.snoc one).snoc two).t = 1 from rfl, show ((p0.snoc one).snoc two).n = 0 from rfl, show ((p0.snoc one).snoc two).rows = [] from rfl] at hb7
  have R1 : rowsE row = 0 := by kernel_rfl
  obtain ⟨u8, g, gg⟩ := lCkp (keep := []) gf o2 R1 (by decide) (by decide) (by
    rw [show ((p0.snoc one).snoc two).t + 1 = 2 from rfl, show ((p0.snoc one).snoc two).n + ((p0.snoc one).snoc two).bats.length = 2 from rfl]
    omega)
  have o8 : (((p0.snoc one).snoc two).next row).ok := Pl.next_ok o2 R1 (by decide)
  have A4 : addE ((((p0.snoc one).snoc two).next row).lg 0) one = 0 := by kernel_rfl
  have hb8 := gg.base.len
  rw [show (((p0.snoc one).snoc two).next row).t = 2 from rfl, show (((p0.snoc one).snoc two).next row).n = 2 from rfl, show (((p0.snoc one).snoc two).next row).rows = row from rfl] at hb8
  obtain ⟨u9, h, gh, b9, m9⟩ := lAdd (keep := []) gg A4 (by
    show _ + (logB 2 2 [one]).length ≤ _
    omega)
  obtain ⟨u10, i, gi, b10, m10⟩ := lSync (keep := []) gh
  have o9 : ((((p0.snoc one).snoc two).next row).snoc one).ok := Pl.snoc_ok o8 A4 (by decide)
  obtain ⟨u11, j, gj⟩ := lOpen (keep := []) gi.lost o9
  exact ⟨_, _, _, _, _, _, _, _, _, _, a, b, c, d, e, by rw [f0]; exact f, g, h, i, j⟩
end Go.Proofs.YtamglegdgcehaaaGreat
