/-
  Layer 11, plain: intents, records, their texts; what is written is read as it was, and what can be read is written so.
-/
import Derived.Test.YtdaecfgjfdikbaaGreatDoorZ23
import Derived.Test.YtdaecfgjfdikbaaGreatDoorZ18
import Derived.Test.YtdaecfgjfdikbaaGreatDoorZ19
set_option linter.unusedVariables false
namespace Go.Proofs.YtdaecfgjfdikbaaGreatDoor
open Go.RowKit

theorem tb_mk (l : List UInt8) : sb ⟨l.toArray⟩ = l := rfl
theorem mk_tb (s : ByteArray) : (⟨(sb s).toArray⟩ : ByteArray) = s := mk_sb s
theorem tb_inj {s t : ByteArray} (h : sb s = sb t) : s = t := sb_inj h
theorem ob_sb (s : ByteArray) : ob s = sb s := rfl

/-- A change, a write, an intent, a record. -/
structure Ch where
  q : Int
  s : ByteArray
  d : Bool
structure Wt where
  k : ByteArray
  q : Int
structure It where
  id : Int
  ep : Int
  pr : Int
  an : ByteArray
  sw : Int
  sl : Int
  bw : Int
  bl : Int
  l : List Ch
structure Rc where
  id : Int
  ep : Int
  st : Int
  pr : Int
  an : ByteArray
  sw : Int
  sl : Int
  bw : Int
  bl : Int
  l : List Wt

def slt (a b : ByteArray) : Bool := Op.bytesLess a.toList b.toList
def isN (n : Int) : Bool := decide (0 ≤ n ∧ n ≤ 9007199254740991)
def isI (n : Int) : Bool := decide (1 ≤ n ∧ n ≤ 9007199254740991)
def isP (n : Int) : Bool := decide (1 ≤ n ∧ n ≤ 1000)
def isK (s : ByteArray) : Bool := decide (1 ≤ s.size ∧ s.size ≤ 32)
def isV (s : ByteArray) (b : Bool) : Bool := decide (s.size ≤ 64 ∧ (b = true ∨ s.size = 0))
def isS (n : Int) : Bool := decide (1 ≤ n ∧ n ≤ 4)
theorem isN_iff {n : Int} : isN n = true ↔ 0 ≤ n ∧ n ≤ 9007199254740991 := decide_eq_true_iff
theorem isI_iff {n : Int} : isI n = true ↔ 1 ≤ n ∧ n ≤ 9007199254740991 := decide_eq_true_iff
theorem isP_iff {n : Int} : isP n = true ↔ 1 ≤ n ∧ n ≤ 1000 := decide_eq_true_iff
theorem isK_iff {s : ByteArray} : isK s = true ↔ 1 ≤ s.size ∧ s.size ≤ 32 := decide_eq_true_iff
theorem isV_iff {s : ByteArray} {b : Bool} : isV s b = true ↔ s.size ≤ 64 ∧ (b = true ∨ s.size = 0) := decide_eq_true_iff
theorem isS_iff {n : Int} : isS n = true ↔ 1 ≤ n ∧ n ≤ 4 := decide_eq_true_iff
/-- What intents and records have alike. -/
def hdr (id ep pr : Int) (an : ByteArray) : Bool := isI id && isN ep && isP pr && isK an
def okCh (a : Int) (c : Ch) : Bool := decide (a < c.q) && isI c.q && isV c.s (!c.d)
def rise : Int → List Ch → Bool
  | _, [] => true
  | a, c :: l => okCh a c && rise c.q l
def mayI (x : It) : Bool := hdr x.id x.ep x.pr x.an && may x.sw x.sl && may x.bw x.bl && decide (1 ≤ x.l.length ∧ x.l.length ≤ 16) && rise 0 x.l
def okWt (a : ByteArray) (c : Wt) : Bool := slt a c.k && isK c.k && isI c.q
def riseW : ByteArray → List Wt → Bool
  | _, [] => true
  | a, c :: l => okWt a c && riseW c.k l
def areW (st : Int) (l : List Wt) : Bool := if st = 2 then decide (l.length ≤ 32) && riseW ⟨#[]⟩ l else decide (l.length = 0)
def mayR (x : Rc) : Bool := hdr x.id x.ep x.pr x.an && may x.sw x.sl && may x.bw x.bl && isS x.st && areW x.st x.l

/-! ### texts -/
def nbs (n : Int) : List UInt8 := enc n.toNat
def tbs (s : ByteArray) : List UInt8 := enc s.size ++ sb s
def fbs (b : Bool) : List UInt8 := enc (if b then 1 else 0)
def txC (c : Ch) : List UInt8 := nbs c.q ++ (fbs c.d ++ tbs c.s)
def txW (c : Wt) : List UInt8 := tbs c.k ++ nbs c.q
def txS (a b : Int) : List UInt8 := nbs a ++ nbs b
def txI (x : It) : List UInt8 := nbs x.id ++ (nbs x.ep ++ (nbs x.pr ++ (tbs x.an ++ (nbs x.sw ++ (nbs x.sl ++ (nbs x.bw ++ (nbs x.bl ++ (nbs x.l.length ++ x.l.flatMap txC))))))))
def txR (x : Rc) : List UInt8 := nbs x.id ++ (nbs x.ep ++ (nbs x.st ++ (nbs x.pr ++ (tbs x.an ++ (nbs x.sw ++ (nbs x.sl ++ (nbs x.bw ++ (nbs x.bl ++ (nbs x.l.length ++ x.l.flatMap txW)))))))))
def txV (s : ByteArray) (b : Bool) : List UInt8 := fbs b ++ if b then tbs s else []

/-! ### what is read -/
abbrev Rst := Option (List UInt8)
def pn : Rst → Nat × Rst
  | none => (0, none)
  | some b => if (tk b).2.2 = 0 then ((tk b).1, some (tk b).2.1) else (0, none)
def ps : Rst → ByteArray × Rst
  | none => (⟨#[]⟩, none)
  | some b => if (tsx b 64).2.2 = 0 then (⟨(tsx b 64).1.toArray⟩, some (tsx b 64).2.1) else (⟨#[]⟩, none)
def pf (s : Rst) : Bool × Rst := (decide ((pn s).1 = 1), if 1 < (pn s).1 then none else (pn s).2)
def pC (s : Rst) : Ch × Rst :=
  let a := pn s
  let b := pf a.2
  let c := ps b.2
  (⟨a.1, c.1, b.1⟩, c.2)
def pW (s : Rst) : Wt × Rst :=
  let a := ps s
  let b := pn a.2
  (⟨a.1, b.1⟩, b.2)
def many {α : Type} (f : Rst → α × Rst) : Nat → Rst → List α × Rst
  | 0, s => ([], s)
  | _ + 1, none => ([], none)
  | k + 1, some b => ((f (some b)).1 :: (many f k (f (some b)).2).1, (many f k (f (some b)).2).2)

theorem pn_none : pn none = (0, none) := rfl
theorem ps_none : ps none = (⟨#[]⟩, none) := rfl
theorem pf_none : pf none = (false, none) := rfl
theorem pn_enc (n : Nat) (r : List UInt8) (h : n ≤ 9007199254740991) : pn (some (enc n ++ r)) = (n, some r) := by
  unfold pn
  simp only [tk_enc n r h]
  rfl
theorem pn_num (n : Int) (r : List UInt8) (h0 : 0 ≤ n) (h : n ≤ 9007199254740991) : pn (some (nbs n ++ r)) = (n.toNat, some r) := pn_enc _ _ (by omega)
theorem pn_back {s : Rst} {v : Nat} {r : List UInt8} (h : pn s = (v, some r)) : s = some (enc v ++ r) ∧ v ≤ 9007199254740991 := by
  cases s with
  | none => cases h
  | some b =>
    unfold pn at h
    simp only at h
    split at h
    · rename_i h0
      rcases tk_cases b with e | e | ⟨l, rest, e1, e2, e3, e4, e5⟩
      · rw [e] at h0; cases h0
      · rw [e] at h0; cases h0
      · rw [e5] at h
        injection h with h1 h2
        injection h2 with h2
        simp only at h1 h2
        subst h1 h2
        refine ⟨?_, e4⟩
        rw [e1]
        unfold enc
        rw [digs_val l e3]
        rfl
    · cases h
theorem pn_le (s : Rst) : (pn s).1 ≤ 9007199254740991 := by
  rcases h : pn s with ⟨v, o⟩
  cases o with
  | some r => exact (pn_back h).2
  | none =>
    cases s with
    | none => rw [pn_none] at h; cases h; simp
    | some b =>
      unfold pn at h
      simp only at h
      split at h
      · cases h
      · injection h with h1 _
        simp only; omega
theorem ps_str (s : ByteArray) (r : List UInt8) (h : s.size ≤ 64) : ps (some (tbs s ++ r)) = (s, some r) := by
  have ht : tsx (tbs s ++ r) 64 = (sb s, r, 0) := by
    unfold tbs
    rw [List.append_assoc, tsx_enc s 64 r (by omega), if_neg (by omega), if_neg (by omega)]
  unfold ps
  simp only [ht]
  rw [if_pos trivial, mk_tb]
theorem ts_back {b t r : List UInt8} {m : Int} (h : tsx b m = (t, r, 0)) : b = enc t.length ++ (t ++ r) ∧ (t.length : Int) ≤ m ∧ t.length ≤ 9007199254740991 := by
  unfold tsx at h
  split at h
  · cases h
  · unfold ts at h
    rcases htk : tk b with ⟨v, rest, x⟩
    rw [htk] at h
    simp only at h
    split at h
    · injection h with h1 h2
      injection h2 with h2 h3
      rename_i hx
      exact absurd h3 hx
    · rename_i hx
      split at h
      · cases h
      · split at h
        · cases h
        · injection h with h1 h2
          injection h2 with h2 h3
          have hp : pn (some b) = (v, some rest) := by
            unfold pn
            simp only [htk]
            rw [if_pos (by simpa using hx)]
          obtain ⟨e1, e2⟩ := pn_back hp
          injection e1 with e1
          have hl : t.length = v := by rw [← h1, List.length_take]; omega
          refine ⟨?_, by omega, by omega⟩
          rw [e1, hl, ← h1, ← h2, List.take_append_drop]
theorem ps_back {s : Rst} {v : ByteArray} {r : List UInt8} (h : ps s = (v, some r)) : s = some (tbs v ++ r) ∧ v.size ≤ 64 := by
  cases s with
  | none => cases h
  | some b =>
    unfold ps at h
    simp only at h
    split at h
    · rename_i h0
      injection h with h1 h2
      injection h2 with h2
      rcases ht : tsx b 64 with ⟨t, r', x⟩
      rw [ht] at h0 h1 h2
      simp only at h0 h1 h2
      subst h0 h1 h2
      obtain ⟨e1, e2, e3⟩ := ts_back ht
      have hz : (⟨t.toArray⟩ : ByteArray).size = t.length := by rw [← sb_len]
      refine ⟨?_, by rw [hz]; omega⟩
      unfold tbs
      rw [hz, List.append_assoc, tb_mk]
      exact congrArg some e1
    · cases h
theorem ps_size (s : Rst) : (ps s).1.size ≤ 64 := by
  rcases h : ps s with ⟨v, o⟩
  cases o with
  | some r => exact (ps_back h).2
  | none =>
    cases s with
    | none => rw [ps_none] at h; cases h; decide
    | some b =>
      unfold ps at h
      simp only at h
      split at h
      · cases h
      · injection h with h1 _
        subst h1
        decide
theorem pf_fl (b : Bool) (r : List UInt8) : pf (some (fbs b ++ r)) = (b, some r) := by
  unfold pf fbs
  cases b
  · rw [pn_enc _ _ (by simp)]; rfl
  · rw [pn_enc _ _ (by simp)]; rfl
theorem pf_back {s : Rst} {v : Bool} {r : List UInt8} (h : pf s = (v, some r)) : s = some (fbs v ++ r) := by
  unfold pf at h
  rcases hp : pn s with ⟨n, o⟩
  rw [hp] at h
  simp only at h
  injection h with h1 h2
  split at h2
  · cases h2
  · rename_i hn
    subst h2
    obtain ⟨e1, _⟩ := pn_back hp
    rw [e1]
    unfold fbs
    have : n = 0 ∨ n = 1 := by omega
    rcases this with rfl | rfl
    · subst h1; rfl
    · subst h1; rfl

theorem pC_tx (c : Ch) (r : List UInt8) (h1 : 0 ≤ c.q) (h2 : c.q ≤ 9007199254740991) (h3 : c.s.size ≤ 64) : pC (some (txC c ++ r)) = (c, some r) := by
  unfold pC txC
  simp only [List.append_assoc]
  rw [pn_num _ _ h1 h2]
  simp only
  rw [pf_fl]
  simp only
  rw [ps_str _ _ h3]
  simp only [Int.toNat_of_nonneg h1]
theorem pC_back {s : Rst} {c : Ch} {r : List UInt8} (h : pC s = (c, some r)) : s = some (txC c ++ r) ∧ 0 ≤ c.q := by
  unfold pC at h
  simp only at h
  injection h with h1 h2
  rcases e1 : pn s with ⟨v1, o1⟩
  rw [e1] at h1 h2
  simp only at h1 h2
  rcases e2 : pf o1 with ⟨v2, o2⟩
  rw [e2] at h1 h2
  simp only at h1 h2
  rcases e3 : ps o2 with ⟨v3, o3⟩
  rw [e3] at h1 h2
  simp only at h1 h2
  subst h2
  obtain ⟨rfl, _⟩ := ps_back e3
  obtain rfl := pf_back e2
  obtain ⟨rfl, _⟩ := pn_back e1
  subst h1
  refine ⟨?_, by simp⟩
  unfold txC nbs
  simp only [List.append_assoc, Int.toNat_natCast]
theorem pW_tx (c : Wt) (r : List UInt8) (h1 : 0 ≤ c.q) (h2 : c.q ≤ 9007199254740991) (h3 : c.k.size ≤ 64) : pW (some (txW c ++ r)) = (c, some r) := by
  unfold pW txW
  simp only [List.append_assoc]
  rw [ps_str _ _ h3]
  simp only
  rw [pn_num _ _ h1 h2]
  simp only [Int.toNat_of_nonneg h1]
theorem pW_back {s : Rst} {c : Wt} {r : List UInt8} (h : pW s = (c, some r)) : s = some (txW c ++ r) ∧ 0 ≤ c.q := by
  unfold pW at h
  simp only at h
  injection h with h1 h2
  rcases e1 : ps s with ⟨v1, o1⟩
  rw [e1] at h1 h2
  simp only at h1 h2
  rcases e2 : pn o1 with ⟨v2, o2⟩
  rw [e2] at h1 h2
  simp only at h1 h2
  subst h2
  obtain ⟨rfl, _⟩ := pn_back e2
  obtain ⟨rfl, _⟩ := ps_back e1
  subst h1
  refine ⟨?_, by simp⟩
  unfold txW nbs
  simp only [List.append_assoc, Int.toNat_natCast]
theorem many_tx {α : Type} {f : Rst → α × Rst} {t : α → List UInt8} (r : List UInt8) : ∀ l : List α, (∀ x ∈ l, ∀ r, f (some (t x ++ r)) = (x, some r)) → many f l.length (some (l.flatMap t ++ r)) = (l, some r)
  | [], _ => rfl
  | x :: l, h => by
    rw [List.flatMap_cons, List.append_assoc, List.length_cons, many, h x List.mem_cons_self, many_tx r l fun y hy => h y (List.mem_cons_of_mem _ hy)]
theorem many_back {α : Type} {f : Rst → α × Rst} {t : α → List UInt8} (hf : ∀ s x r, f s = (x, some r) → s = some (t x ++ r)) (hn : ∀ x, f none = (x, none) ∨ True) :
    ∀ (k : Nat) (s : Rst) (l : List α) (r : List UInt8), many f k s = (l, some r) → s = some (l.flatMap t ++ r) ∧ l.length = k
  | 0, s, l, r, h => by
    rw [many] at h
    cases h
    exact ⟨rfl, rfl⟩
  | k + 1, none, l, r, h => by
    rw [many] at h
    cases h
  | k + 1, some b, l, r, h => by
    rw [many] at h
    injection h with h1 h2
    rcases e : f (some b) with ⟨x, o⟩
    rw [e] at h1 h2
    simp only at h1 h2
    rcases e2 : many f k o with ⟨l', o2⟩
    rw [e2] at h1 h2
    simp only at h1 h2
    subst h2
    obtain ⟨e3, e4⟩ := many_back hf hn k o l' r e2
    subst e3
    have e5 := hf _ _ _ e
    subst h1
    refine ⟨?_, by simp [e4]⟩
    rw [e5, List.flatMap_cons, List.append_assoc]
theorem many_none {α : Type} (f : Rst → α × Rst) (k : Nat) : many f k none = ([], none) := by cases k <;> rfl

/-- An intent, as it is read; what is left. -/
def rdI (b : List UInt8) : It × Rst :=
  let a1 := pn (some b)
  let a2 := pn a1.2
  let a3 := pn a2.2
  let a4 := ps a3.2
  let a5 := pn a4.2
  let a6 := pn a5.2
  let a7 := pn a6.2
  let a8 := pn a7.2
  let a9 := pn a8.2
  let b0 := many pC a9.1 a9.2
  (⟨a1.1, a2.1, a3.1, a4.1, a5.1, a6.1, a7.1, a8.1, b0.1⟩, b0.2)
def rdR (b : List UInt8) : Rc × Rst :=
  let a1 := pn (some b)
  let a2 := pn a1.2
  let a0 := pn a2.2
  let a3 := pn a0.2
  let a4 := ps a3.2
  let a5 := pn a4.2
  let a6 := pn a5.2
  let a7 := pn a6.2
  let a8 := pn a7.2
  let a9 := pn a8.2
  let b0 := many pW a9.1 a9.2
  (⟨a1.1, a2.1, a0.1, a3.1, a4.1, a5.1, a6.1, a7.1, a8.1, b0.1⟩, b0.2)
def tkI (b : List UInt8) : Option It := if (rdI b).2 = some [] ∧ mayI (rdI b).1 = true then some (rdI b).1 else none
def tkR (b : List UInt8) : Option Rc := if (rdR b).2 = some [] ∧ mayR (rdR b).1 = true then some (rdR b).1 else none
def tkV (b : List UInt8) : Option (ByteArray × Bool) :=
  let a := pf (some b)
  if a.1 then (let c := ps a.2; if c.2 = some [] then some (c.1, true) else none) else if a.2 = some [] then some (⟨#[]⟩, false) else none
def tkS (b : List UInt8) : Option (Int × Int) :=
  let a := pn (some b)
  let c := pn a.2
  if c.2 = some [] ∧ may a.1 c.1 = true then some (a.1, c.1) else none
def tkN (b : List UInt8) : Option Int :=
  let a := pn (some b)
  if a.2 = some [] then some a.1 else none

theorem rise_all : ∀ {l : List Ch} {a : Int}, rise a l = true → ∀ c ∈ l, 0 ≤ c.q ∧ c.q ≤ 9007199254740991 ∧ c.s.size ≤ 64
  | [], _, _, c, hc => (nomatch hc)
  | x :: l, a, h, c, hc => by
    simp only [rise, okCh, Bool.and_eq_true] at h
    rcases List.mem_cons.1 hc with rfl | hc
    · have h1 := isI_iff.1 h.1.1.2
      have h2 := isV_iff.1 h.1.2
      exact ⟨by omega, h1.2, h2.1⟩
    · exact rise_all h.2 c hc
theorem riseW_all : ∀ {l : List Wt} {a : ByteArray}, riseW a l = true → ∀ c ∈ l, 0 ≤ c.q ∧ c.q ≤ 9007199254740991 ∧ c.k.size ≤ 64
  | [], _, _, c, hc => (nomatch hc)
  | x :: l, a, h, c, hc => by
    simp only [riseW, okWt, Bool.and_eq_true] at h
    rcases List.mem_cons.1 hc with rfl | hc
    · have h1 := isI_iff.1 h.1.2
      have h2 := isK_iff.1 h.1.1.2
      exact ⟨by omega, h1.2, by omega⟩
    · exact riseW_all h.2 c hc
theorem areW_all {st : Int} {l : List Wt} (h : areW st l = true) : l.length ≤ 32 ∧ ∀ c ∈ l, 0 ≤ c.q ∧ c.q ≤ 9007199254740991 ∧ c.k.size ≤ 64 := by
  unfold areW at h
  split at h
  · simp only [Bool.and_eq_true, decide_eq_true_iff] at h
    exact ⟨h.1, riseW_all h.2⟩
  · have := of_decide_eq_true h
    have : l = [] := List.eq_nil_of_length_eq_zero this
    subst this
    exact ⟨by simp, fun c hc => (nomatch hc)⟩
theorem may_le {a b : Int} (h : may a b = true) : 0 ≤ a ∧ a ≤ 9007199254740991 ∧ 0 ≤ b ∧ b ≤ 9007199254740991 := by
  have := may_iff.1 h
  omega
theorem nat_le (n : Nat) (h : n ≤ 9007199254740991) : (0 : Int) ≤ (n : Int) ∧ (n : Int) ≤ 9007199254740991 := by omega

theorem rdI_tx (x : It) (h : mayI x = true) : rdI (txI x) = (x, some []) := by
  simp only [mayI, hdr, Bool.and_eq_true] at h
  obtain ⟨⟨⟨⟨⟨⟨⟨h1, h2⟩, h3⟩, h4⟩, h5⟩, h6⟩, h7⟩, h8⟩ := h
  have h1 := isI_iff.1 h1
  have h2 := isN_iff.1 h2
  have h3 := isP_iff.1 h3
  have h4 := isK_iff.1 h4
  have h5 := may_le h5
  have h6 := may_le h6
  have h7 := of_decide_eq_true h7
  have h9 := rise_all h8
  unfold rdI txI
  simp only
  have hm := many_tx (f := pC) (t := txC) [] x.l fun c hc r => pC_tx c r (h9 c hc).1 (h9 c hc).2.1 (h9 c hc).2.2
  rw [List.append_nil] at hm
  rw [pn_num _ _ (by omega) (by omega)]
  simp only
  rw [pn_num _ _ (by omega) (by omega)]
  simp only
  rw [pn_num _ _ (by omega) (by omega)]
  simp only
  rw [ps_str _ _ (by omega)]
  simp only
  rw [pn_num _ _ (by omega) (by omega)]
  simp only
  rw [pn_num _ _ (by omega) (by omega)]
  simp only
  rw [pn_num _ _ (by omega) (by omega)]
  simp only
  rw [pn_num _ _ (by omega) (by omega)]
  simp only
  rw [pn_num _ _ (by omega) (by omega)]
  simp only [Int.toNat_natCast]
  rw [hm]
  simp only [Int.toNat_of_nonneg (show 0 ≤ x.id by omega), Int.toNat_of_nonneg h2.1, Int.toNat_of_nonneg (show 0 ≤ x.pr by omega), Int.toNat_of_nonneg h5.1, Int.toNat_of_nonneg h5.2.2.1, Int.toNat_of_nonneg h6.1, Int.toNat_of_nonneg h6.2.2.1]
theorem rdR_tx (x : Rc) (h : mayR x = true) : rdR (txR x) = (x, some []) := by
  simp only [mayR, hdr, Bool.and_eq_true] at h
  obtain ⟨⟨⟨⟨⟨⟨⟨h1, h2⟩, h3⟩, h4⟩, h5⟩, h6⟩, h7⟩, h8⟩ := h
  have h1 := isI_iff.1 h1
  have h2 := isN_iff.1 h2
  have h3 := isP_iff.1 h3
  have h4 := isK_iff.1 h4
  have h5 := may_le h5
  have h6 := may_le h6
  have h7 := isS_iff.1 h7
  obtain ⟨h10, h9⟩ := areW_all h8
  unfold rdR txR
  simp only
  have hm := many_tx (f := pW) (t := txW) [] x.l fun c hc r => pW_tx c r (h9 c hc).1 (h9 c hc).2.1 (h9 c hc).2.2
  rw [List.append_nil] at hm
  rw [pn_num _ _ (by omega) (by omega)]
  simp only
  rw [pn_num _ _ (by omega) (by omega)]
  simp only
  rw [pn_num _ _ (by omega) (by omega)]
  simp only
  rw [pn_num _ _ (by omega) (by omega)]
  simp only
  rw [ps_str _ _ (by omega)]
  simp only
  rw [pn_num _ _ (by omega) (by omega)]
  simp only
  rw [pn_num _ _ (by omega) (by omega)]
  simp only
  rw [pn_num _ _ (by omega) (by omega)]
  simp only
  rw [pn_num _ _ (by omega) (by omega)]
  simp only
  rw [pn_num _ _ (by omega) (by omega)]
  simp only [Int.toNat_natCast]
  rw [hm]
  simp only [Int.toNat_of_nonneg (show 0 ≤ x.id by omega), Int.toNat_of_nonneg h2.1, Int.toNat_of_nonneg (show 0 ≤ x.pr by omega), Int.toNat_of_nonneg (show 0 ≤ x.st by omega), Int.toNat_of_nonneg h5.1, Int.toNat_of_nonneg h5.2.2.1, Int.toNat_of_nonneg h6.1, Int.toNat_of_nonneg h6.2.2.1]

theorem num_nat (n : Nat) : nbs (n : Int) = enc n := by unfold nbs; rw [Int.toNat_natCast]
theorem rdI_back {b r : List UInt8} {x : It} (h : rdI b = (x, some r)) : b = txI x ++ r := by
  unfold rdI at h
  simp only at h
  injection h with h1 h2
  rcases e1 : pn (some b) with ⟨v1, o1⟩
  rw [e1] at h1 h2; simp only at h1 h2
  rcases e2 : pn o1 with ⟨v2, o2⟩
  rw [e2] at h1 h2; simp only at h1 h2
  rcases e3 : pn o2 with ⟨v3, o3⟩
  rw [e3] at h1 h2; simp only at h1 h2
  rcases e4 : ps o3 with ⟨v4, o4⟩
  rw [e4] at h1 h2; simp only at h1 h2
  rcases e5 : pn o4 with ⟨v5, o5⟩
  rw [e5] at h1 h2; simp only at h1 h2
  rcases e6 : pn o5 with ⟨v6, o6⟩
  rw [e6] at h1 h2; simp only at h1 h2
  rcases e7 : pn o6 with ⟨v7, o7⟩
  rw [e7] at h1 h2; simp only at h1 h2
  rcases e8 : pn o7 with ⟨v8, o8⟩
  rw [e8] at h1 h2; simp only at h1 h2
  rcases e9 : pn o8 with ⟨v9, o9⟩
  rw [e9] at h1 h2; simp only at h1 h2
  rcases e0 : many pC v9 o9 with ⟨l, o0⟩
  rw [e0] at h1 h2; simp only at h1 h2
  subst h2
  obtain ⟨rfl, hl⟩ := many_back (f := pC) (t := txC) (fun s c r h => (pC_back h).1) (fun _ => .inr trivial) _ _ _ _ e0
  obtain ⟨rfl, _⟩ := pn_back e9
  obtain ⟨rfl, _⟩ := pn_back e8
  obtain ⟨rfl, _⟩ := pn_back e7
  obtain ⟨rfl, _⟩ := pn_back e6
  obtain ⟨rfl, _⟩ := pn_back e5
  obtain ⟨rfl, _⟩ := ps_back e4
  obtain ⟨rfl, _⟩ := pn_back e3
  obtain ⟨rfl, _⟩ := pn_back e2
  obtain ⟨e, _⟩ := pn_back e1
  injection e with e
  rw [e, ← h1]
  unfold txI
  simp only [num_nat, hl, List.append_assoc]
theorem rdR_back {b r : List UInt8} {x : Rc} (h : rdR b = (x, some r)) : b = txR x ++ r := by
  unfold rdR at h
  simp only at h
  injection h with h1 h2
  rcases e1 : pn (some b) with ⟨v1, o1⟩
  rw [e1] at h1 h2; simp only at h1 h2
  rcases e2 : pn o1 with ⟨v2, o2⟩
  rw [e2] at h1 h2; simp only at h1 h2
  rcases f2 : pn o2 with ⟨u2, q2⟩
  rw [f2] at h1 h2; simp only at h1 h2
  rcases e3 : pn q2 with ⟨v3, o3⟩
  rw [e3] at h1 h2; simp only at h1 h2
  rcases e4 : ps o3 with ⟨v4, o4⟩
  rw [e4] at h1 h2; simp only at h1 h2
  rcases e5 : pn o4 with ⟨v5, o5⟩
  rw [e5] at h1 h2; simp only at h1 h2
  rcases e6 : pn o5 with ⟨v6, o6⟩
  rw [e6] at h1 h2; simp only at h1 h2
  rcases e7 : pn o6 with ⟨v7, o7⟩
  rw [e7] at h1 h2; simp only at h1 h2
  rcases e8 : pn o7 with ⟨v8, o8⟩
  rw [e8] at h1 h2; simp only at h1 h2
  rcases e9 : pn o8 with ⟨v9, o9⟩
  rw [e9] at h1 h2; simp only at h1 h2
  rcases e0 : many pW v9 o9 with ⟨l, o0⟩
  rw [e0] at h1 h2; simp only at h1 h2
  subst h2
  obtain ⟨rfl, hl⟩ := many_back (f := pW) (t := txW) (fun s c r h => (pW_back h).1) (fun _ => .inr trivial) _ _ _ _ e0
  obtain ⟨rfl, _⟩ := pn_back e9
  obtain ⟨rfl, _⟩ := pn_back e8
  obtain ⟨rfl, _⟩ := pn_back e7
  obtain ⟨rfl, _⟩ := pn_back e6
  obtain ⟨rfl, _⟩ := pn_back e5
  obtain ⟨rfl, _⟩ := ps_back e4
  obtain ⟨rfl, _⟩ := pn_back e3
  obtain ⟨rfl, _⟩ := pn_back f2
  obtain ⟨rfl, _⟩ := pn_back e2
  obtain ⟨e, _⟩ := pn_back e1
  injection e with e
  rw [e, ← h1]
  unfold txR
  simp only [num_nat, hl, List.append_assoc]

/-! ### the laws -/
theorem tkI_tx (x : It) (h : mayI x = true) : tkI (txI x) = some x := by
  unfold tkI
  rw [rdI_tx x h, if_pos ⟨rfl, h⟩]
theorem tkR_tx (x : Rc) (h : mayR x = true) : tkR (txR x) = some x := by
  unfold tkR
  rw [rdR_tx x h, if_pos ⟨rfl, h⟩]
theorem tkI_back {b : List UInt8} {x : It} (h : tkI b = some x) : mayI x = true ∧ b = txI x := by
  unfold tkI at h
  split at h
  · rename_i hh
    injection h with h
    subst h
    refine ⟨hh.2, ?_⟩
    have := rdI_back (b := b) (x := (rdI b).1) (r := []) (by rw [← hh.1])
    simpa using this
  · cases h
theorem tkR_back {b : List UInt8} {x : Rc} (h : tkR b = some x) : mayR x = true ∧ b = txR x := by
  unfold tkR at h
  split at h
  · rename_i hh
    injection h with h
    subst h
    refine ⟨hh.2, ?_⟩
    have := rdR_back (b := b) (x := (rdR b).1) (r := []) (by rw [← hh.1])
    simpa using this
  · cases h
theorem tkV_tx (s : ByteArray) (b : Bool) (h : isV s b = true) : tkV (txV s b) = some (s, b) := by
  have h := isV_iff.1 h
  unfold tkV txV
  simp only
  rw [pf_fl]
  cases b with
  | true =>
    have := ps_str s [] h.1
    rw [List.append_nil] at this
    simp only [if_true, this]
  | false =>
    have hz : s.size = 0 := by rcases h.2 with h | h; cases h; exact h
    have : s = ⟨#[]⟩ := by
      apply tb_inj
      have := sb_len s
      rw [hz] at this
      rw [List.eq_nil_of_length_eq_zero this]
    subst this
    rfl
theorem tkV_back {b : List UInt8} {s : ByteArray} {v : Bool} (h : tkV b = some (s, v)) : isV s v = true ∧ b = txV s v := by
  unfold tkV at h
  simp only at h
  rcases e1 : pf (some b) with ⟨v1, o1⟩
  rw [e1] at h
  simp only at h
  cases v1 with
  | true =>
    simp only [if_true] at h
    split at h
    · rename_i h0
      injection h with h
      injection h with h1 h2
      rcases e2 : ps o1 with ⟨v2, o2⟩
      rw [e2] at h0 h1
      simp only at h0 h1
      subst h0 h1 h2
      obtain ⟨rfl, hs⟩ := ps_back e2
      have e := pf_back e1
      injection e with e
      refine ⟨isV_iff.2 ⟨hs, .inl rfl⟩, ?_⟩
      rw [e]
      unfold txV
      simp
    · cases h
  | false =>
    simp only [Bool.false_eq_true, if_false] at h
    split at h
    · rename_i h0
      injection h with h
      injection h with h1 h2
      subst h0 h1 h2
      have e := pf_back e1
      injection e with e
      refine ⟨isV_iff.2 ⟨by decide, .inr (by decide)⟩, ?_⟩
      rw [e]
      unfold txV
      simp
    · cases h
theorem tkS_tx (a b : Int) (h : may a b = true) : tkS (txS a b) = some (a, b) := by
  have h1 := may_le h
  unfold tkS txS
  simp only
  rw [pn_num _ _ (by omega) (by omega)]
  simp only
  have := pn_num b [] h1.2.2.1 h1.2.2.2
  rw [List.append_nil] at this
  rw [this]
  simp only [Int.toNat_of_nonneg h1.1, Int.toNat_of_nonneg h1.2.2.1]
  rw [if_pos ⟨trivial, h⟩]
theorem tkS_back {l : List UInt8} {a b : Int} (h : tkS l = some (a, b)) : may a b = true ∧ l = txS a b := by
  unfold tkS at h
  simp only at h
  split at h
  · rename_i hh
    injection h with h
    injection h with h1 h2
    rcases e1 : pn (some l) with ⟨v1, o1⟩
    rw [e1] at h1 h2 hh
    simp only at h1 h2 hh
    rcases e2 : pn o1 with ⟨v2, o2⟩
    rw [e2] at h2 hh
    simp only at h2 hh
    obtain ⟨h0, hm⟩ := hh
    subst h0 h1 h2
    obtain ⟨rfl, _⟩ := pn_back e2
    obtain ⟨e, _⟩ := pn_back e1
    injection e with e
    refine ⟨hm, ?_⟩
    rw [e]
    unfold txS
    simp only [num_nat, List.append_nil]
  · cases h
theorem tkN_back {l : List UInt8} {a : Int} (h : tkN l = some a) : isN a = true ∧ l = nbs a := by
  unfold tkN at h
  simp only at h
  split at h
  · rename_i hh
    injection h with h
    rcases e1 : pn (some l) with ⟨v1, o1⟩
    rw [e1] at h hh
    simp only at h hh
    subst h hh
    obtain ⟨e, hv⟩ := pn_back e1
    injection e with e
    refine ⟨isN_iff.2 (by omega), ?_⟩
    rw [e, num_nat, List.append_nil]
  · cases h

/-! ### lengths -/
theorem num_len {n : Int} (h : n ≤ 9007199254740991) : (nbs n).length ≤ 8 := enc_len _ (by omega)
theorem str_len {s : ByteArray} {m : Nat} (h : s.size ≤ m) (hm : m ≤ 64) : (tbs s).length ≤ 8 + m := by
  have := enc_len s.size (by omega)
  unfold tbs
  rw [List.length_append, sb_len]
  omega
theorem fl_len (b : Bool) : (fbs b).length ≤ 8 := enc_len _ (by cases b <;> simp)
theorem flat_len {α : Type} {t : α → List UInt8} {m : Nat} : ∀ {l : List α}, (∀ x ∈ l, (t x).length ≤ m) → (l.flatMap t).length ≤ m * l.length
  | [], _ => by simp
  | x :: l, h => by
    have h1 := h x List.mem_cons_self
    have h2 := flat_len (l := l) fun y hy => h y (List.mem_cons_of_mem _ hy)
    rw [List.flatMap_cons, List.length_append, List.length_cons, Nat.mul_succ]
    omega
theorem txI_len (x : It) (h : mayI x = true) : (txI x).length ≤ 2048 := by
  simp only [mayI, hdr, Bool.and_eq_true] at h
  obtain ⟨⟨⟨⟨⟨⟨⟨h1, h2⟩, h3⟩, h4⟩, h5⟩, h6⟩, h7⟩, h8⟩ := h
  have h1 := num_len (isI_iff.1 h1).2
  have h2 := num_len (isN_iff.1 h2).2
  have h3 := num_len (n := x.pr) (by have := (isP_iff.1 h3).2; omega)
  have h4 := str_len (isK_iff.1 h4).2 (by omega)
  have a5 := num_len (may_le h5).2.1
  have b5 := num_len (may_le h5).2.2.2
  have a6 := num_len (may_le h6).2.1
  have b6 := num_len (may_le h6).2.2.2
  have h7 := of_decide_eq_true h7
  have n7 := num_len (n := x.l.length) (by omega)
  have h9 := flat_len (t := txC) (m := 88) (l := x.l) fun c hc => by
    obtain ⟨q1, q2, q3⟩ := rise_all h8 c hc
    have r1 := num_len q2
    have r2 := fl_len c.d
    have r3 := str_len q3 (Nat.le_refl _)
    unfold txC
    simp only [List.length_append]
    omega
  unfold txI
  simp only [List.length_append]
  omega
theorem txR_len (x : Rc) (h : mayR x = true) : (txR x).length ≤ 2048 := by
  simp only [mayR, hdr, Bool.and_eq_true] at h
  obtain ⟨⟨⟨⟨⟨⟨⟨h1, h2⟩, h3⟩, h4⟩, h5⟩, h6⟩, h7⟩, h8⟩ := h
  have h1 := num_len (isI_iff.1 h1).2
  have h2 := num_len (isN_iff.1 h2).2
  have h3 := num_len (n := x.pr) (by have := (isP_iff.1 h3).2; omega)
  have h4 := str_len (isK_iff.1 h4).2 (by omega)
  have a5 := num_len (may_le h5).2.1
  have b5 := num_len (may_le h5).2.2.2
  have a6 := num_len (may_le h6).2.1
  have b6 := num_len (may_le h6).2.2.2
  have h7 := num_len (n := x.st) (by have := (isS_iff.1 h7).2; omega)
  obtain ⟨h10, h9⟩ := areW_all h8
  have n7 := num_len (n := x.l.length) (by omega)
  have hk : ∀ c ∈ x.l, c.k.size ≤ 32 := by
    intro c hc
    unfold areW at h8
    split at h8
    · simp only [Bool.and_eq_true] at h8
      have := h8.2
      clear h9 h10 n7 h8
      generalize (⟨#[]⟩ : ByteArray) = a at this
      generalize x.l = xl at this hc
      induction xl generalizing a with
      | nil => cases hc
      | cons y l ih =>
        simp only [riseW, okWt, Bool.and_eq_true] at this
        rcases List.mem_cons.1 hc with rfl | hc
        · exact (isK_iff.1 this.1.1.2).2
        · exact ih _ this.2 hc
    · have := List.eq_nil_of_length_eq_zero (of_decide_eq_true h8)
      rw [this] at hc
      cases hc
  have h9 := flat_len (t := txW) (m := 48) (l := x.l) fun c hc => by
    obtain ⟨q1, q2, q3⟩ := h9 c hc
    have r1 := num_len q2
    have r3 := str_len (hk c hc) (by omega)
    unfold txW
    simp only [List.length_append]
    omega
  unfold txR
  simp only [List.length_append]
  omega
theorem txV_len (s : ByteArray) (b : Bool) (h : isV s b = true) : (txV s b).length ≤ 2048 := by
  have h := isV_iff.1 h
  have r2 := fl_len b
  have r3 := str_len h.1 (Nat.le_refl _)
  unfold txV
  cases b <;> simp [List.length_append] <;> omega
theorem txS_len (a b : Int) (h : may a b = true) : (txS a b).length ≤ 2048 := by
  have h := may_le h
  have r1 := num_len h.2.1
  have r2 := num_len h.2.2.2
  unfold txS
  rw [List.length_append]
  omega
/-- Longer texts say nothing. -/
theorem tkI_long {b : List UInt8} (h : 2048 < b.length) : tkI b = none := by
  cases e : tkI b with
  | none => rfl
  | some x =>
    obtain ⟨h1, rfl⟩ := tkI_back e
    have := txI_len x h1
    omega
theorem tkR_long {b : List UInt8} (h : 2048 < b.length) : tkR b = none := by
  cases e : tkR b with
  | none => rfl
  | some x =>
    obtain ⟨h1, rfl⟩ := tkR_back e
    have := txR_len x h1
    omega
theorem tkV_long {b : List UInt8} (h : 2048 < b.length) : tkV b = none := by
  cases e : tkV b with
  | none => rfl
  | some x =>
    obtain ⟨h1, rfl⟩ := tkV_back e
    have := txV_len x.1 x.2 h1
    omega
theorem tkS_long {b : List UInt8} (h : 2048 < b.length) : tkS b = none := by
  cases e : tkS b with
  | none => rfl
  | some x =>
    obtain ⟨h1, rfl⟩ := tkS_back e
    have := txS_len x.1 x.2 h1
    omega
theorem tkN_long {b : List UInt8} (h : 2048 < b.length) : tkN b = none := by
  cases e : tkN b with
  | none => rfl
  | some x =>
    obtain ⟨h1, rfl⟩ := tkN_back e
    have := num_len (isN_iff.1 h1).2
    omega

/-- The document's taker looks at 17 (33) at most. -/
theorem many_bad {α : Type} (f : Rst → α × Rst) (k m : Nat) (s : Rst) (hk : k ≤ m) : (many f k s).2 = none → (many f m s).2 = none := by
  induction k generalizing m s with
  | zero => intro h; rw [many] at h; simp only at h; subst h; rw [many_none]
  | succ k ih =>
    cases s with
    | none => intro _; rw [many_none]
    | some b =>
      obtain ⟨m, rfl⟩ : ∃ j, m = j + 1 := ⟨m - 1, by omega⟩
      rw [many, many]
      exact ih m _ (by omega)
theorem many_len {α : Type} (f : Rst → α × Rst) : ∀ (k : Nat) (s : Rst), (many f k s).1.length ≤ k ∧ ((many f k s).2 ≠ none → (many f k s).1.length = k)
  | 0, s => ⟨Nat.zero_le _, fun _ => rfl⟩
  | k + 1, none => ⟨Nat.zero_le _, fun h => absurd rfl h⟩
  | k + 1, some b => by
    have := many_len f k (f (some b)).2
    rw [many]
    simp only [List.length_cons]
    exact ⟨by omega, fun h => by rw [this.2 h]⟩
end Go.Proofs.YtdaecfgjfdikbaaGreatDoor
