/-
  Layer 8: a log, plainly: its bytes, what bytes say, what it does on a disk.
  Layer 8: a list of pieces of the call's own, as it is appended to.
  Layer 8, the code: whether changes may be a batch, whether rows may be.
  Layer 8: the code's inTurn: closures, one behind the other, up to the first error.
  Layer 8: what a log's bytes say: what was written is read as it was, cut anywhere.
  Layer 8, the code: whether rows may be.
-/
import Derived.Test.YtamglegdgcehaaaGreatZ03
import Derived.Test.YtamglegdgcehaaaGreatZ05
import Derived.Test.YtamglegdgcehaaaGreatZ09
import Derived.Test.YtamglegdgcehaaaGreatZ01
set_option linter.unusedVariables false
namespace Go.Proofs.YtamglegdgcehaaaGreat
open Go.RowKit

/-- A change. -/
structure Op_ where
  key : ByteArray
  value : ByteArray
  del : Bool
/-- A row. -/
structure Rw where
  key : ByteArray
  value : ByteArray
/-- A log that is not broken: its turn, the number of its last batch, that of the last one that is known to be kept. -/
structure Lg where
  turn : Nat
  last : Nat
  safe : Nat

def nBase : ByteArray := ⟨#[98, 97, 115, 101]⟩
def nLog : ByteArray := ⟨#[108, 111, 103]⟩
def nNext : ByteArray := ⟨#[110, 101, 120, 116]⟩

/-! ### works, one behind the other, up to the first error -/
abbrev Doing := Dk → Dk × Int
def runA : List Doing → Doing
  | [], D => (D, 0)
  | a :: l, D => if (a D).2 = 0 then runA l (a D).1 else a D
def aApp (s : ByteArray) (bs : List UInt8) : Doing := fun D => (app D s bs, appE D s bs.length)
def aSyn (s : ByteArray) : Doing := fun D => (syn D s, synE D s)
def aRen (s t : ByteArray) : Doing := fun D => (ren D s t, renE D s t)
def aRem (s : ByteArray) : Doing := fun D => (rem D s, remE D s)
def aRm (s : ByteArray) : Doing := fun D => (rem D s, if remE D s = 70 then 0 else remE D s)
def aCut (s : ByteArray) (k : Nat) : Doing := fun D => (cut D s k, cutE D s k)

/-! ### bytes -/
def txt (s : ByteArray) : List UInt8 := enc s.size ++ sb s
def opB (o : Op_) : List UInt8 := enc (if o.del then 1 else 0) ++ (txt o.key ++ txt o.value)
def batB (k : Nat) (l : List Op_) : List UInt8 := enc k ++ (enc l.length ++ (l.map opB).flatten)
def rowB (r : Rw) : List UInt8 := txt r.key ++ txt r.value
def headB (t n : Nat) : List UInt8 := enc t ++ enc n
def baseH (t n k : Nat) : List UInt8 := enc t ++ (enc n ++ enc k)
def baseB (t n : Nat) (rows : List Rw) : List UInt8 := fr (baseH t n rows.length) ++ (rows.map (fun r => fr (rowB r))).flatten
def batchesB (n : Nat) : List (List Op_) → List UInt8
  | [] => []
  | b :: bs => fr (batB (n + 1) b) ++ batchesB (n + 1) bs
def logB (t n : Nat) (bs : List (List Op_)) : List UInt8 := fr (headB t n) ++ batchesB n bs

/-! ### what may be -/
def tooLong (k v : ByteArray) : Bool := decide (4096 < k.size) || decide (4096 < v.size)
def badOp (o : Op_) : Bool := decide (o.key.size = 0) || (o.del && !decide (o.value.size = 0))
def opsE (l : List Op_) : Int :=
  if 128 < l.length ∨ l.any (fun o => tooLong o.key o.value) = true then 5 else if l = [] ∨ l.any badOp = true then 2 else 0
/-- Keys that rise, from one on. -/
def rise : ByteArray → List Rw → Bool
  | _, [] => true
  | k, r :: rs => nl k r.key && rise r.key rs
def rowsE (l : List Rw) : Int :=
  if 10000 < l.length ∨ l.any (fun r => tooLong r.key r.value) = true then 5 else if rise ⟨#[]⟩ l = false then 2 else 0

/-! ### what bytes say -/
/-- A reader: what is left; whether something could not be taken. -/
structure Rd where
  left : List UInt8
  bad : Bool
def rNum (r : Rd) : Nat × Rd := ((tk r.left).1, ⟨(tk r.left).2.1, r.bad || decide ((tk r.left).2.2 ≠ 0)⟩)
def rStr (r : Rd) : ByteArray × Rd := (⟨(tsx r.left 4096).1.toArray⟩, ⟨(tsx r.left 4096).2.1, r.bad || decide ((tsx r.left 4096).2.2 ≠ 0)⟩)
def rDone (r : Rd) : Bool := !r.bad && r.left.isEmpty
def rdHead (p : List UInt8) : Option (Nat × Nat) :=
  let a := rNum ⟨p, false⟩
  let b := rNum a.2
  if rDone b.2 = true ∧ 1 ≤ a.1 then some (a.1, b.1) else none
def rdBaseH (p : List UInt8) : Option (Nat × Nat × Nat) :=
  let a := rNum ⟨p, false⟩
  let b := rNum a.2
  let c := rNum b.2
  if rDone c.2 = true ∧ 1 ≤ a.1 then some (a.1, b.1, c.1) else none
def rdRow (p : List UInt8) : Option Rw :=
  let a := rStr ⟨p, false⟩
  let b := rStr a.2
  if rDone b.2 = true then some ⟨a.1, b.1⟩ else none
def rdRows : List (List UInt8) → Option (List Rw)
  | [] => some []
  | p :: ps => match rdRow p with
    | none => none
    | some r => match rdRows ps with
      | none => none
      | some rs => some (r :: rs)
/-- So many changes. -/
def rdOps : Nat → Rd → Option (List Op_ × Rd)
  | 0, r => some ([], r)
  | k + 1, r =>
    let a := rNum r
    let b := rStr a.2
    let c := rStr b.2
    if 1 < a.1 then none else match rdOps k c.2 with
      | none => none
      | some (l, r') => some (⟨b.1, c.1, decide (a.1 = 1)⟩ :: l, r')
def rdBatch (p : List UInt8) (k : Nat) : Option (List Op_) :=
  let a := rNum ⟨p, false⟩
  let b := rNum a.2
  if 128 < b.1 ∨ a.1 ≠ k then none else match rdOps b.1 b.2 with
    | none => none
    | some (l, r) => if rDone r = true ∧ opsE l = 0 then some l else none
def rdBatches (n : Nat) : List (List UInt8) → Option (List (List Op_))
  | [] => some []
  | p :: ps => match rdBatch p (n + 1) with
    | none => none
    | some b => match rdBatches (n + 1) ps with
      | none => none
      | some bs => some (b :: bs)
/-- How many bytes records have. -/
def rsize (ps : List (List UInt8)) : Nat := (ps.map (fun p => (fr p).length)).sum
def rdBase (b : List UInt8) : Option (Nat × Nat × List Rw) :=
  match alls b with
  | [] => none
  | p :: ps => if rsize (p :: ps) < b.length then none else match rdBaseH p with
    | none => none
    | some (t, n, c) => if c ≠ ps.length then none else match rdRows ps with
      | none => none
      | some rows => if rowsE rows = 0 then some (t, n, rows) else none
/-- What a file "log" is, behind a base of that turn and number. -/
inductive Found where
  | wrong
  | anew
  | goes (bs : List (List Op_)) (size : Nat)
def rdLog (t n : Nat) (b : List UInt8) : Found :=
  let e := (nx (b.drop (rsize (alls b)))).2.2
  match alls b with
  | [] => if e = 3 then .anew else .wrong
  | p :: ps => match rdHead p with
    | none => .wrong
    | some (t', n') => if t' < t then .anew else if t < t' ∨ n' ≠ n ∨ e ≠ 3 then .wrong else match rdBatches n ps with
      | none => .wrong
      | some bs => .goes bs (rsize (p :: ps))

/-! ### what it does -/
def writeA (t n : Nat) : Doing := runA [aApp nLog (fr (headB t n)), aSyn nLog]
def renewA (t n : Nat) : Doing := runA [aRm nLog, writeA t n]
def keepA (size all : Nat) : Doing := runA ((if size < all then [aCut nLog size] else []) ++ [aSyn nLog])
def ckA (t n : Nat) (rows : List Rw) : Doing := runA [aApp nNext (baseB t n rows), aSyn nNext, aRen nNext nBase, aRem nLog, writeA t n]
/-- A disk, and a log on it (none: it is broken). -/
structure Js where
  D : Dk
  x : Option Lg
/-- A work: the log is broken, if it fails. -/
def Js.does (D : Dk) (a : Doing) (g : Lg) : Js := ⟨(a D).1, if (a D).2 = 0 then some g else none⟩
def addE (g : Lg) (l : List Op_) : Int := if opsE l ≠ 0 then opsE l else if 65536 < (batB (g.last + 1) l).length then 5 else 0
def Js.add (s : Js) (l : List Op_) : Js × Nat × Int :=
  match s.x with
  | none => (s, 0, 71)
  | some g => if addE g l ≠ 0 then (s, 0, addE g l) else
    let a := aApp nLog (fr (batB (g.last + 1) l))
    (Js.does s.D a { g with last := g.last + 1 }, if (a s.D).2 = 0 then g.last + 1 else 0, (a s.D).2)
def Js.sync (s : Js) : Js × Int :=
  match s.x with
  | none => (s, 71)
  | some g => (Js.does s.D (aSyn nLog) { g with safe := g.last }, (aSyn nLog s.D).2)
def Js.last (s : Js) : Nat := match s.x with | none => 0 | some g => g.last
def Js.safe (s : Js) : Nat := match s.x with | none => 0 | some g => g.safe
def Js.ckp (s : Js) (rows : List Rw) : Js × Int :=
  match s.x with
  | none => (s, 71)
  | some g => if rowsE rows ≠ 0 then (s, rowsE rows) else
    (Js.does s.D (ckA (g.turn + 1) g.last rows) ⟨g.turn + 1, g.last, g.last⟩, (ckA (g.turn + 1) g.last rows s.D).2)
/-- What a log has. -/
structure Kp where
  rows : List Rw
  bats : List (List Op_)
/-- Open: the disk behind it, the error, the log and what it has (with an error: none). -/
def opnBase (D : Dk) : Option (Nat × Nat × List Rw) := if rdE D nBase = 0 then rdBase (rdB D nBase) else some (1, 0, [])
def opnLog (D : Dk) (t n : Nat) (rows : List Rw) : Dk × Int × Option (Lg × Kp) :=
  match rdLog t n (rdB D nLog) with
  | .wrong => (D, 80, none)
  | .anew => let r := renewA t n D
    (r.1, r.2, if r.2 = 0 then some (⟨t, n, n⟩, ⟨rows, []⟩) else none)
  | .goes bs size => let r := keepA size (rdB D nLog).length D
    (r.1, r.2, if r.2 = 0 then some (⟨t, n + bs.length, n + bs.length⟩, ⟨rows, bs⟩) else none)
def opn (D : Dk) : Dk × Int × Option (Lg × Kp) :=
  let r := aRm nNext D
  if r.2 ≠ 0 then (r.1, r.2, none) else match opnBase r.1 with
    | none => (r.1, 80, none)
    | some (t, n, rows) => opnLog r.1 t n rows
end Go.Proofs.YtamglegdgcehaaaGreat
set_option linter.unusedVariables false
namespace Go.Proofs.YtamglegdgcehaaaGreat
open Go.RowKit

theorem infoB : ∃ z, (Tryz.prog.info? 40).map (fun i => (i.zero, i.size, i.bytes)) = some (some z, 1, 24) ∧ z.cells.size = 1 := ⟨.slice none 0 0, by kernel_rfl, by kernel_rfl⟩

theorem nba (V : World) (o : Obj) : Below V.heap.size V (V.alloc o) := (Below.refl _ _).alloc (Nat.le_refl _) o
/-- The values, and what they are read as. -/
def Pcs (w : World) (B : Nat) (us : List Value) (ls : List (List UInt8)) : Prop := us.length = ls.length ∧ ∀ (i : Nat) u l, us[i]? = some u → ls[i]? = some l → Own w B u l
theorem Pcs.nil (w : World) (B : Nat) : Pcs w B [] [] := ⟨rfl, fun i u l h => by simp at h⟩
theorem Pcs.one {w : World} {B : Nat} {u : Value} {l : List UInt8} (h : Own w B u l) : Pcs w B [u] [l] := ⟨rfl, fun i u' l' h1 h2 => by
  cases i with
  | zero => simp at h1 h2; subst h1; subst h2; exact h
  | succ i => simp at h1⟩
theorem Pcs.append {w : World} {B : Nat} {us us' : List Value} {ls ls' : List (List UInt8)} (h : Pcs w B us ls) (h' : Pcs w B us' ls') : Pcs w B (us ++ us') (ls ++ ls') := by
  refine ⟨by rw [List.length_append, List.length_append, h.1, h'.1], fun i u l h1 h2 => ?_⟩
  by_cases hi : i < us.length
  · rw [List.getElem?_append_left hi] at h1
    rw [List.getElem?_append_left (by rw [← h.1]; exact hi)] at h2
    exact h.2 i u l h1 h2
  · rw [List.getElem?_append_right (by omega)] at h1
    rw [List.getElem?_append_right (by rw [← h.1]; omega), ← h.1] at h2
    exact h'.2 _ u l h1 h2
theorem Pcs.two {w : World} {B : Nat} {u u' : Value} {l l' : List UInt8} (h : Own w B u l) (h' : Own w B u' l') : Pcs w B [u, u'] [l, l'] := (Pcs.one h).append (Pcs.one h')
theorem Pcs.on {w w' : World} {B B' : Nat} {us : List Value} {ls : List (List UInt8)} (h : Pcs w B us ls) (hk : ∀ (i : Nat) u l, Own w B u l → us[i]? = some u → Own w' B' u l) : Pcs w' B' us ls :=
  ⟨h.1, fun i u l h1 h2 => hk i u l (h.2 i u l h1 h2) h1⟩
theorem Pcs.below {w w' : World} {B : Nat} {us : List Value} {ls : List (List UInt8)} (h : Pcs w B us ls) (hb : Below w.heap.size w w') : Pcs w' B us ls := h.on fun _ _ _ ho _ => ho.below hb

/-- A list of pieces of one's own. -/
def LO (w : World) (B : Nat) (v : Value) (ls : List (List UInt8)) : Prop := ∃ us, w.ownsRow B 40 1 v ls.length us ∧ Pcs w B us ls
theorem LO.nil (w : World) (B : Nat) : LO w B (.slice none 0 0) [] := ⟨[], World.ownsRow_nil _ _ _ _, Pcs.nil _ _⟩
theorem LO.below {w w' : World} {B : Nat} {v : Value} {ls : List (List UInt8)} (h : LO w B v ls) (hb : Below w.heap.size w w') : LO w' B v ls := by
  obtain ⟨us, h1, h2⟩ := h
  exact ⟨us, World.ownsRow.kept h1 (row := none) ⟨hb.os, hb.tape, hb.output, hb.size, fun k hk _ => hb.block k hk⟩ (by
    cases hv : v.ownBlock with
    | none => exact .inl rfl
    | some q => exact .inr (by simp)), h2.below hb⟩
theorem LO.form {w : World} {B : Nat} {v : Value} {ls : List (List UInt8)} (h : LO w B v ls) : ∃ A c, v = .slice A ls.length c ∧ Lists w A ls.length ls ∧ ls.length ≤ c ∧ c ≤ 9223372036854775807 := by
  obtain ⟨us, h1, h2⟩ := h
  rcases h1.2 with ⟨rfl, hn0⟩ | ⟨q, cap, cur, rfl, hq, hh, hnc, hcm, hcs, htk⟩
  · obtain rfl : ls = [] := List.eq_nil_of_length_eq_zero hn0
    exact ⟨none, 0, rfl, ⟨rfl, fun h => absurd h (by simp)⟩, by simp, by omega⟩
  · refine ⟨_, cap, rfl, ⟨rfl, fun _ => ⟨q, 0, rfl, fun j hj => ?_⟩⟩, hnc, hcm⟩
    have hju : j < us.length := by rw [h2.1]; exact hj
    obtain ⟨A, c, hu, hat, _⟩ := (h2.2 j _ _ (List.getElem?_eq_getElem hju) (List.getElem?_eq_getElem hj)).form
    refine ⟨A, c, ?_, hat⟩
    rw [Nat.zero_add, h1.cellAt j (by have := h2.1; omega), List.getElem?_eq_getElem hju, hu]
theorem own_apart {w : World} {B B' n : Nat} {v u : Value} {xs : List Value} {l : List UInt8} (h : w.ownsRow B 40 1 v n xs) (ho : Own w B' u l) {k : Nat} (hk : u.ownBlock = some k) : v.ownBlock ≠ some k := by
  intro e
  unfold Own at ho
  rcases ho.2 with ⟨rfl, _⟩ | ⟨q, cap, cur, rfl, _, hh, _⟩
  · cases hk
  · have : q = k := by injection hk
    subst this
    rcases h.2 with ⟨rfl, _⟩ | ⟨q', cap', cur', rfl, _, hh', _⟩
    · cases e
    · have : q' = q := by injection e
      subst this
      rw [hh] at hh'
      injection hh' with hh'
      injection hh' with _ hh' _
      exact absurd hh' (by decide)
/-- 'append(v, ..)' of a literal of pieces. -/
theorem wpList_appL {w : World} {ops : Array Oper} {rest : List Oper} {o : Oper} {a : Act} {Q : Exit → Act → World → Prop} (hgd : o.guard = none) (s x : Operand)
    (ho : o.op = .call { callee := .builtin .append, args := #[s, x], argTypes := #[42, 42] })
    (B : Nat) (v : Value) (ls : List (List UInt8)) (hs : a.eval s = v) (hown : LO w B v ls)
    (g m c : Nat) (news : List Value) (ls2 : List (List UInt8)) (hx : a.eval x = .slice (some ⟨g, 0, none⟩) m c) (hm : ls2.length = m) (hn : ∀ j u, news[j]? = some u → w.cell? ⟨g, j, none⟩ = some u) (hP : Pcs w B news ls2)
    (hsz : (ls.length + m) * 24 ≤ 140737488355328) (hbase : B ≤ w.heap.size)
    (h : ∀ v' w', LO w' B v' (ls ++ ls2) → w.grownBy w' v.ownBlock → wpList Tryz.prog ops Q rest (a.put o.dst v') w') :
    wpList Tryz.prog ops Q (o :: rest) a w := by
  obtain ⟨z, hinfo, hzc⟩ := infoB
  obtain ⟨i, hi, hz, hsz1, hby⟩ := info_parts hinfo
  obtain ⟨us, h1, h2⟩ := hown
  have hnl : news.length = m := by rw [hP.1, hm]
  refine wpList_appV hgd s x 42 ho B 40 i z 1 24 Tryz.underlying42 hi hz hsz1 hby hzc (by omega) v ls.length us hs h1 (some ⟨g, 0, none⟩) m c news hx (by omega)
    (fun _ => ⟨g, 0, rfl, fun j u hj => by rw [Nat.zero_add]; exact hn j u hj⟩) (fun u hu => ?_) (by unfold maxLen; omega) hsz hbase (fun v' w' hr hg => ?_)
  · obtain ⟨j, hj⟩ := List.mem_iff_getElem?.1 hu
    have hjl : j < ls2.length := by
      rcases Nat.lt_or_ge j news.length with h | h
      · omega
      · rw [List.getElem?_eq_none h] at hj; cases hj
    obtain ⟨A, c', rfl, _⟩ := (hP.2 j u _ hj (List.getElem?_eq_getElem hjl)).form
    rfl
  · have hon : ∀ u l, Own w B u l → Own w' B u l := fun u l ho => ho.onS fun k hk => hg.block k (World.ownsRow.lt ho k hk).2 (fun e => own_apart h1 ho hk e.symm)
    refine h v' w' ⟨us ++ news, by rw [List.length_append, hm]; exact hr, ?_⟩ hg
    exact (h2.on fun _ u l ho _ => hon u l ho).append (hP.on fun _ u l ho _ => hon u l ho)
theorem LO.own {w : World} {B : Nat} {v : Value} {ls : List (List UInt8)} (h : LO w B v ls) : ∀ k, v.ownBlock = some k → B ≤ k ∧ k < w.heap.size := by
  obtain ⟨us, h1, _⟩ := h
  exact World.ownsRow.lt h1
theorem LO.grown {w0 w w' : World} {B : Nat} {v : Value} {ls : List (List UInt8)} (h : LO w B v ls) (hb : Below B w0 w) (hB : B ≤ w.heap.size) (hg : w.grownBy w' v.ownBlock) : Below B w0 w' :=
  hb.trans ⟨hg.os, hg.tape, hg.output, hg.size, fun k hk => hg.block k (by omega) (fun e => by have := (h.own k e.symm).1; omega)⟩
end Go.Proofs.YtamglegdgcehaaaGreat
set_option linter.unusedVariables false
namespace Go.Proofs.YtamglegdgcehaaaGreat
open Go.RowKit

/-- A list of changes in memory; of rows. -/
def OAt (w : World) (A : Option Addr) (n : Nat) (l : List Op_) : Prop :=
  l.length = n ∧ (0 < n → ∃ b o, A = some ⟨b, o, none⟩ ∧ ∀ i (h : i < l.length), w.cell? ⟨b, o + i * 3, none⟩ = some (.string (l[i]'h).key) ∧ w.cell? ⟨b, o + i * 3 + 1, none⟩ = some (.string (l[i]'h).value) ∧ w.cell? ⟨b, o + i * 3 + 2, none⟩ = some (.bool (l[i]'h).del))
def WAt (w : World) (A : Option Addr) (n : Nat) (l : List Rw) : Prop :=
  l.length = n ∧ (0 < n → ∃ b o, A = some ⟨b, o, none⟩ ∧ ∀ i (h : i < l.length), w.cell? ⟨b, o + i * 2, none⟩ = some (.string (l[i]'h).key) ∧ w.cell? ⟨b, o + i * 2 + 1, none⟩ = some (.string (l[i]'h).value))
theorem OAt.keep {w w' : World} {A : Option Addr} {n : Nat} {l : List Op_} (h : OAt w A n l) (hk : ∀ a v, w.cell? a = some v → InF (fun k => k = a.block) A → w'.cell? a = some v) : OAt w' A n l := by
  refine ⟨h.1, fun h0 => ?_⟩
  obtain ⟨b, o, rfl, hc⟩ := h.2 h0
  have hin : ∀ j, InF (fun k => k = (⟨b, j, none⟩ : Addr).block) (some ⟨b, o, none⟩) := fun j a e => by injection e with e; subst e; rfl
  exact ⟨b, o, rfl, fun i hi => ⟨hk _ _ (hc i hi).1 (hin _), hk _ _ (hc i hi).2.1 (hin _), hk _ _ (hc i hi).2.2 (hin _)⟩⟩
theorem WAt.keep {w w' : World} {A : Option Addr} {n : Nat} {l : List Rw} (h : WAt w A n l) (hk : ∀ a v, w.cell? a = some v → InF (fun k => k = a.block) A → w'.cell? a = some v) : WAt w' A n l := by
  refine ⟨h.1, fun h0 => ?_⟩
  obtain ⟨b, o, rfl, hc⟩ := h.2 h0
  have hin : ∀ j, InF (fun k => k = (⟨b, j, none⟩ : Addr).block) (some ⟨b, o, none⟩) := fun j a e => by injection e with e; subst e; rfl
  exact ⟨b, o, rfl, fun i hi => ⟨hk _ _ (hc i hi).1 (hin _), hk _ _ (hc i hi).2 (hin _)⟩⟩
theorem OAt.below {w w' : World} {A : Option Addr} {n : Nat} {l : List Op_} (h : OAt w A n l) (hb : Below w.heap.size w w') : OAt w' A n l := h.keep fun a v e _ => by rw [hb.cell (World.block_lt_of_cell? w _ e), e]
theorem WAt.below {w w' : World} {A : Option Addr} {n : Nat} {l : List Rw} (h : WAt w A n l) (hb : Below w.heap.size w w') : WAt w' A n l := h.keep fun a v e _ => by rw [hb.cell (World.block_lt_of_cell? w _ e), e]

theorem nb_ (V : World) (o : Obj) : Below V.heap.size V (V.alloc o) := (Below.refl _ _).alloc (Nat.le_refl _) o
theorem toList_len (s : ByteArray) : s.toList.length = s.size := by rw [Lib.toList_data]; rfl
theorem empty_size (s : ByteArray) : decide (s.size = 0) = s.toList.isEmpty := by
  rw [← toList_len s]
  cases s.toList <;> simp
theorem any_take_succ {α : Type} (p : α → Bool) (l : List α) (k : Nat) (h : k < l.length) (h0 : (l.take k).any p = false) : (l.take (k + 1)).any p = p (l[k]'h) := by
  rw [List.take_succ_eq_append_getElem h, List.any_append, h0]; simp
theorem any_of_get {α : Type} (p : α → Bool) (l : List α) (k : Nat) (h : k < l.length) (hp : p (l[k]'h) = true) : l.any p = true := List.any_eq_true.2 ⟨_, List.getElem_mem h, hp⟩

set_option maxRecDepth 100000 in
theorem wTooLong (k v : ByteArray) (w : World) : Calls Tryz.prog 127 #[.string k, .string v] w fun e w' => e = .returned (.bool (tooLong k v)) ∧ w' = w := by
  unfold tooLong
  by_cases h1 : 4096 < k.size
  · go_enter Tryz.func127, Tryz.ntmps127
    go_wp2
    go_ret
    exact ⟨rfl, rfl⟩
  · go_enter Tryz.func127, Tryz.ntmps127
    go_wp2
    go_ret
    have e1 : decide (4096 < (k.size : Int)) = false := decide_eq_false (by omega)
    have e2 : decide (4096 < k.size) = false := decide_eq_false h1
    have e3 : decide (4096 < (v.size : Int)) = decide (4096 < v.size) := decide_eq_decide.2 (by omega)
    exact ⟨by simp [e1, e2, e3], rfl⟩
set_option maxRecDepth 100000 in
set_option maxHeartbeats 4000000 in
theorem wCheckBatch (A : Option Addr) (n c : Nat) (l : List Op_) (w : World) (hx : OAt w A n l) (hn : n ≤ 9223372036854775807) :
    Calls Tryz.prog 68 #[.slice A n c] w fun e w' => e = .returned (.int .i64 (opsE l)) ∧ Below w.heap.size w w' := by
  have hl := hx.1
  have HX := Lib.hid hx
  clear hx
  by_cases hbig : 128 < n
  · have he : opsE l = 5 := by unfold opsE; rw [if_pos (.inl (by omega))]
    rw [he]
    go_enter Tryz.func68, Tryz.ntmps68
    go_wp2
    go_ret
    exact ⟨rfl, Below.refl _ _⟩
  · go_enter Tryz.func68, Tryz.ntmps68
    go_wp2
    go_loopw [4, 12] (fun _ i wr => ∃ k : Nat, k ≤ n ∧ i = .int .i64 k ∧ Hid ((l.take k).any (fun o => tooLong o.key o.value) = false) ∧ Hid (Below w.heap.size w wr)) (fun _ i _ => n - (intOf i).toNat)
    case atStart => exact ⟨0, Nat.zero_le _, rfl, Lib.hid rfl, Lib.hid (Below.refl _ _)⟩
    case round =>
      obtain ⟨k, hk, rfl, HL, HB⟩ := hrel
      by_cases hlt : k < n
      · obtain ⟨b, o, rfl, hc⟩ := (HX.out.below HB.out).2 (by omega)
        obtain ⟨c0, c1, c2⟩ := hc k (by omega)
        have hs := any_take_succ (fun o => tooLong o.key o.value) l k (by omega) HL.out
        have ha := any_of_get (fun o => tooLong o.key o.value) l k (by omega)
        obtain ⟨⟨key, value, del⟩, hg⟩ : ∃ q, l[k]'(by omega) = q := ⟨_, rfl⟩
        rw [hg] at c0 c1 c2 hs ha
        clear hc
        cases ht : tooLong key value with
        | true =>
          have he : opsE l = 5 := by unfold opsE; rw [if_pos (.inr (ha ht))]
          have HE := Lib.hid he
          clear ha hs he
          go_wp2_with (first
            | (go_at_call 127; go_loud (refine (wTooLong _ _ _).mono ?_; rintro e w2 ⟨rfl, rfl⟩; rw [ht])))
          go_ret
          exact ⟨by rw [HE.out]; rfl, HB.out.alloc HB.out.size _⟩
        | false =>
          rw [ht] at hs
          have HL2 := Lib.hid hs
          clear ha hs
          go_wp2_with (first
            | (go_at_call 127; go_loud (refine (wTooLong _ _ _).mono ?_; rintro e w2 ⟨rfl, rfl⟩; rw [ht])))
          go_roundw
          case rel => exact ⟨k + 1, by omega, by go_num, HL2, Lib.hid (HB.out.alloc HB.out.size _)⟩
          case measure => simp [intOf]; omega
      · obtain rfl : k = n := by omega
        have hno := HL.out
        rw [List.take_of_length_le (by omega)] at hno
        have HN := Lib.hid hno
        clear hno
        by_cases h0 : k = 0
        · subst h0
          obtain rfl : l = [] := List.eq_nil_of_length_eq_zero hl
          go_wp2
          go_ret
          exact ⟨rfl, HB.out⟩
        · go_wp2
          go_loopw [6, 27] (fun _ i wr => ∃ j : Nat, j ≤ k ∧ i = .int .i64 j ∧ Hid ((l.take j).any badOp = false) ∧ Hid (Below w.heap.size w wr)) (fun _ i _ => k - (intOf i).toNat)
          case atStart => exact ⟨0, Nat.zero_le _, rfl, Lib.hid rfl, HB⟩
          case round =>
            clear HB
            obtain ⟨j, hj, rfl, HM, HB⟩ := hrel
            by_cases hlt : j < k
            · obtain ⟨b, o, rfl, hc⟩ := (HX.out.below HB.out).2 (by omega)
              obtain ⟨c0, c1, c2⟩ := hc j (by omega)
              have hs := any_take_succ badOp l j (by omega) HM.out
              have ha := any_of_get badOp l j (by omega)
              obtain ⟨⟨key, value, del⟩, hg⟩ : ∃ q, l[j]'(by omega) = q := ⟨_, rfl⟩
              rw [hg] at c0 c1 c2 hs ha
              clear hc
              have hb : badOp ⟨key, value, del⟩ = (key.toList.isEmpty || (del && !value.toList.isEmpty)) := by
                unfold badOp
                rw [empty_size, empty_size]
              rw [hb] at hs ha
              have BAD := Lib.hid (fun (h : (key.toList.isEmpty || (del && !value.toList.isEmpty)) = true) => (show opsE l = 2 from by unfold opsE; rw [if_neg (by rintro (e | e); exact absurd e (by omega); rw [HN.out] at e; cases e), if_pos (.inr (ha h))]))
              have HS := Lib.hid hs
              clear hb hs ha
              have yes : ∀ V : World, Below wr.heap.size wr V → Below w.heap.size w V := fun V h => HB.out.trans (h.mono HB.out.size)
              have YES := Lib.hid yes
              clear yes
              cases hk : key.toList.isEmpty with
              | true =>
                have hk' : key.toList = [] := by simpa using hk
                have he := BAD.out (by rw [hk]; rfl)
                have HE := Lib.hid he
                clear BAD HS he
                go_wp2
                go_ret
                exact ⟨by rw [HE.out]; rfl, YES.out _ (nb_ _ _)⟩
              | false =>
                have hk' : ¬ key.toList = [] := fun e => by rw [e] at hk; cases hk
                cases del with
                | false =>
                  have hs := HS.out
                  rw [hk] at hs
                  have HS2 := Lib.hid hs
                  clear BAD HS hs
                  go_wp2
                  go_roundw
                  case rel => exact ⟨j + 1, by omega, by go_num, HS2, Lib.hid (YES.out _ (nb_ _ _))⟩
                  case measure => simp [intOf]; omega
                | true =>
                  cases hv : value.toList.isEmpty with
                  | true =>
                    have hv' : value.toList = [] := by simpa using hv
                    have hs := HS.out
                    rw [hk, hv] at hs
                    have HS2 := Lib.hid hs
                    clear BAD HS hs
                    go_wp2
                    go_roundw
                    case rel => exact ⟨j + 1, by omega, by go_num, HS2, Lib.hid (YES.out _ (nb_ _ _))⟩
                    case measure => simp [intOf]; omega
                  | false =>
                    have hv' : ¬ value.toList = [] := fun e => by rw [e] at hv; cases hv
                    have he := BAD.out (by rw [hk, hv]; rfl)
                    have HE := Lib.hid he
                    clear BAD HS he
                    go_wp2
                    go_ret
                    exact ⟨by rw [HE.out]; rfl, YES.out _ (nb_ _ _)⟩
            · obtain rfl : j = k := by omega
              have hm := HM.out
              rw [List.take_of_length_le (by omega)] at hm
              have he : opsE l = 0 := by
                unfold opsE
                rw [if_neg (by rintro (e | e); exact absurd e (by omega); rw [HN.out] at e; cases e), if_neg (by rintro (e | e); subst e; exact absurd hl (by simp; omega); rw [hm] at e; cases e)]
              have HE := Lib.hid he
              clear he hm
              go_wp2
              go_ret
              exact ⟨by rw [HE.out]; rfl, HB.out⟩
end Go.Proofs.YtamglegdgcehaaaGreat
set_option linter.unusedVariables false
namespace Go.Proofs.YtamglegdgcehaaaGreat
open Go.RowKit

/-- A list of closures. -/
def FAt (w : World) (A : Option Addr) (n : Nat) (fs : List (Nat × Array Value)) : Prop :=
  fs.length = n ∧ (0 < n → ∃ b o, A = some ⟨b, o, none⟩ ∧ ∀ i (h : i < fs.length), w.cell? ⟨b, o + i, none⟩ = some (.func (.func (fs[i]'h).1) #[] (fs[i]'h).2))

set_option maxRecDepth 100000 in
set_option maxHeartbeats 4000000 in
theorem inTurn_ok (A : Option Addr) (n c : Nat) (fs : List (Nat × Array Value)) (Rep : Dk → World → Prop) (acts : List Doing) (hlen : acts.length = n) (hn : n ≤ 1000)
    (hent : ∀ i (h : i < fs.length), ∀ args W, (callFunc (fs[i]'h).1 args).run Tryz.prog W = .ok (.enter (fs[i]'h).1 args) W)
    (hF : ∀ D V, Rep D V → FAt V A n fs)
    (step : ∀ i (h : i < fs.length) (h2 : i < acts.length) D V, Rep D V → Calls Tryz.prog (fs[i]'h).1 (fs[i]'h).2 V fun e w' => e = .returned (.int .i64 ((acts[i]'h2) D).2) ∧ Rep ((acts[i]'h2) D).1 w')
    (D : Dk) (w : World) (hR : Rep D w) :
    Calls Tryz.prog 131 #[.slice A n c] w fun e w' => e = .returned (.int .i64 (runA acts D).2) ∧ Rep (runA acts D).1 w' := by
  have ST := Lib.hid step
  have HE := Lib.hid hent
  have HF := Lib.hid hF
  clear step hent hF
  go_enter Tryz.func131, Tryz.ntmps131
  go_wp2
  go_loopw [8] (fun i wr => ∃ (k : Nat) (D' : Dk), k ≤ n ∧ i = .int .i64 k ∧ runA (acts.drop k) D' = runA acts D ∧ Rep D' wr) (fun i _ => n - (intOf i).toNat)
  case atStart => exact ⟨0, D, Nat.zero_le _, rfl, rfl, hR⟩
  case round =>
    obtain ⟨k, D', hk, rfl, hrun, hRep⟩ := hrel
    by_cases hlt : k < n
    · obtain ⟨hfl, hfa⟩ := HF.out D' wr hRep
      obtain ⟨b, o, rfl, hc⟩ := hfa (by omega)
      have hcell := hc k (by omega)
      have he := HE.out k (by omega)
      have hs := ST.out k (by omega) (by omega) D' wr hRep
      have hd : acts.drop k = (acts[k]'(by omega)) :: acts.drop (k + 1) := List.drop_eq_getElem_cons (by omega)
      rw [hd] at hrun
      generalize acts[k]'(by omega) = act at *
      generalize (fs[k]'(by omega)).1 = f at *
      generalize (fs[k]'(by omega)).2 = caps at *
      clear hc hfa HF ST HE hd
      go_wp2
      refine hs.mono ?_
      rintro e w2 ⟨rfl, h2⟩
      by_cases h0 : (act D').2 = 0
      · have hr : runA (act :: acts.drop (k + 1)) D' = runA (acts.drop (k + 1)) (act D').1 := by
          show (if (act D').2 = 0 then _ else _) = _
          rw [if_pos h0]
        rw [hr] at hrun
        rw [h0]
        clear hr hcell hs
        go_wp2
        go_roundw
        case rel => exact ⟨k + 1, _, by omega, by go_num, hrun, h2⟩
        case measure => simp [intOf]; omega
      · have hr : runA (act :: acts.drop (k + 1)) D' = act D' := by
          show (if (act D').2 = 0 then _ else _) = _
          rw [if_neg h0]
        rw [hr] at hrun
        rw [hrun] at h2 h0 ⊢
        obtain ⟨x, hxe⟩ : ∃ x, (runA acts D).2 = x := ⟨_, rfl⟩
        rw [hxe] at h0
        rw [hxe]
        have hx : (x != 0) = true := by simpa using h0
        clear hr hrun hcell hs he
        go_wp2
        go_ret
        exact ⟨by rw [hxe]; rfl, h2⟩
    · obtain rfl : k = n := by omega
      rw [List.drop_of_length_le (by omega)] at hrun
      have hrun' : (D', (0 : Int)) = runA acts D := hrun
      clear HE HF ST
      go_wp2
      go_ret
      exact ⟨by rw [← hrun']; rfl, by rw [← hrun']; exact hRep⟩
end Go.Proofs.YtamglegdgcehaaaGreat
set_option linter.unusedVariables false
namespace Go.Proofs.YtamglegdgcehaaaGreat
open Go.RowKit

theorem sb_back (s : ByteArray) : (⟨(sb s).toArray⟩ : ByteArray) = s := by cases s; simp [sb]
theorem rNum_enc (n : Nat) (r : List UInt8) (b : Bool) (h : n ≤ 9007199254740991) : rNum ⟨enc n ++ r, b⟩ = (n, ⟨r, b⟩) := by
  unfold rNum
  simp only
  rw [tk_enc n r h]
  simp
theorem rNum_enc' (n : Nat) (b : Bool) (h : n ≤ 9007199254740991) : rNum ⟨enc n, b⟩ = (n, ⟨[], b⟩) := by
  have := rNum_enc n [] b h
  rwa [List.append_nil] at this
theorem rStr_txt (s : ByteArray) (r : List UInt8) (b : Bool) (h : s.size ≤ 4096) : rStr ⟨txt s ++ r, b⟩ = (s, ⟨r, b⟩) := by
  unfold rStr txt
  simp only [List.append_assoc]
  rw [tsx_enc s 4096 r (by omega), if_neg (by omega), if_neg (by omega)]
  simp
theorem rStr_txt' (s : ByteArray) (b : Bool) (h : s.size ≤ 4096) : rStr ⟨txt s, b⟩ = (s, ⟨[], b⟩) := by
  have := rStr_txt s [] b h
  rwa [List.append_nil] at this
theorem rdHead_back (t n : Nat) (h1 : 1 ≤ t) (h2 : t ≤ 9007199254740991) (h3 : n ≤ 9007199254740991) : rdHead (headB t n) = some (t, n) := by
  unfold rdHead headB
  simp only [rNum_enc t (enc n) false h2, rNum_enc' n false h3]
  simp [rDone, h1]
theorem rdBaseH_back (t n k : Nat) (h1 : 1 ≤ t) (h2 : t ≤ 9007199254740991) (h3 : n ≤ 9007199254740991) (h4 : k ≤ 9007199254740991) : rdBaseH (baseH t n k) = some (t, n, k) := by
  unfold rdBaseH baseH
  simp only [rNum_enc t _ false h2, rNum_enc n _ false h3, rNum_enc' k false h4]
  simp [rDone, h1]
theorem rdRow_back (r : Rw) (h1 : r.key.size ≤ 4096) (h2 : r.value.size ≤ 4096) : rdRow (rowB r) = some r := by
  unfold rdRow rowB
  simp only [rStr_txt r.key _ false h1, rStr_txt' r.value false h2]
  simp [rDone]
theorem rdRows_back : ∀ (l : List Rw), (∀ r ∈ l, r.key.size ≤ 4096 ∧ r.value.size ≤ 4096) → rdRows (l.map rowB) = some l
  | [], _ => rfl
  | r :: l, h => by
    have h1 := h r (by simp)
    rw [List.map_cons]
    unfold rdRows
    rw [rdRow_back r h1.1 h1.2, rdRows_back l (fun x hx => h x (by simp [hx]))]
theorem rdOps_back : ∀ (l : List Op_) (r : List UInt8), (∀ o ∈ l, o.key.size ≤ 4096 ∧ o.value.size ≤ 4096) → rdOps l.length ⟨(l.map opB).flatten ++ r, false⟩ = some (l, ⟨r, false⟩)
  | [], r, _ => rfl
  | o :: l, r, h => by
    obtain ⟨key, value, del⟩ := o
    obtain ⟨h1, h2⟩ := h ⟨key, value, del⟩ (by simp)
    have h3 := rdOps_back l r (fun x hx => h x (by simp [hx]))
    rw [List.map_cons, List.flatten_cons, List.length_cons]
    have e : opB ⟨key, value, del⟩ ++ (l.map opB).flatten ++ r = enc (if del then 1 else 0) ++ (txt key ++ (txt value ++ ((l.map opB).flatten ++ r))) := by
      unfold opB; simp only [List.append_assoc]
    rw [e]
    unfold rdOps
    simp only [rNum_enc _ _ false (show (if del then 1 else 0) ≤ 9007199254740991 by split <;> omega), rStr_txt key _ false h1, rStr_txt value _ false h2, h3]
    cases del <;> simp
theorem tooLong_no {k v : ByteArray} (h : tooLong k v = false) : k.size ≤ 4096 ∧ v.size ≤ 4096 := by
  unfold tooLong at h
  simp at h
  exact h
theorem opsE_ok {l : List Op_} (h : opsE l = 0) : l.length ≤ 128 ∧ l ≠ [] ∧ (∀ o ∈ l, o.key.size ≤ 4096 ∧ o.value.size ≤ 4096) ∧ l.any badOp = false := by
  unfold opsE at h
  split at h
  · cases h
  · rename_i h1
    split at h
    · cases h
    · rename_i h2
      have h1 := not_or.1 h1
      have h2 := not_or.1 h2
      refine ⟨by omega, h2.1, fun o ho => tooLong_no ?_, by simpa using h2.2⟩
      have := h1.2
      cases hb : tooLong o.key o.value with
      | false => rfl
      | true => exact absurd (List.any_eq_true.2 ⟨o, ho, hb⟩) this
theorem rowsE_ok {l : List Rw} (h : rowsE l = 0) : l.length ≤ 10000 ∧ (∀ r ∈ l, r.key.size ≤ 4096 ∧ r.value.size ≤ 4096) ∧ rise ⟨#[]⟩ l = true := by
  unfold rowsE at h
  split at h
  · cases h
  · rename_i h1
    split at h
    · cases h
    · rename_i h2
      have h1 := not_or.1 h1
      refine ⟨by omega, fun o ho => tooLong_no ?_, by simpa using h2⟩
      have := h1.2
      cases hb : tooLong o.key o.value with
      | false => rfl
      | true => exact absurd (List.any_eq_true.2 ⟨o, ho, hb⟩) this
theorem rdBatch_back (k : Nat) (l : List Op_) (hk : k ≤ 9007199254740991) (h : opsE l = 0) : rdBatch (batB k l) k = some l := by
  obtain ⟨h1, h2, h3, h4⟩ := opsE_ok h
  have h5 := rdOps_back l [] h3
  rw [List.append_nil] at h5
  unfold rdBatch batB
  simp only [rNum_enc k _ false hk, rNum_enc l.length _ false (by omega), h5]
  rw [if_neg (by omega)]
  simp [rDone, h]

/-! ### records, one behind the other -/
def payl (n : Nat) : List (List Op_) → List (List UInt8)
  | [] => []
  | b :: bs => batB (n + 1) b :: payl (n + 1) bs
def recs (ps : List (List UInt8)) : List UInt8 := (ps.map fr).flatten
theorem recs_nil : recs [] = [] := rfl
theorem recs_cons (p : List UInt8) (ps : List (List UInt8)) : recs (p :: ps) = fr p ++ recs ps := rfl
theorem recs_app (ps qs : List (List UInt8)) : recs (ps ++ qs) = recs ps ++ recs qs := by unfold recs; simp
theorem recs_len (ps : List (List UInt8)) : (recs ps).length = rsize ps := by
  induction ps with
  | nil => rfl
  | cons p ps ih =>
    rw [recs_cons, List.length_append, ih]
    simp [rsize]
theorem rsize_cons (p : List UInt8) (ps : List (List UInt8)) : rsize (p :: ps) = (fr p).length + rsize ps := by simp [rsize]
theorem batchesB_eq : ∀ (n : Nat) (bs : List (List Op_)), batchesB n bs = recs (payl n bs)
  | n, [] => rfl
  | n, b :: bs => by
    unfold batchesB payl
    rw [recs_cons, batchesB_eq (n + 1) bs]
theorem logB_eq (t n : Nat) (bs : List (List Op_)) : logB t n bs = recs (headB t n :: payl n bs) := by
  unfold logB
  rw [recs_cons, batchesB_eq]
theorem payl_len : ∀ (n : Nat) (bs : List (List Op_)), (payl n bs).length = bs.length
  | n, [] => rfl
  | n, b :: bs => by unfold payl; rw [List.length_cons, List.length_cons, payl_len]
theorem payl_take : ∀ (n k : Nat) (bs : List (List Op_)), (payl n bs).take k = payl n (bs.take k)
  | n, k, [] => by simp [payl]
  | n, 0, b :: bs => rfl
  | n, k + 1, b :: bs => by
    rw [List.take_succ_cons]
    show (batB (n + 1) b :: payl (n + 1) bs).take (k + 1) = batB (n + 1) b :: payl (n + 1) (bs.take k)
    rw [List.take_succ_cons, payl_take]
theorem payl_app : ∀ (n : Nat) (bs cs : List (List Op_)), payl n (bs ++ cs) = payl n bs ++ payl (n + bs.length) cs
  | n, [], cs => rfl
  | n, b :: bs, cs => by
    show batB (n + 1) b :: payl (n + 1) (bs ++ cs) = batB (n + 1) b :: (payl (n + 1) bs ++ payl (n + (bs.length + 1)) cs)
    rw [payl_app, show n + (bs.length + 1) = n + 1 + bs.length from by omega]
theorem logB_snoc (t n : Nat) (bs : List (List Op_)) (b : List Op_) : logB t n (bs ++ [b]) = logB t n bs ++ fr (batB (n + bs.length + 1) b) := by
  rw [logB_eq, logB_eq, payl_app, ← List.cons_append, recs_app]
  congr 1
  show recs [batB (n + bs.length + 1) b] = _
  rw [recs_cons, recs_nil, List.append_nil]
/-- Batches that may be, and whose records have room. -/
structure BOk (n : Nat) (bs : List (List Op_)) : Prop where
  may : ∀ b ∈ bs, opsE b = 0
  room : ∀ p ∈ payl n bs, p.length ≤ 65536
theorem BOk.nil (n : Nat) : BOk n [] := ⟨fun b h => by simp at h, fun p h => by simp [payl] at h⟩
theorem BOk.take {n : Nat} {bs : List (List Op_)} (h : BOk n bs) (k : Nat) : BOk n (bs.take k) :=
  ⟨fun b hb => h.may b (List.mem_of_mem_take hb), fun p hp => h.room p (by rw [← payl_take] at hp; exact List.mem_of_mem_take hp)⟩
theorem BOk.snoc {n : Nat} {bs : List (List Op_)} (h : BOk n bs) {b : List Op_} (h1 : opsE b = 0) (h2 : (batB (n + bs.length + 1) b).length ≤ 65536) : BOk n (bs ++ [b]) :=
  ⟨fun x hx => by rcases List.mem_append.1 hx with hx | hx; exact h.may x hx; rw [List.mem_singleton.1 hx]; exact h1,
   fun p hp => by
    rw [payl_app] at hp
    rcases List.mem_append.1 hp with hp | hp
    · exact h.room p hp
    · rw [show payl (n + bs.length) [b] = [batB (n + bs.length + 1) b] from rfl] at hp
      rw [List.mem_singleton.1 hp]
      exact h2⟩
theorem rdBatches_back : ∀ (n : Nat) (bs : List (List Op_)), (∀ b ∈ bs, opsE b = 0) → n + bs.length ≤ 9007199254740991 → rdBatches n (payl n bs) = some bs
  | n, [], _, _ => rfl
  | n, b :: bs, h, hn => by
    rw [List.length_cons] at hn
    show (match rdBatch (batB (n + 1) b) (n + 1) with | none => none | some b => match rdBatches (n + 1) (payl (n + 1) bs) with | none => none | some bs => some (b :: bs)) = _
    rw [rdBatch_back (n + 1) b (by omega) (h b (by simp)), rdBatches_back (n + 1) bs (fun x hx => h x (by simp [hx])) (by omega)]

theorem nx_nil : nx [] = ([], 0, 3) := rfl
theorem fr_pos (p : List UInt8) : 0 < (fr p).length := by rw [fr_len]; omega
theorem alls_nil : alls [] = [] := alls_no (e := 3) nx_nil (by decide)
/-- Records, cut anywhere: those that are whole, and torn behind. -/
theorem alls_cut : ∀ (ps : List (List UInt8)) (j : Nat), (∀ p ∈ ps, p.length ≤ 65536) → j ≤ (recs ps).length →
    ∃ k, k ≤ ps.length ∧ alls ((recs ps).take j) = ps.take k ∧ nx (((recs ps).take j).drop (rsize (ps.take k))) = ([], 0, 3) ∧ rsize (ps.take k) ≤ j ∧ (∀ i, i ≤ ps.length → rsize (ps.take i) ≤ j → i ≤ k)
  | [], j, _, _ => ⟨0, Nat.le_refl _, by simp [recs_nil, alls_nil], by simp [recs_nil, nx_nil], by simp [rsize], fun i hi _ => hi⟩
  | p :: ps, j, h, hj => by
    have hp := h p (by simp)
    rw [recs_cons] at hj ⊢
    rw [List.length_append] at hj
    by_cases hlt : j < (fr p).length
    · refine ⟨0, Nat.zero_le _, ?_, ?_, by simp [rsize], fun i hi hs => ?_⟩
      · rw [List.take_append_of_le_length (by omega), alls_no (nx_cut p j hp hlt) (by decide)]; rfl
      · rw [List.take_append_of_le_length (by omega)]
        show nx (((fr p).take j).drop 0) = _
        rw [List.drop_zero, nx_cut p j hp hlt]
      · cases i with
        | zero => omega
        | succ i => rw [List.take_succ_cons, rsize_cons] at hs; omega
    · have e : (fr p ++ recs ps).take j = fr p ++ (recs ps).take (j - (fr p).length) := by
        rw [List.take_append, List.take_of_length_le (by omega)]
      obtain ⟨k, h1, h2, h3, h4, h5⟩ := alls_cut ps (j - (fr p).length) (fun x hx => h x (by simp [hx])) (by omega)
      rw [e]
      refine ⟨k + 1, by rw [List.length_cons]; omega, ?_, ?_, ?_, fun i hi hs => ?_⟩
      · rw [alls_ok (nx_fr p _ hp), List.drop_left, h2, List.take_succ_cons]
      · rw [List.take_succ_cons, rsize_cons, List.drop_append, List.drop_of_length_le (by omega), List.nil_append, show (fr p).length + rsize (ps.take k) - (fr p).length = rsize (ps.take k) from by omega]
        exact h3
      · rw [List.take_succ_cons, rsize_cons]; omega
      · cases i with
        | zero => omega
        | succ i =>
          rw [List.take_succ_cons, rsize_cons] at hs
          rw [List.length_cons] at hi
          have := h5 i (by omega) (by omega)
          omega
theorem rsize_mono (ps : List (List UInt8)) (i : Nat) : rsize (ps.take i) ≤ rsize ps := by
  rw [← recs_len, ← recs_len]
  have : recs ps = recs (ps.take i) ++ recs (ps.drop i) := by rw [← recs_app, List.take_append_drop]
  rw [this, List.length_append]
  omega
theorem rsize_full {ps : List (List UInt8)} {k : Nat} (h : rsize ps ≤ rsize (ps.take k)) (hk : k ≤ ps.length) : ps.take k = ps := by
  have e : recs ps = recs (ps.take k) ++ recs (ps.drop k) := by rw [← recs_app, List.take_append_drop]
  have hl := congrArg List.length e
  rw [List.length_append, recs_len, recs_len, recs_len] at hl
  cases hd : ps.drop k with
  | nil => have := List.take_append_drop k ps; rw [hd, List.append_nil] at this; exact this
  | cons p qs =>
    rw [hd, rsize_cons] at hl
    have := fr_pos p
    omega
theorem alls_all (ps : List (List UInt8)) (h : ∀ p ∈ ps, p.length ≤ 65536) : alls (recs ps) = ps := by
  have := alls_recs ps [] h
  rw [List.append_nil, alls_nil, List.append_nil] at this
  exact this
theorem headB_le (t n : Nat) (h2 : t ≤ 9007199254740991) (h3 : n ≤ 9007199254740991) : (headB t n).length ≤ 16 := by
  unfold headB
  have := enc_len t h2
  have := enc_len n h3
  rw [List.length_append]
  omega

/-! ### a log's file -/
theorem rdLog_nil (t n : Nat) : rdLog t n [] = .anew := by
  unfold rdLog
  rw [alls_nil]
  simp [rsize, nx_nil]
/-- A log, cut anywhere: the batches that are whole; or its head is torn. -/
theorem rdLog_cut (t n : Nat) (bs : List (List Op_)) (j : Nat) (h1 : 1 ≤ t) (h2 : t ≤ 9007199254740991) (h3 : n + bs.length ≤ 9007199254740991) (hb : BOk n bs) (hj : j ≤ (logB t n bs).length) :
    (j < (fr (headB t n)).length ∧ rdLog t n ((logB t n bs).take j) = .anew) ∨
      ∃ k, k ≤ bs.length ∧ rdLog t n ((logB t n bs).take j) = .goes (bs.take k) (logB t n (bs.take k)).length ∧ (logB t n (bs.take k)).length ≤ j ∧ (∀ i, i ≤ bs.length → (logB t n (bs.take i)).length ≤ j → i ≤ k) := by
  have hh := headB_le t n h2 (by omega)
  have hall : ∀ p ∈ headB t n :: payl n bs, p.length ≤ 65536 := fun p hp => by
    rcases List.mem_cons.1 hp with rfl | hp
    · omega
    · exact hb.room p hp
  rw [logB_eq] at hj ⊢
  obtain ⟨k, g1, g2, g3, g4, g5⟩ := alls_cut _ j hall hj
  cases k with
  | zero =>
    refine .inl ⟨?_, ?_⟩
    · rcases Nat.lt_or_ge j (fr (headB t n)).length with h | h
      · exact h
      · have := g5 1 (by simp) (by rw [List.take_succ_cons, rsize_cons]; simp [rsize]; exact h)
        omega
    · unfold rdLog
      simp only [g2]
      rw [g3]
      simp
  | succ k =>
    rw [List.length_cons, payl_len] at g1
    refine .inr ⟨k, by omega, ?_, ?_, fun i hi hs => ?_⟩
    · unfold rdLog
      simp only [g2]
      rw [g3]
      simp only [List.take_succ_cons, payl_take]
      rw [rdHead_back t n h1 h2 (by omega)]
      simp only [Nat.lt_irrefl, if_false, ne_eq, not_true_eq_false, or_self]
      rw [rdBatches_back n (bs.take k) (hb.take k).may (by rw [List.length_take]; omega)]
      simp only
      rw [logB_eq, recs_len]
    · rw [logB_eq, recs_len]
      rw [List.take_succ_cons, payl_take] at g4
      exact g4
    · have := g5 (i + 1) (by rw [List.length_cons, payl_len]; omega) (by rw [List.take_succ_cons, payl_take]; rw [logB_eq, recs_len] at hs; exact hs)
      omega
/-- A log of an earlier turn, cut anywhere. -/
theorem rdLog_old (t n t' n' : Nat) (bs : List (List Op_)) (j : Nat) (h0 : t' < t) (h1 : 1 ≤ t') (h2 : t ≤ 9007199254740991) (h3 : n' + bs.length ≤ 9007199254740991) (hb : BOk n' bs) (hj : j ≤ (logB t' n' bs).length) :
    rdLog t n ((logB t' n' bs).take j) = .anew := by
  have hh := headB_le t' n' (by omega) (by omega)
  have hall : ∀ p ∈ headB t' n' :: payl n' bs, p.length ≤ 65536 := fun p hp => by
    rcases List.mem_cons.1 hp with rfl | hp
    · omega
    · exact hb.room p hp
  rw [logB_eq] at hj ⊢
  obtain ⟨k, g1, g2, g3, g4, g5⟩ := alls_cut _ j hall hj
  cases k with
  | zero =>
    unfold rdLog
    simp only [g2]
    rw [g3]
    simp
  | succ k =>
    unfold rdLog
    simp only [g2]
    simp only [List.take_succ_cons]
    rw [rdHead_back t' n' h1 (by omega) (by omega)]
    simp only [h0, if_true]

/-! ### a base's file -/
theorem baseB_eq (t n : Nat) (rows : List Rw) : baseB t n rows = recs (baseH t n rows.length :: rows.map rowB) := by
  unfold baseB
  rw [recs_cons]
  unfold recs
  rw [List.map_map]
  rfl
theorem rowB_len (r : Rw) (h : r.key.size ≤ 4096 ∧ r.value.size ≤ 4096) : (rowB r).length ≤ 8208 := by
  have h1 := enc_len r.key.size (by omega)
  have h2 := enc_len r.value.size (by omega)
  have h3 := sb_len r.key
  have h4 := sb_len r.value
  unfold rowB txt
  simp only [List.length_append]
  omega
theorem base_room (t n : Nat) (rows : List Rw) (h2 : t ≤ 9007199254740991) (h3 : n ≤ 9007199254740991) (hr : rowsE rows = 0) : ∀ p ∈ baseH t n rows.length :: rows.map rowB, p.length ≤ 65536 := by
  obtain ⟨g1, g2, g3⟩ := rowsE_ok hr
  intro p hp
  rcases List.mem_cons.1 hp with rfl | hp
  · unfold baseH
    have := enc_len t h2
    have := enc_len n h3
    have := enc_len rows.length (by omega)
    simp only [List.length_append]
    omega
  · obtain ⟨r, hr, rfl⟩ := List.mem_map.1 hp
    have := rowB_len r (g2 r hr)
    omega
theorem rdBase_back (t n : Nat) (rows : List Rw) (h1 : 1 ≤ t) (h2 : t ≤ 9007199254740991) (h3 : n ≤ 9007199254740991) (hr : rowsE rows = 0) : rdBase (baseB t n rows) = some (t, n, rows) := by
  obtain ⟨g1, g2, g3⟩ := rowsE_ok hr
  unfold rdBase
  rw [baseB_eq, alls_all _ (base_room t n rows h2 h3 hr)]
  simp only
  rw [recs_len, if_neg (Nat.lt_irrefl _), rdBaseH_back t n rows.length h1 h2 h3 (by omega)]
  simp only [List.length_map, ne_eq, not_true_eq_false, if_false]
  rw [rdRows_back rows g2]
  simp only [hr, if_true]
end Go.Proofs.YtamglegdgcehaaaGreat
set_option linter.unusedVariables false
namespace Go.Proofs.YtamglegdgcehaaaGreat
open Go.RowKit

set_option maxRecDepth 100000 in
set_option maxHeartbeats 4000000 in
theorem wCheckRows (A : Option Addr) (n c : Nat) (l : List Rw) (w : World) (hx : WAt w A n l) (hn : n ≤ 9223372036854775807) :
    Calls Tryz.prog 74 #[.slice A n c] w fun e w' => e = .returned (.int .i64 (rowsE l)) ∧ Below w.heap.size w w' := by
  have hl := hx.1
  have HX := Lib.hid hx
  clear hx
  by_cases hbig : 10000 < n
  · have he : rowsE l = 5 := by unfold rowsE; rw [if_pos (.inl (by omega))]
    rw [he]
    go_enter Tryz.func74, Tryz.ntmps74
    go_wp2
    go_ret
    exact ⟨rfl, Below.refl _ _⟩
  · go_enter Tryz.func74, Tryz.ntmps74
    go_wp2
    go_loopw [4, 13] (fun _ i wr => ∃ k : Nat, k ≤ n ∧ i = .int .i64 k ∧ Hid ((l.take k).any (fun o => tooLong o.key o.value) = false) ∧ Hid (Below w.heap.size w wr)) (fun _ i _ => n - (intOf i).toNat)
    case atStart => exact ⟨0, Nat.zero_le _, rfl, Lib.hid rfl, Lib.hid (Below.refl _ _)⟩
    case round =>
      obtain ⟨k, hk, rfl, HL, HB⟩ := hrel
      by_cases hlt : k < n
      · obtain ⟨b, o, rfl, hc⟩ := (HX.out.below HB.out).2 (by omega)
        obtain ⟨c0, c1⟩ := hc k (by omega)
        have hs := any_take_succ (fun o => tooLong o.key o.value) l k (by omega) HL.out
        have ha := any_of_get (fun o => tooLong o.key o.value) l k (by omega)
        obtain ⟨⟨key, value⟩, hg⟩ : ∃ q, l[k]'(by omega) = q := ⟨_, rfl⟩
        rw [hg] at c0 c1 hs ha
        clear hc
        cases ht : tooLong key value with
        | true =>
          have he : rowsE l = 5 := by unfold rowsE; rw [if_pos (.inr (ha ht))]
          have HE := Lib.hid he
          clear ha hs he
          go_wp2_with (first
            | (go_at_call 127; go_loud (refine (wTooLong _ _ _).mono ?_; rintro e w2 ⟨rfl, rfl⟩; rw [ht])))
          go_ret
          exact ⟨by rw [HE.out]; rfl, HB.out.alloc HB.out.size _⟩
        | false =>
          rw [ht] at hs
          have HL2 := Lib.hid hs
          clear ha hs
          go_wp2_with (first
            | (go_at_call 127; go_loud (refine (wTooLong _ _ _).mono ?_; rintro e w2 ⟨rfl, rfl⟩; rw [ht])))
          go_roundw
          case rel => exact ⟨k + 1, by omega, by go_num, HL2, Lib.hid (HB.out.alloc HB.out.size _)⟩
          case measure => simp [intOf]; omega
      · obtain rfl : k = n := by omega
        have hno := HL.out
        rw [List.take_of_length_le (by omega)] at hno
        have HN := Lib.hid hno
        clear hno
        go_wp2
        go_loopw [5, 7, 25] (fun av _ i wr => ∃ (j : Nat) (a : ByteArray), j ≤ k ∧ av = .string a ∧ i = .int .i64 j ∧ Hid (rise ⟨#[]⟩ l = rise a (l.drop j)) ∧ Hid (Below w.heap.size w wr)) (fun _ _ i _ => k - (intOf i).toNat)
        case atStart => exact ⟨0, _, Nat.zero_le _, rfl, rfl, Lib.hid rfl, HB⟩
        case round =>
          clear HB
          obtain ⟨j, a, hj, rfl, rfl, HM, HB⟩ := hrel
          by_cases hlt : j < k
          · obtain ⟨b, o, rfl, hc⟩ := (HX.out.below HB.out).2 (by omega)
            obtain ⟨c0, c1⟩ := hc j (by omega)
            have hd : l.drop j = (l[j]'(by omega)) :: l.drop (j + 1) := List.drop_eq_getElem_cons (by omega)
            have hm := HM.out
            rw [hd] at hm
            obtain ⟨⟨key, value⟩, hg⟩ : ∃ q, l[j]'(by omega) = q := ⟨_, rfl⟩
            rw [hg] at c0 c1 hm
            clear hc hd
            have yes : ∀ V : World, Below wr.heap.size wr V → Below w.heap.size w V := fun V h => HB.out.trans (h.mono HB.out.size)
            have YES := Lib.hid yes
            clear yes
            cases hk : Op.bytesLess a.toList key.toList with
            | true =>
              have hm2 : rise ⟨#[]⟩ l = rise key (l.drop (j + 1)) := by
                rw [hm]
                show (nl a key && _) = _
                unfold nl
                rw [hk, Bool.true_and]
              have HM2 := Lib.hid hm2
              have k1 : Op.bytesLess key.toList a.toList = false := nl_asym hk
              have k2 : (key.toList == a.toList) = false := by rw [beq_nm]; exact decide_eq_false (fun e => nl_ne hk e.symm)
              clear hm hm2
              go_wp2
              go_roundw
              case rel => exact ⟨j + 1, key, by omega, rfl, by go_num, HM2, Lib.hid (YES.out _ (nb_ _ _))⟩
              case measure => simp [intOf]; omega
            | false =>
              have he : rowsE l = 2 := by
                unfold rowsE
                rw [if_neg (by rintro (e | e); exact absurd e (by omega); rw [HN.out] at e; cases e), if_pos]
                rw [hm]
                show (nl a key && _) = _
                unfold nl
                rw [hk, Bool.false_and]
              have HE := Lib.hid he
              clear hm he
              cases k1 : Op.bytesLess key.toList a.toList with
              | true =>
                go_wp2
                go_ret
                exact ⟨by rw [HE.out]; rfl, YES.out _ (nb_ _ _)⟩
              | false =>
                have k2 : (key.toList == a.toList) = true := by rw [beq_nm]; exact decide_eq_true (nl_total k1 hk)
                go_wp2
                go_ret
                exact ⟨by rw [HE.out]; rfl, YES.out _ (nb_ _ _)⟩
          · obtain rfl : j = k := by omega
            have hm := HM.out
            rw [List.drop_of_length_le (by omega)] at hm
            have he : rowsE l = 0 := by
              unfold rowsE
              rw [if_neg (by rintro (e | e); exact absurd e (by omega); rw [HN.out] at e; cases e), hm]
              rfl
            have HE := Lib.hid he
            clear he hm
            go_wp2
            go_ret
            exact ⟨by rw [HE.out]; rfl, HB.out⟩
end Go.Proofs.YtamglegdgcehaaaGreat
