/-
  Layer 7, plain: a disk: what each call answers, and makes of it: no program.
  Layer 7: what an object's calls leave as it was; the document's disk in memory.
  Layer 7: the document's disk: find, may, all.
  Layer 7: the document's disk: all; Crash.
-/
import Derived.Test.YtamglegdgcehaaaGreatZ01
import Derived.Lib.IndexBytes
import Derived.Laws.OwnMore
import Derived.Deep.RegionWith
import Derived.Deep.RegionHeld3
import Derived.Deep.QuietTactic
import Derived.BigQuiet
import Derived.IntWalk
import Derived.Test.YtamglegdgcehaaaGreatZ05
set_option linter.unusedVariables false
namespace Go.Proofs.YtamglegdgcehaaaGreat

/-- Is a name ahead of another one? -/
def nl (a b : ByteArray) : Bool := Op.bytesLess a.toList b.toList
theorem bl_irr : ∀ l : List UInt8, Op.bytesLess l l = false
  | [] => rfl
  | a :: l => by simp [Op.bytesLess, bl_irr l]
theorem bl_trans : ∀ {x y z : List UInt8}, Op.bytesLess x y = true → Op.bytesLess y z = true → Op.bytesLess x z = true
  | _, [], _, h, _ => by cases ‹List UInt8› <;> simp [Op.bytesLess] at h
  | _, _ :: _, [], _, h => by simp [Op.bytesLess] at h
  | [], _ :: _, _ :: _, _, _ => rfl
  | a :: x, b :: y, c :: z, h1, h2 => by
    simp only [Op.bytesLess, Bool.or_eq_true, decide_eq_true_eq, Bool.and_eq_true, beq_iff_eq] at *
    rcases h1 with h1 | ⟨rfl, h1⟩
    · rcases h2 with h2 | ⟨rfl, _⟩
      · exact .inl (UInt8.lt_trans h1 h2)
      · exact .inl h1
    · rcases h2 with h2 | ⟨rfl, h2⟩
      · exact .inl h2
      · exact .inr ⟨rfl, bl_trans h1 h2⟩
theorem bl_total : ∀ {x y : List UInt8}, Op.bytesLess x y = false → Op.bytesLess y x = false → x = y
  | [], [], _, _ => rfl
  | [], _ :: _, h, _ => by simp [Op.bytesLess] at h
  | _ :: _, [], _, h => by simp [Op.bytesLess] at h
  | a :: x, b :: y, h1, h2 => by
    simp only [Op.bytesLess, Bool.or_eq_false_iff, decide_eq_false_iff_not, Bool.and_eq_false_iff, beq_eq_false_iff_ne] at h1 h2
    have e : a = b := UInt8.le_antisymm (UInt8.not_lt.1 h2.1) (UInt8.not_lt.1 h1.1)
    subst e
    rw [bl_total (h1.2.resolve_left (by simp)) (h2.2.resolve_left (by simp))]
theorem toList_inj {s t : ByteArray} (h : s.toList = t.toList) : s = t := by
  rw [Lib.toList_data, Lib.toList_data] at h
  cases s; cases t
  simp only [ByteArray.mk.injEq]
  exact Array.ext' h
theorem nl_irr (a : ByteArray) : nl a a = false := bl_irr _
theorem nl_trans {a b c : ByteArray} (h1 : nl a b = true) (h2 : nl b c = true) : nl a c = true := bl_trans h1 h2
theorem nl_total {a b : ByteArray} (h1 : nl a b = false) (h2 : nl b a = false) : a = b := toList_inj (bl_total h1 h2)
theorem nl_asym {a b : ByteArray} (h : nl a b = true) : nl b a = false := by
  cases h2 : nl b a with
  | false => rfl
  | true => exact absurd (nl_trans h h2) (by rw [nl_irr]; decide)
theorem nl_ne {a b : ByteArray} (h : nl a b = true) : a ≠ b := fun e => by
  subst e
  rw [nl_irr] at h
  cases h
theorem beq_nm (s t : ByteArray) : (s.toList == t.toList) = decide (s = t) := by
  by_cases h : s = t
  · subst h; simp
  · rw [decide_eq_false h]
    exact beq_eq_false_iff_ne.2 (fun e => h (toList_inj e))

/-- A file: its name, its bytes, its mark. -/
structure Fl where
  name : ByteArray
  bs : List UInt8
  mark : Nat
/-- A disk: its files by rising names; dead; behind how many works it fails (-1: not); the numbers to keep by. -/
structure Dk where
  l : List Fl
  dead : Bool
  left : Int
  keep : List Int

def mayN (s : ByteArray) : Bool := decide (1 ≤ s.size ∧ s.size ≤ 40)
/-- Where a file is, or would be; whether it is. -/
def pos (l : List Fl) (s : ByteArray) : Nat := (l.takeWhile (fun f => nl f.name s)).length
def isAt (l : List Fl) (s : ByteArray) : Bool := match l[pos l s]? with | some f => decide (f.name = s) | none => false
def sum (l : List Fl) : Nat := (l.map (fun f => f.bs.length)).sum
def withF (l : List Fl) (f : Fl) : List Fl := l.take (pos l f.name) ++ f :: l.drop (pos l f.name + if isAt l f.name then 1 else 0)
def without (l : List Fl) (s : ByteArray) : List Fl := if isAt l s then l.take (pos l s) ++ l.drop (pos l s + 1) else l
/-- The file of that name, else one of no bytes. -/
def fileAt (l : List Fl) (s : ByteArray) : Fl := if isAt l s then l.getD (pos l s) ⟨s, [], 0⟩ else ⟨s, [], 0⟩

/-- A number brought to be from 0 to n - 1. -/
def brn (k : Int) (n : Nat) : Nat := if n = 0 then 0 else (k % (n : Int)).toNat
def fallF (keep : List Int) (i : Nat) (f : Fl) : Fl :=
  let k := if i < keep.length then brn (keep.getD i 0) (f.bs.length - f.mark + 1) else 0
  ⟨f.name, f.bs.take (f.mark + k), f.mark + k⟩
def fall (keep : List Int) (l : List Fl) : List Fl := l.mapIdx (fallF keep)
def crash (D : Dk) (keep : List Int) : Dk := if D.dead then D else ⟨fall keep D.l, true, -1, D.keep⟩
/-- A work: counted, and done; or the power goes. -/
def work (D : Dk) (g : List Fl → List Fl) : Dk := if D.left = 0 then crash D D.keep else { D with l := g D.l, left := if 0 < D.left then D.left - 1 else D.left }
def workE (D : Dk) : Int := if D.left = 0 then 71 else 0

def appE (D : Dk) (s : ByteArray) (n : Nat) : Int :=
  if D.dead then 71 else if mayN s = false then 70 else if (isAt D.l s = false ∧ 20 ≤ D.l.length) ∨ 4194304 < sum D.l + n then 7 else workE D
def app (D : Dk) (s : ByteArray) (bs : List UInt8) : Dk :=
  if D.dead then D else if mayN s = false then D else if (isAt D.l s = false ∧ 20 ≤ D.l.length) ∨ 4194304 < sum D.l + bs.length then D else
    work D (fun l => withF l ⟨s, (fileAt l s).bs ++ bs, (fileAt l s).mark⟩)
def nmE (D : Dk) (s : ByteArray) : Int := if D.dead then 71 else if isAt D.l s = false then 70 else 0
def synE (D : Dk) (s : ByteArray) : Int := if nmE D s = 0 then workE D else nmE D s
def setAt (l : List Fl) (s : ByteArray) (f : Fl) : List Fl := l.set (pos l s) f
def syn (D : Dk) (s : ByteArray) : Dk := if nmE D s = 0 then work D (fun l => setAt l s ⟨s, (fileAt l s).bs, (fileAt l s).bs.length⟩) else D
def cutE (D : Dk) (s : ByteArray) (k : Int) : Int := if nmE D s = 0 then if k < 0 ∨ ((fileAt D.l s).bs.length : Int) < k then 9 else workE D else nmE D s
def cut (D : Dk) (s : ByteArray) (k : Int) : Dk :=
  if nmE D s = 0 then if k < 0 ∨ ((fileAt D.l s).bs.length : Int) < k then D else work D (fun l => setAt l s ⟨s, (fileAt l s).bs.take k.toNat, min (fileAt l s).mark k.toNat⟩) else D
def renE (D : Dk) (s t : ByteArray) : Int := if nmE D s = 0 then if mayN t = false then 70 else workE D else nmE D s
def ren (D : Dk) (s t : ByteArray) : Dk :=
  if nmE D s = 0 then if mayN t = false then D else work D (fun l => withF (without l s) ⟨t, (fileAt l s).bs, (fileAt l s).mark⟩) else D
def remE (D : Dk) (s : ByteArray) : Int := synE D s
def rem (D : Dk) (s : ByteArray) : Dk := if nmE D s = 0 then work D (fun l => without l s) else D
def rdE (D : Dk) (s : ByteArray) : Int := nmE D s
def rdB (D : Dk) (s : ByteArray) : List UInt8 := if nmE D s = 0 then (fileAt D.l s).bs else []
def nms (D : Dk) : List ByteArray := if D.dead then [] else D.l.map Fl.name
def fal (D : Dk) (n : Int) (keep : List Int) : Dk := if D.dead then D else { D with left := max n (-1), keep := keep }
def boot (D : Dk) : Dk := { D with dead := false, left := -1 }
def trnE (D : Dk) (s : ByteArray) (i b : Int) : Int := if nmE D s = 0 then if i < 0 ∨ ((fileAt D.l s).bs.length : Int) ≤ i ∨ b < 0 ∨ 7 < b then 9 else 0 else nmE D s
def flip (bs : List UInt8) (i b : Nat) : List UInt8 := bs.set i ((bs.getD i 0) ^^^ (1 <<< UInt8.ofNat b))
def trn (D : Dk) (s : ByteArray) (i b : Int) : Dk :=
  if trnE D s i b = 0 then { D with l := setAt D.l s ⟨s, flip (fileAt D.l s).bs i.toNat b.toNat, (fileAt D.l s).mark⟩ } else D
def dk0 : Dk := ⟨[], false, -1, []⟩

/-- What a disk always is. -/
structure Dk.ok (D : Dk) : Prop where
  sorted : D.l.Pairwise (fun a b => nl a.name b.name = true)
  marks : ∀ f ∈ D.l, f.mark ≤ f.bs.length
  few : D.l.length ≤ 20
  sum : sum D.l ≤ 4194304
  low : -1 ≤ D.left
  high : D.left ≤ 9223372036854775807
end Go.Proofs.YtamglegdgcehaaaGreat

namespace Go.Proofs.YtamglegdgcehaaaGreat
open Go.RowKit

/-! ### numbers that lie in memory -/
def IAt (w : World) (A : Option Addr) (n : Nat) (xs : List Int) : Prop :=
  xs.length = n ∧ (0 < n → ∃ b o, A = some ⟨b, o, none⟩ ∧ ∀ i, (h : i < xs.length) → w.cell? ⟨b, o + i, none⟩ = some (.int .i64 xs[i]))
section
variable {F : Nat → Prop} {V V' : World} {A : Option Addr} {n : Nat}
theorem At.on {xs : List UInt8} (h : At V A n xs) (hF : InF F A) (hk : ∀ k, F k → V'.heap[k]? = V.heap[k]?) : At V' A n xs := by
  refine ⟨h.1, fun hn => ?_⟩
  obtain ⟨b, o, e, hc⟩ := h.2 hn
  exact ⟨b, o, e, fun i hi => (World.cell?_of_block (a := ⟨b, o + i, none⟩) (hk b (hF _ e))).trans (hc i hi)⟩
theorem IAt.on {xs : List Int} (h : IAt V A n xs) (hF : InF F A) (hk : ∀ k, F k → V'.heap[k]? = V.heap[k]?) : IAt V' A n xs := by
  refine ⟨h.1, fun hn => ?_⟩
  obtain ⟨b, o, e, hc⟩ := h.2 hn
  exact ⟨b, o, e, fun i hi => (World.cell?_of_block (a := ⟨b, o + i, none⟩) (hk b (hF _ e))).trans (hc i hi)⟩
theorem IAt.nil (w : World) (A : Option Addr) : IAt w A 0 [] := ⟨rfl, fun h => absurd h (by omega)⟩
end

/-! ### the document's list of files -/
/-- A file, and where its bytes lie. -/
structure Fv where
  f : Fl
  A : Option Addr
  c : Nat
def Fv.vals (q : Fv) : List Value := [.string q.f.name, .slice q.A q.f.bs.length q.c, .int .i64 (q.f.mark : Int)]
def rows (qs : List Fv) : List Value := qs.flatMap Fv.vals
theorem rows_len : ∀ qs : List Fv, (rows qs).length = qs.length * 3
  | [] => rfl
  | q :: qs => by
    have := rows_len qs
    unfold rows at *
    rw [List.flatMap_cons, List.length_append, this]
    simp [Fv.vals]
    omega
theorem rows_get : ∀ (qs : List Fv) (i j : Nat) (h : i < qs.length), j < 3 → (rows qs)[i * 3 + j]? = (qs[i].vals)[j]?
  | q :: qs, 0, j, _, hj => by
    unfold rows
    rw [List.flatMap_cons, List.getElem?_append_left (by simp [Fv.vals]; omega)]
    simp
  | q :: qs, i + 1, j, h, hj => by
    have := rows_get qs i j (by simpa using h) hj
    unfold rows at *
    rw [List.flatMap_cons, List.getElem?_append_right (by simp [Fv.vals]; omega), List.getElem_cons_succ, ← this]
    congr 1
    simp [Fv.vals]
    omega
theorem rows_app (a b : List Fv) : rows (a ++ b) = rows a ++ rows b := by simp [rows]
theorem rows_take (qs : List Fv) (n : Nat) : rows (qs.take n) = (rows qs).take (n * 3) := by
  by_cases h : n ≤ qs.length
  · have e : rows qs = rows (qs.take n) ++ rows (qs.drop n) := by rw [← rows_app, List.take_append_drop]
    have l : (rows (qs.take n)).length = n * 3 := by rw [rows_len, List.length_take]; omega
    rw [e, ← l, List.take_left]
  · rw [List.take_of_length_le (by omega), List.take_of_length_le (by rw [rows_len]; omega)]
theorem rows_drop (qs : List Fv) (n : Nat) : rows (qs.drop n) = (rows qs).drop (n * 3) := by
  by_cases h : n ≤ qs.length
  · have e : rows qs = rows (qs.take n) ++ rows (qs.drop n) := by rw [← rows_app, List.take_append_drop]
    have l : (rows (qs.take n)).length = n * 3 := by rw [rows_len, List.length_take]; omega
    rw [e, ← l, List.drop_left]
  · rw [List.drop_of_length_le (by omega), List.drop_of_length_le (by rw [rows_len]; omega)]
    rfl

structure RFl (V : World) (F : Nat → Prop) (q : Fv) : Prop where
  at_ : At V q.A q.f.bs.length q.f.bs
  cap : q.f.bs.length ≤ q.c
  capm : q.c ≤ 9223372036854775807
  inF : InF F q.A
theorem RFl.on {V V' : World} {F G : Nat → Prop} {q : Fv} (h : RFl V F q) (hk : ∀ k, F k → V'.heap[k]? = V.heap[k]?) (hG : ∀ k, F k → G k) : RFl V' G q :=
  ⟨h.at_.on h.inF hk, h.cap, h.capm, fun a e => hG _ (h.inF a e)⟩

/-- A list of files: its own row; each one's bytes lie in blocks of Fb, which are not the row. -/
structure RL (V : World) (F Fb : Nat → Prop) (v : Value) (qs : List Fv) : Prop where
  row : V.ownsRow 0 106 3 v qs.length (rows qs)
  own : ∀ k, v.ownBlock = some k → F k ∧ ¬ Fb k
  each : ∀ q ∈ qs, RFl V Fb q
section
variable {V V' : World} {F Fb G Gb : Nat → Prop} {v : Value} {qs : List Fv}
theorem RL.form (h : RL V F Fb v qs) : ∃ A c, v = .slice A qs.length c ∧ qs.length ≤ c ∧ c ≤ 9223372036854775807 ∧ (A = none → c = 0) ∧
    (0 < qs.length → ∃ b, A = some ⟨b, 0, none⟩ ∧ F b ∧ ¬ Fb b ∧ ∀ i, (hi : i < qs.length) →
      V.cell? ⟨b, i * 3, none⟩ = some (.string qs[i].f.name) ∧ V.cell? ⟨b, i * 3 + 1, none⟩ = some (.slice qs[i].A qs[i].f.bs.length qs[i].c) ∧ V.cell? ⟨b, i * 3 + 2, none⟩ = some (.int .i64 (qs[i].f.mark : Int))) := by
  rcases h.row.2 with ⟨e, hn⟩ | ⟨g, cap, cur, e, hb, hg, hnc, hcm, _⟩
  · exact ⟨none, 0, by rw [e, hn], by omega, by omega, fun _ => rfl, fun h0 => by omega⟩
  · refine ⟨_, cap, e, hnc, hcm, (fun h => nomatch h), fun h0 => ⟨g, rfl, (h.own g (by rw [e]; rfl)).1, (h.own g (by rw [e]; rfl)).2, fun i hi => ?_⟩⟩
    have hr := h.row
    rw [e] at hr
    have k : ∀ j, j < 3 → V.cell? ⟨g, i * 3 + j, none⟩ = (qs[i].vals)[j]? := fun j hj => by
      rw [hr.cellAt (i * 3 + j) (by omega), rows_get qs i j hi hj]
    exact ⟨k 0 (by omega), k 1 (by omega), k 2 (by omega)⟩
theorem RL.on (h : RL V F Fb v qs) (hs : V.heap.size ≤ V'.heap.size) (hk : ∀ k, F k ∨ Fb k → V'.heap[k]? = V.heap[k]?) : RL V' F Fb v qs := by
  refine ⟨⟨h.row.1, ?_⟩, h.own, fun q hq => (h.each q hq).on (fun k hF => hk k (.inr hF)) (fun _ e => e)⟩
  rcases h.row.2 with hn | ⟨g, cap, cur, e, hb, hg, r⟩
  · exact .inl hn
  · exact .inr ⟨g, cap, cur, e, hb, (hk g (.inl (h.own g (by rw [e]; rfl)).1)).trans hg, r⟩
end

/-- The document's disk in a block. -/
structure RDkB (V : World) (g : Nat) (D : Dk) (F Fb : Nat → Prop) (v : Value) (A : Option Addr) (n c : Nat) (qs : List Fv) : Prop where
  obj : V.heap[g]? = some (.cells #[v, .bool D.dead, .int .i64 D.left, .slice A n c] 87 (0, 0))
  eq : qs.map Fv.f = D.l
  list : RL V F Fb v qs
  keep : IAt V A n D.keep
  keepF : InF Fb A
  kcap : n ≤ c ∧ c ≤ 9223372036854775807
  fg : F g ∧ ¬ Fb g ∧ v.ownBlock ≠ some g
  sub : ∀ k, Fb k → F k
  lt : ∀ k, F k → k < V.heap.size
  ok : D.ok
def RDk (V : World) (g : Nat) (D : Dk) (F : Nat → Prop) : Prop := ∃ Fb v A n c qs, RDkB V g D F Fb v A n c qs
section
variable {V V' : World} {g : Nat} {D : Dk} {F Fb G : Nat → Prop} {v : Value} {A : Option Addr} {n c : Nat} {qs : List Fv}
theorem RDkB.on (h : RDkB V g D F Fb v A n c qs) (hs : V.heap.size ≤ V'.heap.size) (hk : ∀ k, F k → V'.heap[k]? = V.heap[k]?) : RDkB V' g D F Fb v A n c qs :=
  ⟨(hk g h.fg.1).trans h.obj, h.eq, h.list.on hs (fun k e => hk k (e.elim id (h.sub k))), h.keep.on h.keepF (fun k e => hk k (h.sub k e)), h.keepF, h.kcap, h.fg, h.sub, fun k e => Nat.lt_of_lt_of_le (h.lt k e) hs, h.ok⟩
theorem RDkB.below (h : RDkB V g D F Fb v A n c qs) (hb : Below V.heap.size V V') : RDkB V' g D F Fb v A n c qs := h.on hb.size (fun k e => hb.block k (h.lt k e))
theorem RDkB.mono (h : RDkB V g D F Fb v A n c qs) (hs : ∀ k, F k → G k) (hl : ∀ k, G k → k < V.heap.size) : RDkB V g D G Fb v A n c qs :=
  ⟨h.obj, h.eq, ⟨h.list.row, fun k e => ⟨hs k (h.list.own k e).1, (h.list.own k e).2⟩, h.list.each⟩, h.keep, h.keepF, h.kcap, ⟨hs g h.fg.1, h.fg.2⟩, fun k e => hs k (h.sub k e), hl, h.ok⟩
theorem RDkB.c0 (h : RDkB V g D F Fb v A n c qs) : V.cell? ⟨g, 0, none⟩ = some v := cell_of_row V g 0 _ _ (0, 0) h.obj
theorem RDkB.c1 (h : RDkB V g D F Fb v A n c qs) : V.cell? ⟨g, 1, none⟩ = some (.bool D.dead) := cell_of_row V g 1 _ _ (0, 0) h.obj
theorem RDkB.c2 (h : RDkB V g D F Fb v A n c qs) : V.cell? ⟨g, 2, none⟩ = some (.int .i64 D.left) := cell_of_row V g 2 _ _ (0, 0) h.obj
theorem RDkB.c3 (h : RDkB V g D F Fb v A n c qs) : V.cell? ⟨g, 3, none⟩ = some (.slice A n c) := cell_of_row V g 3 _ _ (0, 0) h.obj
theorem RDkB.fz (h : RDkB V g D F Fb v A n c qs) (i : Nat) : V.frozen? ⟨g, i, none⟩ = false := by
  have h := h.obj
  simp [World.frozen?, h]
theorem RDkB.len (h : RDkB V g D F Fb v A n c qs) : qs.length = D.l.length := by rw [← h.eq, List.length_map]
theorem RDkB.get (h : RDkB V g D F Fb v A n c qs) {i : Nat} (hi : i < qs.length) : D.l[i]'(by rw [← h.len]; exact hi) = qs[i].f := by
  have e := h.eq
  simp only [← e, List.getElem_map]
theorem RDk.on (h : RDk V g D F) (hs : V.heap.size ≤ V'.heap.size) (hk : ∀ k, F k → V'.heap[k]? = V.heap[k]?) : RDk V' g D F := by
  obtain ⟨Fb, v, A, n, c, qs, h⟩ := h
  exact ⟨Fb, v, A, n, c, qs, h.on hs hk⟩
theorem RDk.below (h : RDk V g D F) (hb : Below V.heap.size V V') : RDk V' g D F := by
  obtain ⟨Fb, v, A, n, c, qs, h⟩ := h
  exact ⟨Fb, v, A, n, c, qs, h.below hb⟩
theorem RDk.mono (h : RDk V g D F) (hs : ∀ k, F k → G k) (hl : ∀ k, G k → k < V.heap.size) : RDk V g D G := by
  obtain ⟨Fb, v, A, n, c, qs, h⟩ := h
  exact ⟨Fb, v, A, n, c, qs, h.mono hs hl⟩
theorem RDk.lt (h : RDk V g D F) {k : Nat} (hk : F k) : k < V.heap.size := by
  obtain ⟨Fb, v, A, n, c, qs, h⟩ := h
  exact h.lt k hk
theorem RDk.ok (h : RDk V g D F) : D.ok := by
  obtain ⟨Fb, v, A, n, c, qs, h⟩ := h
  exact h.ok
theorem RDk.turn (h : RDk V g D F) (hb : Below V.heap.size V V') : Turns RDk V g F D V' :=
  ⟨(h.below hb).mono (fun k e => .inl e) (fun k e => by rcases e with e | e; exact Nat.lt_of_lt_of_le (h.lt e) hb.size; exact e.2), Grow.of_below hb⟩
end
end Go.Proofs.YtamglegdgcehaaaGreat

namespace Go.Proofs.YtamglegdgcehaaaGreat
open Go.RowKit

theorem pos_eq {l : List Fl} {s : ByteArray} {k : Nat} (hk : k ≤ l.length) (h1 : ∀ i, (h : i < k) → nl (l[i]'(by omega)).name s = true) (h2 : ∀ h : k < l.length, nl l[k].name s = false) : pos l s = k := by
  unfold pos
  induction l generalizing k with
  | nil => simp at hk; simp [hk]
  | cons f l ih =>
    cases k with
    | zero =>
      have := h2 (by simp)
      simp at this
      simp [this]
    | succ k =>
      have h0 := h1 0 (by omega)
      simp at h0
      have := ih (k := k) (by simpa using hk) (fun i hi => by have := h1 (i + 1) (by omega); simpa using this) (fun h => by have := h2 (by simpa using h); simpa using this)
      simp [h0, this]
theorem pos_le (l : List Fl) (s : ByteArray) : pos l s ≤ l.length := by
  unfold pos
  exact (List.takeWhile_sublist _).length_le
theorem isAt_eq {l : List Fl} {s : ByteArray} {k : Nat} (hp : pos l s = k) (h : k < l.length) : isAt l s = decide (l[k].name = s) := by
  unfold isAt
  rw [hp, List.getElem?_eq_getElem h]
theorem isAt_end {l : List Fl} {s : ByteArray} (h : ¬ pos l s < l.length) : isAt l s = false := by
  unfold isAt
  rw [List.getElem?_eq_none (by omega)]
theorem isAt_lt {l : List Fl} {s : ByteArray} (h : isAt l s = true) : pos l s < l.length := by
  by_cases h1 : pos l s < l.length
  · exact h1
  · rw [isAt_end h1] at h
    cases h

theorem may_ok (w : World) (s : ByteArray) : Calls Tryz.prog 58 #[.string s] w fun e w' => e = .returned (.bool (mayN s)) ∧ w' = w := by
  obtain ⟨b, hb⟩ : ∃ b, mayN s = b := ⟨_, rfl⟩
  have hb2 := hb
  unfold mayN at hb2
  rw [hb]
  have HB := Lib.hid hb2
  clear hb hb2
  by_cases h1 : (s.size : Int) < 1
  · have e : b = false := by rw [← HB.out]; simp; omega
    subst e
    go_enter Tryz.func58, Tryz.ntmps58
    go_wp2
    go_ret
    exact ⟨rfl, rfl⟩
  · have e : decide ((s.size : Int) ≤ 40) = b := by rw [← HB.out]; exact decide_eq_decide.2 (by omega)
    go_enter Tryz.func58, Tryz.ntmps58
    go_wp2
    go_ret
    exact ⟨rfl, rfl⟩

set_option maxHeartbeats 4000000 in
theorem find_ok (w : World) (g : Nat) (D : Dk) (F : Nat → Prop) (s : ByteArray) (h : RDk w g D F) :
    Calls Tryz.prog 59 #[pt g, .string s] w fun e w' => e = .returned (.tuple #[.int .i64 (pos D.l s : Nat), .bool (isAt D.l s)]) ∧ Below w.heap.size w w' := by
  obtain ⟨Fb, v, KA, kn, kc, qs, h⟩ := h
  obtain ⟨A, c, rfl, hc1, hc2, _, hcell⟩ := h.list.form
  have c0 := h.c0
  have hlen := h.len
  have H := Lib.hid h
  have HC := Lib.hid hcell
  have hfew := h.ok.few
  clear h hcell
  go_enter Tryz.func59, Tryz.ntmps59
  go_wp2_with fail
  go_loopw [6] (fun iv wr => ∃ k : Nat, k ≤ qs.length ∧ iv = .int .i64 k ∧ Hid (∀ i, (h : i < k) → (h2 : i < D.l.length) → nl (D.l[i]'h2).name s = true) ∧ wr = w) (fun iv _ => qs.length - (intOf iv).toNat)
  case atStart => exact ⟨0, Nat.zero_le _, rfl, Lib.hid (fun i h => by omega), rfl⟩
  case round =>
    obtain ⟨k, hk, rfl, hall, rfl⟩ := hrel
    by_cases hlt : k < qs.length
    · obtain ⟨b, rfl, hFb, hnb, hcl⟩ := HC.out (by omega)
      obtain ⟨d0, d1, d2⟩ := hcl k hlt
      clear hcl
      have hkl : k < D.l.length := by omega
      have hq := H.out.get hlt
      cases hn : nl qs[k].f.name s
      · have hb : Op.bytesLess qs[k].f.name.toList s.toList = false := hn
        have hp : pos D.l s = k := pos_eq (by omega) (fun i hi => hall.out i hi (by omega)) (fun h => by rw [hq]; exact hn)
        have hi : isAt D.l s = (qs[k].f.name.toList == s.toList) := by rw [isAt_eq hp hkl, hq, beq_nm]
        have HP := Lib.hid hp
        have HI := Lib.hid hi
        have hg : decide ((k : Int) < (qs.length : Int)) = true := decide_eq_true (by omega)
        clear hp hi hn hq
        go_wp2_with fail
        go_quiet (fail)
        go_wp2
        go_ret2
        exact ⟨by rw [HP.out, HI.out]; rfl, below_drewN (Below.refl _ _) _⟩
      · have hb : Op.bytesLess qs[k].f.name.toList s.toList = true := hn
        have hall2 : Hid (∀ i, (h : i < k + 1) → (h2 : i < D.l.length) → nl (D.l[i]'h2).name s = true) := Lib.hid (fun i hi h2 => by
          by_cases e : i = k
          · subst e
            rw [hq]
            exact hn
          · exact hall.out i (by omega) h2)
        clear hq hn
        go_wp2_with fail
        go_roundw
        case rel => exact ⟨k + 1, by omega, by go_num, hall2, trivial⟩
        case measure => simp [intOf]; omega
    · have hkk : k = qs.length := by omega
      have hp : pos D.l s = k := pos_eq (by omega) (fun i hi => hall.out i hi (by omega)) (fun h => by omega)
      have hi : isAt D.l s = false := isAt_end (by rw [hp]; omega)
      have HP := Lib.hid hp
      have HI := Lib.hid hi
      have hg : decide ((k : Int) < (qs.length : Int)) = false := decide_eq_false (by omega)
      clear hp hi
      go_wp2_with fail
      go_quiet (fail)
      go_wp2
      go_ret2
      exact ⟨by rw [HP.out, HI.out]; rfl, below_drewN (Below.refl _ _) _⟩
end Go.Proofs.YtamglegdgcehaaaGreat

namespace Go.Proofs.YtamglegdgcehaaaGreat
open Go.RowKit

theorem sum_take_succ (l : List Fl) (k : Nat) (h : k < l.length) : sum (l.take (k + 1)) = sum (l.take k) + l[k].bs.length := by
  unfold sum
  rw [List.take_succ_eq_append_getElem h, List.map_append, List.sum_append]
  simp
theorem sum_take_le (l : List Fl) (k : Nat) : sum (l.take k) ≤ sum l := by
  conv => rhs; rw [← List.take_append_drop k l]
  unfold sum
  rw [List.map_append, List.sum_append]
  omega

set_option maxHeartbeats 4000000 in
theorem all_ok (w : World) (g : Nat) (D : Dk) (F : Nat → Prop) (h : RDk w g D F) :
    Calls Tryz.prog 60 #[pt g] w fun e w' => e = .returned (.int .i64 (sum D.l : Nat)) ∧ w' = w := by
  obtain ⟨Fb, v, KA, kn, kc, qs, h⟩ := h
  obtain ⟨A, c, rfl, hc1, hc2, _, hcell⟩ := h.list.form
  have c0 := h.c0
  have hlen := h.len
  have H := Lib.hid h
  have HC := Lib.hid hcell
  have hsum := h.ok.sum
  clear h hcell
  go_enter Tryz.func60, Tryz.ntmps60
  go_wp2_with fail
  go_loopw [3, 4] (fun nv iv wr => ∃ (k m : Nat), k ≤ qs.length ∧ iv = .int .i64 k ∧ nv = .int .i64 m ∧ m = sum (D.l.take k) ∧ wr = w) (fun _ iv _ => qs.length - (intOf iv).toNat)
  case atStart => exact ⟨0, 0, Nat.zero_le _, rfl, rfl, rfl, rfl⟩
  case round =>
    obtain ⟨k, m, hk, rfl, rfl, hm, rfl⟩ := hrel
    by_cases hlt : k < qs.length
    · obtain ⟨b, rfl, hFb, hnb, hcl⟩ := HC.out (by omega)
      obtain ⟨d0, d1, d2⟩ := hcl k hlt
      clear hcl
      have hkl : k < D.l.length := by omega
      have hq := H.out.get hlt
      have hs := sum_take_succ D.l k hkl
      have hs2 := sum_take_le D.l (k + 1)
      rw [hq] at hs
      have hw : IntKind.i64.wrap ((m : Int) + (qs[k].f.bs.length : Int)) = (m : Int) + (qs[k].f.bs.length : Int) := IntWalk.i64_in _ (by omega)
      have HS := Lib.hid (show m + qs[k].f.bs.length = sum (D.l.take (k + 1)) by omega)
      clear hq hs hs2 hm
      go_wp2_with fail
      go_roundw
      case rel => exact ⟨k + 1, m + qs[k].f.bs.length, by omega, by go_num, by go_num, HS.out, trivial⟩
      case measure => simp [intOf]; omega
    · have hkk : k = qs.length := by omega
      have HM := Lib.hid (show (m : Int) = (sum D.l : Nat) by rw [hm, List.take_of_length_le (by omega)])
      clear hm
      go_wp2
      go_ret
      exact ⟨by rw [← HM.out]; rfl, rfl⟩

/-! ### the power goes: plain -/
def fallTo (keep : List Int) (i : Nat) (l : List Fl) : List Fl := l.mapIdx (fun j f => if j < i then fallF keep j f else f)
theorem fallTo_zero (keep : List Int) (l : List Fl) : fallTo keep 0 l = l := by
  unfold fallTo
  apply List.ext_getElem
  · simp
  · intro i h1 h2
    simp
theorem fallTo_len (keep : List Int) (i : Nat) (l : List Fl) : (fallTo keep i l).length = l.length := by simp [fallTo]
theorem fallTo_all (keep : List Int) (l : List Fl) : fallTo keep l.length l = fall keep l := by
  unfold fallTo fall
  apply List.ext_getElem
  · simp
  · intro i h1 h2
    have h : i < l.length := by simpa using h1
    simp [h]
theorem fallTo_get (keep : List Int) (i : Nat) (l : List Fl) (h : i < l.length) : (fallTo keep i l)[i]'(by rw [fallTo_len]; exact h) = l[i] := by simp [fallTo]
theorem fallTo_succ (keep : List Int) (i : Nat) (l : List Fl) (h : i < l.length) : fallTo keep (i + 1) l = (fallTo keep i l).set i (fallF keep i l[i]) := by
  unfold fallTo
  apply List.ext_getElem
  · simp
  · intro j h1 h2
    rw [List.getElem_set]
    by_cases e : i = j
    · subst e
      simp
    · rw [if_neg e]
      simp only [List.getElem_mapIdx]
      by_cases hj : j < i
      · rw [if_pos hj, if_pos (by omega)]
      · rw [if_neg hj, if_neg (by omega)]
theorem sum_set : ∀ (l : List Fl) (i : Nat) (f : Fl) (h : i < l.length), sum (l.set i f) + l[i].bs.length = sum l + f.bs.length
  | a :: l, 0, f, _ => by simp [sum]; omega
  | a :: l, i + 1, f, h => by
    have := sum_set l i f (by simpa using h)
    simp [sum] at *
    omega
theorem ok_set {D : Dk} (h : D.ok) {i : Nat} (hi : i < D.l.length) {f : Fl} (hn : f.name = D.l[i].name) (hm : f.mark ≤ f.bs.length) (hs : sum D.l + f.bs.length ≤ 4194304 + D.l[i].bs.length) : ({ D with l := D.l.set i f } : Dk).ok := by
  have e : (D.l.set i f).map Fl.name = D.l.map Fl.name := by
    rw [List.map_set, hn]
    apply List.ext_getElem
    · simp
    · intro j h1 h2
      rw [List.getElem_set]
      split
      · rename_i e; subst e; simp
      · rfl
  refine ⟨?_, fun q hq => ?_, by simpa using h.few, ?_, h.low, h.high⟩
  · have h0 := (List.pairwise_map (f := Fl.name) (R := fun a b => nl a b = true)).2 h.sorted
    rw [← e] at h0
    exact List.pairwise_map.1 h0
  · rcases List.mem_or_eq_of_mem_set hq with h1 | rfl
    · exact h.marks q h1
    · exact hm
  · have := sum_set D.l i f hi
    show sum (D.l.set i f) ≤ _
    omega
theorem brn_lt (k : Int) (n : Nat) (h : 0 < n) : brn k n < n := by
  unfold brn
  rw [if_neg (by omega)]
  have h1 := Int.emod_nonneg k (b := (n : Int)) (by omega)
  have h2 := Int.emod_lt_of_pos k (b := (n : Int)) (by omega)
  omega

/-! ### a file of the list is written -/
theorem rows_set : ∀ (qs : List Fv) (i j : Nat) (u : Value) (q : Fv) (h : i < qs.length), j < 3 → (qs[i].vals).set j u = q.vals → (rows qs).set (i * 3 + j) u = rows (qs.set i q)
  | a :: qs, 0, j, u, q, _, hj, e => by
    unfold rows
    rw [List.flatMap_cons, List.set_append_left _ _ (by simp [Fv.vals]; omega), List.set_cons_zero, List.flatMap_cons, ← e]
    simp
  | a :: qs, i + 1, j, u, q, h, hj, e => by
    have := rows_set qs i j u q (by simpa using h) hj (by simpa using e)
    unfold rows at *
    rw [List.flatMap_cons, List.set_append_right _ _ (by simp [Fv.vals]; omega), List.set_cons_succ, List.flatMap_cons, ← this]
    congr 2
    simp [Fv.vals]
    omega
section
variable {V V' : World} {g : Nat} {D : Dk} {F Fb G : Nat → Prop} {v : Value} {A : Option Addr} {n c : Nat} {qs : List Fv}
theorem RDkB.store {b m cap : Nat} (h : RDkB V g D F Fb (.slice (some ⟨b, 0, none⟩) m cap) A n c qs) {i j : Nat} (hi : i < qs.length) (hj : j < 3) {u : Value} {q : Fv} (hq : (qs[i].vals).set j u = q.vals)
    (hr : RFl V Fb q) (ho : ({ D with l := D.l.set i q.f } : Dk).ok) : RDkB (V.setCell ⟨b, i * 3 + j, none⟩ u) g { D with l := D.l.set i q.f } F Fb (.slice (some ⟨b, 0, none⟩) m cap) A n c (qs.set i q) := by
  have hob := h.list.own b rfl
  have hgb : g ≠ b := fun e => h.fg.2.2 (by rw [e]; rfl)
  have hm : m = qs.length := by
    obtain ⟨_, _, e, _⟩ := h.list.form
    injection e
  subst hm
  have k : ∀ x, x ≠ b → (V.setCell ⟨b, i * 3 + j, none⟩ u).heap[x]? = V.heap[x]? := fun x hx => by
    simp only [World.setCell, Array.getElem?_modify]
    rw [if_neg (fun e => hx e.symm)]
  have hFb : ∀ x, Fb x → (V.setCell ⟨b, i * 3 + j, none⟩ u).heap[x]? = V.heap[x]? := fun x hx => k x (fun e => hob.2 (e ▸ hx))
  have hrow := (h.list.row.stored (i * 3 + j) u).1
  rw [rows_set qs i j u q hi hj hq] at hrow
  refine ⟨(k g hgb).trans h.obj, by rw [List.map_set, h.eq], ⟨by rw [List.length_set]; exact hrow, h.list.own, fun x hx => ?_⟩, h.keep.on h.keepF hFb, h.keepF, h.kcap, h.fg, h.sub, fun x e => ?_, ho⟩
  · rcases List.mem_or_eq_of_mem_set hx with h1 | rfl
    · exact (h.list.each x h1).on hFb (fun _ e => e)
    · exact hr.on hFb (fun _ e => e)
  · rw [World.setCell]
    simp only [Array.size_modify]
    exact h.lt x e
/-- New blocks have come: they may hold bytes. -/
theorem RDkB.grow (h : RDkB V g D F Fb v A n c qs) (hb : Below V.heap.size V V') : RDkB V' g D (nF F V V') (nF Fb V V') v A n c qs := by
  have h1 := h.below hb
  have hl : ∀ k, F k → k < V.heap.size := h.lt
  refine ⟨h1.obj, h1.eq, ⟨h1.list.row, fun k e => ⟨.inl (h.list.own k e).1, ?_⟩, fun q hq => (h1.list.each q hq).on (fun _ _ => rfl) (fun _ e => .inl e)⟩, h1.keep, fun a e => .inl (h.keepF a e), h.kcap, ⟨.inl h.fg.1, ?_, h.fg.2.2⟩, fun k e => ?_, fun k e => ?_, h.ok⟩
  · rintro (e2 | e2)
    · exact (h.list.own k e).2 e2
    · have := hl k (h.list.own k e).1
      omega
  · rintro (e2 | e2)
    · exact h.fg.2.1 e2
    · have := hl g h.fg.1
      omega
  · rcases e with e | e
    · exact .inl (h.sub k e)
    · exact .inr e
  · rcases e with e | e
    · exact Nat.lt_of_lt_of_le (hl k e) hb.size
    · exact e.2
/-- A block that is none of its own is written. -/
theorem RDkB.far (h : RDkB V g D F Fb v A n c qs) {p : Addr} (hp : ¬ F p.block) (u : Value) : RDkB (V.setCell p u) g D F Fb v A n c qs :=
  h.on (by rw [World.setCell]; simp) (fun k e => by
    simp only [World.setCell, Array.getElem?_modify]
    rw [if_neg (fun (e2 : p.block = k) => hp (by rw [e2]; exact e))])
end
end Go.Proofs.YtamglegdgcehaaaGreat
