/-
  Layer 7, plain: a disk: what each call answers, and makes of it: no program.
-/
import Derived.Test.YtmjoaeljfhgojaaBase
import Derived.Lib.IndexBytes
set_option linter.unusedVariables false
namespace Go.Proofs.Ytmjoaeljfhgojaa

/-- Is a name ahead of another one? -/
def nl (a b : ByteArray) : Bool := Op.bytesLess a.toList b.toList
theorem bl_irr : ∀ l : List UInt8, Op.bytesLess l l = false
  | [] => rfl
  | a :: l => by simp [Op.bytesLess, bl_irr l]
theorem bl_trans : ∀ {x y z : List UInt8}, Op.bytesLess x y = true → Op.bytesLess y z = true → Op.bytesLess x z = true
  | _, [], _, h, _ => by cases ‹List UInt8› <;> simp [Op.bytesLess] at h
  | _, _ :: _, [], _, h => by simp [Op.bytesLess] at h
  | [], _ :: _, _ :: _, _, _ => rfl
  | a :: x, b :: y, c :: z, h1, h2 => by
    simp only [Op.bytesLess, Bool.or_eq_true, decide_eq_true_eq, Bool.and_eq_true, beq_iff_eq] at *
    rcases h1 with h1 | ⟨rfl, h1⟩
    · rcases h2 with h2 | ⟨rfl, _⟩
      · exact .inl (UInt8.lt_trans h1 h2)
      · exact .inl h1
    · rcases h2 with h2 | ⟨rfl, h2⟩
      · exact .inl h2
      · exact .inr ⟨rfl, bl_trans h1 h2⟩
theorem bl_total : ∀ {x y : List UInt8}, Op.bytesLess x y = false → Op.bytesLess y x = false → x = y
  | [], [], _, _ => rfl
  | [], _ :: _, h, _ => by simp [Op.bytesLess] at h
  | _ :: _, [], _, h => by simp [Op.bytesLess] at h
  | a :: x, b :: y, h1, h2 => by
    simp only [Op.bytesLess, Bool.or_eq_false_iff, decide_eq_false_iff_not, Bool.and_eq_false_iff, beq_eq_false_iff_ne] at h1 h2
    have e : a = b := UInt8.le_antisymm (UInt8.not_lt.1 h2.1) (UInt8.not_lt.1 h1.1)
    subst e
    rw [bl_total (h1.2.resolve_left (by simp)) (h2.2.resolve_left (by simp))]
theorem toList_inj {s t : ByteArray} (h : s.toList = t.toList) : s = t := by
  rw [Lib.toList_data, Lib.toList_data] at h
  cases s; cases t
  simp only [ByteArray.mk.injEq]
  exact Array.ext' h
theorem nl_irr (a : ByteArray) : nl a a = false := bl_irr _
theorem nl_trans {a b c : ByteArray} (h1 : nl a b = true) (h2 : nl b c = true) : nl a c = true := bl_trans h1 h2
theorem nl_total {a b : ByteArray} (h1 : nl a b = false) (h2 : nl b a = false) : a = b := toList_inj (bl_total h1 h2)
theorem nl_asym {a b : ByteArray} (h : nl a b = true) : nl b a = false := by
  cases h2 : nl b a with
  | false => rfl
  | true => exact absurd (nl_trans h h2) (by rw [nl_irr]; decide)
theorem nl_ne {a b : ByteArray} (h : nl a b = true) : a ≠ b := fun e => by
  subst e
  rw [nl_irr] at h
  cases h
theorem beq_nm (s t : ByteArray) : (s.toList == t.toList) = decide (s = t) := by
  by_cases h : s = t
  · subst h; simp
  · rw [decide_eq_false h]
    exact beq_eq_false_iff_ne.2 (fun e => h (toList_inj e))

/-- A file: its name, its bytes, its mark. -/
structure Fl where
  name : ByteArray
  bs : List UInt8
  mark : Nat
/-- A disk: its files by rising names; dead; behind how many works it fails (-1: not); the numbers to keep by. -/
structure Dk where
  l : List Fl
  dead : Bool
  left : Int
  keep : List Int

def mayN (s : ByteArray) : Bool := decide (1 ≤ s.size ∧ s.size ≤ 40)
/-- Where a file is, or would be; whether it is. -/
def pos (l : List Fl) (s : ByteArray) : Nat := (l.takeWhile (fun f => nl f.name s)).length
def isAt (l : List Fl) (s : ByteArray) : Bool := match l[pos l s]? with | some f => decide (f.name = s) | none => false
def sum (l : List Fl) : Nat := (l.map (fun f => f.bs.length)).sum
def withF (l : List Fl) (f : Fl) : List Fl := l.take (pos l f.name) ++ f :: l.drop (pos l f.name + if isAt l f.name then 1 else 0)
def without (l : List Fl) (s : ByteArray) : List Fl := if isAt l s then l.take (pos l s) ++ l.drop (pos l s + 1) else l
/-- The file of that name, else one of no bytes. -/
def fileAt (l : List Fl) (s : ByteArray) : Fl := if isAt l s then l.getD (pos l s) ⟨s, [], 0⟩ else ⟨s, [], 0⟩

/-- A number brought to be from 0 to n - 1. -/
def brn (k : Int) (n : Nat) : Nat := if n = 0 then 0 else (k % (n : Int)).toNat
def fallF (keep : List Int) (i : Nat) (f : Fl) : Fl :=
  let k := if i < keep.length then brn (keep.getD i 0) (f.bs.length - f.mark + 1) else 0
  ⟨f.name, f.bs.take (f.mark + k), f.mark + k⟩
def fall (keep : List Int) (l : List Fl) : List Fl := l.mapIdx (fallF keep)
def crash (D : Dk) (keep : List Int) : Dk := if D.dead then D else ⟨fall keep D.l, true, -1, D.keep⟩
/-- A work: counted, and done; or the power goes. -/
def work (D : Dk) (g : List Fl → List Fl) : Dk := if D.left = 0 then crash D D.keep else { D with l := g D.l, left := if 0 < D.left then D.left - 1 else D.left }
def workE (D : Dk) : Int := if D.left = 0 then 71 else 0

def appE (D : Dk) (s : ByteArray) (n : Nat) : Int :=
  if D.dead then 71 else if mayN s = false then 70 else if (isAt D.l s = false ∧ 20 ≤ D.l.length) ∨ 4194304 < sum D.l + n then 7 else workE D
def app (D : Dk) (s : ByteArray) (bs : List UInt8) : Dk :=
  if D.dead then D else if mayN s = false then D else if (isAt D.l s = false ∧ 20 ≤ D.l.length) ∨ 4194304 < sum D.l + bs.length then D else
    work D (fun l => withF l ⟨s, (fileAt l s).bs ++ bs, (fileAt l s).mark⟩)
def nmE (D : Dk) (s : ByteArray) : Int := if D.dead then 71 else if isAt D.l s = false then 70 else 0
def synE (D : Dk) (s : ByteArray) : Int := if nmE D s = 0 then workE D else nmE D s
def setAt (l : List Fl) (s : ByteArray) (f : Fl) : List Fl := l.set (pos l s) f
def syn (D : Dk) (s : ByteArray) : Dk := if nmE D s = 0 then work D (fun l => setAt l s ⟨s, (fileAt l s).bs, (fileAt l s).bs.length⟩) else D
def cutE (D : Dk) (s : ByteArray) (k : Int) : Int := if nmE D s = 0 then if k < 0 ∨ ((fileAt D.l s).bs.length : Int) < k then 9 else workE D else nmE D s
def cut (D : Dk) (s : ByteArray) (k : Int) : Dk :=
  if nmE D s = 0 then if k < 0 ∨ ((fileAt D.l s).bs.length : Int) < k then D else work D (fun l => setAt l s ⟨s, (fileAt l s).bs.take k.toNat, min (fileAt l s).mark k.toNat⟩) else D
def renE (D : Dk) (s t : ByteArray) : Int := if nmE D s = 0 then if mayN t = false then 70 else workE D else nmE D s
def ren (D : Dk) (s t : ByteArray) : Dk :=
  if nmE D s = 0 then if mayN t = false then D else work D (fun l => withF (without l s) ⟨t, (fileAt l s).bs, (fileAt l s).mark⟩) else D
def remE (D : Dk) (s : ByteArray) : Int := synE D s
def rem (D : Dk) (s : ByteArray) : Dk := if nmE D s = 0 then work D (fun l => without l s) else D
def rdE (D : Dk) (s : ByteArray) : Int := nmE D s
def rdB (D : Dk) (s : ByteArray) : List UInt8 := if nmE D s = 0 then (fileAt D.l s).bs else []
def nms (D : Dk) : List ByteArray := if D.dead then [] else D.l.map Fl.name
def fal (D : Dk) (n : Int) (keep : List Int) : Dk := if D.dead then D else { D with left := max n (-1), keep := keep }
def boot (D : Dk) : Dk := { D with dead := false, left := -1 }
def trnE (D : Dk) (s : ByteArray) (i b : Int) : Int := if nmE D s = 0 then if i < 0 ∨ ((fileAt D.l s).bs.length : Int) ≤ i ∨ b < 0 ∨ 7 < b then 9 else 0 else nmE D s
def flip (bs : List UInt8) (i b : Nat) : List UInt8 := bs.set i ((bs.getD i 0) ^^^ (1 <<< UInt8.ofNat b))
def trn (D : Dk) (s : ByteArray) (i b : Int) : Dk :=
  if trnE D s i b = 0 then { D with l := setAt D.l s ⟨s, flip (fileAt D.l s).bs i.toNat b.toNat, (fileAt D.l s).mark⟩ } else D
def dk0 : Dk := ⟨[], false, -1, []⟩

/-- What a disk always is. -/
structure Dk.ok (D : Dk) : Prop where
  sorted : D.l.Pairwise (fun a b => nl a.name b.name = true)
  marks : ∀ f ∈ D.l, f.mark ≤ f.bs.length
  few : D.l.length ≤ 20
  sum : sum D.l ≤ 4194304
  low : -1 ≤ D.left
  high : D.left ≤ 9223372036854775807
end Go.Proofs.Ytmjoaeljfhgojaa
