/-
  Layer 2: words for strings and rows in the walks.
  Layer 2: numbers of bytes, bytes of numbers.
  Layer 2, the code: put; the document's answer: bytes.
  Layer 2: the document's answer Key.
  Layer 2: the document's answer TakeKey.
-/
import Derived.Test.YtiafmbfeigcinaaDoorOMath
import Derived.Test.YtiafmbfeigcinaaDoorZ02
import Derived.Test.YtiafmbfeigcinaaDoorZ04
import Derived.Lib.IndexBytes
set_option linter.unusedVariables false
namespace Go.Proofs.YtiafmbfeigcinaaDoor
open Go.RowKit

/-- A string's bytes. -/
def ob (s : ByteArray) : List UInt8 := s.data.toList
theorem ob_len (s : ByteArray) : (ob s).length = s.size := rfl
theorem sb_mk (l : List UInt8) : ob ⟨l.toArray⟩ = l := rfl
theorem mk_sb (s : ByteArray) : (⟨(ob s).toArray⟩ : ByteArray) = s := by cases s; simp [ob]
theorem sb_get (s : ByteArray) (k : Nat) (h : k < s.size) : s[k]'h = (ob s)[k]'(by rw [ob_len]; exact h) := by
  show s.data[k] = s.data.toList[k]
  simp
theorem sb_inj {s t : ByteArray} (h : ob s = ob t) : s = t := by rw [← mk_sb s, h, mk_sb]
theorem sb_ext (s : ByteArray) (a b : Nat) : ob (s.extract a b) = ((ob s).drop a).take (b - a) := Lib.extract_data s a b
theorem sb_end (s : ByteArray) (a : Nat) : ob (s.extract a s.size) = (ob s).drop a := Lib.extract_to_end s a
theorem beq_str (s t : ByteArray) : (s.toList == t.toList) = decide (s = t) := by
  rw [Lib.toList_data, Lib.toList_data]
  by_cases h : s = t
  · subst h; simp
  · rw [decide_eq_false h]
    apply beq_eq_false_iff_ne.2
    intro e
    exact h (sb_inj e)

theorem at_b {w : World} {x : Int} {b : UInt8} (t : TypeId) (h : x = (b.toNat : Int)) : At (w.alloc (.cells #[.int .u8 x] t)) (some ⟨w.heap.size, 0, none⟩) 1 [b] := by
  subst h
  refine ⟨rfl, fun _ => ⟨w.heap.size, 0, rfl, fun i hi => ?_⟩⟩
  have : i = 0 := by simp at hi; omega
  subst this
  unfold World.cell?
  rw [heap_alloc_new]
  rfl

theorem at_b2 {w : World} (t : TypeId) : At (w.alloc (.cells #[.int .u8 0, .int .u8 0] t)) (some ⟨w.heap.size, 0, none⟩) 2 [0, 0] := by
  refine ⟨rfl, fun _ => ⟨w.heap.size, 0, rfl, fun i hi => ?_⟩⟩
  have : i = 0 ∨ i = 1 := by simp at hi; omega
  unfold World.cell?
  rcases this with rfl | rfl
  all_goals
    rw [heap_alloc_new]
    rfl

theorem Own.alloc {w : World} {B : Nat} {xs : List UInt8} {v : Value} (h : Own w B v xs) (o : Obj) : Own (w.alloc o) B v xs := h.below ((Below.refl _ _).alloc (Nat.le_refl _) _)
theorem Own.row_ {w : World} {B : Nat} {xs : List UInt8} {v : Value} (h : Own w B v xs) : w.ownsRow B 5 1 v xs.length (xs.map bv) := h
theorem Own.of_app {w : World} {B : Nat} {v : Value} {xs : List UInt8} {n : Nat} (h : w.ownsRow B 5 1 v n (xs.map bv)) : Own w B v xs := by
  have hl : n = xs.length := by have := h.1; simpa using this.symm
  subst hl
  exact h


end Go.Proofs.YtiafmbfeigcinaaDoor
set_option linter.unusedVariables false
set_option maxRecDepth 100000
namespace Go.Proofs.YtiafmbfeigcinaaDoor
open Go.RowKit


theorem wval_step (t : ByteArray) (k : Nat) (h : k < t.size) : ∃ b : UInt8, t[k]'h = b ∧ wval ((ob t).take (k + 1)) = wval ((ob t).take k) * 256 + b.toNat := by
  have h' : k < (ob t).length := by rw [ob_len]; exact h
  refine ⟨_, rfl, ?_⟩
  rw [sb_get t k h, List.take_succ_eq_append_getElem h', wval_snoc]

theorem wval_take_lt (t : ByteArray) (k : Nat) (ht : t.size ≤ 6) : wval ((ob t).take k) < 281474976710656 := by
  have h1 := wval_lt ((ob t).take k)
  have h2 : ((ob t).take k).length ≤ 6 := by rw [List.length_take, ob_len]; omega
  have h3 : 256 ^ ((ob t).take k).length ≤ 256 ^ 6 := Nat.pow_le_pow_right (by decide) h2
  have h4 : (256 : Nat) ^ 6 = 281474976710656 := by decide
  omega


/-- '[]byte(s)'. -/
theorem conv_str (t : ByteArray) (w : World) : ∃ cap o, (convert 9 43 (.string t)).run Tryd.prog w = .ok (.slice (some ⟨w.heap.size, 0, none⟩) t.size cap) (w.drew.alloc o) ∧
    At (w.drew.alloc o) (some ⟨w.heap.size, 0, none⟩) t.size (ob t) := by
  refine ⟨_, _, run_bytes_of_string w 9 43 5 t Tryd.underlying9 Tryd.underlying43 Tryd.underlying5, rfl, fun _ => ⟨w.heap.size, 0, rfl, fun i hi => ?_⟩⟩
  rw [Nat.zero_add]
  have h := World.cell?_alloc_mark w.drew (bytesRow t (grownCap w t.size 0 5)) 5 ((bytesRow t (grownCap w t.size 0 5)).size, (bytesRow t (grownCap w t.size 0 5)).size + 1) i
  refine h.trans ?_
  rw [bytesRow_at t _ i hi]
  rfl

theorem wval_step' (l : List UInt8) (k : Nat) (h : k < l.length) : wval (l.take (k + 1)) = wval (l.take k) * 256 + l[k].toNat := by
  rw [List.take_succ_eq_append_getElem h, wval_snoc]


end Go.Proofs.YtiafmbfeigcinaaDoor
set_option linter.unusedVariables false
set_option maxRecDepth 100000
namespace Go.Proofs.YtiafmbfeigcinaaDoor
open Go.RowKit

theorem wide_get : ∀ (m n i : Nat), i < m → (wide m n)[i]? = some (UInt8.ofNat (n / 256 ^ (m - 1 - i)))
  | 0, n, i, h => absurd h (Nat.not_lt_zero _)
  | m + 1, n, i, h => by
    rw [wide]
    rcases Nat.lt_or_ge i m with h1 | h1
    · rw [List.getElem?_append_left (by rw [wide_len]; exact h1), wide_get m (n / 256) i h1, Nat.div_div_eq_div_mul]
      congr 3
      rw [show m + 1 - 1 - i = (m - 1 - i) + 1 from by omega, Nat.pow_succ, Nat.mul_comm]
    · have : i = m := by omega
      subst this
      rw [List.getElem?_append_right (by rw [wide_len]; exact Nat.le_refl _), wide_len]
      simp

theorem pow_bytes (k : Nat) : (2 : Int) ^ (8 * k) = ((256 ^ k : Nat) : Int) := by
  rw [Int.pow_mul]
  norm_cast



end Go.Proofs.YtiafmbfeigcinaaDoor
set_option linter.unusedVariables false
namespace Go.Proofs.YtiafmbfeigcinaaDoor
open Go.RowKit

theorem esc_step (s : ByteArray) (k : Nat) (h : k < s.size) : ∃ b : UInt8, s[k]'h = b ∧ esc ((ob s).take (k + 1)) = esc ((ob s).take k) ++ (if b = 0 then [0, 1] else [b]) := by
  have h' : k < (ob s).length := by rw [ob_len]; exact h
  refine ⟨_, rfl, ?_⟩
  rw [sb_get s k h, List.take_succ_eq_append_getElem h', esc_app]
  rfl

theorem Own.grew {w wr w2 : World} {B : Nat} {v : Value} {xs : List UInt8} (hown : Own wr B v xs) (hbw : Below B w wr) (hB : B ≤ wr.heap.size) {o : Obj} (hg : (wr.alloc o).grownBy w2 v.ownBlock) : Below B w w2 :=
  (hbw.alloc hB o).grown hg (by simp; omega) (fun q hq => (hown.lt q hq).1)

theorem u8_ne {b c : UInt8} (h : b ≠ c) : ((b.toNat : Int) == (c.toNat : Int)) = false := by
  apply beq_eq_false_iff_ne.2
  intro e
  exact h (UInt8.toNat_inj.1 (by omega))



end Go.Proofs.YtiafmbfeigcinaaDoor
set_option linter.unusedVariables false
namespace Go.Proofs.YtiafmbfeigcinaaDoor
open Go.RowKit

def push (l : List UInt8) (r : Except Nat (List UInt8 × List UInt8)) : Except Nat (List UInt8 × List UInt8) := r.map fun p => (l ++ p.1, p.2)
theorem push_nil (r : Except Nat (List UInt8 × List UInt8)) : push [] r = r := by cases r <;> rfl
theorem push_one (l : List UInt8) (b : UInt8) (r : Except Nat (List UInt8 × List UInt8)) : push l (r.map fun p => (b :: p.1, p.2)) = push (l ++ [b]) r := by
  cases r with
  | error e => rfl
  | ok p => simp [push, Except.map]

/-- What TakeKey answers: the text, what is behind, the error. -/
def tkt (r : Except Nat (List UInt8 × List UInt8)) : ByteArray := match r with | .ok p => ⟨p.1.toArray⟩ | .error _ => ⟨#[]⟩
def tkr (r : Except Nat (List UInt8 × List UInt8)) : ByteArray := match r with | .ok p => ⟨p.2.toArray⟩ | .error _ => ⟨#[]⟩
def tke (r : Except Nat (List UInt8 × List UInt8)) : Int := match r with | .ok _ => 0 | .error e => e
def TkAns (r : Except Nat (List UInt8 × List UInt8)) : Ending := .returned (.tuple #[.string (tkt r), .string (tkr r), .int .i64 (tke r)])
theorem TkAns_err (n : Nat) : TkAns (.error n) = .returned (.tuple #[.string ⟨#[]⟩, .string ⟨#[]⟩, .int .i64 n]) := rfl
theorem TkAns_ok (s r : List UInt8) : TkAns (.ok (s, r)) = .returned (.tuple #[.string ⟨s.toArray⟩, .string ⟨r.toArray⟩, .int .i64 0]) := rfl

theorem TkAns_end (l : List UInt8) (s : ByteArray) (k : Nat) : TkAns (.ok (l, (ob s).drop k)) = .returned (.tuple #[.string ⟨l.toArray⟩, .string (s.extract k s.size), .int .i64 0]) := by
  rw [TkAns_ok, ← sb_end, mk_sb]

/-- The ways in which what is left may begin, at a place of a string. -/
theorem ways (s : ByteArray) (k : Nat) (hk : k ≤ s.size) :
    (k = s.size ∧ (ob s).drop k = []) ∨
    (∃ h : k < s.size, k + 1 = s.size ∧ s[k]'h = 0 ∧ (ob s).drop k = [0]) ∨
    (∃ (h : k < s.size) (h1 : k + 1 < s.size) (c : UInt8), s[k]'h = 0 ∧ s[k + 1]'h1 = c ∧ (ob s).drop k = 0 :: c :: (ob s).drop (k + 2)) ∨
    (∃ (h : k < s.size) (b : UInt8), b ≠ 0 ∧ s[k]'h = b ∧ (ob s).drop k = b :: (ob s).drop (k + 1)) := by
  rcases Nat.lt_or_ge k s.size with h | h
  · have h' : k < (ob s).length := by rw [ob_len]; exact h
    have e : (ob s).drop k = (ob s)[k] :: (ob s).drop (k + 1) := List.drop_eq_getElem_cons h'
    by_cases h0 : s[k] = 0
    · have h0' : (ob s)[k] = 0 := by rw [← sb_get s k h]; exact h0
      rcases Nat.lt_or_ge (k + 1) s.size with h1 | h1
      · have h1' : k + 1 < (ob s).length := by rw [ob_len]; exact h1
        refine .inr (.inr (.inl ⟨h, h1, _, h0, rfl, ?_⟩))
        rw [e, h0', List.drop_eq_getElem_cons h1', sb_get s (k + 1) h1]
      · refine .inr (.inl ⟨h, by omega, h0, ?_⟩)
        rw [e, h0', List.drop_of_length_le (by rw [ob_len]; omega)]
    · refine .inr (.inr (.inr ⟨h, s[k]'h, h0, rfl, ?_⟩))
      rw [e, sb_get s k h]
  · refine .inl ⟨by omega, List.drop_of_length_le (by rw [ob_len]; omega)⟩

theorem u8_eq0 {b : UInt8} (h : b ≠ 0) : ((b.toNat : Int) == 0) = false := u8_ne h
theorem u8_eq1 {b : UInt8} (h : b ≠ 1) : ((b.toNat : Int) == 1) = false := u8_ne h
theorem u8_ne0 {b : UInt8} (h : b ≠ 0) : ((b.toNat : Int) != 0) = true := by rw [bne, u8_eq0 h]; rfl
theorem u8_ne1 {b : UInt8} (h : b ≠ 1) : ((b.toNat : Int) != 1) = true := by rw [bne, u8_eq1 h]; rfl

theorem push_step (l : List UInt8) (b : UInt8) (r t : Except Nat (List UInt8 × List UInt8)) (n : Nat) (hn : l.length < 1000) (u : List UInt8)
    (h : t = push l (if 1000 - l.length = 0 then .error 5 else (tkey (1000 - l.length - 1) u).map fun p => (b :: p.1, p.2))) : t = push (l ++ [b]) (tkey (1000 - (l ++ [b]).length) u) := by
  rw [h, if_neg (by omega), push_one, List.length_append, List.length_singleton, Nat.sub_sub]


end Go.Proofs.YtiafmbfeigcinaaDoor
