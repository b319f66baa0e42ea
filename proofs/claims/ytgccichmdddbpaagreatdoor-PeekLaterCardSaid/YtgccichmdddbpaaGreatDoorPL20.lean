/-
  Layer 2: words for strings and rows in the walks.
  Layer 2: numbers of bytes, bytes of numbers.
  Layer 2, the code: put; the document's answer: bytes.
  Layer 2: the document's answer Key.
  Layer 2: the document's answer TakeKey.
-/
import Derived.Test.YtgccichmdddbpaaGreatDoorPL17
import Derived.Test.YtgccichmdddbpaaGreatDoorPL01
import Derived.Test.YtgccichmdddbpaaGreatDoorPL19
import Derived.Lib.IndexBytes
set_option linter.unusedVariables false
namespace Go.Proofs.YtgccichmdddbpaaGreatDoor
open Go.RowKit

/-- A string's bytes. -/
def ob (s : ByteArray) : List UInt8 := s.data.toList
theorem ob_len (s : ByteArray) : (ob s).length = s.size := rfl
theorem mk_sb (s : ByteArray) : (⟨(ob s).toArray⟩ : ByteArray) = s := by cases s; simp [ob]
theorem sb_get (s : ByteArray) (k : Nat) (h : k < s.size) : s[k]'h = (ob s)[k]'(by rw [ob_len]; exact h) := by
  show s.data[k] = s.data.toList[k]
  simp
theorem sb_inj {s t : ByteArray} (h : ob s = ob t) : s = t := by rw [← mk_sb s, h, mk_sb]
theorem sb_ext (s : ByteArray) (a b : Nat) : ob (s.extract a b) = ((ob s).drop a).take (b - a) := Lib.extract_data s a b
theorem sb_end (s : ByteArray) (a : Nat) : ob (s.extract a s.size) = (ob s).drop a := Lib.extract_to_end s a
theorem beq_str (s t : ByteArray) : (s.toList == t.toList) = decide (s = t) := by
  rw [Lib.toList_data, Lib.toList_data]
  by_cases h : s = t
  · subst h; simp
  · rw [decide_eq_false h]
    apply beq_eq_false_iff_ne.2
    intro e
    exact h (sb_inj e)

theorem at_b {w : World} {x : Int} {b : UInt8} (t : TypeId) (h : x = (b.toNat : Int)) : At (w.alloc (.cells #[.int .u8 x] t)) (some ⟨w.heap.size, 0, none⟩) 1 [b] := by
  subst h
  refine ⟨rfl, fun _ => ⟨w.heap.size, 0, rfl, fun i hi => ?_⟩⟩
  have : i = 0 := by simp at hi; omega
  subst this
  unfold World.cell?
  rw [heap_alloc_new]
  rfl

theorem at_b2 {w : World} (t : TypeId) : At (w.alloc (.cells #[.int .u8 0, .int .u8 0] t)) (some ⟨w.heap.size, 0, none⟩) 2 [0, 0] := by
  refine ⟨rfl, fun _ => ⟨w.heap.size, 0, rfl, fun i hi => ?_⟩⟩
  have : i = 0 ∨ i = 1 := by simp at hi; omega
  unfold World.cell?
  rcases this with rfl | rfl
  all_goals
    rw [heap_alloc_new]
    rfl

theorem Own.alloc {w : World} {B : Nat} {xs : List UInt8} {v : Value} (h : Own w B v xs) (o : Obj) : Own (w.alloc o) B v xs := h.below ((Below.refl _ _).alloc (Nat.le_refl _) _)
theorem Own.row_ {w : World} {B : Nat} {xs : List UInt8} {v : Value} (h : Own w B v xs) : w.ownsRow B 5 1 v xs.length (xs.map bv) := h
theorem Own.of_app {w : World} {B : Nat} {v : Value} {xs : List UInt8} {n : Nat} (h : w.ownsRow B 5 1 v n (xs.map bv)) : Own w B v xs := by
  have hl : n = xs.length := by have := h.1; simpa using this.symm
  subst hl
  exact h


end Go.Proofs.YtgccichmdddbpaaGreatDoor
set_option linter.unusedVariables false
set_option maxRecDepth 100000
namespace Go.Proofs.YtgccichmdddbpaaGreatDoor
open Go.RowKit


theorem wval_step (t : ByteArray) (k : Nat) (h : k < t.size) : ∃ b : UInt8, t[k]'h = b ∧ wval ((ob t).take (k + 1)) = wval ((ob t).take k) * 256 + b.toNat := by
  have h' : k < (ob t).length := by rw [ob_len]; exact h
  refine ⟨_, rfl, ?_⟩
  rw [sb_get t k h, List.take_succ_eq_append_getElem h', wval_snoc]

theorem wval_take_lt (t : ByteArray) (k : Nat) (ht : t.size ≤ 6) : wval ((ob t).take k) < 281474976710656 := by
  have h1 := wval_lt ((ob t).take k)
  have h2 : ((ob t).take k).length ≤ 6 := by rw [List.length_take, ob_len]; omega
  have h3 : 256 ^ ((ob t).take k).length ≤ 256 ^ 6 := Nat.pow_le_pow_right (by decide) h2
  have h4 : (256 : Nat) ^ 6 = 281474976710656 := by decide
  omega

set_option maxHeartbeats 1000000 in
theorem refNumber (t : ByteArray) (w : World) (ht : t.size ≤ 6) :
    Calls Tryz.prog 165 #[.string t] w fun e w' => e = .returned (.int .i64 (wval (ob t))) ∧ w = w' := by
  go_enter Tryz.func165, Tryz.ntmps165
  go_wp2
  go_loopw [3, 4] (fun y x wr => ∃ k v : Nat, x = .int .i64 k ∧ y = .int .i64 v ∧ k ≤ t.size ∧ Hid (v = wval ((ob t).take k)) ∧ w = wr) (fun _ x _ => t.size - (intOf x).toNat)
  case atStart => exact ⟨0, 0, rfl, rfl, Nat.zero_le _, rfl, rfl⟩
  case round =>
    obtain ⟨k, v, rfl, rfl, hk, hv, rfl⟩ := hrel
    have hvb := wval_take_lt t k ht
    rw [← hv.out] at hvb
    by_cases hlt : k < t.size
    · obtain ⟨b, hb, hE⟩ := wval_step t k hlt
      rw [← hv.out] at hE
      have HE := Lib.hid hE
      have hb256 := b.toNat_lt
      clear hE
      go_wp2
      go_roundw
      case rel => exact ⟨k + 1, v * 256 + b.toNat, by go_num, by go_num, by omega, HE.out.symm, trivial⟩
      case measure => simp [intOf]; omega
    · have hkk : k = t.size := by omega
      have HV : Hid (v = wval (ob t)) := by
        have := hv.out
        rw [hkk, ← ob_len, List.take_length] at this
        exact this
      clear hkk
      go_wp2
      go_ret
      exact ⟨by rw [HV.out]; rfl, rfl⟩

/-- '[]byte(s)'. -/
theorem conv_str (t : ByteArray) (w : World) : ∃ cap o, (convert 9 164 (.string t)).run Tryz.prog w = .ok (.slice (some ⟨w.heap.size, 0, none⟩) t.size cap) (w.drew.alloc o) ∧
    At (w.drew.alloc o) (some ⟨w.heap.size, 0, none⟩) t.size (ob t) := by
  refine ⟨_, _, run_bytes_of_string w 9 164 5 t Tryz.underlying9 Tryz.underlying164 Tryz.underlying5, rfl, fun _ => ⟨w.heap.size, 0, rfl, fun i hi => ?_⟩⟩
  rw [Nat.zero_add]
  have h := World.cell?_alloc_mark w.drew (bytesRow t (grownCap w t.size 0 5)) 5 ((bytesRow t (grownCap w t.size 0 5)).size, (bytesRow t (grownCap w t.size 0 5)).size + 1) i
  refine h.trans ?_
  rw [bytesRow_at t _ i hi]
  rfl

theorem wval_step' (l : List UInt8) (k : Nat) (h : k < l.length) : wval (l.take (k + 1)) = wval (l.take k) * 256 + l[k].toNat := by
  rw [List.take_succ_eq_append_getElem h, wval_snoc]

set_option maxHeartbeats 1000000 in
theorem codeNumber (t : ByteArray) (w : World) (ht : t.size ≤ 6) :
    Calls Tryz.prog 214 #[.string t] w fun e w' => e = .returned (.int .i64 (wval (ob t))) ∧ Below w.heap.size w w' := by
  obtain ⟨cap, o, kc, hat⟩ := conv_str t w
  have hb0 : Below w.heap.size w (w.drew.alloc o) := (Below.refl _ _).drew.alloc (Nat.le_refl _) _
  have hc := fun h => (hat.at_ h)
  have HB := Lib.hid (wval_take_lt t · ht)
  have HL := Lib.hid (ob_len t)
  clear hat
  go_enter Tryz.func214, Tryz.ntmps214
  go_wp2
  go_loopw [3, 9] (fun y x wr => ∃ k v : Nat, x = .int .i64 k ∧ y = .int .i64 v ∧ k ≤ t.size ∧ Hid (v = wval ((ob t).take k)) ∧ wr = (w.alloc o).drew) (fun _ x _ => t.size - (intOf x).toNat)
  case atStart => exact ⟨0, 0, rfl, rfl, Nat.zero_le _, rfl, rfl⟩
  case round =>
    obtain ⟨k, v, rfl, rfl, hk, hv, rfl⟩ := hrel
    have hvb := HB.out k
    rw [← hv.out] at hvb
    by_cases hlt : k < t.size
    · have hlk : k < (ob t).length := by rw [HL.out]; exact hlt
      obtain ⟨bb, oo, he, hcell⟩ := hc (by omega)
      injection he with he
      injection he with he1 he2
      subst he1
      subst he2
      have hck0 := hcell k hlk
      rw [Nat.zero_add] at hck0
      have hck : (w.alloc o).cell? ⟨w.heap.size, k, none⟩ = some (.int .u8 ((ob t)[k].toNat : Int)) := hck0
      have hE := wval_step' (ob t) k hlk
      obtain ⟨b, hb⟩ : ∃ b, b = (ob t)[k] := ⟨_, rfl⟩
      rw [← hb] at hck hE
      rw [← hv.out] at hE
      have HE := Lib.hid hE
      have hb256 := b.toNat_lt
      have hor := or_byte v b.toNat hvb hb256
      clear hE hb hlk hcell hc hck0
      go_wp2
      go_roundw
      case rel => exact ⟨k + 1, v * 256 + b.toNat, by go_num, by go_num, by omega, HE.out.symm, trivial⟩
      case measure => simp [intOf]; omega
    · have hkk : k = t.size := by omega
      have HV : Hid (v = wval (ob t)) := by
        have := hv.out
        rw [hkk, ← HL.out, List.take_length] at this
        exact this
      clear hkk hc
      go_wp2
      go_ret
      exact ⟨by rw [HV.out]; rfl, hb0⟩

end Go.Proofs.YtgccichmdddbpaaGreatDoor
set_option linter.unusedVariables false
set_option maxRecDepth 100000
namespace Go.Proofs.YtgccichmdddbpaaGreatDoor
open Go.RowKit

theorem wide_get : ∀ (m n i : Nat), i < m → (wide m n)[i]? = some (UInt8.ofNat (n / 256 ^ (m - 1 - i)))
  | 0, n, i, h => absurd h (Nat.not_lt_zero _)
  | m + 1, n, i, h => by
    rw [wide]
    rcases Nat.lt_or_ge i m with h1 | h1
    · rw [List.getElem?_append_left (by rw [wide_len]; exact h1), wide_get m (n / 256) i h1, Nat.div_div_eq_div_mul]
      congr 3
      rw [show m + 1 - 1 - i = (m - 1 - i) + 1 from by omega, Nat.pow_succ, Nat.mul_comm]
    · have : i = m := by omega
      subst this
      rw [List.getElem?_append_right (by rw [wide_len]; exact Nat.le_refl _), wide_len]
      simp

theorem pow_bytes (k : Nat) : (2 : Int) ^ (8 * k) = ((256 ^ k : Nat) : Int) := by
  rw [Int.pow_mul]
  norm_cast

set_option maxHeartbeats 1000000 in
theorem put (g o m c n : Nat) (cs : Array Value) (w : World) (hB : Blk w g 5 cs) (hm : o + m ≤ cs.size) (hm6 : m ≤ 6) (hn : n ≤ 281474976710656) :
    Calls Tryz.prog 211 #[.slice (some ⟨g, o, none⟩) m c, .int .i64 n] w fun e w' => e = .returned (.tuple #[]) ∧ ∃ cs' : Array Value, Blk w' g 5 cs' ∧ cs'.size = cs.size ∧
      (∀ i, i < m → cs'[o + i]? = ((wide m n)[i]?).map bv) ∧ (∀ j, j < o ∨ o + m ≤ j → cs'[j]? = cs[j]?) ∧ Below g w w' := by
  go_enter Tryz.func211, Tryz.ntmps211
  go_wp2
  go_loopw [7] (fun x wr => ∃ (k : Nat) (cs' : Array Value), x = .int .i64 k ∧ k ≤ m ∧ Blk wr g 5 cs' ∧ cs'.size = cs.size ∧
      Hid (∀ i, i < k → cs'[o + i]? = ((wide m n)[i]?).map bv) ∧ Hid (∀ j, j < o ∨ o + m ≤ j → cs'[j]? = cs[j]?) ∧ Below g w wr) (fun x _ => m - (intOf x).toNat)
  case atStart => exact ⟨0, cs, rfl, Nat.zero_le _, hB, rfl, fun i hi => absurd hi (Nat.not_lt_zero _), fun _ _ => rfl, Below.refl _ _⟩
  case round =>
    obtain ⟨k, cs', rfl, hk, hB', hsz, h1, h2, hbw⟩ := hrel
    by_cases hlt : k < m
    · have hi : o + k < cs'.size := by omega
      have hc1 : wr.cell? ⟨g, o + k, none⟩ = some (cs'[o + k]'hi) := by rw [hB'.cell, Array.getElem?_eq_getElem]
      have hc2 : wr.frozen? ⟨g, o + k, none⟩ = false := hB'.frozen _
      have hv : Hid ((wide m n)[k]? = some (UInt8.ofNat (n / 256 ^ (m - 1 - k)))) := wide_get m n k hlt
      clear hc1 hc2
      have hc1 : ∃ u, wr.cell? ⟨g, o + k, none⟩ = some u := ⟨_, by rw [hB'.cell, Array.getElem?_eq_getElem hi]⟩
      obtain ⟨u0, hc1⟩ := hc1
      have hc2 : wr.frozen? ⟨g, o + k, none⟩ = false := hB'.frozen _
      go_wp2
      go_roundw
      case rel =>
        refine ⟨k + 1, cs'.setIfInBounds (o + k) (.int .u8 ((n : Int) / 2 ^ (8 * (m - 1 - k)) % 256)), by go_num, by omega, hB'.set_ _ _, by rw [Array.size_setIfInBounds]; exact hsz, fun i hi' => ?_, fun j hj => ?_, hbw.setCell (Nat.le_refl _) _⟩
        · rw [Array.getElem?_setIfInBounds]
          by_cases hik : i = k
          · subst hik
            rw [if_pos rfl, if_pos hi, hv.out]
            simp only [Option.map_some, bv]
            rw [u8_ofNat, pow_bytes]
            simp
          · rw [if_neg (by omega)]
            exact h1.out i (by omega)
        · rw [Array.getElem?_setIfInBounds, if_neg (by omega)]
          exact h2.out j hj
      case measure => simp [intOf]; omega
    · have hkk : k = m := by omega
      subst hkk
      clear hlt
      go_wp2
      go_end0
      exact ⟨rfl, cs', hB', hsz, h1.out, h2.out, hbw⟩

set_option maxHeartbeats 2000000 in
theorem refBytes (n m : Nat) (w : World) (hm : 1 ≤ m) (hm6 : m ≤ 6) (hn : n ≤ 281474976710656) :
    Calls Tryz.prog 171 #[.int .i64 n, .int .i64 m] w fun e w' => e = .returned (.string ⟨(wide m n).toArray⟩) ∧ Below w.heap.size w w' := by
  obtain ⟨M, hM, mk⟩ := make_ m (by omega)
  go_enter Tryz.func171, Tryz.ntmps171
  go_wp2
  go_loopw [0, 6] (fun x y wr => ∃ (j v : Nat) (cs : Array Value), x = .int .i64 v ∧ y = .int .i64 ((m : Int) - 1 - (j : Int)) ∧ j ≤ m ∧ v ≤ n ∧ Hid (v = n / 256 ^ j) ∧ Blk wr w.heap.size 5 cs ∧ cs.size = m ∧
      Hid (∀ i, m - j ≤ i → i < m → cs[i]? = ((wide m n)[i]?).map bv) ∧ Below w.heap.size w wr) (fun _ y _ => (intOf y + 1).toNat)
  case atStart => exact ⟨0, n, M, rfl, by go_num, Nat.zero_le _, Nat.le_refl _, by simp [Hid], Blk.new _ _ _, hM, fun i h1 h2 => by omega, (Below.refl _ _).alloc (Nat.le_refl _) _⟩
  case round =>
    obtain ⟨j, v, cs, rfl, rfl, hj, hvn, hv, hB, hsz, hcs, hbw⟩ := hrel
    by_cases hlt : j < m
    · have hc1 : ∃ u, wr.cell? ⟨w.heap.size, m - 1 - j, none⟩ = some u := ⟨_, by rw [hB.cell, Array.getElem?_eq_getElem (by omega)]⟩
      obtain ⟨u0, hc1⟩ := hc1
      have hc2 : wr.frozen? ⟨w.heap.size, m - 1 - j, none⟩ = false := hB.frozen _
      have hg : Hid ((wide m n)[m - 1 - j]? = some (UInt8.ofNat (n / 256 ^ j))) := by
        have := wide_get m n (m - 1 - j) (by omega)
        rw [show m - 1 - (m - 1 - j) = j from by omega] at this
        exact this
      have hv' : Hid (v / 256 = n / 256 ^ (j + 1)) := by
        show v / 256 = _
        rw [hv.out, Nat.div_div_eq_div_mul, Nat.pow_succ]
      go_wp2
      go_roundw
      case rel =>
        refine ⟨j + 1, v / 256, cs.setIfInBounds (m - 1 - j) (.int .u8 ((v : Int) % 256)), by go_num, by go_num, by omega, by omega, hv'.out, hB.set_ _ _, by rw [Array.size_setIfInBounds]; exact hsz, fun i h1 h2 => ?_, hbw.setCell (Nat.le_refl _) _⟩
        rw [Array.getElem?_setIfInBounds]
        by_cases hik : m - 1 - j = i
        · subst hik
          rw [if_pos rfl, if_pos (by omega), hg.out]
          simp only [Option.map_some, bv]
          rw [u8_ofNat, ← hv.out]
        · rw [if_neg hik]
          exact hcs.out i (by omega) h2
      case measure => simp [intOf]; omega
    · have hjj : j = m := by omega
      subst hjj
      clear hlt
      have hat : At wr (some ⟨w.heap.size, 0, none⟩) (wide j n).length (wide j n) := hB.at_ 0 (fun i hi => by rw [Nat.zero_add]; exact hcs.out i (by omega) (by rw [wide_len] at hi; exact hi))
      rw [wide_len] at hat
      have kc := hat.conv (P := Tryz.prog) j 164 5 9 Tryz.underlying164 Tryz.underlying5 Tryz.underlying9
      clear hat
      go_wp2
      go_ret
      exact ⟨rfl, hbw⟩

end Go.Proofs.YtgccichmdddbpaaGreatDoor
set_option linter.unusedVariables false
namespace Go.Proofs.YtgccichmdddbpaaGreatDoor
open Go.RowKit

theorem esc_step (s : ByteArray) (k : Nat) (h : k < s.size) : ∃ b : UInt8, s[k]'h = b ∧ esc ((ob s).take (k + 1)) = esc ((ob s).take k) ++ (if b = 0 then [0, 1] else [b]) := by
  have h' : k < (ob s).length := by rw [ob_len]; exact h
  refine ⟨_, rfl, ?_⟩
  rw [sb_get s k h, List.take_succ_eq_append_getElem h', esc_app]
  rfl

theorem Own.grew {w wr w2 : World} {B : Nat} {v : Value} {xs : List UInt8} (hown : Own wr B v xs) (hbw : Below B w wr) (hB : B ≤ wr.heap.size) {o : Obj} (hg : (wr.alloc o).grownBy w2 v.ownBlock) : Below B w w2 :=
  (hbw.alloc hB o).grown hg (by simp; omega) (fun q hq => (hown.lt q hq).1)

theorem u8_ne {b c : UInt8} (h : b ≠ c) : ((b.toNat : Int) == (c.toNat : Int)) = false := by
  apply beq_eq_false_iff_ne.2
  intro e
  exact h (UInt8.toNat_inj.1 (by omega))

set_option maxHeartbeats 2000000 in
theorem refKey (s : ByteArray) (w : World) (hs : s.size ≤ 1000) :
    Calls Tryz.prog 102 #[.string s] w fun e w' => e = .returned (.tuple #[.string ⟨(okey (ob s)).toArray⟩, .int .i64 0]) ∧ Below w.heap.size w w' := by
  go_enter Tryz.func102, Tryz.ntmps102
  go_wp2
  go_loopw [4, 5] (fun y x wr => ∃ k : Nat, x = .int .i64 k ∧ k ≤ s.size ∧ Own wr w.heap.size y (esc ((ob s).take k)) ∧ Below w.heap.size w wr) (fun _ x _ => s.size - (intOf x).toNat)
  case atStart => exact ⟨0, rfl, Nat.zero_le _, World.ownsRow_nil _ _ _ _, Below.refl _ _⟩
  case round =>
    obtain ⟨k, rfl, hk, hown, hbw⟩ := hrel
    have hsz := hbw.size
    obtain ⟨l, hl⟩ : ∃ l, l = esc ((ob s).take k) := ⟨_, rfl⟩
    have hll : l.length ≤ 2000 := by rw [hl]; have := esc_len ((ob s).take k); rw [List.length_take] at this; omega
    rw [← hl] at hown
    by_cases hlt : k < s.size
    · obtain ⟨b, hb, hE⟩ := esc_step s k hlt
      rw [← hl] at hE
      clear hl
      by_cases h0 : b = 0
      · subst h0
        rw [if_pos rfl] at hE
        have HE := Lib.hid hE
        clear hE
        go_wp2_with (at_builtin; refine wpList_app rfl _ _ 164 rfl w.heap.size 5 Tryz.underlying164 info5 _ l.length l [0] rfl (hown.alloc _).row_ _ 1 1 rfl (at_b _ (by simp)) ?hb ?hs ?_)
        case hb => omega
        case hs => simp; omega
        intro v1 w2 hown2 hg2 hat2
        have hb2 := hown.grew hbw hsz hg2
        have ho2 : Own w2 w.heap.size v1 (l ++ [0]) := Own.of_app (by simpa using hown2)
        have hsz2 := hb2.size
        clear hown2 hg2 hat2
        go_wp2_with (at_builtin; refine wpList_app rfl _ _ 164 rfl w.heap.size 5 Tryz.underlying164 info5 _ (l ++ [0]).length (l ++ [0]) [1] rfl (ho2.alloc _).row_ _ 1 1 rfl (at_b _ (by simp)) ?hb3 ?hs3 ?_)
        case hb3 => simp; omega
        case hs3 => simp; omega
        intro v3 w3 hown3 hg3 hat3
        have hb3 := ho2.grew hb2 hsz2 hg3
        have ho3 : Own w3 w.heap.size v3 (l ++ [0, 1]) := Own.of_app (by simpa using hown3)
        clear hown3 hg3 hat3
        go_wp2
        go_roundw
        case rel => exact ⟨k + 1, by go_num, by omega, by rw [HE.out]; exact ho3, hb3⟩
        case measure => simp [intOf]; omega
      · rw [if_neg h0] at hE
        have HE := Lib.hid hE
        have hne : ((b.toNat : Int) == 0) = false := u8_ne h0
        clear hE h0
        go_wp2_with (at_builtin; refine wpList_app rfl _ _ 164 rfl w.heap.size 5 Tryz.underlying164 info5 _ l.length l [b] rfl (hown.alloc _).row_ _ 1 1 rfl (at_b _ (by simp)) ?hb ?hs ?_)
        case hb => omega
        case hs => simp; omega
        intro v1 w2 hown2 hg2 hat2
        have hb2 := hown.grew hbw hsz hg2
        have ho2 : Own w2 w.heap.size v1 (l ++ [b]) := Own.of_app (by simpa using hown2)
        clear hown2 hg2 hat2
        go_wp2
        go_roundw
        case rel => exact ⟨k + 1, by go_num, by omega, by rw [HE.out]; exact ho2, hb2⟩
        case measure => simp [intOf]; omega
    · have hkk : k = s.size := by omega
      have HL : Hid (l = esc (ob s)) := by rw [hl, hkk, ← ob_len, List.take_length]; rfl
      clear hl hkk
      go_wp2_with (at_builtin; refine wpList_app rfl _ _ 164 rfl w.heap.size 5 Tryz.underlying164 info5 _ l.length l [0, 0] rfl (hown.alloc _).row_ _ 2 2 rfl (at_b2 _) ?hb ?hs ?_)
      case hb => omega
      case hs => simp; omega
      intro v1 w2 hown2 hg2 hat2
      have hb2 := hown.grew hbw hsz hg2
      obtain ⟨q, hq⟩ : ∃ q, q = l ++ [0, 0] := ⟨_, rfl⟩
      have ho2 : Own w2 w.heap.size v1 q := Own.of_app (by rw [hq]; simpa using hown2)
      have HQ : Hid (q = okey (ob s)) := by rw [hq, HL.out]; rfl
      clear hown2 hg2 hat2 hq
      obtain ⟨A, c, rfl, hat, _, _, _⟩ := ho2.form
      have kc := hat.conv (P := Tryz.prog) c 164 5 9 Tryz.underlying164 Tryz.underlying5 Tryz.underlying9
      go_wp2
      go_ret2
      exact ⟨by rw [HQ.out]; rfl, hb2⟩

theorem refKey_no (s : ByteArray) (w : World) (hs : 1000 < s.size) :
    Calls Tryz.prog 102 #[.string s] w fun e w' => e = .returned (.tuple #[.string ⟨#[]⟩, .int .i64 5]) ∧ w = w' := by
  go_enter Tryz.func102, Tryz.ntmps102
  go_wp2
  go_ret2
  exact ⟨rfl, rfl⟩

end Go.Proofs.YtgccichmdddbpaaGreatDoor
set_option linter.unusedVariables false
namespace Go.Proofs.YtgccichmdddbpaaGreatDoor
open Go.RowKit

def push (l : List UInt8) (r : Except Nat (List UInt8 × List UInt8)) : Except Nat (List UInt8 × List UInt8) := r.map fun p => (l ++ p.1, p.2)
theorem push_nil (r : Except Nat (List UInt8 × List UInt8)) : push [] r = r := by cases r <;> rfl
theorem push_one (l : List UInt8) (b : UInt8) (r : Except Nat (List UInt8 × List UInt8)) : push l (r.map fun p => (b :: p.1, p.2)) = push (l ++ [b]) r := by
  cases r with
  | error e => rfl
  | ok p => simp [push, Except.map]

/-- What TakeKey answers: the text, what is behind, the error. -/
def tkt (r : Except Nat (List UInt8 × List UInt8)) : ByteArray := match r with | .ok p => ⟨p.1.toArray⟩ | .error _ => ⟨#[]⟩
def tkr (r : Except Nat (List UInt8 × List UInt8)) : ByteArray := match r with | .ok p => ⟨p.2.toArray⟩ | .error _ => ⟨#[]⟩
def tke (r : Except Nat (List UInt8 × List UInt8)) : Int := match r with | .ok _ => 0 | .error e => e
def TkAns (r : Except Nat (List UInt8 × List UInt8)) : Ending := .returned (.tuple #[.string (tkt r), .string (tkr r), .int .i64 (tke r)])
theorem TkAns_err (n : Nat) : TkAns (.error n) = .returned (.tuple #[.string ⟨#[]⟩, .string ⟨#[]⟩, .int .i64 n]) := rfl
theorem TkAns_ok (s r : List UInt8) : TkAns (.ok (s, r)) = .returned (.tuple #[.string ⟨s.toArray⟩, .string ⟨r.toArray⟩, .int .i64 0]) := rfl

theorem TkAns_end (l : List UInt8) (s : ByteArray) (k : Nat) : TkAns (.ok (l, (ob s).drop k)) = .returned (.tuple #[.string ⟨l.toArray⟩, .string (s.extract k s.size), .int .i64 0]) := by
  rw [TkAns_ok, ← sb_end, mk_sb]

/-- The ways in which what is left may begin, at a place of a string. -/
theorem ways (s : ByteArray) (k : Nat) (hk : k ≤ s.size) :
    (k = s.size ∧ (ob s).drop k = []) ∨
    (∃ h : k < s.size, k + 1 = s.size ∧ s[k]'h = 0 ∧ (ob s).drop k = [0]) ∨
    (∃ (h : k < s.size) (h1 : k + 1 < s.size) (c : UInt8), s[k]'h = 0 ∧ s[k + 1]'h1 = c ∧ (ob s).drop k = 0 :: c :: (ob s).drop (k + 2)) ∨
    (∃ (h : k < s.size) (b : UInt8), b ≠ 0 ∧ s[k]'h = b ∧ (ob s).drop k = b :: (ob s).drop (k + 1)) := by
  rcases Nat.lt_or_ge k s.size with h | h
  · have h' : k < (ob s).length := by rw [ob_len]; exact h
    have e : (ob s).drop k = (ob s)[k] :: (ob s).drop (k + 1) := List.drop_eq_getElem_cons h'
    by_cases h0 : s[k] = 0
    · have h0' : (ob s)[k] = 0 := by rw [← sb_get s k h]; exact h0
      rcases Nat.lt_or_ge (k + 1) s.size with h1 | h1
      · have h1' : k + 1 < (ob s).length := by rw [ob_len]; exact h1
        refine .inr (.inr (.inl ⟨h, h1, _, h0, rfl, ?_⟩))
        rw [e, h0', List.drop_eq_getElem_cons h1', sb_get s (k + 1) h1]
      · refine .inr (.inl ⟨h, by omega, h0, ?_⟩)
        rw [e, h0', List.drop_of_length_le (by rw [ob_len]; omega)]
    · refine .inr (.inr (.inr ⟨h, s[k]'h, h0, rfl, ?_⟩))
      rw [e, sb_get s k h]
  · refine .inl ⟨by omega, List.drop_of_length_le (by rw [ob_len]; omega)⟩

theorem u8_eq0 {b : UInt8} (h : b ≠ 0) : ((b.toNat : Int) == 0) = false := u8_ne h
theorem u8_eq1 {b : UInt8} (h : b ≠ 1) : ((b.toNat : Int) == 1) = false := u8_ne h
theorem u8_ne0 {b : UInt8} (h : b ≠ 0) : ((b.toNat : Int) != 0) = true := by rw [bne, u8_eq0 h]; rfl
theorem u8_ne1 {b : UInt8} (h : b ≠ 1) : ((b.toNat : Int) != 1) = true := by rw [bne, u8_eq1 h]; rfl

theorem push_step (l : List UInt8) (b : UInt8) (r t : Except Nat (List UInt8 × List UInt8)) (n : Nat) (hn : l.length < 1000) (u : List UInt8)
    (h : t = push l (if 1000 - l.length = 0 then .error 5 else (tkey (1000 - l.length - 1) u).map fun p => (b :: p.1, p.2))) : t = push (l ++ [b]) (tkey (1000 - (l ++ [b]).length) u) := by
  rw [h, if_neg (by omega), push_one, List.length_append, List.length_singleton, Nat.sub_sub]

set_option maxHeartbeats 4000000 in
theorem refTake (s : ByteArray) (w : World) (hs : s.size ≤ 150000000000000) :
    Calls Tryz.prog 112 #[.string s] w fun e w' => e = TkAns (tkey 1000 (ob s)) ∧ Below w.heap.size w w' := by
  go_enter Tryz.func112, Tryz.ntmps112
  go_wp2
  go_loopw [5, 6] (fun y x wr => ∃ (k : Nat) (l : List UInt8), x = .int .i64 k ∧ k ≤ s.size ∧ l.length ≤ 1000 ∧ Own wr w.heap.size y l ∧ Hid (tkey 1000 (ob s) = push l (tkey (1000 - l.length) ((ob s).drop k))) ∧ Below w.heap.size w wr) (fun _ x _ => s.size - (intOf x).toNat)
  case atStart => exact ⟨0, [], rfl, Nat.zero_le _, Nat.zero_le _, World.ownsRow_nil _ _ _ _, by simp [Hid, push_nil], Below.refl _ _⟩
  case round =>
    obtain ⟨k, l, rfl, hk, hl, hown, hd, hbw⟩ := hrel
    have hsz := hbw.size
    obtain ⟨A, c, rfl, hat, _, _, _⟩ := hown.form
    rcases ways s k hk with ⟨h1, h2⟩ | ⟨h, h1, hb, h2⟩ | ⟨h, h1, d, hb, hd1, h2⟩ | ⟨h, b, h0, hb, h2⟩
    · have H : Hid (tkey 1000 (ob s) = .error 3) := by rw [hd.out, h2, tkey_nil]; rfl
      clear h2 hd hat
      go_wp2
      go_ret3
      exact ⟨by rw [H.out]; rfl, hbw⟩
    · have H : Hid (tkey 1000 (ob s) = .error 3) := by rw [hd.out, h2, tkey_zero]; rfl
      have h3 : ((k : Int) == (s.size : Int)) = false := by simp; omega
      have h4 : ((k : Int) + 1 == (s.size : Int)) = true := by simp; omega
      clear h2 hd h1 hat
      go_wp2
      go_ret3
      exact ⟨by rw [H.out]; rfl, hbw⟩
    · have h3 : ((k : Int) == (s.size : Int)) = false := by simp; omega
      have h4 : ((k : Int) + 1 == (s.size : Int)) = false := by simp; omega
      by_cases d0 : d = 0
      · subst d0
        have H : Hid (tkey 1000 (ob s) = .ok (l, (ob s).drop (k + 2))) := by rw [hd.out, h2, tkey_end]; simp [Hid, push, Except.map]
        have kc := hat.conv (P := Tryz.prog) c 164 5 9 Tryz.underlying164 Tryz.underlying5 Tryz.underlying9
        have kd : ∀ j, (convert 164 9 (.slice A l.length c)).run Tryz.prog (wr.drewN j) = .ok (.string ⟨l.toArray⟩) (wr.drewN j) := fun j =>
          (hat.drewN j).conv (P := Tryz.prog) c 164 5 9 Tryz.underlying164 Tryz.underlying5 Tryz.underlying9
        have h5 : (k : Int) + 2 ≤ (s.size : Int) := by omega
        clear h2 hd hat
        go_wp2_with fail
        go_quiet (fail)
        go_wp2
        go_ret3
        exact ⟨by rw [H.out, TkAns_end]; rfl, below_drewN hbw _⟩
      · by_cases d1 : d = 1
        · subst d1
          rw [h2, tkey_esc] at hd
          by_cases hn : l.length = 1000
          · have H : Hid (tkey 1000 (ob s) = .error 5) := by rw [hd.out, hn]; rfl
            have h5 : ((l.length : Int) == 1000) = true := by simp; omega
            clear h2 hd hat
            go_wp2
            go_ret3
            exact ⟨by rw [H.out]; rfl, hbw⟩
          · have H := Lib.hid (push_step l 0 (.error 0) _ 0 (by omega) _ hd.out)
            have h5 : ((l.length : Int) == 1000) = false := by simp; omega
            have hl1 : l.length + 1 ≤ 1000 := by omega
            clear h2 hd hat hn
            go_wp2_with (at_builtin; refine wpList_app rfl _ _ 164 rfl w.heap.size 5 Tryz.underlying164 info5 _ l.length l [0] rfl (hown.alloc _).row_ _ 1 1 rfl (at_b _ (by simp)) ?hb ?hs ?_)
            case hb => omega
            case hs => simp; omega
            intro v1 w2 hown2 hg2 hat2
            have hb2 := hown.grew hbw hsz hg2
            have ho2 : Own w2 w.heap.size v1 (l ++ [0]) := Own.of_app (by simpa using hown2)
            clear hown2 hg2 hat2
            go_wp2
            go_roundw
            case rel => exact ⟨k + 2, l ++ [0], by go_num, by omega, by simpa using hl1, ho2, H.out, hb2⟩
            case measure => simp [intOf]; omega
        · have H : Hid (tkey 1000 (ob s) = .error 4) := by rw [hd.out, h2, tkey_bad _ d0 d1]; rfl
          have h5 := u8_eq0 d0
          have h6 := u8_ne1 d1
          clear h2 hd hat d0 d1
          go_wp2
          go_ret3
          exact ⟨by rw [H.out]; rfl, hbw⟩
    · have h3 : ((k : Int) == (s.size : Int)) = false := by simp; omega
      have h6 := u8_eq0 h0
      rw [h2, tkey_byte _ h0] at hd
      by_cases hn : l.length = 1000
      · have H : Hid (tkey 1000 (ob s) = .error 5) := by rw [hd.out, hn]; rfl
        have h5 : ((l.length : Int) == 1000) = true := by simp; omega
        clear h2 hd hat
        go_wp2
        go_ret3
        exact ⟨by rw [H.out]; rfl, hbw⟩
      · have H := Lib.hid (push_step l b (.error 0) _ 0 (by omega) _ hd.out)
        have h5 : ((l.length : Int) == 1000) = false := by simp; omega
        have hl1 : l.length + 1 ≤ 1000 := by omega
        clear h2 hd hat hn
        go_wp2_with (at_builtin; refine wpList_app rfl _ _ 164 rfl w.heap.size 5 Tryz.underlying164 info5 _ l.length l [b] rfl (hown.alloc _).row_ _ 1 1 rfl (at_b _ (by simp)) ?hb ?hs ?_)
        case hb => omega
        case hs => simp; omega
        intro v1 w2 hown2 hg2 hat2
        have hb2 := hown.grew hbw hsz hg2
        have ho2 : Own w2 w.heap.size v1 (l ++ [b]) := Own.of_app (by simpa using hown2)
        clear hown2 hg2 hat2
        go_wp2
        go_roundw
        case rel => exact ⟨k + 1, l ++ [b], by go_num, by omega, by simpa using hl1, ho2, H.out, hb2⟩
        case measure => simp [intOf]; omega

end Go.Proofs.YtgccichmdddbpaaGreatDoor
