/-
  quill.numBytes, quill.Num.
-/
import Derived.Test.YthbegaknlhclpaaJoin
import Derived.Test.YthbegaknlhclpaaMath
import Derived.Test.YthbegaknlhclpaaBlk
set_option linter.unusedVariables false
namespace Go.Proofs.Ythbegaknlhclpaa
open Go.RowKit

theorem slice7 (a : Addr) (f : Nat) (hf : f ≤ 7) (w : World) : (Instr.sliceAt 56 (.pointer (some a)) (some (.int .i64 (f : Int))) none none).run Try.prog w = .ok (.slice (some (if 7 = f then a else a.add f)) (7 - f) (7 - f)) w := by
  have hl : Try.prog.arrayLen 56 = 7 := by kernel_rfl
  have he : Try.prog.elem 56 = 5 := by kernel_rfl
  have hs : ∀ w, (sizeOf 5).run Try.prog w = .ok 1 w := fun w => by kernel_rfl
  rw [run_sliceAt_array_l w 56 a (by rw [hl, he]; kernel_rfl) .i64 f (by omega) (by rw [hl]; omega), he, hs]
  simp [hl, slicedAt, Result.andThen]

set_option maxHeartbeats 1000000 in
theorem numBytes (n : Nat) (w : World) (hn : n ≤ 9007199254740991) :
    Calls Try.prog 36 #[.int .i64 n] w fun e w' => ∃ v, e = .returned v ∧ Own w' w.heap.size v (enc n) ∧ Below w.heap.size w w' := by
  have hlen := digs_len7 n hn
  go_enter Try.func36, Try.ntmps36
  go_wp2
  go_loopw [0, 4] (fun x y wr => ∃ (m f : Nat) (l : List UInt8) (cs : Array Value), x = .int .i64 m ∧ y = .int .i64 f ∧ m ≤ n ∧ f + l.length = 7 ∧ Hid (digs m ++ l = digs n) ∧ Blk wr w.heap.size 56 cs ∧ cs.size = 7 ∧
     Hid (∀ i, (h : i < l.length) → cs[f + i]? = some (bv l[i])) ∧ Below w.heap.size w wr) (fun x _ _ => (intOf x).toNat)
  case atStart =>
    exact ⟨n, 7, [], _, rfl, rfl, Nat.le_refl _, rfl, by simp [Hid], Blk.new _ _ _, rfl, fun i h => absurd h (by simp), (Below.refl _ _).alloc (Nat.le_refl _) _⟩
  case round =>
    obtain ⟨m, f, l, cs, rfl, rfl, hmn, hfl, hd, hblk, hcs, hcl, hbw⟩ := hrel
    by_cases hm : 0 < m
    · have hf : 1 ≤ f := by
        have h1 := congrArg List.length hd.out
        rw [List.length_append] at h1
        have h2 : digs m ≠ [] := fun h => by have := (digs_nil_iff m).1 h; omega
        have h3 : 0 < (digs m).length := List.length_pos_iff.2 h2
        omega
      have hf7 : f ≤ 7 := by omega
      have hc1 : wr.cell? ⟨w.heap.size, f - 1, none⟩ = some (cs[f - 1]'(by omega)) := by rw [hblk.cell, Array.getElem?_eq_getElem]
      have hc2 : wr.frozen? ⟨w.heap.size, f - 1, none⟩ = false := hblk.frozen _
      obtain ⟨u0, hu0⟩ : ∃ u, u = (cs[f - 1]'(by omega)) := ⟨_, rfl⟩
      rw [← hu0] at hc1
      have hcs' := Lib.hid hcs
      clear hcs hu0
      go_wp2
      go_roundw
      case rel =>
        refine ⟨m / 256, f - 1, UInt8.ofNat m :: l, cs.setIfInBounds (f - 1) (.int .u8 ((m : Int) % 256)), rfl, by go_num, by omega, by simp; omega, ?_, hblk.set_ _ _, by rw [Array.size_setIfInBounds]; exact hcs'.out, ?_, hbw.setCell (Nat.le_refl _) _⟩
        · have h1 := hd.out
          rw [digs_pos m hm] at h1
          show digs (m / 256) ++ UInt8.ofNat m :: l = digs n
          rw [← h1]
          simp
        · intro i h
          have hsz := hcs'.out
          rw [Array.getElem?_setIfInBounds]
          match i, h with
          | 0, h => simp [hsz, bv]; omega
          | i + 1, h =>
            rw [if_neg (by omega), show f - 1 + (i + 1) = f + i from by omega, hcl.out i (by simpa using h)]
            simp
      case measure => simp [intOf]; omega
    · have : m = 0 := by omega
      subst this
      have hsl0 := fun w' => slice7 ⟨w.heap.size, 0, none⟩ f (by omega) w'
      obtain ⟨ad, had⟩ : ∃ ad : Addr, ad = (if 7 = f then (⟨w.heap.size, 0, none⟩ : Addr) else (⟨w.heap.size, 0, none⟩ : Addr).add f) := ⟨_, rfl⟩
      rw [← had] at hsl0
      have hat : At wr (some ad) (7 - f) l := by
        refine ⟨by omega, fun h0 => ⟨w.heap.size, f, ?_, fun i hi => ?_⟩⟩
        · rw [had, if_neg (by omega)]
          rw [Go.WideShapes.add_plain]
          simp
        · rw [hblk.cell, hcl.out i hi]
          rfl
      have hld : l = digs n := by
        have h1 := hd.out
        rw [digs_zero] at h1
        exact h1
      have hlen' : l.length = 7 - f := by omega
      have HLD := Lib.hid hld
      have HLE := Lib.hid hlen'
      clear had hcl hcs hblk hd hld hlen' hm hmn
      go_wp2_with fail
      refine (join _ 2 2 [[UInt8.ofNat (7 - f)], l] _ ?hl (by omega) ?hb).mono ?_
      case hl =>
        have := lists_two (w := wr.alloc (.cells #[.int .u8 (7 - (f : Int))] 5)) (c := 1) (c' := 7 - f) 22 (at_one (w := wr) (x := 7 - (f : Int)) (b := UInt8.ofNat (7 - f)) 5 (by rw [u8_ofNat]; omega)) (hat.alloc (.cells #[.int .u8 (7 - (f : Int))] 5))
        simpa using this
      case hb => simp; omega
      rintro e w1 ⟨v, rfl, hown, hb1⟩
      have hsz := hbw.size
      have hbel : Below w.heap.size w w1 := ((hbw.alloc hsz _).alloc (by simp; omega) _).trans (hb1.mono (by simp; omega))
      have hown' : Own w1 w.heap.size v (enc n) := by
        have he : [[UInt8.ofNat (7 - f)], l].flatten = enc n := by
          simp [enc, ← HLD.out, HLE.out]
        rw [he] at hown
        exact hown.base (by simp; omega)
      clear hown hb1 hat
      go_wp2
      go_ret
      exact ⟨v, rfl, hown', hbel⟩

set_option maxHeartbeats 400000 in
theorem num (n : Nat) (w : World) (hn : n ≤ 9007199254740991) :
    Calls Try.prog 25 #[.int .i64 n] w fun e w' => ∃ v, e = .returned (.tuple #[v, .int .i64 0]) ∧ Own w' w.heap.size v (enc n) ∧ Below w.heap.size w w' := by
  have h1 : (0 : Int) ≤ (n : Int) := by omega
  have h2 : (n : Int) ≤ 9007199254740991 := by omega
  go_enter Try.func25, Try.ntmps25
  go_wp2_with fail
  refine (numBytes n _ hn).mono ?_
  rintro e w1 ⟨v, rfl, hown, hb1⟩
  go_wp2
  go_ret2
  exact ⟨v, rfl, hown, hb1⟩

set_option maxHeartbeats 400000 in
theorem num_no (n : Int) (w : World) (hn : n < 0 ∨ 9007199254740991 < n) :
    Calls Try.prog 25 #[.int .i64 n] w fun e w' => e = .returned (.tuple #[.slice none 0 0, .int .i64 2]) ∧ w = w' := by
  by_cases h : n < 0
  · clear hn
    go_enter Try.func25, Try.ntmps25
    go_wp2
    go_ret2
    exact ⟨rfl, rfl⟩
  · have h2 : 9007199254740991 < n := by omega
    clear hn
    go_enter Try.func25, Try.ntmps25
    go_wp2
    go_ret2
    exact ⟨rfl, rfl⟩
end Go.Proofs.Ythbegaknlhclpaa
