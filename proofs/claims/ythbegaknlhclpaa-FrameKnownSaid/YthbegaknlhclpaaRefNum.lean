/-
  The document's answers: Num.
-/
import Derived.Test.YthbegaknlhclpaaMath
import Derived.Test.YthbegaknlhclpaaRef
set_option linter.unusedVariables false
namespace Go.Proofs.Ythbegaknlhclpaa
open Go.RowKit

set_option maxHeartbeats 1000000 in
theorem refNum (n : Nat) (w : World) (hn : n ≤ 9007199254740991) :
    Calls Try.prog 28 #[.int .i64 n] w fun e w' => ∃ v, e = .returned (.tuple #[v, .int .i64 0]) ∧ Own w' w.heap.size v (enc n) ∧ Below w.heap.size w w' := by
  have hlen := digs_len7 n hn
  have h1 : (0 : Int) ≤ (n : Int) := by omega
  have h2 : (n : Int) ≤ 9007199254740991 := by omega
  go_enter Try.func28, Try.ntmps28
  go_wp2
  go_loopw [0, 4] (fun x y wr => ∃ (m : Nat) (l : List UInt8), x = .int .i64 m ∧ Own wr w.heap.size y l ∧ m ≤ n ∧ Hid (digs m ++ l = digs n) ∧ Below w.heap.size w wr) (fun x _ _ => (intOf x).toNat)
  case atStart => exact ⟨n, [], rfl, World.ownsRow_nil _ _ _ _, Nat.le_refl _, by simp [Hid], Below.refl _ _⟩
  case round =>
    obtain ⟨m, l, rfl, hown, hmn, hd, hbw⟩ := hrel
    have hl7 : l.length ≤ 7 := by
      have := congrArg List.length hd.out
      rw [List.length_append] at this
      omega
    obtain ⟨A, c, rfl, hat, _, _, _⟩ := hown.form
    have hsz := hbw.size
    by_cases hm : 0 < m
    · have hon := own_one (w := wr) (B := w.heap.size) (x := (m : Int) % 256) (b := UInt8.ofNat m) hsz (by rw [UInt8.toNat_ofNat']; omega)
      have ham := fun o => hat.alloc (w := wr) o
      have HD : Hid (digs (m / 256) ++ (UInt8.ofNat m :: l) = digs n) := by
        show _ = _
        rw [← hd.out, digs_pos m hm]
        simp
      obtain ⟨k, hk⟩ : ∃ k, k = l.length := ⟨_, rfl⟩
      rw [← hk] at hat ham hl7 ⊢
      have HK := Lib.hid hk
      clear hat hown hk
      go_wp2_with (at_builtin; refine wpList_app rfl _ _ 22 rfl w.heap.size 5 Try.underlying22 info5 _ 1 [UInt8.ofNat m] l rfl hon A k c rfl (ham _) ?hb ?hs ?_)
      case hb => omega
      case hs => simp; omega
      intro v1 w2 hown2 hg2 hat2
      have hb2 : Below w.heap.size w w2 := (hbw.alloc hsz _).grown hg2 (by simp; omega) (fun q hq => by simp [Value.ownBlock] at hq; omega)
      have hov : Own w2 w.heap.size v1 (UInt8.ofNat m :: l) := by
        unfold Own
        simp only [List.length_cons, ← HK.out]
        rw [Nat.add_comm]
        exact hown2
      clear hown2 hg2 hat2 hon ham
      go_wp2
      go_roundw
      case rel => exact ⟨m / 256, _, rfl, hov, by omega, HD, hb2⟩
      case measure => simp [intOf]; omega
    · obtain rfl : m = 0 := by omega
      have hld : l = digs n := by
        have := hd.out
        rw [digs_zero] at this
        exact this
      obtain ⟨k, hk⟩ : ∃ k, k = l.length := ⟨_, rfl⟩
      rw [← hk] at hat hl7 ⊢
      have hon := own_one (w := wr) (B := w.heap.size) (x := (k : Int)) (b := UInt8.ofNat k) hsz (by rw [UInt8.toNat_ofNat']; omega)
      have ham := fun o => hat.alloc (w := wr) o
      have HK := Lib.hid hk
      have HLD := Lib.hid hld
      clear hat hown hk hld
      go_wp2_with (at_builtin; refine wpList_app rfl _ _ 22 rfl w.heap.size 5 Try.underlying22 info5 _ 1 [UInt8.ofNat k] l rfl hon A k c rfl (ham _) ?hb1 ?hs1 ?_)
      case hb1 => omega
      case hs1 => simp; omega
      intro v1 w2 hown2 hg2 hat2
      have hb2 : Below w.heap.size w w2 := (hbw.alloc hsz _).grown hg2 (by simp; omega) (fun q hq => by simp [Value.ownBlock] at hq; omega)
      have hov : Own w2 w.heap.size v1 (enc n) := by
        unfold Own enc
        rw [← HLD.out, ← HK.out]
        simp only [List.length_cons, ← HK.out]
        rw [Nat.add_comm]
        exact hown2
      clear hown2 hg2 hat2 hon ham
      go_wp2
      go_ret2
      exact ⟨v1, rfl, hov, hb2⟩

set_option maxHeartbeats 400000 in
theorem refNum_no (n : Int) (w : World) (hn : n < 0 ∨ 9007199254740991 < n) :
    Calls Try.prog 28 #[.int .i64 n] w fun e w' => e = .returned (.tuple #[.slice none 0 0, .int .i64 2]) ∧ w = w' := by
  by_cases h : n < 0
  · clear hn
    go_enter Try.func28, Try.ntmps28
    go_wp2
    go_ret2
    exact ⟨rfl, rfl⟩
  · have h2 : 9007199254740991 < n := by omega
    clear hn
    go_enter Try.func28, Try.ntmps28
    go_wp2
    go_ret2
    exact ⟨rfl, rfl⟩

end Go.Proofs.Ythbegaknlhclpaa
