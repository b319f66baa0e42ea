/-
  Layer 3: the document's answer: take, Add, Of.
-/
import Derived.Test.YthbegaknlhclpaaBase
import Derived.Test.YthbegaknlhclpaaCNum
set_option linter.unusedVariables false
namespace Go.Proofs.Ythbegaknlhclpaa
open Go.RowKit

set_option maxHeartbeats 400000 in
theorem refTake (s : BitVec 32) (c : UInt8) (w : World) :
    Calls Try.prog 42 #[.int .u32 (N s), .int .u8 (c.toNat : Int)] w fun e w' => e = .returned (.int .u32 (N (takeB s c))) ∧ w = w' := by
  have hN := N_take s c
  have hB := N_bounds s
  have hc := c.toNat_lt
  go_enter Try.func42, Try.ntmps42
  go_wp2
  go_loopw [0, 5] (fun u i wr => ∃ k : Nat, k ≤ 8 ∧ i = .int .i64 k ∧ (∃ x, x = stps k (s ^^^ wb c) ∧ u = .int .u32 (N x)) ∧ wr = w) (fun _ i _ => 8 - (intOf i).toNat)
  case atStart => exact ⟨0, by omega, rfl, ⟨_, rfl, rfl⟩, rfl⟩
  case round =>
    obtain ⟨k, hk, rfl, ⟨x, hx, rfl⟩, rfl⟩ := hrel
    have hb := N_bounds x
    by_cases hlt : k < 8
    · have hx' := Lib.hid hx
      clear hx
      by_cases ht : 2147483648 ≤ N x
      · have hs := N_stp1 ht
        go_wp2
        go_roundw
        case rel => exact ⟨k + 1, by omega, by go_num, ⟨stp x, by rw [hx'.out, stps_succ], by rw [hs]⟩, trivial⟩
        case measure => simp [intOf]; omega
      · have hs := N_stp0 ht
        go_wp2
        go_roundw
        case rel => exact ⟨k + 1, by omega, by go_num, ⟨stp x, by rw [hx'.out, stps_succ], by rw [hs]⟩, trivial⟩
        case measure => simp [intOf]; omega
    · obtain rfl : k = 8 := by omega
      have hx' := Lib.hid hx
      clear hx
      go_wp2
      go_ret
      exact ⟨by rw [hx'.out]; rfl, rfl⟩

theorem fold_succ (S : BitVec 32) (xs : List UInt8) (k : Nat) (h : k < xs.length) : (xs.take (k + 1)).foldl takeB S = takeB ((xs.take k).foldl takeB S) xs[k] := by
  rw [List.take_succ_eq_append_getElem h, List.foldl_append]
  rfl

set_option maxHeartbeats 400000 in
theorem refAdd (s : BitVec 32) (A : Option Addr) (n c : Nat) (xs : List UInt8) (w : World) (hx : At w A n xs) (hn : n ≤ 9223372036854775807) :
    Calls Try.prog 40 #[.int .u32 (N s), .slice A n c] w fun e w' => e = .returned (.int .u32 (N (crcAdd s xs))) ∧ w = w' := by
  have hN := N_not s
  have hB := N_bounds s
  go_enter Try.func40, Try.ntmps40
  go_wp2
  go_loopw [0, 5] (fun u i wr => ∃ k : Nat, k ≤ n ∧ i = .int .i64 k ∧ (∃ x, x = (xs.take k).foldl takeB (~~~ s) ∧ u = .int .u32 (N x)) ∧ wr = w) (fun _ i _ => n - (intOf i).toNat)
  case atStart => exact ⟨0, by omega, rfl, ⟨_, rfl, rfl⟩, rfl⟩
  case round =>
    obtain ⟨k, hk, rfl, ⟨x, hx0, rfl⟩, rfl⟩ := hrel
    by_cases hlt : k < n
    · obtain ⟨b, o, rfl, hc⟩ := hx.at_ (by omega)
      have hxk : k < xs.length := by rw [hx.1]; exact hlt
      have h1 := hc k hxk
      have hs := fold_succ (~~~ s) xs k hxk
      rw [← hx0] at hs
      generalize xs[k] = y at h1 hs
      have hx' := Lib.hid hs
      clear hx0 hc hs
      go_wp2_with fail
      refine (refTake x y _).mono ?_
      rintro e w1 ⟨rfl, rfl⟩
      go_wp2
      go_roundw
      case rel => exact ⟨k + 1, by omega, by go_num, ⟨_, hx'.out.symm, rfl⟩, trivial⟩
      case measure => simp [intOf]; omega
    · have hx' : crcAdd s xs = ~~~ x := by
        unfold crcAdd
        rw [hx0, List.take_of_length_le (by have := hx.1; omega)]
      have H := (N_not x).trans (congrArg N hx'.symm)
      have hge : n ≤ k := by omega
      have hb := N_bounds x
      clear hx0 hx' hlt
      go_wp2
      go_ret
      exact ⟨rfl, rfl⟩

theorem refOf (A : Option Addr) (n c : Nat) (xs : List UInt8) (w : World) (hx : At w A n xs) (hn : n ≤ 9223372036854775807) :
    Calls Try.prog 37 #[.slice A n c] w fun e w' => e = .returned (.int .u32 (N (crcOf xs))) ∧ w = w' := by
  go_enter Try.func37, Try.ntmps37
  go_wp2_with fail
  refine (refAdd 0#32 A n c xs _ hx hn).mono ?_
  rintro e w1 ⟨rfl, rfl⟩
  go_wp2
  go_ret
  exact ⟨rfl, rfl⟩
end Go.Proofs.Ythbegaknlhclpaa
