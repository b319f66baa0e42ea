/-
  Layer 10, the code: on how many steps a new key comes to stand.
-/
import Derived.Test.YtgccichmdddbpaaGreatDoorPL07
import Derived.Lib.Walk
import Derived.Lib.BitFns
import Derived.BigQuiet
set_option linter.unusedVariables false
namespace Go.Proofs.YtgccichmdddbpaaGreatDoor
open Go.RowKit

theorem len8_pos : ∀ n : Fin 256, 0 < n.val → 1 ≤ Lib.bitLen n.val := by decide +kernel
theorem len8_lo (b : Int) (h0 : 1 ≤ b) (h1 : b ≤ 255) : 1 ≤ Lib.len8 b ∧ Lib.len8 b ≤ 8 := by
  rw [Lib.len8_of b (by omega) h1]
  have h2 := Lib.bitLen_le8' b (by omega) h1
  have h3 := len8_pos ⟨b.toNat, by omega⟩ (by show 0 < b.toNat; omega)
  simp only at h3
  exact ⟨by omega, by omega⟩
set_option maxRecDepth 100000 in
theorem tab8_size : (Lib.len8tab.size : Int) = 256 := by
  have : Lib.len8tab.size = 256 := by decide
  omega
theorem tab8_lo (y : Int) (h : y.toNat < Lib.len8tab.size) (h0 : 1 ≤ y) : 1 ≤ ((Lib.len8tab[y.toNat]'h).toNat : Int) ∧ ((Lib.len8tab[y.toNat]'h).toNat : Int) ≤ 8 := by
  have hs := tab8_size
  have := len8_lo y h0 (by omega)
  unfold Lib.len8 at this
  rw [getElem?_pos Lib.len8tab y.toNat h] at this
  exact this
theorem wrap8 (k a : Int) (hk : 48 ≤ k ∧ k ≤ 56) (ha : 1 ≤ a ∧ a ≤ 8) : 49 ≤ wrap64 (k + wrap64 a) ∧ wrap64 (k + wrap64 a) ≤ 64 := by
  unfold wrap64
  omega
set_option maxHeartbeats 4000000 in
set_option maxRecDepth 100000 in
theorem tb_len64 (x : Int) (w : World) (h0 : 281474976710656 ≤ x) (h1 : x ≤ 18446744073709551615) :
    Calls Tryz.prog 177 #[.int .u64 x] w fun e w' => ∃ n : Int, e = .returned (.int .i64 n) ∧ (49 ≤ n ∧ n ≤ 64) ∧ w' = w := by
  have hs := tab8_size
  by_cases h2 : 72057594037927936 ≤ x
  · go_enter Tryz.func177, Tryz.ntmps177
    go_wp2
    all_goals first
      | (go_ret; exact ⟨_, rfl, wrap8 56 _ (by omega) (tab8_lo _ _ (by omega)), rfl⟩)
      | (exfalso; omega)
  · go_enter Tryz.func177, Tryz.ntmps177
    go_wp2
    all_goals first
      | (go_ret; exact ⟨_, rfl, wrap8 48 _ (by omega) (tab8_lo _ _ (by omega)), rfl⟩)
      | (exfalso; omega)
theorem or_top (x : Int) : 281474976710656 ≤ Go.bits .or .u64 x 281474976710656 ∧ Go.bits .or .u64 x 281474976710656 ≤ 18446744073709551615 := by
  have e : Go.bits .or .u64 x 281474976710656 = IntKind.u64.wrap (((BitVec.ofInt 64 x ||| BitVec.ofInt 64 281474976710656).toNat : Nat) : Int) := rfl
  have h1 : (BitVec.ofInt 64 x ||| BitVec.ofInt 64 281474976710656).toNat < 18446744073709551616 := (BitVec.ofInt 64 x ||| BitVec.ofInt 64 281474976710656).isLt
  have h2 : 281474976710656 ≤ (BitVec.ofInt 64 x ||| BitVec.ofInt 64 281474976710656).toNat := by
    rw [BitVec.toNat_or]
    exact Nat.right_le_or
  generalize (BitVec.ofInt 64 x ||| BitVec.ofInt 64 281474976710656).toNat = n at *
  have e2 : IntKind.u64.wrap (n : Int) = n := by
    simp [IntKind.wrap, IntKind.signed, IntKind.bits]
    omega
  rw [e, e2]
  omega
set_option maxRecDepth 100000 in
theorem tb_lead (x : Int) (w : World) (h0 : 281474976710656 ≤ x) (h1 : x ≤ 18446744073709551615) :
    Calls Tryz.prog 133 #[.int .u64 x] w fun e w' => ∃ n : Int, e = .returned (.int .i64 n) ∧ (0 ≤ n ∧ n ≤ 15) ∧ w' = w := by
  have LE := Lib.hid (tb_len64 x w h0 h1)
  clear h0 h1
  go_enter Tryz.func133, Tryz.ntmps133
  go_wp2_with (first | (go_at_call 177; refine LE.out.mono ?_; rintro e w2 ⟨n, rfl, hn, hw⟩; obtain rfl : w = w2 := hw.symm))
  go_ret
  exact ⟨64 - n, rfl, by omega, rfl⟩
set_option maxRecDepth 100000 in
theorem tb_draw (s : Nat) (m : Int) (w : World) (hb : Blk w s 196 #[.int .u64 m]) :
    Calls Tryz.prog 132 #[pt s] w fun e w' => ∃ n m' : Int, e = .returned (.int .i64 n) ∧ (1 ≤ n ∧ n ≤ 16) ∧ w' = w.setCell ⟨s, 0, none⟩ (.int .u64 m') := by
  have c0 : w.cell? ⟨s, 0, none⟩ = some (.int .u64 m) := hb.cell 0
  have f0 := hb.frozen 0
  obtain ⟨o1, o2⟩ := or_top (IntKind.u64.wrap (IntKind.u64.wrap (m * 6364136223846793005) + 1442695040888963407))
  have LE := Lib.hid (fun V => tb_lead _ V o1 o2)
  clear hb o1 o2
  go_enter Tryz.func132, Tryz.ntmps132
  go_wp2_with (first | (go_at_call 133; refine (LE.out _).mono ?_; rintro e w2 ⟨n, rfl, hn, hw⟩; cases hw))
  go_ret
  exact ⟨1 + n, _, rfl, by omega, rfl⟩
end Go.Proofs.YtgccichmdddbpaaGreatDoor
