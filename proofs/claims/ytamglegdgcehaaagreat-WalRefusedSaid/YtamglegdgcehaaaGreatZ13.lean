/-
  Layer 3, plain: numbers of 32 bits as the walk spells them, and as bit vectors: no program.
-/
import Derived.Test.YtamglegdgcehaaaGreatZ04
import Derived.Laws.BitsAllLaws
import Derived.Laws.ShiftsVarLaws
set_option linter.unusedVariables false
namespace Go.Proofs.YtamglegdgcehaaaGreat

/-- A sum's number. -/
def N (s : BitVec 32) : Int := (s.toNat : Int)
theorem N_bounds (s : BitVec 32) : 0 ≤ N s ∧ N s < 4294967296 := by
  have := s.isLt
  unfold N
  omega
theorem N_inj {s t : BitVec 32} (h : N s = N t) : s = t := by
  apply BitVec.eq_of_toNat_eq
  unfold N at h
  omega
theorem N_surj {a : Int} (h0 : 0 ≤ a) (h1 : a < 4294967296) : ∃ s, a = N s := by
  refine ⟨BitVec.ofNat 32 a.toNat, ?_⟩
  unfold N
  rw [BitVec.toNat_ofNat, Nat.mod_eq_of_lt (by omega)]
  omega
theorem N_beq (s t : BitVec 32) : (N s == N t) = (s == t) := by
  by_cases h : s = t
  · subst h
    rw [beq_self_eq_true, beq_self_eq_true]
  · rw [beq_eq_false_iff_ne.2 h, beq_eq_false_iff_ne.2 (fun e => h (N_inj e))]

theorem N_xor (s t : BitVec 32) : Go.bits .xor .u32 (N s) (N t) = N (s ^^^ t) := by
  unfold N
  rw [u32_xor_nat _ _ s.isLt t.isLt, BitVec.toNat_xor]
theorem N_poly : N poly = 79764919 := by decide
theorem N_zero : N 0#32 = 0 := by decide
theorem N_xor_poly (s : BitVec 32) : Go.bits .xor .u32 (N s) 79764919 = N (s ^^^ poly) := by rw [← N_poly, N_xor]
theorem N_shl (s : BitVec 32) : N s * (2 : Int) % (4294967296 : Int) = N (s <<< (1 : Nat)) := by
  unfold N
  rw [BitVec.toNat_shiftLeft, Nat.shiftLeft_eq]
  omega
theorem N_msb (s : BitVec 32) : s.msb = decide (2147483648 ≤ N s) := by
  unfold N
  rw [BitVec.msb_eq_decide]
  apply decide_eq_decide.2
  omega
theorem N_top (s : BitVec 32) : N s / 2147483648 = if s.msb then 1 else 0 := by
  have := N_bounds s
  rw [N_msb]
  by_cases h : 2147483648 ≤ N s
  · rw [decide_eq_true h, if_pos rfl]; omega
  · rw [decide_eq_false h, if_neg (by decide)]; omega
theorem N_and_top (s : BitVec 32) : Go.bits .and .u32 (N s) 2147483648 = if s.msb then 2147483648 else 0 := by
  have h : Go.bits .and .u32 (N s) (2147483648 : Int) = ((s.toNat &&& 2147483648 : Nat) : Int) := u32_and_nat s.toNat 2147483648 s.isLt (by decide)
  have e := and_bit_var 32 s.toNat 31 (by decide)
  have e2 : ((2 : Int) ^ min (31 : Int).toNat 32 % 2 ^ 32).toNat = 2147483648 := by decide +kernel
  have e3 : (31 : Int).toNat = 31 := rfl
  have e4 : (2 : Nat) ^ 31 = 2147483648 := rfl
  rw [e2, if_neg (by decide), e3, e4] at e
  have hs := s.isLt
  have hm := N_msb s
  unfold N at hm
  rw [h, e, hm]
  by_cases h2 : (2147483648 : Int) ≤ (s.toNat : Int)
  · rw [decide_eq_true h2, if_pos rfl]; omega
  · rw [decide_eq_false h2, if_neg (by decide)]; omega
theorem N_not (s : BitVec 32) : Go.bits .xor .u32 IntKind.u32.max (N s) = N (~~~ s) := by
  have e : IntKind.u32.max = N (BitVec.allOnes 32) := by decide
  rw [e, N_xor, BitVec.allOnes_xor]
theorem N_wb (c : UInt8) : (c.toNat : Int) * 16777216 = N (wb c) := by
  have := c.toNat_lt
  unfold N wb
  rw [BitVec.toNat_shiftLeft, Nat.shiftLeft_eq, BitVec.toNat_ofNat]
  omega
theorem N_stp (s : BitVec 32) : N (stp s) = if s.msb then Go.bits .xor .u32 (N s * 2 % 4294967296) 79764919 else N s * 2 % 4294967296 := by
  rw [N_shl, N_xor_poly]
  unfold stp
  cases s.msb <;> rfl
theorem N_take (s : BitVec 32) (c : UInt8) : Go.bits .xor .u32 (N s) ((c.toNat : Int) * 16777216) = N (s ^^^ wb c) := by rw [N_wb, N_xor]
theorem N_stp1 {s : BitVec 32} (h : 2147483648 ≤ N s) : N (stp s) = Go.bits .xor .u32 (N s * 2 % 4294967296) 79764919 := by
  rw [N_stp, N_msb, decide_eq_true h, if_pos rfl]
theorem N_stp0 {s : BitVec 32} (h : ¬ 2147483648 ≤ N s) : N (stp s) = N s * 2 := by
  rw [N_stp, N_msb, decide_eq_false h, if_neg (by decide)]
  have := N_bounds s
  omega

/-- The examples. -/
theorem crc_digits : crcOf [49, 50, 51, 52, 53, 54, 55, 56, 57] = 0xFC891918#32 := by decide +kernel
theorem crc_a : crcOf [97] = 0x19939B6B#32 := by decide +kernel
theorem crc_halves : crcAdd (crcOf [49, 50, 51, 52]) [53, 54, 55, 56, 57] = 0xFC891918#32 := by rw [crcOf, crcAdd_app]; exact crc_digits
theorem crc_none : crcOf [] = 0#32 := crcAdd_nil _
end Go.Proofs.YtamglegdgcehaaaGreat
