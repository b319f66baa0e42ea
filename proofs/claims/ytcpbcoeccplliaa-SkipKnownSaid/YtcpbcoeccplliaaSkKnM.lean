/-
  Layer 9: SkipKnown's lists (plain).
-/
import Derived.Test.YtcpbcoeccplliaaSkNil
import Derived.Test.YtcpbcoeccplliaaSlHas
import Derived.Test.YtcpbcoeccplliaaSkWorks
import Derived.Test.YtcpbcoeccplliaaSkWalkM
import Derived.Test.YtcpbcoeccplliaaShelf
set_option linter.unusedVariables false
namespace Go.Proofs.Ytcpbcoeccplliaa
open Go.RowKit

abbrev nFF : ByteArray := ⟨#[255]⟩
abbrev nZ : ByteArray := ⟨#[0]⟩
abbrev nZZ : ByteArray := ⟨#[0, 0]⟩
section
variable (u v : Value)
def M1 : List Kv := [⟨nE, u, 16⟩]
def M2 : List Kv := [⟨nE, u, 16⟩, ⟨nFF, v, 1⟩]
def M3 : List Kv := [⟨nE, u, 16⟩, ⟨nZ, .slice none 0 0, 2⟩, ⟨nFF, v, 1⟩]
theorem M1_len : (M1 u).length ≤ 1000000000 := by simp [M1]
theorem M2_len : (M2 u v).length ≤ 1000000000 := by simp [M2]
theorem M3_len : (M3 u v).length ≤ 1000000000 := by simp [M3]
theorem mq0 : kval z9s [] nE = z9s ∧ khas [] nE = false ∧ kstepI [] 1 = [] ∧ kdrop [] nE = [] := ⟨rfl, rfl, rfl, rfl⟩
theorem mq1 : kpos (M1 u) nFF = 1 := by rw [kposD]; rfl
theorem mq2 : kpos (M2 u v) nZ = 1 := by rw [kposD]; rfl
theorem mp1 : kputI [] nE u 16 = M1 u := rfl
theorem mp2 : kputI (M1 u) nFF v 1 = M2 u v := by
  have h : khas (M1 u) nFF = false := by unfold khas; rw [mq1]; rfl
  unfold kputI kput
  rw [if_pos (by decide), h, mq1]
  rfl
theorem mp3 : kputI (M2 u v) nZ (.slice none 0 0) 2 = M3 u v := by
  have h : khas (M2 u v) nZ = false := by unfold khas; rw [mq2]; rfl
  unfold kputI kput
  rw [if_pos (by decide), h, mq2]
  rfl
theorem mqe : kpos (M3 u v) nE = 0 := by rw [kposD]; rfl
theorem mqz : kpos (M3 u v) nZ = 1 := by rw [kposD]; rfl
theorem mqzz : kpos (M3 u v) nZZ = 2 := by rw [kposD]; rfl
theorem mf1 : firstV (M3 u v) nE = .tuple #[.string nE, .bool true] := by unfold firstV; rw [mqe]; rfl
theorem mf2 : firstV (M3 u v) nZ = .tuple #[.string nZ, .bool true] := by unfold firstV; rw [mqz]; rfl
theorem me1 : kend (M3 u v) nE = 3 := by unfold kend; rw [if_pos (by rw [Lib.toList_data])]; rfl
theorem me2 : kend (M3 u v) nZZ = 2 := by unfold kend; rw [if_neg (by rw [Lib.toList_data]; decide), mqzz]
theorem me3 : kend (M3 u v) nZ = 1 := by unfold kend; rw [if_neg (by rw [Lib.toList_data]; decide), mqz]
theorem ml1 : lastV (M3 u v) nE = .tuple #[.string nFF, .bool true] := by unfold lastV; rw [me1]; rfl
theorem ml2 : lastV (M3 u v) nZZ = .tuple #[.string nZ, .bool true] := by unfold lastV; rw [me2]; rfl
theorem ml3 : lastV (M3 u v) nZ = .tuple #[.string nE, .bool true] := by unfold lastV; rw [me3]; rfl
theorem mt1 : kstepI (M3 u v) 1 = [nE, nZ, nFF] := rfl
theorem mt16 : kstepI (M3 u v) 16 = [nE] := rfl
theorem mt17 : kstepI (M3 u v) 17 = [] := rfl
end

/-! ### many -/
def rp (c : Nat) : ByteArray := ⟨(Lib.repeatL (⟨#[107]⟩ : ByteArray).data.toList c).toArray⟩
theorem rp_data (c : Nat) : (rp c).data.toList = List.replicate c 107 := by
  unfold rp
  show Lib.repeatL [107] c = _
  induction c with
  | zero => rfl
  | succ c ih => exact (congrArg (fun l => (107 : UInt8) :: l) ih : _)
theorem rp_less : ∀ a b : Nat, Op.bytesLess (List.replicate a 107) (List.replicate b 107) = decide (a < b)
  | 0, 0 => rfl
  | 0, b + 1 => by rw [List.replicate_succ]; rfl
  | a + 1, 0 => by rw [List.replicate_succ]; rfl
  | a + 1, b + 1 => by
    rw [List.replicate_succ, List.replicate_succ]
    simp only [Op.bytesLess, rp_less a b]
    simp
theorem rp_kl (a b : Nat) : kl (rp a) (rp b) = decide (a < b) := by rw [kl_data, rp_data, rp_data, rp_less]
theorem rp_inj {a b : Nat} (h : rp a = rp b) : a = b := by
  have h1 := rp_data a
  rw [h, rp_data] at h1
  have := congrArg List.length h1
  simpa using this.symm
theorem rp_size (c : Nat) : (rp c).size = c := by
  show (rp c).data.size = c
  rw [← Array.length_toList, rp_data, List.length_replicate]
def ML : Nat → List Kv
  | 0 => []
  | i + 1 => ⟨rp (200 - i), .int .i64 (i : Int), 1 + i % 16⟩ :: ML i
theorem ML_len : ∀ i, (ML i).length = i
  | 0 => rfl
  | i + 1 => by unfold ML; rw [List.length_cons, ML_len i]
theorem ML_get : ∀ (n j : Nat) (h : j < (ML n).length), (ML n)[j]'h = ⟨rp (200 - (n - 1 - j)), .int .i64 ((n - 1 - j : Nat) : Int), 1 + (n - 1 - j) % 16⟩
  | 0, j, h => by rw [ML_len] at h; omega
  | n + 1, 0, h => by simp [ML]
  | n + 1, j + 1, h => by
    have h2 : j < (ML n).length := by rw [ML_len] at h ⊢; omega
    have e : (ML (n + 1))[j + 1]'h = (ML n)[j]'h2 := by simp [ML]
    rw [e, ML_get n j h2, show n + 1 - 1 - (j + 1) = n - 1 - j by omega]
theorem ML_put (i : Nat) (h : i < 200) (s : Int) (hs : s = 1 + ((i % 16 : Nat) : Int)) : kputI (ML i) (rp (200 - i)) (.int .i64 (i : Int)) s = ML (i + 1) := by
  subst hs
  have hp : kpos (ML i) (rp (200 - i)) = 0 := kpos_eq (Nat.zero_le _) (fun j _ hj => absurd hj (Nat.not_lt_zero _)) (fun hn => by
    have hl := ML_len i
    rw [ML_get i 0 hn, rp_kl, decide_eq_false_iff_not]
    omega)
  have hh : khas (ML i) (rp (200 - i)) = false := by
    by_cases h0 : 0 < (ML i).length
    · have hl := ML_len i
      have e : khas (ML i) (rp (200 - i)) = decide (((ML i)[0]'h0).key = rp (200 - i)) := by
        have := khas_at (l := ML i) (k := rp (200 - i)) (by rw [hp]; exact h0)
        simpa [hp] using this
      rw [e, ML_get i 0 h0, decide_eq_false_iff_not]
      intro e
      have := rp_inj e
      omega
    · exact khas_end (by omega)
  unfold kputI kput
  rw [if_pos (by omega), hh, hp]
  have e : (1 + ((i % 16 : Nat) : Int)).toNat = 1 + i % 16 := by omega
  rw [e]
  rfl
theorem ML_pos : kpos (ML 200) (rp 77) = 76 := by
  refine kpos_eq (by rw [ML_len]; omega) (fun j hj h => ?_) (fun hn => ?_)
  · rw [ML_get, rp_kl, decide_eq_true_iff]
    omega
  · rw [ML_get, rp_kl, decide_eq_false_iff_not]
    omega
theorem ML_has : khas (ML 200) (rp 77) = true := (khas_iff _ _).2 ⟨by rw [ML_pos, ML_len]; omega, by simp only [ML_pos]; rw [ML_get]⟩
theorem ML_val : kval z9 (ML 200) (rp 77) = .int .i64 123 := by
  rw [kval_eq (by rw [ML_pos, ML_len]; omega) ML_has]
  simp only [ML_pos]
  rw [ML_get]
  rfl
theorem ML_last : lastV (ML 200) (rp 77) = .tuple #[.string (rp 76), .bool true] := by
  have e : kend (ML 200) (rp 77) = 76 := by
    unfold kend
    rw [if_neg (fun e => by rw [Lib.toList_data, rp_data] at e; cases e), ML_pos]
  have h : 75 < (ML 200).length := by rw [ML_len]; omega
  unfold lastV
  rw [e, if_neg (by omega), decide_eq_true (by omega), keyAt_eq h, ML_get]
theorem ML_16 : (kstepI (ML 200) 16).length = 12 := by
  unfold kstepI kstep
  rw [if_pos (by decide), List.length_map]
  kernel_rfl
theorem rp_call (c : Nat) (w : World) (hc : c ≤ 200) (n : Int) (hn : n = (c : Int)) : Calls Try.prog 40 #[.string ⟨#[107]⟩, .int .i64 n] w fun e w' => e = .returned (.string (rp c)) ∧ Below w.heap.size w w' := by
  subst hn
  exact Try.strings_Repeat ⟨#[107]⟩ c w (by omega) (by show 1 * c ≤ _; omega)
end Go.Proofs.Ytcpbcoeccplliaa
