/-
  Layer 2: numbers of bytes, bytes of numbers.
-/
import Derived.Test.YtcphhambckohbaaDoorOStr
set_option linter.unusedVariables false
namespace Go.Proofs.YtcphhambckohbaaDoor
open Go.RowKit

theorem or_byte (v y : Nat) (hv : v < 281474976710656) (hy : y < 256) : bits .or .i64 ((v : Int) * 256) (y : Int) = ((v * 256 + y : Nat) : Int) := by
  have e : ∀ a : Nat, a < 9223372036854775808 → (BitVec.ofInt 64 (a : Int)).toNat = a := by
    intro a ha
    rw [BitVec.ofInt_natCast, BitVec.toNat_ofNat]
    exact Nat.mod_eq_of_lt (by omega)
  have h1 : v * 256 ||| y = v * 256 + y := by
    have := Nat.shiftLeft_add_eq_or_of_lt (b := y) (i := 8) (by omega) v
    rw [Nat.shiftLeft_eq] at this
    exact this.symm
  rw [show ((v : Int) * 256) = ((v * 256 : Nat) : Int) from by omega]
  show IntKind.i64.wrap ((BitVec.ofInt 64 ((v * 256 : Nat) : Int) ||| BitVec.ofInt 64 (y : Int)).toNat : Int) = _
  rw [BitVec.toNat_or, e _ (by omega), e _ (by omega), h1, IntKind.wrap_i64]
  omega

theorem wval_step (t : ByteArray) (k : Nat) (h : k < t.size) : ∃ b : UInt8, t[k]'h = b ∧ wval ((sb t).take (k + 1)) = wval ((sb t).take k) * 256 + b.toNat := by
  have h' : k < (sb t).length := by rw [sb_len]; exact h
  refine ⟨_, rfl, ?_⟩
  rw [sb_get t k h, List.take_succ_eq_append_getElem h', wval_snoc]

theorem wval_take_lt (t : ByteArray) (k : Nat) (ht : t.size ≤ 6) : wval ((sb t).take k) < 281474976710656 := by
  have h1 := wval_lt ((sb t).take k)
  have h2 : ((sb t).take k).length ≤ 6 := by rw [List.length_take, sb_len]; omega
  have h3 : 256 ^ ((sb t).take k).length ≤ 256 ^ 6 := Nat.pow_le_pow_right (by decide) h2
  have h4 : (256 : Nat) ^ 6 = 281474976710656 := by decide
  omega

set_option maxHeartbeats 1000000 in
theorem refNumber (t : ByteArray) (w : World) (ht : t.size ≤ 6) :
    Calls Tryd.prog 36 #[.string t] w fun e w' => e = .returned (.int .i64 (wval (sb t))) ∧ w = w' := by
  go_enter Tryd.func36, Tryd.ntmps36
  go_wp2
  go_loopw [3, 4] (fun y x wr => ∃ k v : Nat, x = .int .i64 k ∧ y = .int .i64 v ∧ k ≤ t.size ∧ Hid (v = wval ((sb t).take k)) ∧ w = wr) (fun _ x _ => t.size - (intOf x).toNat)
  case atStart => exact ⟨0, 0, rfl, rfl, Nat.zero_le _, rfl, rfl⟩
  case round =>
    obtain ⟨k, v, rfl, rfl, hk, hv, rfl⟩ := hrel
    have hvb := wval_take_lt t k ht
    rw [← hv.out] at hvb
    by_cases hlt : k < t.size
    · obtain ⟨b, hb, hE⟩ := wval_step t k hlt
      rw [← hv.out] at hE
      have HE := Lib.hid hE
      have hb256 := b.toNat_lt
      clear hE
      go_wp2
      go_roundw
      case rel => exact ⟨k + 1, v * 256 + b.toNat, by go_num, by go_num, by omega, HE.out.symm, trivial⟩
      case measure => simp [intOf]; omega
    · have hkk : k = t.size := by omega
      have HV : Hid (v = wval (sb t)) := by
        have := hv.out
        rw [hkk, ← sb_len, List.take_length] at this
        exact this
      clear hkk
      go_wp2
      go_ret
      exact ⟨by rw [HV.out]; rfl, rfl⟩

/-- '[]byte(s)'. -/
theorem conv_str (t : ByteArray) (w : World) : ∃ cap o, (convert 9 48 (.string t)).run Tryd.prog w = .ok (.slice (some ⟨w.heap.size, 0, none⟩) t.size cap) (w.drew.alloc o) ∧
    At (w.drew.alloc o) (some ⟨w.heap.size, 0, none⟩) t.size (sb t) := by
  refine ⟨_, _, run_bytes_of_string w 9 48 5 t Tryd.underlying9 Tryd.underlying48 Tryd.underlying5, rfl, fun _ => ⟨w.heap.size, 0, rfl, fun i hi => ?_⟩⟩
  rw [Nat.zero_add]
  have h := World.cell?_alloc_mark w.drew (bytesRow t (grownCap w t.size 0 5)) 5 ((bytesRow t (grownCap w t.size 0 5)).size, (bytesRow t (grownCap w t.size 0 5)).size + 1) i
  refine h.trans ?_
  rw [bytesRow_at t _ i hi]
  rfl

theorem wval_step' (l : List UInt8) (k : Nat) (h : k < l.length) : wval (l.take (k + 1)) = wval (l.take k) * 256 + l[k].toNat := by
  rw [List.take_succ_eq_append_getElem h, wval_snoc]

set_option maxHeartbeats 1000000 in
theorem codeNumber (t : ByteArray) (w : World) (ht : t.size ≤ 6) :
    Calls Tryd.prog 35 #[.string t] w fun e w' => e = .returned (.int .i64 (wval (sb t))) ∧ Below w.heap.size w w' := by
  obtain ⟨cap, o, kc, hat⟩ := conv_str t w
  have hb0 : Below w.heap.size w (w.drew.alloc o) := (Below.refl _ _).drew.alloc (Nat.le_refl _) _
  have hc := fun h => (hat.at_ h)
  have HB := Lib.hid (wval_take_lt t · ht)
  have HL := Lib.hid (sb_len t)
  clear hat
  go_enter Tryd.func35, Tryd.ntmps35
  go_wp2
  go_loopw [3, 9] (fun y x wr => ∃ k v : Nat, x = .int .i64 k ∧ y = .int .i64 v ∧ k ≤ t.size ∧ Hid (v = wval ((sb t).take k)) ∧ wr = (w.alloc o).drew) (fun _ x _ => t.size - (intOf x).toNat)
  case atStart => exact ⟨0, 0, rfl, rfl, Nat.zero_le _, rfl, rfl⟩
  case round =>
    obtain ⟨k, v, rfl, rfl, hk, hv, rfl⟩ := hrel
    have hvb := HB.out k
    rw [← hv.out] at hvb
    by_cases hlt : k < t.size
    · have hlk : k < (sb t).length := by rw [HL.out]; exact hlt
      obtain ⟨bb, oo, he, hcell⟩ := hc (by omega)
      injection he with he
      injection he with he1 he2
      subst he1
      subst he2
      have hck0 := hcell k hlk
      rw [Nat.zero_add] at hck0
      have hck : (w.alloc o).cell? ⟨w.heap.size, k, none⟩ = some (.int .u8 ((sb t)[k].toNat : Int)) := hck0
      have hE := wval_step' (sb t) k hlk
      obtain ⟨b, hb⟩ : ∃ b, b = (sb t)[k] := ⟨_, rfl⟩
      rw [← hb] at hck hE
      rw [← hv.out] at hE
      have HE := Lib.hid hE
      have hb256 := b.toNat_lt
      have hor := or_byte v b.toNat hvb hb256
      clear hE hb hlk hcell hc hck0
      go_wp2
      go_roundw
      case rel => exact ⟨k + 1, v * 256 + b.toNat, by go_num, by go_num, by omega, HE.out.symm, trivial⟩
      case measure => simp [intOf]; omega
    · have hkk : k = t.size := by omega
      have HV : Hid (v = wval (sb t)) := by
        have := hv.out
        rw [hkk, ← HL.out, List.take_length] at this
        exact this
      clear hkk hc
      go_wp2
      go_ret
      exact ⟨by rw [HV.out]; rfl, hb0⟩

end Go.Proofs.YtcphhambckohbaaDoor
