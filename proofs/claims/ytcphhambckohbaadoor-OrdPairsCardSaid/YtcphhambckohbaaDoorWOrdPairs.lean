/-
  OrdPairs: the walk.
-/
import Derived.Test.YtcphhambckohbaaDoorWOrdStamps
import Derived.BigRegion
set_option linter.unusedVariables false
namespace Go.Proofs.YtcphhambckohbaaDoor
open Go.RowKit

/-- Pairs of texts stand as the first ones do, then as the second ones. -/
theorem cmp_pairs (s t x y : List UInt8) : Lib.compareBytes (okey s ++ okey x) (okey t ++ okey y) = if Lib.compareBytes s t = 0 then Lib.compareBytes x y else Lib.compareBytes s t := by
  have h := cmp_okey s t (okey x) (okey y)
  rw [cmp_okey'] at h
  have e : ∀ a b : List UInt8, okey a ++ okey b = esc a ++ 0 :: 0 :: okey b := fun a b => by simp [okey]
  rw [e, e]
  exact h

def cut1 (s : ByteArray) : ByteArray := s.extract 0 (min (s.size : Int) 1000).toNat
theorem cut1_le (s : ByteArray) : (cut1 s).size ≤ 1000 := cut1000 s

abbrev SP (g : Nat) (w : World) (p0 p1 q0 q1 : ByteArray) (V : World) : Prop :=
  V.cell? ⟨g, 0, none⟩ = some (.string p0) ∧ V.cell? ⟨g, 1, none⟩ = some (.string p1) ∧ V.cell? ⟨g + 1, 0, none⟩ = some (.string q0) ∧ V.cell? ⟨g + 1, 1, none⟩ = some (.string q1) ∧ Below w.heap.size w V
theorem SP.keep {g : Nat} {w V w2 : World} {p0 p1 q0 q1 : ByteArray} (h : SP g w p0 p1 q0 q1 V) (hb : Below V.heap.size V w2) : SP g w p0 p1 q0 q1 w2 :=
  ⟨(hb.cell (World.block_lt_of_cell? V _ h.1)).trans h.1, (hb.cell (World.block_lt_of_cell? V _ h.2.1)).trans h.2.1, (hb.cell (World.block_lt_of_cell? V _ h.2.2.1)).trans h.2.2.1,
    (hb.cell (World.block_lt_of_cell? V _ h.2.2.2.1)).trans h.2.2.2.1, h.2.2.2.2.trans (hb.mono h.2.2.2.2.size)⟩

theorem lawKeyP (s : ByteArray) (hs : s.size ≤ 1000) : ∃ P : ByteArray, sb P = okey (sb s) ∧ P.size ≤ 2002 ∧ ∀ (g : Nat) (w : World) (p0 p1 q0 q1 : ByteArray) (V : World), MaxL w → SP g w p0 p1 q0 q1 V →
    Calls Tryd.prog 24 #[.string s] V fun e w' => e = .returned (.string P) ∧ SP g w p0 p1 q0 q1 w' := by
  have hlen := esc_len (sb s)
  rw [sb_len] at hlen
  refine ⟨⟨(okey (sb s)).toArray⟩, rfl, ?_, fun g w p0 p1 q0 q1 V hm hS => ?_⟩
  · show (okey (sb s)).length ≤ 2002
    simp [okey]; omega
  · refine (lawKey s V (hm.below hS.2.2.2.2)).mono fun e w' ⟨h1, h2⟩ => ⟨?_, hS.keep h2⟩
    rw [h1]
    unfold keyS
    rw [if_pos hs]

set_option maxHeartbeats 8000000 in
theorem ordPairs_walk (a0 a1 b0 b1 : ByteArray) (w : World) (ha0 : a0.size ≤ 9223372036854775807) (ha1 : a1.size ≤ 9223372036854775807) (hb0 : b0.size ≤ 9223372036854775807) (hb1 : b1.size ≤ 9223372036854775807) (hm : MaxL w) :
    Calls Tryd.prog 8 #[.agg #[.string a0, .string a1], .agg #[.string b0, .string b1]] w fun e w' => e = .returned (.bool true) ∧ Below w.heap.size w w' := by
  have T0 : Blk ((w.alloc (.cells #[.string a0, .string a1] 41)).alloc (.cells #[.string b0, .string b1] 41)) w.heap.size 41 #[.string a0, .string a1] ∧
      Blk ((w.alloc (.cells #[.string a0, .string a1] 41)).alloc (.cells #[.string b0, .string b1] 41)) (w.heap.size + 1) 41 #[.string b0, .string b1] ∧
      Below w.heap.size w ((w.alloc (.cells #[.string a0, .string a1] 41)).alloc (.cells #[.string b0, .string b1] 41)) := by
    refine ⟨(Blk.new w _ _).below ((Below.refl (w.alloc (.cells #[.string a0, .string a1] 41)).heap.size _).alloc (Nat.le_refl _) _) (by simp), ?_, ((Below.refl _ _).alloc (Nat.le_refl _) _).alloc (by simp) _⟩
    have := Blk.new (w.alloc (.cells #[.string a0, .string a1] 41)) 41 #[.string b0, .string b1]
    rw [show (w.alloc (.cells #[.string a0, .string a1] 41)).heap.size = w.heap.size + 1 from by simp] at this
    exact this
  have hm0 := hm.below T0.2.2
  have T0' := Lib.hid T0
  clear T0
  go_enter Tryd.func8, Tryd.ntmps8
  go_wp2_with fail
  refine (works _ hm0).mono ?_
  rintro e w1 ⟨rfl, hb1'⟩
  have T1 := keepT T0'.out hb1'
  clear hb1' T0' hm0
  go_wp2
  go_loopw [5] (fun x wr => ∃ (k : Nat) (p0 p1 q0 q1 : ByteArray), x = .int .i64 k ∧ k ≤ 2 ∧ Hid (p0 = if 0 < k then cut1 a0 else a0) ∧ Hid (p1 = if 1 < k then cut1 a1 else a1) ∧ Hid (q0 = if 0 < k then cut1 b0 else b0) ∧ Hid (q1 = if 1 < k then cut1 b1 else b1) ∧
    Hid (Blk wr w.heap.size 41 #[.string p0, .string p1] ∧ Blk wr (w.heap.size + 1) 41 #[.string q0, .string q1] ∧ Below w.heap.size w wr)) (fun x _ => 2 - (intOf x).toNat)
  case atStart => exact ⟨0, a0, a1, b0, b1, rfl, by omega, rfl, rfl, rfl, rfl, T1⟩
  case round =>
    obtain ⟨k, p0, p1, q0, q1, rfl, hk, h0, h1, h2, h3, T⟩ := hrel
    have hk3 : k = 0 ∨ k = 1 ∨ k = 2 := by omega
    obtain ⟨f0, f1, f2, f3⟩ := T.out.1.c2
    obtain ⟨f4, f5, f6, f7⟩ := T.out.2.1.c2
    rcases hk3 with rfl | rfl | rfl
    · have e0 : p0 = a0 := h0.out
      have e1 : p1 = a1 := h1.out
      have e2 : q0 = b0 := h2.out
      have e3 : q1 = b1 := h3.out
      clear h0 h1 h2 h3
      subst e0 e1 e2 e3
      have m1 : (0 : Int) ≤ min (p0.size : Int) 1000 := by omega
      have m2 : min (p0.size : Int) 1000 ≤ (p0.size : Int) := by omega
      have m3 : (0 : Int) ≤ min (q0.size : Int) 1000 := by omega
      have m4 : min (q0.size : Int) 1000 ≤ (q0.size : Int) := by omega
      go_wp2_with fail
      go_region
      go_wp2
      go_roundw
      case rel =>
        exact ⟨1, cut1 p0, p1, cut1 q0, q1, by go_num, by omega, rfl, rfl, rfl, rfl,
          ((T.out.1.set_ 0 (.string (cut1 p0))).other (by omega) _), ((T.out.2.1.other (by omega) _).set_ 0 (.string (cut1 q0))), ((T.out.2.2.setCell (Nat.le_refl _) _).setCell (Nat.le_succ _) _).drew⟩
      case measure => simp [intOf]
    · have e0 : p0 = cut1 a0 := h0.out
      have e1 : p1 = a1 := h1.out
      have e2 : q0 = cut1 b0 := h2.out
      have e3 : q1 = b1 := h3.out
      clear h0 h1 h2 h3
      subst e1 e3
      have E0 := Lib.hid e0
      have E2 := Lib.hid e2
      clear e0 e2
      have m1 : (0 : Int) ≤ min (p1.size : Int) 1000 := by omega
      have m2 : min (p1.size : Int) 1000 ≤ (p1.size : Int) := by omega
      have m3 : (0 : Int) ≤ min (q1.size : Int) 1000 := by omega
      have m4 : min (q1.size : Int) 1000 ≤ (q1.size : Int) := by omega
      go_wp2_with fail
      go_region
      go_wp2
      go_roundw
      case rel =>
        exact ⟨2, p0, cut1 p1, q0, cut1 q1, by go_num, by omega, E0.out, rfl, E2.out, rfl,
          ((T.out.1.set_ 1 (.string (cut1 p1))).other (by omega) _), ((T.out.2.1.other (by omega) _).set_ 1 (.string (cut1 q1))), ((T.out.2.2.setCell (Nat.le_refl _) _).setCell (Nat.le_succ _) _).drew⟩
      case measure => simp [intOf]
    · have e0 : p0 = cut1 a0 := h0.out
      have e1 : p1 = cut1 a1 := h1.out
      have e2 : q0 = cut1 b0 := h2.out
      have e3 : q1 = cut1 b1 := h3.out
      clear h0 h1 h2 h3
      have s0 : p0.size ≤ 1000 := by rw [e0]; exact cut1_le _
      have s1 : p1.size ≤ 1000 := by rw [e1]; exact cut1_le _
      have s2 : q0.size ≤ 1000 := by rw [e2]; exact cut1_le _
      have s3 : q1.size ≤ 1000 := by rw [e3]; exact cut1_le _
      clear e0 e1 e2 e3
      have hT := T.out
      have hS : SP w.heap.size w p0 p1 q0 q1 wr := ⟨f0, f1, f4, f5, hT.2.2⟩
      have hSd : SP w.heap.size w p0 p1 q0 q1 wr.drew := ⟨f0, f1, f4, f5, hT.2.2.drew⟩
      obtain ⟨P0, u0, z0, K0⟩ := lawKeyP p0 s0
      obtain ⟨P1, u1, z1, K1⟩ := lawKeyP p1 s1
      obtain ⟨Q0, u2, z2, K2⟩ := lawKeyP q0 s2
      obtain ⟨Q1, u3, z3, K3⟩ := lawKeyP q1 s3
      have cp := cmp_pairs (sb p0) (sb q0) (sb p1) (sb q1)
      rw [← u0, ← u1, ← u2, ← u3, ← ba_app, ← ba_app] at cp
      have m0 := fun V => cmp_ p0 q0 _ V rfl
      have m1 := fun V => cmp_ p1 q1 _ V rfl
      have m2 := fun V => cmp_ (P0 ++ P1) (Q0 ++ Q1) _ V cp
      generalize Lib.compareBytes (sb p0) (sb q0) = k0 at m0 m2
      generalize Lib.compareBytes (sb p1) (sb q1) = k1 at m1 m2
      have M0 := Lib.hid m0
      have M1 := Lib.hid m1
      have M2 := Lib.hid m2
      have C0 := Lib.hid (fun V hV => K0 w.heap.size w p0 p1 q0 q1 V hm hV)
      have C1 := Lib.hid (fun V hV => K1 w.heap.size w p0 p1 q0 q1 V hm hV)
      have C2 := Lib.hid (fun V hV => K2 w.heap.size w p0 p1 q0 q1 V hm hV)
      have C3 := Lib.hid (fun V hV => K3 w.heap.size w p0 p1 q0 q1 V hm hV)
      clear T hT m0 m1 m2 K0 K1 K2 K3 cp u0 u1 u2 u3 T1 f2 f3 f6 f7
      have y0 : ¬ (9223372036854775807 < P0.size + P1.size) := by omega
      have y1 : ¬ (9223372036854775807 < Q0.size + Q1.size) := by omega
      by_cases hk0 : k0 = 0
      · subst hk0
        rw [if_pos rfl] at M2
        go_wp2_with fail
        refine (M0.out _).mono ?_
        rintro e w2 ⟨rfl, rfl⟩
        go_wp2_with fail
        refine (M1.out _).mono ?_
        rintro e w2 ⟨rfl, rfl⟩
        go_wp2_with fail
        go_region_held3 (fun V => V.cell? ⟨w.heap.size, 0, none⟩ = some (.string p0) ∧ V.cell? ⟨w.heap.size, 1, none⟩ = some (.string p1) ∧ V.cell? ⟨w.heap.size + 1, 0, none⟩ = some (.string q0) ∧ V.cell? ⟨w.heap.size + 1, 1, none⟩ = some (.string q1) ∧ Below w.heap.size w V)
          (first | assumption | exact hS | exact hSd)
          (first
            | (go_at_call_of 24 (Value.string p0); refine (C0.out _ (by first | assumption | exact hS | exact hSd)).mono ?_; rintro e w3 ⟨rfl, hS3⟩)
            | (go_at_call_of 24 (Value.string p1); refine (C1.out _ (by first | assumption | exact hS | exact hSd)).mono ?_; rintro e w4 ⟨rfl, hS4⟩)
            | (go_at_call_of 24 (Value.string q0); refine (C2.out _ (by first | assumption | exact hS | exact hSd)).mono ?_; rintro e w5 ⟨rfl, hS5⟩)
            | (go_at_call_of 24 (Value.string q1); refine (C3.out _ (by first | assumption | exact hS | exact hSd)).mono ?_; rintro e w6 ⟨rfl, hS6⟩)
            | (go_at_call 25; refine (M2.out _).mono ?_; rintro e w7 ⟨rfl, rfl⟩))
        all_goals go_wp2
        all_goals go_ret
        all_goals exact ⟨rfl, hS6.2.2.2.2⟩
      · rw [if_neg hk0] at M2
        have hkf : (k0 == 0) = false := by simpa using hk0
        go_wp2_with fail
        refine (M0.out _).mono ?_
        rintro e w2 ⟨rfl, rfl⟩
        go_wp2_with fail
        go_region_held3 (fun V => V.cell? ⟨w.heap.size, 0, none⟩ = some (.string p0) ∧ V.cell? ⟨w.heap.size, 1, none⟩ = some (.string p1) ∧ V.cell? ⟨w.heap.size + 1, 0, none⟩ = some (.string q0) ∧ V.cell? ⟨w.heap.size + 1, 1, none⟩ = some (.string q1) ∧ Below w.heap.size w V)
          (first | assumption | exact hS | exact hSd)
          (first
            | (go_at_call_of 24 (Value.string p0); refine (C0.out _ (by first | assumption | exact hS | exact hSd)).mono ?_; rintro e w3 ⟨rfl, hS3⟩)
            | (go_at_call_of 24 (Value.string p1); refine (C1.out _ (by first | assumption | exact hS | exact hSd)).mono ?_; rintro e w4 ⟨rfl, hS4⟩)
            | (go_at_call_of 24 (Value.string q0); refine (C2.out _ (by first | assumption | exact hS | exact hSd)).mono ?_; rintro e w5 ⟨rfl, hS5⟩)
            | (go_at_call_of 24 (Value.string q1); refine (C3.out _ (by first | assumption | exact hS | exact hSd)).mono ?_; rintro e w6 ⟨rfl, hS6⟩)
            | (go_at_call 25; refine (M2.out _).mono ?_; rintro e w7 ⟨rfl, rfl⟩))
        all_goals go_wp2
        all_goals go_ret
        all_goals exact ⟨rfl, hS6.2.2.2.2⟩
end Go.Proofs.YtcphhambckohbaaDoor
