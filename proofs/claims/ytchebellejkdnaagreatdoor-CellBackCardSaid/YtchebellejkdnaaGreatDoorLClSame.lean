/-
  Layer 11, the document's Same, SameRecord: of one and the same.
-/
import Derived.Test.YtchebellejkdnaaGreatDoorZ11
import Derived.BigQuiet
import Derived.Deep.QuietTactic
set_option linter.unusedVariables false
set_option linter.unusedSimpArgs false
set_option maxRecDepth 100000
namespace Go.Proofs.YtchebellejkdnaaGreatDoor
open Go.RowKit

theorem self_eq (s : ByteArray) : (s.toList == s.toList) = true := by simp

set_option maxHeartbeats 1000000 in
theorem rSame_refl (x : It) (A1 A2 : Option Addr) (n1 n2 c1 c2 : Nat) (w : World) (h1 : ChAt w A1 n1 x.l) (h2 : ChAt w A2 n2 x.l) (hn1 : n1 ≤ 9223372036854775807) :
    Calls Tryz.prog 15 #[itv x (.slice A1 n1 c1), itv x (.slice A2 n2 c2)] w fun e w' => e = .returned (.bool true) ∧ Below w.heap.size w w' := by
  obtain rfl : n1 = n2 := h1.1.symm.trans h2.1
  obtain ⟨id, ep, pr, an, sw, sl, bw, bl, l⟩ := x
  simp only at h1 h2
  have hs := self_eq an
  have hbel := (nbl w (.cells (itc ⟨id, ep, pr, an, sw, sl, bw, bl, l⟩ (.slice A1 n1 c1)) 33)).alloc (by simp) (.cells (itc ⟨id, ep, pr, an, sw, sl, bw, bl, l⟩ (.slice A2 n1 c2)) 33)
  have H1 := Lib.hid (h1.below hbel)
  have H2 := Lib.hid (h2.below hbel)
  have HL := Lib.hid h1.1
  have HB := Lib.hid hbel
  have kx := (Blk.new w 33 (itc ⟨id, ep, pr, an, sw, sl, bw, bl, l⟩ (.slice A1 n1 c1))).below (nbl _ (.cells (itc ⟨id, ep, pr, an, sw, sl, bw, bl, l⟩ (.slice A2 n1 c2)) 33)) (by simp)
  have ky := Blk.new (w.alloc (.cells (itc ⟨id, ep, pr, an, sw, sl, bw, bl, l⟩ (.slice A1 n1 c1)) 33)) 33 (itc ⟨id, ep, pr, an, sw, sl, bw, bl, l⟩ (.slice A2 n1 c2))
  have hz : (w.alloc (.cells (itc ⟨id, ep, pr, an, sw, sl, bw, bl, l⟩ (.slice A1 n1 c1)) 33)).heap.size = w.heap.size + 1 := by simp
  rw [hz] at ky
  obtain ⟨V, hV⟩ : ∃ V, V = (w.alloc (.cells (itc ⟨id, ep, pr, an, sw, sl, bw, bl, l⟩ (.slice A1 n1 c1)) 33)).alloc (.cells (itc ⟨id, ep, pr, an, sw, sl, bw, bl, l⟩ (.slice A2 n1 c2)) 33) := ⟨_, rfl⟩
  have x8 := kx.cell 8
  have y8 := ky.cell 8
  rw [← hV] at x8 y8
  simp at x8 y8
  rw [← hV] at H1 H2 HB
  have HV := Lib.hid hV
  clear h1 h2 hbel kx ky hz hV
  go_enter Tryz.func15, Tryz.ntmps15
  go_wp2_with fail
  rw [← HV.out]
  go_loopw [5] (fun i wr => ∃ (j : Nat), j ≤ n1 ∧ i = .int .i64 j ∧ Hid (∀ p, wr.cell? p = V.cell? p) ∧ Hid (Below w.heap.size w wr)) (fun i _ => n1 - (intOf i).toNat)
  case atStart => exact ⟨0, Nat.zero_le _, rfl, Lib.hid fun _ => rfl, HB⟩
  case round =>
    obtain ⟨j, hj, rfl, HC, HBW⟩ := hrel
    have x9 := (HC.out _).trans x8
    have y9 := (HC.out _).trans y8
    by_cases hlt : j < n1
    · have hjl : j < l.length := by rw [HL.out]; exact hlt
      obtain ⟨b1, o1, rfl, hc1⟩ := H1.out.2 (by omega)
      obtain ⟨b2, o2, rfl, hc2⟩ := H2.out.2 (by omega)
      have p := hc1 j hjl
      have q := hc2 j hjl
      obtain ⟨cc, hcc⟩ : ∃ cc, l[j]'hjl = cc := ⟨_, rfl⟩
      rw [hcc] at p q
      obtain ⟨u0, u1, u2⟩ := cc
      obtain ⟨p0, p1, p2⟩ := p
      obtain ⟨q0, q1, q2⟩ := q
      have P0 := (HC.out _).trans p0
      have Q0 := (HC.out _).trans q0
      have P1 := (HC.out _).trans p1
      have Q1 := (HC.out _).trans q1
      have P2 := (HC.out _).trans p2
      have Q2 := (HC.out _).trans q2
      clear hc1 hc2 hcc
      go_wp2_with fail
      go_quiet (fail)
      have x7 : (wr.drewN nq).cell? ⟨w.heap.size, 8, none⟩ = _ := x9
      go_wp2
      go_roundw
      case rel => exact ⟨j + 1, by omega, by go_num, Lib.hid fun p => HC.out p, Lib.hid (below_drewN HBW.out nq)⟩
      case measure => simp [intOf]; omega
    · go_wp2
      go_ret
      exact ⟨rfl, HBW.out⟩

set_option maxHeartbeats 1000000 in
theorem rSameW_refl (l : List Wt) (A1 A2 : Option Addr) (n1 n2 c1 c2 : Nat) (w : World) (h1 : WtAt w A1 n1 l) (h2 : WtAt w A2 n2 l) (hn1 : n1 ≤ 9223372036854775807) :
    Calls Tryz.prog 41 #[.slice A1 n1 c1, .slice A2 n2 c2] w fun e w' => e = .returned (.bool true) ∧ Below w.heap.size w w' := by
  obtain rfl : n1 = n2 := h1.1.symm.trans h2.1
  have H1 := Lib.hid h1
  have H2 := Lib.hid h2
  have HL := Lib.hid h1.1
  clear h1 h2
  go_enter Tryz.func41, Tryz.ntmps41
  go_wp2_with fail
  go_loopw [5] (fun i wr => ∃ (j : Nat), j ≤ n1 ∧ i = .int .i64 j ∧ Hid (∀ p, wr.cell? p = w.cell? p) ∧ Hid (Below w.heap.size w wr)) (fun i _ => n1 - (intOf i).toNat)
  case atStart => exact ⟨0, Nat.zero_le _, rfl, Lib.hid fun _ => rfl, Lib.hid (Below.refl _ _)⟩
  case round =>
    obtain ⟨j, hj, rfl, HC, HBW⟩ := hrel
    by_cases hlt : j < n1
    · have hjl : j < l.length := by rw [HL.out]; exact hlt
      obtain ⟨b1, o1, rfl, hc1⟩ := H1.out.2 (by omega)
      obtain ⟨b2, o2, rfl, hc2⟩ := H2.out.2 (by omega)
      have p := hc1 j hjl
      have q := hc2 j hjl
      obtain ⟨cc, hcc⟩ : ∃ cc, l[j]'hjl = cc := ⟨_, rfl⟩
      rw [hcc] at p q
      obtain ⟨u0, u1⟩ := cc
      obtain ⟨p0, p1⟩ := p
      obtain ⟨q0, q1⟩ := q
      have P0 := (HC.out _).trans p0
      have Q0 := (HC.out _).trans q0
      have P1 := (HC.out _).trans p1
      have Q1 := (HC.out _).trans q1
      clear hc1 hc2 hcc
      go_wp2_with fail
      go_quiet (fail)
      go_wp2
      go_roundw
      case rel => exact ⟨j + 1, by omega, by go_num, Lib.hid fun p => HC.out p, Lib.hid (below_drewN HBW.out nq)⟩
      case measure => simp [intOf]; omega
    · go_wp2
      go_ret
      exact ⟨rfl, HBW.out⟩
set_option maxHeartbeats 1000000 in
theorem rSameR_refl (x : Rc) (A1 A2 : Option Addr) (n1 n2 c1 c2 : Nat) (w : World) (h1 : WtAt w A1 n1 x.l) (h2 : WtAt w A2 n2 x.l) (hn1 : n1 ≤ 9223372036854775807) :
    Calls Tryz.prog 16 #[rcv x (.slice A1 n1 c1), rcv x (.slice A2 n2 c2)] w fun e w' => e = .returned (.bool true) ∧ Below w.heap.size w w' := by
  obtain ⟨id, ep, st, pr, an, sw, sl, bw, bl, l⟩ := x
  simp only at h1 h2
  have hs := self_eq an
  have hbel := (nbl w (.cells (rcc ⟨id, ep, st, pr, an, sw, sl, bw, bl, l⟩ (.slice A1 n1 c1)) 38)).alloc (by simp) (.cells (rcc ⟨id, ep, st, pr, an, sw, sl, bw, bl, l⟩ (.slice A2 n2 c2)) 38)
  have HS := Lib.hid (rSameW_refl l A1 A2 n1 n2 c1 c2 _ (h1.below hbel) (h2.below hbel) hn1)
  have HB := Lib.hid hbel
  clear h1 h2 hbel
  go_enter Tryz.func16, Tryz.ntmps16
  go_wp2_with (go_at_call 41; refine HS.out.mono ?_; rintro e w1 ⟨rfl, hb1⟩; have hb2 := HB.out.trans (hb1.mono (by simp; omega)))
  go_ret
  exact ⟨rfl, hb2⟩
end Go.Proofs.YtchebellejkdnaaGreatDoor
