/-
  Layer 2: isStamp, Down, TakeDown, of the code and of the document.
  Layer 2: the document's answers Down and TakeDown.
-/
import Derived.Test.YtgccichmdddbpaaGreatDoorPL20
import Derived.Test.YtgccichmdddbpaaGreatDoorPL21
import Derived.Test.YtgccichmdddbpaaGreatDoorPL18
import Derived.StillTailTactics
set_option linter.unusedVariables false
set_option maxRecDepth 100000
namespace Go.Proofs.YtgccichmdddbpaaGreatDoor
open Go.RowKit

theorem isStamp (a b : Int) (w : World) :
    Calls Tryz.prog 210 #[.agg #[.int .i64 a, .int .i64 b]] w fun e w' => e = .returned (.bool (may a b)) ∧ Below w.heap.size w w' := by
  go_enter Tryz.func210, Tryz.ntmps210
  go_wp2
  all_goals go_ret
  all_goals refine ⟨congrArg (fun v => Ending.returned (Value.bool v)) ?_, (Below.refl _ _).alloc (Nat.le_refl _) _⟩
  all_goals unfold may
  all_goals first | (apply decide_eq_decide.2; constructor <;> intro _ <;> omega) | (exact (decide_eq_false (by omega)).symm)

theorem refMay (a b : Int) (w : World) :
    Calls Tryz.prog 166 #[.agg #[.int .i64 a, .int .i64 b]] w fun e w' => e = .returned (.bool (may a b)) ∧ Below w.heap.size w w' := by
  go_enter Tryz.func166, Tryz.ntmps166
  go_wp2
  all_goals go_ret
  all_goals refine ⟨congrArg (fun v => Ending.returned (Value.bool v)) ?_, (Below.refl _ _).alloc (Nat.le_refl _) _⟩
  all_goals unfold may
  all_goals first | (apply decide_eq_decide.2; constructor <;> intro _ <;> omega) | (exact (decide_eq_false (by omega)).symm)

/-- A stamp's bytes. -/
def odown (a b : Int) : List UInt8 := wide 6 (1099511627776 - a).toNat ++ wide 3 (1048575 - b).toNat
theorem odown_len (a b : Int) : (odown a b).length = 9 := by simp [odown, wide_len]

theorem box_cell {w w1 : World} {a b : Int} (t : TypeId) (hb : Below (w.alloc (.cells #[.int .i64 a, .int .i64 b] t)).heap.size (w.alloc (.cells #[.int .i64 a, .int .i64 b] t)) w1) :
    w1.cell? ⟨w.heap.size, 0, none⟩ = some (.int .i64 a) ∧ w1.cell? ⟨w.heap.size, 1, none⟩ = some (.int .i64 b) := by
  have hB := (Blk.new w t #[.int .i64 a, .int .i64 b]).below hb (by simp)
  exact ⟨by rw [hB.cell]; rfl, by rw [hB.cell]; rfl⟩

set_option maxHeartbeats 2000000 in
theorem down (a b : Int) (w : World) (h : may a b = true) :
    Calls Tryz.prog 191 #[.agg #[.int .i64 a, .int .i64 b]] w fun e w' => e = .returned (.tuple #[.string ⟨(odown a b).toArray⟩, .int .i64 0]) ∧ Below w.heap.size w w' := by
  have hb0 : Below w.heap.size w (w.alloc (.cells #[.int .i64 a, .int .i64 b] 26)) := (Below.refl _ _).alloc (Nat.le_refl _) _
  obtain ⟨h1, h2, h3, h4⟩ := of_decide_eq_true h
  obtain ⟨na, hna⟩ : ∃ na : Nat, 1099511627776 - a = (na : Int) := ⟨(1099511627776 - a).toNat, by omega⟩
  obtain ⟨nb, hnb⟩ : ∃ nb : Nat, 1048575 - b = (nb : Int) := ⟨(1048575 - b).toNat, by omega⟩
  have hoe : odown a b = wide 6 na ++ wide 3 nb := by unfold odown; rw [hna, hnb]; rfl
  have hna' : na ≤ 281474976710656 := by omega
  have hnb' : nb ≤ 281474976710656 := by omega
  have HA := Lib.hid hna
  have HB := Lib.hid hnb
  have HO := Lib.hid hoe
  have hM := make_ 9 (by omega)
  obtain ⟨M, hM, mk0⟩ := hM
  have mk : ∀ W : World, (Instr.makeSlice 164 (.int .i64 9) (.int .i64 9)).run Tryz.prog W = .ok (.slice (some ⟨W.heap.size, 0, none⟩) 9 9) (W.alloc (.cells M 5)) := mk0
  clear hna hnb hoe mk0
  go_enter Tryz.func191, Tryz.ntmps191
  go_wp2_with fail
  refine (isStamp a b _).mono ?_
  rintro e w1 ⟨rfl, hb1⟩
  rw [h]
  have hc := box_cell 26 hb1
  have hb := hb0.trans (hb1.mono (by simp))
  obtain ⟨hc0, hc1⟩ := hc
  have hc0' := fun o => (World.cell?_alloc_lt w1 o ⟨w.heap.size, 0, none⟩ (World.block_lt_of_cell? w1 _ hc0)).trans hc0
  have hlt := World.block_lt_of_cell? w1 _ hc1
  have hc1' := fun o => (World.cell?_alloc_lt w1 o ⟨w.heap.size, 1, none⟩ hlt).trans hc1
  go_wp2_with fail
  have HF := Lib.hid (fun (w2 : World) (h : Below w1.heap.size (w1.alloc (.cells M 5)) w2) => (((Below.refl w1.heap.size w1).alloc (Nat.le_refl _) _).trans h : Below w1.heap.size w1 w2))
  have hK := Blk.new w1 5 M
  have hd0 := hc0' (.cells M 5)
  have hd1 := hc1' (.cells M 5)
  obtain ⟨W, hW⟩ : ∃ W, W = w1.alloc (.cells M 5) := ⟨_, rfl⟩
  rw [← hW] at HF hK hd0 hd1 ⊢
  have hd0' : ∀ W' : World, W'.heap = W.heap → W'.cell? ⟨w.heap.size, 0, none⟩ = some (Value.int .i64 a) := fun W' h => by rw [← hd0]; unfold World.cell?; rw [h]
  have hd2 := hd0' ⟨W.heap, W.tape, W.drawn + 1, W.os, W.output⟩ rfl
  clear hW hc0' hc1' hc0
  have hw1 : IntKind.i64.wrap (1099511627776 - a) = (na : Int) := by rw [IntKind.wrap_i64, HA.out]; omega
  have hw2 : IntKind.i64.wrap (1048575 - b) = (nb : Int) := by rw [IntKind.wrap_i64, HB.out]; omega
  have hKd : Blk W.drew w1.heap.size 5 M := hK
  have hdd : W.drew.cell? ⟨w.heap.size, 1, none⟩ = some (.int .i64 b) := hd1
  have HFd : Hid (∀ w2, Below w1.heap.size W.drew w2 → Below w1.heap.size w1 w2) := fun w2 h => HF.out w2 ⟨h.os, h.tape, h.output, h.size, h.block⟩
  go_still_tail 5, (by kernel_rfl)
  change wpList _ _ _ _ _ W.drew
  generalize W.drew = V at hKd hdd HFd ⊢
  clear hd0' hd2 hd0 hd1 hK HF
  go_wp2_with fail
  refine (put w1.heap.size 0 6 9 na M _ hKd (by omega) (by omega) hna').mono ?_
  rintro e w2 ⟨rfl, cs2, hB2, hs2, hv2, -, hb2⟩
  have hbb := HFd.out w2 hb2
  have hc2 := (hbb.cell (p := ⟨w.heap.size, 1, none⟩) hlt).trans (show w1.cell? ⟨w.heap.size, 1, none⟩ = some (.int .i64 b) from hc1)
  have HV2 := Lib.hid hv2
  clear hKd hdd HFd hb2 hv2
  go_wp2_with fail
  have hd2 : (⟨w2.heap, w2.tape, w2.drawn + 1, w2.os, w2.output⟩ : World).cell? ⟨w.heap.size, 1, none⟩ = some (Value.int .i64 b) := hc2
  have hKd : Blk w2.drew w1.heap.size 5 cs2 := hB2
  have HFd : Hid (∀ w3, Below w1.heap.size w2.drew w3 → Below w1.heap.size w2 w3) := fun w3 h => ⟨h.os, h.tape, h.output, h.size, h.block⟩
  go_still_tail 5, (by kernel_rfl)
  change wpList _ _ _ _ _ w2.drew
  generalize w2.drew = V at hKd HFd ⊢
  clear hd2 hc2
  go_wp2_with fail
  refine (put w1.heap.size 6 3 3 nb cs2 _ hKd (by omega) (by omega) hnb').mono ?_
  rintro e w3 ⟨rfl, cs3, hB3, hs3, hv3, hx3, hb3⟩
  have hbw : Below w.heap.size w w3 := hb.trans ((hbb.trans (HFd.out w3 hb3)).mono (by omega))
  have hat : At w3 (some ⟨w1.heap.size, 0, none⟩) 9 (odown a b) := by
    have h9 := hB3.at_ (l := odown a b) 0 (fun i hi => by
      rw [odown_len] at hi
      rw [Nat.zero_add, HO.out]
      rcases Nat.lt_or_ge i 6 with h6 | h6
      · rw [hx3 i (Or.inl h6), List.getElem?_append_left (by rw [wide_len]; exact h6)]
        have := HV2.out i h6
        rw [Nat.zero_add] at this
        exact this
      · rw [List.getElem?_append_right (by rw [wide_len]; exact h6), wide_len]
        have := hv3 (i - 6) (by omega)
        rw [show 6 + (i - 6) = i from by omega] at this
        exact this)
    rw [odown_len] at h9
    exact h9
  have kc := hat.conv (P := Tryz.prog) 9 164 5 9 Tryz.underlying164 Tryz.underlying5 Tryz.underlying9
  clear hat hv3 hx3 hB3 hB2 hbb hb3 HFd hb
  go_wp2
  go_ret2
  exact ⟨rfl, hbw⟩

end Go.Proofs.YtgccichmdddbpaaGreatDoor
set_option linter.unusedVariables false
set_option maxRecDepth 100000
namespace Go.Proofs.YtgccichmdddbpaaGreatDoor
open Go.RowKit

theorem refDown_no (a b : Int) (w : World) (h : may a b = false) :
    Calls Tryz.prog 127 #[.agg #[.int .i64 a, .int .i64 b]] w fun e w' => e = .returned (.tuple #[.string ⟨#[]⟩, .int .i64 2]) ∧ Below w.heap.size w w' := by
  have hb0 : Below w.heap.size w (w.alloc (.cells #[.int .i64 a, .int .i64 b] 26)) := (Below.refl _ _).alloc (Nat.le_refl _) _
  go_enter Tryz.func127, Tryz.ntmps127
  go_wp2_with fail
  refine (refMay a b _).mono ?_
  rintro e w1 ⟨rfl, hb1⟩
  rw [h]
  have hb := hb0.trans (hb1.mono (by simp))
  go_wp2
  go_ret2
  exact ⟨rfl, hb⟩

theorem keepS {w1 V w2 : World} {p q : Addr} {u v : Value} (h : V.cell? p = some u ∧ V.cell? q = some v ∧ Below w1.heap.size w1 V) (hb : Below V.heap.size V w2) :
    w2.cell? p = some u ∧ w2.cell? q = some v ∧ Below w1.heap.size w1 w2 :=
  ⟨(hb.cell (World.block_lt_of_cell? V _ h.1)).trans h.1, (hb.cell (World.block_lt_of_cell? V _ h.2.1)).trans h.2.1, h.2.2.trans (hb.mono h.2.2.size)⟩

theorem str_app (x y : List UInt8) : (⟨x.toArray⟩ : ByteArray) ++ ⟨y.toArray⟩ = ⟨(x ++ y).toArray⟩ := by
  apply ByteArray.ext
  simp

set_option maxHeartbeats 4000000 in
theorem refDown (a b : Int) (w : World) (h : may a b = true) :
    Calls Tryz.prog 127 #[.agg #[.int .i64 a, .int .i64 b]] w fun e w' => e = .returned (.tuple #[.string ⟨(odown a b).toArray⟩, .int .i64 0]) ∧ Below w.heap.size w w' := by
  have hb0 : Below w.heap.size w (w.alloc (.cells #[.int .i64 a, .int .i64 b] 26)) := (Below.refl _ _).alloc (Nat.le_refl _) _
  obtain ⟨h1, h2, h3, h4⟩ := of_decide_eq_true h
  obtain ⟨na, hna⟩ : ∃ na : Nat, 1099511627776 - a = (na : Int) := ⟨(1099511627776 - a).toNat, by omega⟩
  obtain ⟨nb, hnb⟩ : ∃ nb : Nat, 1048575 - b = (nb : Int) := ⟨(1048575 - b).toNat, by omega⟩
  have hoe : odown a b = wide 6 na ++ wide 3 nb := by unfold odown; rw [hna, hnb]; rfl
  have hna' : na ≤ 281474976710656 := by omega
  have hnb' : nb ≤ 281474976710656 := by omega
  have hw1 : IntKind.i64.wrap (1099511627776 - a) = (na : Int) := by rw [IntKind.wrap_i64, hna]; omega
  have hw2 : IntKind.i64.wrap (1048575 - b) = (nb : Int) := by rw [IntKind.wrap_i64, hnb]; omega
  have hl1 := wide_len 6 na
  have hl2 := wide_len 3 nb
  have HO := Lib.hid hoe
  have hsa := str_app (wide 6 na) (wide 3 nb)
  obtain ⟨x, hx⟩ : ∃ x, x = wide 6 na := ⟨_, rfl⟩
  obtain ⟨y, hy⟩ : ∃ y, y = wide 3 nb := ⟨_, rfl⟩
  have c1 := fun V => refBytes na 6 V (by decide) (by decide) hna'
  have c2 := fun V => refBytes nb 3 V (by decide) (by decide) hnb'
  rw [← hx] at hl1 hoe hsa c1
  rw [← hy] at hl2 hoe hsa c2
  have C1 := Lib.hid c1
  have C2 := Lib.hid c2
  have HO := Lib.hid hoe
  have HS := Lib.hid hsa
  clear hna hnb hoe hx hy c1 c2 hsa
  go_enter Tryz.func127, Tryz.ntmps127
  go_wp2_with fail
  refine (refMay a b _).mono ?_
  rintro e w1 ⟨rfl, hb1⟩
  rw [h]
  have hc := box_cell 26 hb1
  have hb := hb0.trans (hb1.mono (by simp))
  obtain ⟨hc0, hc1⟩ := hc
  have hr := Below.refl w1.heap.size w1
  clear hb0 hb1
  go_wp2_with fail
  go_region_held3 (fun w' => w'.cell? ⟨w.heap.size, 0, none⟩ = some (.int .i64 a) ∧ w'.cell? ⟨w.heap.size, 1, none⟩ = some (.int .i64 b) ∧ Below w1.heap.size w1 w') (first | assumption | exact ⟨hc0, hc1, hr⟩ | exact ⟨hc0, hc1, hr.drew⟩)
    (first
      | (go_at_call_of 171 (Value.int .i64 na); refine (C1.out _).mono ?_; rintro e w2 ⟨rfl, hbb⟩; have hS2 := keepS (by assumption) hbb; clear hbb)
      | (go_at_call_of 171 (Value.int .i64 nb); refine (C2.out _).mono ?_; rintro e w2 ⟨rfl, hbb⟩; have hS2 := keepS (by assumption) hbb; clear hbb))
  all_goals go_wp2
  all_goals go_ret2
  all_goals exact ⟨by rw [HO.out, ← HS.out]; rfl, hb.trans (hS2.2.2.mono hb.size)⟩

end Go.Proofs.YtgccichmdddbpaaGreatDoor
