/-
  Layer 2: the document's answers Down and TakeDown.
-/
import Derived.Test.YtcphhambckohbaaDoorODown
set_option linter.unusedVariables false
namespace Go.Proofs.YtcphhambckohbaaDoor
open Go.RowKit

theorem refDown_no (a b : Int) (w : World) (h : may a b = false) :
    Calls Tryd.prog 20 #[.agg #[.int .i64 a, .int .i64 b]] w fun e w' => e = .returned (.tuple #[.string ⟨#[]⟩, .int .i64 2]) ∧ Below w.heap.size w w' := by
  have hb0 : Below w.heap.size w (w.alloc (.cells #[.int .i64 a, .int .i64 b] 31)) := (Below.refl _ _).alloc (Nat.le_refl _) _
  go_enter Tryd.func20, Tryd.ntmps20
  go_wp2_with fail
  refine (refMay a b _).mono ?_
  rintro e w1 ⟨rfl, hb1⟩
  rw [h]
  have hb := hb0.trans (hb1.mono (by simp))
  go_wp2
  go_ret2
  exact ⟨rfl, hb⟩

theorem keepS {w1 V w2 : World} {p q : Addr} {u v : Value} (h : V.cell? p = some u ∧ V.cell? q = some v ∧ Below w1.heap.size w1 V) (hb : Below V.heap.size V w2) :
    w2.cell? p = some u ∧ w2.cell? q = some v ∧ Below w1.heap.size w1 w2 :=
  ⟨(hb.cell (World.block_lt_of_cell? V _ h.1)).trans h.1, (hb.cell (World.block_lt_of_cell? V _ h.2.1)).trans h.2.1, h.2.2.trans (hb.mono h.2.2.size)⟩

theorem str_app (x y : List UInt8) : (⟨x.toArray⟩ : ByteArray) ++ ⟨y.toArray⟩ = ⟨(x ++ y).toArray⟩ := by
  apply ByteArray.ext
  simp

set_option maxHeartbeats 4000000 in
theorem refDown (a b : Int) (w : World) (h : may a b = true) :
    Calls Tryd.prog 20 #[.agg #[.int .i64 a, .int .i64 b]] w fun e w' => e = .returned (.tuple #[.string ⟨(odown a b).toArray⟩, .int .i64 0]) ∧ Below w.heap.size w w' := by
  have hb0 : Below w.heap.size w (w.alloc (.cells #[.int .i64 a, .int .i64 b] 31)) := (Below.refl _ _).alloc (Nat.le_refl _) _
  obtain ⟨h1, h2, h3, h4⟩ := of_decide_eq_true h
  obtain ⟨na, hna⟩ : ∃ na : Nat, 1099511627776 - a = (na : Int) := ⟨(1099511627776 - a).toNat, by omega⟩
  obtain ⟨nb, hnb⟩ : ∃ nb : Nat, 1048575 - b = (nb : Int) := ⟨(1048575 - b).toNat, by omega⟩
  have hoe : odown a b = wide 6 na ++ wide 3 nb := by unfold odown; rw [hna, hnb]; rfl
  have hna' : na ≤ 281474976710656 := by omega
  have hnb' : nb ≤ 281474976710656 := by omega
  have hw1 : IntKind.i64.wrap (1099511627776 - a) = (na : Int) := by rw [IntKind.wrap_i64, hna]; omega
  have hw2 : IntKind.i64.wrap (1048575 - b) = (nb : Int) := by rw [IntKind.wrap_i64, hnb]; omega
  have hl1 := wide_len 6 na
  have hl2 := wide_len 3 nb
  have HO := Lib.hid hoe
  have hsa := str_app (wide 6 na) (wide 3 nb)
  obtain ⟨x, hx⟩ : ∃ x, x = wide 6 na := ⟨_, rfl⟩
  obtain ⟨y, hy⟩ : ∃ y, y = wide 3 nb := ⟨_, rfl⟩
  have c1 := fun V => refBytes na 6 V (by decide) (by decide) hna'
  have c2 := fun V => refBytes nb 3 V (by decide) (by decide) hnb'
  rw [← hx] at hl1 hoe hsa c1
  rw [← hy] at hl2 hoe hsa c2
  have C1 := Lib.hid c1
  have C2 := Lib.hid c2
  have HO := Lib.hid hoe
  have HS := Lib.hid hsa
  clear hna hnb hoe hx hy c1 c2 hsa
  go_enter Tryd.func20, Tryd.ntmps20
  go_wp2_with fail
  refine (refMay a b _).mono ?_
  rintro e w1 ⟨rfl, hb1⟩
  rw [h]
  have hc := box_cell 31 hb1
  have hb := hb0.trans (hb1.mono (by simp))
  obtain ⟨hc0, hc1⟩ := hc
  have hr := Below.refl w1.heap.size w1
  clear hb0 hb1
  go_wp2_with fail
  go_region_held3 (fun w' => w'.cell? ⟨w.heap.size, 0, none⟩ = some (.int .i64 a) ∧ w'.cell? ⟨w.heap.size, 1, none⟩ = some (.int .i64 b) ∧ Below w1.heap.size w1 w') (first | assumption | exact ⟨hc0, hc1, hr⟩ | exact ⟨hc0, hc1, hr.drew⟩)
    (first
      | (go_at_call_of 34 (Value.int .i64 na); refine (C1.out _).mono ?_; rintro e w2 ⟨rfl, hbb⟩; have hS2 := keepS (by assumption) hbb; clear hbb)
      | (go_at_call_of 34 (Value.int .i64 nb); refine (C2.out _).mono ?_; rintro e w2 ⟨rfl, hbb⟩; have hS2 := keepS (by assumption) hbb; clear hbb))
  all_goals go_wp2
  all_goals go_ret2
  all_goals exact ⟨by rw [HO.out, ← HS.out]; rfl, hb.trans (hS2.2.2.mono hb.size)⟩

end Go.Proofs.YtcphhambckohbaaDoor
