/-
  OrdKey: the walk.
-/
import Derived.Test.YtcphhambckohbaaDoorOAny
set_option linter.unusedVariables false
namespace Go.Proofs.YtcphhambckohbaaDoor
open Go.RowKit

set_option maxHeartbeats 4000000 in
theorem ordKey_walk (s : ByteArray) (w : World) (hs : s.size ≤ 140737488351232) (hm : MaxL w) :
    Calls Tryd.prog 3 #[.string s] w fun e w' => e = .returned (.bool true) ∧ Below w.heap.size w w' := by
  have c1 := fun V => keyAny s V
  have c2 := fun V => refKeyAny s V
  have c3 := fun V => take s V (by omega)
  have c4 := fun V => refTake s V (by omega)
  obtain ⟨a, ha⟩ : ∃ a, a = kS s := ⟨_, rfl⟩
  obtain ⟨b, hb⟩ : ∃ b, b = kE s := ⟨_, rfl⟩
  rw [← ha, ← hb] at c1 c2
  unfold TkAns at c3 c4
  generalize tkey 1000 (sb s) = r at c3 c4
  obtain ⟨x, hx⟩ : ∃ x, x = tkt r := ⟨_, rfl⟩
  obtain ⟨y, hy⟩ : ∃ y, y = tkr r := ⟨_, rfl⟩
  obtain ⟨z, hz⟩ : ∃ z, z = tke r := ⟨_, rfl⟩
  rw [← hx, ← hy, ← hz] at c3 c4
  have C1 := Lib.hid c1
  have C2 := Lib.hid c2
  have C3 := Lib.hid c3
  have C4 := Lib.hid c4
  have c5 := fun V => check s V
  have c6 := fun V => refCheck s V
  generalize (if 1 ≤ s.size ∧ s.size ≤ 32 then (0 : Int) else 2) = k at c5 c6
  have C5 := Lib.hid c5
  have C6 := Lib.hid c6
  clear c1 c2 c3 c4 c5 c6 ha hb hx hy hz
  go_enter Tryd.func3, Tryd.ntmps3
  go_wp2_with fail
  refine (C1.out _ hm).mono ?_
  rintro e w1 ⟨rfl, hb1⟩
  go_wp2_with fail
  refine (C2.out _).mono ?_
  rintro e w2 ⟨rfl, hb2⟩
  have hB2 := hb1.trans (hb2.mono hb1.size)
  clear hb1 hb2
  go_wp2_with fail
  refine (C3.out _).mono ?_
  rintro e w3 ⟨rfl, hb3⟩
  have hB3 := hB2.trans (hb3.mono hB2.size)
  clear hB2 hb3
  go_wp2_with fail
  refine (C4.out _).mono ?_
  rintro e w4 ⟨rfl, hb4⟩
  have hB4 := hB3.trans (hb4.mono hB3.size)
  clear hB3 hb4
  have hm4 := hm.below hB4
  go_wp2_with fail
  refine (C5.out _).mono ?_
  rintro e w5 ⟨rfl, rfl⟩
  go_wp2_with fail
  refine (C6.out _).mono ?_
  rintro e w6 ⟨rfl, rfl⟩
  go_wp2_with fail
  refine (works _ hm4).mono ?_
  rintro e w7 ⟨rfl, hb7⟩
  have hB7 := hB4.trans (hb7.mono hB4.size)
  go_wp2
  go_ret
  exact ⟨rfl, hB7⟩
end Go.Proofs.YtcphhambckohbaaDoor
