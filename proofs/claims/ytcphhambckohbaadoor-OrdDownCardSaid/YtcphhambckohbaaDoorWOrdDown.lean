/-
  OrdDown: the walk.
-/
import Derived.Test.YtcphhambckohbaaDoorOAny
set_option linter.unusedVariables false
namespace Go.Proofs.YtcphhambckohbaaDoor
open Go.RowKit

set_option maxHeartbeats 4000000 in
theorem ordDown_walk (a b : Int) (t : ByteArray) (w : World) (ha : -9223372036854775808 ≤ a ∧ a ≤ 9223372036854775807) (hb : -9223372036854775808 ≤ b ∧ b ≤ 9223372036854775807) (hs : t.size ≤ 140737488351232) (hm : MaxL w) :
    Calls Tryd.prog 4 #[.agg #[.int .i64 a, .int .i64 b], .string t] w fun e w' => e = .returned (.bool true) ∧ Below w.heap.size w w' := by
  have c1 := fun V => downAny a b V
  have c2 := fun V => refDownAny a b V
  have c3 := fun V => takeDownAny t V (by omega)
  have c4 := fun V => refTakeDownAny t V (by omega)
  generalize dS a b = u at c1 c2
  generalize dE a b = v at c1 c2
  generalize tdown (sb t) = r at c3 c4
  generalize tdA r = x at c3 c4
  generalize tdB r = y at c3 c4
  generalize tdR r = z at c3 c4
  generalize tdE r = k at c3 c4
  have C1 := Lib.hid c1
  have C2 := Lib.hid c2
  have C3 := Lib.hid c3
  have C4 := Lib.hid c4
  clear c1 c2 c3 c4
  have hb0 : Below w.heap.size w (w.alloc (.cells #[.int .i64 a, .int .i64 b] 31)) := (Below.refl _ _).alloc (Nat.le_refl _) _
  go_enter Tryd.func4, Tryd.ntmps4
  go_wp2_with fail
  refine (C1.out _).mono ?_
  rintro e w1 ⟨rfl, hb1⟩
  obtain ⟨f0, f1⟩ := box_cell 31 hb1
  have hB1 := hb0.trans (hb1.mono (by simp))
  clear hb0 hb1
  go_wp2_with fail
  refine (C2.out _).mono ?_
  rintro e w2 ⟨rfl, hb2⟩
  have hB2 := hB1.trans (hb2.mono hB1.size)
  clear hB1 hb2 f0 f1
  go_wp2_with fail
  refine (C3.out _).mono ?_
  rintro e w3 ⟨rfl, hb3⟩
  have hB3 := hB2.trans (hb3.mono hB2.size)
  clear hB2 hb3
  go_wp2_with fail
  refine (C4.out _).mono ?_
  rintro e w4 ⟨rfl, hb4⟩
  obtain ⟨f0, f1⟩ := box_cell 31 hb4
  have hB4 := (hB3.alloc hB3.size _).trans (hb4.mono (by have := hB3.size; simp; omega))
  clear hb4
  have hm4 := hm.below hB4
  have g0 := fun o => (World.cell?_alloc_lt w4 o ⟨w3.heap.size, 0, none⟩ (World.block_lt_of_cell? w4 _ f0)).trans f0
  have g1 := fun o => (World.cell?_alloc_lt w4 o ⟨w3.heap.size, 1, none⟩ (World.block_lt_of_cell? w4 _ f1)).trans f1
  have hm5 := hm4.alloc (.cells #[.int .i64 x, .int .i64 y] 31)
  clear f0 f1
  go_wp2_with fail
  refine (works _ hm5).mono ?_
  rintro e w7 ⟨rfl, hb7⟩
  have hB7 := (hB4.alloc hB4.size _).trans (hb7.mono (by have := hB4.size; simp; omega))
  go_wp2
  go_ret
  exact ⟨rfl, hB7⟩
end Go.Proofs.YtcphhambckohbaaDoor
