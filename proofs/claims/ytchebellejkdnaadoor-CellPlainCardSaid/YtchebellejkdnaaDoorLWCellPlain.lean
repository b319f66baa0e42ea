/-
  CellPlain: the walk.
-/
import Derived.Test.YtchebellejkdnaaDoorZ16
import Derived.Test.YtchebellejkdnaaDoorZ17
import Derived.Test.YtchebellejkdnaaDoorLClRef
set_option linter.unusedVariables false
set_option linter.unusedSimpArgs false
set_option maxRecDepth 100000
namespace Go.Proofs.YtchebellejkdnaaDoor
open Go.RowKit

theorem ansT_form (ok : Bool) (l : List UInt8) : ∃ s k, ansT ok l = .returned (.tuple #[.string s, .int .i64 k]) := ⟨_, _, rfl⟩
set_option maxHeartbeats 2000000 in
theorem cellPlain_walk (n a b : Int) (s : ByteArray) (w : World) (i0 : -9223372036854775808 ≤ n ∧ n ≤ 9223372036854775807) (ia : -9223372036854775808 ≤ a ∧ a ≤ 9223372036854775807) (ib : -9223372036854775808 ≤ b ∧ b ≤ 9223372036854775807) (k2 : s.size ≤ 140737488351232) (hm : MaxL w) :
    Calls Tryd.prog 5 #[.int .i64 n, sv a b, .string s] w fun e w' => e = .returned (.bool true) ∧ Below w.heap.size w w' := by
  obtain ⟨z1, q1, h1⟩ := ansT_form (isN n) (nbs n)
  obtain ⟨z2, q2, h2⟩ := ansT_form (may a b) (txS a b)
  have E1 := Lib.hid h1
  have E2 := Lib.hid h2
  obtain ⟨z3, q3, h3⟩ := ansT_form (isV s (bits .and .i64 n 1 == 0)) (txV s (bits .and .i64 n 1 == 0))
  have E3 := Lib.hid h3
  have g0 := nbl w (.cells #[.int .i64 a, .int .i64 b] 23)
  have HX := Lib.hid (Blk.new w 23 #[.int .i64 a, .int .i64 b])
  clear h1 h2 h3
  go_enter Tryd.func5, Tryd.ntmps5
  go_wp2_with (first
    | (go_at_call 24; refine (number_c n _).mono ?_; rintro e w1 ⟨he, b1⟩; rw [E1.out] at he; subst he; have g1 := g0.trans (b1.mono g0.size)
       have kx1 := HX.out.below b1 (by simp)
       clear b1)
    | (go_at_call 25; refine (rNumber n _).mono ?_; rintro e w2 ⟨he, b2⟩; rw [E1.out] at he; subst he
       have g2 := g1.trans (b2.mono g1.size)
       have kx := kx1.below b2 kx1.lt
       have x0 := kx.cell 0
       have x1 := kx.cell 1
       simp at x0 x1)
    | (go_at_call 26; refine (stamp_c a b _).mono ?_; rintro e w3 ⟨he, b3⟩; rw [E2.out] at he; subst he; have g3 := g2.trans (b3.mono g2.size)
       have ky := kx.below b3 kx.lt
       have y0 := ky.cell 0
       have y1 := ky.cell 1
       simp at y0 y1)
    | (go_at_call 27; refine (rStamp a b _).mono ?_; rintro e w4 ⟨he, b4⟩; rw [E2.out] at he; subst he; have g4 := g3.trans (b4.mono g3.size); clear b4)
    | (go_at_call 28; refine (version_c s _ _).mono ?_; rintro e w5 ⟨he, b5⟩; rw [E3.out] at he; subst he; have g5 := g4.trans (b5.mono g4.size); clear b5)
    | (go_at_call 29; refine (rVersion s _ _).mono ?_; rintro e w6 ⟨he, b6⟩; rw [E3.out] at he; subst he; have g6 := g5.trans (b6.mono g5.size); clear b6)
    | (go_at_call 16; refine (awake_c _ (hm.below g6)).mono ?_; rintro e w7 ⟨rfl, b7⟩; have g7 := g6.trans (b7.mono g6.size)))
  go_ret
  exact ⟨rfl, g7⟩
end Go.Proofs.YtchebellejkdnaaDoor
