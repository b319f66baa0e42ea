/-
  OrdStamps: the walk.
-/
import Derived.Test.YtcphhambckohbaaDoorOMore
import Derived.Test.YtcphhambckohbaaDoorWOrdOrder
import Derived.Deep.Cut
import Derived.Deep.CutRange
set_option linter.unusedVariables false
namespace Go.Proofs.YtcphhambckohbaaDoor
open Go.RowKit

theorem cmp_odown (a b c d : Int) (h : may a b = true) (h' : may c d = true) :
    Lib.compareBytes (odown a b) (odown c d) = if c < a ∨ (a = c ∧ d < b) then -1 else if a = c ∧ b = d then 0 else 1 := by
  obtain ⟨h1, h2, h3, h4⟩ := of_decide_eq_true h
  obtain ⟨k1, k2, k3, k4⟩ := of_decide_eq_true h'
  unfold odown
  rw [cmp_app _ _ _ _ (by rw [wide_len, wide_len]), cmp_wide 6 _ _ (by omega) (by omega), cmp_wide 3 _ _ (by omega) (by omega)]
  unfold cmpI
  repeat' split
  all_goals first | rfl | omega

theorem keepT {t : TypeId} {w V w2 : World} {g1 g2 : Nat} {c1 c2 : Array Value} (h : Blk V g1 t c1 ∧ Blk V g2 t c2 ∧ Below w.heap.size w V) (hb : Below V.heap.size V w2) : Blk w2 g1 t c1 ∧ Blk w2 g2 t c2 ∧ Below w.heap.size w w2 :=
  ⟨h.1.below hb h.1.lt, h.2.1.below hb h.2.1.lt, h.2.2.trans (hb.mono h.2.2.size)⟩

theorem Blk.c2 {w : World} {g : Nat} {t : TypeId} {u v : Value} (h : Blk w g t #[u, v]) : w.cell? ⟨g, 0, none⟩ = some u ∧ w.cell? ⟨g, 1, none⟩ = some v ∧ w.frozen? ⟨g, 0, none⟩ = false ∧ w.frozen? ⟨g, 1, none⟩ = false :=
  ⟨by rw [h.cell]; rfl, by rw [h.cell]; rfl, h.frozen _, h.frozen _⟩
theorem Blk.set2 {w : World} {g : Nat} {t : TypeId} {u v : Value} (h : Blk w g t #[u, v]) (u' v' : Value) : Blk ((w.setCell ⟨g, 0, none⟩ u').setCell ⟨g, 1, none⟩ v') g t #[u', v'] := (h.set_ 0 u').set_ 1 v'
theorem Blk.other {w : World} {g g' k : Nat} {t : TypeId} {cs : Array Value} (h : Blk w g t cs) (hne : g ≠ g') (u : Value) : Blk (w.setCell ⟨g', k, none⟩ u) g t cs := by
  unfold Blk at h ⊢
  rw [← h]
  simp [World.setCell, Array.getElem?_modify, Ne.symm hne]

set_option maxHeartbeats 8000000 in
theorem ordStamps_walk (a b c d : Int) (w : World) (ha : -9223372036854775808 ≤ a ∧ a ≤ 9223372036854775807) (hb : -9223372036854775808 ≤ b ∧ b ≤ 9223372036854775807)
    (hc : -9223372036854775808 ≤ c ∧ c ≤ 9223372036854775807) (hd : -9223372036854775808 ≤ d ∧ d ≤ 9223372036854775807) (hm : MaxL w) :
    Calls Tryd.prog 9 #[.agg #[.int .i64 a, .int .i64 b], .agg #[.int .i64 c, .int .i64 d]] w fun e w' => e = .returned (.bool true) ∧ Below w.heap.size w w' := by
  have T0 : Blk ((w.alloc (.cells #[.int .i64 a, .int .i64 b] 31)).alloc (.cells #[.int .i64 c, .int .i64 d] 31)) w.heap.size 31 #[.int .i64 a, .int .i64 b] ∧
      Blk ((w.alloc (.cells #[.int .i64 a, .int .i64 b] 31)).alloc (.cells #[.int .i64 c, .int .i64 d] 31)) (w.heap.size + 1) 31 #[.int .i64 c, .int .i64 d] ∧
      Below w.heap.size w ((w.alloc (.cells #[.int .i64 a, .int .i64 b] 31)).alloc (.cells #[.int .i64 c, .int .i64 d] 31)) := by
    refine ⟨(Blk.new w _ _).below ((Below.refl (w.alloc (.cells #[.int .i64 a, .int .i64 b] 31)).heap.size _).alloc (Nat.le_refl _) _) (by simp), ?_, ((Below.refl _ _).alloc (Nat.le_refl _) _).alloc (by simp) _⟩
    have := Blk.new (w.alloc (.cells #[.int .i64 a, .int .i64 b] 31)) 31 #[.int .i64 c, .int .i64 d]
    rw [show (w.alloc (.cells #[.int .i64 a, .int .i64 b] 31)).heap.size = w.heap.size + 1 from by simp] at this
    exact this
  have hm0 := hm.below T0.2.2
  have hmay1 := may_of a b
  have hmay2 := may_of c d
  have s1 := fun V => lawStamp a b V
  have s2 := fun V => lawStamp c d V
  generalize a % 1099511627777 = x at hmay1 s1
  generalize b % 1048576 = y at hmay1 s1
  generalize c % 1099511627777 = x' at hmay2 s2
  generalize d % 1048576 = y' at hmay2 s2
  have S1 := Lib.hid s1
  have S2 := Lib.hid s2
  have T0' := Lib.hid T0
  clear s1 s2 T0
  go_enter Tryd.func9, Tryd.ntmps9
  go_wp2_with fail
  refine (works _ hm0).mono ?_
  rintro e w1 ⟨rfl, hb1⟩
  have T1 := keepT T0'.out hb1
  obtain ⟨f0, f1, -, -⟩ := T1.1.c2
  obtain ⟨f2, f3, -, -⟩ := T1.2.1.c2
  have TD : Blk w1.drew w.heap.size 31 #[.int .i64 a, .int .i64 b] ∧ Blk w1.drew (w.heap.size + 1) 31 #[.int .i64 c, .int .i64 d] ∧ Below w.heap.size w w1.drew := ⟨T1.1, T1.2.1, T1.2.2.drew⟩
  clear hb1 T0'
  go_wp2_with fail
  go_cut [] from 12 to 15 (fun wx => Hid (Blk wx w.heap.size 31 #[.int .i64 x, .int .i64 y]) ∧ Hid (Blk wx (w.heap.size + 1) 31 #[.int .i64 x', .int .i64 y']) ∧ Hid (Below w.heap.size w wx))
  case first =>
    go_region_with (first
      | (go_at_call_of 23 (Value.agg #[.int .i64 a, .int .i64 b]); refine (S1.out _).mono ?_; rintro e w2 ⟨rfl, hb2⟩; have T2 := keepT (by first | exact TD | exact T1) hb2; obtain ⟨k0, k1, k2, k3⟩ := T2.1.c2; obtain ⟨k4, k5, k6, k7⟩ := T2.2.1.c2; clear hb2)
      | (go_at_call_of 23 (Value.agg #[.int .i64 c, .int .i64 d]); refine (S2.out _).mono ?_; rintro e w3 ⟨rfl, hb3⟩; have T3 := keepT T2 hb3; obtain ⟨l0, l1, l2, l3⟩ := T3.1.c2; obtain ⟨l4, l5, l6, l7⟩ := T3.2.1.c2; clear hb3))
    all_goals (try go_wp2_with fail)
    all_goals go_meet
    all_goals exact ⟨((T3.1.set2 (.int .i64 x) (.int .i64 y)).other (by omega) _).other (by omega) _, ((T3.2.1.other (by omega) _).other (by omega) _).set2 (.int .i64 x') (.int .i64 y'),
      (((T3.2.2.setCell (Nat.le_refl _) _).setCell (Nat.le_refl _) _).setCell (Nat.le_succ _) _).setCell (Nat.le_succ _) _⟩
  case rest =>
    obtain ⟨B1, B2, hw⟩ := hcut
    clear T1 TD f0 f1 f2 f3 S1 S2 hm0
    have T2 := (⟨B1.out, B2.out, hw.out⟩ : Blk wc w.heap.size 31 #[.int .i64 x, .int .i64 y] ∧ Blk wc (w.heap.size + 1) 31 #[.int .i64 x', .int .i64 y'] ∧ Below w.heap.size w wc)
    obtain ⟨f0, f1, -, -⟩ := T2.1.c2
    have d1 := fun V => down x y V hmay1
    have d2 := fun V => down x' y' V hmay2
    have l1 := odown_len x y
    have l2 := odown_len x' y'
    have cm := fun V => cmp_ ⟨(odown x y).toArray⟩ ⟨(odown x' y').toArray⟩ _ V (cmp_odown x y x' y' hmay1 hmay2)
    generalize odown x y = p at d1 l1 cm
    generalize odown x' y' = q at d2 l2 cm
    have L1 : (⟨p.toArray⟩ : ByteArray).size = 9 := l1
    have L2 : (⟨q.toArray⟩ : ByteArray).size = 9 := l2
    generalize (⟨p.toArray⟩ : ByteArray) = P at d1 L1 cm
    generalize (⟨q.toArray⟩ : ByteArray) = Q at d2 L2 cm
    have D1 := Lib.hid d1
    have D2 := Lib.hid d2
    have CM := Lib.hid cm
    clear d1 d2 cm l1 l2 B1 B2 hw
    go_wp2_with fail
    refine (D1.out _).mono ?_
    rintro e w3 ⟨rfl, hb3⟩
    have T3 := keepT T2 hb3
    obtain ⟨g0, g1, -, -⟩ := T3.2.1.c2
    clear hb3 T2 f0 f1
    go_wp2_with fail
    refine (D2.out _).mono ?_
    rintro e w4 ⟨rfl, hb4⟩
    have T4 := keepT T3 hb4
    obtain ⟨f0, f1, -, -⟩ := T4.1.c2
    obtain ⟨f2, f3, -, -⟩ := T4.2.1.c2
    have hw4 := T4.2.2
    clear hb4 T3 g0 g1 T4 hm hmay1 hmay2
    have e1 : ((P.size : Nat) : Int) = 9 := by omega
    have e2 : ((Q.size : Nat) : Int) = 9 := by omega
    by_cases hA : x' < x
    · rw [if_pos (Or.inl hA)] at CM
      go_wp2_with (go_at_call 25; refine (CM.out _).mono ?_; rintro e w6 ⟨rfl, rfl⟩)
      go_ret
      exact ⟨rfl, hw4⟩
    · by_cases hE : x = x'
      · subst hE
        by_cases hY : y' < y
        · rw [if_pos (Or.inr ⟨rfl, hY⟩)] at CM
          go_wp2_with (go_at_call 25; refine (CM.out _).mono ?_; rintro e w6 ⟨rfl, rfl⟩)
          go_ret
          exact ⟨rfl, hw4⟩
        · by_cases hZ : y = y'
          · subst hZ
            rw [if_neg (by omega), if_pos ⟨rfl, rfl⟩] at CM
            go_wp2_with (go_at_call 25; refine (CM.out _).mono ?_; rintro e w6 ⟨rfl, rfl⟩)
            go_ret
            exact ⟨rfl, hw4⟩
          · rw [if_neg (by omega), if_neg (by omega)] at CM
            have hZ' : (y == y') = false := by simpa using hZ
            go_wp2_with (go_at_call 25; refine (CM.out _).mono ?_; rintro e w6 ⟨rfl, rfl⟩)
            go_ret
            exact ⟨rfl, hw4⟩
      · rw [if_neg (by omega), if_neg (by omega)] at CM
        have hE' : (x == x') = false := by simpa using hE
        go_wp2_with (go_at_call 25; refine (CM.out _).mono ?_; rintro e w6 ⟨rfl, rfl⟩)
        go_ret
        exact ⟨rfl, hw4⟩
end Go.Proofs.YtcphhambckohbaaDoor
