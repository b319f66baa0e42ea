/-
  OrdBack: the walk.
-/
import Derived.Test.YtcphhambckohbaaDoorOMore
import Derived.Deep.Cut
import Derived.Deep.CutRange
set_option linter.unusedVariables false
namespace Go.Proofs.YtcphhambckohbaaDoor
open Go.RowKit

set_option maxHeartbeats 8000000 in
theorem ordBack_walk (s : ByteArray) (a b : Int) (t : ByteArray) (w : World) (hs : s.size ≤ 140737488351232) (ha : -9223372036854775808 ≤ a ∧ a ≤ 9223372036854775807) (hb : -9223372036854775808 ≤ b ∧ b ≤ 9223372036854775807) (ht : t.size ≤ 140737488351232) (hm : MaxL w) :
    Calls Tryd.prog 5 #[.string s, .agg #[.int .i64 a, .int .i64 b], .string t] w fun e w' => e = .returned (.bool true) ∧ Below w.heap.size w w' := by
  have hb0 : Below w.heap.size w (w.alloc (.cells #[.int .i64 a, .int .i64 b] 31)) := (Below.refl _ _).alloc (Nat.le_refl _) _
  have hB0 := Blk.new w 31 #[.int .i64 a, .int .i64 b]
  go_enter Tryd.func5, Tryd.ntmps5
  go_wp2_with fail
  refine (works _ (hm.alloc _)).mono ?_
  rintro e w1 ⟨rfl, hb1⟩
  have hB1 := hB0.below hb1 (by simp)
  have hw1 := hb0.trans (hb1.mono (by simp))
  clear hb1 hB0 hb0
  go_wp2_with fail
  have q1 : (0 : Int) ≤ min (s.size : Int) 1000 := by omega
  have q2 : min (s.size : Int) 1000 ≤ (s.size : Int) := by omega
  have f0 : w1.cell? ⟨w.heap.size, 0, none⟩ = some (.int .i64 a) := by rw [hB1.cell]; rfl
  have f1 : w1.cell? ⟨w.heap.size, 1, none⟩ = some (.int .i64 b) := by rw [hB1.cell]; rfl
  have HB := Lib.hid (fun (w4 : World) (h : Below w1.heap.size w1 w4) => hB1.below h hB1.lt)
  have HW := Lib.hid (fun (w4 : World) (h : Below w1.heap.size w1 w4) => hw1.trans (h.mono hw1.size))
  have hmay := may_of a b
  obtain ⟨x, hx⟩ : ∃ x, x = a % 1099511627777 := ⟨_, rfl⟩
  obtain ⟨y, hy⟩ : ∃ y, y = b % 1048576 := ⟨_, rfl⟩
  have c1 := fun V => lawStamp a b V
  rw [← hx, ← hy] at hmay
  rw [← hx, ← hy] at c1
  have C1 := Lib.hid c1
  clear c1 hx hy hB1
  go_cut [0] from 19 to 25 (fun ss wx => ss = .string (s.extract 0 (min (s.size : Int) 1000).toNat) ∧ Hid (Blk wx w.heap.size 31 #[.int .i64 x, .int .i64 y]) ∧ Hid (Below w.heap.size w wx))
  case first =>
    go_region_with (go_at_call 23; refine (C1.out _).mono ?_; rintro e w2 ⟨rfl, hb2⟩; have hB2 := HB.out w2 ⟨hb2.os, hb2.tape, hb2.output, hb2.size, hb2.block⟩; have hw2 := HW.out w2 ⟨hb2.os, hb2.tape, hb2.output, hb2.size, hb2.block⟩; have k0 : w2.cell? ⟨w.heap.size, 0, none⟩ = some (.int .i64 a) := (by rw [hB2.cell]; rfl); have k1 : w2.cell? ⟨w.heap.size, 1, none⟩ = some (.int .i64 b) := (by rw [hB2.cell]; rfl); have k2 : w2.frozen? ⟨w.heap.size, 0, none⟩ = false := hB2.frozen _; have k3 : w2.frozen? ⟨w.heap.size, 1, none⟩ = false := hB2.frozen _; clear hb2)
    all_goals (try go_wp2_with fail)
    all_goals go_meet
    all_goals exact ⟨rfl, (hB2.set_ 0 _).set_ 1 _, (hw2.setCell (Nat.le_refl _) _).setCell (Nat.le_refl _) _⟩
  case rest =>
    obtain ⟨rfl, hB2, hw2⟩ := hcut
    clear hw1 f0 f1 HB HW C1 q1 q2
    have hu := cut1000 s
    generalize s.extract 0 (min (s.size : Int) 1000).toNat = u at hu ⊢
    have hm2 := hm.below hw2.out
    have c1 := fun V hV => key u V hu hV
    have c2 := fun V => down x y V hmay
    have hlen := esc_len (sb u)
    rw [sb_len] at hlen
    obtain ⟨P, hP⟩ : ∃ P, P = (⟨(okey (sb u)).toArray⟩ : ByteArray) := ⟨_, rfl⟩
    obtain ⟨Q, hQ⟩ : ∃ Q, Q = (⟨(odown x y).toArray⟩ : ByteArray) := ⟨_, rfl⟩
    obtain ⟨R, hR⟩ : ∃ R, R = (⟨(odown x y ++ sb t).toArray⟩ : ByteArray) := ⟨_, rfl⟩
    have hPs : P.size ≤ 2002 := by
      rw [hP]
      show (okey (sb u)).length ≤ 2002
      simp [okey]; omega
    have hQs : Q.size = 9 := by
      rw [hQ]
      exact odown_len x y
    have hRs : R.size ≤ 150000000000000 := by
      rw [hR]
      show (odown x y ++ sb t).length ≤ _
      rw [List.length_append, odown_len, sb_len]; omega
    have hPQ : sb (P ++ Q ++ t) = esc (sb u) ++ 0 :: 0 :: (odown x y ++ sb t) := by
      have e1 : sb P = okey (sb u) := by rw [hP, sb_mk]
      have e2 : sb Q = odown x y := by rw [hQ, sb_mk]
      rw [ba_app, ba_app, e1, e2]
      simp [okey]
    have hT : TkAns (tkey 1000 (sb (P ++ Q ++ t))) = .returned (.tuple #[.string u, .string R, .int .i64 0]) := by
      rw [hPQ, tkey_okey _ _ _ (by rw [sb_len]; exact hu), TkAns_ok, mk_sb, hR]
    have hPQs : (P ++ Q ++ t).size ≤ 150000000000000 := by
      rw [ByteArray.size_append, ByteArray.size_append]; omega
    have c3 := fun V => take (P ++ Q ++ t) V hPQs
    rw [hT] at c3
    have c4 := fun V => takeDownAny R V hRs
    have hD : tdown (sb R) = .ok (x, y, sb t) := by rw [hR, sb_mk]; exact tdown_odown x y _ hmay
    rw [hD] at c4
    have c4' : ∀ V, Calls Tryd.prog 21 #[.string R] V fun e w' => e = .returned (.tuple #[.agg #[.int .i64 x, .int .i64 y], .string t, .int .i64 0]) ∧ Below V.heap.size V w' := fun V => (c4 V).mono fun e w' ⟨h1, h2⟩ => ⟨by rw [h1]; show Ending.returned (.tuple #[.agg #[.int .i64 x, .int .i64 y], .string ⟨(sb t).toArray⟩, .int .i64 0]) = _; rw [mk_sb], h2⟩
    rw [← hP] at c1
    rw [← hQ] at c2
    have C1 := Lib.hid c1
    have C2 := Lib.hid c2
    have C3 := Lib.hid c3
    have C4 := Lib.hid c4'
    clear c1 c2 c3 c4 c4' hP hQ hR hD hT hPQ hlen hmay hRs hPQs
    go_wp2_with fail
    refine (C1.out _ hm2).mono ?_
    rintro e w3 ⟨rfl, hb3⟩
    have hB3 := hB2.out.below hb3 hB2.out.lt
    have hw3 := hw2.out.trans (hb3.mono hw2.out.size)
    clear hb3 hB2 hw2 hm2
    have g0 : w3.cell? ⟨w.heap.size, 0, none⟩ = some (.int .i64 x) := by rw [hB3.cell]; rfl
    have g1 : w3.cell? ⟨w.heap.size, 1, none⟩ = some (.int .i64 y) := by rw [hB3.cell]; rfl
    go_wp2_with fail
    refine (C2.out _).mono ?_
    rintro e w4 ⟨rfl, hb4⟩
    have hB4 := hB3.below hb4 hB3.lt
    have hw4 := hw3.trans (hb4.mono hw3.size)
    clear hb4 hB3 hw3 g0 g1
    go_wp2_with fail
    refine (C3.out _).mono ?_
    rintro e w5 ⟨rfl, hb5⟩
    have hB5 := hB4.below hb5 hB4.lt
    have hw5 := hw4.trans (hb5.mono hw4.size)
    clear hb5 hB4 hw4
    go_wp2_with fail
    refine (C4.out _).mono ?_
    rintro e w6 ⟨rfl, hb6⟩
    have hB6 := hB5.below hb6 hB5.lt
    have hw6 := hw5.trans (hb6.mono hw5.size)
    clear hb6 hB5 hw5
    have g0 : w6.cell? ⟨w.heap.size, 0, none⟩ = some (.int .i64 x) := by rw [hB6.cell]; rfl
    have g1 : w6.cell? ⟨w.heap.size, 1, none⟩ = some (.int .i64 y) := by rw [hB6.cell]; rfl
    have k0 := fun o => (World.cell?_alloc_lt w6 o ⟨w.heap.size, 0, none⟩ (World.block_lt_of_cell? w6 _ g0)).trans g0
    have k1 := fun o => (World.cell?_alloc_lt w6 o ⟨w.heap.size, 1, none⟩ (World.block_lt_of_cell? w6 _ g1)).trans g1
    go_wp2
    go_ret
    exact ⟨rfl, hw6.alloc hw6.size _⟩
end Go.Proofs.YtcphhambckohbaaDoor
