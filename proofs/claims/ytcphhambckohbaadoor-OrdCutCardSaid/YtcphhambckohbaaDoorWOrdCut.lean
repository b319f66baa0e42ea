/-
  OrdCut: the walk.
-/
import Derived.Test.YtcphhambckohbaaDoorOMore
set_option linter.unusedVariables false
namespace Go.Proofs.YtcphhambckohbaaDoor
open Go.RowKit

theorem isN {t : ByteArray} (h : 0 < t.size) : t.toList.isEmpty = false := by
  rw [Lib.toList_data]
  cases hl : t.data.toList with
  | nil =>
    have : t.size = 0 := by rw [← sb_len]; show t.data.toList.length = 0; rw [hl]; rfl
    omega
  | cons a l => rfl

/-- A number is brought below n. -/
theorem brought (i : Int) (n : Nat) (hn : 0 < n) (hb : n ≤ 9223372036854775807) : ∃ k : Nat, k < n ∧ ∀ w : World, Calls Tryd.prog 27 #[.int .i64 i, .int .i64 (n : Int)] w fun e w' => e = .returned (.int .i64 (k : Int)) ∧ w = w' := by
  have h1 := Int.emod_nonneg i (b := (n : Int)) (by omega)
  have h2 := Int.emod_lt_of_pos i (b := (n : Int)) (by omega)
  refine ⟨(i % (n : Int)).toNat, by omega, fun w => ?_⟩
  have := bring i n w (by omega) (by omega)
  rw [show (((i % (n : Int)).toNat : Nat) : Int) = i % (n : Int) from by omega]
  exact this

set_option maxHeartbeats 1000000 in
theorem ordCut_walk (s : ByteArray) (a b : Int) (at_ : Int) (w : World) (hs : s.size ≤ 140737488351232) (ha : -9223372036854775808 ≤ a ∧ a ≤ 9223372036854775807) (hb : -9223372036854775808 ≤ b ∧ b ≤ 9223372036854775807)
    (hat : -9223372036854775808 ≤ at_ ∧ at_ ≤ 9223372036854775807) (hm : MaxL w) :
    Calls Tryd.prog 10 #[.string s, .agg #[.int .i64 a, .int .i64 b], .int .i64 at_] w fun e w' => e = .returned (.bool true) ∧ Below w.heap.size w w' := by
  have hb0 : Below w.heap.size w (w.alloc (.cells #[.int .i64 a, .int .i64 b] 31)) := (Below.refl _ _).alloc (Nat.le_refl _) _
  have hB0 := Blk.new w 31 #[.int .i64 a, .int .i64 b]
  have hmay := may_of a b
  have c1 := fun V => lawStamp a b V
  generalize a % 1099511627777 = x at hmay c1
  generalize b % 1048576 = y at hmay c1
  have hu := cut1000 s
  obtain ⟨u, hu'⟩ : ∃ u, u = s.extract 0 (min (s.size : Int) 1000).toNat := ⟨_, rfl⟩
  rw [← hu'] at hu
  have c2 := fun V hV => key u V hu hV
  have c3 := fun V => down x y V hmay
  have hlen := esc_len (sb u)
  rw [sb_len] at hlen
  obtain ⟨P, hP⟩ : ∃ P, P = (⟨(okey (sb u)).toArray⟩ : ByteArray) := ⟨_, rfl⟩
  obtain ⟨Q, hQ⟩ : ∃ Q, Q = (⟨(odown x y).toArray⟩ : ByteArray) := ⟨_, rfl⟩
  have hPl : P.size = (okey (sb u)).length := by rw [hP]; rfl
  have hPs : P.size ≤ 2002 := by rw [hPl]; simp [okey]; omega
  have hP0 : 0 < P.size := by rw [hPl]; simp [okey]
  have hQs : Q.size = 9 := by rw [hQ]; exact odown_len x y
  obtain ⟨k, hk, bk⟩ := brought at_ P.size hP0 (by omega)
  obtain ⟨l, hl, bl⟩ := brought at_ Q.size (by omega) (by omega)
  have hPk : sb (P.extract 0 k) = (okey (sb u)).take k := by rw [sb_ext, hP]; rfl
  have c4 := fun V => take (P.extract 0 k) V (by rw [ByteArray.size_extract]; omega)
  rw [hPk, tkey_cut (sb u) 1000 k (by rw [sb_len]; exact hu) (by rw [← hPl]; exact hk), TkAns_err] at c4
  have c5 := fun V => takeDown_short (Q.extract 0 l) V (by rw [ByteArray.size_extract]; omega)
  rw [← hP] at c2
  rw [← hQ] at c3
  have n1 := isN hP0
  have n2 := isN (t := Q) (by omega)
  have C1 := Lib.hid c1
  have C2 := Lib.hid c2
  have C3 := Lib.hid c3
  have C4 := Lib.hid c4
  have C5 := Lib.hid c5
  have B1 := Lib.hid bk
  have B2 := Lib.hid bl
  have HU := Lib.hid hu'
  have z1 : (k : Int) ≤ (P.size : Int) := by omega
  have z2 : (l : Int) ≤ (Q.size : Int) := by omega
  have q1 : (0 : Int) ≤ min (s.size : Int) 1000 := by omega
  have q2 : min (s.size : Int) 1000 ≤ (s.size : Int) := by omega
  have hQs' : Q.size ≤ 9 := by omega
  clear c1 c2 c3 c4 c5 bk bl hu' hlen hP hQ hPl hPk hmay hQs
  go_enter Tryd.func10, Tryd.ntmps10
  go_wp2_with fail
  refine (works _ (hm.alloc _)).mono ?_
  rintro e w1 ⟨rfl, hb1⟩
  have hB1 := hB0.below hb1 (by simp)
  have hw1 := hb0.trans (hb1.mono (by simp))
  have hm1 := hm.below hw1
  clear hb1 hB0 hb0
  go_wp2_with fail
  rw [← HU.out]
  refine (C2.out _ hm1).mono ?_
  rintro e w2 ⟨rfl, hb2⟩
  have hB2 := hB1.below hb2 hB1.lt
  have hw2 := hw1.trans (hb2.mono hw1.size)
  clear hb2 hB1 hw1 hm1
  have f0 : w2.cell? ⟨w.heap.size, 0, none⟩ = some (.int .i64 a) := by rw [hB2.cell]; rfl
  have f1 : w2.cell? ⟨w.heap.size, 1, none⟩ = some (.int .i64 b) := by rw [hB2.cell]; rfl
  go_wp2_with fail
  refine (C1.out _).mono ?_
  rintro e w3 ⟨rfl, hb3⟩
  have hw3 := hw2.trans (hb3.mono hw2.size)
  clear hb3 hw2 f0 f1 hB2
  go_wp2_with fail
  refine (C3.out _).mono ?_
  rintro e w4 ⟨rfl, hb4⟩
  have hw4 := hw3.trans (hb4.mono hw3.size)
  clear hb4 hw3
  go_wp2_with fail
  refine (B1.out _).mono ?_
  rintro e w5 ⟨rfl, rfl⟩
  go_wp2_with fail
  refine (C4.out _).mono ?_
  rintro e w6 ⟨rfl, hb6⟩
  have hw6 := hw4.trans (hb6.mono hw4.size)
  clear hb6 hw4
  go_wp2_with fail
  refine (B2.out _).mono ?_
  rintro e w7 ⟨rfl, rfl⟩
  go_wp2_with fail
  refine (C5.out _).mono ?_
  rintro e w8 ⟨he, hb8⟩
  unfold TdAns at he
  subst he
  have hw8 := hw6.trans (hb8.mono hw6.size)
  clear hb8 hw6
  go_wp2
  go_ret
  exact ⟨rfl, hw8.alloc hw8.size _⟩
end Go.Proofs.YtcphhambckohbaaDoor
