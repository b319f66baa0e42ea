/-
  OrdKnown: the walk. (Written by wip/tools/genordknown.py.)
-/
import Derived.Test.YtcphhambckohbaaDoorOMore
set_option linter.unusedVariables false
namespace Go.Proofs.YtcphhambckohbaaDoor
open Go.RowKit

theorem rep_ (x : UInt8) (n : Nat) (hn : n ≤ 2000) (L : ByteArray) (hL : sb L = List.replicate n x) (V : World) :
    Calls Tryd.prog 28 #[.string ⟨#[x]⟩, .int .i64 (n : Int)] V fun e w' => e = .returned (.string L) ∧ Below V.heap.size V w' := by
  refine (Tryd.strings_Repeat ⟨#[x]⟩ n V (by omega) (by show 1 * n ≤ _; omega)).mono fun e w' ⟨h1, h2⟩ => ⟨?_, h2⟩
  rw [h1]
  have e1 : Lib.repeatL [x] n = sb L := by
    have := Lib.repeatL_replicate x 1 n
    rw [hL, ← Nat.mul_one n]
    simpa using this
  show Ending.returned (.string ⟨(Lib.repeatL [x] n).toArray⟩) = _
  rw [e1, mk_sb]

theorem tkey_rep {b : UInt8} (hb : b ≠ 0) : ∀ (m n : Nat) (r : List UInt8), m ≤ n → tkey n (List.replicate m b ++ r) = push (List.replicate m b) (tkey (n - m) r)
  | 0, n, r, _ => by simp [push_nil]
  | m + 1, n, r, h => by
    rw [List.replicate_succ, List.cons_append, tkey_byte n hb, if_neg (by omega), tkey_rep hb m (n - 1) r (by omega), show n - (m + 1) = n - 1 - m from by omega]
    cases tkey (n - 1 - m) r <;> rfl
theorem tkey_rep_big {b : UInt8} (hb : b ≠ 0) : ∀ (m n : Nat) (r : List UInt8), n < m → tkey n (List.replicate m b ++ r) = .error 5
  | 0, n, r, h => absurd h (Nat.not_lt_zero _)
  | m + 1, n, r, h => by
    rw [List.replicate_succ, List.cons_append, tkey_byte n hb]
    by_cases hn : n = 0
    · rw [if_pos hn]
    · rw [if_neg hn, tkey_rep_big hb m (n - 1) r (by omega)]
      rfl

theorem takeErr (s : ByteArray) (k : Nat) (V : World) (hs : s.size ≤ 150000000000000) (h : tkey 1000 (sb s) = .error k) :
    Calls Tryd.prog 14 #[.string s] V fun e w' => e = .returned (.tuple #[.string ⟨#[]⟩, .string ⟨#[]⟩, .int .i64 (k : Int)]) ∧ Below V.heap.size V w' := by
  have := take s V hs
  rw [h] at this
  exact this
theorem takeDownErr (s : ByteArray) (k : Nat) (V : World) (hs : s.size ≤ 150000000000000) (h : tdown (sb s) = .error k) :
    Calls Tryd.prog 21 #[.string s] V fun e w' => e = .returned (.tuple #[.agg #[.int .i64 0, .int .i64 0], .string ⟨#[]⟩, .int .i64 (k : Int)]) ∧ Below V.heap.size V w' := by
  have := takeDownAny s V hs
  rw [h] at this
  exact this
theorem checkB (s : ByteArray) (c : Int) (V : World) (h : (if 1 ≤ s.size ∧ s.size ≤ 32 then (0 : Int) else 2) = c) :
    Calls Tryd.prog 16 #[.string s] V fun e w' => e = .returned (.int .i64 c) ∧ Below V.heap.size V w' :=
  (check s V).mono fun e w' ⟨h1, h2⟩ => ⟨by rw [h1, h], h2 ▸ Below.refl _ _⟩
theorem downB (a b : Int) (D : ByteArray) (V : World) (h : may a b = true) (hD : odown a b = sb D) :
    Calls Tryd.prog 19 #[.agg #[.int .i64 a, .int .i64 b]] V fun e w' => e = .returned (.tuple #[.string D, .int .i64 0]) ∧ Below V.heap.size V w' := by
  have := down a b V h
  rw [hD, mk_sb] at this
  exact this
theorem size1 (s : ByteArray) (x : UInt8) : (s ++ ⟨#[x]⟩ : ByteArray).size = s.size + 1 := by rw [ByteArray.size_append]; rfl
theorem size2 (s : ByteArray) (x y : UInt8) : (s ++ ⟨#[x, y]⟩ : ByteArray).size = s.size + 2 := by rw [ByteArray.size_append]; rfl
theorem okey_len1000 : (okey (List.replicate 1000 0)).length = 2002 := by decide +kernel

set_option maxRecDepth 100000 in
set_option maxHeartbeats 8000000 in
theorem ordKnown_walk (w : World) (hm : MaxL w) :
    Calls Tryd.prog 11 #[] w fun e w' => e = .returned (.bool true) ∧ Below w.heap.size w w' := by
  obtain ⟨L, hL⟩ : ∃ L : ByteArray, sb L = List.replicate 1000 0 := ⟨⟨(List.replicate 1000 0).toArray⟩, sb_mk _⟩
  obtain ⟨X, hX⟩ : ∃ L : ByteArray, sb L = List.replicate 1001 120 := ⟨⟨(List.replicate 1001 120).toArray⟩, sb_mk _⟩
  obtain ⟨Y, hY⟩ : ∃ L : ByteArray, sb L = List.replicate 1000 120 := ⟨⟨(List.replicate 1000 120).toArray⟩, sb_mk _⟩
  obtain ⟨U, hU⟩ : ∃ L : ByteArray, sb L = List.replicate 32 107 := ⟨⟨(List.replicate 32 107).toArray⟩, sb_mk _⟩
  obtain ⟨Z, hZ⟩ : ∃ L : ByteArray, sb L = List.replicate 33 107 := ⟨⟨(List.replicate 33 107).toArray⟩, sb_mk _⟩
  obtain ⟨A, hA⟩ : ∃ A : ByteArray, sb A = okey (sb L) := ⟨⟨(okey (sb L)).toArray⟩, sb_mk _⟩
  have sL : L.size = 1000 := by rw [← sb_len, hL]; simp
  have sX : X.size = 1001 := by rw [← sb_len, hX]; simp
  have sY : Y.size = 1000 := by rw [← sb_len, hY]; simp
  have sU : U.size = 32 := by rw [← sb_len, hU]; simp
  have sZ : Z.size = 33 := by rw [← sb_len, hZ]; simp
  have sA : A.size = 2002 := by rw [← sb_len, hA, hL]; exact okey_len1000
  obtain ⟨L1, hL1⟩ : ∃ L1, L1 = L ++ ⟨#[120]⟩ := ⟨_, rfl⟩
  obtain ⟨A1, hA1⟩ : ∃ A1, A1 = A ++ ⟨#[122]⟩ := ⟨_, rfl⟩
  obtain ⟨X1, hX1⟩ : ∃ X1, X1 = X ++ ⟨#[0, 0]⟩ := ⟨_, rfl⟩
  obtain ⟨Y1, hY1⟩ : ∃ Y1, Y1 = Y ++ ⟨#[0, 2]⟩ := ⟨_, rfl⟩
  have sL1 : L1.size = 1001 := by rw [hL1, size1, sL]
  have sA1 : A1.size = 2003 := by rw [hA1, size1, sA]
  have sX1 : X1.size = 1003 := by rw [hX1, size2, sX]
  have sY1 : Y1.size = 1002 := by rw [hY1, size2, sY]
  have bA1 : sb A1 = esc (sb L) ++ 0 :: 0 :: [122] := by rw [hA1, ba_app, hA]; simp [okey, sb]
  have bX1 : sb X1 = List.replicate 1001 120 ++ [0, 0] := by rw [hX1, ba_app, hX]; rfl
  have bY1 : sb Y1 = List.replicate 1000 120 ++ [0, 2] := by rw [hY1, ba_app, hY]; rfl
  have r1 := (show ∀ V, Calls Tryd.prog 28 #[.string ⟨#[0]⟩, .int .i64 1000] V fun e w' => e = .returned (.string L) ∧ Below V.heap.size V w' from fun V => rep_ 0 1000 (by decide) L hL V)
  have r2 := (show ∀ V, Calls Tryd.prog 28 #[.string ⟨#[120]⟩, .int .i64 1001] V fun e w' => e = .returned (.string X) ∧ Below V.heap.size V w' from fun V => rep_ 120 1001 (by decide) X hX V)
  have r3 := (show ∀ V, Calls Tryd.prog 28 #[.string ⟨#[120]⟩, .int .i64 1000] V fun e w' => e = .returned (.string Y) ∧ Below V.heap.size V w' from fun V => rep_ 120 1000 (by decide) Y hY V)
  have r5 := (show ∀ V, Calls Tryd.prog 28 #[.string ⟨#[107]⟩, .int .i64 32] V fun e w' => e = .returned (.string U) ∧ Below V.heap.size V w' from fun V => rep_ 107 32 (by decide) U hU V)
  have r6 := (show ∀ V, Calls Tryd.prog 28 #[.string ⟨#[107]⟩, .int .i64 33] V fun e w' => e = .returned (.string Z) ∧ Below V.heap.size V w' from fun V => rep_ 107 33 (by decide) Z hZ V)
  have r4 := (show ∀ V, Calls Tryd.prog 28 #[.string ⟨#[0]⟩, .int .i64 9] V fun e w' => e = .returned (.string ⟨#[0, 0, 0, 0, 0, 0, 0, 0, 0]⟩) ∧ Below V.heap.size V w' from fun V => rep_ 0 9 (by decide) ⟨#[0, 0, 0, 0, 0, 0, 0, 0, 0]⟩ rfl V)
  have k1 := (show ∀ V, MaxL V → Calls Tryd.prog 12 #[.string L] V fun e w' => e = .returned (.tuple #[.string A, .int .i64 0]) ∧ Below V.heap.size V w' from fun V hV => by have := key L V (by omega) hV; rw [← hA, mk_sb] at this; exact this)
  have k2 := (show ∀ V, Calls Tryd.prog 12 #[.string L1] V fun e w' => e = .returned (.tuple #[.string ⟨#[]⟩, .int .i64 5]) ∧ Below V.heap.size V w' from fun V => (key_no L1 V (by omega)).mono fun e w' ⟨h1, h2⟩ => ⟨h1, h2 ▸ Below.refl _ _⟩)
  have t1 := (show ∀ V, Calls Tryd.prog 14 #[.string A1] V fun e w' => e = .returned (.tuple #[.string L, .string ⟨#[122]⟩, .int .i64 0]) ∧ Below V.heap.size V w' from fun V => by
    have h := take A1 V (by omega)
    rw [bA1, tkey_okey _ _ _ (by rw [sb_len]; omega), TkAns_ok, mk_sb] at h
    exact h)
  have t2 := (show ∀ V, Calls Tryd.prog 14 #[.string X1] V fun e w' => e = .returned (.tuple #[.string ⟨#[]⟩, .string ⟨#[]⟩, .int .i64 5]) ∧ Below V.heap.size V w' from fun V => takeErr X1 5 V (by omega) (by rw [bX1]; exact tkey_rep_big (by decide) 1001 1000 _ (by decide)))
  have t3 := (show ∀ V, Calls Tryd.prog 14 #[.string X] V fun e w' => e = .returned (.tuple #[.string ⟨#[]⟩, .string ⟨#[]⟩, .int .i64 5]) ∧ Below V.heap.size V w' from fun V => takeErr X 5 V (by omega) (by rw [hX, ← List.append_nil (List.replicate 1001 120)]; exact tkey_rep_big (by decide) 1001 1000 _ (by decide)))
  have t4 := (show ∀ V, Calls Tryd.prog 14 #[.string Y] V fun e w' => e = .returned (.tuple #[.string ⟨#[]⟩, .string ⟨#[]⟩, .int .i64 3]) ∧ Below V.heap.size V w' from fun V => takeErr Y 3 V (by omega) (by rw [hY, ← List.append_nil (List.replicate 1000 120), tkey_rep (by decide) 1000 1000 _ (by decide)]; rfl))
  have t5 := (show ∀ V, Calls Tryd.prog 14 #[.string Y1] V fun e w' => e = .returned (.tuple #[.string ⟨#[]⟩, .string ⟨#[]⟩, .int .i64 4]) ∧ Below V.heap.size V w' from fun V => takeErr Y1 4 V (by omega) (by rw [bY1, tkey_rep (by decide) 1000 1000 _ (by decide)]; rfl))
  have t6 := (show ∀ V, Calls Tryd.prog 14 #[.string ⟨#[]⟩] V fun e w' => e = .returned (.tuple #[.string ⟨#[]⟩, .string ⟨#[]⟩, .int .i64 3]) ∧ Below V.heap.size V w' from fun V => takeErr ⟨#[]⟩ 3 V (by decide) (by kernel_rfl))
  have t7 := (show ∀ V, Calls Tryd.prog 14 #[.string ⟨#[97]⟩] V fun e w' => e = .returned (.tuple #[.string ⟨#[]⟩, .string ⟨#[]⟩, .int .i64 3]) ∧ Below V.heap.size V w' from fun V => takeErr ⟨#[97]⟩ 3 V (by decide) (by kernel_rfl))
  have t8 := (show ∀ V, Calls Tryd.prog 14 #[.string ⟨#[97, 0]⟩] V fun e w' => e = .returned (.tuple #[.string ⟨#[]⟩, .string ⟨#[]⟩, .int .i64 3]) ∧ Below V.heap.size V w' from fun V => takeErr ⟨#[97, 0]⟩ 3 V (by decide) (by kernel_rfl))
  have t9 := (show ∀ V, Calls Tryd.prog 14 #[.string ⟨#[0, 2]⟩] V fun e w' => e = .returned (.tuple #[.string ⟨#[]⟩, .string ⟨#[]⟩, .int .i64 4]) ∧ Below V.heap.size V w' from fun V => takeErr ⟨#[0, 2]⟩ 4 V (by decide) (by kernel_rfl))
  have t10 := (show ∀ V, Calls Tryd.prog 14 #[.string ⟨#[0, 1, 0]⟩] V fun e w' => e = .returned (.tuple #[.string ⟨#[]⟩, .string ⟨#[]⟩, .int .i64 3]) ∧ Below V.heap.size V w' from fun V => takeErr ⟨#[0, 1, 0]⟩ 3 V (by decide) (by kernel_rfl))
  have d1 := (show ∀ V, Calls Tryd.prog 19 #[.agg #[.int .i64 1099511627776, .int .i64 1048575]] V fun e w' => e = .returned (.tuple #[.string ⟨#[0, 0, 0, 0, 0, 0, 0, 0, 0]⟩, .int .i64 0]) ∧ Below V.heap.size V w' from fun V => downB (1099511627776) (1048575) ⟨#[0, 0, 0, 0, 0, 0, 0, 0, 0]⟩ V (by decide) (by decide +kernel))
  have d2 := (show ∀ V, Calls Tryd.prog 19 #[.agg #[.int .i64 0, .int .i64 0]] V fun e w' => e = .returned (.tuple #[.string ⟨#[1, 0, 0, 0, 0, 0, 15, 255, 255]⟩, .int .i64 0]) ∧ Below V.heap.size V w' from fun V => downB (0) (0) ⟨#[1, 0, 0, 0, 0, 0, 15, 255, 255]⟩ V (by decide) (by decide +kernel))
  have d3 := (show ∀ V, Calls Tryd.prog 19 #[.agg #[.int .i64 (1099511627777), .int .i64 (0)]] V fun e w' => e = .returned (.tuple #[.string ⟨#[]⟩, .int .i64 2]) ∧ Below V.heap.size V w' from fun V => down_no (1099511627777) (0) V (by decide))
  have d4 := (show ∀ V, Calls Tryd.prog 19 #[.agg #[.int .i64 (-1), .int .i64 (0)]] V fun e w' => e = .returned (.tuple #[.string ⟨#[]⟩, .int .i64 2]) ∧ Below V.heap.size V w' from fun V => down_no (-1) (0) V (by decide))
  have d5 := (show ∀ V, Calls Tryd.prog 19 #[.agg #[.int .i64 (0), .int .i64 (1048576)]] V fun e w' => e = .returned (.tuple #[.string ⟨#[]⟩, .int .i64 2]) ∧ Below V.heap.size V w' from fun V => down_no (0) (1048576) V (by decide))
  have d6 := (show ∀ V, Calls Tryd.prog 19 #[.agg #[.int .i64 (0), .int .i64 (-1)]] V fun e w' => e = .returned (.tuple #[.string ⟨#[]⟩, .int .i64 2]) ∧ Below V.heap.size V w' from fun V => down_no (0) (-1) V (by decide))
  have e1 := (show ∀ V, Calls Tryd.prog 21 #[.string ⟨#[1, 0, 0, 0, 0, 1, 0, 0, 0]⟩] V fun e w' => e = .returned (.tuple #[.agg #[.int .i64 0, .int .i64 0], .string ⟨#[]⟩, .int .i64 4]) ∧ Below V.heap.size V w' from fun V => takeDownErr ⟨#[1, 0, 0, 0, 0, 1, 0, 0, 0]⟩ 4 V (by decide) (by kernel_rfl))
  have e2 := (show ∀ V, Calls Tryd.prog 21 #[.string ⟨#[0, 0, 0, 0, 0, 0, 16, 0, 0]⟩] V fun e w' => e = .returned (.tuple #[.agg #[.int .i64 0, .int .i64 0], .string ⟨#[]⟩, .int .i64 4]) ∧ Below V.heap.size V w' from fun V => takeDownErr ⟨#[0, 0, 0, 0, 0, 0, 16, 0, 0]⟩ 4 V (by decide) (by kernel_rfl))
  have e3 := (show ∀ V, Calls Tryd.prog 21 #[.string ⟨#[0, 0, 0, 0, 0, 0, 0, 0]⟩] V fun e w' => e = .returned (.tuple #[.agg #[.int .i64 0, .int .i64 0], .string ⟨#[]⟩, .int .i64 3]) ∧ Below V.heap.size V w' from fun V => takeDownErr ⟨#[0, 0, 0, 0, 0, 0, 0, 0]⟩ 3 V (by decide) (by kernel_rfl))
  have e4 := (show ∀ V, Calls Tryd.prog 21 #[.string ⟨#[2, 0, 0, 0, 0, 0, 0, 0, 0]⟩] V fun e w' => e = .returned (.tuple #[.agg #[.int .i64 0, .int .i64 0], .string ⟨#[]⟩, .int .i64 4]) ∧ Below V.heap.size V w' from fun V => takeDownErr ⟨#[2, 0, 0, 0, 0, 0, 0, 0, 0]⟩ 4 V (by decide) (by kernel_rfl))
  have h1 := (show ∀ V, Calls Tryd.prog 16 #[.string ⟨#[]⟩] V fun e w' => e = .returned (.int .i64 2) ∧ Below V.heap.size V w' from fun V => checkB ⟨#[]⟩ 2 V (by decide))
  have h2 := (show ∀ V, Calls Tryd.prog 16 #[.string ⟨#[0]⟩] V fun e w' => e = .returned (.int .i64 0) ∧ Below V.heap.size V w' from fun V => checkB ⟨#[0]⟩ 0 V (by decide))
  have h3 := (show ∀ V, Calls Tryd.prog 16 #[.string U] V fun e w' => e = .returned (.int .i64 0) ∧ Below V.heap.size V w' from fun V => checkB U 0 V (by rw [if_pos (by omega)]))
  have h4 := (show ∀ V, Calls Tryd.prog 16 #[.string Z] V fun e w' => e = .returned (.int .i64 2) ∧ Below V.heap.size V w' from fun V => checkB Z 2 V (by rw [if_neg (by omega)]))
  rw [hL1] at k2
  rw [hA1] at t1
  rw [hX1] at t2
  rw [hY1] at t5
  have R1 := Lib.hid r1
  have R2 := Lib.hid r2
  have R3 := Lib.hid r3
  have R5 := Lib.hid r5
  have R6 := Lib.hid r6
  have R4 := Lib.hid r4
  have K1 := Lib.hid k1
  have K2 := Lib.hid k2
  have T1 := Lib.hid t1
  have T2 := Lib.hid t2
  have T3 := Lib.hid t3
  have T4 := Lib.hid t4
  have T5 := Lib.hid t5
  have T6 := Lib.hid t6
  have T7 := Lib.hid t7
  have T8 := Lib.hid t8
  have T9 := Lib.hid t9
  have T10 := Lib.hid t10
  have D1 := Lib.hid d1
  have D2 := Lib.hid d2
  have D3 := Lib.hid d3
  have D4 := Lib.hid d4
  have D5 := Lib.hid d5
  have D6 := Lib.hid d6
  have E1 := Lib.hid e1
  have E2 := Lib.hid e2
  have E3 := Lib.hid e3
  have E4 := Lib.hid e4
  have H1 := Lib.hid h1
  have H2 := Lib.hid h2
  have H3 := Lib.hid h3
  have H4 := Lib.hid h4
  clear r1 r2 r3 r5 r6 r4 k1 k2 t1 t2 t3 t4 t5 t6 t7 t8 t9 t10 d1 d2 d3 d4 d5 d6 e1 e2 e3 e4 h1 h2 h3 h4
  have zL : L.size ≤ 1000 := by omega
  have zX : X.size ≤ 1001 := by omega
  have zY : Y.size ≤ 1000 := by omega
  have zA : A.size ≤ 2002 := by omega
  have hAl : ((A.size : Int) == 2002) = true := by rw [sA]; rfl
  clear hL hX hY hU hZ hA sL sX sY sU sZ sA sL1 sA1 sX1 sY1 bA1 bX1 bY1 hL1 hA1 hX1 hY1
  have B0 := Below.refl w.heap.size w
  go_enter Tryd.func11, Tryd.ntmps11
  go_wp2_with fail
  refine (R1.out _).mono ?_
  rintro e w1 ⟨rfl, hb⟩
  have B1 := B0.trans (hb.mono B0.size)
  clear hb B0
  go_wp2_with fail
  refine (K1.out _ (hm.below B1)).mono ?_
  rintro e w2 ⟨rfl, hb⟩
  have B2 := B1.trans (hb.mono B1.size)
  clear hb B1
  go_wp2_with fail
  refine (K2.out _).mono ?_
  rintro e w3 ⟨rfl, hb⟩
  have B3 := B2.trans (hb.mono B2.size)
  clear hb B2
  go_wp2_with fail
  refine (T1.out _).mono ?_
  rintro e w4 ⟨rfl, hb⟩
  have B4 := B3.trans (hb.mono B3.size)
  clear hb B3
  go_wp2_with fail
  refine (R2.out _).mono ?_
  rintro e w5 ⟨rfl, hb⟩
  have B5 := B4.trans (hb.mono B4.size)
  clear hb B4
  go_wp2_with fail
  refine (T2.out _).mono ?_
  rintro e w6 ⟨rfl, hb⟩
  have B6 := B5.trans (hb.mono B5.size)
  clear hb B5
  go_wp2_with fail
  refine (R2.out _).mono ?_
  rintro e w7 ⟨rfl, hb⟩
  have B7 := B6.trans (hb.mono B6.size)
  clear hb B6
  go_wp2_with fail
  refine (T3.out _).mono ?_
  rintro e w8 ⟨rfl, hb⟩
  have B8 := B7.trans (hb.mono B7.size)
  clear hb B7
  go_wp2_with fail
  refine (R3.out _).mono ?_
  rintro e w9 ⟨rfl, hb⟩
  have B9 := B8.trans (hb.mono B8.size)
  clear hb B8
  go_wp2_with fail
  refine (T4.out _).mono ?_
  rintro e w10 ⟨rfl, hb⟩
  have B10 := B9.trans (hb.mono B9.size)
  clear hb B9
  go_wp2_with fail
  refine (R3.out _).mono ?_
  rintro e w11 ⟨rfl, hb⟩
  have B11 := B10.trans (hb.mono B10.size)
  clear hb B10
  go_wp2_with fail
  refine (T5.out _).mono ?_
  rintro e w12 ⟨rfl, hb⟩
  have B12 := B11.trans (hb.mono B11.size)
  clear hb B11
  go_wp2_with fail
  refine (T6.out _).mono ?_
  rintro e w13 ⟨rfl, hb⟩
  have B13 := B12.trans (hb.mono B12.size)
  clear hb B12
  go_wp2_with fail
  refine (T7.out _).mono ?_
  rintro e w14 ⟨rfl, hb⟩
  have B14 := B13.trans (hb.mono B13.size)
  clear hb B13
  go_wp2_with fail
  refine (T8.out _).mono ?_
  rintro e w15 ⟨rfl, hb⟩
  have B15 := B14.trans (hb.mono B14.size)
  clear hb B14
  go_wp2_with fail
  refine (T9.out _).mono ?_
  rintro e w16 ⟨rfl, hb⟩
  have B16 := B15.trans (hb.mono B15.size)
  clear hb B15
  go_wp2_with fail
  refine (T10.out _).mono ?_
  rintro e w17 ⟨rfl, hb⟩
  have B17 := B16.trans (hb.mono B16.size)
  clear hb B16
  go_wp2_with fail
  refine (D1.out _).mono ?_
  rintro e w18 ⟨rfl, hb⟩
  have B18 := B17.trans (hb.mono B17.size)
  clear hb B17
  go_wp2_with fail
  refine (D2.out _).mono ?_
  rintro e w19 ⟨rfl, hb⟩
  have B19 := B18.trans (hb.mono B18.size)
  clear hb B18
  go_wp2_with fail
  refine (D3.out _).mono ?_
  rintro e w20 ⟨rfl, hb⟩
  have B20 := B19.trans (hb.mono B19.size)
  clear hb B19
  go_wp2_with fail
  refine (D4.out _).mono ?_
  rintro e w21 ⟨rfl, hb⟩
  have B21 := B20.trans (hb.mono B20.size)
  clear hb B20
  go_wp2_with fail
  refine (D5.out _).mono ?_
  rintro e w22 ⟨rfl, hb⟩
  have B22 := B21.trans (hb.mono B21.size)
  clear hb B21
  go_wp2_with fail
  refine (D6.out _).mono ?_
  rintro e w23 ⟨rfl, hb⟩
  have B23 := B22.trans (hb.mono B22.size)
  clear hb B22
  go_wp2_with fail
  refine (E1.out _).mono ?_
  rintro e w24 ⟨rfl, hb⟩
  have B24 := B23.trans (hb.mono B23.size)
  clear hb B23
  go_wp2_with fail
  refine (E2.out _).mono ?_
  rintro e w25 ⟨rfl, hb⟩
  have B25 := (B24.alloc B24.size _).trans (hb.mono (by have := B24.size; simp; omega))
  clear hb B24
  go_wp2_with fail
  refine (E3.out _).mono ?_
  rintro e w26 ⟨rfl, hb⟩
  have B26 := (B25.alloc B25.size _).trans (hb.mono (by have := B25.size; simp; omega))
  clear hb B25
  go_wp2_with fail
  refine (E4.out _).mono ?_
  rintro e w27 ⟨rfl, hb⟩
  have B27 := (B26.alloc B26.size _).trans (hb.mono (by have := B26.size; simp; omega))
  clear hb B26
  go_wp2_with fail
  refine (R4.out _).mono ?_
  rintro e w28 ⟨rfl, hb⟩
  have B28 := (B27.alloc B27.size _).trans (hb.mono (by have := B27.size; simp; omega))
  clear hb B27
  go_wp2_with fail
  refine (H1.out _).mono ?_
  rintro e w29 ⟨rfl, hb⟩
  have B29 := B28.trans (hb.mono B28.size)
  clear hb B28
  go_wp2_with fail
  refine (H2.out _).mono ?_
  rintro e w30 ⟨rfl, hb⟩
  have B30 := B29.trans (hb.mono B29.size)
  clear hb B29
  go_wp2_with fail
  refine (R5.out _).mono ?_
  rintro e w31 ⟨rfl, hb⟩
  have B31 := B30.trans (hb.mono B30.size)
  clear hb B30
  go_wp2_with fail
  refine (H3.out _).mono ?_
  rintro e w32 ⟨rfl, hb⟩
  have B32 := B31.trans (hb.mono B31.size)
  clear hb B31
  go_wp2_with fail
  refine (R6.out _).mono ?_
  rintro e w33 ⟨rfl, hb⟩
  have B33 := B32.trans (hb.mono B32.size)
  clear hb B32
  go_wp2_with fail
  refine (H4.out _).mono ?_
  rintro e w34 ⟨rfl, hb⟩
  have B34 := B33.trans (hb.mono B33.size)
  clear hb B33
  go_wp2_with fail
  refine (works _ (hm.below B34)).mono ?_
  rintro e w35 ⟨rfl, hb⟩
  have B35 := B34.trans (hb.mono B34.size)
  clear hb B34
  go_wp2
  go_ret
  exact ⟨rfl, B35⟩
end Go.Proofs.YtcphhambckohbaaDoor
