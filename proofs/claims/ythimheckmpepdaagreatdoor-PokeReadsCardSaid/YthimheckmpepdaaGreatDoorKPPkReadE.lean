/-
  Layer 12, the code: read's walks (written by wip/genpkread.py).
-/
import Derived.Test.YthimheckmpepdaaGreatDoorKP31
set_option linter.unusedVariables false
set_option linter.unusedSimpArgs false
set_option maxRecDepth 100000
namespace Go.Proofs.YthimheckmpepdaaGreatDoor
open Go.RowKit
set_option maxHeartbeats 8000000 in
theorem read_stale {V : World} {p : Nat} (key : ByteArray) (x0 x1 x2 : Int) (x3 : ByteArray) (x4 x5 x6 x7 x8 x9 x10 x11 m1 m2 : Int) (y : It) (h1 : y.id = x0) (h2 : x1 < y.ep)
    (HT : Hid (∀ W, Calls Tryz.prog 114 #[txv ⟨x0, x1, x2, x3, x4, x5, x6, x7, x8, x9, x10, x11⟩] W fun e w' => e = .returned (sv m1 m2) ∧ Below W.heap.size W w'))
    (HI : Hid (∀ W, Below V.heap.size V W → Calls Tryz.prog 115 #[pt p, .string key] W fun e w' => (∃ A n c, e = .returned (.tuple #[itv y (.slice A n c), .bool true]) ∧ ChAt w' A n y.l ∧ n ≤ 9223372036854775807) ∧ Below W.heap.size W w'))
    : Calls Tryz.prog 48 #[pt p, .string key, txv ⟨x0, x1, x2, x3, x4, x5, x6, x7, x8, x9, x10, x11⟩] V fun e w' => AnsF (zF, 201) e w' ∧ Below V.heap.size V w' := by
  have hz1 : (V.alloc (.cells (txc ⟨x0, x1, x2, x3, x4, x5, x6, x7, x8, x9, x10, x11⟩) 28)).heap.size = V.heap.size + 1 := World.size_alloc _ _
  have TX0 := Lib.hid ((Blk.new V 28 (txc ⟨x0, x1, x2, x3, x4, x5, x6, x7, x8, x9, x10, x11⟩)).below (nbl _ (.cells (fdc zF (.slice none 0 0)) 46)) (Blk.new V 28 _).lt)
  have RB0 := Lib.hid (Blk.new (V.alloc (.cells (txc ⟨x0, x1, x2, x3, x4, x5, x6, x7, x8, x9, x10, x11⟩) 28)) 46 (fdc zF (.slice none 0 0)))
  rw [hz1] at RB0
  have G0 := Lib.hid (bsa (nbl V (.cells (txc ⟨x0, x1, x2, x3, x4, x5, x6, x7, x8, x9, x10, x11⟩) 28)) (.cells (fdc zF (.slice none 0 0)) 46))
  clear hz1
  subst h1
  go_enter Tryz.func48, Tryz.ntmps48
  go_wp2_with (first
      | (go_at_call 114; refine (HT.out _).mono ?_; rintro e w1 ⟨rfl, hb1⟩
         have g1 := bsa (bst G0.out hb1) (.cells #[.int .i64 m1, .int .i64 m2] 26)
         have hb1' := bsa hb1 (.cells #[.int .i64 m1, .int .i64 m2] 26)
         have TX1 := Lib.hid (TX0.out.below hb1' TX0.out.lt)
         have RB1 := Lib.hid (RB0.out.below hb1' RB0.out.lt)
         have ST1 := Lib.hid (Blk.new w1 26 #[.int .i64 m1, .int .i64 m2])
         have G1 := Lib.hid g1
         clear hb1 hb1' g1)
      | (go_at_call 115; refine (HI.out _ G1.out).mono ?_; rintro e w2 ⟨⟨A, n, c, rfl, hat, hnn⟩, hb2⟩
         have hb2' := bsa hb2 (.cells (itc y (.slice A n c)) 38)
         have tx2 := TX1.out.below hb2' TX1.out.lt
         have rb2 := RB1.out.below hb2' RB1.out.lt
         have st2 := ST1.out.below hb2' ST1.out.lt
         have G2 := Lib.hid (bst G1.out hb2')
         have x2_0 := tx2.cell 0
         have x2_1 := tx2.cell 1
         simp at x2_0 x2_1
         have r2_0 := rb2.cell 0
         have q2_0 := rb2.frozen 0
         have r2_1 := rb2.cell 1
         have q2_1 := rb2.frozen 1
         have r2_2 := rb2.cell 2
         have q2_2 := rb2.frozen 2
         have r2_3 := rb2.cell 3
         have q2_3 := rb2.frozen 3
         have r2_4 := rb2.cell 4
         have q2_4 := rb2.frozen 4
         have r2_5 := rb2.cell 5
         have q2_5 := rb2.frozen 5
         have r2_6 := rb2.cell 6
         have q2_6 := rb2.frozen 6
         have r2_7 := rb2.cell 7
         have q2_7 := rb2.frozen 7
         have r2_8 := rb2.cell 8
         have q2_8 := rb2.frozen 8
         have r2_9 := rb2.cell 9
         have q2_9 := rb2.frozen 9
         have r2_10 := rb2.cell 10
         have q2_10 := rb2.frozen 10
         have r2_11 := rb2.cell 11
         have q2_11 := rb2.frozen 11
         have r2_12 := rb2.cell 12
         have q2_12 := rb2.frozen 12
         have r2_13 := rb2.cell 13
         have q2_13 := rb2.frozen 13
         have r2_14 := rb2.cell 14
         have q2_14 := rb2.frozen 14
         simp at r2_0 r2_1 r2_2 r2_3 r2_4 r2_5 r2_6 r2_7 r2_8 r2_9 r2_10 r2_11 r2_12 r2_13 r2_14
         have TX2 := Lib.hid tx2
         have RB2 := Lib.hid rb2
         have ST2 := Lib.hid st2
         have IT2 := Lib.hid (Blk.new w2 38 (itc y (.slice A n c)))
         have HAT2 := Lib.hid (hat.below (nbl w2 (.cells (itc y (.slice A n c)) 38)))
         clear hat
         clear hb2 hb2' tx2 rb2 st2))
  refine ret_fd2 rfl rfl (Blk.all15 (v0 := .string ⟨#[]⟩) (v1 := .string ⟨#[]⟩) (v2 := .bool false) (v3 := .bool false) (v4 := .int .i64 0) (v5 := .int .i64 0) (v6 := .int .i64 0) (v7 := .int .i64 0) (v8 := .int .i64 0) (v9 := .string ⟨#[]⟩) (v10 := .int .i64 0) (v11 := .int .i64 0) (v12 := .int .i64 0) (v13 := .int .i64 0) (v14 := .slice none 0 0) (by exact RB2.out)) rfl rfl ⟨⟨none, 0, 0, rfl, ChAt.nil _ _, by omega⟩, below15 G2.out (by exact Nat.le_succ _)⟩
set_option maxHeartbeats 8000000 in
theorem read_way {V : World} {p : Nat} (key : ByteArray) (x0 x1 x2 : Int) (x3 : ByteArray) (x4 x5 x6 x7 x8 x9 x10 x11 m1 m2 : Int) (y : It) (h1 : ¬ y.id = x0)
    (HT : Hid (∀ W, Calls Tryz.prog 114 #[txv ⟨x0, x1, x2, x3, x4, x5, x6, x7, x8, x9, x10, x11⟩] W fun e w' => e = .returned (sv m1 m2) ∧ Below W.heap.size W w'))
    (HI : Hid (∀ W, Below V.heap.size V W → Calls Tryz.prog 115 #[pt p, .string key] W fun e w' => (∃ A n c, e = .returned (.tuple #[itv y (.slice A n c), .bool true]) ∧ ChAt w' A n y.l ∧ n ≤ 9223372036854775807) ∧ Below W.heap.size W w'))
    (HL1 : Hid (∀ W, Calls Tryz.prog 14 #[sv m1 m2, sv y.sw y.sl] W fun e w' => e = .returned (.bool false) ∧ Below W.heap.size W w'))
    : Calls Tryz.prog 48 #[pt p, .string key, txv ⟨x0, x1, x2, x3, x4, x5, x6, x7, x8, x9, x10, x11⟩] V fun e w' => AnsF (⟨key, ⟨#[]⟩, false, false, 0, 0, y⟩, 120) e w' ∧ Below V.heap.size V w' := by
  have hz1 : (V.alloc (.cells (txc ⟨x0, x1, x2, x3, x4, x5, x6, x7, x8, x9, x10, x11⟩) 28)).heap.size = V.heap.size + 1 := World.size_alloc _ _
  have TX0 := Lib.hid ((Blk.new V 28 (txc ⟨x0, x1, x2, x3, x4, x5, x6, x7, x8, x9, x10, x11⟩)).below (nbl _ (.cells (fdc zF (.slice none 0 0)) 46)) (Blk.new V 28 _).lt)
  have RB0 := Lib.hid (Blk.new (V.alloc (.cells (txc ⟨x0, x1, x2, x3, x4, x5, x6, x7, x8, x9, x10, x11⟩) 28)) 46 (fdc zF (.slice none 0 0)))
  rw [hz1] at RB0
  have G0 := Lib.hid (bsa (nbl V (.cells (txc ⟨x0, x1, x2, x3, x4, x5, x6, x7, x8, x9, x10, x11⟩) 28)) (.cells (fdc zF (.slice none 0 0)) 46))
  clear hz1
  have hb1 : (y.id == x0) = false := by simpa using h1
  clear h1
  go_enter Tryz.func48, Tryz.ntmps48
  go_wp2_with (first
      | (go_at_call 114; refine (HT.out _).mono ?_; rintro e w1 ⟨rfl, hb1⟩
         have g1 := bsa (bst G0.out hb1) (.cells #[.int .i64 m1, .int .i64 m2] 26)
         have hb1' := bsa hb1 (.cells #[.int .i64 m1, .int .i64 m2] 26)
         have TX1 := Lib.hid (TX0.out.below hb1' TX0.out.lt)
         have RB1 := Lib.hid (RB0.out.below hb1' RB0.out.lt)
         have ST1 := Lib.hid (Blk.new w1 26 #[.int .i64 m1, .int .i64 m2])
         have G1 := Lib.hid g1
         clear hb1 hb1' g1)
      | (go_at_call 115; refine (HI.out _ G1.out).mono ?_; rintro e w2 ⟨⟨A, n, c, rfl, hat, hnn⟩, hb2⟩
         have hb2' := bsa hb2 (.cells (itc y (.slice A n c)) 38)
         have tx2 := TX1.out.below hb2' TX1.out.lt
         have rb2 := RB1.out.below hb2' RB1.out.lt
         have st2 := ST1.out.below hb2' ST1.out.lt
         have G2 := Lib.hid (bst G1.out hb2')
         have x2_0 := tx2.cell 0
         have x2_1 := tx2.cell 1
         simp at x2_0 x2_1
         have s2_0 := st2.cell 0
         have s2_1 := st2.cell 1
         simp at s2_0 s2_1
         have r2_0 := rb2.cell 0
         have q2_0 := rb2.frozen 0
         have r2_1 := rb2.cell 1
         have q2_1 := rb2.frozen 1
         have r2_2 := rb2.cell 2
         have q2_2 := rb2.frozen 2
         have r2_3 := rb2.cell 3
         have q2_3 := rb2.frozen 3
         have r2_4 := rb2.cell 4
         have q2_4 := rb2.frozen 4
         have r2_5 := rb2.cell 5
         have q2_5 := rb2.frozen 5
         have r2_6 := rb2.cell 6
         have q2_6 := rb2.frozen 6
         have r2_7 := rb2.cell 7
         have q2_7 := rb2.frozen 7
         have r2_8 := rb2.cell 8
         have q2_8 := rb2.frozen 8
         have r2_9 := rb2.cell 9
         have q2_9 := rb2.frozen 9
         have r2_10 := rb2.cell 10
         have q2_10 := rb2.frozen 10
         have r2_11 := rb2.cell 11
         have q2_11 := rb2.frozen 11
         have r2_12 := rb2.cell 12
         have q2_12 := rb2.frozen 12
         have r2_13 := rb2.cell 13
         have q2_13 := rb2.frozen 13
         have r2_14 := rb2.cell 14
         have q2_14 := rb2.frozen 14
         simp at r2_0 r2_1 r2_2 r2_3 r2_4 r2_5 r2_6 r2_7 r2_8 r2_9 r2_10 r2_11 r2_12 r2_13 r2_14
         have TX2 := Lib.hid tx2
         have RB2 := Lib.hid rb2
         have ST2 := Lib.hid st2
         have IT2 := Lib.hid (Blk.new w2 38 (itc y (.slice A n c)))
         have HAT2 := Lib.hid (hat.below (nbl w2 (.cells (itc y (.slice A n c)) 38)))
         clear hat
         clear hb2 hb2' tx2 rb2 st2)
      | (go_at_call_of 14 (Value.agg #[Value.int .i64 m1, Value.int .i64 m2]); refine (HL1.out _).mono ?_; rintro e w3 ⟨rfl, hb3⟩
         have tx3 := TX2.out.below hb3 TX2.out.lt
         have rb3 := RB2.out.below hb3 RB2.out.lt
         have st3 := ST2.out.below hb3 ST2.out.lt
         have it3 := IT2.out.below hb3 IT2.out.lt
         have G3 := Lib.hid (bst G2.out hb3)
         have i3_0 := it3.cell 0
         have i3_1 := it3.cell 1
         have i3_2 := it3.cell 2
         have i3_3 := it3.cell 3
         have i3_4 := it3.cell 4
         have i3_5 := it3.cell 5
         have i3_6 := it3.cell 6
         have i3_7 := it3.cell 7
         have i3_8 := it3.cell 8
         simp at i3_0 i3_1 i3_2 i3_3 i3_4 i3_5 i3_6 i3_7 i3_8
         have r3_0 := rb3.cell 0
         have q3_0 := rb3.frozen 0
         have r3_1 := rb3.cell 1
         have q3_1 := rb3.frozen 1
         have r3_2 := rb3.cell 2
         have q3_2 := rb3.frozen 2
         have r3_3 := rb3.cell 3
         have q3_3 := rb3.frozen 3
         have r3_4 := rb3.cell 4
         have q3_4 := rb3.frozen 4
         have r3_5 := rb3.cell 5
         have q3_5 := rb3.frozen 5
         have r3_6 := rb3.cell 6
         have q3_6 := rb3.frozen 6
         have r3_7 := rb3.cell 7
         have q3_7 := rb3.frozen 7
         have r3_8 := rb3.cell 8
         have q3_8 := rb3.frozen 8
         have r3_9 := rb3.cell 9
         have q3_9 := rb3.frozen 9
         have r3_10 := rb3.cell 10
         have q3_10 := rb3.frozen 10
         have r3_11 := rb3.cell 11
         have q3_11 := rb3.frozen 11
         have r3_12 := rb3.cell 12
         have q3_12 := rb3.frozen 12
         have r3_13 := rb3.cell 13
         have q3_13 := rb3.frozen 13
         have r3_14 := rb3.cell 14
         have q3_14 := rb3.frozen 14
         simp at r3_0 r3_1 r3_2 r3_3 r3_4 r3_5 r3_6 r3_7 r3_8 r3_9 r3_10 r3_11 r3_12 r3_13 r3_14
         have TX3 := Lib.hid tx3
         have RB3 := Lib.hid rb3
         have ST3 := Lib.hid st3
         have HAT3 := Lib.hid (HAT2.out.below hb3)
         clear hb3 tx3 rb3 st3 it3))
  have hch := HAT3.out.put15 (v0 := .string key) (v1 := .string ⟨#[]⟩) (v2 := .bool false) (v3 := .bool false) (v4 := .int .i64 0) (v5 := .int .i64 0) (v6 := .int .i64 y.id) (v7 := .int .i64 y.ep) (v8 := .int .i64 y.pr) (v9 := .string y.an) (v10 := .int .i64 y.sw) (v11 := .int .i64 y.sl) (v12 := .int .i64 y.bw) (v13 := .int .i64 y.bl) (v14 := .slice A n c) (HAT3.out.apart (show Blk _ _ _ (fdc zF (.slice none 0 0)) from RB3.out) (fd_no _ _ (fun d e => nomatch e)))
  refine ret_fd2 rfl rfl (Blk.all15 (v0 := .string key) (v1 := .string ⟨#[]⟩) (v2 := .bool false) (v3 := .bool false) (v4 := .int .i64 0) (v5 := .int .i64 0) (v6 := .int .i64 y.id) (v7 := .int .i64 y.ep) (v8 := .int .i64 y.pr) (v9 := .string y.an) (v10 := .int .i64 y.sw) (v11 := .int .i64 y.sl) (v12 := .int .i64 y.bw) (v13 := .int .i64 y.bl) (v14 := .slice A n c) (by exact RB3.out)) rfl rfl ⟨⟨A, n, c, rfl, hch, by omega⟩, below15 G3.out (by exact Nat.le_succ _)⟩
set_option maxHeartbeats 8000000 in
theorem read_own {V : World} {p : Nat} (key : ByteArray) (x0 x1 x2 : Int) (x3 : ByteArray) (x4 x5 x6 x7 x8 x9 x10 x11 m1 m2 : Int) (y : It) (ov : ByteArray) (oi : Bool) (h1 : y.id = x0) (h3 : y.ep = x1)
    (HT : Hid (∀ W, Calls Tryz.prog 114 #[txv ⟨x0, x1, x2, x3, x4, x5, x6, x7, x8, x9, x10, x11⟩] W fun e w' => e = .returned (sv m1 m2) ∧ Below W.heap.size W w'))
    (HI : Hid (∀ W, Below V.heap.size V W → Calls Tryz.prog 115 #[pt p, .string key] W fun e w' => (∃ A n c, e = .returned (.tuple #[itv y (.slice A n c), .bool true]) ∧ ChAt w' A n y.l ∧ n ≤ 9223372036854775807) ∧ Below W.heap.size W w'))
    (HO : Hid (∀ W (A : Option Addr) n c, ChAt W A n y.l → n ≤ 9223372036854775807 → Calls Tryz.prog 116 #[.string key, itv y (.slice A n c)] W fun e w' => e = .returned (fdv ⟨key, ov, oi, true, y.sw, y.sl, zI⟩ (.slice none 0 0)) ∧ Below W.heap.size W w'))
    : Calls Tryz.prog 48 #[pt p, .string key, txv ⟨x0, x1, x2, x3, x4, x5, x6, x7, x8, x9, x10, x11⟩] V fun e w' => AnsF (⟨key, ov, oi, true, y.sw, y.sl, zI⟩, 0) e w' ∧ Below V.heap.size V w' := by
  have hz1 : (V.alloc (.cells (txc ⟨x0, x1, x2, x3, x4, x5, x6, x7, x8, x9, x10, x11⟩) 28)).heap.size = V.heap.size + 1 := World.size_alloc _ _
  have TX0 := Lib.hid ((Blk.new V 28 (txc ⟨x0, x1, x2, x3, x4, x5, x6, x7, x8, x9, x10, x11⟩)).below (nbl _ (.cells (fdc zF (.slice none 0 0)) 46)) (Blk.new V 28 _).lt)
  have RB0 := Lib.hid (Blk.new (V.alloc (.cells (txc ⟨x0, x1, x2, x3, x4, x5, x6, x7, x8, x9, x10, x11⟩) 28)) 46 (fdc zF (.slice none 0 0)))
  rw [hz1] at RB0
  have G0 := Lib.hid (bsa (nbl V (.cells (txc ⟨x0, x1, x2, x3, x4, x5, x6, x7, x8, x9, x10, x11⟩) 28)) (.cells (fdc zF (.slice none 0 0)) 46))
  clear hz1
  subst h1
  subst h3
  go_enter Tryz.func48, Tryz.ntmps48
  go_wp2_with (first
      | (go_at_call 114; refine (HT.out _).mono ?_; rintro e w1 ⟨rfl, hb1⟩
         have g1 := bsa (bst G0.out hb1) (.cells #[.int .i64 m1, .int .i64 m2] 26)
         have hb1' := bsa hb1 (.cells #[.int .i64 m1, .int .i64 m2] 26)
         have TX1 := Lib.hid (TX0.out.below hb1' TX0.out.lt)
         have RB1 := Lib.hid (RB0.out.below hb1' RB0.out.lt)
         have ST1 := Lib.hid (Blk.new w1 26 #[.int .i64 m1, .int .i64 m2])
         have G1 := Lib.hid g1
         clear hb1 hb1' g1)
      | (go_at_call 115; refine (HI.out _ G1.out).mono ?_; rintro e w2 ⟨⟨A, n, c, rfl, hat, hnn⟩, hb2⟩
         have hb2' := bsa hb2 (.cells (itc y (.slice A n c)) 38)
         have tx2 := TX1.out.below hb2' TX1.out.lt
         have rb2 := RB1.out.below hb2' RB1.out.lt
         have st2 := ST1.out.below hb2' ST1.out.lt
         have G2 := Lib.hid (bst G1.out hb2')
         have x2_0 := tx2.cell 0
         have x2_1 := tx2.cell 1
         simp at x2_0 x2_1
         have r2_0 := rb2.cell 0
         have q2_0 := rb2.frozen 0
         have r2_1 := rb2.cell 1
         have q2_1 := rb2.frozen 1
         have r2_2 := rb2.cell 2
         have q2_2 := rb2.frozen 2
         have r2_3 := rb2.cell 3
         have q2_3 := rb2.frozen 3
         have r2_4 := rb2.cell 4
         have q2_4 := rb2.frozen 4
         have r2_5 := rb2.cell 5
         have q2_5 := rb2.frozen 5
         have r2_6 := rb2.cell 6
         have q2_6 := rb2.frozen 6
         have r2_7 := rb2.cell 7
         have q2_7 := rb2.frozen 7
         have r2_8 := rb2.cell 8
         have q2_8 := rb2.frozen 8
         have r2_9 := rb2.cell 9
         have q2_9 := rb2.frozen 9
         have r2_10 := rb2.cell 10
         have q2_10 := rb2.frozen 10
         have r2_11 := rb2.cell 11
         have q2_11 := rb2.frozen 11
         have r2_12 := rb2.cell 12
         have q2_12 := rb2.frozen 12
         have r2_13 := rb2.cell 13
         have q2_13 := rb2.frozen 13
         have r2_14 := rb2.cell 14
         have q2_14 := rb2.frozen 14
         simp at r2_0 r2_1 r2_2 r2_3 r2_4 r2_5 r2_6 r2_7 r2_8 r2_9 r2_10 r2_11 r2_12 r2_13 r2_14
         have TX2 := Lib.hid tx2
         have RB2 := Lib.hid rb2
         have ST2 := Lib.hid st2
         have IT2 := Lib.hid (Blk.new w2 38 (itc y (.slice A n c)))
         have HAT2 := Lib.hid (hat.below (nbl w2 (.cells (itc y (.slice A n c)) 38)))
         clear hat
         clear hb2 hb2' tx2 rb2 st2)
      | (go_at_call 116; refine (HO.out _ A n c HAT2.out hnn).mono ?_; rintro e w3 ⟨rfl, hb3⟩
         have rb3 := RB2.out.below hb3 RB2.out.lt
         have G3 := Lib.hid (bst G2.out hb3)
         have r3_0 := rb3.cell 0
         have q3_0 := rb3.frozen 0
         have r3_1 := rb3.cell 1
         have q3_1 := rb3.frozen 1
         have r3_2 := rb3.cell 2
         have q3_2 := rb3.frozen 2
         have r3_3 := rb3.cell 3
         have q3_3 := rb3.frozen 3
         have r3_4 := rb3.cell 4
         have q3_4 := rb3.frozen 4
         have r3_5 := rb3.cell 5
         have q3_5 := rb3.frozen 5
         have r3_6 := rb3.cell 6
         have q3_6 := rb3.frozen 6
         have r3_7 := rb3.cell 7
         have q3_7 := rb3.frozen 7
         have r3_8 := rb3.cell 8
         have q3_8 := rb3.frozen 8
         have r3_9 := rb3.cell 9
         have q3_9 := rb3.frozen 9
         have r3_10 := rb3.cell 10
         have q3_10 := rb3.frozen 10
         have r3_11 := rb3.cell 11
         have q3_11 := rb3.frozen 11
         have r3_12 := rb3.cell 12
         have q3_12 := rb3.frozen 12
         have r3_13 := rb3.cell 13
         have q3_13 := rb3.frozen 13
         have r3_14 := rb3.cell 14
         have q3_14 := rb3.frozen 14
         simp at r3_0 r3_1 r3_2 r3_3 r3_4 r3_5 r3_6 r3_7 r3_8 r3_9 r3_10 r3_11 r3_12 r3_13 r3_14
         have RB3 := Lib.hid rb3
         clear hb3 rb3))
  refine ret_fd2 rfl rfl (Blk.all15 (v0 := .string key) (v1 := .string ov) (v2 := .bool oi) (v3 := .bool true) (v4 := .int .i64 y.sw) (v5 := .int .i64 y.sl) (v6 := .int .i64 0) (v7 := .int .i64 0) (v8 := .int .i64 0) (v9 := .string ⟨#[]⟩) (v10 := .int .i64 0) (v11 := .int .i64 0) (v12 := .int .i64 0) (v13 := .int .i64 0) (v14 := .slice none 0 0) (by exact RB3.out)) rfl rfl ⟨⟨none, 0, 0, rfl, ChAt.nil _ _, by omega⟩, below15 G3.out (by exact Nat.le_succ _)⟩
end Go.Proofs.YthimheckmpepdaaGreatDoor
