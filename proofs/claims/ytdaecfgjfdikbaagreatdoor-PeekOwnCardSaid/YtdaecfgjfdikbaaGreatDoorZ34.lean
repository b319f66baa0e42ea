/-
  Layer 12, the code: read's walks (written by wip/genpkread.py).
  Layer 12, the code: read, whole (written by wip/genpkread.py).
  Layer 12, the code: check.
  Layer 12, the code: Get (written by wip/genpkget.py).
  Layer 12: the document's May; the statements' may; put.
  Layer 12, plain: what a transaction reads that has written last.
-/
import Derived.Test.YtdaecfgjfdikbaaGreatDoorZ32
import Derived.Test.YtdaecfgjfdikbaaGreatDoorZ33
import Derived.Test.YtdaecfgjfdikbaaGreatDoorZ30
import Derived.Test.YtdaecfgjfdikbaaGreatDoorZ01
import Derived.Test.YtdaecfgjfdikbaaGreatDoorZ29
set_option linter.unusedVariables false
set_option linter.unusedSimpArgs false
set_option maxRecDepth 100000
namespace Go.Proofs.YtdaecfgjfdikbaaGreatDoor
open Go.RowKit
set_option maxHeartbeats 8000000 in
theorem read_stale {V : World} {p : Nat} (key : ByteArray) (x0 x1 x2 : Int) (x3 : ByteArray) (x4 x5 x6 x7 x8 x9 x10 x11 m1 m2 : Int) (y : It) (h1 : y.id = x0) (h2 : x1 < y.ep)
    (HT : Hid (∀ W, Calls Tryz.prog 20 #[txv ⟨x0, x1, x2, x3, x4, x5, x6, x7, x8, x9, x10, x11⟩] W fun e w' => e = .returned (sv m1 m2) ∧ Below W.heap.size W w'))
    (HI : Hid (∀ W, Below V.heap.size V W → Calls Tryz.prog 107 #[pt p, .string key] W fun e w' => (∃ A n c, e = .returned (.tuple #[itv y (.slice A n c), .bool true]) ∧ ChAt w' A n y.l ∧ n ≤ 9223372036854775807) ∧ Below W.heap.size W w'))
    : Calls Tryz.prog 55 #[pt p, .string key, txv ⟨x0, x1, x2, x3, x4, x5, x6, x7, x8, x9, x10, x11⟩] V fun e w' => AnsF (zF, 201) e w' ∧ Below V.heap.size V w' := by
  have hz1 : (V.alloc (.cells (txc ⟨x0, x1, x2, x3, x4, x5, x6, x7, x8, x9, x10, x11⟩) 28)).heap.size = V.heap.size + 1 := World.size_alloc _ _
  have TX0 := Lib.hid ((Blk.new V 28 (txc ⟨x0, x1, x2, x3, x4, x5, x6, x7, x8, x9, x10, x11⟩)).below (nbl _ (.cells (fdc zF (.slice none 0 0)) 39)) (Blk.new V 28 _).lt)
  have RB0 := Lib.hid (Blk.new (V.alloc (.cells (txc ⟨x0, x1, x2, x3, x4, x5, x6, x7, x8, x9, x10, x11⟩) 28)) 39 (fdc zF (.slice none 0 0)))
  rw [hz1] at RB0
  have G0 := Lib.hid (bsa (nbl V (.cells (txc ⟨x0, x1, x2, x3, x4, x5, x6, x7, x8, x9, x10, x11⟩) 28)) (.cells (fdc zF (.slice none 0 0)) 39))
  clear hz1
  subst h1
  go_enter Tryz.func55, Tryz.ntmps55
  go_wp2_with (first
      | (go_at_call 20; refine (HT.out _).mono ?_; rintro e w1 ⟨rfl, hb1⟩
         have g1 := bsa (bst G0.out hb1) (.cells #[.int .i64 m1, .int .i64 m2] 26)
         have hb1' := bsa hb1 (.cells #[.int .i64 m1, .int .i64 m2] 26)
         have TX1 := Lib.hid (TX0.out.below hb1' TX0.out.lt)
         have RB1 := Lib.hid (RB0.out.below hb1' RB0.out.lt)
         have ST1 := Lib.hid (Blk.new w1 26 #[.int .i64 m1, .int .i64 m2])
         have G1 := Lib.hid g1
         clear hb1 hb1' g1)
      | (go_at_call 107; refine (HI.out _ G1.out).mono ?_; rintro e w2 ⟨⟨A, n, c, rfl, hat, hnn⟩, hb2⟩
         have hb2' := bsa hb2 (.cells (itc y (.slice A n c)) 37)
         have tx2 := TX1.out.below hb2' TX1.out.lt
         have rb2 := RB1.out.below hb2' RB1.out.lt
         have st2 := ST1.out.below hb2' ST1.out.lt
         have G2 := Lib.hid (bst G1.out hb2')
         have x2_0 := tx2.cell 0
         have x2_1 := tx2.cell 1
         simp at x2_0 x2_1
         have r2_0 := rb2.cell 0
         have q2_0 := rb2.frozen 0
         have r2_1 := rb2.cell 1
         have q2_1 := rb2.frozen 1
         have r2_2 := rb2.cell 2
         have q2_2 := rb2.frozen 2
         have r2_3 := rb2.cell 3
         have q2_3 := rb2.frozen 3
         have r2_4 := rb2.cell 4
         have q2_4 := rb2.frozen 4
         have r2_5 := rb2.cell 5
         have q2_5 := rb2.frozen 5
         have r2_6 := rb2.cell 6
         have q2_6 := rb2.frozen 6
         have r2_7 := rb2.cell 7
         have q2_7 := rb2.frozen 7
         have r2_8 := rb2.cell 8
         have q2_8 := rb2.frozen 8
         have r2_9 := rb2.cell 9
         have q2_9 := rb2.frozen 9
         have r2_10 := rb2.cell 10
         have q2_10 := rb2.frozen 10
         have r2_11 := rb2.cell 11
         have q2_11 := rb2.frozen 11
         have r2_12 := rb2.cell 12
         have q2_12 := rb2.frozen 12
         have r2_13 := rb2.cell 13
         have q2_13 := rb2.frozen 13
         have r2_14 := rb2.cell 14
         have q2_14 := rb2.frozen 14
         simp at r2_0 r2_1 r2_2 r2_3 r2_4 r2_5 r2_6 r2_7 r2_8 r2_9 r2_10 r2_11 r2_12 r2_13 r2_14
         have TX2 := Lib.hid tx2
         have RB2 := Lib.hid rb2
         have ST2 := Lib.hid st2
         have IT2 := Lib.hid (Blk.new w2 37 (itc y (.slice A n c)))
         have HAT2 := Lib.hid (hat.below (nbl w2 (.cells (itc y (.slice A n c)) 37)))
         clear hat
         clear hb2 hb2' tx2 rb2 st2))
  refine ret_fd2 rfl rfl (Blk.all15 (v0 := .string ⟨#[]⟩) (v1 := .string ⟨#[]⟩) (v2 := .bool false) (v3 := .bool false) (v4 := .int .i64 0) (v5 := .int .i64 0) (v6 := .int .i64 0) (v7 := .int .i64 0) (v8 := .int .i64 0) (v9 := .string ⟨#[]⟩) (v10 := .int .i64 0) (v11 := .int .i64 0) (v12 := .int .i64 0) (v13 := .int .i64 0) (v14 := .slice none 0 0) (by exact RB2.out)) rfl rfl ⟨⟨none, 0, 0, rfl, ChAt.nil _ _, by omega⟩, below15 G2.out (by exact Nat.le_succ _)⟩
set_option maxHeartbeats 8000000 in
theorem read_way {V : World} {p : Nat} (key : ByteArray) (x0 x1 x2 : Int) (x3 : ByteArray) (x4 x5 x6 x7 x8 x9 x10 x11 m1 m2 : Int) (y : It) (h1 : ¬ y.id = x0)
    (HT : Hid (∀ W, Calls Tryz.prog 20 #[txv ⟨x0, x1, x2, x3, x4, x5, x6, x7, x8, x9, x10, x11⟩] W fun e w' => e = .returned (sv m1 m2) ∧ Below W.heap.size W w'))
    (HI : Hid (∀ W, Below V.heap.size V W → Calls Tryz.prog 107 #[pt p, .string key] W fun e w' => (∃ A n c, e = .returned (.tuple #[itv y (.slice A n c), .bool true]) ∧ ChAt w' A n y.l ∧ n ≤ 9223372036854775807) ∧ Below W.heap.size W w'))
    (HL1 : Hid (∀ W, Calls Tryz.prog 44 #[sv m1 m2, sv y.sw y.sl] W fun e w' => e = .returned (.bool false) ∧ Below W.heap.size W w'))
    : Calls Tryz.prog 55 #[pt p, .string key, txv ⟨x0, x1, x2, x3, x4, x5, x6, x7, x8, x9, x10, x11⟩] V fun e w' => AnsF (⟨key, ⟨#[]⟩, false, false, 0, 0, y⟩, 120) e w' ∧ Below V.heap.size V w' := by
  have hz1 : (V.alloc (.cells (txc ⟨x0, x1, x2, x3, x4, x5, x6, x7, x8, x9, x10, x11⟩) 28)).heap.size = V.heap.size + 1 := World.size_alloc _ _
  have TX0 := Lib.hid ((Blk.new V 28 (txc ⟨x0, x1, x2, x3, x4, x5, x6, x7, x8, x9, x10, x11⟩)).below (nbl _ (.cells (fdc zF (.slice none 0 0)) 39)) (Blk.new V 28 _).lt)
  have RB0 := Lib.hid (Blk.new (V.alloc (.cells (txc ⟨x0, x1, x2, x3, x4, x5, x6, x7, x8, x9, x10, x11⟩) 28)) 39 (fdc zF (.slice none 0 0)))
  rw [hz1] at RB0
  have G0 := Lib.hid (bsa (nbl V (.cells (txc ⟨x0, x1, x2, x3, x4, x5, x6, x7, x8, x9, x10, x11⟩) 28)) (.cells (fdc zF (.slice none 0 0)) 39))
  clear hz1
  have hb1 : (y.id == x0) = false := by simpa using h1
  clear h1
  go_enter Tryz.func55, Tryz.ntmps55
  go_wp2_with (first
      | (go_at_call 20; refine (HT.out _).mono ?_; rintro e w1 ⟨rfl, hb1⟩
         have g1 := bsa (bst G0.out hb1) (.cells #[.int .i64 m1, .int .i64 m2] 26)
         have hb1' := bsa hb1 (.cells #[.int .i64 m1, .int .i64 m2] 26)
         have TX1 := Lib.hid (TX0.out.below hb1' TX0.out.lt)
         have RB1 := Lib.hid (RB0.out.below hb1' RB0.out.lt)
         have ST1 := Lib.hid (Blk.new w1 26 #[.int .i64 m1, .int .i64 m2])
         have G1 := Lib.hid g1
         clear hb1 hb1' g1)
      | (go_at_call 107; refine (HI.out _ G1.out).mono ?_; rintro e w2 ⟨⟨A, n, c, rfl, hat, hnn⟩, hb2⟩
         have hb2' := bsa hb2 (.cells (itc y (.slice A n c)) 37)
         have tx2 := TX1.out.below hb2' TX1.out.lt
         have rb2 := RB1.out.below hb2' RB1.out.lt
         have st2 := ST1.out.below hb2' ST1.out.lt
         have G2 := Lib.hid (bst G1.out hb2')
         have x2_0 := tx2.cell 0
         have x2_1 := tx2.cell 1
         simp at x2_0 x2_1
         have s2_0 := st2.cell 0
         have s2_1 := st2.cell 1
         simp at s2_0 s2_1
         have r2_0 := rb2.cell 0
         have q2_0 := rb2.frozen 0
         have r2_1 := rb2.cell 1
         have q2_1 := rb2.frozen 1
         have r2_2 := rb2.cell 2
         have q2_2 := rb2.frozen 2
         have r2_3 := rb2.cell 3
         have q2_3 := rb2.frozen 3
         have r2_4 := rb2.cell 4
         have q2_4 := rb2.frozen 4
         have r2_5 := rb2.cell 5
         have q2_5 := rb2.frozen 5
         have r2_6 := rb2.cell 6
         have q2_6 := rb2.frozen 6
         have r2_7 := rb2.cell 7
         have q2_7 := rb2.frozen 7
         have r2_8 := rb2.cell 8
         have q2_8 := rb2.frozen 8
         have r2_9 := rb2.cell 9
         have q2_9 := rb2.frozen 9
         have r2_10 := rb2.cell 10
         have q2_10 := rb2.frozen 10
         have r2_11 := rb2.cell 11
         have q2_11 := rb2.frozen 11
         have r2_12 := rb2.cell 12
         have q2_12 := rb2.frozen 12
         have r2_13 := rb2.cell 13
         have q2_13 := rb2.frozen 13
         have r2_14 := rb2.cell 14
         have q2_14 := rb2.frozen 14
         simp at r2_0 r2_1 r2_2 r2_3 r2_4 r2_5 r2_6 r2_7 r2_8 r2_9 r2_10 r2_11 r2_12 r2_13 r2_14
         have TX2 := Lib.hid tx2
         have RB2 := Lib.hid rb2
         have ST2 := Lib.hid st2
         have IT2 := Lib.hid (Blk.new w2 37 (itc y (.slice A n c)))
         have HAT2 := Lib.hid (hat.below (nbl w2 (.cells (itc y (.slice A n c)) 37)))
         clear hat
         clear hb2 hb2' tx2 rb2 st2)
      | (go_at_call_of 44 (Value.agg #[Value.int .i64 m1, Value.int .i64 m2]); refine (HL1.out _).mono ?_; rintro e w3 ⟨rfl, hb3⟩
         have tx3 := TX2.out.below hb3 TX2.out.lt
         have rb3 := RB2.out.below hb3 RB2.out.lt
         have st3 := ST2.out.below hb3 ST2.out.lt
         have it3 := IT2.out.below hb3 IT2.out.lt
         have G3 := Lib.hid (bst G2.out hb3)
         have i3_0 := it3.cell 0
         have i3_1 := it3.cell 1
         have i3_2 := it3.cell 2
         have i3_3 := it3.cell 3
         have i3_4 := it3.cell 4
         have i3_5 := it3.cell 5
         have i3_6 := it3.cell 6
         have i3_7 := it3.cell 7
         have i3_8 := it3.cell 8
         simp at i3_0 i3_1 i3_2 i3_3 i3_4 i3_5 i3_6 i3_7 i3_8
         have r3_0 := rb3.cell 0
         have q3_0 := rb3.frozen 0
         have r3_1 := rb3.cell 1
         have q3_1 := rb3.frozen 1
         have r3_2 := rb3.cell 2
         have q3_2 := rb3.frozen 2
         have r3_3 := rb3.cell 3
         have q3_3 := rb3.frozen 3
         have r3_4 := rb3.cell 4
         have q3_4 := rb3.frozen 4
         have r3_5 := rb3.cell 5
         have q3_5 := rb3.frozen 5
         have r3_6 := rb3.cell 6
         have q3_6 := rb3.frozen 6
         have r3_7 := rb3.cell 7
         have q3_7 := rb3.frozen 7
         have r3_8 := rb3.cell 8
         have q3_8 := rb3.frozen 8
         have r3_9 := rb3.cell 9
         have q3_9 := rb3.frozen 9
         have r3_10 := rb3.cell 10
         have q3_10 := rb3.frozen 10
         have r3_11 := rb3.cell 11
         have q3_11 := rb3.frozen 11
         have r3_12 := rb3.cell 12
         have q3_12 := rb3.frozen 12
         have r3_13 := rb3.cell 13
         have q3_13 := rb3.frozen 13
         have r3_14 := rb3.cell 14
         have q3_14 := rb3.frozen 14
         simp at r3_0 r3_1 r3_2 r3_3 r3_4 r3_5 r3_6 r3_7 r3_8 r3_9 r3_10 r3_11 r3_12 r3_13 r3_14
         have TX3 := Lib.hid tx3
         have RB3 := Lib.hid rb3
         have ST3 := Lib.hid st3
         have HAT3 := Lib.hid (HAT2.out.below hb3)
         clear hb3 tx3 rb3 st3 it3))
  have hch := HAT3.out.put15 (v0 := .string key) (v1 := .string ⟨#[]⟩) (v2 := .bool false) (v3 := .bool false) (v4 := .int .i64 0) (v5 := .int .i64 0) (v6 := .int .i64 y.id) (v7 := .int .i64 y.ep) (v8 := .int .i64 y.pr) (v9 := .string y.an) (v10 := .int .i64 y.sw) (v11 := .int .i64 y.sl) (v12 := .int .i64 y.bw) (v13 := .int .i64 y.bl) (v14 := .slice A n c) (HAT3.out.apart (show Blk _ _ _ (fdc zF (.slice none 0 0)) from RB3.out) (fd_no _ _ (fun d e => nomatch e)))
  refine ret_fd2 rfl rfl (Blk.all15 (v0 := .string key) (v1 := .string ⟨#[]⟩) (v2 := .bool false) (v3 := .bool false) (v4 := .int .i64 0) (v5 := .int .i64 0) (v6 := .int .i64 y.id) (v7 := .int .i64 y.ep) (v8 := .int .i64 y.pr) (v9 := .string y.an) (v10 := .int .i64 y.sw) (v11 := .int .i64 y.sl) (v12 := .int .i64 y.bw) (v13 := .int .i64 y.bl) (v14 := .slice A n c) (by exact RB3.out)) rfl rfl ⟨⟨A, n, c, rfl, hch, by omega⟩, below15 G3.out (by exact Nat.le_succ _)⟩
set_option maxHeartbeats 8000000 in
theorem read_own {V : World} {p : Nat} (key : ByteArray) (x0 x1 x2 : Int) (x3 : ByteArray) (x4 x5 x6 x7 x8 x9 x10 x11 m1 m2 : Int) (y : It) (ov : ByteArray) (oi : Bool) (h1 : y.id = x0) (h3 : y.ep = x1)
    (HT : Hid (∀ W, Calls Tryz.prog 20 #[txv ⟨x0, x1, x2, x3, x4, x5, x6, x7, x8, x9, x10, x11⟩] W fun e w' => e = .returned (sv m1 m2) ∧ Below W.heap.size W w'))
    (HI : Hid (∀ W, Below V.heap.size V W → Calls Tryz.prog 107 #[pt p, .string key] W fun e w' => (∃ A n c, e = .returned (.tuple #[itv y (.slice A n c), .bool true]) ∧ ChAt w' A n y.l ∧ n ≤ 9223372036854775807) ∧ Below W.heap.size W w'))
    (HO : Hid (∀ W (A : Option Addr) n c, ChAt W A n y.l → n ≤ 9223372036854775807 → Calls Tryz.prog 108 #[.string key, itv y (.slice A n c)] W fun e w' => e = .returned (fdv ⟨key, ov, oi, true, y.sw, y.sl, zI⟩ (.slice none 0 0)) ∧ Below W.heap.size W w'))
    : Calls Tryz.prog 55 #[pt p, .string key, txv ⟨x0, x1, x2, x3, x4, x5, x6, x7, x8, x9, x10, x11⟩] V fun e w' => AnsF (⟨key, ov, oi, true, y.sw, y.sl, zI⟩, 0) e w' ∧ Below V.heap.size V w' := by
  have hz1 : (V.alloc (.cells (txc ⟨x0, x1, x2, x3, x4, x5, x6, x7, x8, x9, x10, x11⟩) 28)).heap.size = V.heap.size + 1 := World.size_alloc _ _
  have TX0 := Lib.hid ((Blk.new V 28 (txc ⟨x0, x1, x2, x3, x4, x5, x6, x7, x8, x9, x10, x11⟩)).below (nbl _ (.cells (fdc zF (.slice none 0 0)) 39)) (Blk.new V 28 _).lt)
  have RB0 := Lib.hid (Blk.new (V.alloc (.cells (txc ⟨x0, x1, x2, x3, x4, x5, x6, x7, x8, x9, x10, x11⟩) 28)) 39 (fdc zF (.slice none 0 0)))
  rw [hz1] at RB0
  have G0 := Lib.hid (bsa (nbl V (.cells (txc ⟨x0, x1, x2, x3, x4, x5, x6, x7, x8, x9, x10, x11⟩) 28)) (.cells (fdc zF (.slice none 0 0)) 39))
  clear hz1
  subst h1
  subst h3
  go_enter Tryz.func55, Tryz.ntmps55
  go_wp2_with (first
      | (go_at_call 20; refine (HT.out _).mono ?_; rintro e w1 ⟨rfl, hb1⟩
         have g1 := bsa (bst G0.out hb1) (.cells #[.int .i64 m1, .int .i64 m2] 26)
         have hb1' := bsa hb1 (.cells #[.int .i64 m1, .int .i64 m2] 26)
         have TX1 := Lib.hid (TX0.out.below hb1' TX0.out.lt)
         have RB1 := Lib.hid (RB0.out.below hb1' RB0.out.lt)
         have ST1 := Lib.hid (Blk.new w1 26 #[.int .i64 m1, .int .i64 m2])
         have G1 := Lib.hid g1
         clear hb1 hb1' g1)
      | (go_at_call 107; refine (HI.out _ G1.out).mono ?_; rintro e w2 ⟨⟨A, n, c, rfl, hat, hnn⟩, hb2⟩
         have hb2' := bsa hb2 (.cells (itc y (.slice A n c)) 37)
         have tx2 := TX1.out.below hb2' TX1.out.lt
         have rb2 := RB1.out.below hb2' RB1.out.lt
         have st2 := ST1.out.below hb2' ST1.out.lt
         have G2 := Lib.hid (bst G1.out hb2')
         have x2_0 := tx2.cell 0
         have x2_1 := tx2.cell 1
         simp at x2_0 x2_1
         have r2_0 := rb2.cell 0
         have q2_0 := rb2.frozen 0
         have r2_1 := rb2.cell 1
         have q2_1 := rb2.frozen 1
         have r2_2 := rb2.cell 2
         have q2_2 := rb2.frozen 2
         have r2_3 := rb2.cell 3
         have q2_3 := rb2.frozen 3
         have r2_4 := rb2.cell 4
         have q2_4 := rb2.frozen 4
         have r2_5 := rb2.cell 5
         have q2_5 := rb2.frozen 5
         have r2_6 := rb2.cell 6
         have q2_6 := rb2.frozen 6
         have r2_7 := rb2.cell 7
         have q2_7 := rb2.frozen 7
         have r2_8 := rb2.cell 8
         have q2_8 := rb2.frozen 8
         have r2_9 := rb2.cell 9
         have q2_9 := rb2.frozen 9
         have r2_10 := rb2.cell 10
         have q2_10 := rb2.frozen 10
         have r2_11 := rb2.cell 11
         have q2_11 := rb2.frozen 11
         have r2_12 := rb2.cell 12
         have q2_12 := rb2.frozen 12
         have r2_13 := rb2.cell 13
         have q2_13 := rb2.frozen 13
         have r2_14 := rb2.cell 14
         have q2_14 := rb2.frozen 14
         simp at r2_0 r2_1 r2_2 r2_3 r2_4 r2_5 r2_6 r2_7 r2_8 r2_9 r2_10 r2_11 r2_12 r2_13 r2_14
         have TX2 := Lib.hid tx2
         have RB2 := Lib.hid rb2
         have ST2 := Lib.hid st2
         have IT2 := Lib.hid (Blk.new w2 37 (itc y (.slice A n c)))
         have HAT2 := Lib.hid (hat.below (nbl w2 (.cells (itc y (.slice A n c)) 37)))
         clear hat
         clear hb2 hb2' tx2 rb2 st2)
      | (go_at_call 108; refine (HO.out _ A n c HAT2.out hnn).mono ?_; rintro e w3 ⟨rfl, hb3⟩
         have rb3 := RB2.out.below hb3 RB2.out.lt
         have G3 := Lib.hid (bst G2.out hb3)
         have r3_0 := rb3.cell 0
         have q3_0 := rb3.frozen 0
         have r3_1 := rb3.cell 1
         have q3_1 := rb3.frozen 1
         have r3_2 := rb3.cell 2
         have q3_2 := rb3.frozen 2
         have r3_3 := rb3.cell 3
         have q3_3 := rb3.frozen 3
         have r3_4 := rb3.cell 4
         have q3_4 := rb3.frozen 4
         have r3_5 := rb3.cell 5
         have q3_5 := rb3.frozen 5
         have r3_6 := rb3.cell 6
         have q3_6 := rb3.frozen 6
         have r3_7 := rb3.cell 7
         have q3_7 := rb3.frozen 7
         have r3_8 := rb3.cell 8
         have q3_8 := rb3.frozen 8
         have r3_9 := rb3.cell 9
         have q3_9 := rb3.frozen 9
         have r3_10 := rb3.cell 10
         have q3_10 := rb3.frozen 10
         have r3_11 := rb3.cell 11
         have q3_11 := rb3.frozen 11
         have r3_12 := rb3.cell 12
         have q3_12 := rb3.frozen 12
         have r3_13 := rb3.cell 13
         have q3_13 := rb3.frozen 13
         have r3_14 := rb3.cell 14
         have q3_14 := rb3.frozen 14
         simp at r3_0 r3_1 r3_2 r3_3 r3_4 r3_5 r3_6 r3_7 r3_8 r3_9 r3_10 r3_11 r3_12 r3_13 r3_14
         have RB3 := Lib.hid rb3
         clear hb3 rb3))
  refine ret_fd2 rfl rfl (Blk.all15 (v0 := .string key) (v1 := .string ov) (v2 := .bool oi) (v3 := .bool true) (v4 := .int .i64 y.sw) (v5 := .int .i64 y.sl) (v6 := .int .i64 0) (v7 := .int .i64 0) (v8 := .int .i64 0) (v9 := .string ⟨#[]⟩) (v10 := .int .i64 0) (v11 := .int .i64 0) (v12 := .int .i64 0) (v13 := .int .i64 0) (v14 := .slice none 0 0) (by exact RB3.out)) rfl rfl ⟨⟨none, 0, 0, rfl, ChAt.nil _ _, by omega⟩, below15 G3.out (by exact Nat.le_succ _)⟩
end Go.Proofs.YtdaecfgjfdikbaaGreatDoor
set_option linter.unusedVariables false
set_option maxRecDepth 100000
namespace Go.Proofs.YtdaecfgjfdikbaaGreatDoor
open Go.RowKit
set_option maxHeartbeats 2000000 in
theorem read_c {V : World} {p : Nat} {r : List Rw} {F : Nat → Prop} (h : (tbA p r).p V F) (hz : Szs r) (hM : MaxL V) (key : ByteArray) (hk : isK key = true) (x : Tx) (hx : mayX x = true) :
    Calls Tryz.prog 55 #[pt p, .string key, txv x] V fun e w' => AnsF (preadC r key x) e w' ∧ Below V.heap.size V w' := by
  have hI := fun W (hb : Below V.heap.size V W) => intentAt_c (tbA_below h hb) hz (hM.below hb) key hk
  have hV := fun W (hb : Below V.heap.size V W) => verUp_c (tbA_below h hb) hz (hM.below hb) key hk (topX x).1 (topX x).2 (top_may hx)
  have hT := pkTop x
  have hY : ∀ y, pint r key = some y → y.l ≠ [] := fun y hy => (tkI_may hy).2
  unfold preadC
  rw [show pverC r key ((topX x).1, (topX x).2) = pverC r key (topX x) from rfl] at hV
  generalize pverC r key (topX x) = v at *
  obtain ⟨u, hu⟩ : ∃ u, verF key v = u := ⟨_, rfl⟩
  obtain ⟨hu1, hu2, hu3⟩ := verF_it key v
  have hnf := newF_is v key x u hu
  rw [hu] at hV hu1 hu2 hu3
  have hL1 := fun (y : It) W => less_c (topX x).1 (topX x).2 y.sw y.sl W
  have hL2 := fun W => less_c u.sw u.sl x.rw x.rl W
  have hlt : ∀ y : It, lt (topX x) (y.sw, y.sl) = lt ((topX x).1, (topX x).2) (y.sw, y.sl) := fun _ => rfl
  unfold preadW
  simp only [hlt, hnf]
  generalize pint r key = o at *
  generalize topX x = m at *
  obtain ⟨m1, m2⟩ := m
  simp only at hL1 hV hT ⊢
  obtain ⟨uk, uv, ui, uo, usw, usl, ui9⟩ := u
  simp only at hL2 hu1 hu2 hu3 ⊢
  subst hu1
  obtain ⟨x0, x1, x2, x3, x4, x5, x6, x7, x8, x9, x10, x11⟩ := x
  simp only at hL2 ⊢
  generalize lt (usw, usl) (x4, x5) = l2 at *
  cases o with
  | none =>
    cases l2
    · exact read_none_false key x0 x1 x2 x3 x4 x5 x6 x7 x8 x9 x10 x11 m1 m2 uk uv ui uo usw usl (Lib.hid hT) (Lib.hid hI) (Lib.hid hV) (Lib.hid hL2)
    · exact read_none_true key x0 x1 x2 x3 x4 x5 x6 x7 x8 x9 x10 x11 m1 m2 uk uv ui uo usw usl (Lib.hid hT) (Lib.hid hI) (Lib.hid hV) (Lib.hid hL2)
  | some y =>
    have hyl := hY y rfl
    have hL1 := hL1 y
    simp only
    generalize lt (m1, m2) (y.sw, y.sl) = l1 at *
    by_cases h1 : y.id = x0
    · by_cases h2 : x1 < y.ep
      · rw [if_pos ⟨h1, h2⟩]
        exact read_stale key x0 x1 x2 x3 x4 x5 x6 x7 x8 x9 x10 x11 m1 m2 y h1 h2 (Lib.hid hT) (Lib.hid hI)
      · rw [if_neg (fun hh => h2 hh.2)]
        by_cases h3 : y.ep = x1
        · rw [if_pos ⟨h1, h3⟩]
          exact read_own key x0 x1 x2 x3 x4 x5 x6 x7 x8 x9 x10 x11 m1 m2 y _ _ h1 h3 (Lib.hid hT) (Lib.hid hI) (Lib.hid fun W A n c hat hn => ownFound_c key y A n c W hat hn hyl)
        · rw [if_neg (fun hh => h3 hh.2), if_neg (fun hh => hh.1 h1)]
          cases l2
          · exact read_old_false key x0 x1 x2 x3 x4 x5 x6 x7 x8 x9 x10 x11 m1 m2 uk uv ui uo usw usl y h1 h2 h3 (Lib.hid hT) (Lib.hid hI) (Lib.hid hV) (Lib.hid hL2)
          · exact read_old_true key x0 x1 x2 x3 x4 x5 x6 x7 x8 x9 x10 x11 m1 m2 uk uv ui uo usw usl y h1 h2 h3 (Lib.hid hT) (Lib.hid hI) (Lib.hid hV) (Lib.hid hL2)
    · rw [if_neg (fun hh => h1 hh.1), if_neg (fun hh => h1 hh.1)]
      cases l1
      · rw [if_pos ⟨h1, rfl⟩]
        exact read_way key x0 x1 x2 x3 x4 x5 x6 x7 x8 x9 x10 x11 m1 m2 y h1 (Lib.hid hT) (Lib.hid hI) (Lib.hid hL1)
      · rw [if_neg (fun hh => nomatch hh.2)]
        cases l2
        · exact read_free_false key x0 x1 x2 x3 x4 x5 x6 x7 x8 x9 x10 x11 m1 m2 uk uv ui uo usw usl y h1 (Lib.hid hT) (Lib.hid hI) (Lib.hid hL1) (Lib.hid hV) (Lib.hid hL2)
        · exact read_free_true key x0 x1 x2 x3 x4 x5 x6 x7 x8 x9 x10 x11 m1 m2 uk uv ui uo usw usl y h1 (Lib.hid hT) (Lib.hid hI) (Lib.hid hL1) (Lib.hid hV) (Lib.hid hL2)
end Go.Proofs.YtdaecfgjfdikbaaGreatDoor
set_option linter.unusedVariables false
set_option linter.unusedSimpArgs false
set_option maxRecDepth 100000
namespace Go.Proofs.YtdaecfgjfdikbaaGreatDoor
open Go.RowKit

set_option maxHeartbeats 4000000 in
theorem pkCheck {w V : World} {T : List As} {p N : Nat} {r : List Rw} (h : Has w (tbA p r :: T) V) (hr : ROk N r) (hN : N ≤ 999999000) (ok : Bool) (x : Tx) (lw ll : Int) :
    Calls Tryz.prog 53 #[pt p, .bool ok, txv x, sv lw ll] V fun e w' => e = .returned (.int .i64 (chkP ok x (lw, ll))) ∧ Has w (tbA p r :: T) w' := by
  have h1 := ((h.newBlk 28 (txc x)).newBlk 26 #[.int .i64 lw, .int .i64 ll]).perm (List.perm_middle (l₁ := [_, _]))
  have hz1 : (V.alloc (.cells (txc x) 28)).heap.size = V.heap.size + 1 := World.size_alloc _ _
  rw [hz1] at h1
  have HA := Lib.hid (show Calls Tryz.prog 41 #[pt p, .slice none 0 0] ((V.alloc (.cells (txc x) 28)).alloc (.cells #[.int .i64 lw, .int .i64 ll] 26)) fun e w' => e = .returned (.int .i64 0) ∧ Has w (tbA p r :: blkA (V.heap.size + 1) 26 #[.int .i64 lw, .int .i64 ll] :: blkA V.heap.size 28 (txc x) :: T) w' from
    (Has.tbApply h1 hr hN none 0 0 [] ⟨rfl, fun h => absurd h (by omega)⟩ (by omega) (fun o ho => nomatch ho)).mono fun e w' hq => ⟨hq.1, hq.2.1⟩)
  have HM := Lib.hid (pkMay x)
  have HS := Lib.hid (fun W => pkStamps (some ⟨W.heap.size, 0, none⟩) 1 1 [(lw, ll)] (may lw ll) (by simp [mayP]) (W.alloc (.cells #[.int .i64 lw, .int .i64 ll] 26)) (by decide) (one_stamp W lw ll))
  have HL := Lib.hid (fun W => less_c lw ll x.rw x.rl W)
  clear h h1 hr hN hz1
  unfold chkP
  simp only
  generalize mayX x = mx_ at *
  generalize may lw ll = ml_ at *
  generalize lt (lw, ll) (x.rw, x.rl) = lt_ at *
  cases ok
  · go_enter Tryz.func53, Tryz.ntmps53
    go_wp2_with (go_at_call 41; refine HA.out.mono ?_; rintro e w1 ⟨rfl, h2⟩; have HF := Lib.hid h2.swap.tail.swap.tail)
    go_ret
    exact ⟨rfl, HF.out⟩
  cases mx_
  · go_enter Tryz.func53, Tryz.ntmps53
    go_wp2_with (first
      | (go_at_call 41; refine HA.out.mono ?_; rintro e w1 ⟨rfl, h2⟩
         have HF := Lib.hid h2.swap.tail.swap.tail
         have b1 := (h2.blkIn (g := V.heap.size) (t := 28) (cs := txc x) (by simp))
         have t0 := b1.cell 0
         have t1 := b1.cell 1
         have t2 := b1.cell 2
         have t3 := b1.cell 3
         have t4 := b1.cell 4
         have t5 := b1.cell 5
         have t6 := b1.cell 6
         have t7 := b1.cell 7
         have t8 := b1.cell 8
         have t9 := b1.cell 9
         have t10 := b1.cell 10
         have t11 := b1.cell 11
         simp at t0 t1 t2 t3 t4 t5 t6 t7 t8 t9 t10 t11
         clear h2 b1)
      | (go_at_call 105; refine (HM.out _).mono ?_; rintro e w2 ⟨rfl, hb2⟩; have HF2 := Lib.hid (HF.out.keep hb2)))
    go_ret
    exact ⟨rfl, HF2.out⟩
  cases ml_
  · go_enter Tryz.func53, Tryz.ntmps53
    go_wp2_with (first
      | (go_at_call 41; refine HA.out.mono ?_; rintro e w1 ⟨rfl, h2⟩
         have HF := Lib.hid h2
         have b1 := (h2.blkIn (g := V.heap.size) (t := 28) (cs := txc x) (by simp))
         have t0 := b1.cell 0
         have t1 := b1.cell 1
         have t2 := b1.cell 2
         have t3 := b1.cell 3
         have t4 := b1.cell 4
         have t5 := b1.cell 5
         have t6 := b1.cell 6
         have t7 := b1.cell 7
         have t8 := b1.cell 8
         have t9 := b1.cell 9
         have t10 := b1.cell 10
         have t11 := b1.cell 11
         simp at t0 t1 t2 t3 t4 t5 t6 t7 t8 t9 t10 t11
         clear h2 b1)
      | (go_at_call 105; refine (HM.out _).mono ?_; rintro e w2 ⟨rfl, hb2⟩
         have h3 := HF.out.keep hb2
         have b2 := (h3.blkIn (g := V.heap.size + 1) (t := 26) (cs := #[.int .i64 lw, .int .i64 ll]) (by simp))
         have s0 := b2.cell 0
         have s1 := b2.cell 1
         simp at s0 s1
         have HF2 := Lib.hid h3
         have HS2 := Lib.hid (HS.out w2)
         clear hb2 h3 b2)
      | (go_at_call 106; refine HS2.out.mono ?_; rintro e w3 ⟨rfl, hb3⟩
         have h4 := HF2.out.keep (bst (nbl w2 (.cells #[.int .i64 lw, .int .i64 ll] 26)) hb3)
         have b3 := (h4.blkIn (g := V.heap.size + 1) (t := 26) (cs := #[.int .i64 lw, .int .i64 ll]) (by simp))
         have b4 := (h4.blkIn (g := V.heap.size) (t := 28) (cs := txc x) (by simp))
         have z0 := b3.cell 0
         have z1 := b3.cell 1
         have y4 := b4.cell 4
         have y5 := b4.cell 5
         simp at z0 z1 y4 y5
         have HF3 := Lib.hid h4
         clear h4 b3 b4 hb3)
)
    go_ret
    exact ⟨rfl, HF3.out.swap.tail.swap.tail⟩
  cases lt_
  all_goals go_enter Tryz.func53, Tryz.ntmps53
  all_goals go_wp2_with (first
      | (go_at_call 41; refine HA.out.mono ?_; rintro e w1 ⟨rfl, h2⟩
         have HF := Lib.hid h2
         have b1 := (h2.blkIn (g := V.heap.size) (t := 28) (cs := txc x) (by simp))
         have t0 := b1.cell 0
         have t1 := b1.cell 1
         have t2 := b1.cell 2
         have t3 := b1.cell 3
         have t4 := b1.cell 4
         have t5 := b1.cell 5
         have t6 := b1.cell 6
         have t7 := b1.cell 7
         have t8 := b1.cell 8
         have t9 := b1.cell 9
         have t10 := b1.cell 10
         have t11 := b1.cell 11
         simp at t0 t1 t2 t3 t4 t5 t6 t7 t8 t9 t10 t11
         clear h2 b1)
      | (go_at_call 105; refine (HM.out _).mono ?_; rintro e w2 ⟨rfl, hb2⟩
         have h3 := HF.out.keep hb2
         have b2 := (h3.blkIn (g := V.heap.size + 1) (t := 26) (cs := #[.int .i64 lw, .int .i64 ll]) (by simp))
         have s0 := b2.cell 0
         have s1 := b2.cell 1
         simp at s0 s1
         have HF2 := Lib.hid h3
         have HS2 := Lib.hid (HS.out w2)
         clear hb2 h3 b2)
      | (go_at_call 106; refine HS2.out.mono ?_; rintro e w3 ⟨rfl, hb3⟩
         have h4 := HF2.out.keep (bst (nbl w2 (.cells #[.int .i64 lw, .int .i64 ll] 26)) hb3)
         have b3 := (h4.blkIn (g := V.heap.size + 1) (t := 26) (cs := #[.int .i64 lw, .int .i64 ll]) (by simp))
         have b4 := (h4.blkIn (g := V.heap.size) (t := 28) (cs := txc x) (by simp))
         have z0 := b3.cell 0
         have z1 := b3.cell 1
         have y4 := b4.cell 4
         have y5 := b4.cell 5
         simp at z0 z1 y4 y5
         have HF3 := Lib.hid h4
         clear h4 b3 b4 hb3)
      | (go_at_call 44; refine (HL.out _).mono ?_; rintro e w4 ⟨rfl, hb4⟩; have HF4 := Lib.hid (HF3.out.keep hb4)))
  all_goals go_ret
  all_goals exact ⟨rfl, HF4.out.swap.tail.swap.tail⟩
end Go.Proofs.YtdaecfgjfdikbaaGreatDoor
set_option linter.unusedVariables false
set_option linter.unusedSimpArgs false
set_option maxRecDepth 100000
namespace Go.Proofs.YtdaecfgjfdikbaaGreatDoor
open Go.RowKit

theorem chk_no {ok : Bool} {x : Tx} {l : Int × Int} (h : chkP ok x l = 0) : ok = true ∧ mayX x = true := by
  unfold chkP at h
  split at h
  · cases h
  · rename_i hh
    cases ok <;> cases hx : mayX x <;> simp [hx] at hh ⊢
set_option maxHeartbeats 8000000 in
theorem pkGet {w V : World} {T : List As} {p N : Nat} {r : List Rw} (h : Has w (tbA p r :: T) V) (hr : ROk N r) (hN : N ≤ 999999000) (hM : MaxL w) (key : ByteArray) (hks : key.size ≤ 281474976710656) (x : Tx) (lw ll : Int) :
    Calls Tryz.prog 16 #[pt p, .string key, txv x, sv lw ll] V fun e w' => AnsF (pgetC r key x (lw, ll)) e w' ∧ Has w (tbA p r :: T) w' := by
  unfold pgetC
  rw [pget_chk]
  have hcx : chkP (isK key) x (lw, ll) = 0 → isK key = true ∧ mayX x = true := chk_no
  have hC := fun (T2 : List As) W (hh : Has w (tbA p r :: T2) W) => pkCheck hh hr hN (isK key) x lw ll
  have hR := fun (T2 : List As) W (hh : Has w (tbA p r :: T2) W) (hk : isK key = true) (hx : mayX x = true) => read_c (F := hh.get.choose) hh.get.choose_spec.1 hr.szs (hM.below hh.bel) key hk x hx
  have HK := Lib.hid (pkIsKey key)
  generalize isK key = ik at *
  generalize chkP ik x (lw, ll) = ce at *
  generalize preadC r key x = o at *
  obtain ⟨f, k⟩ := o
  obtain ⟨x0, x1, x2, x3, x4, x5, x6, x7, x8, x9, x10, x11⟩ := x
  have h1 := (((h.newBlk 28 (txc ⟨x0, x1, x2, x3, x4, x5, x6, x7, x8, x9, x10, x11⟩)).newBlk 26 #[.int .i64 lw, .int .i64 ll]).newBlk 39 (fdc zF (.slice none 0 0)))
  have hz1 : (V.alloc (.cells (txc ⟨x0, x1, x2, x3, x4, x5, x6, x7, x8, x9, x10, x11⟩) 28)).heap.size = V.heap.size + 1 := World.size_alloc _ _
  have hz2 : ((V.alloc (.cells (txc ⟨x0, x1, x2, x3, x4, x5, x6, x7, x8, x9, x10, x11⟩) 28)).alloc (.cells #[.int .i64 lw, .int .i64 ll] 26)).heap.size = V.heap.size + 1 + 1 := (World.size_alloc _ _).trans (by rw [hz1])
  rw [hz2, hz1] at h1
  have H1 := Lib.hid h1
  have HC := Lib.hid (fun W (hh : Has w (blkA (V.heap.size + 1 + 1) 39 (fdc zF (.slice none 0 0)) :: blkA (V.heap.size + 1) 26 #[.int .i64 lw, .int .i64 ll] :: blkA V.heap.size 28 (txc ⟨x0, x1, x2, x3, x4, x5, x6, x7, x8, x9, x10, x11⟩) :: tbA p r :: T) W) => (show Calls Tryz.prog 53 #[pt p, .bool ik, txv ⟨x0, x1, x2, x3, x4, x5, x6, x7, x8, x9, x10, x11⟩, sv lw ll] W fun e w' => e = .returned (.int .i64 ce) ∧ Has w (blkA (V.heap.size + 1 + 1) 39 (fdc zF (.slice none 0 0)) :: blkA (V.heap.size + 1) 26 #[.int .i64 lw, .int .i64 ll] :: blkA V.heap.size 28 (txc ⟨x0, x1, x2, x3, x4, x5, x6, x7, x8, x9, x10, x11⟩) :: tbA p r :: T) w' from
    (hC _ W (hh.perm (List.perm_middle (l₁ := [_, _, _])))).mono fun e w' hq => ⟨hq.1, hq.2.perm (List.perm_middle (l₁ := [_, _, _])).symm⟩))
  have HR := Lib.hid (fun (hz : ce = 0) W (hh : Has w (blkA (V.heap.size + 1 + 1) 39 (fdc zF (.slice none 0 0)) :: blkA (V.heap.size + 1) 26 #[.int .i64 lw, .int .i64 ll] :: blkA V.heap.size 28 (txc ⟨x0, x1, x2, x3, x4, x5, x6, x7, x8, x9, x10, x11⟩) :: tbA p r :: T) W) => (show Calls Tryz.prog 55 #[pt p, .string key, txv ⟨x0, x1, x2, x3, x4, x5, x6, x7, x8, x9, x10, x11⟩] W fun e w' => AnsF (f, k) e w' ∧ Has w (blkA (V.heap.size + 1 + 1) 39 (fdc zF (.slice none 0 0)) :: blkA (V.heap.size + 1) 26 #[.int .i64 lw, .int .i64 ll] :: blkA V.heap.size 28 (txc ⟨x0, x1, x2, x3, x4, x5, x6, x7, x8, x9, x10, x11⟩) :: tbA p r :: T) w' from
    (hR _ W (hh.perm (List.perm_middle (l₁ := [_, _, _]))) (hcx hz).1 (hcx hz).2).mono fun e w' hq => ⟨hq.1, hh.keep hq.2⟩))
  have hmix : Tryz.prog.follows .mixedOrders = true := by kernel_rfl
  clear h h1 hz1 hz2 hC hR hcx hr hN
  by_cases hz : ce = 0
  · rw [if_pos hz]
    have HR2 := Lib.hid (HR.out hz)
    clear HR
    subst hz
    go_enter Tryz.func16, Tryz.ntmps16
    go_wp2_with fail
    refine wp_region_held_drew (S := Has w (blkA (V.heap.size + 1 + 1) 39 (fdc zF (.slice none 0 0)) :: blkA (V.heap.size + 1) 26 #[.int .i64 lw, .int .i64 ll] :: blkA V.heap.size 28 (txc ⟨x0, x1, x2, x3, x4, x5, x6, x7, x8, x9, x10, x11⟩) :: tbA p r :: T)) hmix (H1.out.drew) (fun hS => ?_)
    simp only [List.size_toArray, List.length_cons, List.length_nil, Nat.reduceAdd, Array.replicate_succ, Array.replicate_zero]
    refine wpAnyH_take (i := 0) (oi := { dst := some 11, op := Op.move (Operand.tmp 0), type := 31, pos := "peek.go:30", after := #[], guard := none }) (v := ?v0a) rfl (by kernel_rfl) (by kernel_rfl) (by kernel_rfl) (fun _ _ _ h => h) (Or.inl ⟨by rfl, ?hy0a⟩) (by assumption) ?rest0a
    case hy0a => (intro V2 hSw; (try dsimp only at hSw); go_simp; all_goals (with_reducible rfl))
    try simp only [Act.put, List.setIfInBounds_toArray, List.set_cons_zero, List.set_cons_succ]
    refine wpAnyH_take (i := 1) (oi := { dst := some 12, op := Op.move (Operand.tmp 1), type := 9, pos := "peek.go:30", after := #[], guard := none }) (v := ?v1a) rfl (by kernel_rfl) (by kernel_rfl) (by kernel_rfl) (fun _ _ _ h => h) (Or.inl ⟨by rfl, ?hy1a⟩) (by assumption) ?rest1a
    case hy1a => (intro V2 hSw; (try dsimp only at hSw); go_simp; all_goals (with_reducible rfl))
    try simp only [Act.put, List.setIfInBounds_toArray, List.set_cons_zero, List.set_cons_succ]
    refine wpAnyH_take (i := 3) (oi := { dst := some 14, op := Op.load 28 (Operand.tmp 6), type := 28, pos := "peek.go:30", after := #[], guard := none }) (v := ?v3a) rfl (by kernel_rfl) (by kernel_rfl) (by kernel_rfl) (fun _ _ _ h => h) (Or.inl ⟨by rfl, ?hy3a⟩) (by assumption) ?rest3a
    case hy3a => (intro V2 hSw; (try dsimp only at hSw); have tq := (hSw.blkIn (g := V.heap.size) (t := 28) (cs := txc ⟨x0, x1, x2, x3, x4, x5, x6, x7, x8, x9, x10, x11⟩) (by simp)); have t0 := tq.cell 0; have t1 := tq.cell 1; have t2 := tq.cell 2; have t3 := tq.cell 3; have t4 := tq.cell 4; have t5 := tq.cell 5; have t6 := tq.cell 6; have t7 := tq.cell 7; have t8 := tq.cell 8; have t9 := tq.cell 9; have t10 := tq.cell 10; have t11 := tq.cell 11; simp at t0 t1 t2 t3 t4 t5 t6 t7 t8 t9 t10 t11; go_simp; all_goals (with_reducible rfl))
    try simp only [Act.put, List.setIfInBounds_toArray, List.set_cons_zero, List.set_cons_succ]
    refine wpAnyH_take (i := 4) (oi := { dst := some 15, op := Op.load 26 (Operand.tmp 7), type := 26, pos := "peek.go:30", after := #[], guard := none }) (v := ?v4a) rfl (by kernel_rfl) (by kernel_rfl) (by kernel_rfl) (fun _ _ _ h => h) (Or.inl ⟨by rfl, ?hy4a⟩) (by assumption) ?rest4a
    case hy4a => (intro V2 hSw; (try dsimp only at hSw); have tq := (hSw.blkIn (g := V.heap.size + 1) (t := 26) (cs := #[.int .i64 lw, .int .i64 ll]) (by simp)); have t0 := tq.cell 0; have t1 := tq.cell 1; simp at t0 t1; go_simp; all_goals (with_reducible rfl))
    try simp only [Act.put, List.setIfInBounds_toArray, List.set_cons_zero, List.set_cons_succ]
    refine wpAnyH_ready (rs := [2]) (by kernel_rfl) (by simp) ?_
    refine AllReadyH.cons (o := { dst := some 13, op := Op.call { callee := Callee.value (Operand.func 54), args := #[Operand.tmp 12], argTypes := #[9] }, type := 4, pos := "peek.go:30", after := #[{ on := 1, ground := Ground.data }], guard := none }) rfl (fun K hK => ?_) AllReadyH.nil
    go_simp
    refine (HK.out _ (hM.below hS.bel)).mono ?_
    rintro e v1 ⟨rfl, hb1⟩
    refine hK.out _ _ (hS.keep hb1) (fun hS => ?_)
    clear hK K
    try simp only [Act.put, List.setIfInBounds_toArray, List.set_cons_zero, List.set_cons_succ]
    clear hb1
    refine wpAnyH_ready (rs := [5]) (by kernel_rfl) (by simp) ?_
    refine AllReadyH.cons (o := { dst := some 16, op := Op.call { callee := Callee.value (Operand.func 53), args := #[Operand.tmp 11, Operand.tmp 13, Operand.tmp 14, Operand.tmp 15], argTypes := #[31, 4, 28, 26] }, type := 40, pos := "peek.go:30", after := #[{ on := 0, ground := Ground.data }, { on := 2, ground := Ground.data }, { on := 3, ground := Ground.data }, { on := 4, ground := Ground.data }, { on := 2, ground := Ground.chain }], guard := none }) rfl (fun K hK => ?_) AllReadyH.nil
    go_simp
    refine (HC.out _ hS).mono ?_
    rintro e v2 ⟨rfl, hh2⟩
    refine hK.out _ _ (hh2) (fun hS => ?_)
    clear hK K
    try simp only [Act.put, List.setIfInBounds_toArray, List.set_cons_zero, List.set_cons_succ]
    have H2 := Lib.hid hh2
    clear hh2
    refine wpAnyH_take (i := 6) (oi := { dst := some 10, op := Op.assign (Operand.tmp 16), type := 40, pos := "peek.go:30", after := #[{ on := 5, ground := Ground.data }, { on := 5, ground := Ground.chain }, { on := 0, ground := Ground.phase }, { on := 1, ground := Ground.phase }, { on := 2, ground := Ground.phase }, { on := 3, ground := Ground.phase }, { on := 4, ground := Ground.phase }, { on := 5, ground := Ground.phase }], guard := none }) (v := ?v6a) rfl (by kernel_rfl) (by kernel_rfl) (by kernel_rfl) (fun _ _ _ h => h) (Or.inl ⟨by rfl, ?hy6a⟩) (by assumption) ?rest6a
    case hy6a => (intro V2 hSw; (try dsimp only at hSw); go_simp; all_goals (with_reducible rfl))
    try simp only [Act.put, List.setIfInBounds_toArray, List.set_cons_zero, List.set_cons_succ]
    refine wpAnyH_done (by kernel_rfl) ?_ _
    go_wp2_with fail
    refine wp_region_held_drew (S := fun V2 => ∃ cs, Has w (blkA (V.heap.size + 1 + 1) 39 cs :: blkA (V.heap.size + 1) 26 #[.int .i64 lw, .int .i64 ll] :: blkA V.heap.size 28 (txc ⟨x0, x1, x2, x3, x4, x5, x6, x7, x8, x9, x10, x11⟩) :: tbA p r :: T) V2) hmix (⟨_, H2.out.drew⟩) (fun hS => ?_)
    simp only [List.size_toArray, List.length_cons, List.length_nil, Nat.reduceAdd, Array.replicate_succ, Array.replicate_zero]
    refine wpAnyH_take (i := 0) (oi := { dst := some 21, op := Op.move (Operand.tmp 0), type := 31, pos := "peek.go:34", after := #[], guard := none }) (v := ?v0b) rfl (by kernel_rfl) (by kernel_rfl) (by kernel_rfl) (fun _ _ _ h => h) (Or.inl ⟨by rfl, ?hy0b⟩) (by assumption) ?rest0b
    case hy0b => (intro V2 hSw; (try dsimp only at hSw); go_simp; all_goals (with_reducible rfl))
    try simp only [Act.put, List.setIfInBounds_toArray, List.set_cons_zero, List.set_cons_succ]
    refine wpAnyH_take (i := 1) (oi := { dst := some 22, op := Op.move (Operand.tmp 1), type := 9, pos := "peek.go:34", after := #[], guard := none }) (v := ?v1b) rfl (by kernel_rfl) (by kernel_rfl) (by kernel_rfl) (fun _ _ _ h => h) (Or.inl ⟨by rfl, ?hy1b⟩) (by assumption) ?rest1b
    case hy1b => (intro V2 hSw; (try dsimp only at hSw); go_simp; all_goals (with_reducible rfl))
    try simp only [Act.put, List.setIfInBounds_toArray, List.set_cons_zero, List.set_cons_succ]
    refine wpAnyH_take (i := 3) (oi := { dst := some 24, op := Op.load 28 (Operand.tmp 6), type := 28, pos := "peek.go:34", after := #[], guard := none }) (v := ?v3b) rfl (by kernel_rfl) (by kernel_rfl) (by kernel_rfl) (fun _ _ _ h => h) (Or.inl ⟨by rfl, ?hy3b⟩) (by assumption) ?rest3b
    case hy3b => (intro V2 hSw; (try dsimp only at hSw); obtain ⟨csw, hSw⟩ := hSw; have tq := (hSw.blkIn (g := V.heap.size) (t := 28) (cs := txc ⟨x0, x1, x2, x3, x4, x5, x6, x7, x8, x9, x10, x11⟩) (by simp)); have t0 := tq.cell 0; have t1 := tq.cell 1; have t2 := tq.cell 2; have t3 := tq.cell 3; have t4 := tq.cell 4; have t5 := tq.cell 5; have t6 := tq.cell 6; have t7 := tq.cell 7; have t8 := tq.cell 8; have t9 := tq.cell 9; have t10 := tq.cell 10; have t11 := tq.cell 11; simp at t0 t1 t2 t3 t4 t5 t6 t7 t8 t9 t10 t11; go_simp; all_goals (with_reducible rfl))
    try simp only [Act.put, List.setIfInBounds_toArray, List.set_cons_zero, List.set_cons_succ]
    refine wpAnyH_ready (rs := [2]) (by kernel_rfl) (by simp) ?_
    refine AllReadyH.cons (o := { dst := some 23, op := Op.call { callee := Callee.value (Operand.func 56), args := #[Operand.tmp 22], argTypes := #[9] }, type := 9, pos := "peek.go:34", after := #[{ on := 1, ground := Ground.data }], guard := none }) rfl (fun K hK => ?_) AllReadyH.nil
    go_simp
    have hS1 := H2.out.drew
    refine (sk_clone key _ hks).mono ?_
    rintro e v3 ⟨rfl, hb3⟩
    have hS3 := hS1.keep hb3
    refine hK.out _ _ (⟨_, hS3⟩) (fun hS => ?_)
    clear hK K
    try simp only [Act.put, List.setIfInBounds_toArray, List.set_cons_zero, List.set_cons_succ]
    have H3 := Lib.hid hS3
    clear hS1 hS3 hb3
    refine wpAnyH_ready (rs := [4]) (by kernel_rfl) (by simp) ?_
    refine AllReadyH.cons (o := { dst := some 25, op := Op.call { callee := Callee.value (Operand.func 55), args := #[Operand.tmp 21, Operand.tmp 23, Operand.tmp 24], argTypes := #[31, 9, 28] }, type := 41, pos := "peek.go:34", after := #[{ on := 0, ground := Ground.data }, { on := 2, ground := Ground.data }, { on := 3, ground := Ground.data }, { on := 2, ground := Ground.chain }], guard := none }) rfl (fun K hK => ?_) AllReadyH.nil
    go_simp
    refine (HR2.out _ H3.out).mono ?_
    rintro e v4 ⟨⟨A, n, c, rfl, hat, hn⟩, hh4⟩
    refine hK.out _ _ (⟨_, hh4⟩) (fun hS => ?_)
    clear hK K
    try simp only [Act.put, List.setIfInBounds_toArray, List.set_cons_zero, List.set_cons_succ]
    have H4 := Lib.hid hh4
    have HAT := Lib.hid hat
    have rb := hh4.blkIn (g := V.heap.size + 1 + 1) (t := 39) (cs := (fdc zF (.slice none 0 0))) (by simp)
    have p0 := rb.cell 0
    have f0 := rb.frozen 0
    have p1 := rb.cell 1
    have f1 := rb.frozen 1
    have p2 := rb.cell 2
    have f2 := rb.frozen 2
    have p3 := rb.cell 3
    have f3 := rb.frozen 3
    have p4 := rb.cell 4
    have f4 := rb.frozen 4
    have p5 := rb.cell 5
    have f5 := rb.frozen 5
    have p6 := rb.cell 6
    have f6 := rb.frozen 6
    have p7 := rb.cell 7
    have f7 := rb.frozen 7
    have p8 := rb.cell 8
    have f8 := rb.frozen 8
    have p9 := rb.cell 9
    have f9 := rb.frozen 9
    have p10 := rb.cell 10
    have f10 := rb.frozen 10
    have p11 := rb.cell 11
    have f11 := rb.frozen 11
    have p12 := rb.cell 12
    have f12 := rb.frozen 12
    have p13 := rb.cell 13
    have f13 := rb.frozen 13
    have p14 := rb.cell 14
    have f14 := rb.frozen 14
    simp at p0 p1 p2 p3 p4 p5 p6 p7 p8 p9 p10 p11 p12 p13 p14
    have RB := Lib.hid rb
    clear hh4 hat rb
    refine wpAnyH_take (i := 5) (oi := { dst := some 26, op := Op.extract (Operand.tmp 25) 0, type := 39, pos := "peek.go:34", after := #[{ on := 4, ground := Ground.data }], guard := none }) (v := ?v5b) rfl (by kernel_rfl) (by kernel_rfl) (by kernel_rfl) (fun _ _ _ h => h) (Or.inl ⟨by rfl, ?hy5b⟩) (by assumption) ?rest5b
    case hy5b => (intro V2 hSw; (try dsimp only at hSw); go_simp; all_goals (with_reducible rfl))
    try simp only [Act.put, List.setIfInBounds_toArray, List.set_cons_zero, List.set_cons_succ]
    refine wpAnyH_take (i := 6) (oi := { dst := some 27, op := Op.extract (Operand.tmp 25) 1, type := 40, pos := "peek.go:34", after := #[{ on := 4, ground := Ground.data }], guard := none }) (v := ?v6b) rfl (by kernel_rfl) (by kernel_rfl) (by kernel_rfl) (fun _ _ _ h => h) (Or.inl ⟨by rfl, ?hy6b⟩) (by assumption) ?rest6b
    case hy6b => (intro V2 hSw; (try dsimp only at hSw); go_simp; all_goals (with_reducible rfl))
    try simp only [Act.put, List.setIfInBounds_toArray, List.set_cons_zero, List.set_cons_succ]
    refine wpAnyH_ready (rs := [7]) (by kernel_rfl) (by simp) ?_
    refine AllReadyH.cons (o := { dst := none, op := Op.store 39 (Operand.tmp 8) (Operand.tmp 26), type := 0, pos := "peek.go:34", after := #[{ on := 5, ground := Ground.data }, { on := 4, ground := Ground.chain }, { on := 0, ground := Ground.phase }, { on := 1, ground := Ground.phase }, { on := 2, ground := Ground.phase }, { on := 3, ground := Ground.phase }, { on := 4, ground := Ground.phase }, { on := 5, ground := Ground.phase }, { on := 6, ground := Ground.phase }], guard := none }) rfl (fun K hK => ?_) AllReadyH.nil
    go_simp
    refine hK.out _ _ (⟨_, Has.all15 (v0 := .string f.key) (v1 := .string f.value) (v2 := .bool f.is_) (v3 := .bool f.own) (v4 := .int .i64 f.sw) (v5 := .int .i64 f.sl) (v6 := .int .i64 f.it.id) (v7 := .int .i64 f.it.ep) (v8 := .int .i64 f.it.pr) (v9 := .string f.it.an) (v10 := .int .i64 f.it.sw) (v11 := .int .i64 f.it.sl) (v12 := .int .i64 f.it.bw) (v13 := .int .i64 f.it.bl) (v14 := .slice A n c) H4.out⟩) (fun hS => ?_)
    clear hK K
    try simp only [Act.put, List.setIfInBounds_toArray, List.set_cons_zero, List.set_cons_succ]
    refine wpAnyH_take (i := 8) (oi := { dst := some 9, op := Op.assign (Operand.tmp 27), type := 40, pos := "peek.go:34", after := #[{ on := 6, ground := Ground.data }, { on := 7, ground := Ground.chain }, { on := 0, ground := Ground.phase }, { on := 1, ground := Ground.phase }, { on := 2, ground := Ground.phase }, { on := 3, ground := Ground.phase }, { on := 4, ground := Ground.phase }, { on := 5, ground := Ground.phase }, { on := 6, ground := Ground.phase }, { on := 7, ground := Ground.phase }], guard := none }) (v := ?v8b) rfl (by kernel_rfl) (by kernel_rfl) (by kernel_rfl) (fun _ _ _ h => h) (Or.inl ⟨by rfl, ?hy8b⟩) (by assumption) ?rest8b
    case hy8b => (intro V2 hSw; (try dsimp only at hSw); go_simp; all_goals (with_reducible rfl))
    try simp only [Act.put, List.setIfInBounds_toArray, List.set_cons_zero, List.set_cons_succ]
    refine wpAnyH_done (by kernel_rfl) ?_ _
    have hch := HAT.out.put15 (v0 := .string f.key) (v1 := .string f.value) (v2 := .bool f.is_) (v3 := .bool f.own) (v4 := .int .i64 f.sw) (v5 := .int .i64 f.sl) (v6 := .int .i64 f.it.id) (v7 := .int .i64 f.it.ep) (v8 := .int .i64 f.it.pr) (v9 := .string f.it.an) (v10 := .int .i64 f.it.sw) (v11 := .int .i64 f.it.sl) (v12 := .int .i64 f.it.bw) (v13 := .int .i64 f.it.bl) (v14 := .slice A n c) (HAT.out.apart (show Blk _ _ _ (fdc zF (.slice none 0 0)) from RB.out) (fd_no _ _ (fun d e => nomatch e)))
    have hfin := Has.all15 (v0 := .string f.key) (v1 := .string f.value) (v2 := .bool f.is_) (v3 := .bool f.own) (v4 := .int .i64 f.sw) (v5 := .int .i64 f.sl) (v6 := .int .i64 f.it.id) (v7 := .int .i64 f.it.ep) (v8 := .int .i64 f.it.pr) (v9 := .string f.it.an) (v10 := .int .i64 f.it.sw) (v11 := .int .i64 f.it.sl) (v12 := .int .i64 f.it.bw) (v13 := .int .i64 f.it.bl) (v14 := .slice A n c) H4.out
    go_wp2_with fail
    exact ret_fd2 rfl rfl (Blk.all15 (v0 := .string f.key) (v1 := .string f.value) (v2 := .bool f.is_) (v3 := .bool f.own) (v4 := .int .i64 f.sw) (v5 := .int .i64 f.sl) (v6 := .int .i64 f.it.id) (v7 := .int .i64 f.it.ep) (v8 := .int .i64 f.it.pr) (v9 := .string f.it.an) (v10 := .int .i64 f.it.sw) (v11 := .int .i64 f.it.sl) (v12 := .int .i64 f.it.bw) (v13 := .int .i64 f.it.bl) (v14 := .slice A n c) (by exact RB.out)) rfl rfl ⟨⟨A, n, c, rfl, hch, hn⟩, hfin.tail.tail.tail⟩
  · rw [if_neg hz]
    have hze : (ce != 0) = true := by simpa using hz
    go_enter Tryz.func16, Tryz.ntmps16
    go_wp2_with fail
    refine wp_region_held_drew (S := Has w (blkA (V.heap.size + 1 + 1) 39 (fdc zF (.slice none 0 0)) :: blkA (V.heap.size + 1) 26 #[.int .i64 lw, .int .i64 ll] :: blkA V.heap.size 28 (txc ⟨x0, x1, x2, x3, x4, x5, x6, x7, x8, x9, x10, x11⟩) :: tbA p r :: T)) hmix (H1.out.drew) (fun hS => ?_)
    simp only [List.size_toArray, List.length_cons, List.length_nil, Nat.reduceAdd, Array.replicate_succ, Array.replicate_zero]
    refine wpAnyH_take (i := 0) (oi := { dst := some 11, op := Op.move (Operand.tmp 0), type := 31, pos := "peek.go:30", after := #[], guard := none }) (v := ?v0c) rfl (by kernel_rfl) (by kernel_rfl) (by kernel_rfl) (fun _ _ _ h => h) (Or.inl ⟨by rfl, ?hy0c⟩) (by assumption) ?rest0c
    case hy0c => (intro V2 hSw; (try dsimp only at hSw); go_simp; all_goals (with_reducible rfl))
    try simp only [Act.put, List.setIfInBounds_toArray, List.set_cons_zero, List.set_cons_succ]
    refine wpAnyH_take (i := 1) (oi := { dst := some 12, op := Op.move (Operand.tmp 1), type := 9, pos := "peek.go:30", after := #[], guard := none }) (v := ?v1c) rfl (by kernel_rfl) (by kernel_rfl) (by kernel_rfl) (fun _ _ _ h => h) (Or.inl ⟨by rfl, ?hy1c⟩) (by assumption) ?rest1c
    case hy1c => (intro V2 hSw; (try dsimp only at hSw); go_simp; all_goals (with_reducible rfl))
    try simp only [Act.put, List.setIfInBounds_toArray, List.set_cons_zero, List.set_cons_succ]
    refine wpAnyH_take (i := 3) (oi := { dst := some 14, op := Op.load 28 (Operand.tmp 6), type := 28, pos := "peek.go:30", after := #[], guard := none }) (v := ?v3c) rfl (by kernel_rfl) (by kernel_rfl) (by kernel_rfl) (fun _ _ _ h => h) (Or.inl ⟨by rfl, ?hy3c⟩) (by assumption) ?rest3c
    case hy3c => (intro V2 hSw; (try dsimp only at hSw); have tq := (hSw.blkIn (g := V.heap.size) (t := 28) (cs := txc ⟨x0, x1, x2, x3, x4, x5, x6, x7, x8, x9, x10, x11⟩) (by simp)); have t0 := tq.cell 0; have t1 := tq.cell 1; have t2 := tq.cell 2; have t3 := tq.cell 3; have t4 := tq.cell 4; have t5 := tq.cell 5; have t6 := tq.cell 6; have t7 := tq.cell 7; have t8 := tq.cell 8; have t9 := tq.cell 9; have t10 := tq.cell 10; have t11 := tq.cell 11; simp at t0 t1 t2 t3 t4 t5 t6 t7 t8 t9 t10 t11; go_simp; all_goals (with_reducible rfl))
    try simp only [Act.put, List.setIfInBounds_toArray, List.set_cons_zero, List.set_cons_succ]
    refine wpAnyH_take (i := 4) (oi := { dst := some 15, op := Op.load 26 (Operand.tmp 7), type := 26, pos := "peek.go:30", after := #[], guard := none }) (v := ?v4c) rfl (by kernel_rfl) (by kernel_rfl) (by kernel_rfl) (fun _ _ _ h => h) (Or.inl ⟨by rfl, ?hy4c⟩) (by assumption) ?rest4c
    case hy4c => (intro V2 hSw; (try dsimp only at hSw); have tq := (hSw.blkIn (g := V.heap.size + 1) (t := 26) (cs := #[.int .i64 lw, .int .i64 ll]) (by simp)); have t0 := tq.cell 0; have t1 := tq.cell 1; simp at t0 t1; go_simp; all_goals (with_reducible rfl))
    try simp only [Act.put, List.setIfInBounds_toArray, List.set_cons_zero, List.set_cons_succ]
    refine wpAnyH_ready (rs := [2]) (by kernel_rfl) (by simp) ?_
    refine AllReadyH.cons (o := { dst := some 13, op := Op.call { callee := Callee.value (Operand.func 54), args := #[Operand.tmp 12], argTypes := #[9] }, type := 4, pos := "peek.go:30", after := #[{ on := 1, ground := Ground.data }], guard := none }) rfl (fun K hK => ?_) AllReadyH.nil
    go_simp
    refine (HK.out _ (hM.below hS.bel)).mono ?_
    rintro e v1 ⟨rfl, hb1⟩
    refine hK.out _ _ (hS.keep hb1) (fun hS => ?_)
    clear hK K
    try simp only [Act.put, List.setIfInBounds_toArray, List.set_cons_zero, List.set_cons_succ]
    clear hb1
    refine wpAnyH_ready (rs := [5]) (by kernel_rfl) (by simp) ?_
    refine AllReadyH.cons (o := { dst := some 16, op := Op.call { callee := Callee.value (Operand.func 53), args := #[Operand.tmp 11, Operand.tmp 13, Operand.tmp 14, Operand.tmp 15], argTypes := #[31, 4, 28, 26] }, type := 40, pos := "peek.go:30", after := #[{ on := 0, ground := Ground.data }, { on := 2, ground := Ground.data }, { on := 3, ground := Ground.data }, { on := 4, ground := Ground.data }, { on := 2, ground := Ground.chain }], guard := none }) rfl (fun K hK => ?_) AllReadyH.nil
    go_simp
    refine (HC.out _ hS).mono ?_
    rintro e v2 ⟨rfl, hh2⟩
    refine hK.out _ _ (hh2) (fun hS => ?_)
    clear hK K
    try simp only [Act.put, List.setIfInBounds_toArray, List.set_cons_zero, List.set_cons_succ]
    have H2 := Lib.hid hh2
    clear hh2
    refine wpAnyH_take (i := 6) (oi := { dst := some 10, op := Op.assign (Operand.tmp 16), type := 40, pos := "peek.go:30", after := #[{ on := 5, ground := Ground.data }, { on := 5, ground := Ground.chain }, { on := 0, ground := Ground.phase }, { on := 1, ground := Ground.phase }, { on := 2, ground := Ground.phase }, { on := 3, ground := Ground.phase }, { on := 4, ground := Ground.phase }, { on := 5, ground := Ground.phase }], guard := none }) (v := ?v6c) rfl (by kernel_rfl) (by kernel_rfl) (by kernel_rfl) (fun _ _ _ h => h) (Or.inl ⟨by rfl, ?hy6c⟩) (by assumption) ?rest6c
    case hy6c => (intro V2 hSw; (try dsimp only at hSw); go_simp; all_goals (with_reducible rfl))
    try simp only [Act.put, List.setIfInBounds_toArray, List.set_cons_zero, List.set_cons_succ]
    refine wpAnyH_done (by kernel_rfl) ?_ _
    have rb := H2.out.blkIn (g := V.heap.size + 1 + 1) (t := 39) (cs := (fdc zF (.slice none 0 0))) (by simp)
    have p0 := rb.cell 0
    have f0 := rb.frozen 0
    have p1 := rb.cell 1
    have f1 := rb.frozen 1
    have p2 := rb.cell 2
    have f2 := rb.frozen 2
    have p3 := rb.cell 3
    have f3 := rb.frozen 3
    have p4 := rb.cell 4
    have f4 := rb.frozen 4
    have p5 := rb.cell 5
    have f5 := rb.frozen 5
    have p6 := rb.cell 6
    have f6 := rb.frozen 6
    have p7 := rb.cell 7
    have f7 := rb.frozen 7
    have p8 := rb.cell 8
    have f8 := rb.frozen 8
    have p9 := rb.cell 9
    have f9 := rb.frozen 9
    have p10 := rb.cell 10
    have f10 := rb.frozen 10
    have p11 := rb.cell 11
    have f11 := rb.frozen 11
    have p12 := rb.cell 12
    have f12 := rb.frozen 12
    have p13 := rb.cell 13
    have f13 := rb.frozen 13
    have p14 := rb.cell 14
    have f14 := rb.frozen 14
    simp at p0 p1 p2 p3 p4 p5 p6 p7 p8 p9 p10 p11 p12 p13 p14
    have RB := Lib.hid rb
    clear rb
    go_wp2_with fail
    have hfin := Has.all15 (v0 := .string ⟨#[]⟩) (v1 := .string ⟨#[]⟩) (v2 := .bool false) (v3 := .bool false) (v4 := .int .i64 0) (v5 := .int .i64 0) (v6 := .int .i64 0) (v7 := .int .i64 0) (v8 := .int .i64 0) (v9 := .string ⟨#[]⟩) (v10 := .int .i64 0) (v11 := .int .i64 0) (v12 := .int .i64 0) (v13 := .int .i64 0) (v14 := .slice none 0 0) H2.out
    exact ret_fd2 rfl rfl (Blk.all15 (v0 := .string ⟨#[]⟩) (v1 := .string ⟨#[]⟩) (v2 := .bool false) (v3 := .bool false) (v4 := .int .i64 0) (v5 := .int .i64 0) (v6 := .int .i64 0) (v7 := .int .i64 0) (v8 := .int .i64 0) (v9 := .string ⟨#[]⟩) (v10 := .int .i64 0) (v11 := .int .i64 0) (v12 := .int .i64 0) (v13 := .int .i64 0) (v14 := .slice none 0 0) (by exact RB.out)) rfl rfl ⟨⟨none, 0, 0, rfl, ChAt.nil _ _, by omega⟩, hfin.tail.tail.tail⟩
end Go.Proofs.YtdaecfgjfdikbaaGreatDoor
set_option linter.unusedVariables false
set_option linter.unusedSimpArgs false
set_option maxRecDepth 100000
namespace Go.Proofs.YtdaecfgjfdikbaaGreatDoor
open Go.RowKit

set_option maxHeartbeats 4000000 in
theorem rMayX_c (x : Tx) (w : World) : Calls Tryz.prog 58 #[txv x] w fun e w' => e = .returned (.bool (mayX x)) ∧ Below w.heap.size w w' := by
  have HG1 := Lib.hid (nbl w (.cells (txc x) 28))
  have HX := Lib.hid (Blk.new w 28 (txc x))
  have HC1 := Lib.hid (fun W => refCheck5 x.rw x.rl W)
  have HC2 := Lib.hid (fun W => refCheck5 x.lw x.ll W)
  have h1 : (ck x.rw x.rl == 0) = may x.rw x.rl := by unfold ck; cases may x.rw x.rl <;> rfl
  have h2 : (ck x.lw x.ll == 0) = may x.lw x.ll := by unfold ck; cases may x.lw x.ll <;> rfl
  unfold mayX idOk
  generalize may x.rw x.rl = m1 at *
  generalize may x.lw x.ll = m2 at *
  generalize ck x.rw x.rl = k1 at *
  generalize ck x.lw x.ll = k2 at *
  obtain ⟨x0, x1, x2, x3, x4, x5, x6, x7, x8, x9, x10, x11⟩ := x
  simp only at HC1 HC2 HG1 HX ⊢
  by_cases c1 : 1 ≤ x0
  · by_cases c2 : x0 ≤ 9007199254740991
    · by_cases c3 : 0 ≤ x1
      · by_cases c4 : x1 ≤ 9007199254740991
        · rw [decide_eq_true (show 1 ≤ x0 ∧ x0 ≤ 9007199254740991 ∧ 0 ≤ x1 ∧ x1 ≤ 9007199254740991 from ⟨c1, c2, c3, c4⟩)]
          cases m1
          · go_enter Tryz.func58, Tryz.ntmps58
            go_wp2_with fail
            refine (HC1.out _).mono ?_
            rintro e w1 ⟨rfl, hb1⟩
            have g := bst HG1.out hb1
            clear hb1
            go_wp2_with fail
            go_ret
            exact ⟨by simp, g⟩
          · go_enter Tryz.func58, Tryz.ntmps58
            go_wp2_with fail
            refine (HC1.out _).mono ?_
            rintro e w1 ⟨rfl, hb1⟩
            have q := HX.out.below hb1 HX.out.lt
            have t8 := q.cell 8
            have t9 := q.cell 9
            simp at t8 t9
            have g := bst HG1.out hb1
            clear hb1 q
            go_wp2_with fail
            refine (HC2.out _).mono ?_
            rintro e w2 ⟨rfl, hb2⟩
            go_wp2_with fail
            go_ret
            exact ⟨by simp [h2], bst g hb2⟩
        · rw [decide_eq_false (show ¬ (1 ≤ x0 ∧ x0 ≤ 9007199254740991 ∧ 0 ≤ x1 ∧ x1 ≤ 9007199254740991) from fun h => c4 h.2.2.2)]
          go_enter Tryz.func58, Tryz.ntmps58
          go_wp2
          go_ret
          exact ⟨by simp, HG1.out⟩
      · rw [decide_eq_false (show ¬ (1 ≤ x0 ∧ x0 ≤ 9007199254740991 ∧ 0 ≤ x1 ∧ x1 ≤ 9007199254740991) from fun h => c3 h.2.2.1)]
        go_enter Tryz.func58, Tryz.ntmps58
        go_wp2
        go_ret
        exact ⟨by simp, HG1.out⟩
    · rw [decide_eq_false (show ¬ (1 ≤ x0 ∧ x0 ≤ 9007199254740991 ∧ 0 ≤ x1 ∧ x1 ≤ 9007199254740991) from fun h => c2 h.2.1)]
      go_enter Tryz.func58, Tryz.ntmps58
      go_wp2
      go_ret
      exact ⟨by simp, HG1.out⟩
  · rw [decide_eq_false (show ¬ (1 ≤ x0 ∧ x0 ≤ 9007199254740991 ∧ 0 ≤ x1 ∧ x1 ≤ 9007199254740991) from fun h => c1 h.1)]
    go_enter Tryz.func58, Tryz.ntmps58
    go_wp2
    go_ret
    exact ⟨by simp, HG1.out⟩
theorem lawMay_c (x : Tx) (w : World) : Calls Tryz.prog 27 #[txv x] w fun e w' => e = .returned (.bool (mayX x)) ∧ Below w.heap.size w w' := by
  have HC := Lib.hid (rMayX_c x (w.alloc (.cells (txc x) 28)))
  have HG := Lib.hid (nbl w (.cells (txc x) 28))
  generalize mayX x = m at *
  go_enter Tryz.func27, Tryz.ntmps27
  go_wp2_with fail
  refine HC.out.mono ?_
  rintro e w1 ⟨rfl, hb1⟩
  go_wp2_with fail
  go_ret
  exact ⟨rfl, bst HG.out hb1⟩
/-- The rows behind one thing more. -/
def putP (r : List Rw) (x : Th) : List Rw := match opOf x with | none => r | some o => rapp r [o]
set_option maxHeartbeats 4000000 in
theorem put_c {w V : World} {T : List As} {p N : Nat} {r : List Rw} (h : Has w (tbA p r :: T) V) (hr : ROk N r) (hN : N ≤ 1000000) (x : Th) (A : Option Addr) (n c : Nat) (hx : ChAt V A n x.it.l) (hn : n ≤ 9223372036854775807) (hz : TSz x) :
    Calls Tryz.prog 30 #[pt p, thv x (.slice A n c)] V fun e w' => ∃ q, e = .returned (pt q) ∧ Has w (tbA q (putP r x) :: tbA p r :: T) w' := by
  have g0 := nbl V (.cells (thc x (.slice A n c)) 57)
  have h1 := h.keep g0
  obtain ⟨F, hA, _⟩ := h1.get
  have HCP := Lib.hid (tb_copy hA hr.szs (by have := hr.len; omega))
  have H1 := Lib.hid h1
  have K0 := Lib.hid (Blk.new V 57 (thc x (.slice A n c)))
  have HXV := Lib.hid (hx.below g0)
  have HR := Lib.hid hr
  have HTS := Lib.hid hz
  have HOZ := Lib.hid (fun o (ho : opOf x = some o) => (show OSz [o] from fun y hy => by rw [List.mem_singleton.1 hy]; have := opOf_sz hz ho; exact ⟨this.1, this.2.1⟩))
  unfold putP
  clear h h1 hA hr hx hz g0
  cases hos : opOf x with
  | none =>
    have HOS := Lib.hid (show (opOf x).isSome = false by rw [hos]; rfl)
    simp only
    clear hos HOZ
    go_enter Tryz.func30, Tryz.ntmps30
    go_wp2_with fail
    refine HCP.out.mono ?_
    rintro e w1 ⟨q, rfl, hq⟩
    have hj := H1.out.join hq
    have kx := K0.out.below hq.bel K0.out.lt
    have t0 := kx.cell 0
    have t1 := kx.cell 1
    have t2 := kx.cell 2
    have t3 := kx.cell 3
    have t4 := kx.cell 4
    have t5 := kx.cell 5
    have t6 := kx.cell 6
    have t7 := kx.cell 7
    have t8 := kx.cell 8
    have t9 := kx.cell 9
    have t10 := kx.cell 10
    have t11 := kx.cell 11
    have t12 := kx.cell 12
    have t13 := kx.cell 13
    have t14 := kx.cell 14
    simp at t0 t1 t2 t3 t4 t5 t6 t7 t8 t9 t10 t11 t12 t13 t14
    have HC1 := Lib.hid (HXV.out.below hq.bel)
    have HJ := Lib.hid (show Has w (tbA q r :: tbA p r :: T) w1 from hj)
    clear hj hq kx
    go_wp2_with fail
    refine (thOp x A n c _ HC1.out hn HTS.out).mono ?_
    rintro e w2 ⟨k, vv, rfl, ho, hb2⟩
    rw [HOS.out]
    have HJ2 := Lib.hid ((HJ.out.keep hb2).keep (nbl w2 (.cells #[.string k, .string vv, .bool false] 60)))
    clear hb2 ho
    go_wp2_with fail
    go_ret
    exact ⟨q, rfl, HJ2.out⟩
  | some o =>
    have HOS := Lib.hid (show (opOf x).isSome = true by rw [hos]; rfl)
    have HOO := Lib.hid hos
    have HZ2 := Lib.hid (HOZ.out o hos)
    simp only
    clear hos HOZ
    go_enter Tryz.func30, Tryz.ntmps30
    go_wp2_with fail
    refine HCP.out.mono ?_
    rintro e w1 ⟨q, rfl, hq⟩
    have hj := H1.out.join hq
    have kx := K0.out.below hq.bel K0.out.lt
    have t0 := kx.cell 0
    have t1 := kx.cell 1
    have t2 := kx.cell 2
    have t3 := kx.cell 3
    have t4 := kx.cell 4
    have t5 := kx.cell 5
    have t6 := kx.cell 6
    have t7 := kx.cell 7
    have t8 := kx.cell 8
    have t9 := kx.cell 9
    have t10 := kx.cell 10
    have t11 := kx.cell 11
    have t12 := kx.cell 12
    have t13 := kx.cell 13
    have t14 := kx.cell 14
    simp at t0 t1 t2 t3 t4 t5 t6 t7 t8 t9 t10 t11 t12 t13 t14
    have HC1 := Lib.hid (HXV.out.below hq.bel)
    have HJ := Lib.hid (show Has w (tbA q r :: tbA p r :: T) w1 from hj)
    clear hj hq kx
    go_wp2_with fail
    refine (thOp x A n c _ HC1.out hn HTS.out).mono ?_
    rintro e w2 ⟨k, vv, rfl, ho, hb2⟩
    rw [HOS.out]
    obtain rfl := ho o HOO.out
    have h3 := ((HJ.out.keep hb2).keep (nbl w2 (.cells #[.string k, .string vv, .bool false] 60)))
    have HJ3 := Lib.hid ((h3.newBlk 60 #[.string k, .string vv, .bool false]).swap)
    clear hb2 ho h3
    have hzz : (w2.alloc (.cells #[.string k, .string vv, .bool false] 60)).heap.size = w2.heap.size + 1 := World.size_alloc _ _
    rw [hzz] at HJ3
    clear hzz
    go_wp2_with fail
    refine (HJ3.out.tbApplyB HR.out (by omega) (some ⟨w2.heap.size + 1, 0, none⟩) 1 1 [⟨k, vv, false⟩] (fun W F2 hb => ?_) (by omega) HZ2.out).mono ?_
    · refine ⟨rfl, fun _ => ⟨w2.heap.size + 1, 0, rfl, fun i hi => ?_⟩⟩
      have : i = 0 := by simp at hi; omega
      subst this
      exact ⟨hb.1.cell 0, hb.1.cell 1, hb.1.cell 2⟩
    rintro e w4 ⟨rfl, h4, -⟩
    have HF := Lib.hid h4.swap.tail
    clear h4
    go_wp2_with fail
    go_ret
    exact ⟨q, rfl, HF.out⟩
end Go.Proofs.YtdaecfgjfdikbaaGreatDoor
set_option linter.unusedVariables false
set_option linter.unusedSimpArgs false
set_option maxRecDepth 100000
namespace Go.Proofs.YtdaecfgjfdikbaaGreatDoor
open Go.RowKit

def mineP (x : Tx) (c : Ch) : It := ⟨x.id, x.ep, 1, bA, 5, 0, 0, 0, [c]⟩
theorem mine_may {x : Tx} (hx : mayX x = true) {q : Int} (h1 : 1 ≤ q) (h2 : q ≤ 100) {s : ByteArray} {d : Bool} (hs : s.size ≤ 64) (hd : d = true → s.size = 0) : mayI (mineP x ⟨q, s, d⟩) = true := by
  unfold mayX idOk at hx
  simp only [Bool.and_eq_true, decide_eq_true_eq] at hx
  obtain ⟨⟨i1, i2, i3, i4⟩, _⟩ := hx
  have e1 : isI x.id = true := decide_eq_true ⟨i1, i2⟩
  have e2 : isN x.ep = true := decide_eq_true ⟨i3, i4⟩
  have e3 : isI q = true := decide_eq_true ⟨h1, by omega⟩
  have e4 : isV s (!d) = true := decide_eq_true ⟨hs, by cases d; exact .inl rfl; exact .inr (hd rfl)⟩
  have e5 : decide ((0 : Int) < q) = true := decide_eq_true (by omega)
  have k1 : isP 1 = true := by decide
  have k2 : isK bA = true := by decide
  have k3 : may 5 0 = true := by decide
  have k4 : may 0 0 = true := by decide
  unfold mayI hdr mineP
  simp only [e1, e2, k1, k2, k3, k4, rise, okCh, e3, e4, e5]
  rfl
theorem rapp_val {r : List Rw} (hs : RSor r) (k v : ByteArray) (hk : k.toList ≠ []) : rval (rapp r [⟨k, v, false⟩]) k = v := by
  have hb : opBad ⟨k, v, false⟩ = false := by
    unfold opBad
    cases h : k.toList with
    | nil => exact absurd h hk
    | cons a l => simp
  have hc : chk [⟨k, v, false⟩] = 0 := by unfold chk; simp [hb]
  unfold rapp
  rw [if_pos hc]
  show rval (rone r ⟨k, v, false⟩) k = v
  rw [rone_val hs _ _ (by rw [rone_has hs]; simp)]
  simp
theorem put_mine {N : Nat} {r : List Rw} (hr : ROk N r) {x : Tx} (hx : mayX x = true) {q : Int} (h1 : 1 ≤ q) (h2 : q ≤ 100) {s : ByteArray} {d : Bool} (hs : s.size ≤ 64) (hd : d = true → s.size = 0) (h0 : lt (0, 0) (x.rw, x.rl) = true) :
    pgetC (putP r (thI (mineP x ⟨q, s, d⟩))) bA x (0, 0) = (⟨bA, s, !d, true, 5, 0, zI⟩, 0) := by
  have hm := mine_may hx h1 h2 hs hd
  have ho : opOf (thI (mineP x ⟨q, s, d⟩)) = some ⟨bs (ikey (sb bA)), bs (txI (mineP x ⟨q, s, d⟩)), false⟩ := by
    have hk : kd (thI (mineP x ⟨q, s, d⟩)).k = 1 := (by decide : kd 1 = 1)
    have hok : okI (thI (mineP x ⟨q, s, d⟩)) = true := by
      unfold okI
      rw [show (thI (mineP x ⟨q, s, d⟩)).it = mineP x ⟨q, s, d⟩ from rfl, hm]
      rfl
    unfold opOf
    rw [if_neg (by rw [hk]; decide), if_pos hk, if_pos hok]
    rfl
  have hpi : pint (putP r (thI (mineP x ⟨q, s, d⟩))) bA = some (mineP x ⟨q, s, d⟩) := by
    unfold pint putP
    rw [ho]
    simp only
    rw [rapp_val hr.sor _ _ (by rw [Lib.toList_data]; simp [bs, ikey]), sb_bs]
    exact tkI_tx _ hm
  have hck : chkP (isK bA) x (0, 0) = 0 := by
    unfold chkP
    rw [if_neg (by rw [hx]; decide), if_neg (by rw [h0]; decide)]
  unfold pgetC
  rw [pget_chk, if_pos hck]
  unfold preadC
  rw [hpi]
  unfold preadW
  simp only
  rw [if_neg (fun hh => by have := hh.2; simp only [mineP] at this; omega), if_pos ⟨rfl, rfl⟩]
  rfl
end Go.Proofs.YtdaecfgjfdikbaaGreatDoor
