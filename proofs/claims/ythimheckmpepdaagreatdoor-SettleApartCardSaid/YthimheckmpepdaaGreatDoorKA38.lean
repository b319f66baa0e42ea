/-
  Layer 14, the code: Query (written by wip/genset.py).
  Layer 14, the statements' awake (written by wip/gensesm.py).
  Layer 14, the laws: a question's record (written by wip/gensel.py).
  Layer 14, the statements' helpers: settled (written by wip/gensesm.py).
  Layer 14, plain: what a record settles is of its key.
  Layer 14, the statements: the document reads a table's key.
-/
import Derived.Test.YthimheckmpepdaaGreatDoorKA33
import Derived.Test.YthimheckmpepdaaGreatDoorKA37
import Derived.Test.YthimheckmpepdaaGreatDoorKA35
import Derived.Test.YthimheckmpepdaaGreatDoorKA04
import Derived.Test.YthimheckmpepdaaGreatDoorKA32
import Derived.Deep.MidRow
import Derived.Test.YthimheckmpepdaaGreatDoorKA34
import Derived.Test.YthimheckmpepdaaGreatDoorKA25
import Derived.Test.YthimheckmpepdaaGreatDoorKA10
import Derived.Test.YthimheckmpepdaaGreatDoorKA06
import Derived.Test.YthimheckmpepdaaGreatDoorKA29
import Derived.Test.YthimheckmpepdaaGreatDoorKA09
set_option linter.unusedVariables false
set_option linter.unusedSimpArgs false
set_option maxRecDepth 100000
namespace Go.Proofs.YthimheckmpepdaaGreatDoor
open Go.RowKit

set_option maxHeartbeats 4000000 in
theorem seQry_no {w V : World} {T : List As} {p N : Nat} {r : List Rw} (h : Has w (tbA p r :: T) V) (hr : ROk N r) (hN : N ≤ 999999000) (hM : MaxL w) (key : ByteArray) (q : Int) (x : Rc) (A : Option Addr) (n c : Nat) (hx : ∀ W, Has w (tbA p r :: T) W → WtAt W A n x.l) (hn : n ≤ 9223372036854775807) (hc : chkS key x = 2) :
    Calls Tryz.prog 27 #[pt p, .string key, .int .i64 q, rcv x (.slice A n c)] V fun e w' => e = .returned (.tuple #[.bool false, .int .i64 2]) ∧ Has w (tbA p r :: T) w' := by
  have h1 := ((h.newBlk 3 #[.int .i64 q]).newBlk 64 (rcc x (.slice A n c))).perm (List.perm_middle (l₁ := [_, _]))
  have hz1 : (V.alloc (.cells #[.int .i64 q] 3)).heap.size = V.heap.size + 1 := World.size_alloc _ _
  rw [hz1] at h1
  have H1 := Lib.hid h1
  have HCK := Lib.hid (seCheckRec h1 hr hN hM key x A n c (fun W hW => hx W (hW.perm (List.perm_middle (l₁ := [_, _])).symm).tail.tail) hn)
  have b1 := h1.blkAt (g := V.heap.size + 1) (t := 64) (cs := rcc x (.slice A n c)) (by simp)
  have q0 := b1.cell 0
  have q1 := b1.cell 1
  have q2 := b1.cell 2
  have q3 := b1.cell 3
  have q4 := b1.cell 4
  have q5 := b1.cell 5
  have q6 := b1.cell 6
  have q7 := b1.cell 7
  have q8 := b1.cell 8
  have q9 := b1.cell 9
  simp at q0 q1 q2 q3 q4 q5 q6 q7 q8 q9
  have HIN := Lib.hid (fun (hk : isK key = true) W (hW : Has w (tbA p r :: blkA (V.heap.size + 1) 64 (rcc x (.slice A n c)) :: blkA V.heap.size 3 #[.int .i64 q] :: T) W) => let ⟨F, hA, _⟩ := hW.get; seIntentOf hA hr.szs (hM.below hW.bel) key hk x.id)
  clear h h1 hr hx b1 hz1
  rw [hc] at HCK
  clear hc HIN hM
  go_enter Tryz.func27, Tryz.ntmps27
  go_wp2_with (first
      | (go_at_call 64; refine HCK.out.mono ?_; rintro e w1 ⟨rfl, h2⟩
         have b2 := h2.blkAt (g := V.heap.size + 1) (t := 64) (cs := rcc x (.slice A n c)) (by simp)
         have q0 := b2.cell 0
         have q1 := b2.cell 1
         have q2 := b2.cell 2
         have q3 := b2.cell 3
         have q4 := b2.cell 4
         have q5 := b2.cell 5
         have q6 := b2.cell 6
         have q7 := b2.cell 7
         have q8 := b2.cell 8
         have q9 := b2.cell 9
         simp at q0 q1 q2 q3 q4 q5 q6 q7 q8 q9
         have b2' := h2.blkAt (g := V.heap.size) (t := 3) (cs := #[.int .i64 q]) (by simp)
         have s0 := b2'.cell 0
         simp at s0
         have H2 := Lib.hid h2
         clear h2 b2 b2')
      | fail)
  go_ret2
  exact ⟨rfl, (H2.out.perm (List.perm_middle (l₁ := [_, _])).symm).tail.tail⟩
set_option maxHeartbeats 4000000 in
theorem seQry_lo {w V : World} {T : List As} {p N : Nat} {r : List Rw} (h : Has w (tbA p r :: T) V) (hr : ROk N r) (hN : N ≤ 999999000) (hM : MaxL w) (key : ByteArray) (q : Int) (x : Rc) (A : Option Addr) (n c : Nat) (hx : ∀ W, Has w (tbA p r :: T) W → WtAt W A n x.l) (hn : n ≤ 9223372036854775807) (hc : chkS key x = 0) (hq : q < 1) :
    Calls Tryz.prog 27 #[pt p, .string key, .int .i64 q, rcv x (.slice A n c)] V fun e w' => e = .returned (.tuple #[.bool false, .int .i64 2]) ∧ Has w (tbA p r :: T) w' := by
  have h1 := ((h.newBlk 3 #[.int .i64 q]).newBlk 64 (rcc x (.slice A n c))).perm (List.perm_middle (l₁ := [_, _]))
  have hz1 : (V.alloc (.cells #[.int .i64 q] 3)).heap.size = V.heap.size + 1 := World.size_alloc _ _
  rw [hz1] at h1
  have H1 := Lib.hid h1
  have HCK := Lib.hid (seCheckRec h1 hr hN hM key x A n c (fun W hW => hx W (hW.perm (List.perm_middle (l₁ := [_, _])).symm).tail.tail) hn)
  have b1 := h1.blkAt (g := V.heap.size + 1) (t := 64) (cs := rcc x (.slice A n c)) (by simp)
  have q0 := b1.cell 0
  have q1 := b1.cell 1
  have q2 := b1.cell 2
  have q3 := b1.cell 3
  have q4 := b1.cell 4
  have q5 := b1.cell 5
  have q6 := b1.cell 6
  have q7 := b1.cell 7
  have q8 := b1.cell 8
  have q9 := b1.cell 9
  simp at q0 q1 q2 q3 q4 q5 q6 q7 q8 q9
  have HIN := Lib.hid (fun (hk : isK key = true) W (hW : Has w (tbA p r :: blkA (V.heap.size + 1) 64 (rcc x (.slice A n c)) :: blkA V.heap.size 3 #[.int .i64 q] :: T) W) => let ⟨F, hA, _⟩ := hW.get; seIntentOf hA hr.szs (hM.below hW.bel) key hk x.id)
  clear h h1 hr hx b1 hz1
  rw [hc] at HCK
  clear hc HIN hM
  go_enter Tryz.func27, Tryz.ntmps27
  go_wp2_with (first
      | (go_at_call 64; refine HCK.out.mono ?_; rintro e w1 ⟨rfl, h2⟩
         have b2 := h2.blkAt (g := V.heap.size + 1) (t := 64) (cs := rcc x (.slice A n c)) (by simp)
         have q0 := b2.cell 0
         have q1 := b2.cell 1
         have q2 := b2.cell 2
         have q3 := b2.cell 3
         have q4 := b2.cell 4
         have q5 := b2.cell 5
         have q6 := b2.cell 6
         have q7 := b2.cell 7
         have q8 := b2.cell 8
         have q9 := b2.cell 9
         simp at q0 q1 q2 q3 q4 q5 q6 q7 q8 q9
         have b2' := h2.blkAt (g := V.heap.size) (t := 3) (cs := #[.int .i64 q]) (by simp)
         have s0 := b2'.cell 0
         simp at s0
         have H2 := Lib.hid h2
         clear h2 b2 b2')
      | fail)
  go_ret2
  exact ⟨rfl, (H2.out.perm (List.perm_middle (l₁ := [_, _])).symm).tail.tail⟩
set_option maxHeartbeats 4000000 in
theorem seQry_hi {w V : World} {T : List As} {p N : Nat} {r : List Rw} (h : Has w (tbA p r :: T) V) (hr : ROk N r) (hN : N ≤ 999999000) (hM : MaxL w) (key : ByteArray) (q : Int) (x : Rc) (A : Option Addr) (n c : Nat) (hx : ∀ W, Has w (tbA p r :: T) W → WtAt W A n x.l) (hn : n ≤ 9223372036854775807) (hc : chkS key x = 0) (hq1 : ¬ q < 1) (hq : 9007199254740991 < q) :
    Calls Tryz.prog 27 #[pt p, .string key, .int .i64 q, rcv x (.slice A n c)] V fun e w' => e = .returned (.tuple #[.bool false, .int .i64 2]) ∧ Has w (tbA p r :: T) w' := by
  have h1 := ((h.newBlk 3 #[.int .i64 q]).newBlk 64 (rcc x (.slice A n c))).perm (List.perm_middle (l₁ := [_, _]))
  have hz1 : (V.alloc (.cells #[.int .i64 q] 3)).heap.size = V.heap.size + 1 := World.size_alloc _ _
  rw [hz1] at h1
  have H1 := Lib.hid h1
  have HCK := Lib.hid (seCheckRec h1 hr hN hM key x A n c (fun W hW => hx W (hW.perm (List.perm_middle (l₁ := [_, _])).symm).tail.tail) hn)
  have b1 := h1.blkAt (g := V.heap.size + 1) (t := 64) (cs := rcc x (.slice A n c)) (by simp)
  have q0 := b1.cell 0
  have q1 := b1.cell 1
  have q2 := b1.cell 2
  have q3 := b1.cell 3
  have q4 := b1.cell 4
  have q5 := b1.cell 5
  have q6 := b1.cell 6
  have q7 := b1.cell 7
  have q8 := b1.cell 8
  have q9 := b1.cell 9
  simp at q0 q1 q2 q3 q4 q5 q6 q7 q8 q9
  have HIN := Lib.hid (fun (hk : isK key = true) W (hW : Has w (tbA p r :: blkA (V.heap.size + 1) 64 (rcc x (.slice A n c)) :: blkA V.heap.size 3 #[.int .i64 q] :: T) W) => let ⟨F, hA, _⟩ := hW.get; seIntentOf hA hr.szs (hM.below hW.bel) key hk x.id)
  clear h h1 hr hx b1 hz1
  rw [hc] at HCK
  clear hc HIN hM
  go_enter Tryz.func27, Tryz.ntmps27
  go_wp2_with (first
      | (go_at_call 64; refine HCK.out.mono ?_; rintro e w1 ⟨rfl, h2⟩
         have b2 := h2.blkAt (g := V.heap.size + 1) (t := 64) (cs := rcc x (.slice A n c)) (by simp)
         have q0 := b2.cell 0
         have q1 := b2.cell 1
         have q2 := b2.cell 2
         have q3 := b2.cell 3
         have q4 := b2.cell 4
         have q5 := b2.cell 5
         have q6 := b2.cell 6
         have q7 := b2.cell 7
         have q8 := b2.cell 8
         have q9 := b2.cell 9
         simp at q0 q1 q2 q3 q4 q5 q6 q7 q8 q9
         have b2' := h2.blkAt (g := V.heap.size) (t := 3) (cs := #[.int .i64 q]) (by simp)
         have s0 := b2'.cell 0
         simp at s0
         have H2 := Lib.hid h2
         clear h2 b2 b2')
      | fail)
  go_ret2
  exact ⟨rfl, (H2.out.perm (List.perm_middle (l₁ := [_, _])).symm).tail.tail⟩
set_option maxHeartbeats 4000000 in
theorem seQry_none {w V : World} {T : List As} {p N : Nat} {r : List Rw} (h : Has w (tbA p r :: T) V) (hr : ROk N r) (hN : N ≤ 999999000) (hM : MaxL w) (key : ByteArray) (q : Int) (x : Rc) (A : Option Addr) (n c : Nat) (hx : ∀ W, Has w (tbA p r :: T) W → WtAt W A n x.l) (hn : n ≤ 9223372036854775807) (hc : chkS key x = 0) (hq1 : ¬ q < 1) (hq2 : ¬ 9007199254740991 < q) (ho : ownI (pint r key) x.id = none) :
    Calls Tryz.prog 27 #[pt p, .string key, .int .i64 q, rcv x (.slice A n c)] V fun e w' => e = .returned (.tuple #[.bool false, .int .i64 0]) ∧ Has w (tbA p r :: T) w' := by
  have h1 := ((h.newBlk 3 #[.int .i64 q]).newBlk 64 (rcc x (.slice A n c))).perm (List.perm_middle (l₁ := [_, _]))
  have hz1 : (V.alloc (.cells #[.int .i64 q] 3)).heap.size = V.heap.size + 1 := World.size_alloc _ _
  rw [hz1] at h1
  have H1 := Lib.hid h1
  have HCK := Lib.hid (seCheckRec h1 hr hN hM key x A n c (fun W hW => hx W (hW.perm (List.perm_middle (l₁ := [_, _])).symm).tail.tail) hn)
  have b1 := h1.blkAt (g := V.heap.size + 1) (t := 64) (cs := rcc x (.slice A n c)) (by simp)
  have q0 := b1.cell 0
  have q1 := b1.cell 1
  have q2 := b1.cell 2
  have q3 := b1.cell 3
  have q4 := b1.cell 4
  have q5 := b1.cell 5
  have q6 := b1.cell 6
  have q7 := b1.cell 7
  have q8 := b1.cell 8
  have q9 := b1.cell 9
  simp at q0 q1 q2 q3 q4 q5 q6 q7 q8 q9
  have HIN := Lib.hid (fun (hk : isK key = true) W (hW : Has w (tbA p r :: blkA (V.heap.size + 1) 64 (rcc x (.slice A n c)) :: blkA V.heap.size 3 #[.int .i64 q] :: T) W) => let ⟨F, hA, _⟩ := hW.get; seIntentOf hA hr.szs (hM.below hW.bel) key hk x.id)
  clear h h1 hr hx b1 hz1
  have HI2 := Lib.hid (HIN.out (chkS_ok hc).1)
  rw [hc] at HCK
  rw [ho] at HI2
  unfold AnsT at HI2
  simp only at HI2
  have HHS := Lib.hid (fun A3 (c3 : Nat) W (hg3 : Blk W V.heap.size 3 #[.int .i64 q]) => seHas V.heap.size q A3 0 c3 [] (by decide) W (ChAt.nil W A3) hg3)
  clear hc HIN hM ho
  go_enter Tryz.func27, Tryz.ntmps27
  go_wp2_with (first
      | (go_at_call 64; refine HCK.out.mono ?_; rintro e w1 ⟨rfl, h2⟩
         have b2 := h2.blkAt (g := V.heap.size + 1) (t := 64) (cs := rcc x (.slice A n c)) (by simp)
         have q0 := b2.cell 0
         have q1 := b2.cell 1
         have q2 := b2.cell 2
         have q3 := b2.cell 3
         have q4 := b2.cell 4
         have q5 := b2.cell 5
         have q6 := b2.cell 6
         have q7 := b2.cell 7
         have q8 := b2.cell 8
         have q9 := b2.cell 9
         simp at q0 q1 q2 q3 q4 q5 q6 q7 q8 q9
         have b2' := h2.blkAt (g := V.heap.size) (t := 3) (cs := #[.int .i64 q]) (by simp)
         have s0 := b2'.cell 0
         simp at s0
         have H2 := Lib.hid h2
         clear h2 b2 b2')
      | (go_at_call 65; refine (HI2.out _ H2.out).mono ?_; rintro e w2 ⟨rfl, hb2⟩
         have h3 := H2.out.keep (bsa hb2 (.cells (itc zI (.slice none 0 0)) 38))
         have b3 := h3.blkAt (g := V.heap.size + 1) (t := 64) (cs := rcc x (.slice A n c)) (by simp)
         have q0 := b3.cell 0
         have q1 := b3.cell 1
         have q2 := b3.cell 2
         have q3 := b3.cell 3
         have q4 := b3.cell 4
         have q5 := b3.cell 5
         have q6 := b3.cell 6
         have q7 := b3.cell 7
         have q8 := b3.cell 8
         have q9 := b3.cell 9
         simp at q0 q1 q2 q3 q4 q5 q6 q7 q8 q9
         have BS := Lib.hid (h3.blkAt (g := V.heap.size) (t := 3) (cs := #[.int .i64 q]) (by simp))
         have H3 := Lib.hid h3
         clear hb2 h3 b3)
      | (go_at_call 83; refine (HHS.out _ _ _ BS.out).mono ?_; rintro e w3 ⟨rfl, hb3⟩
         have h4 := H3.out.keep hb3
         have b4 := h4.blkAt (g := V.heap.size + 1) (t := 64) (cs := rcc x (.slice A n c)) (by simp)
         have q0 := b4.cell 0
         have q1 := b4.cell 1
         have q2 := b4.cell 2
         have q3 := b4.cell 3
         have q4 := b4.cell 4
         have q5 := b4.cell 5
         have q6 := b4.cell 6
         have q7 := b4.cell 7
         have q8 := b4.cell 8
         have q9 := b4.cell 9
         simp at q0 q1 q2 q3 q4 q5 q6 q7 q8 q9
         have H4 := Lib.hid h4
         clear hb3 h4 b4)
      | fail)
  go_ret2
  exact ⟨rfl, (H4.out.perm (List.perm_middle (l₁ := [_, _])).symm).tail.tail⟩
set_option maxHeartbeats 4000000 in
theorem seQry_true {w V : World} {T : List As} {p N : Nat} {r : List Rw} (h : Has w (tbA p r :: T) V) (hr : ROk N r) (hN : N ≤ 999999000) (hM : MaxL w) (key : ByteArray) (q : Int) (x : Rc) (A : Option Addr) (n c : Nat) (hx : ∀ W, Has w (tbA p r :: T) W → WtAt W A n x.l) (hn : n ≤ 9223372036854775807) (hc : chkS key x = 0) (hq1 : ¬ q < 1) (hq2 : ¬ 9007199254740991 < q) (y : It) (ho : ownI (pint r key) x.id = some y) (hcn : counts y x = true) (hb : Bool) (hhb : hasQ y.l q = hb) :
    Calls Tryz.prog 27 #[pt p, .string key, .int .i64 q, rcv x (.slice A n c)] V fun e w' => e = .returned (.tuple #[.bool hb, .int .i64 0]) ∧ Has w (tbA p r :: T) w' := by
  have h1 := ((h.newBlk 3 #[.int .i64 q]).newBlk 64 (rcc x (.slice A n c))).perm (List.perm_middle (l₁ := [_, _]))
  have hz1 : (V.alloc (.cells #[.int .i64 q] 3)).heap.size = V.heap.size + 1 := World.size_alloc _ _
  rw [hz1] at h1
  have H1 := Lib.hid h1
  have HCK := Lib.hid (seCheckRec h1 hr hN hM key x A n c (fun W hW => hx W (hW.perm (List.perm_middle (l₁ := [_, _])).symm).tail.tail) hn)
  have b1 := h1.blkAt (g := V.heap.size + 1) (t := 64) (cs := rcc x (.slice A n c)) (by simp)
  have q0 := b1.cell 0
  have q1 := b1.cell 1
  have q2 := b1.cell 2
  have q3 := b1.cell 3
  have q4 := b1.cell 4
  have q5 := b1.cell 5
  have q6 := b1.cell 6
  have q7 := b1.cell 7
  have q8 := b1.cell 8
  have q9 := b1.cell 9
  simp at q0 q1 q2 q3 q4 q5 q6 q7 q8 q9
  have HIN := Lib.hid (fun (hk : isK key = true) W (hW : Has w (tbA p r :: blkA (V.heap.size + 1) 64 (rcc x (.slice A n c)) :: blkA V.heap.size 3 #[.int .i64 q] :: T) W) => let ⟨F, hA, _⟩ := hW.get; seIntentOf hA hr.szs (hM.below hW.bel) key hk x.id)
  clear h h1 hr hx b1 hz1
  have HI2 := Lib.hid (HIN.out (chkS_ok hc).1)
  rw [hc] at HCK
  rw [ho] at HI2
  unfold AnsT at HI2
  simp only at HI2
  have HCO := Lib.hid (fun v W => seCounts y v x (.slice A n c) W)
  have HHS := Lib.hid (fun A3 n3 (c3 : Nat) W (hn3 : n3 ≤ 9223372036854775807) (hx3 : ChAt W A3 n3 y.l) (hg3 : Blk W V.heap.size 3 #[.int .i64 q]) => seHas V.heap.size q A3 n3 c3 y.l hn3 W hx3 hg3)
  rw [hcn] at HCO
  rw [hhb] at HHS
  clear hc HIN hM ho hcn hhb
  go_enter Tryz.func27, Tryz.ntmps27
  go_wp2_with (first
      | (go_at_call 64; refine HCK.out.mono ?_; rintro e w1 ⟨rfl, h2⟩
         have b2 := h2.blkAt (g := V.heap.size + 1) (t := 64) (cs := rcc x (.slice A n c)) (by simp)
         have q0 := b2.cell 0
         have q1 := b2.cell 1
         have q2 := b2.cell 2
         have q3 := b2.cell 3
         have q4 := b2.cell 4
         have q5 := b2.cell 5
         have q6 := b2.cell 6
         have q7 := b2.cell 7
         have q8 := b2.cell 8
         have q9 := b2.cell 9
         simp at q0 q1 q2 q3 q4 q5 q6 q7 q8 q9
         have b2' := h2.blkAt (g := V.heap.size) (t := 3) (cs := #[.int .i64 q]) (by simp)
         have s0 := b2'.cell 0
         simp at s0
         have H2 := Lib.hid h2
         clear h2 b2 b2')
      | (go_at_call 65; refine (HI2.out _ H2.out).mono ?_; rintro e w2 ⟨⟨A2, n2, c2, rfl, hat, hn2⟩, hb2⟩
         have h3 := H2.out.keep (bsa hb2 (.cells (itc y (.slice A2 n2 c2)) 38))
         have b3 := h3.blkAt (g := V.heap.size + 1) (t := 64) (cs := rcc x (.slice A n c)) (by simp)
         have q0 := b3.cell 0
         have q1 := b3.cell 1
         have q2 := b3.cell 2
         have q3 := b3.cell 3
         have q4 := b3.cell 4
         have q5 := b3.cell 5
         have q6 := b3.cell 6
         have q7 := b3.cell 7
         have q8 := b3.cell 8
         have q9 := b3.cell 9
         simp at q0 q1 q2 q3 q4 q5 q6 q7 q8 q9
         have kI := Blk.new w2 38 (itc y (.slice A2 n2 c2))
         have KI := Lib.hid kI
         have HAT := Lib.hid (hat.below (nbl w2 (.cells (itc y (.slice A2 n2 c2)) 38)))
         clear hat kI
         have BS := Lib.hid (h3.blkAt (g := V.heap.size) (t := 3) (cs := #[.int .i64 q]) (by simp))
         have H3 := Lib.hid h3
         clear hb2 h3 b3)
      | (go_at_call 83; refine (HHS.out _ _ _ _ hn2 HAT.out BS.out).mono ?_; rintro e w3 ⟨rfl, hb3⟩
         have h4 := H3.out.keep hb3
         have b4 := h4.blkAt (g := V.heap.size + 1) (t := 64) (cs := rcc x (.slice A n c)) (by simp)
         have q0 := b4.cell 0
         have q1 := b4.cell 1
         have q2 := b4.cell 2
         have q3 := b4.cell 3
         have q4 := b4.cell 4
         have q5 := b4.cell 5
         have q6 := b4.cell 6
         have q7 := b4.cell 7
         have q8 := b4.cell 8
         have q9 := b4.cell 9
         simp at q0 q1 q2 q3 q4 q5 q6 q7 q8 q9
         have k4 := KI.out.below hb3 KI.out.lt
         have i0 := k4.cell 0
         have i1 := k4.cell 1
         have i2 := k4.cell 2
         have i3 := k4.cell 3
         have i4 := k4.cell 4
         have i5 := k4.cell 5
         have i6 := k4.cell 6
         have i7 := k4.cell 7
         have i8 := k4.cell 8
         simp at i0 i1 i2 i3 i4 i5 i6 i7 i8
         clear k4
         have H4 := Lib.hid h4
         clear hb3 h4 b4)
      | (go_at_call 66; refine (HCO.out _ _).mono ?_; rintro e w4 ⟨rfl, hb4⟩; have H5 := Lib.hid (H4.out.keep hb4); clear hb4)
      | fail)
  go_ret2
  exact ⟨by simp, (H5.out.perm (List.perm_middle (l₁ := [_, _])).symm).tail.tail⟩
set_option maxHeartbeats 4000000 in
theorem seQry_false {w V : World} {T : List As} {p N : Nat} {r : List Rw} (h : Has w (tbA p r :: T) V) (hr : ROk N r) (hN : N ≤ 999999000) (hM : MaxL w) (key : ByteArray) (q : Int) (x : Rc) (A : Option Addr) (n c : Nat) (hx : ∀ W, Has w (tbA p r :: T) W → WtAt W A n x.l) (hn : n ≤ 9223372036854775807) (hc : chkS key x = 0) (hq1 : ¬ q < 1) (hq2 : ¬ 9007199254740991 < q) (y : It) (ho : ownI (pint r key) x.id = some y) (hcn : counts y x = false) (hb : Bool) (hhb : hasQ y.l q = hb) :
    Calls Tryz.prog 27 #[pt p, .string key, .int .i64 q, rcv x (.slice A n c)] V fun e w' => e = .returned (.tuple #[.bool false, .int .i64 0]) ∧ Has w (tbA p r :: T) w' := by
  have h1 := ((h.newBlk 3 #[.int .i64 q]).newBlk 64 (rcc x (.slice A n c))).perm (List.perm_middle (l₁ := [_, _]))
  have hz1 : (V.alloc (.cells #[.int .i64 q] 3)).heap.size = V.heap.size + 1 := World.size_alloc _ _
  rw [hz1] at h1
  have H1 := Lib.hid h1
  have HCK := Lib.hid (seCheckRec h1 hr hN hM key x A n c (fun W hW => hx W (hW.perm (List.perm_middle (l₁ := [_, _])).symm).tail.tail) hn)
  have b1 := h1.blkAt (g := V.heap.size + 1) (t := 64) (cs := rcc x (.slice A n c)) (by simp)
  have q0 := b1.cell 0
  have q1 := b1.cell 1
  have q2 := b1.cell 2
  have q3 := b1.cell 3
  have q4 := b1.cell 4
  have q5 := b1.cell 5
  have q6 := b1.cell 6
  have q7 := b1.cell 7
  have q8 := b1.cell 8
  have q9 := b1.cell 9
  simp at q0 q1 q2 q3 q4 q5 q6 q7 q8 q9
  have HIN := Lib.hid (fun (hk : isK key = true) W (hW : Has w (tbA p r :: blkA (V.heap.size + 1) 64 (rcc x (.slice A n c)) :: blkA V.heap.size 3 #[.int .i64 q] :: T) W) => let ⟨F, hA, _⟩ := hW.get; seIntentOf hA hr.szs (hM.below hW.bel) key hk x.id)
  clear h h1 hr hx b1 hz1
  have HI2 := Lib.hid (HIN.out (chkS_ok hc).1)
  rw [hc] at HCK
  rw [ho] at HI2
  unfold AnsT at HI2
  simp only at HI2
  have HCO := Lib.hid (fun v W => seCounts y v x (.slice A n c) W)
  have HHS := Lib.hid (fun A3 n3 (c3 : Nat) W (hn3 : n3 ≤ 9223372036854775807) (hx3 : ChAt W A3 n3 y.l) (hg3 : Blk W V.heap.size 3 #[.int .i64 q]) => seHas V.heap.size q A3 n3 c3 y.l hn3 W hx3 hg3)
  rw [hcn] at HCO
  rw [hhb] at HHS
  clear hc HIN hM ho hcn hhb
  go_enter Tryz.func27, Tryz.ntmps27
  go_wp2_with (first
      | (go_at_call 64; refine HCK.out.mono ?_; rintro e w1 ⟨rfl, h2⟩
         have b2 := h2.blkAt (g := V.heap.size + 1) (t := 64) (cs := rcc x (.slice A n c)) (by simp)
         have q0 := b2.cell 0
         have q1 := b2.cell 1
         have q2 := b2.cell 2
         have q3 := b2.cell 3
         have q4 := b2.cell 4
         have q5 := b2.cell 5
         have q6 := b2.cell 6
         have q7 := b2.cell 7
         have q8 := b2.cell 8
         have q9 := b2.cell 9
         simp at q0 q1 q2 q3 q4 q5 q6 q7 q8 q9
         have b2' := h2.blkAt (g := V.heap.size) (t := 3) (cs := #[.int .i64 q]) (by simp)
         have s0 := b2'.cell 0
         simp at s0
         have H2 := Lib.hid h2
         clear h2 b2 b2')
      | (go_at_call 65; refine (HI2.out _ H2.out).mono ?_; rintro e w2 ⟨⟨A2, n2, c2, rfl, hat, hn2⟩, hb2⟩
         have h3 := H2.out.keep (bsa hb2 (.cells (itc y (.slice A2 n2 c2)) 38))
         have b3 := h3.blkAt (g := V.heap.size + 1) (t := 64) (cs := rcc x (.slice A n c)) (by simp)
         have q0 := b3.cell 0
         have q1 := b3.cell 1
         have q2 := b3.cell 2
         have q3 := b3.cell 3
         have q4 := b3.cell 4
         have q5 := b3.cell 5
         have q6 := b3.cell 6
         have q7 := b3.cell 7
         have q8 := b3.cell 8
         have q9 := b3.cell 9
         simp at q0 q1 q2 q3 q4 q5 q6 q7 q8 q9
         have kI := Blk.new w2 38 (itc y (.slice A2 n2 c2))
         have KI := Lib.hid kI
         have HAT := Lib.hid (hat.below (nbl w2 (.cells (itc y (.slice A2 n2 c2)) 38)))
         clear hat kI
         have BS := Lib.hid (h3.blkAt (g := V.heap.size) (t := 3) (cs := #[.int .i64 q]) (by simp))
         have H3 := Lib.hid h3
         clear hb2 h3 b3)
      | (go_at_call 83; refine (HHS.out _ _ _ _ hn2 HAT.out BS.out).mono ?_; rintro e w3 ⟨rfl, hb3⟩
         have h4 := H3.out.keep hb3
         have b4 := h4.blkAt (g := V.heap.size + 1) (t := 64) (cs := rcc x (.slice A n c)) (by simp)
         have q0 := b4.cell 0
         have q1 := b4.cell 1
         have q2 := b4.cell 2
         have q3 := b4.cell 3
         have q4 := b4.cell 4
         have q5 := b4.cell 5
         have q6 := b4.cell 6
         have q7 := b4.cell 7
         have q8 := b4.cell 8
         have q9 := b4.cell 9
         simp at q0 q1 q2 q3 q4 q5 q6 q7 q8 q9
         have k4 := KI.out.below hb3 KI.out.lt
         have i0 := k4.cell 0
         have i1 := k4.cell 1
         have i2 := k4.cell 2
         have i3 := k4.cell 3
         have i4 := k4.cell 4
         have i5 := k4.cell 5
         have i6 := k4.cell 6
         have i7 := k4.cell 7
         have i8 := k4.cell 8
         simp at i0 i1 i2 i3 i4 i5 i6 i7 i8
         clear k4
         have H4 := Lib.hid h4
         clear hb3 h4 b4)
      | (go_at_call 66; refine (HCO.out _ _).mono ?_; rintro e w4 ⟨rfl, hb4⟩; have H5 := Lib.hid (H4.out.keep hb4); clear hb4)
      | fail)
  go_ret2
  exact ⟨by simp, (H5.out.perm (List.perm_middle (l₁ := [_, _])).symm).tail.tail⟩
theorem seQuery {w V : World} {T : List As} {p N : Nat} {r : List Rw} (h : Has w (tbA p r :: T) V) (hr : ROk N r) (hN : N ≤ 999999000) (hM : MaxL w) (key : ByteArray) (q : Int) (x : Rc) (A : Option Addr) (n c : Nat) (hx : ∀ W, Has w (tbA p r :: T) W → WtAt W A n x.l) (hn : n ≤ 9223372036854775807) :
    Calls Tryz.prog 27 #[pt p, .string key, .int .i64 q, rcv x (.slice A n c)] V fun e w' => e = .returned (.tuple #[.bool (qryC r key q x).1, .int .i64 (qryC r key q x).2]) ∧ Has w (tbA p r :: T) w' := by
  unfold qryC
  by_cases hc : chkS key x = 0
  · by_cases hq1 : q < 1
    · rw [if_neg (by omega)]
      exact seQry_lo h hr hN hM key q x A n c hx hn hc hq1
    · by_cases hq2 : 9007199254740991 < q
      · rw [if_neg (by omega)]
        exact seQry_hi h hr hN hM key q x A n c hx hn hc hq1 hq2
      · rw [if_pos ⟨hc, by omega, by omega⟩]
        unfold qryO
        cases ho : ownI (pint r key) x.id with
        | none => exact seQry_none h hr hN hM key q x A n c hx hn hc hq1 hq2 ho
        | some y =>
          simp only
          cases hcn : counts y x with
          | true =>
            rw [Bool.true_and]
            exact seQry_true h hr hN hM key q x A n c hx hn hc hq1 hq2 y ho hcn _ rfl
          | false =>
            rw [Bool.false_and]
            exact seQry_false h hr hN hM key q x A n c hx hn hc hq1 hq2 y ho hcn _ rfl
  · rw [if_neg (fun e => hc e.1)]
    refine seQry_no h hr hN hM key q x A n c hx hn ?_
    unfold chkS at *
    split at hc
    · exact absurd rfl hc
    · rw [if_neg (by assumption)]
end Go.Proofs.YthimheckmpepdaaGreatDoor
set_option linter.unusedVariables false
set_option linter.unusedSimpArgs false
set_option maxRecDepth 100000
namespace Go.Proofs.YthimheckmpepdaaGreatDoor
open Go.RowKit

theorem Has.opCell {w V : World} {l : List As} {A : Option Addr} {n c : Nat} {L : List Op_} (h : Has w l V) (hm : opA (.slice A n c) L ∈ l) (hn : n = L.length) (h0 : 0 < L.length) :
    ∃ q, A = some ⟨q, 0, none⟩ ∧ ∀ i (h : i < L.length), V.cell? ⟨q, 0 + i * 3 + 2, none⟩ = some (.bool (L[i]'h).del) := by
  obtain ⟨F, hF, _⟩ := h.at_ hm
  have hat := opA_at hF hn
  have hr : ORow V 0 (.slice A n c) L.length L := hF.1
  rcases hr.form with ⟨h1, _⟩ | ⟨q, c', h1, _, _⟩
  · omega
  · injection h1 with h1 _ _
    subst h1
    obtain ⟨b, o, e, hc⟩ := hat.2 (by omega)
    injection e with e
    injection e with e1 e2
    subst e1 e2
    exact ⟨q, rfl, fun i hi => (hc i hi).2.2⟩
theorem chapZ : ∀ x ∈ chapP, TSz x := by
  intro x hx
  unfold chapP at hx
  simp only [List.mem_cons, List.not_mem_nil, or_false] at hx
  rcases hx with rfl | rfl <;> (unfold TSz; exact ⟨by decide, by decide, by decide, by decide⟩)
set_option maxHeartbeats 16000000 in
theorem awake14 (w : World) (hM : MaxL w) : Calls Tryz.prog 26 #[] w fun e w' => e = .returned (.bool true) ∧ Below w.heap.size w w' := by
  have OK := Lib.hid (tabP_ok chapZ)
  go_enter Tryz.func26, Tryz.ntmps26
  go_wp2_with fail
  refine (chapter_c _).mono ?_
  rintro e w1 ⟨⟨At, ct, rfl, hth⟩, hb1⟩
  go_wp2_with fail
  refine (tables14_c At 2 ct chapP _ hth (by decide) chapZ).mono ?_
  rintro e w2 ⟨p, b, rfl, h2⟩
  have H0 := Lib.hid (h2.base hb1)
  clear h2 hb1 hth
  go_wp2_with fail
  refine (rec_c 7 3 20 _).mono ?_
  rintro e v1 ⟨rfl, hv1⟩
  have G1 := Lib.hid (H0.out.keep hv1)
  clear hv1
  go_wp2_with fail
  refine (show Calls Tryz.prog 20 #[pt p, .string bA, rcv (recP 7 3 20) (.slice none 0 0)] _ fun e w' => AnsRes ([verO bA 20 0 chZ, goneO bA], 0) w (tbA p (tabP chapP) :: rtA b (tabP chapP) :: []) e w' from sw1 ▸ seResolve G1.out OK.out (by decide) hM bA (recP 7 3 20) none 0 0 (fun W _ => WtAt.nil W none) (by decide)).mono ?_
  rintro e v2 ⟨A0, n0, c0, rfl, hn0, h2⟩
  obtain rfl : n0 = 2 := hn0
  obtain ⟨q0, rfl, -⟩ := h2.opCell (A := A0) (c := c0) (L := [verO bA 20 0 chZ, goneO bA]) (by simp) rfl (by decide)
  have G2 := Lib.hid h2.swap
  clear h2
  go_wp2_with fail
  refine (rec_c 7 3 14 _).mono ?_
  rintro e v3 ⟨rfl, hv3⟩
  have G3 := Lib.hid (G2.out.keep hv3)
  clear hv3
  go_wp2_with fail
  refine (show Calls Tryz.prog 20 #[pt p, .string bA, rcv (recP 7 3 14) (.slice none 0 0)] _ fun e w' => AnsRes ([goneO bA], 0) w (tbA p (tabP chapP) :: opA (.slice (some ⟨q0, 0, none⟩) 2 c0) [verO bA 20 0 chZ, goneO bA] :: rtA b (tabP chapP) :: []) e w' from sw2 ▸ seResolve G3.out OK.out (by decide) hM bA (recP 7 3 14) none 0 0 (fun W _ => WtAt.nil W none) (by decide)).mono ?_
  rintro e v4 ⟨A1, n1, c1, rfl, hn1, h4⟩
  obtain rfl : n1 = 1 := hn1
  obtain ⟨q1, rfl, -⟩ := h4.opCell (A := A1) (c := c1) (L := [goneO bA]) (by simp) rfl (by decide)
  have G4 := Lib.hid h4.swap
  clear h4
  go_wp2_with fail
  refine (rec_c 7 3 20 _).mono ?_
  rintro e v5 ⟨rfl, hv5⟩
  have G5 := Lib.hid ((G4.out.keep hv5).newBlk 64 (rcc (recE 7 1 3 20) (.slice none 0 0))).swap
  clear hv5
  go_wp2_with fail
  refine (show Calls Tryz.prog 20 #[pt p, .string bA, rcv (recE 7 1 3 20) (.slice none 0 0)] _ fun e w' => AnsRes ([goneO bA], 0) w (tbA p (tabP chapP) :: blkA v5.heap.size 64 (rcc (recE 7 1 3 20) (.slice none 0 0)) :: opA (.slice (some ⟨q1, 0, none⟩) 1 c1) [goneO bA] :: opA (.slice (some ⟨q0, 0, none⟩) 2 c0) [verO bA 20 0 chZ, goneO bA] :: rtA b (tabP chapP) :: []) e w' from sw3 ▸ seResolve G5.out OK.out (by decide) hM bA (recE 7 1 3 20) none 0 0 (fun W _ => WtAt.nil W none) (by decide)).mono ?_
  rintro e v6 ⟨A2, n2, c2, rfl, hn2, h6⟩
  obtain rfl : n2 = 1 := hn2
  obtain ⟨q2, rfl, -⟩ := h6.opCell (A := A2) (c := c2) (L := [goneO bA]) (by simp) rfl (by decide)
  have G6 := Lib.hid h6.swap
  clear h6
  go_wp2_with fail
  refine (rec_c 7 1 18 _).mono ?_
  rintro e v7 ⟨rfl, hv7⟩
  have G7 := Lib.hid (G6.out.keep hv7)
  clear hv7
  go_wp2_with fail
  refine (show Calls Tryz.prog 20 #[pt p, .string bA, rcv (recP 7 1 18) (.slice none 0 0)] _ fun e w' => AnsRes ([pushO bA chZ 18 0], 0) w (tbA p (tabP chapP) :: opA (.slice (some ⟨q2, 0, none⟩) 1 c2) [goneO bA] :: blkA v5.heap.size 64 (rcc (recE 7 1 3 20) (.slice none 0 0)) :: opA (.slice (some ⟨q1, 0, none⟩) 1 c1) [goneO bA] :: opA (.slice (some ⟨q0, 0, none⟩) 2 c0) [verO bA 20 0 chZ, goneO bA] :: rtA b (tabP chapP) :: []) e w' from sw4 ▸ seResolve G7.out OK.out (by decide) hM bA (recP 7 1 18) none 0 0 (fun W _ => WtAt.nil W none) (by decide)).mono ?_
  rintro e v8 ⟨A3, n3, c3, rfl, hn3, h8⟩
  obtain rfl : n3 = 1 := hn3
  obtain ⟨q3, rfl, -⟩ := h8.opCell (A := A3) (c := c3) (L := [pushO bA chZ 18 0]) (by simp) rfl (by decide)
  have G8 := Lib.hid h8.swap
  clear h8
  go_wp2_with fail
  refine (rec_c 8 3 20 _).mono ?_
  rintro e v9 ⟨rfl, hv9⟩
  have G9 := Lib.hid (G8.out.keep hv9)
  clear hv9
  go_wp2_with fail
  refine (show Calls Tryz.prog 20 #[pt p, .string bA, rcv (recP 8 3 20) (.slice none 0 0)] _ fun e w' => AnsRes ([], 0) w (tbA p (tabP chapP) :: opA (.slice (some ⟨q3, 0, none⟩) 1 c3) [pushO bA chZ 18 0] :: opA (.slice (some ⟨q2, 0, none⟩) 1 c2) [goneO bA] :: blkA v5.heap.size 64 (rcc (recE 7 1 3 20) (.slice none 0 0)) :: opA (.slice (some ⟨q1, 0, none⟩) 1 c1) [goneO bA] :: opA (.slice (some ⟨q0, 0, none⟩) 2 c0) [verO bA 20 0 chZ, goneO bA] :: rtA b (tabP chapP) :: []) e w' from sw5 ▸ seResolve G9.out OK.out (by decide) hM bA (recP 8 3 20) none 0 0 (fun W _ => WtAt.nil W none) (by decide)).mono ?_
  rintro e v10 ⟨A4, n4, c4, rfl, hn4, h10⟩
  obtain rfl : n4 = 0 := hn4
  have G10 := Lib.hid h10.swap
  clear h10
  go_wp2_with fail
  refine (whole_c _).mono ?_
  rintro e x11 ⟨rfl, hx11⟩
  go_wp2_with fail
  refine (reader14_c 9 12 _).mono ?_
  rintro e y11 ⟨rfl, hy11⟩
  go_wp2_with fail
  refine (at14_c 14 _).mono ?_
  rintro e z11 ⟨rfl, hz11⟩
  have J11 := Lib.hid (((G10.out.keep hx11).keep hy11).keep hz11)
  clear hx11 hy11 hz11
  go_wp2_with fail
  refine (show Calls Tryz.prog 34 #[pt p, .agg #[.string bA, .string bB], txv (rdrP 9 12), sv 14 0, sv 0 0] _ fun e w' => AnsRf (zI, 0) e w' ∧ Has w (tbA p (tabP chapP) :: opA (.slice A4 0 c4) [] :: opA (.slice (some ⟨q3, 0, none⟩) 1 c3) [pushO bA chZ 18 0] :: opA (.slice (some ⟨q2, 0, none⟩) 1 c2) [goneO bA] :: blkA v5.heap.size 64 (rcc (recE 7 1 3 20) (.slice none 0 0)) :: opA (.slice (some ⟨q1, 0, none⟩) 1 c1) [goneO bA] :: opA (.slice (some ⟨q0, 0, none⟩) 2 c0) [verO bA 20 0 chZ, goneO bA] :: rtA b (tabP chapP) :: []) w' from sw6 ▸ seRefresh J11.out OK.out (by decide) hM bA bB (by decide) (by decide) (rdrP 9 12) 14 0 0 0).mono ?_
  rintro e v11 ⟨⟨B0, m0, d0, rfl, -, -⟩, h11⟩
  have G11 := Lib.hid (h11.newBlk 38 (itc zI (.slice B0 m0 d0))).swap
  clear h11
  go_wp2_with fail
  refine (whole_c _).mono ?_
  rintro e x12 ⟨rfl, hx12⟩
  go_wp2_with fail
  refine (reader14_c 9 12 _).mono ?_
  rintro e y12 ⟨rfl, hy12⟩
  go_wp2_with fail
  refine (at14_c 15 _).mono ?_
  rintro e z12 ⟨rfl, hz12⟩
  have J12 := Lib.hid (((G11.out.keep hx12).keep hy12).keep hz12)
  clear hx12 hy12 hz12
  go_wp2_with fail
  refine (show Calls Tryz.prog 34 #[pt p, .agg #[.string bA, .string bB], txv (rdrP 9 12), sv 15 0, sv 0 0] _ fun e w' => AnsRf (chZ, 120) e w' ∧ Has w (tbA p (tabP chapP) :: blkA v11.heap.size 38 (itc zI (.slice B0 m0 d0)) :: opA (.slice A4 0 c4) [] :: opA (.slice (some ⟨q3, 0, none⟩) 1 c3) [pushO bA chZ 18 0] :: opA (.slice (some ⟨q2, 0, none⟩) 1 c2) [goneO bA] :: blkA v5.heap.size 64 (rcc (recE 7 1 3 20) (.slice none 0 0)) :: opA (.slice (some ⟨q1, 0, none⟩) 1 c1) [goneO bA] :: opA (.slice (some ⟨q0, 0, none⟩) 2 c0) [verO bA 20 0 chZ, goneO bA] :: rtA b (tabP chapP) :: []) w' from sw7 ▸ seRefresh J12.out OK.out (by decide) hM bA bB (by decide) (by decide) (rdrP 9 12) 15 0 0 0).mono ?_
  rintro e v12 ⟨⟨B1, m1, d1, rfl, -, -⟩, h12⟩
  have G12 := Lib.hid (h12.newBlk 38 (itc chZ (.slice B1 m1 d1))).swap
  clear h12
  go_wp2_with fail
  refine (whole_c _).mono ?_
  rintro e x13 ⟨rfl, hx13⟩
  go_wp2_with fail
  refine (reader14_c 9 10 _).mono ?_
  rintro e y13 ⟨rfl, hy13⟩
  go_wp2_with fail
  refine (at14_c 14 _).mono ?_
  rintro e z13 ⟨rfl, hz13⟩
  have J13 := Lib.hid (((G12.out.keep hx13).keep hy13).keep hz13)
  clear hx13 hy13 hz13
  go_wp2_with fail
  refine (show Calls Tryz.prog 34 #[pt p, .agg #[.string bA, .string bB], txv (rdrP 9 10), sv 14 0, sv 0 0] _ fun e w' => AnsRf (zI, 202) e w' ∧ Has w (tbA p (tabP chapP) :: blkA v12.heap.size 38 (itc chZ (.slice B1 m1 d1)) :: blkA v11.heap.size 38 (itc zI (.slice B0 m0 d0)) :: opA (.slice A4 0 c4) [] :: opA (.slice (some ⟨q3, 0, none⟩) 1 c3) [pushO bA chZ 18 0] :: opA (.slice (some ⟨q2, 0, none⟩) 1 c2) [goneO bA] :: blkA v5.heap.size 64 (rcc (recE 7 1 3 20) (.slice none 0 0)) :: opA (.slice (some ⟨q1, 0, none⟩) 1 c1) [goneO bA] :: opA (.slice (some ⟨q0, 0, none⟩) 2 c0) [verO bA 20 0 chZ, goneO bA] :: rtA b (tabP chapP) :: []) w' from sw8 ▸ seRefresh J13.out OK.out (by decide) hM bA bB (by decide) (by decide) (rdrP 9 10) 14 0 0 0).mono ?_
  rintro e v13 ⟨⟨B2, m2, d2, rfl, -, -⟩, h13⟩
  have G13 := Lib.hid (h13.newBlk 38 (itc zI (.slice B2 m2 d2))).swap
  clear h13
  go_wp2_with fail
  refine (rec_c 7 2 15 _).mono ?_
  rintro e v14 ⟨rfl, hv14⟩
  have G14 := Lib.hid (G13.out.keep hv14)
  clear hv14
  go_wp2_with fail
  refine (show Calls Tryz.prog 27 #[pt p, .string bA, .int .i64 3, rcv (recP 7 2 15) (.slice none 0 0)] _ fun e w' => e = .returned (.tuple #[.bool true, .int .i64 0]) ∧ Has w (tbA p (tabP chapP) :: blkA v13.heap.size 38 (itc zI (.slice B2 m2 d2)) :: blkA v12.heap.size 38 (itc chZ (.slice B1 m1 d1)) :: blkA v11.heap.size 38 (itc zI (.slice B0 m0 d0)) :: opA (.slice A4 0 c4) [] :: opA (.slice (some ⟨q3, 0, none⟩) 1 c3) [pushO bA chZ 18 0] :: opA (.slice (some ⟨q2, 0, none⟩) 1 c2) [goneO bA] :: blkA v5.heap.size 64 (rcc (recE 7 1 3 20) (.slice none 0 0)) :: opA (.slice (some ⟨q1, 0, none⟩) 1 c1) [goneO bA] :: opA (.slice (some ⟨q0, 0, none⟩) 2 c0) [verO bA 20 0 chZ, goneO bA] :: rtA b (tabP chapP) :: []) w' from by
    have := seQuery G14.out OK.out (by decide) hM bA 3 (recP 7 2 15) none 0 0 (fun W _ => WtAt.nil W none) (by decide)
    rw [sw9] at this
    exact this).mono ?_
  rintro e v15 ⟨rfl, h15⟩
  have G15 := Lib.hid h15
  clear h15
  go_wp2_with fail
  refine (rec_c 7 2 14 _).mono ?_
  rintro e v16 ⟨rfl, hv16⟩
  have G16 := Lib.hid (G15.out.keep hv16)
  clear hv16
  go_wp2_with fail
  refine (show Calls Tryz.prog 27 #[pt p, .string bA, .int .i64 3, rcv (recP 7 2 14) (.slice none 0 0)] _ fun e w' => e = .returned (.tuple #[.bool false, .int .i64 0]) ∧ Has w (tbA p (tabP chapP) :: blkA v13.heap.size 38 (itc zI (.slice B2 m2 d2)) :: blkA v12.heap.size 38 (itc chZ (.slice B1 m1 d1)) :: blkA v11.heap.size 38 (itc zI (.slice B0 m0 d0)) :: opA (.slice A4 0 c4) [] :: opA (.slice (some ⟨q3, 0, none⟩) 1 c3) [pushO bA chZ 18 0] :: opA (.slice (some ⟨q2, 0, none⟩) 1 c2) [goneO bA] :: blkA v5.heap.size 64 (rcc (recE 7 1 3 20) (.slice none 0 0)) :: opA (.slice (some ⟨q1, 0, none⟩) 1 c1) [goneO bA] :: opA (.slice (some ⟨q0, 0, none⟩) 2 c0) [verO bA 20 0 chZ, goneO bA] :: rtA b (tabP chapP) :: []) w' from by
    have := seQuery G16.out OK.out (by decide) hM bA 3 (recP 7 2 14) none 0 0 (fun W _ => WtAt.nil W none) (by decide)
    rw [sw10] at this
    exact this).mono ?_
  rintro e v17 ⟨rfl, h17⟩
  have G17 := Lib.hid h17
  clear h17
  have hfin := G17.out
  obtain ⟨_, e0, f0⟩ := hfin.opCell (A := some ⟨q0, 0, none⟩) (c := c0) (L := [verO bA 20 0 chZ, goneO bA]) (by simp) rfl (by decide)
  injection e0 with e0
  injection e0 with e0 _
  subst e0
  have d00 := f0 0 (by decide)
  have d01 := f0 1 (by decide)
  obtain ⟨_, e1, f1⟩ := hfin.opCell (A := some ⟨q1, 0, none⟩) (c := c1) (L := [goneO bA]) (by simp) rfl (by decide)
  injection e1 with e1
  injection e1 with e1 _
  subst e1
  have d10 := f1 0 (by decide)
  obtain ⟨_, e2, f2⟩ := hfin.opCell (A := some ⟨q2, 0, none⟩) (c := c2) (L := [goneO bA]) (by simp) rfl (by decide)
  injection e2 with e2
  injection e2 with e2 _
  subst e2
  have d20 := f2 0 (by decide)
  obtain ⟨_, e3, f3⟩ := hfin.opCell (A := some ⟨q3, 0, none⟩) (c := c3) (L := [pushO bA chZ 18 0]) (by simp) rfl (by decide)
  injection e3 with e3
  injection e3 with e3 _
  subst e3
  have d30 := f3 0 (by decide)
  simp at d00 d01 d10 d20 d30
  have k0 := (hfin.blkAt (g := v12.heap.size) (t := 38) (cs := itc chZ (.slice B1 m1 d1)) (by simp)).cell 0
  simp at k0
  have hbel := hfin.bel
  clear f0 f1 f2 f3 hfin
  go_wp2_with fail
  go_ret
  exact ⟨rfl, hbel⟩
end Go.Proofs.YthimheckmpepdaaGreatDoor
set_option linter.unusedVariables false
set_option linter.unusedSimpArgs false
set_option maxRecDepth 100000
namespace Go.Proofs.YthimheckmpepdaaGreatDoor
open Go.RowKit

theorem askw_rec {W : World} {g : Nat} {key f t : ByteArray} {q : Int} {x : Rc} {v : Value} {y : Tx} {a b c d : Int} (hB : Blk W g 66 (askw key f t q x v y a b c d)) :
    W.rangeAt g 4 (rcc x v).toList := by
    intro j u hv
    have hj : j < 10 := by
      have := (List.getElem?_eq_some_iff.mp hv).1
      simpa using this
    rw [hB.cell]
    have : j = 0 ∨ j = 1 ∨ j = 2 ∨ j = 3 ∨ j = 4 ∨ j = 5 ∨ j = 6 ∨ j = 7 ∨ j = 8 ∨ j = 9 := by omega
    rcases this with rfl | rfl | rfl | rfl | rfl | rfl | rfl | rfl | rfl | rfl <;> exact hv
end Go.Proofs.YthimheckmpepdaaGreatDoor
set_option linter.unusedVariables false
set_option linter.unusedSimpArgs false
set_option maxRecDepth 100000
namespace Go.Proofs.YthimheckmpepdaaGreatDoor
open Go.RowKit

set_option maxHeartbeats 4000000 in
theorem seSett_ok {w V : World} {T : List As} {p N : Nat} {r : List Rw} (h : Has w (tbA p r :: T) V) (hr : ROk N r) (hN : N ≤ 1000000) (hM : MaxL w) (key : ByteArray) (x : Rc) (A : Option Addr) (n c : Nat) (hx : ∀ W, Has w (tbA p r :: T) W → WtAt W A n x.l) (hn : n ≤ 9223372036854775807) (ops : List Op_) (ho : resC r key x = (ops, 0)) :
    Calls Tryz.prog 29 #[pt p, .string key, rcv x (.slice A n c)] V fun e w' => ∃ q A2 n2 c2, e = .returned (.tuple #[pt q, .slice A2 n2 c2, .bool true]) ∧ n2 = ops.length ∧ Has w (tbA q (rapp r ops) :: opA (.slice A2 n2 c2) ops :: tbA p r :: T) w' := by
  have h1 := (h.newBlk 64 (rcc x (.slice A n c))).swap
  have HRS := Lib.hid (show Calls Tryz.prog 20 #[pt p, .string key, rcv x (.slice A n c)] (V.alloc (.cells (rcc x (.slice A n c)) 64)) fun e w' => AnsRes (ops, 0) w (tbA p r :: blkA V.heap.size 64 (rcc x (.slice A n c)) :: T) e w' from ho ▸ seResolve h1 hr (by omega) hM key x A n c (fun W hW => hx W (show Has w (blkA V.heap.size 64 (rcc x (.slice A n c)) :: tbA p r :: T) W from hW.swap).tail) hn)
  have HR := Lib.hid hr
  have HOZ := Lib.hid (show OSz ops from by have := resC_sz r key x; rw [ho] at this; exact this)
  have HOL := Lib.hid (show ops.length ≤ 2 from by have := resC_len r key x; rw [ho] at this; exact this)
  clear h h1 hr hx ho hM
  go_enter Tryz.func29, Tryz.ntmps29
  go_wp2_with fail
  refine HRS.out.mono ?_
  rintro e w1 ⟨A2, n2, c2, rfl, hn2, h2⟩
  have H2 := Lib.hid h2.swap
  have HN2 := Lib.hid hn2
  clear h2 hn2
  go_wp2_with fail
  refine (Has.tbCopy H2.out HR.out.szs (by have := HR.out.len; omega)).mono ?_
  rintro e w2 ⟨q, rfl, h3⟩
  have H3 := Lib.hid (show Has w (tbA q r :: opA (.slice A2 n2 c2) ops :: tbA p r :: blkA V.heap.size 64 (rcc x (.slice A n c)) :: T) w2 from h3.perm (List.Perm.cons _ (List.Perm.swap _ _ _)))
  clear h3
  have hn22 : n2 ≤ 9223372036854775807 := by have := HN2.out; have := HOL.out; omega
  go_wp2_with fail
  refine (H3.out.tbApplyB HR.out (by omega) A2 n2 c2 ops (fun W F2 hb => opA_at hb HN2.out) hn22 HOZ.out).mono ?_
  rintro e w3 ⟨rfl, h4, -⟩
  have H4 := Lib.hid (show Has w (tbA q (rapp r ops) :: opA (.slice A2 n2 c2) ops :: tbA p r :: T) w3 from (h4.perm (List.perm_middle (l₁ := [_, _, _]))).tail)
  clear h4
  go_wp2_with fail
  go_ret3
  exact ⟨q, A2, n2, c2, rfl, HN2.out, H4.out⟩
set_option maxHeartbeats 4000000 in
theorem seSett_no {w V : World} {T : List As} {p N : Nat} {r : List Rw} (h : Has w (tbA p r :: T) V) (hr : ROk N r) (hN : N ≤ 1000000) (hM : MaxL w) (key : ByteArray) (x : Rc) (A : Option Addr) (n c : Nat) (hx : ∀ W, Has w (tbA p r :: T) W → WtAt W A n x.l) (hn : n ≤ 9223372036854775807) (ops : List Op_) (k : Int) (hk : ¬ k = 0) (ho : resC r key x = (ops, k)) :
    Calls Tryz.prog 29 #[pt p, .string key, rcv x (.slice A n c)] V fun e w' => ∃ q A2 n2 c2, e = .returned (.tuple #[pt q, .slice A2 n2 c2, .bool false]) ∧ n2 = ops.length ∧ Has w (tbA q r :: opA (.slice A2 n2 c2) ops :: tbA p r :: T) w' := by
  have h1 := (h.newBlk 64 (rcc x (.slice A n c))).swap
  have HRS := Lib.hid (show Calls Tryz.prog 20 #[pt p, .string key, rcv x (.slice A n c)] (V.alloc (.cells (rcc x (.slice A n c)) 64)) fun e w' => AnsRes (ops, k) w (tbA p r :: blkA V.heap.size 64 (rcc x (.slice A n c)) :: T) e w' from ho ▸ seResolve h1 hr (by omega) hM key x A n c (fun W hW => hx W (show Has w (blkA V.heap.size 64 (rcc x (.slice A n c)) :: tbA p r :: T) W from hW.swap).tail) hn)
  have HR := Lib.hid hr
  have HOZ := Lib.hid (show OSz ops from by have := resC_sz r key x; rw [ho] at this; exact this)
  have HOL := Lib.hid (show ops.length ≤ 2 from by have := resC_len r key x; rw [ho] at this; exact this)
  clear h h1 hr hx ho hM
  have hk2 : (k == 0) = false := by simpa using hk
  clear hk
  go_enter Tryz.func29, Tryz.ntmps29
  go_wp2_with fail
  refine HRS.out.mono ?_
  rintro e w1 ⟨A2, n2, c2, rfl, hn2, h2⟩
  have H2 := Lib.hid h2.swap
  have HN2 := Lib.hid hn2
  clear h2 hn2
  go_wp2_with fail
  refine (Has.tbCopy H2.out HR.out.szs (by have := HR.out.len; omega)).mono ?_
  rintro e w2 ⟨q, rfl, h3⟩
  have H4 := Lib.hid (show Has w (tbA q r :: opA (.slice A2 n2 c2) ops :: tbA p r :: T) w2 from ((h3.perm (List.Perm.cons _ (List.Perm.swap _ _ _))).perm (List.perm_middle (l₁ := [_, _, _]))).tail)
  clear h3
  go_wp2_with fail
  go_ret3
  exact ⟨q, A2, n2, c2, rfl, HN2.out, H4.out⟩
end Go.Proofs.YthimheckmpepdaaGreatDoor
set_option linter.unusedVariables false
set_option linter.unusedSimpArgs false
set_option maxRecDepth 100000
namespace Go.Proofs.YthimheckmpepdaaGreatDoor
open Go.RowKit

def ApO (key : ByteArray) (x : Rc) (o : Op_) : Prop := o.key = bs (ikey (sb key)) ∨ (o.key = bs (vkey (sb key) x.sw x.sl) ∧ o.del = false ∧ x.st = 3)
theorem resP_ap (y : It) (key : ByteArray) (x : Rc) : ∀ o ∈ resP y key x, ApO key x o := by
  intro o ho
  unfold resP pushP at ho
  split at ho
  · rename_i h3
    split at ho
    · simp only [List.mem_cons, List.not_mem_nil, or_false] at ho
      rcases ho with rfl | rfl
      · exact .inr ⟨rfl, rfl, h3⟩
      · exact .inl rfl
    · simp only [List.mem_cons, List.not_mem_nil, or_false] at ho
      subst ho
      exact .inl rfl
  · split at ho
    · simp only [List.mem_cons, List.not_mem_nil, or_false] at ho
      subst ho
      exact .inl rfl
    · split at ho
      · split at ho
        · simp only [List.mem_cons, List.not_mem_nil, or_false] at ho
          subst ho
          exact .inl rfl
        · split at ho
          · simp only [List.mem_cons, List.not_mem_nil, or_false] at ho
            subst ho
            exact .inl rfl
          · exact absurd ho (by simp)
      · exact absurd ho (by simp)
theorem res_ap {r : List Rw} {key : ByteArray} {x : Rc} {ops : List Op_} (h : resC r key x = (ops, 0)) :
    isK key = true ∧ may x.sw x.sl = true ∧ ops.length ≤ 2 ∧ ∀ o ∈ ops, ApO key x o := by
  obtain ⟨hk, hm⟩ := chkS_ok (res_cases h).1
  refine ⟨hk, (mayR_parts hm).1, ?_, ?_⟩
  · have := resC_len r key x
    rw [h] at this
    exact this
  · obtain ⟨-, rfl⟩ := res_cases h
    unfold resO
    cases ownI (pint r key) x.id with
    | none => exact fun o ho => nomatch ho
    | some y => exact resP_ap y key x
end Go.Proofs.YthimheckmpepdaaGreatDoor
set_option linter.unusedVariables false
set_option linter.unusedSimpArgs false
set_option maxRecDepth 100000
namespace Go.Proofs.YthimheckmpepdaaGreatDoor
open Go.RowKit

theorem ap_ends (c : UInt8) (key : ByteArray) (r : List UInt8) (h : isK key = true) (hr : r.length ≤ 9) :
    ∃ s : ByteArray, bs (c :: (okey (sb key) ++ r)) = s ∧ 0 < s.size ∧ s.size ≤ 100 ∧ (∃ h0 : 0 < s.size, s[0]'h0 = c) ∧ TkAns (tkey 1000 (ob (s.extract 1 s.size))) = .returned (.tuple #[.string key, .string (bs r), .int .i64 0]) := by
  obtain ⟨-, h32⟩ := isK_iff.1 h
  have hl := okey_len key h32
  refine ⟨_, rfl, ?_, ?_, ⟨?_, rfl⟩, ?_⟩
  · rw [bs_size]; simp
  · rw [bs_size]; simp; omega
  · rw [bs_size]; simp
  · have e1 : ob ((bs (c :: (okey (sb key) ++ r))).extract 1 (bs (c :: (okey (sb key) ++ r))).size) = esc (sb key) ++ 0 :: 0 :: r := by
      rw [sb_end]
      show okey (sb key) ++ r = _
      unfold okey
      simp
    rw [e1, tkey_okey (sb key) 1000 r (by rw [sb_len]; omega), TkAns_ok]
    show Ending.returned (.tuple #[.string (bs (sb key)), .string (bs r), .int .i64 0]) = _
    rw [bs_sb]
set_option maxHeartbeats 1000000 in
theorem rReadI_yes (key : ByteArray) (hk : isK key = true) (w : World) :
    Calls Tryz.prog 35 #[.string (bs (ikey (sb key)))] w fun e w' => e = .returned (.tuple #[.string key, .int .i64 0]) ∧ Below w.heap.size w w' := by
  obtain ⟨s, hs, hs0, hs1, ⟨h0, hc⟩, ht⟩ := ap_ends 105 key [] hk (by simp)
  rw [List.append_nil] at hs
  unfold ikey
  rw [hs]
  have HT := Lib.hid (fun V => refTake (s.extract 1 s.size) V (by rw [ByteArray.size_extract]; omega))
  rw [ht] at HT
  have hbs : bs [] = (⟨#[]⟩ : ByteArray) := rfl
  rw [hbs] at HT
  clear ht hs hk hbs
  go_enter Tryz.func35, Tryz.ntmps35
  go_wp2_with fail
  refine (HT.out _).mono ?_
  rintro e w1 ⟨rfl, hb1⟩
  go_wp2_with fail
  go_ret2
  exact ⟨rfl, hb1⟩
set_option maxHeartbeats 1000000 in
theorem rReadI_no (key : ByteArray) (a b : Int) (hk : isK key = true) (hm : may a b = true) (w : World) :
    Calls Tryz.prog 35 #[.string (bs (vkey (sb key) a b))] w fun e w' => e = .returned (.tuple #[.string ⟨#[]⟩, .int .i64 4]) ∧ Below w.heap.size w w' := by
  obtain ⟨s, hs, hs0, hs1, ⟨h0, hc⟩, ht⟩ := ap_ends 118 key (odown a b) hk (by rw [odown_len]; omega)
  unfold vkey
  rw [hs]
  clear ht hs hk hm
  go_enter Tryz.func35, Tryz.ntmps35
  go_wp2_with fail
  go_ret2
  exact ⟨rfl, Below.refl _ _⟩
set_option maxHeartbeats 2000000 in
theorem rReadV_yes (key : ByteArray) (a b : Int) (hk : isK key = true) (hm : may a b = true) (w : World) :
    Calls Tryz.prog 36 #[.string (bs (vkey (sb key) a b))] w fun e w' => e = .returned (.tuple #[.string key, .agg #[.int .i64 a, .int .i64 b], .int .i64 0]) ∧ Below w.heap.size w w' := by
  have hol : (odown a b).length = 9 := odown_len a b
  obtain ⟨s, hs, hs0, hs1, ⟨h0, hc⟩, ht⟩ := ap_ends 118 key (odown a b) hk (by omega)
  unfold vkey
  rw [hs]
  have HT := Lib.hid (fun V => refTake (s.extract 1 s.size) V (by rw [ByteArray.size_extract]; omega))
  rw [ht] at HT
  have td : tdown (ob (bs (odown a b))) = .ok (a, b, []) := by
    have := tdown_odown a b [] hm
    rw [List.append_nil] at this
    exact this
  have HD := Lib.hid (fun V => refTakeDown_long (bs (odown a b)) V (by rw [bs_size]; omega) (by rw [bs_size]; omega))
  rw [td] at HD
  generalize bs (odown a b) = dd at *
  have hbs : TdAns (.ok (a, b, [])) = .returned (.tuple #[.agg #[.int .i64 a, .int .i64 b], .string ⟨#[]⟩, .int .i64 0]) := rfl
  rw [hbs] at HD
  clear hbs
  clear ht hs hk hm hol td
  have H0 := Lib.hid ((Has.nil (Below.refl w.heap.size w)).newBlk 26 #[.int .i64 0, .int .i64 0])
  go_enter Tryz.func36, Tryz.ntmps36
  go_wp2_with fail
  refine (HT.out _).mono ?_
  rintro e w1 ⟨rfl, hb1⟩
  have H1 := Lib.hid (H0.out.keep hb1)
  clear H0 hb1
  go_wp2_with fail
  refine (HD.out _).mono ?_
  rintro e w2 ⟨rfl, hb2⟩
  have H2 := Lib.hid ((H1.out.keep hb2).newBlk 26 #[.int .i64 a, .int .i64 b])
  clear H1 hb2
  have u0 := H2.out.blkAt (g := w.heap.size) (t := 26) (cs := #[.int .i64 0, .int .i64 0]) (by simp)
  have u1 := H2.out.blkAt (g := w2.heap.size) (t := 26) (cs := #[.int .i64 a, .int .i64 b]) (by simp)
  have c0 := u0.cell 0
  have c1 := u0.cell 1
  have f0 := u0.frozen 0
  have f1 := u0.frozen 1
  have hbel := H2.out.bel
  simp at c0 c1
  go_wp2_with fail
  go_region
  all_goals go_wp2_with fail
  all_goals exact ret_tct rfl rfl ((u0.set_ 0 _).set_ 1 _) rfl ⟨rfl, ((hbel.setCell (Nat.le_refl _) _).setCell (Nat.le_refl _) _).drew⟩
end Go.Proofs.YthimheckmpepdaaGreatDoor
