/-
  Layer 14, the code: Query (written by wip/genset.py).
-/
import Derived.Test.YtldbmogondmgmaaGreatDoorSS33
import Derived.Test.YtldbmogondmgmaaGreatDoorSS36
set_option linter.unusedVariables false
set_option linter.unusedSimpArgs false
set_option maxRecDepth 100000
namespace Go.Proofs.YtldbmogondmgmaaGreatDoor
open Go.RowKit

set_option maxHeartbeats 4000000 in
theorem seQry_no {w V : World} {T : List As} {p N : Nat} {r : List Rw} (h : Has w (tbA p r :: T) V) (hr : ROk N r) (hN : N ≤ 999999000) (hM : MaxL w) (key : ByteArray) (q : Int) (x : Rc) (A : Option Addr) (n c : Nat) (hx : ∀ W, Has w (tbA p r :: T) W → WtAt W A n x.l) (hn : n ≤ 9223372036854775807) (hc : chkS key x = 2) :
    Calls Tryz.prog 73 #[pt p, .string key, .int .i64 q, rcv x (.slice A n c)] V fun e w' => e = .returned (.tuple #[.bool false, .int .i64 2]) ∧ Has w (tbA p r :: T) w' := by
  have h1 := ((h.newBlk 3 #[.int .i64 q]).newBlk 69 (rcc x (.slice A n c))).perm (List.perm_middle (l₁ := [_, _]))
  have hz1 : (V.alloc (.cells #[.int .i64 q] 3)).heap.size = V.heap.size + 1 := World.size_alloc _ _
  rw [hz1] at h1
  have H1 := Lib.hid h1
  have HCK := Lib.hid (seCheckRec h1 hr hN hM key x A n c (fun W hW => hx W (hW.perm (List.perm_middle (l₁ := [_, _])).symm).tail.tail) hn)
  have b1 := h1.blkAt (g := V.heap.size + 1) (t := 69) (cs := rcc x (.slice A n c)) (by simp)
  have q0 := b1.cell 0
  have q1 := b1.cell 1
  have q2 := b1.cell 2
  have q3 := b1.cell 3
  have q4 := b1.cell 4
  have q5 := b1.cell 5
  have q6 := b1.cell 6
  have q7 := b1.cell 7
  have q8 := b1.cell 8
  have q9 := b1.cell 9
  simp at q0 q1 q2 q3 q4 q5 q6 q7 q8 q9
  have HIN := Lib.hid (fun (hk : isK key = true) W (hW : Has w (tbA p r :: blkA (V.heap.size + 1) 69 (rcc x (.slice A n c)) :: blkA V.heap.size 3 #[.int .i64 q] :: T) W) => let ⟨F, hA, _⟩ := hW.get; seIntentOf hA hr.szs (hM.below hW.bel) key hk x.id)
  clear h h1 hr hx b1 hz1
  rw [hc] at HCK
  clear hc HIN hM
  go_enter Tryz.func73, Tryz.ntmps73
  go_wp2_with (first
      | (go_at_call 133; refine HCK.out.mono ?_; rintro e w1 ⟨rfl, h2⟩
         have b2 := h2.blkAt (g := V.heap.size + 1) (t := 69) (cs := rcc x (.slice A n c)) (by simp)
         have q0 := b2.cell 0
         have q1 := b2.cell 1
         have q2 := b2.cell 2
         have q3 := b2.cell 3
         have q4 := b2.cell 4
         have q5 := b2.cell 5
         have q6 := b2.cell 6
         have q7 := b2.cell 7
         have q8 := b2.cell 8
         have q9 := b2.cell 9
         simp at q0 q1 q2 q3 q4 q5 q6 q7 q8 q9
         have b2' := h2.blkAt (g := V.heap.size) (t := 3) (cs := #[.int .i64 q]) (by simp)
         have s0 := b2'.cell 0
         simp at s0
         have H2 := Lib.hid h2
         clear h2 b2 b2')
      | fail)
  go_ret2
  exact ⟨rfl, (H2.out.perm (List.perm_middle (l₁ := [_, _])).symm).tail.tail⟩
set_option maxHeartbeats 4000000 in
theorem seQry_lo {w V : World} {T : List As} {p N : Nat} {r : List Rw} (h : Has w (tbA p r :: T) V) (hr : ROk N r) (hN : N ≤ 999999000) (hM : MaxL w) (key : ByteArray) (q : Int) (x : Rc) (A : Option Addr) (n c : Nat) (hx : ∀ W, Has w (tbA p r :: T) W → WtAt W A n x.l) (hn : n ≤ 9223372036854775807) (hc : chkS key x = 0) (hq : q < 1) :
    Calls Tryz.prog 73 #[pt p, .string key, .int .i64 q, rcv x (.slice A n c)] V fun e w' => e = .returned (.tuple #[.bool false, .int .i64 2]) ∧ Has w (tbA p r :: T) w' := by
  have h1 := ((h.newBlk 3 #[.int .i64 q]).newBlk 69 (rcc x (.slice A n c))).perm (List.perm_middle (l₁ := [_, _]))
  have hz1 : (V.alloc (.cells #[.int .i64 q] 3)).heap.size = V.heap.size + 1 := World.size_alloc _ _
  rw [hz1] at h1
  have H1 := Lib.hid h1
  have HCK := Lib.hid (seCheckRec h1 hr hN hM key x A n c (fun W hW => hx W (hW.perm (List.perm_middle (l₁ := [_, _])).symm).tail.tail) hn)
  have b1 := h1.blkAt (g := V.heap.size + 1) (t := 69) (cs := rcc x (.slice A n c)) (by simp)
  have q0 := b1.cell 0
  have q1 := b1.cell 1
  have q2 := b1.cell 2
  have q3 := b1.cell 3
  have q4 := b1.cell 4
  have q5 := b1.cell 5
  have q6 := b1.cell 6
  have q7 := b1.cell 7
  have q8 := b1.cell 8
  have q9 := b1.cell 9
  simp at q0 q1 q2 q3 q4 q5 q6 q7 q8 q9
  have HIN := Lib.hid (fun (hk : isK key = true) W (hW : Has w (tbA p r :: blkA (V.heap.size + 1) 69 (rcc x (.slice A n c)) :: blkA V.heap.size 3 #[.int .i64 q] :: T) W) => let ⟨F, hA, _⟩ := hW.get; seIntentOf hA hr.szs (hM.below hW.bel) key hk x.id)
  clear h h1 hr hx b1 hz1
  rw [hc] at HCK
  clear hc HIN hM
  go_enter Tryz.func73, Tryz.ntmps73
  go_wp2_with (first
      | (go_at_call 133; refine HCK.out.mono ?_; rintro e w1 ⟨rfl, h2⟩
         have b2 := h2.blkAt (g := V.heap.size + 1) (t := 69) (cs := rcc x (.slice A n c)) (by simp)
         have q0 := b2.cell 0
         have q1 := b2.cell 1
         have q2 := b2.cell 2
         have q3 := b2.cell 3
         have q4 := b2.cell 4
         have q5 := b2.cell 5
         have q6 := b2.cell 6
         have q7 := b2.cell 7
         have q8 := b2.cell 8
         have q9 := b2.cell 9
         simp at q0 q1 q2 q3 q4 q5 q6 q7 q8 q9
         have b2' := h2.blkAt (g := V.heap.size) (t := 3) (cs := #[.int .i64 q]) (by simp)
         have s0 := b2'.cell 0
         simp at s0
         have H2 := Lib.hid h2
         clear h2 b2 b2')
      | fail)
  go_ret2
  exact ⟨rfl, (H2.out.perm (List.perm_middle (l₁ := [_, _])).symm).tail.tail⟩
set_option maxHeartbeats 4000000 in
theorem seQry_hi {w V : World} {T : List As} {p N : Nat} {r : List Rw} (h : Has w (tbA p r :: T) V) (hr : ROk N r) (hN : N ≤ 999999000) (hM : MaxL w) (key : ByteArray) (q : Int) (x : Rc) (A : Option Addr) (n c : Nat) (hx : ∀ W, Has w (tbA p r :: T) W → WtAt W A n x.l) (hn : n ≤ 9223372036854775807) (hc : chkS key x = 0) (hq1 : ¬ q < 1) (hq : 9007199254740991 < q) :
    Calls Tryz.prog 73 #[pt p, .string key, .int .i64 q, rcv x (.slice A n c)] V fun e w' => e = .returned (.tuple #[.bool false, .int .i64 2]) ∧ Has w (tbA p r :: T) w' := by
  have h1 := ((h.newBlk 3 #[.int .i64 q]).newBlk 69 (rcc x (.slice A n c))).perm (List.perm_middle (l₁ := [_, _]))
  have hz1 : (V.alloc (.cells #[.int .i64 q] 3)).heap.size = V.heap.size + 1 := World.size_alloc _ _
  rw [hz1] at h1
  have H1 := Lib.hid h1
  have HCK := Lib.hid (seCheckRec h1 hr hN hM key x A n c (fun W hW => hx W (hW.perm (List.perm_middle (l₁ := [_, _])).symm).tail.tail) hn)
  have b1 := h1.blkAt (g := V.heap.size + 1) (t := 69) (cs := rcc x (.slice A n c)) (by simp)
  have q0 := b1.cell 0
  have q1 := b1.cell 1
  have q2 := b1.cell 2
  have q3 := b1.cell 3
  have q4 := b1.cell 4
  have q5 := b1.cell 5
  have q6 := b1.cell 6
  have q7 := b1.cell 7
  have q8 := b1.cell 8
  have q9 := b1.cell 9
  simp at q0 q1 q2 q3 q4 q5 q6 q7 q8 q9
  have HIN := Lib.hid (fun (hk : isK key = true) W (hW : Has w (tbA p r :: blkA (V.heap.size + 1) 69 (rcc x (.slice A n c)) :: blkA V.heap.size 3 #[.int .i64 q] :: T) W) => let ⟨F, hA, _⟩ := hW.get; seIntentOf hA hr.szs (hM.below hW.bel) key hk x.id)
  clear h h1 hr hx b1 hz1
  rw [hc] at HCK
  clear hc HIN hM
  go_enter Tryz.func73, Tryz.ntmps73
  go_wp2_with (first
      | (go_at_call 133; refine HCK.out.mono ?_; rintro e w1 ⟨rfl, h2⟩
         have b2 := h2.blkAt (g := V.heap.size + 1) (t := 69) (cs := rcc x (.slice A n c)) (by simp)
         have q0 := b2.cell 0
         have q1 := b2.cell 1
         have q2 := b2.cell 2
         have q3 := b2.cell 3
         have q4 := b2.cell 4
         have q5 := b2.cell 5
         have q6 := b2.cell 6
         have q7 := b2.cell 7
         have q8 := b2.cell 8
         have q9 := b2.cell 9
         simp at q0 q1 q2 q3 q4 q5 q6 q7 q8 q9
         have b2' := h2.blkAt (g := V.heap.size) (t := 3) (cs := #[.int .i64 q]) (by simp)
         have s0 := b2'.cell 0
         simp at s0
         have H2 := Lib.hid h2
         clear h2 b2 b2')
      | fail)
  go_ret2
  exact ⟨rfl, (H2.out.perm (List.perm_middle (l₁ := [_, _])).symm).tail.tail⟩
set_option maxHeartbeats 4000000 in
theorem seQry_none {w V : World} {T : List As} {p N : Nat} {r : List Rw} (h : Has w (tbA p r :: T) V) (hr : ROk N r) (hN : N ≤ 999999000) (hM : MaxL w) (key : ByteArray) (q : Int) (x : Rc) (A : Option Addr) (n c : Nat) (hx : ∀ W, Has w (tbA p r :: T) W → WtAt W A n x.l) (hn : n ≤ 9223372036854775807) (hc : chkS key x = 0) (hq1 : ¬ q < 1) (hq2 : ¬ 9007199254740991 < q) (ho : ownI (pint r key) x.id = none) :
    Calls Tryz.prog 73 #[pt p, .string key, .int .i64 q, rcv x (.slice A n c)] V fun e w' => e = .returned (.tuple #[.bool false, .int .i64 0]) ∧ Has w (tbA p r :: T) w' := by
  have h1 := ((h.newBlk 3 #[.int .i64 q]).newBlk 69 (rcc x (.slice A n c))).perm (List.perm_middle (l₁ := [_, _]))
  have hz1 : (V.alloc (.cells #[.int .i64 q] 3)).heap.size = V.heap.size + 1 := World.size_alloc _ _
  rw [hz1] at h1
  have H1 := Lib.hid h1
  have HCK := Lib.hid (seCheckRec h1 hr hN hM key x A n c (fun W hW => hx W (hW.perm (List.perm_middle (l₁ := [_, _])).symm).tail.tail) hn)
  have b1 := h1.blkAt (g := V.heap.size + 1) (t := 69) (cs := rcc x (.slice A n c)) (by simp)
  have q0 := b1.cell 0
  have q1 := b1.cell 1
  have q2 := b1.cell 2
  have q3 := b1.cell 3
  have q4 := b1.cell 4
  have q5 := b1.cell 5
  have q6 := b1.cell 6
  have q7 := b1.cell 7
  have q8 := b1.cell 8
  have q9 := b1.cell 9
  simp at q0 q1 q2 q3 q4 q5 q6 q7 q8 q9
  have HIN := Lib.hid (fun (hk : isK key = true) W (hW : Has w (tbA p r :: blkA (V.heap.size + 1) 69 (rcc x (.slice A n c)) :: blkA V.heap.size 3 #[.int .i64 q] :: T) W) => let ⟨F, hA, _⟩ := hW.get; seIntentOf hA hr.szs (hM.below hW.bel) key hk x.id)
  clear h h1 hr hx b1 hz1
  have HI2 := Lib.hid (HIN.out (chkS_ok hc).1)
  rw [hc] at HCK
  rw [ho] at HI2
  unfold AnsT at HI2
  simp only at HI2
  have HHS := Lib.hid (fun A3 (c3 : Nat) W (hg3 : Blk W V.heap.size 3 #[.int .i64 q]) => seHas V.heap.size q A3 0 c3 [] (by decide) W (ChAt.nil W A3) hg3)
  clear hc HIN hM ho
  go_enter Tryz.func73, Tryz.ntmps73
  go_wp2_with (first
      | (go_at_call 133; refine HCK.out.mono ?_; rintro e w1 ⟨rfl, h2⟩
         have b2 := h2.blkAt (g := V.heap.size + 1) (t := 69) (cs := rcc x (.slice A n c)) (by simp)
         have q0 := b2.cell 0
         have q1 := b2.cell 1
         have q2 := b2.cell 2
         have q3 := b2.cell 3
         have q4 := b2.cell 4
         have q5 := b2.cell 5
         have q6 := b2.cell 6
         have q7 := b2.cell 7
         have q8 := b2.cell 8
         have q9 := b2.cell 9
         simp at q0 q1 q2 q3 q4 q5 q6 q7 q8 q9
         have b2' := h2.blkAt (g := V.heap.size) (t := 3) (cs := #[.int .i64 q]) (by simp)
         have s0 := b2'.cell 0
         simp at s0
         have H2 := Lib.hid h2
         clear h2 b2 b2')
      | (go_at_call 134; refine (HI2.out _ H2.out).mono ?_; rintro e w2 ⟨rfl, hb2⟩
         have h3 := H2.out.keep (bsa hb2 (.cells (itc zI (.slice none 0 0)) 39))
         have b3 := h3.blkAt (g := V.heap.size + 1) (t := 69) (cs := rcc x (.slice A n c)) (by simp)
         have q0 := b3.cell 0
         have q1 := b3.cell 1
         have q2 := b3.cell 2
         have q3 := b3.cell 3
         have q4 := b3.cell 4
         have q5 := b3.cell 5
         have q6 := b3.cell 6
         have q7 := b3.cell 7
         have q8 := b3.cell 8
         have q9 := b3.cell 9
         simp at q0 q1 q2 q3 q4 q5 q6 q7 q8 q9
         have BS := Lib.hid (h3.blkAt (g := V.heap.size) (t := 3) (cs := #[.int .i64 q]) (by simp))
         have H3 := Lib.hid h3
         clear hb2 h3 b3)
      | (go_at_call 139; refine (HHS.out _ _ _ BS.out).mono ?_; rintro e w3 ⟨rfl, hb3⟩
         have h4 := H3.out.keep hb3
         have b4 := h4.blkAt (g := V.heap.size + 1) (t := 69) (cs := rcc x (.slice A n c)) (by simp)
         have q0 := b4.cell 0
         have q1 := b4.cell 1
         have q2 := b4.cell 2
         have q3 := b4.cell 3
         have q4 := b4.cell 4
         have q5 := b4.cell 5
         have q6 := b4.cell 6
         have q7 := b4.cell 7
         have q8 := b4.cell 8
         have q9 := b4.cell 9
         simp at q0 q1 q2 q3 q4 q5 q6 q7 q8 q9
         have H4 := Lib.hid h4
         clear hb3 h4 b4)
      | fail)
  go_ret2
  exact ⟨rfl, (H4.out.perm (List.perm_middle (l₁ := [_, _])).symm).tail.tail⟩
set_option maxHeartbeats 4000000 in
theorem seQry_true {w V : World} {T : List As} {p N : Nat} {r : List Rw} (h : Has w (tbA p r :: T) V) (hr : ROk N r) (hN : N ≤ 999999000) (hM : MaxL w) (key : ByteArray) (q : Int) (x : Rc) (A : Option Addr) (n c : Nat) (hx : ∀ W, Has w (tbA p r :: T) W → WtAt W A n x.l) (hn : n ≤ 9223372036854775807) (hc : chkS key x = 0) (hq1 : ¬ q < 1) (hq2 : ¬ 9007199254740991 < q) (y : It) (ho : ownI (pint r key) x.id = some y) (hcn : counts y x = true) (hb : Bool) (hhb : hasQ y.l q = hb) :
    Calls Tryz.prog 73 #[pt p, .string key, .int .i64 q, rcv x (.slice A n c)] V fun e w' => e = .returned (.tuple #[.bool hb, .int .i64 0]) ∧ Has w (tbA p r :: T) w' := by
  have h1 := ((h.newBlk 3 #[.int .i64 q]).newBlk 69 (rcc x (.slice A n c))).perm (List.perm_middle (l₁ := [_, _]))
  have hz1 : (V.alloc (.cells #[.int .i64 q] 3)).heap.size = V.heap.size + 1 := World.size_alloc _ _
  rw [hz1] at h1
  have H1 := Lib.hid h1
  have HCK := Lib.hid (seCheckRec h1 hr hN hM key x A n c (fun W hW => hx W (hW.perm (List.perm_middle (l₁ := [_, _])).symm).tail.tail) hn)
  have b1 := h1.blkAt (g := V.heap.size + 1) (t := 69) (cs := rcc x (.slice A n c)) (by simp)
  have q0 := b1.cell 0
  have q1 := b1.cell 1
  have q2 := b1.cell 2
  have q3 := b1.cell 3
  have q4 := b1.cell 4
  have q5 := b1.cell 5
  have q6 := b1.cell 6
  have q7 := b1.cell 7
  have q8 := b1.cell 8
  have q9 := b1.cell 9
  simp at q0 q1 q2 q3 q4 q5 q6 q7 q8 q9
  have HIN := Lib.hid (fun (hk : isK key = true) W (hW : Has w (tbA p r :: blkA (V.heap.size + 1) 69 (rcc x (.slice A n c)) :: blkA V.heap.size 3 #[.int .i64 q] :: T) W) => let ⟨F, hA, _⟩ := hW.get; seIntentOf hA hr.szs (hM.below hW.bel) key hk x.id)
  clear h h1 hr hx b1 hz1
  have HI2 := Lib.hid (HIN.out (chkS_ok hc).1)
  rw [hc] at HCK
  rw [ho] at HI2
  unfold AnsT at HI2
  simp only at HI2
  have HCO := Lib.hid (fun v W => seCounts y v x (.slice A n c) W)
  have HHS := Lib.hid (fun A3 n3 (c3 : Nat) W (hn3 : n3 ≤ 9223372036854775807) (hx3 : ChAt W A3 n3 y.l) (hg3 : Blk W V.heap.size 3 #[.int .i64 q]) => seHas V.heap.size q A3 n3 c3 y.l hn3 W hx3 hg3)
  rw [hcn] at HCO
  rw [hhb] at HHS
  clear hc HIN hM ho hcn hhb
  go_enter Tryz.func73, Tryz.ntmps73
  go_wp2_with (first
      | (go_at_call 133; refine HCK.out.mono ?_; rintro e w1 ⟨rfl, h2⟩
         have b2 := h2.blkAt (g := V.heap.size + 1) (t := 69) (cs := rcc x (.slice A n c)) (by simp)
         have q0 := b2.cell 0
         have q1 := b2.cell 1
         have q2 := b2.cell 2
         have q3 := b2.cell 3
         have q4 := b2.cell 4
         have q5 := b2.cell 5
         have q6 := b2.cell 6
         have q7 := b2.cell 7
         have q8 := b2.cell 8
         have q9 := b2.cell 9
         simp at q0 q1 q2 q3 q4 q5 q6 q7 q8 q9
         have b2' := h2.blkAt (g := V.heap.size) (t := 3) (cs := #[.int .i64 q]) (by simp)
         have s0 := b2'.cell 0
         simp at s0
         have H2 := Lib.hid h2
         clear h2 b2 b2')
      | (go_at_call 134; refine (HI2.out _ H2.out).mono ?_; rintro e w2 ⟨⟨A2, n2, c2, rfl, hat, hn2⟩, hb2⟩
         have h3 := H2.out.keep (bsa hb2 (.cells (itc y (.slice A2 n2 c2)) 39))
         have b3 := h3.blkAt (g := V.heap.size + 1) (t := 69) (cs := rcc x (.slice A n c)) (by simp)
         have q0 := b3.cell 0
         have q1 := b3.cell 1
         have q2 := b3.cell 2
         have q3 := b3.cell 3
         have q4 := b3.cell 4
         have q5 := b3.cell 5
         have q6 := b3.cell 6
         have q7 := b3.cell 7
         have q8 := b3.cell 8
         have q9 := b3.cell 9
         simp at q0 q1 q2 q3 q4 q5 q6 q7 q8 q9
         have kI := Blk.new w2 39 (itc y (.slice A2 n2 c2))
         have KI := Lib.hid kI
         have HAT := Lib.hid (hat.below (nbl w2 (.cells (itc y (.slice A2 n2 c2)) 39)))
         clear hat kI
         have BS := Lib.hid (h3.blkAt (g := V.heap.size) (t := 3) (cs := #[.int .i64 q]) (by simp))
         have H3 := Lib.hid h3
         clear hb2 h3 b3)
      | (go_at_call 139; refine (HHS.out _ _ _ _ hn2 HAT.out BS.out).mono ?_; rintro e w3 ⟨rfl, hb3⟩
         have h4 := H3.out.keep hb3
         have b4 := h4.blkAt (g := V.heap.size + 1) (t := 69) (cs := rcc x (.slice A n c)) (by simp)
         have q0 := b4.cell 0
         have q1 := b4.cell 1
         have q2 := b4.cell 2
         have q3 := b4.cell 3
         have q4 := b4.cell 4
         have q5 := b4.cell 5
         have q6 := b4.cell 6
         have q7 := b4.cell 7
         have q8 := b4.cell 8
         have q9 := b4.cell 9
         simp at q0 q1 q2 q3 q4 q5 q6 q7 q8 q9
         have k4 := KI.out.below hb3 KI.out.lt
         have i0 := k4.cell 0
         have i1 := k4.cell 1
         have i2 := k4.cell 2
         have i3 := k4.cell 3
         have i4 := k4.cell 4
         have i5 := k4.cell 5
         have i6 := k4.cell 6
         have i7 := k4.cell 7
         have i8 := k4.cell 8
         simp at i0 i1 i2 i3 i4 i5 i6 i7 i8
         clear k4
         have H4 := Lib.hid h4
         clear hb3 h4 b4)
      | (go_at_call 135; refine (HCO.out _ _).mono ?_; rintro e w4 ⟨rfl, hb4⟩; have H5 := Lib.hid (H4.out.keep hb4); clear hb4)
      | fail)
  go_ret2
  exact ⟨by simp, (H5.out.perm (List.perm_middle (l₁ := [_, _])).symm).tail.tail⟩
set_option maxHeartbeats 4000000 in
theorem seQry_false {w V : World} {T : List As} {p N : Nat} {r : List Rw} (h : Has w (tbA p r :: T) V) (hr : ROk N r) (hN : N ≤ 999999000) (hM : MaxL w) (key : ByteArray) (q : Int) (x : Rc) (A : Option Addr) (n c : Nat) (hx : ∀ W, Has w (tbA p r :: T) W → WtAt W A n x.l) (hn : n ≤ 9223372036854775807) (hc : chkS key x = 0) (hq1 : ¬ q < 1) (hq2 : ¬ 9007199254740991 < q) (y : It) (ho : ownI (pint r key) x.id = some y) (hcn : counts y x = false) (hb : Bool) (hhb : hasQ y.l q = hb) :
    Calls Tryz.prog 73 #[pt p, .string key, .int .i64 q, rcv x (.slice A n c)] V fun e w' => e = .returned (.tuple #[.bool false, .int .i64 0]) ∧ Has w (tbA p r :: T) w' := by
  have h1 := ((h.newBlk 3 #[.int .i64 q]).newBlk 69 (rcc x (.slice A n c))).perm (List.perm_middle (l₁ := [_, _]))
  have hz1 : (V.alloc (.cells #[.int .i64 q] 3)).heap.size = V.heap.size + 1 := World.size_alloc _ _
  rw [hz1] at h1
  have H1 := Lib.hid h1
  have HCK := Lib.hid (seCheckRec h1 hr hN hM key x A n c (fun W hW => hx W (hW.perm (List.perm_middle (l₁ := [_, _])).symm).tail.tail) hn)
  have b1 := h1.blkAt (g := V.heap.size + 1) (t := 69) (cs := rcc x (.slice A n c)) (by simp)
  have q0 := b1.cell 0
  have q1 := b1.cell 1
  have q2 := b1.cell 2
  have q3 := b1.cell 3
  have q4 := b1.cell 4
  have q5 := b1.cell 5
  have q6 := b1.cell 6
  have q7 := b1.cell 7
  have q8 := b1.cell 8
  have q9 := b1.cell 9
  simp at q0 q1 q2 q3 q4 q5 q6 q7 q8 q9
  have HIN := Lib.hid (fun (hk : isK key = true) W (hW : Has w (tbA p r :: blkA (V.heap.size + 1) 69 (rcc x (.slice A n c)) :: blkA V.heap.size 3 #[.int .i64 q] :: T) W) => let ⟨F, hA, _⟩ := hW.get; seIntentOf hA hr.szs (hM.below hW.bel) key hk x.id)
  clear h h1 hr hx b1 hz1
  have HI2 := Lib.hid (HIN.out (chkS_ok hc).1)
  rw [hc] at HCK
  rw [ho] at HI2
  unfold AnsT at HI2
  simp only at HI2
  have HCO := Lib.hid (fun v W => seCounts y v x (.slice A n c) W)
  have HHS := Lib.hid (fun A3 n3 (c3 : Nat) W (hn3 : n3 ≤ 9223372036854775807) (hx3 : ChAt W A3 n3 y.l) (hg3 : Blk W V.heap.size 3 #[.int .i64 q]) => seHas V.heap.size q A3 n3 c3 y.l hn3 W hx3 hg3)
  rw [hcn] at HCO
  rw [hhb] at HHS
  clear hc HIN hM ho hcn hhb
  go_enter Tryz.func73, Tryz.ntmps73
  go_wp2_with (first
      | (go_at_call 133; refine HCK.out.mono ?_; rintro e w1 ⟨rfl, h2⟩
         have b2 := h2.blkAt (g := V.heap.size + 1) (t := 69) (cs := rcc x (.slice A n c)) (by simp)
         have q0 := b2.cell 0
         have q1 := b2.cell 1
         have q2 := b2.cell 2
         have q3 := b2.cell 3
         have q4 := b2.cell 4
         have q5 := b2.cell 5
         have q6 := b2.cell 6
         have q7 := b2.cell 7
         have q8 := b2.cell 8
         have q9 := b2.cell 9
         simp at q0 q1 q2 q3 q4 q5 q6 q7 q8 q9
         have b2' := h2.blkAt (g := V.heap.size) (t := 3) (cs := #[.int .i64 q]) (by simp)
         have s0 := b2'.cell 0
         simp at s0
         have H2 := Lib.hid h2
         clear h2 b2 b2')
      | (go_at_call 134; refine (HI2.out _ H2.out).mono ?_; rintro e w2 ⟨⟨A2, n2, c2, rfl, hat, hn2⟩, hb2⟩
         have h3 := H2.out.keep (bsa hb2 (.cells (itc y (.slice A2 n2 c2)) 39))
         have b3 := h3.blkAt (g := V.heap.size + 1) (t := 69) (cs := rcc x (.slice A n c)) (by simp)
         have q0 := b3.cell 0
         have q1 := b3.cell 1
         have q2 := b3.cell 2
         have q3 := b3.cell 3
         have q4 := b3.cell 4
         have q5 := b3.cell 5
         have q6 := b3.cell 6
         have q7 := b3.cell 7
         have q8 := b3.cell 8
         have q9 := b3.cell 9
         simp at q0 q1 q2 q3 q4 q5 q6 q7 q8 q9
         have kI := Blk.new w2 39 (itc y (.slice A2 n2 c2))
         have KI := Lib.hid kI
         have HAT := Lib.hid (hat.below (nbl w2 (.cells (itc y (.slice A2 n2 c2)) 39)))
         clear hat kI
         have BS := Lib.hid (h3.blkAt (g := V.heap.size) (t := 3) (cs := #[.int .i64 q]) (by simp))
         have H3 := Lib.hid h3
         clear hb2 h3 b3)
      | (go_at_call 139; refine (HHS.out _ _ _ _ hn2 HAT.out BS.out).mono ?_; rintro e w3 ⟨rfl, hb3⟩
         have h4 := H3.out.keep hb3
         have b4 := h4.blkAt (g := V.heap.size + 1) (t := 69) (cs := rcc x (.slice A n c)) (by simp)
         have q0 := b4.cell 0
         have q1 := b4.cell 1
         have q2 := b4.cell 2
         have q3 := b4.cell 3
         have q4 := b4.cell 4
         have q5 := b4.cell 5
         have q6 := b4.cell 6
         have q7 := b4.cell 7
         have q8 := b4.cell 8
         have q9 := b4.cell 9
         simp at q0 q1 q2 q3 q4 q5 q6 q7 q8 q9
         have k4 := KI.out.below hb3 KI.out.lt
         have i0 := k4.cell 0
         have i1 := k4.cell 1
         have i2 := k4.cell 2
         have i3 := k4.cell 3
         have i4 := k4.cell 4
         have i5 := k4.cell 5
         have i6 := k4.cell 6
         have i7 := k4.cell 7
         have i8 := k4.cell 8
         simp at i0 i1 i2 i3 i4 i5 i6 i7 i8
         clear k4
         have H4 := Lib.hid h4
         clear hb3 h4 b4)
      | (go_at_call 135; refine (HCO.out _ _).mono ?_; rintro e w4 ⟨rfl, hb4⟩; have H5 := Lib.hid (H4.out.keep hb4); clear hb4)
      | fail)
  go_ret2
  exact ⟨by simp, (H5.out.perm (List.perm_middle (l₁ := [_, _])).symm).tail.tail⟩
theorem seQuery {w V : World} {T : List As} {p N : Nat} {r : List Rw} (h : Has w (tbA p r :: T) V) (hr : ROk N r) (hN : N ≤ 999999000) (hM : MaxL w) (key : ByteArray) (q : Int) (x : Rc) (A : Option Addr) (n c : Nat) (hx : ∀ W, Has w (tbA p r :: T) W → WtAt W A n x.l) (hn : n ≤ 9223372036854775807) :
    Calls Tryz.prog 73 #[pt p, .string key, .int .i64 q, rcv x (.slice A n c)] V fun e w' => e = .returned (.tuple #[.bool (qryC r key q x).1, .int .i64 (qryC r key q x).2]) ∧ Has w (tbA p r :: T) w' := by
  unfold qryC
  by_cases hc : chkS key x = 0
  · by_cases hq1 : q < 1
    · rw [if_neg (by omega)]
      exact seQry_lo h hr hN hM key q x A n c hx hn hc hq1
    · by_cases hq2 : 9007199254740991 < q
      · rw [if_neg (by omega)]
        exact seQry_hi h hr hN hM key q x A n c hx hn hc hq1 hq2
      · rw [if_pos ⟨hc, by omega, by omega⟩]
        unfold qryO
        cases ho : ownI (pint r key) x.id with
        | none => exact seQry_none h hr hN hM key q x A n c hx hn hc hq1 hq2 ho
        | some y =>
          simp only
          cases hcn : counts y x with
          | true =>
            rw [Bool.true_and]
            exact seQry_true h hr hN hM key q x A n c hx hn hc hq1 hq2 y ho hcn _ rfl
          | false =>
            rw [Bool.false_and]
            exact seQry_false h hr hN hM key q x A n c hx hn hc hq1 hq2 y ho hcn _ rfl
  · rw [if_neg (fun e => hc e.1)]
    refine seQry_no h hr hN hM key q x A n c hx hn ?_
    unfold chkS at *
    split at hc
    · exact absurd rfl hc
    · rw [if_neg (by assumption)]
end Go.Proofs.YtldbmogondmgmaaGreatDoor
