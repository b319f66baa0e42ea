/-
  Layer 14, the document's answer: Query (written by wip/gensr.py).
-/
import Derived.Test.YthimheckmpepdaaGreatDoorKU32
import Derived.Test.YthimheckmpepdaaGreatDoorKU37
import Derived.Test.YthimheckmpepdaaGreatDoorKU39
import Derived.Test.YthimheckmpepdaaGreatDoorKU40
import Derived.Test.YthimheckmpepdaaGreatDoorKU11
import Derived.Test.YthimheckmpepdaaGreatDoorKU24
import Derived.Test.YthimheckmpepdaaGreatDoorKU04
import Derived.Test.YthimheckmpepdaaGreatDoorKU33
set_option linter.unusedVariables false
set_option linter.unusedSimpArgs false
set_option maxRecDepth 100000
namespace Go.Proofs.YthimheckmpepdaaGreatDoor
open Go.RowKit

set_option maxHeartbeats 4000000 in
theorem seRQ_key {w V : World} {T : List As} {b : Nat} {r : List Rw} (h : Has w (rtA b r :: T) V) (hz : Szs r) (key : ByteArray) (q : Int) (x : Rc) (A : Option Addr) (n c : Nat) (hx : ∀ W, Has w (rtA b r :: T) W → WtAt W A n x.l) (hn : n ≤ 9223372036854775807) (hk : isK key = false) :
    Calls Tryz.prog 28 #[pt b, .string key, .int .i64 q, rcv x (.slice A n c)] V fun e w' => e = .returned (.tuple #[.bool false, .int .i64 2]) ∧ Has w (rtA b r :: T) w' := by
  have h1 := (h.newBlk 64 (rcc x (.slice A n c))).swap
  have H1 := Lib.hid h1
  have HCH := Lib.hid (fun W => (refCheck key W))
  have HMR := Lib.hid (fun W (hW : Has w (rtA b r :: blkA V.heap.size 64 (rcc x (.slice A n c)) :: T) W) => rMayR_c x _ rfl A n c W (hx W (show Has w (blkA V.heap.size 64 (rcc x (.slice A n c)) :: rtA b r :: T) W from hW.swap).tail) hn)
  have b1 := h1.blkAt (g := V.heap.size) (t := 64) (cs := rcc x (.slice A n c)) (by simp)
  have p0 := b1.cell 0
  have p1 := b1.cell 1
  have p2 := b1.cell 2
  have p3 := b1.cell 3
  have p4 := b1.cell 4
  have p5 := b1.cell 5
  have p6 := b1.cell 6
  have p7 := b1.cell 7
  have p8 := b1.cell 8
  have p9 := b1.cell 9
  simp at p0 p1 p2 p3 p4 p5 p6 p7 p8 p9
  have HIN := Lib.hid (fun (hk : isK key = true) W (hW : Has w (rtA b r :: blkA V.heap.size 64 (rcc x (.slice A n c)) :: T) W) => rInt_c hW hz key hk)
  clear h h1 hz hx b1
  have hks : ¬ (1 ≤ key.size ∧ key.size ≤ 32) := fun e => by rw [isK_iff.2 e] at hk; cases hk
  rw [if_neg hks] at HCH
  clear HIN HMR hk hks
  go_enter Tryz.func28, Tryz.ntmps28
  go_wp2_with (first
      | (go_at_call 70; refine (HCH.out _).mono ?_; rintro e w1 ⟨rfl, rfl⟩)
      | fail)
  go_ret2
  exact ⟨rfl, (show Has w (blkA V.heap.size 64 (rcc x (.slice A n c)) :: rtA b r :: T) _ from H1.out.swap).tail⟩
set_option maxHeartbeats 4000000 in
theorem seRQ_lo {w V : World} {T : List As} {b : Nat} {r : List Rw} (h : Has w (rtA b r :: T) V) (hz : Szs r) (key : ByteArray) (q : Int) (x : Rc) (A : Option Addr) (n c : Nat) (hx : ∀ W, Has w (rtA b r :: T) W → WtAt W A n x.l) (hn : n ≤ 9223372036854775807) (hk : isK key = true) (hq : q < 1) :
    Calls Tryz.prog 28 #[pt b, .string key, .int .i64 q, rcv x (.slice A n c)] V fun e w' => e = .returned (.tuple #[.bool false, .int .i64 2]) ∧ Has w (rtA b r :: T) w' := by
  have h1 := (h.newBlk 64 (rcc x (.slice A n c))).swap
  have H1 := Lib.hid h1
  have HCH := Lib.hid (fun W => (refCheck key W))
  have HMR := Lib.hid (fun W (hW : Has w (rtA b r :: blkA V.heap.size 64 (rcc x (.slice A n c)) :: T) W) => rMayR_c x _ rfl A n c W (hx W (show Has w (blkA V.heap.size 64 (rcc x (.slice A n c)) :: rtA b r :: T) W from hW.swap).tail) hn)
  have b1 := h1.blkAt (g := V.heap.size) (t := 64) (cs := rcc x (.slice A n c)) (by simp)
  have p0 := b1.cell 0
  have p1 := b1.cell 1
  have p2 := b1.cell 2
  have p3 := b1.cell 3
  have p4 := b1.cell 4
  have p5 := b1.cell 5
  have p6 := b1.cell 6
  have p7 := b1.cell 7
  have p8 := b1.cell 8
  have p9 := b1.cell 9
  simp at p0 p1 p2 p3 p4 p5 p6 p7 p8 p9
  have HIN := Lib.hid (fun (hk : isK key = true) W (hW : Has w (rtA b r :: blkA V.heap.size 64 (rcc x (.slice A n c)) :: T) W) => rInt_c hW hz key hk)
  clear h h1 hz hx b1
  have hks := isK_iff.1 hk
  rw [if_pos hks] at HCH
  clear HIN HMR hk hks
  go_enter Tryz.func28, Tryz.ntmps28
  go_wp2_with (first
      | (go_at_call 70; refine (HCH.out _).mono ?_; rintro e w1 ⟨rfl, rfl⟩)
      | fail)
  go_ret2
  exact ⟨rfl, (show Has w (blkA V.heap.size 64 (rcc x (.slice A n c)) :: rtA b r :: T) _ from H1.out.swap).tail⟩
set_option maxHeartbeats 4000000 in
theorem seRQ_hi {w V : World} {T : List As} {b : Nat} {r : List Rw} (h : Has w (rtA b r :: T) V) (hz : Szs r) (key : ByteArray) (q : Int) (x : Rc) (A : Option Addr) (n c : Nat) (hx : ∀ W, Has w (rtA b r :: T) W → WtAt W A n x.l) (hn : n ≤ 9223372036854775807) (hk : isK key = true) (hq1 : ¬ q < 1) (hq : 9007199254740991 < q) :
    Calls Tryz.prog 28 #[pt b, .string key, .int .i64 q, rcv x (.slice A n c)] V fun e w' => e = .returned (.tuple #[.bool false, .int .i64 2]) ∧ Has w (rtA b r :: T) w' := by
  have h1 := (h.newBlk 64 (rcc x (.slice A n c))).swap
  have H1 := Lib.hid h1
  have HCH := Lib.hid (fun W => (refCheck key W))
  have HMR := Lib.hid (fun W (hW : Has w (rtA b r :: blkA V.heap.size 64 (rcc x (.slice A n c)) :: T) W) => rMayR_c x _ rfl A n c W (hx W (show Has w (blkA V.heap.size 64 (rcc x (.slice A n c)) :: rtA b r :: T) W from hW.swap).tail) hn)
  have b1 := h1.blkAt (g := V.heap.size) (t := 64) (cs := rcc x (.slice A n c)) (by simp)
  have p0 := b1.cell 0
  have p1 := b1.cell 1
  have p2 := b1.cell 2
  have p3 := b1.cell 3
  have p4 := b1.cell 4
  have p5 := b1.cell 5
  have p6 := b1.cell 6
  have p7 := b1.cell 7
  have p8 := b1.cell 8
  have p9 := b1.cell 9
  simp at p0 p1 p2 p3 p4 p5 p6 p7 p8 p9
  have HIN := Lib.hid (fun (hk : isK key = true) W (hW : Has w (rtA b r :: blkA V.heap.size 64 (rcc x (.slice A n c)) :: T) W) => rInt_c hW hz key hk)
  clear h h1 hz hx b1
  have hks := isK_iff.1 hk
  rw [if_pos hks] at HCH
  clear HIN HMR hk hks
  go_enter Tryz.func28, Tryz.ntmps28
  go_wp2_with (first
      | (go_at_call 70; refine (HCH.out _).mono ?_; rintro e w1 ⟨rfl, rfl⟩)
      | fail)
  go_ret2
  exact ⟨rfl, (show Has w (blkA V.heap.size 64 (rcc x (.slice A n c)) :: rtA b r :: T) _ from H1.out.swap).tail⟩
set_option maxHeartbeats 4000000 in
theorem seRQ_mr {w V : World} {T : List As} {b : Nat} {r : List Rw} (h : Has w (rtA b r :: T) V) (hz : Szs r) (key : ByteArray) (q : Int) (x : Rc) (A : Option Addr) (n c : Nat) (hx : ∀ W, Has w (rtA b r :: T) W → WtAt W A n x.l) (hn : n ≤ 9223372036854775807) (hk : isK key = true) (hq1 : ¬ q < 1) (hq2 : ¬ 9007199254740991 < q) (hm : mayR x = false) :
    Calls Tryz.prog 28 #[pt b, .string key, .int .i64 q, rcv x (.slice A n c)] V fun e w' => e = .returned (.tuple #[.bool false, .int .i64 2]) ∧ Has w (rtA b r :: T) w' := by
  have h1 := (h.newBlk 64 (rcc x (.slice A n c))).swap
  have H1 := Lib.hid h1
  have HCH := Lib.hid (fun W => (refCheck key W))
  have HMR := Lib.hid (fun W (hW : Has w (rtA b r :: blkA V.heap.size 64 (rcc x (.slice A n c)) :: T) W) => rMayR_c x _ rfl A n c W (hx W (show Has w (blkA V.heap.size 64 (rcc x (.slice A n c)) :: rtA b r :: T) W from hW.swap).tail) hn)
  have b1 := h1.blkAt (g := V.heap.size) (t := 64) (cs := rcc x (.slice A n c)) (by simp)
  have p0 := b1.cell 0
  have p1 := b1.cell 1
  have p2 := b1.cell 2
  have p3 := b1.cell 3
  have p4 := b1.cell 4
  have p5 := b1.cell 5
  have p6 := b1.cell 6
  have p7 := b1.cell 7
  have p8 := b1.cell 8
  have p9 := b1.cell 9
  simp at p0 p1 p2 p3 p4 p5 p6 p7 p8 p9
  have HIN := Lib.hid (fun (hk : isK key = true) W (hW : Has w (rtA b r :: blkA V.heap.size 64 (rcc x (.slice A n c)) :: T) W) => rInt_c hW hz key hk)
  clear h h1 hz hx b1
  have hks := isK_iff.1 hk
  rw [if_pos hks] at HCH
  rw [hm] at HMR
  clear HIN hk hks hm
  go_enter Tryz.func28, Tryz.ntmps28
  go_wp2_with (first
      | (go_at_call 70; refine (HCH.out _).mono ?_; rintro e w1 ⟨rfl, rfl⟩)
      | (go_at_call 71; refine (HMR.out _ H1.out).mono ?_; rintro e w2 ⟨rfl, hb2⟩
         have h2 := H1.out.keep hb2
         have b2 := h2.blkAt (g := V.heap.size) (t := 64) (cs := rcc x (.slice A n c)) (by simp)
         have p0 := b2.cell 0
         have p1 := b2.cell 1
         have p2 := b2.cell 2
         have p3 := b2.cell 3
         have p4 := b2.cell 4
         have p5 := b2.cell 5
         have p6 := b2.cell 6
         have p7 := b2.cell 7
         have p8 := b2.cell 8
         have p9 := b2.cell 9
         simp at p0 p1 p2 p3 p4 p5 p6 p7 p8 p9
         have H2 := Lib.hid h2
         clear hb2 h2 b2)
      | fail)
  go_ret2
  exact ⟨rfl, (show Has w (blkA V.heap.size 64 (rcc x (.slice A n c)) :: rtA b r :: T) _ from H2.out.swap).tail⟩
set_option maxHeartbeats 4000000 in
theorem seRQ_none {w V : World} {T : List As} {b : Nat} {r : List Rw} (h : Has w (rtA b r :: T) V) (hz : Szs r) (key : ByteArray) (q : Int) (x : Rc) (A : Option Addr) (n c : Nat) (hx : ∀ W, Has w (rtA b r :: T) W → WtAt W A n x.l) (hn : n ≤ 9223372036854775807) (hk : isK key = true) (hq1 : ¬ q < 1) (hq2 : ¬ 9007199254740991 < q) (hm : mayR x = true) (ho : pint r key = none) :
    Calls Tryz.prog 28 #[pt b, .string key, .int .i64 q, rcv x (.slice A n c)] V fun e w' => e = .returned (.tuple #[.bool false, .int .i64 0]) ∧ Has w (rtA b r :: T) w' := by
  have h1 := (h.newBlk 64 (rcc x (.slice A n c))).swap
  have H1 := Lib.hid h1
  have HCH := Lib.hid (fun W => (refCheck key W))
  have HMR := Lib.hid (fun W (hW : Has w (rtA b r :: blkA V.heap.size 64 (rcc x (.slice A n c)) :: T) W) => rMayR_c x _ rfl A n c W (hx W (show Has w (blkA V.heap.size 64 (rcc x (.slice A n c)) :: rtA b r :: T) W from hW.swap).tail) hn)
  have b1 := h1.blkAt (g := V.heap.size) (t := 64) (cs := rcc x (.slice A n c)) (by simp)
  have p0 := b1.cell 0
  have p1 := b1.cell 1
  have p2 := b1.cell 2
  have p3 := b1.cell 3
  have p4 := b1.cell 4
  have p5 := b1.cell 5
  have p6 := b1.cell 6
  have p7 := b1.cell 7
  have p8 := b1.cell 8
  have p9 := b1.cell 9
  simp at p0 p1 p2 p3 p4 p5 p6 p7 p8 p9
  have HIN := Lib.hid (fun (hk : isK key = true) W (hW : Has w (rtA b r :: blkA V.heap.size 64 (rcc x (.slice A n c)) :: T) W) => rInt_c hW hz key hk)
  clear h h1 hz hx b1
  have hks := isK_iff.1 hk
  rw [if_pos hks] at HCH
  have HI2 := Lib.hid (HIN.out hk)
  rw [ho] at HI2
  unfold AnsT at HI2
  simp only at HI2
  rw [hm] at HMR
  clear HIN hk hks hm
  clear ho
  go_enter Tryz.func28, Tryz.ntmps28
  go_wp2_with (first
      | (go_at_call 70; refine (HCH.out _).mono ?_; rintro e w1 ⟨rfl, rfl⟩)
      | (go_at_call 71; refine (HMR.out _ H1.out).mono ?_; rintro e w2 ⟨rfl, hb2⟩
         have h2 := H1.out.keep hb2
         have b2 := h2.blkAt (g := V.heap.size) (t := 64) (cs := rcc x (.slice A n c)) (by simp)
         have p0 := b2.cell 0
         have p1 := b2.cell 1
         have p2 := b2.cell 2
         have p3 := b2.cell 3
         have p4 := b2.cell 4
         have p5 := b2.cell 5
         have p6 := b2.cell 6
         have p7 := b2.cell 7
         have p8 := b2.cell 8
         have p9 := b2.cell 9
         simp at p0 p1 p2 p3 p4 p5 p6 p7 p8 p9
         have H2 := Lib.hid h2
         clear hb2 h2 b2)
      | (go_at_call 30; refine (HI2.out _ H2.out).mono ?_; rintro e w3 ⟨rfl, hb3⟩
         have h3 := H2.out.keep (bsa hb3 (.cells (itc zI (.slice none 0 0)) 38))
         have b3 := h3.blkAt (g := V.heap.size) (t := 64) (cs := rcc x (.slice A n c)) (by simp)
         have p0 := b3.cell 0
         have p1 := b3.cell 1
         have p2 := b3.cell 2
         have p3 := b3.cell 3
         have p4 := b3.cell 4
         have p5 := b3.cell 5
         have p6 := b3.cell 6
         have p7 := b3.cell 7
         have p8 := b3.cell 8
         have p9 := b3.cell 9
         simp at p0 p1 p2 p3 p4 p5 p6 p7 p8 p9
         have H3 := Lib.hid h3
         clear hb3 h3 b3)
      | fail)
  go_ret2
  exact ⟨rfl, (show Has w (blkA V.heap.size 64 (rcc x (.slice A n c)) :: rtA b r :: T) _ from H3.out.swap).tail⟩
set_option maxHeartbeats 4000000 in
theorem seRQ_id {w V : World} {T : List As} {b : Nat} {r : List Rw} (h : Has w (rtA b r :: T) V) (hz : Szs r) (key : ByteArray) (q : Int) (x : Rc) (A : Option Addr) (n c : Nat) (hx : ∀ W, Has w (rtA b r :: T) W → WtAt W A n x.l) (hn : n ≤ 9223372036854775807) (hk : isK key = true) (hq1 : ¬ q < 1) (hq2 : ¬ 9007199254740991 < q) (hm : mayR x = true) (y : It) (ho : pint r key = some y) (hid : ¬ y.id = x.id) :
    Calls Tryz.prog 28 #[pt b, .string key, .int .i64 q, rcv x (.slice A n c)] V fun e w' => e = .returned (.tuple #[.bool false, .int .i64 0]) ∧ Has w (rtA b r :: T) w' := by
  have h1 := (h.newBlk 64 (rcc x (.slice A n c))).swap
  have H1 := Lib.hid h1
  have HCH := Lib.hid (fun W => (refCheck key W))
  have HMR := Lib.hid (fun W (hW : Has w (rtA b r :: blkA V.heap.size 64 (rcc x (.slice A n c)) :: T) W) => rMayR_c x _ rfl A n c W (hx W (show Has w (blkA V.heap.size 64 (rcc x (.slice A n c)) :: rtA b r :: T) W from hW.swap).tail) hn)
  have b1 := h1.blkAt (g := V.heap.size) (t := 64) (cs := rcc x (.slice A n c)) (by simp)
  have p0 := b1.cell 0
  have p1 := b1.cell 1
  have p2 := b1.cell 2
  have p3 := b1.cell 3
  have p4 := b1.cell 4
  have p5 := b1.cell 5
  have p6 := b1.cell 6
  have p7 := b1.cell 7
  have p8 := b1.cell 8
  have p9 := b1.cell 9
  simp at p0 p1 p2 p3 p4 p5 p6 p7 p8 p9
  have HIN := Lib.hid (fun (hk : isK key = true) W (hW : Has w (rtA b r :: blkA V.heap.size 64 (rcc x (.slice A n c)) :: T) W) => rInt_c hW hz key hk)
  clear h h1 hz hx b1
  have hks := isK_iff.1 hk
  rw [if_pos hks] at HCH
  have HI2 := Lib.hid (HIN.out hk)
  rw [ho] at HI2
  unfold AnsT at HI2
  simp only at HI2
  rw [hm] at HMR
  clear HIN hk hks hm
  clear ho
  go_enter Tryz.func28, Tryz.ntmps28
  go_wp2_with (first
      | (go_at_call 70; refine (HCH.out _).mono ?_; rintro e w1 ⟨rfl, rfl⟩)
      | (go_at_call 71; refine (HMR.out _ H1.out).mono ?_; rintro e w2 ⟨rfl, hb2⟩
         have h2 := H1.out.keep hb2
         have b2 := h2.blkAt (g := V.heap.size) (t := 64) (cs := rcc x (.slice A n c)) (by simp)
         have p0 := b2.cell 0
         have p1 := b2.cell 1
         have p2 := b2.cell 2
         have p3 := b2.cell 3
         have p4 := b2.cell 4
         have p5 := b2.cell 5
         have p6 := b2.cell 6
         have p7 := b2.cell 7
         have p8 := b2.cell 8
         have p9 := b2.cell 9
         simp at p0 p1 p2 p3 p4 p5 p6 p7 p8 p9
         have H2 := Lib.hid h2
         clear hb2 h2 b2)
      | (go_at_call 30; refine (HI2.out _ H2.out).mono ?_; rintro e w3 ⟨⟨A2, n2, c2, rfl, hat, hn2⟩, hb3⟩
         have h3 := H2.out.keep (bsa hb3 (.cells (itc y (.slice A2 n2 c2)) 38))
         have b3 := h3.blkAt (g := V.heap.size) (t := 64) (cs := rcc x (.slice A n c)) (by simp)
         have p0 := b3.cell 0
         have p1 := b3.cell 1
         have p2 := b3.cell 2
         have p3 := b3.cell 3
         have p4 := b3.cell 4
         have p5 := b3.cell 5
         have p6 := b3.cell 6
         have p7 := b3.cell 7
         have p8 := b3.cell 8
         have p9 := b3.cell 9
         simp at p0 p1 p2 p3 p4 p5 p6 p7 p8 p9
         have HA3 := Lib.hid (hat.below (nbl w3 (.cells (itc y (.slice A2 n2 c2)) 38)))
         have kI := Lib.hid (Blk.new w3 38 (itc y (.slice A2 n2 c2)))
         clear hat
         have H3 := Lib.hid h3
         clear hb3 h3 b3)
      | fail)
  go_ret2
  exact ⟨rfl, (show Has w (blkA V.heap.size 64 (rcc x (.slice A n c)) :: rtA b r :: T) _ from H3.out.swap).tail⟩
set_option maxHeartbeats 4000000 in
theorem seRQ_ep {w V : World} {T : List As} {b : Nat} {r : List Rw} (h : Has w (rtA b r :: T) V) (hz : Szs r) (key : ByteArray) (q : Int) (x : Rc) (A : Option Addr) (n c : Nat) (hx : ∀ W, Has w (rtA b r :: T) W → WtAt W A n x.l) (hn : n ≤ 9223372036854775807) (hk : isK key = true) (hq1 : ¬ q < 1) (hq2 : ¬ 9007199254740991 < q) (hm : mayR x = true) (y : It) (ho : pint r key = some y) (hid : (y.id == x.id) = true) (hep : ¬ y.ep = x.ep) :
    Calls Tryz.prog 28 #[pt b, .string key, .int .i64 q, rcv x (.slice A n c)] V fun e w' => e = .returned (.tuple #[.bool false, .int .i64 0]) ∧ Has w (rtA b r :: T) w' := by
  have h1 := (h.newBlk 64 (rcc x (.slice A n c))).swap
  have H1 := Lib.hid h1
  have HCH := Lib.hid (fun W => (refCheck key W))
  have HMR := Lib.hid (fun W (hW : Has w (rtA b r :: blkA V.heap.size 64 (rcc x (.slice A n c)) :: T) W) => rMayR_c x _ rfl A n c W (hx W (show Has w (blkA V.heap.size 64 (rcc x (.slice A n c)) :: rtA b r :: T) W from hW.swap).tail) hn)
  have b1 := h1.blkAt (g := V.heap.size) (t := 64) (cs := rcc x (.slice A n c)) (by simp)
  have p0 := b1.cell 0
  have p1 := b1.cell 1
  have p2 := b1.cell 2
  have p3 := b1.cell 3
  have p4 := b1.cell 4
  have p5 := b1.cell 5
  have p6 := b1.cell 6
  have p7 := b1.cell 7
  have p8 := b1.cell 8
  have p9 := b1.cell 9
  simp at p0 p1 p2 p3 p4 p5 p6 p7 p8 p9
  have HIN := Lib.hid (fun (hk : isK key = true) W (hW : Has w (rtA b r :: blkA V.heap.size 64 (rcc x (.slice A n c)) :: T) W) => rInt_c hW hz key hk)
  clear h h1 hz hx b1
  have hks := isK_iff.1 hk
  rw [if_pos hks] at HCH
  have HI2 := Lib.hid (HIN.out hk)
  rw [ho] at HI2
  unfold AnsT at HI2
  simp only at HI2
  rw [hm] at HMR
  clear HIN hk hks hm
  clear ho
  obtain ⟨y0, y1, y2, y3, y4, y5, y6, y7, y8⟩ := y
  simp only at hid hep
  have hid2 : y0 = x.id := by simpa using hid
  subst hid2
  clear hid
  go_enter Tryz.func28, Tryz.ntmps28
  go_wp2_with (first
      | (go_at_call 70; refine (HCH.out _).mono ?_; rintro e w1 ⟨rfl, rfl⟩)
      | (go_at_call 71; refine (HMR.out _ H1.out).mono ?_; rintro e w2 ⟨rfl, hb2⟩
         have h2 := H1.out.keep hb2
         have b2 := h2.blkAt (g := V.heap.size) (t := 64) (cs := rcc x (.slice A n c)) (by simp)
         have p0 := b2.cell 0
         have p1 := b2.cell 1
         have p2 := b2.cell 2
         have p3 := b2.cell 3
         have p4 := b2.cell 4
         have p5 := b2.cell 5
         have p6 := b2.cell 6
         have p7 := b2.cell 7
         have p8 := b2.cell 8
         have p9 := b2.cell 9
         simp at p0 p1 p2 p3 p4 p5 p6 p7 p8 p9
         have H2 := Lib.hid h2
         clear hb2 h2 b2)
      | (go_at_call 30; refine (HI2.out _ H2.out).mono ?_; rintro e w3 ⟨⟨A2, n2, c2, rfl, hat, hn2⟩, hb3⟩
         have h3 := H2.out.keep (bsa hb3 (.cells (itc ⟨x.id, y1, y2, y3, y4, y5, y6, y7, y8⟩ (.slice A2 n2 c2)) 38))
         have b3 := h3.blkAt (g := V.heap.size) (t := 64) (cs := rcc x (.slice A n c)) (by simp)
         have p0 := b3.cell 0
         have p1 := b3.cell 1
         have p2 := b3.cell 2
         have p3 := b3.cell 3
         have p4 := b3.cell 4
         have p5 := b3.cell 5
         have p6 := b3.cell 6
         have p7 := b3.cell 7
         have p8 := b3.cell 8
         have p9 := b3.cell 9
         simp at p0 p1 p2 p3 p4 p5 p6 p7 p8 p9
         have HA3 := Lib.hid (hat.below (nbl w3 (.cells (itc ⟨x.id, y1, y2, y3, y4, y5, y6, y7, y8⟩ (.slice A2 n2 c2)) 38)))
         have kI := Lib.hid (Blk.new w3 38 (itc ⟨x.id, y1, y2, y3, y4, y5, y6, y7, y8⟩ (.slice A2 n2 c2)))
         clear hat
         have H3 := Lib.hid h3
         clear hb3 h3 b3)
      | fail)
  go_ret2
  exact ⟨rfl, (show Has w (blkA V.heap.size 64 (rcc x (.slice A n c)) :: rtA b r :: T) _ from H3.out.swap).tail⟩
set_option maxHeartbeats 4000000 in
theorem seRQ_lt {w V : World} {T : List As} {b : Nat} {r : List Rw} (h : Has w (rtA b r :: T) V) (hz : Szs r) (key : ByteArray) (q : Int) (x : Rc) (A : Option Addr) (n c : Nat) (hx : ∀ W, Has w (rtA b r :: T) W → WtAt W A n x.l) (hn : n ≤ 9223372036854775807) (hk : isK key = true) (hq1 : ¬ q < 1) (hq2 : ¬ 9007199254740991 < q) (hm : mayR x = true) (y : It) (ho : pint r key = some y) (hid : (y.id == x.id) = true) (hep : (y.ep == x.ep) = true) (hlt : lt (x.sw, x.sl) (y.sw, y.sl) = true) :
    Calls Tryz.prog 28 #[pt b, .string key, .int .i64 q, rcv x (.slice A n c)] V fun e w' => e = .returned (.tuple #[.bool false, .int .i64 0]) ∧ Has w (rtA b r :: T) w' := by
  have h1 := (h.newBlk 64 (rcc x (.slice A n c))).swap
  have H1 := Lib.hid h1
  have HCH := Lib.hid (fun W => (refCheck key W))
  have HMR := Lib.hid (fun W (hW : Has w (rtA b r :: blkA V.heap.size 64 (rcc x (.slice A n c)) :: T) W) => rMayR_c x _ rfl A n c W (hx W (show Has w (blkA V.heap.size 64 (rcc x (.slice A n c)) :: rtA b r :: T) W from hW.swap).tail) hn)
  have b1 := h1.blkAt (g := V.heap.size) (t := 64) (cs := rcc x (.slice A n c)) (by simp)
  have p0 := b1.cell 0
  have p1 := b1.cell 1
  have p2 := b1.cell 2
  have p3 := b1.cell 3
  have p4 := b1.cell 4
  have p5 := b1.cell 5
  have p6 := b1.cell 6
  have p7 := b1.cell 7
  have p8 := b1.cell 8
  have p9 := b1.cell 9
  simp at p0 p1 p2 p3 p4 p5 p6 p7 p8 p9
  have HIN := Lib.hid (fun (hk : isK key = true) W (hW : Has w (rtA b r :: blkA V.heap.size 64 (rcc x (.slice A n c)) :: T) W) => rInt_c hW hz key hk)
  clear h h1 hz hx b1
  have hks := isK_iff.1 hk
  rw [if_pos hks] at HCH
  have HI2 := Lib.hid (HIN.out hk)
  rw [ho] at HI2
  unfold AnsT at HI2
  simp only at HI2
  rw [hm] at HMR
  clear HIN hk hks hm
  have HLS := Lib.hid (refLess5 x.sw x.sl y.sw y.sl)
  rw [hlt] at HLS
  obtain ⟨y0, y1, y2, y3, y4, y5, y6, y7, y8⟩ := y
  simp only at hid hep HLS
  have hid2 : y0 = x.id := by simpa using hid
  have hep2 : y1 = x.ep := by simpa using hep
  subst hid2 hep2
  clear hid hep hlt ho
  go_enter Tryz.func28, Tryz.ntmps28
  go_wp2_with (first
      | (go_at_call 70; refine (HCH.out _).mono ?_; rintro e w1 ⟨rfl, rfl⟩)
      | (go_at_call 71; refine (HMR.out _ H1.out).mono ?_; rintro e w2 ⟨rfl, hb2⟩
         have h2 := H1.out.keep hb2
         have b2 := h2.blkAt (g := V.heap.size) (t := 64) (cs := rcc x (.slice A n c)) (by simp)
         have p0 := b2.cell 0
         have p1 := b2.cell 1
         have p2 := b2.cell 2
         have p3 := b2.cell 3
         have p4 := b2.cell 4
         have p5 := b2.cell 5
         have p6 := b2.cell 6
         have p7 := b2.cell 7
         have p8 := b2.cell 8
         have p9 := b2.cell 9
         simp at p0 p1 p2 p3 p4 p5 p6 p7 p8 p9
         have H2 := Lib.hid h2
         clear hb2 h2 b2)
      | (go_at_call 30; refine (HI2.out _ H2.out).mono ?_; rintro e w3 ⟨⟨A2, n2, c2, rfl, hat, hn2⟩, hb3⟩
         have h3 := H2.out.keep (bsa hb3 (.cells (itc ⟨x.id, x.ep, y2, y3, y4, y5, y6, y7, y8⟩ (.slice A2 n2 c2)) 38))
         have b3 := h3.blkAt (g := V.heap.size) (t := 64) (cs := rcc x (.slice A n c)) (by simp)
         have p0 := b3.cell 0
         have p1 := b3.cell 1
         have p2 := b3.cell 2
         have p3 := b3.cell 3
         have p4 := b3.cell 4
         have p5 := b3.cell 5
         have p6 := b3.cell 6
         have p7 := b3.cell 7
         have p8 := b3.cell 8
         have p9 := b3.cell 9
         simp at p0 p1 p2 p3 p4 p5 p6 p7 p8 p9
         have HA3 := Lib.hid (hat.below (nbl w3 (.cells (itc ⟨x.id, x.ep, y2, y3, y4, y5, y6, y7, y8⟩ (.slice A2 n2 c2)) 38)))
         have kI := Lib.hid (Blk.new w3 38 (itc ⟨x.id, x.ep, y2, y3, y4, y5, y6, y7, y8⟩ (.slice A2 n2 c2)))
         clear hat
         have H3 := Lib.hid h3
         clear hb3 h3 b3)
      | (go_at_call 72; refine (HLS.out _).mono ?_; rintro e w4 ⟨rfl, hb4⟩
         have H4 := Lib.hid (H3.out.keep hb4)
         have HA4 := Lib.hid (HA3.out.below hb4)
         have k4 := kI.out.below hb4 kI.out.lt
         have i8 := k4.cell 8
         simp at i8
         clear hb4 k4)
      | fail)
  go_ret2
  exact ⟨rfl, (show Has w (blkA V.heap.size 64 (rcc x (.slice A n c)) :: rtA b r :: T) _ from H4.out.swap).tail⟩
set_option maxHeartbeats 4000000 in
theorem seRQ_ok {w V : World} {T : List As} {b : Nat} {r : List Rw} (h : Has w (rtA b r :: T) V) (hz : Szs r) (key : ByteArray) (q : Int) (x : Rc) (A : Option Addr) (n c : Nat) (hx : ∀ W, Has w (rtA b r :: T) W → WtAt W A n x.l) (hn : n ≤ 9223372036854775807) (hk : isK key = true) (hq1 : ¬ q < 1) (hq2 : ¬ 9007199254740991 < q) (hm : mayR x = true) (y : It) (ho : pint r key = some y) (hid : (y.id == x.id) = true) (hep : (y.ep == x.ep) = true) (hlt : lt (x.sw, x.sl) (y.sw, y.sl) = false) (hb : Bool) (hhb : hasQ y.l q = hb) :
    Calls Tryz.prog 28 #[pt b, .string key, .int .i64 q, rcv x (.slice A n c)] V fun e w' => e = .returned (.tuple #[.bool hb, .int .i64 0]) ∧ Has w (rtA b r :: T) w' := by
  have h1 := (h.newBlk 64 (rcc x (.slice A n c))).swap
  have H1 := Lib.hid h1
  have HCH := Lib.hid (fun W => (refCheck key W))
  have HMR := Lib.hid (fun W (hW : Has w (rtA b r :: blkA V.heap.size 64 (rcc x (.slice A n c)) :: T) W) => rMayR_c x _ rfl A n c W (hx W (show Has w (blkA V.heap.size 64 (rcc x (.slice A n c)) :: rtA b r :: T) W from hW.swap).tail) hn)
  have b1 := h1.blkAt (g := V.heap.size) (t := 64) (cs := rcc x (.slice A n c)) (by simp)
  have p0 := b1.cell 0
  have p1 := b1.cell 1
  have p2 := b1.cell 2
  have p3 := b1.cell 3
  have p4 := b1.cell 4
  have p5 := b1.cell 5
  have p6 := b1.cell 6
  have p7 := b1.cell 7
  have p8 := b1.cell 8
  have p9 := b1.cell 9
  simp at p0 p1 p2 p3 p4 p5 p6 p7 p8 p9
  have HIN := Lib.hid (fun (hk : isK key = true) W (hW : Has w (rtA b r :: blkA V.heap.size 64 (rcc x (.slice A n c)) :: T) W) => rInt_c hW hz key hk)
  clear h h1 hz hx b1
  have hks := isK_iff.1 hk
  rw [if_pos hks] at HCH
  have HI2 := Lib.hid (HIN.out hk)
  rw [ho] at HI2
  unfold AnsT at HI2
  simp only at HI2
  rw [hm] at HMR
  clear HIN hk hks hm
  have HLS := Lib.hid (refLess5 x.sw x.sl y.sw y.sl)
  rw [hlt] at HLS
  obtain ⟨y0, y1, y2, y3, y4, y5, y6, y7, y8⟩ := y
  simp only at hid hep HLS
  have hid2 : y0 = x.id := by simpa using hid
  have hep2 : y1 = x.ep := by simpa using hep
  subst hid2 hep2
  clear hid hep hlt ho
  have hhb2 : hasQ y8 q = hb := hhb
  clear hhb
  go_enter Tryz.func28, Tryz.ntmps28
  go_wp2_with (first
      | (go_at_call 70; refine (HCH.out _).mono ?_; rintro e w1 ⟨rfl, rfl⟩)
      | (go_at_call 71; refine (HMR.out _ H1.out).mono ?_; rintro e w2 ⟨rfl, hb2⟩
         have h2 := H1.out.keep hb2
         have b2 := h2.blkAt (g := V.heap.size) (t := 64) (cs := rcc x (.slice A n c)) (by simp)
         have p0 := b2.cell 0
         have p1 := b2.cell 1
         have p2 := b2.cell 2
         have p3 := b2.cell 3
         have p4 := b2.cell 4
         have p5 := b2.cell 5
         have p6 := b2.cell 6
         have p7 := b2.cell 7
         have p8 := b2.cell 8
         have p9 := b2.cell 9
         simp at p0 p1 p2 p3 p4 p5 p6 p7 p8 p9
         have H2 := Lib.hid h2
         clear hb2 h2 b2)
      | (go_at_call 30; refine (HI2.out _ H2.out).mono ?_; rintro e w3 ⟨⟨A2, n2, c2, rfl, hat, hn2⟩, hb3⟩
         have h3 := H2.out.keep (bsa hb3 (.cells (itc ⟨x.id, x.ep, y2, y3, y4, y5, y6, y7, y8⟩ (.slice A2 n2 c2)) 38))
         have b3 := h3.blkAt (g := V.heap.size) (t := 64) (cs := rcc x (.slice A n c)) (by simp)
         have p0 := b3.cell 0
         have p1 := b3.cell 1
         have p2 := b3.cell 2
         have p3 := b3.cell 3
         have p4 := b3.cell 4
         have p5 := b3.cell 5
         have p6 := b3.cell 6
         have p7 := b3.cell 7
         have p8 := b3.cell 8
         have p9 := b3.cell 9
         simp at p0 p1 p2 p3 p4 p5 p6 p7 p8 p9
         have HA3 := Lib.hid (hat.below (nbl w3 (.cells (itc ⟨x.id, x.ep, y2, y3, y4, y5, y6, y7, y8⟩ (.slice A2 n2 c2)) 38)))
         have kI := Lib.hid (Blk.new w3 38 (itc ⟨x.id, x.ep, y2, y3, y4, y5, y6, y7, y8⟩ (.slice A2 n2 c2)))
         clear hat
         have H3 := Lib.hid h3
         clear hb3 h3 b3)
      | (go_at_call 72; refine (HLS.out _).mono ?_; rintro e w4 ⟨rfl, hb4⟩
         have H4 := Lib.hid (H3.out.keep hb4)
         have HA4 := Lib.hid (HA3.out.below hb4)
         have k4 := kI.out.below hb4 kI.out.lt
         have i8 := k4.cell 8
         simp at i8
         clear hb4 k4)
      | fail)
  have HHB := Lib.hid hhb2
  have HL4 := Lib.hid HA4.out.1
  clear hhb2
  go_loopw [12] (fun i wr => ∃ (k : Nat), k ≤ n2 ∧ i = .int .i64 k ∧ Hid (∀ z ∈ y8.take k, ¬ z.q = q) ∧ wr = w4) (fun i _ => n2 - (intOf i).toNat)
  case atStart => exact ⟨0, Nat.zero_le _, rfl, Lib.hid (fun y hy => (nomatch hy)), rfl⟩
  case round =>
    obtain ⟨k, hk, rfl, HNO, rfl⟩ := hrel
    by_cases hlt : k < n2
    · have hkl : k < y8.length := by rw [HL4.out]; exact hlt
      obtain ⟨b2, o2, rfl, hc⟩ := HA4.out.2 (by omega)
      obtain ⟨c1, c2', c3⟩ := hc k hkl
      have HTK := Lib.hid (List.take_succ_eq_append_getElem hkl)
      have HFD := Lib.hid (fun (hy : (y8[k]'hkl).q = q) => hasQ_at hkl hy)
      obtain ⟨z, hz⟩ : ∃ z, y8[k]'hkl = z := ⟨_, rfl⟩
      rw [hz] at c1 c2' c3 HFD
      have HZ := Lib.hid hz
      clear hc hz
      by_cases hq : z.q = q
      · have HF := Lib.hid ((HHB.out.symm.trans (HFD.out hq)))
        obtain ⟨zq, zs, zd⟩ := z
        simp only at hq c1 c2' c3
        subst hq
        clear HFD HTK HZ
        go_wp2
        go_ret2
        have hF := HF.out
        subst hF
        exact ⟨rfl, (show Has w (blkA V.heap.size 64 (rcc x (.slice A n c)) :: rtA b r :: T) _ from H4.out.swap).tail⟩
      · have HN2 := Lib.hid (show ∀ u ∈ y8.take (k + 1), ¬ u.q = q from fun u hu => by
          rw [HTK.out] at hu
          rcases List.mem_append.1 hu with h | h
          · exact HNO.out u h
          · rw [List.mem_singleton.1 h, HZ.out]; exact hq)
        clear HFD HTK HNO HZ
        go_wp2
        go_roundw
        case rel => exact ⟨k + 1, by omega, by go_num, HN2, by trivial⟩
        case measure => simp [intOf]; omega
    · have HF := Lib.hid (show hb = false from HHB.out.symm.trans (hasQ_no (fun y hy => HNO.out y (by rw [List.take_of_length_le (by have := HL4.out; omega)]; exact hy))))
      clear HNO
      go_wp2
      go_ret2
      have hF := HF.out
      subst hF
      exact ⟨rfl, (show Has w (blkA V.heap.size 64 (rcc x (.slice A n c)) :: rtA b r :: T) _ from H4.out.swap).tail⟩
theorem seRQuery {w V : World} {T : List As} {b : Nat} {r : List Rw} (h : Has w (rtA b r :: T) V) (hz : Szs r) (key : ByteArray) (q : Int) (x : Rc) (A : Option Addr) (n c : Nat) (hx : ∀ W, Has w (rtA b r :: T) W → WtAt W A n x.l) (hn : n ≤ 9223372036854775807) :
    Calls Tryz.prog 28 #[pt b, .string key, .int .i64 q, rcv x (.slice A n c)] V fun e w' => e = .returned (.tuple #[.bool (qryC r key q x).1, .int .i64 (qryC r key q x).2]) ∧ Has w (rtA b r :: T) w' := by
  unfold qryC
  cases hk : isK key with
  | false =>
    rw [if_neg (fun e => by have := (chkS_ok e.1).1; rw [hk] at this; cases this)]
    exact seRQ_key h hz key q x A n c hx hn hk
  | true =>
    by_cases hq1 : q < 1
    · rw [if_neg (by omega)]
      exact seRQ_lo h hz key q x A n c hx hn hk hq1
    · by_cases hq2 : 9007199254740991 < q
      · rw [if_neg (by omega)]
        exact seRQ_hi h hz key q x A n c hx hn hk hq1 hq2
      · cases hm : mayR x with
        | false =>
          rw [if_neg (fun e => by have := (chkS_ok e.1).2; rw [hm] at this; cases this)]
          exact seRQ_mr h hz key q x A n c hx hn hk hq1 hq2 hm
        | true =>
          rw [if_pos ⟨by unfold chkS; rw [if_pos ⟨hk, hm⟩], by omega, by omega⟩]
          unfold qryO ownI
          cases ho : pint r key with
          | none => exact seRQ_none h hz key q x A n c hx hn hk hq1 hq2 hm ho
          | some y =>
            simp only
            by_cases hid : y.id = x.id
            · rw [if_pos hid]
              simp only
              have hid2 : (y.id == x.id) = true := by simpa using hid
              unfold counts
              by_cases hep : y.ep = x.ep
              · rw [decide_eq_true hep]
                have hep2 : (y.ep == x.ep) = true := by simpa using hep
                cases hlt : lt (x.sw, x.sl) (y.sw, y.sl) with
                | true => exact seRQ_lt h hz key q x A n c hx hn hk hq1 hq2 hm y ho hid2 hep2 hlt
                | false =>
                  simp only [Bool.not_false, Bool.true_and]
                  exact seRQ_ok h hz key q x A n c hx hn hk hq1 hq2 hm y ho hid2 hep2 hlt _ rfl
              · rw [decide_eq_false hep]
                simp only [Bool.false_and]
                exact seRQ_ep h hz key q x A n c hx hn hk hq1 hq2 hm y ho hid2 hep
            · rw [if_neg hid]
              exact seRQ_id h hz key q x A n c hx hn hk hq1 hq2 hm y ho hid
end Go.Proofs.YthimheckmpepdaaGreatDoor
