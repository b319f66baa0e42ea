/-
  Layer 14, the document's answer: Resolve, refused (written by wip/genrr.py).
-/
import Derived.Test.YthimheckmpepdaaGreatDoorKU32
import Derived.Test.YthimheckmpepdaaGreatDoorKU39
import Derived.Test.YthimheckmpepdaaGreatDoorKU40
import Derived.Test.YthimheckmpepdaaGreatDoorKU11
import Derived.Test.YthimheckmpepdaaGreatDoorKU24
import Derived.Test.YthimheckmpepdaaGreatDoorKU04
import Derived.Test.YthimheckmpepdaaGreatDoorKU33
import Derived.Test.YthimheckmpepdaaGreatDoorKU31
set_option linter.unusedVariables false
set_option linter.unusedSimpArgs false
set_option maxRecDepth 100000
namespace Go.Proofs.YthimheckmpepdaaGreatDoor
open Go.RowKit

set_option maxHeartbeats 4000000 in
theorem seRR_key {w V : World} {T : List As} {b : Nat} {r : List Rw} (h : Has w (rtA b r :: T) V) (hz : Szs r) (key : ByteArray) (x : Rc) (A : Option Addr) (n c : Nat) (hx : ∀ W, Has w (rtA b r :: T) W → WtAt W A n x.l) (hn : n ≤ 9223372036854775807) (hk : isK key = false) :
    Calls Tryz.prog 21 #[pt b, .string key, rcv x (.slice A n c)] V fun e w' => AnsRes ([], 2) w (rtA b r :: T) e w' := by
  have h1 := (h.newBlk 64 (rcc x (.slice A n c))).swap
  have H1 := Lib.hid h1
  have HCH := Lib.hid (fun W => (refCheck key W))
  have HMR := Lib.hid (fun W (hW : Has w (rtA b r :: blkA V.heap.size 64 (rcc x (.slice A n c)) :: T) W) => rMayR_c x _ rfl A n c W (hx W (show Has w (blkA V.heap.size 64 (rcc x (.slice A n c)) :: rtA b r :: T) W from hW.swap).tail) hn)
  have b1 := h1.blkAt (g := V.heap.size) (t := 64) (cs := rcc x (.slice A n c)) (by simp)
  have p0 := b1.cell 0
  have p1 := b1.cell 1
  have p2 := b1.cell 2
  have p3 := b1.cell 3
  have p4 := b1.cell 4
  have p5 := b1.cell 5
  have p6 := b1.cell 6
  have p7 := b1.cell 7
  have p8 := b1.cell 8
  have p9 := b1.cell 9
  simp at p0 p1 p2 p3 p4 p5 p6 p7 p8 p9
  have HIN := Lib.hid (fun (hk : isK key = true) W (hW : Has w (rtA b r :: blkA V.heap.size 64 (rcc x (.slice A n c)) :: T) W) => rInt_c hW hz key hk)
  clear h h1 hz hx b1
  have hks : ¬ (1 ≤ key.size ∧ key.size ≤ 32) := fun e => by rw [isK_iff.2 e] at hk; cases hk
  rw [if_neg hks] at HCH
  clear HIN HMR hk hks
  go_enter Tryz.func21, Tryz.ntmps21
  go_wp2_with (first
      | (go_at_call 70; refine (HCH.out _).mono ?_; rintro e w1 ⟨rfl, rfl⟩)
      | fail)
  go_ret2
  exact ⟨_, _, _, rfl, rfl, ((show Has w (blkA V.heap.size 64 (rcc x (.slice A n c)) :: rtA b r :: T) _ from H1.out.swap).tail).newOp (World.ownsRow_nil _ _ _ _) (Below.refl _ _)⟩
set_option maxHeartbeats 4000000 in
theorem seRR_mr {w V : World} {T : List As} {b : Nat} {r : List Rw} (h : Has w (rtA b r :: T) V) (hz : Szs r) (key : ByteArray) (x : Rc) (A : Option Addr) (n c : Nat) (hx : ∀ W, Has w (rtA b r :: T) W → WtAt W A n x.l) (hn : n ≤ 9223372036854775807) (hk : isK key = true) (hm : mayR x = false) :
    Calls Tryz.prog 21 #[pt b, .string key, rcv x (.slice A n c)] V fun e w' => AnsRes ([], 2) w (rtA b r :: T) e w' := by
  have h1 := (h.newBlk 64 (rcc x (.slice A n c))).swap
  have H1 := Lib.hid h1
  have HCH := Lib.hid (fun W => (refCheck key W))
  have HMR := Lib.hid (fun W (hW : Has w (rtA b r :: blkA V.heap.size 64 (rcc x (.slice A n c)) :: T) W) => rMayR_c x _ rfl A n c W (hx W (show Has w (blkA V.heap.size 64 (rcc x (.slice A n c)) :: rtA b r :: T) W from hW.swap).tail) hn)
  have b1 := h1.blkAt (g := V.heap.size) (t := 64) (cs := rcc x (.slice A n c)) (by simp)
  have p0 := b1.cell 0
  have p1 := b1.cell 1
  have p2 := b1.cell 2
  have p3 := b1.cell 3
  have p4 := b1.cell 4
  have p5 := b1.cell 5
  have p6 := b1.cell 6
  have p7 := b1.cell 7
  have p8 := b1.cell 8
  have p9 := b1.cell 9
  simp at p0 p1 p2 p3 p4 p5 p6 p7 p8 p9
  have HIN := Lib.hid (fun (hk : isK key = true) W (hW : Has w (rtA b r :: blkA V.heap.size 64 (rcc x (.slice A n c)) :: T) W) => rInt_c hW hz key hk)
  clear h h1 hz hx b1
  have hks := isK_iff.1 hk
  rw [if_pos hks] at HCH
  rw [hm] at HMR
  clear HIN hk hks hm
  go_enter Tryz.func21, Tryz.ntmps21
  go_wp2_with (first
      | (go_at_call 70; refine (HCH.out _).mono ?_; rintro e w1 ⟨rfl, rfl⟩)
      | (go_at_call 71; refine (HMR.out _ H1.out).mono ?_; rintro e w2 ⟨rfl, hb2⟩
         have h2 := H1.out.keep hb2
         have b2 := h2.blkAt (g := V.heap.size) (t := 64) (cs := rcc x (.slice A n c)) (by simp)
         have p0 := b2.cell 0
         have p1 := b2.cell 1
         have p2 := b2.cell 2
         have p3 := b2.cell 3
         have p4 := b2.cell 4
         have p5 := b2.cell 5
         have p6 := b2.cell 6
         have p7 := b2.cell 7
         have p8 := b2.cell 8
         have p9 := b2.cell 9
         simp at p0 p1 p2 p3 p4 p5 p6 p7 p8 p9
         have H2 := Lib.hid h2
         clear hb2 h2 b2)
      | fail)
  go_ret2
  exact ⟨_, _, _, rfl, rfl, ((show Has w (blkA V.heap.size 64 (rcc x (.slice A n c)) :: rtA b r :: T) _ from H2.out.swap).tail).newOp (World.ownsRow_nil _ _ _ _) (Below.refl _ _)⟩
set_option maxHeartbeats 4000000 in
theorem seRR_none {w V : World} {T : List As} {b : Nat} {r : List Rw} (h : Has w (rtA b r :: T) V) (hz : Szs r) (key : ByteArray) (x : Rc) (A : Option Addr) (n c : Nat) (hx : ∀ W, Has w (rtA b r :: T) W → WtAt W A n x.l) (hn : n ≤ 9223372036854775807) (hk : isK key = true) (hm : mayR x = true) (ho : pint r key = none) :
    Calls Tryz.prog 21 #[pt b, .string key, rcv x (.slice A n c)] V fun e w' => AnsRes ([], 0) w (rtA b r :: T) e w' := by
  have h1 := (h.newBlk 64 (rcc x (.slice A n c))).swap
  have H1 := Lib.hid h1
  have HCH := Lib.hid (fun W => (refCheck key W))
  have HMR := Lib.hid (fun W (hW : Has w (rtA b r :: blkA V.heap.size 64 (rcc x (.slice A n c)) :: T) W) => rMayR_c x _ rfl A n c W (hx W (show Has w (blkA V.heap.size 64 (rcc x (.slice A n c)) :: rtA b r :: T) W from hW.swap).tail) hn)
  have b1 := h1.blkAt (g := V.heap.size) (t := 64) (cs := rcc x (.slice A n c)) (by simp)
  have p0 := b1.cell 0
  have p1 := b1.cell 1
  have p2 := b1.cell 2
  have p3 := b1.cell 3
  have p4 := b1.cell 4
  have p5 := b1.cell 5
  have p6 := b1.cell 6
  have p7 := b1.cell 7
  have p8 := b1.cell 8
  have p9 := b1.cell 9
  simp at p0 p1 p2 p3 p4 p5 p6 p7 p8 p9
  have HIN := Lib.hid (fun (hk : isK key = true) W (hW : Has w (rtA b r :: blkA V.heap.size 64 (rcc x (.slice A n c)) :: T) W) => rInt_c hW hz key hk)
  clear h h1 hz hx b1
  have hks := isK_iff.1 hk
  rw [if_pos hks] at HCH
  have HI2 := Lib.hid (HIN.out hk)
  rw [ho] at HI2
  unfold AnsT at HI2
  simp only at HI2
  rw [hm] at HMR
  clear HIN hks hm ho
  go_enter Tryz.func21, Tryz.ntmps21
  go_wp2_with (first
      | (go_at_call 70; refine (HCH.out _).mono ?_; rintro e w1 ⟨rfl, rfl⟩)
      | (go_at_call 71; refine (HMR.out _ H1.out).mono ?_; rintro e w2 ⟨rfl, hb2⟩
         have h2 := H1.out.keep hb2
         have b2 := h2.blkAt (g := V.heap.size) (t := 64) (cs := rcc x (.slice A n c)) (by simp)
         have p0 := b2.cell 0
         have p1 := b2.cell 1
         have p2 := b2.cell 2
         have p3 := b2.cell 3
         have p4 := b2.cell 4
         have p5 := b2.cell 5
         have p6 := b2.cell 6
         have p7 := b2.cell 7
         have p8 := b2.cell 8
         have p9 := b2.cell 9
         simp at p0 p1 p2 p3 p4 p5 p6 p7 p8 p9
         have H2 := Lib.hid h2
         clear hb2 h2 b2)
      | (go_at_call 30; refine (HI2.out _ H2.out).mono ?_; rintro e w3 ⟨rfl, hb3⟩
         have h3 := H2.out.keep (bsa hb3 (.cells (itc zI (.slice none 0 0)) 38))
         have b3 := h3.blkAt (g := V.heap.size) (t := 64) (cs := rcc x (.slice A n c)) (by simp)
         have p0 := b3.cell 0
         have p1 := b3.cell 1
         have p2 := b3.cell 2
         have p3 := b3.cell 3
         have p4 := b3.cell 4
         have p5 := b3.cell 5
         have p6 := b3.cell 6
         have p7 := b3.cell 7
         have p8 := b3.cell 8
         have p9 := b3.cell 9
         simp at p0 p1 p2 p3 p4 p5 p6 p7 p8 p9
         have H3 := Lib.hid h3
         clear hb3 h3 b3)
      | fail)
  go_ret2
  exact ⟨_, _, _, rfl, rfl, ((show Has w (blkA V.heap.size 64 (rcc x (.slice A n c)) :: rtA b r :: T) _ from H3.out.swap).tail).newOp (World.ownsRow_nil _ _ _ _) (Below.refl _ _)⟩
set_option maxHeartbeats 4000000 in
theorem seRR_id {w V : World} {T : List As} {b : Nat} {r : List Rw} (h : Has w (rtA b r :: T) V) (hz : Szs r) (key : ByteArray) (x : Rc) (A : Option Addr) (n c : Nat) (hx : ∀ W, Has w (rtA b r :: T) W → WtAt W A n x.l) (hn : n ≤ 9223372036854775807) (hk : isK key = true) (hm : mayR x = true) (y : It) (ho : pint r key = some y) (hid : ¬ y.id = x.id) :
    Calls Tryz.prog 21 #[pt b, .string key, rcv x (.slice A n c)] V fun e w' => AnsRes ([], 0) w (rtA b r :: T) e w' := by
  have h1 := (h.newBlk 64 (rcc x (.slice A n c))).swap
  have H1 := Lib.hid h1
  have HCH := Lib.hid (fun W => (refCheck key W))
  have HMR := Lib.hid (fun W (hW : Has w (rtA b r :: blkA V.heap.size 64 (rcc x (.slice A n c)) :: T) W) => rMayR_c x _ rfl A n c W (hx W (show Has w (blkA V.heap.size 64 (rcc x (.slice A n c)) :: rtA b r :: T) W from hW.swap).tail) hn)
  have b1 := h1.blkAt (g := V.heap.size) (t := 64) (cs := rcc x (.slice A n c)) (by simp)
  have p0 := b1.cell 0
  have p1 := b1.cell 1
  have p2 := b1.cell 2
  have p3 := b1.cell 3
  have p4 := b1.cell 4
  have p5 := b1.cell 5
  have p6 := b1.cell 6
  have p7 := b1.cell 7
  have p8 := b1.cell 8
  have p9 := b1.cell 9
  simp at p0 p1 p2 p3 p4 p5 p6 p7 p8 p9
  have HIN := Lib.hid (fun (hk : isK key = true) W (hW : Has w (rtA b r :: blkA V.heap.size 64 (rcc x (.slice A n c)) :: T) W) => rInt_c hW hz key hk)
  clear h h1 hz hx b1
  have hks := isK_iff.1 hk
  rw [if_pos hks] at HCH
  have HI2 := Lib.hid (HIN.out hk)
  rw [ho] at HI2
  unfold AnsT at HI2
  simp only at HI2
  rw [hm] at HMR
  have hmy : mayI y = true := pint_may ho
  clear HIN hks hm ho
  clear hmy
  go_enter Tryz.func21, Tryz.ntmps21
  go_wp2_with (first
      | (go_at_call 70; refine (HCH.out _).mono ?_; rintro e w1 ⟨rfl, rfl⟩)
      | (go_at_call 71; refine (HMR.out _ H1.out).mono ?_; rintro e w2 ⟨rfl, hb2⟩
         have h2 := H1.out.keep hb2
         have b2 := h2.blkAt (g := V.heap.size) (t := 64) (cs := rcc x (.slice A n c)) (by simp)
         have p0 := b2.cell 0
         have p1 := b2.cell 1
         have p2 := b2.cell 2
         have p3 := b2.cell 3
         have p4 := b2.cell 4
         have p5 := b2.cell 5
         have p6 := b2.cell 6
         have p7 := b2.cell 7
         have p8 := b2.cell 8
         have p9 := b2.cell 9
         simp at p0 p1 p2 p3 p4 p5 p6 p7 p8 p9
         have H2 := Lib.hid h2
         clear hb2 h2 b2)
      | (go_at_call 30; refine (HI2.out _ H2.out).mono ?_; rintro e w3 ⟨⟨A2, n2, c2, rfl, hat, hn2⟩, hb3⟩
         have h3 := H2.out.keep (bsa hb3 (.cells (itc y (.slice A2 n2 c2)) 38))
         have b3 := h3.blkAt (g := V.heap.size) (t := 64) (cs := rcc x (.slice A n c)) (by simp)
         have p0 := b3.cell 0
         have p1 := b3.cell 1
         have p2 := b3.cell 2
         have p3 := b3.cell 3
         have p4 := b3.cell 4
         have p5 := b3.cell 5
         have p6 := b3.cell 6
         have p7 := b3.cell 7
         have p8 := b3.cell 8
         have p9 := b3.cell 9
         simp at p0 p1 p2 p3 p4 p5 p6 p7 p8 p9
         have HA3 := Lib.hid (hat.below (nbl w3 (.cells (itc y (.slice A2 n2 c2)) 38)))
         have kI := Lib.hid (Blk.new w3 38 (itc y (.slice A2 n2 c2)))
         clear hat
         have H3 := Lib.hid h3
         clear hb3 h3 b3)
      | fail)
  go_ret2
  exact ⟨_, _, _, rfl, rfl, ((show Has w (blkA V.heap.size 64 (rcc x (.slice A n c)) :: rtA b r :: T) _ from H3.out.swap).tail).newOp (World.ownsRow_nil _ _ _ _) (Below.refl _ _)⟩
set_option maxHeartbeats 4000000 in
theorem seRR_stg {w V : World} {T : List As} {b : Nat} {r : List Rw} (h : Has w (rtA b r :: T) V) (hz : Szs r) (key : ByteArray) (x : Rc) (A : Option Addr) (n c : Nat) (hx : ∀ W, Has w (rtA b r :: T) W → WtAt W A n x.l) (hn : n ≤ 9223372036854775807) (hk : isK key = true) (hm : mayR x = true) (y : It) (ho : pint r key = some y) (hid : (y.id == x.id) = true) (hs2 : (x.st == 2) = true) :
    Calls Tryz.prog 21 #[pt b, .string key, rcv x (.slice A n c)] V fun e w' => AnsRes ([], 0) w (rtA b r :: T) e w' := by
  have h1 := (h.newBlk 64 (rcc x (.slice A n c))).swap
  have H1 := Lib.hid h1
  have HCH := Lib.hid (fun W => (refCheck key W))
  have HMR := Lib.hid (fun W (hW : Has w (rtA b r :: blkA V.heap.size 64 (rcc x (.slice A n c)) :: T) W) => rMayR_c x _ rfl A n c W (hx W (show Has w (blkA V.heap.size 64 (rcc x (.slice A n c)) :: rtA b r :: T) W from hW.swap).tail) hn)
  have b1 := h1.blkAt (g := V.heap.size) (t := 64) (cs := rcc x (.slice A n c)) (by simp)
  have p0 := b1.cell 0
  have p1 := b1.cell 1
  have p2 := b1.cell 2
  have p3 := b1.cell 3
  have p4 := b1.cell 4
  have p5 := b1.cell 5
  have p6 := b1.cell 6
  have p7 := b1.cell 7
  have p8 := b1.cell 8
  have p9 := b1.cell 9
  simp at p0 p1 p2 p3 p4 p5 p6 p7 p8 p9
  have HIN := Lib.hid (fun (hk : isK key = true) W (hW : Has w (rtA b r :: blkA V.heap.size 64 (rcc x (.slice A n c)) :: T) W) => rInt_c hW hz key hk)
  clear h h1 hz hx b1
  have hks := isK_iff.1 hk
  rw [if_pos hks] at HCH
  have HI2 := Lib.hid (HIN.out hk)
  rw [ho] at HI2
  unfold AnsT at HI2
  simp only at HI2
  rw [hm] at HMR
  have hmy : mayI y = true := pint_may ho
  clear HIN hks hm ho
  clear hmy
  obtain ⟨y0, y1, y2, y3, y4, y5, y6, y7, y8⟩ := y
  have hid2 : y0 = x.id := by simpa using hid
  subst hid2
  clear hid
  go_enter Tryz.func21, Tryz.ntmps21
  go_wp2_with (first
      | (go_at_call 70; refine (HCH.out _).mono ?_; rintro e w1 ⟨rfl, rfl⟩)
      | (go_at_call 71; refine (HMR.out _ H1.out).mono ?_; rintro e w2 ⟨rfl, hb2⟩
         have h2 := H1.out.keep hb2
         have b2 := h2.blkAt (g := V.heap.size) (t := 64) (cs := rcc x (.slice A n c)) (by simp)
         have p0 := b2.cell 0
         have p1 := b2.cell 1
         have p2 := b2.cell 2
         have p3 := b2.cell 3
         have p4 := b2.cell 4
         have p5 := b2.cell 5
         have p6 := b2.cell 6
         have p7 := b2.cell 7
         have p8 := b2.cell 8
         have p9 := b2.cell 9
         simp at p0 p1 p2 p3 p4 p5 p6 p7 p8 p9
         have H2 := Lib.hid h2
         clear hb2 h2 b2)
      | (go_at_call 30; refine (HI2.out _ H2.out).mono ?_; rintro e w3 ⟨⟨A2, n2, c2, rfl, hat, hn2⟩, hb3⟩
         have h3 := H2.out.keep (bsa hb3 (.cells (itc ⟨x.id, y1, y2, y3, y4, y5, y6, y7, y8⟩ (.slice A2 n2 c2)) 38))
         have b3 := h3.blkAt (g := V.heap.size) (t := 64) (cs := rcc x (.slice A n c)) (by simp)
         have p0 := b3.cell 0
         have p1 := b3.cell 1
         have p2 := b3.cell 2
         have p3 := b3.cell 3
         have p4 := b3.cell 4
         have p5 := b3.cell 5
         have p6 := b3.cell 6
         have p7 := b3.cell 7
         have p8 := b3.cell 8
         have p9 := b3.cell 9
         simp at p0 p1 p2 p3 p4 p5 p6 p7 p8 p9
         have HA3 := Lib.hid (hat.below (nbl w3 (.cells (itc ⟨x.id, y1, y2, y3, y4, y5, y6, y7, y8⟩ (.slice A2 n2 c2)) 38)))
         have kI := Lib.hid (Blk.new w3 38 (itc ⟨x.id, y1, y2, y3, y4, y5, y6, y7, y8⟩ (.slice A2 n2 c2)))
         clear hat
         have H3 := Lib.hid h3
         clear hb3 h3 b3)
      | fail)
  go_ret2
  exact ⟨_, _, _, rfl, rfl, ((show Has w (blkA V.heap.size 64 (rcc x (.slice A n c)) :: rtA b r :: T) _ from H3.out.swap).tail).newOp (World.ownsRow_nil _ _ _ _) (Below.refl _ _)⟩
end Go.Proofs.YthimheckmpepdaaGreatDoor
