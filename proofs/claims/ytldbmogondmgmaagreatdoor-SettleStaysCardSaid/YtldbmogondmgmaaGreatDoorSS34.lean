/-
  Layer 14, the code: Resolve, aborted, staged (written by wip/genset.py).
  Layer 14, the code: Resolve, pending (written by wip/genset.py).
  Layer 14, the code: Resolve (written by wip/genset.py).
  Layer 12, plain: the chapter's examples.
  Layer 14, plain: what came to a span; the examples.
  Layer 12: ReadVersion, whole.
  Layer 12, the code: the version up to a stamp (written by wip/genpkver.py).
-/
import Derived.Test.YtldbmogondmgmaaGreatDoorSS33
import Derived.Test.YtldbmogondmgmaaGreatDoorSS32
import Derived.Test.YtldbmogondmgmaaGreatDoorSS25
set_option linter.unusedVariables false
set_option linter.unusedSimpArgs false
set_option maxRecDepth 100000
namespace Go.Proofs.YtldbmogondmgmaaGreatDoor
open Go.RowKit

set_option maxHeartbeats 4000000 in
theorem seRes_ab {w V : World} {T : List As} {p N : Nat} {r : List Rw} (h : Has w (tbA p r :: T) V) (hr : ROk N r) (hN : N ≤ 999999000) (hM : MaxL w) (key : ByteArray) (x : Rc) (A : Option Addr) (n c : Nat) (hx : ∀ W, Has w (tbA p r :: T) W → WtAt W A n x.l) (hn : n ≤ 9223372036854775807) (hc : chkS key x = 0) (y : It) (ho : ownI (pint r key) x.id = some y) (hs : x.st = 4) :
    Calls Tryz.prog 68 #[pt p, .string key, rcv x (.slice A n c)] V fun e w' => AnsRes ([goneO key], 0) w (tbA p r :: T) e w' := by
  have h1 := (h.newBlk 69 (rcc x (.slice A n c))).swap
  have H1 := Lib.hid h1
  have HCK := Lib.hid (seCheckRec h1 hr hN hM key x A n c (fun W hW => hx W (show Has w (blkA V.heap.size 69 (rcc x (.slice A n c)) :: tbA p r :: T) W from hW.swap).tail) hn)
  have b1 := h1.blkAt (g := V.heap.size) (t := 69) (cs := rcc x (.slice A n c)) (by simp)
  have q0 := b1.cell 0
  have q1 := b1.cell 1
  have q2 := b1.cell 2
  have q3 := b1.cell 3
  have q4 := b1.cell 4
  have q5 := b1.cell 5
  have q6 := b1.cell 6
  have q7 := b1.cell 7
  have q8 := b1.cell 8
  have q9 := b1.cell 9
  simp at q0 q1 q2 q3 q4 q5 q6 q7 q8 q9
  have HIN := Lib.hid (fun (hk : isK key = true) W (hW : Has w (tbA p r :: blkA V.heap.size 69 (rcc x (.slice A n c)) :: T) W) => let ⟨F, hA, _⟩ := hW.get; seIntentOf hA hr.szs (hM.below hW.bel) key hk x.id)
  clear h h1 hr hx b1
  have HI2 := Lib.hid (HIN.out (chkS_ok hc).1)
  have hkk := (chkS_ok hc).1
  have hmr := (mayR_parts (chkS_ok hc).2).1
  have hmy := pint_may (ownI_some ho).1
  have HGO := Lib.hid (fun W hW => seGone key hkk W (hM.below hW))
  have HCO := Lib.hid (fun v W => seCounts y v x (.slice A n c) W)
  have HVE := Lib.hid (fun A2 n2 c2 W (hW : Below w.heap.size w W) hx2 hn2 => seVersion key hkk x.sw x.sl hmr y hmy A2 n2 c2 W (hM.below hW) hx2 hn2)
  have HPU := Lib.hid (fun A2 n2 c2 W (hW : Below w.heap.size w W) hx2 hn2 => sePushed key hkk y hmy A2 n2 c2 x hmr (.slice A n c) W (hM.below hW) hx2 hn2)
  rw [hc] at HCK
  rw [ho] at HI2
  unfold AnsT at HI2
  simp only at HI2
  clear hc HIN hM ho hkk hmr hmy
  unfold goneO opv at *
  simp only at HGO
  generalize bs (ikey (sb key)) = kk at *
  have hs3 : (x.st == 3) = false := by rw [hs]; rfl
  have hs4 : (x.st == 4) = true := by rw [hs]; rfl
  clear HPU HVE HCO hs
  go_enter Tryz.func68, Tryz.ntmps68
  go_wp2_with (first
      | (go_at_call 133; refine HCK.out.mono ?_; rintro e w1 ⟨rfl, h2⟩
         have b2 := h2.blkAt (g := V.heap.size) (t := 69) (cs := rcc x (.slice A n c)) (by simp)
         have q0 := b2.cell 0
         have q1 := b2.cell 1
         have q2 := b2.cell 2
         have q3 := b2.cell 3
         have q4 := b2.cell 4
         have q5 := b2.cell 5
         have q6 := b2.cell 6
         have q7 := b2.cell 7
         have q8 := b2.cell 8
         have q9 := b2.cell 9
         simp at q0 q1 q2 q3 q4 q5 q6 q7 q8 q9
         have H2 := Lib.hid h2
         clear h2 b2)
      | (go_at_call 134; refine (HI2.out _ H2.out).mono ?_; rintro e w2 ⟨⟨A2, n2, c2, rfl, hat, hn2⟩, hb2⟩
         have h3 := H2.out.keep (bsa hb2 (.cells (itc y (.slice A2 n2 c2)) 39))
         have b3 := h3.blkAt (g := V.heap.size) (t := 69) (cs := rcc x (.slice A n c)) (by simp)
         have q0 := b3.cell 0
         have q1 := b3.cell 1
         have q2 := b3.cell 2
         have q3 := b3.cell 3
         have q4 := b3.cell 4
         have q5 := b3.cell 5
         have q6 := b3.cell 6
         have q7 := b3.cell 7
         have q8 := b3.cell 8
         have q9 := b3.cell 9
         simp at q0 q1 q2 q3 q4 q5 q6 q7 q8 q9
         have kI := Blk.new w2 39 (itc y (.slice A2 n2 c2))
         have KI := Lib.hid kI
         have HAT := Lib.hid (hat.below (nbl w2 (.cells (itc y (.slice A2 n2 c2)) 39)))
         clear hat kI
         have H3 := Lib.hid h3
         clear hb2 h3 b3)
      | (go_at_call 137; refine (HGO.out _ H3.out.bel).mono ?_; rintro e w6 ⟨rfl, hb6⟩; have H6 := Lib.hid (H3.out.keep hb6); clear hb6)
      | fail)
  have hq := Blk.new w6 98 #[.string kk, .string ⟨#[]⟩, .bool true]
  go_ret2
  exact ⟨_, _, _, rfl, rfl, (show Has w (blkA V.heap.size 69 (rcc x (.slice A n c)) :: tbA p r :: T) _ from H6.out.swap).tail.newOp (orow1 hq (Nat.le_refl _)) (nbl _ _)⟩
set_option maxHeartbeats 4000000 in
theorem seRes_st {w V : World} {T : List As} {p N : Nat} {r : List Rw} (h : Has w (tbA p r :: T) V) (hr : ROk N r) (hN : N ≤ 999999000) (hM : MaxL w) (key : ByteArray) (x : Rc) (A : Option Addr) (n c : Nat) (hx : ∀ W, Has w (tbA p r :: T) W → WtAt W A n x.l) (hn : n ≤ 9223372036854775807) (hc : chkS key x = 0) (y : It) (ho : ownI (pint r key) x.id = some y) (hs3 : (x.st == 3) = false) (hs4 : (x.st == 4) = false) (hs1 : (x.st == 1) = false) :
    Calls Tryz.prog 68 #[pt p, .string key, rcv x (.slice A n c)] V fun e w' => AnsRes ([], 0) w (tbA p r :: T) e w' := by
  have h1 := (h.newBlk 69 (rcc x (.slice A n c))).swap
  have H1 := Lib.hid h1
  have HCK := Lib.hid (seCheckRec h1 hr hN hM key x A n c (fun W hW => hx W (show Has w (blkA V.heap.size 69 (rcc x (.slice A n c)) :: tbA p r :: T) W from hW.swap).tail) hn)
  have b1 := h1.blkAt (g := V.heap.size) (t := 69) (cs := rcc x (.slice A n c)) (by simp)
  have q0 := b1.cell 0
  have q1 := b1.cell 1
  have q2 := b1.cell 2
  have q3 := b1.cell 3
  have q4 := b1.cell 4
  have q5 := b1.cell 5
  have q6 := b1.cell 6
  have q7 := b1.cell 7
  have q8 := b1.cell 8
  have q9 := b1.cell 9
  simp at q0 q1 q2 q3 q4 q5 q6 q7 q8 q9
  have HIN := Lib.hid (fun (hk : isK key = true) W (hW : Has w (tbA p r :: blkA V.heap.size 69 (rcc x (.slice A n c)) :: T) W) => let ⟨F, hA, _⟩ := hW.get; seIntentOf hA hr.szs (hM.below hW.bel) key hk x.id)
  clear h h1 hr hx b1
  have HI2 := Lib.hid (HIN.out (chkS_ok hc).1)
  have hkk := (chkS_ok hc).1
  have hmr := (mayR_parts (chkS_ok hc).2).1
  have hmy := pint_may (ownI_some ho).1
  have HGO := Lib.hid (fun W hW => seGone key hkk W (hM.below hW))
  have HCO := Lib.hid (fun v W => seCounts y v x (.slice A n c) W)
  have HVE := Lib.hid (fun A2 n2 c2 W (hW : Below w.heap.size w W) hx2 hn2 => seVersion key hkk x.sw x.sl hmr y hmy A2 n2 c2 W (hM.below hW) hx2 hn2)
  have HPU := Lib.hid (fun A2 n2 c2 W (hW : Below w.heap.size w W) hx2 hn2 => sePushed key hkk y hmy A2 n2 c2 x hmr (.slice A n c) W (hM.below hW) hx2 hn2)
  rw [hc] at HCK
  rw [ho] at HI2
  unfold AnsT at HI2
  simp only at HI2
  clear hc HIN hM ho hkk hmr hmy
  clear HGO HVE HCO HPU
  go_enter Tryz.func68, Tryz.ntmps68
  go_wp2_with (first
      | (go_at_call 133; refine HCK.out.mono ?_; rintro e w1 ⟨rfl, h2⟩
         have b2 := h2.blkAt (g := V.heap.size) (t := 69) (cs := rcc x (.slice A n c)) (by simp)
         have q0 := b2.cell 0
         have q1 := b2.cell 1
         have q2 := b2.cell 2
         have q3 := b2.cell 3
         have q4 := b2.cell 4
         have q5 := b2.cell 5
         have q6 := b2.cell 6
         have q7 := b2.cell 7
         have q8 := b2.cell 8
         have q9 := b2.cell 9
         simp at q0 q1 q2 q3 q4 q5 q6 q7 q8 q9
         have H2 := Lib.hid h2
         clear h2 b2)
      | (go_at_call 134; refine (HI2.out _ H2.out).mono ?_; rintro e w2 ⟨⟨A2, n2, c2, rfl, hat, hn2⟩, hb2⟩
         have h3 := H2.out.keep (bsa hb2 (.cells (itc y (.slice A2 n2 c2)) 39))
         have b3 := h3.blkAt (g := V.heap.size) (t := 69) (cs := rcc x (.slice A n c)) (by simp)
         have q0 := b3.cell 0
         have q1 := b3.cell 1
         have q2 := b3.cell 2
         have q3 := b3.cell 3
         have q4 := b3.cell 4
         have q5 := b3.cell 5
         have q6 := b3.cell 6
         have q7 := b3.cell 7
         have q8 := b3.cell 8
         have q9 := b3.cell 9
         simp at q0 q1 q2 q3 q4 q5 q6 q7 q8 q9
         have kI := Blk.new w2 39 (itc y (.slice A2 n2 c2))
         have KI := Lib.hid kI
         have HAT := Lib.hid (hat.below (nbl w2 (.cells (itc y (.slice A2 n2 c2)) 39)))
         clear hat kI
         have H3 := Lib.hid h3
         clear hb2 h3 b3)
      | fail)
  go_ret2
  exact ⟨_, _, _, rfl, rfl, (show Has w (blkA V.heap.size 69 (rcc x (.slice A n c)) :: tbA p r :: T) _ from H3.out.swap).tail.newOp (World.ownsRow_nil _ _ _ _) (Below.refl _ _)⟩
end Go.Proofs.YtldbmogondmgmaaGreatDoor
set_option linter.unusedVariables false
set_option linter.unusedSimpArgs false
set_option maxRecDepth 100000
namespace Go.Proofs.YtldbmogondmgmaaGreatDoor
open Go.RowKit

set_option maxHeartbeats 4000000 in
theorem seRes_push {w V : World} {T : List As} {p N : Nat} {r : List Rw} (h : Has w (tbA p r :: T) V) (hr : ROk N r) (hN : N ≤ 999999000) (hM : MaxL w) (key : ByteArray) (x : Rc) (A : Option Addr) (n c : Nat) (hx : ∀ W, Has w (tbA p r :: T) W → WtAt W A n x.l) (hn : n ≤ 9223372036854775807) (hc : chkS key x = 0) (y : It) (ho : ownI (pint r key) x.id = some y) (hs : x.st = 1) :
    Calls Tryz.prog 68 #[pt p, .string key, rcv x (.slice A n c)] V fun e w' => AnsRes (pushP y key x, 0) w (tbA p r :: T) e w' := by
  have h1 := (h.newBlk 69 (rcc x (.slice A n c))).swap
  have H1 := Lib.hid h1
  have HCK := Lib.hid (seCheckRec h1 hr hN hM key x A n c (fun W hW => hx W (show Has w (blkA V.heap.size 69 (rcc x (.slice A n c)) :: tbA p r :: T) W from hW.swap).tail) hn)
  have b1 := h1.blkAt (g := V.heap.size) (t := 69) (cs := rcc x (.slice A n c)) (by simp)
  have q0 := b1.cell 0
  have q1 := b1.cell 1
  have q2 := b1.cell 2
  have q3 := b1.cell 3
  have q4 := b1.cell 4
  have q5 := b1.cell 5
  have q6 := b1.cell 6
  have q7 := b1.cell 7
  have q8 := b1.cell 8
  have q9 := b1.cell 9
  simp at q0 q1 q2 q3 q4 q5 q6 q7 q8 q9
  have HIN := Lib.hid (fun (hk : isK key = true) W (hW : Has w (tbA p r :: blkA V.heap.size 69 (rcc x (.slice A n c)) :: T) W) => let ⟨F, hA, _⟩ := hW.get; seIntentOf hA hr.szs (hM.below hW.bel) key hk x.id)
  clear h h1 hr hx b1
  have HI2 := Lib.hid (HIN.out (chkS_ok hc).1)
  have hkk := (chkS_ok hc).1
  have hmr := (mayR_parts (chkS_ok hc).2).1
  have hmy := pint_may (ownI_some ho).1
  have HGO := Lib.hid (fun W hW => seGone key hkk W (hM.below hW))
  have HCO := Lib.hid (fun v W => seCounts y v x (.slice A n c) W)
  have HVE := Lib.hid (fun A2 n2 c2 W (hW : Below w.heap.size w W) hx2 hn2 => seVersion key hkk x.sw x.sl hmr y hmy A2 n2 c2 W (hM.below hW) hx2 hn2)
  have HPU := Lib.hid (fun A2 n2 c2 W (hW : Below w.heap.size w W) hx2 hn2 => sePushed key hkk y hmy A2 n2 c2 x hmr (.slice A n c) W (hM.below hW) hx2 hn2)
  rw [hc] at HCK
  rw [ho] at HI2
  unfold AnsT at HI2
  simp only at HI2
  clear hc HIN hM ho hkk hmr hmy
  unfold AnsO at HPU
  have hs3 : (x.st == 3) = false := by rw [hs]; rfl
  have hs4 : (x.st == 4) = false := by rw [hs]; rfl
  have hs1 : (x.st == 1) = true := by rw [hs]; rfl
  clear HGO HVE HCO hs
  go_enter Tryz.func68, Tryz.ntmps68
  go_wp2_with (first
      | (go_at_call 133; refine HCK.out.mono ?_; rintro e w1 ⟨rfl, h2⟩
         have b2 := h2.blkAt (g := V.heap.size) (t := 69) (cs := rcc x (.slice A n c)) (by simp)
         have q0 := b2.cell 0
         have q1 := b2.cell 1
         have q2 := b2.cell 2
         have q3 := b2.cell 3
         have q4 := b2.cell 4
         have q5 := b2.cell 5
         have q6 := b2.cell 6
         have q7 := b2.cell 7
         have q8 := b2.cell 8
         have q9 := b2.cell 9
         simp at q0 q1 q2 q3 q4 q5 q6 q7 q8 q9
         have H2 := Lib.hid h2
         clear h2 b2)
      | (go_at_call 134; refine (HI2.out _ H2.out).mono ?_; rintro e w2 ⟨⟨A2, n2, c2, rfl, hat, hn2⟩, hb2⟩
         have h3 := H2.out.keep (bsa hb2 (.cells (itc y (.slice A2 n2 c2)) 39))
         have b3 := h3.blkAt (g := V.heap.size) (t := 69) (cs := rcc x (.slice A n c)) (by simp)
         have q0 := b3.cell 0
         have q1 := b3.cell 1
         have q2 := b3.cell 2
         have q3 := b3.cell 3
         have q4 := b3.cell 4
         have q5 := b3.cell 5
         have q6 := b3.cell 6
         have q7 := b3.cell 7
         have q8 := b3.cell 8
         have q9 := b3.cell 9
         simp at q0 q1 q2 q3 q4 q5 q6 q7 q8 q9
         have kI := Blk.new w2 39 (itc y (.slice A2 n2 c2))
         have KI := Lib.hid kI
         have HAT := Lib.hid (hat.below (nbl w2 (.cells (itc y (.slice A2 n2 c2)) 39)))
         clear hat kI
         have H3 := Lib.hid h3
         clear hb2 h3 b3)
      | (go_at_call 138; refine (HPU.out _ _ _ _ H3.out.bel HAT.out hn2).mono ?_; rintro e w5 ⟨⟨v5, rfl, hrow⟩, hb5⟩; obtain ⟨A5, c5, rfl, -⟩ := OAt.own hrow
         have H5 := Lib.hid ((show Has w (blkA V.heap.size 69 (rcc x (.slice A n c)) :: tbA p r :: T) _ from H3.out.swap).tail.newOp hrow hb5)
         clear hrow hb5)
      | fail)
  go_ret2
  exact ⟨_, _, _, rfl, rfl, H5.out⟩
end Go.Proofs.YtldbmogondmgmaaGreatDoor
set_option linter.unusedVariables false
set_option linter.unusedSimpArgs false
set_option maxRecDepth 100000
namespace Go.Proofs.YtldbmogondmgmaaGreatDoor
open Go.RowKit

theorem seResolve {w V : World} {T : List As} {p N : Nat} {r : List Rw} (h : Has w (tbA p r :: T) V) (hr : ROk N r) (hN : N ≤ 999999000) (hM : MaxL w) (key : ByteArray) (x : Rc) (A : Option Addr) (n c : Nat) (hx : ∀ W, Has w (tbA p r :: T) W → WtAt W A n x.l) (hn : n ≤ 9223372036854775807) :
    Calls Tryz.prog 68 #[pt p, .string key, rcv x (.slice A n c)] V fun e w' => AnsRes (resC r key x) w (tbA p r :: T) e w' := by
  unfold resC
  by_cases hc : chkS key x = 0
  · rw [if_pos hc]
    unfold resO
    cases ho : ownI (pint r key) x.id with
    | none => exact seRes_none h hr hN hM key x A n c hx hn hc ho
    | some y =>
      simp only
      unfold resP
      by_cases h3 : x.st = 3
      · rw [if_pos h3]
        cases hcn : counts y x with
        | true => exact seRes_ver h hr hN hM key x A n c hx hn hc y ho h3 hcn
        | false => exact seRes_else h hr hN hM key x A n c hx hn hc y ho h3 hcn
      · rw [if_neg h3]
        by_cases h4 : x.st = 4
        · rw [if_pos h4]
          exact seRes_ab h hr hN hM key x A n c hx hn hc y ho h4
        · rw [if_neg h4]
          by_cases h1 : x.st = 1
          · rw [if_pos h1]
            exact seRes_push h hr hN hM key x A n c hx hn hc y ho h1
          · rw [if_neg h1]
            exact seRes_st h hr hN hM key x A n c hx hn hc y ho (by simpa using h3) (by simpa using h4) (by simpa using h1)
  · rw [if_neg hc]
    refine seRes_no h hr hN hM key x A n c hx hn ?_
    unfold chkS at *
    split at hc
    · exact absurd rfl hc
    · rw [if_neg (by assumption)]
end Go.Proofs.YtldbmogondmgmaaGreatDoor
set_option linter.unusedVariables false
set_option maxRecDepth 100000
namespace Go.Proofs.YtldbmogondmgmaaGreatDoor
open Go.RowKit

def bA : ByteArray := ⟨#[97]⟩
def thV (v : ByteArray) (wall : Int) : Th := ⟨0, bA, v, false, wall, 0, zI⟩
def thI (y : It) : Th := ⟨1, bA, ⟨#[]⟩, false, 0, 0, y⟩
end Go.Proofs.YtldbmogondmgmaaGreatDoor
set_option linter.unusedVariables false
set_option linter.unusedSimpArgs false
set_option maxRecDepth 100000
namespace Go.Proofs.YtldbmogondmgmaaGreatDoor
open Go.RowKit

/-- The end of a span as a key. -/
def endK (s : ByteArray) : ByteArray := if s.size = 0 then ⟨#[0]⟩ else s.extract 0 (min s.size 32)
def isInP (f t : ByteArray) (k : ByteArray) : Bool := !(slt k f) && slt k t
def rdIK (k : List UInt8) : Option (List UInt8) := match rk 105 k with | some (s, []) => some s | _ => none
def hvRow (f t : ByteArray) (P : Int × Int → Bool) (x : Rw) : Bool :=
  match rdVK (sb x.key), tkV (sb x.value) with
  | some (s, a, b), some _ => isInP f t (bs s) && P (a, b)
  | _, _ => false
def fiRow (f t : ByteArray) (P : It → Bool) (x : Rw) : Option It :=
  match rdIK (sb x.key), tkI (sb x.value) with
  | some s, some y => if (isInP f t (bs s) && P y) = true then some y else none
  | _, _ => none
def vrows (r : List Rw) (f t : ByteArray) : List Rw := btw r (bs (vkey (sb (endK f)) 1099511627776 1048575)) (bs (vkey (sb (endK t)) 0 0) ++ zr)
def irows (r : List Rw) (f t : ByteArray) : List Rw := btw r (bs (ikey (sb (endK f)))) (bs (ikey (sb (endK t))) ++ zr)
def lateP (x : Tx) (ts : Int × Int) (c : Int × Int) : Bool := !(lt c (x.rw, x.rl)) && !(lt ts c)
def wayP (x : Tx) (ts : Int × Int) (y : It) : Bool := !(decide (y.id = x.id)) && !(lt ts (y.sw, y.sl))
def hasVP (r : List Rw) (f t : ByteArray) (P : Int × Int → Bool) : Bool := (vrows r f t).any (hvRow f t P)
def fstIP (r : List Rw) (f t : ByteArray) (P : It → Bool) : Option It := (irows r f t).findSome? (fiRow f t P)
def chkR (f t : ByteArray) (x : Tx) (ts low : Int × Int) : Int :=
  if (slt f t && mayX x && (may ts.1 ts.2 && may low.1 low.2) && !(lt ts (x.rw, x.rl))) = false then 2
  else if lt low (x.rw, x.rl) = false then 122 else 0
def refC (r : List Rw) (f t : ByteArray) (x : Tx) (ts low : Int × Int) : It × Int :=
  if chkR f t x ts low = 0 then
    (if hasVP r f t (lateP x ts) = true then (zI, 202) else
      match fstIP r f t (wayP x ts) with
      | some y => (y, 120)
      | none => (zI, 0))
  else (zI, chkR f t x ts low)

/-! ### the examples -/
def bB : ByteArray := ⟨#[98]⟩
def chZ : It := ⟨7, 0, 1, bA, 15, 0, 0, 0, [⟨3, ⟨#[122]⟩, false⟩]⟩
def chapP : List Th := [thV ⟨#[120]⟩ 10, thI chZ]
def recP (id st wall : Int) : Rc := ⟨id, 0, st, 1, bA, wall, 0, 0, 0, []⟩
def recE (id ep st wall : Int) : Rc := ⟨id, ep, st, 1, bA, wall, 0, 0, 0, []⟩
def rdrP (id wall : Int) : Tx := ⟨id, 0, 1, bA, wall, 0, wall, 0, wall, 0, 0, 0⟩
theorem sw1 : resC (tabP chapP) bA (recP 7 3 20) = ([verO bA 20 0 chZ, goneO bA], 0) := by kernel_rfl
theorem sw2 : resC (tabP chapP) bA (recP 7 3 14) = ([goneO bA], 0) := by kernel_rfl
theorem sw3 : resC (tabP chapP) bA (recE 7 1 3 20) = ([goneO bA], 0) := by kernel_rfl
theorem sw4 : resC (tabP chapP) bA (recP 7 1 18) = ([pushO bA chZ 18 0], 0) := by kernel_rfl
theorem sw5 : resC (tabP chapP) bA (recP 8 3 20) = ([], 0) := by kernel_rfl
theorem sw6 : refC (tabP chapP) bA bB (rdrP 9 12) (14, 0) (0, 0) = (zI, 0) := by kernel_rfl
theorem sw7 : refC (tabP chapP) bA bB (rdrP 9 12) (15, 0) (0, 0) = (chZ, 120) := by kernel_rfl
theorem sw8 : refC (tabP chapP) bA bB (rdrP 9 10) (14, 0) (0, 0) = (zI, 202) := by kernel_rfl
theorem sw9 : qryC (tabP chapP) bA 3 (recP 7 2 15) = (true, 0) := by kernel_rfl
theorem sw10 : qryC (tabP chapP) bA 3 (recP 7 2 14) = (false, 0) := by kernel_rfl
end Go.Proofs.YtldbmogondmgmaaGreatDoor
set_option linter.unusedVariables false
set_option linter.unusedSimpArgs false
set_option maxRecDepth 100000
namespace Go.Proofs.YtldbmogondmgmaaGreatDoor
open Go.RowKit

/-- What ReadVersion answers. -/
def AnsK (o : Option (List UInt8 × Int × Int)) : Ending :=
  match o with
  | none => .returned (.tuple #[.string ⟨#[]⟩, sv 0 0, .int .i64 4])
  | some (s, a, b) => .returned (.tuple #[.string ⟨s.toArray⟩, sv a b, .int .i64 0])
set_option maxHeartbeats 1000000 in
theorem readVersion_bad (k : ByteArray) (w : World) (hk : k.size ≤ 150000000000000) (s d : ByteArray) (hr : rkA (rk 118 (sb k)) = .returned (.tuple #[.string s, .string d, .bool true]))
    (a b n : Int) (t : ByteArray) (hT : ∀ V, Calls Tryz.prog 87 #[.string d] V fun e w' => e = .returned (.tuple #[sv a b, .string t, .int .i64 n]) ∧ Below V.heap.size V w') (hn : (n != 0) = true ∨ ((n != 0) = false ∧ t.toList ≠ [])) :
    Calls Tryz.prog 28 #[.string k] w fun e w' => e = .returned (.tuple #[.string ⟨#[]⟩, sv 0 0, .int .i64 4]) ∧ Below w.heap.size w w' := by
  have HC := Lib.hid (readKey_c 118 k (w.alloc (.cells #[.int .i64 0, .int .i64 0] 26)) hk)
  rw [hr] at HC
  have HX := Lib.hid (Blk.new w 26 #[.int .i64 0, .int .i64 0])
  have HT := Lib.hid hT
  clear hr hT
  rcases hn with hn | ⟨hn, ht⟩
  · go_enter Tryz.func28, Tryz.ntmps28
    go_wp2_with (first
    | (go_at_call 86; refine HC.out.mono ?_; rintro e w1 ⟨rfl, hb1⟩
       have g1 := (nbl w (.cells #[.int .i64 0, .int .i64 0] 26)).trans (hb1.mono (by simp))
       have k1 : Blk w1 w.heap.size 26 #[.int .i64 0, .int .i64 0] := HX.out.below hb1 (by simp))
    | (go_at_call 87; refine (HT.out _).mono ?_; rintro e w2 ⟨rfl, hb2⟩
       have k2 := k1.below hb2 k1.lt
       have c0 := k2.cell 0
       have c1 := k2.cell 1
       have f0 := k2.frozen 0
       have f1 := k2.frozen 1
       simp at c0 c1
       have g2 := g1.trans (hb2.mono g1.size)))
    refine ret_tct rfl rfl ((k2.all2 (v0 := .int .i64 a) (v1 := .int .i64 b)).all2 (v0 := .int .i64 0) (v1 := .int .i64 0)) rfl ⟨rfl, (((g2.setCell (by exact Nat.le_refl _) _).setCell (by exact Nat.le_refl _) _).setCell (by exact Nat.le_refl _) _).setCell (by exact Nat.le_refl _) _⟩
  · have hte : (t.toList == []) = false := by simpa using ht
    go_enter Tryz.func28, Tryz.ntmps28
    go_wp2_with (first
    | (go_at_call 86; refine HC.out.mono ?_; rintro e w1 ⟨rfl, hb1⟩
       have g1 := (nbl w (.cells #[.int .i64 0, .int .i64 0] 26)).trans (hb1.mono (by simp))
       have k1 : Blk w1 w.heap.size 26 #[.int .i64 0, .int .i64 0] := HX.out.below hb1 (by simp))
    | (go_at_call 87; refine (HT.out _).mono ?_; rintro e w2 ⟨rfl, hb2⟩
       have k2 := k1.below hb2 k1.lt
       have c0 := k2.cell 0
       have c1 := k2.cell 1
       have f0 := k2.frozen 0
       have f1 := k2.frozen 1
       simp at c0 c1
       have g2 := g1.trans (hb2.mono g1.size)))
    refine ret_tct rfl rfl ((k2.all2 (v0 := .int .i64 a) (v1 := .int .i64 b)).all2 (v0 := .int .i64 0) (v1 := .int .i64 0)) rfl ⟨rfl, (((g2.setCell (by exact Nat.le_refl _) _).setCell (by exact Nat.le_refl _) _).setCell (by exact Nat.le_refl _) _).setCell (by exact Nat.le_refl _) _⟩
theorem rk_size {m : UInt8} {k s r : List UInt8} (h : rk m k = some (s, r)) : r.length ≤ k.length ∧ 1 ≤ s.length ∧ s.length ≤ 32 ∧ k = m :: (okey s ++ r) := by
  unfold rk at h
  split at h
  · rename_i hh
    cases ht : tkey 1000 (k.drop 1) with
    | error x => rw [ht] at h; cases h
    | ok p =>
      rw [ht] at h
      simp only at h
      split at h
      · rename_i hl
        cases h
        have hb := (tkey_back _ _ _ _ _ (Nat.le_refl _) ht).1
        have hk : k = m :: (okey s ++ r) := by
          cases k with
          | nil => cases hh
          | cons c k =>
            simp only [List.head?_cons, Option.some.injEq] at hh
            subst hh
            simp only [List.drop_succ_cons, List.drop_zero] at hb
            rw [← hb]
            unfold okey
            simp
        exact ⟨by rw [hk]; simp; omega, hl.1, hl.2, hk⟩
      · cases h
  · cases h
theorem readV_c (k : ByteArray) (w : World) (hk : k.size ≤ 150000000000000) :
    Calls Tryz.prog 28 #[.string k] w fun e w' => e = AnsK (rdVK (sb k)) ∧ Below w.heap.size w w' := by
  unfold rdVK
  cases hr : rk 118 (sb k) with
  | none => exact readVersion_no k w hk hr
  | some p =>
    obtain ⟨s, r⟩ := p
    have hrs := (rk_size hr).1
    rw [sb_len] at hrs
    have hTD := fun V => takeDownAny (bs r) V (by show r.length ≤ _; omega)
    have hob : ob (bs r) = r := rfl
    rw [hob] at hTD
    have hrk : rkA (rk 118 (sb k)) = .returned (.tuple #[.string (bs s), .string (bs r), .bool true]) := by rw [hr]; rfl
    cases ht : tdown r with
    | error x =>
      rw [ht] at hTD
      have hx : x ≠ 0 := by
        unfold tdown at ht
        split at ht
        · cases ht; decide
        · split at ht
          · cases ht
          · cases ht; decide
      simp only [ht]
      exact readVersion_bad k w hk _ _ hrk _ _ _ _ hTD (.inl (by show ((x : Int) != 0) = true; simpa using hx))
    | ok q =>
      obtain ⟨a, b, l⟩ := q
      rw [ht] at hTD
      cases l with
      | nil =>
        obtain ⟨hm, ho⟩ := odown_tdown _ _ _ _ ht
        rw [List.append_nil] at ho
        simp only [ht]
        exact readVersion_c k w hk s a b hm (by rw [hr, ho])
      | cons c l =>
        simp only [ht]
        exact readVersion_bad k w hk _ _ hrk _ _ _ _ hTD (.inr ⟨rfl, by rw [Lib.toList_data]; simp [tdR]⟩)
end Go.Proofs.YtldbmogondmgmaaGreatDoor
set_option linter.unusedVariables false
set_option linter.unusedSimpArgs false
set_option maxRecDepth 100000
namespace Go.Proofs.YtldbmogondmgmaaGreatDoor
open Go.RowKit Go.Shelf
attribute [local go_sem] Oper.semAt_some

theorem pk_from_put {B g i : Nat} {u : Value} {t : TypeId} {cs : Array Value} {W : World} (h : Blk W g t cs) : KeepsFrom B W (W.setCell ⟨g, i, none⟩ u) := by
  refine ⟨by simp [World.setCell], fun k o _ hk ho => ?_⟩
  have hne : g ≠ k := by
    rintro rfl
    unfold Blk at h
    rw [h] at hk
    cases hk
    cases ho
  simp only [World.setCell, Array.getElem?_modify]
  rw [if_neg hne, hk]
theorem vkey_le (key : ByteArray) (a b : Int) (h : isK key = true) : (bs (vkey (sb key) a b)).size ≤ 1000 := by
  have h1 := okey_len key (isK_iff.1 h).2
  have h2 := odown_le a b
  show (vkey _ _ _).length ≤ _
  simp only [vkey, List.length_cons, List.length_append]
  omega
theorem pkVKey (key : ByteArray) (a b : Int) (hk : isK key = true) (hm : may a b = true) (W : World) (hM : MaxL W) :
    Calls Tryz.prog 130 #[.string key, sv a b] W fun e w' => e = .returned (.tuple #[.string (bs (vkey (sb key) a b)), .int .i64 0]) ∧ Below W.heap.size W w' := by
  have := versionKey_c key a b W hM hm
  unfold markK at this
  rw [if_pos hk] at this
  have e : ([118] ++ okey (sb key) ++ odown a b : List UInt8) = vkey (sb key) a b := by simp [vkey]
  rw [e] at this
  exact this
theorem behind_c (key : ByteArray) (hk : isK key = true) (w : World) (hM : MaxL w) :
    Calls Tryz.prog 187 #[.string key] w fun e w' => e = .returned (.string (behK key)) ∧ Below w.heap.size w w' := by
  have HV := Lib.hid (pkVKey key 0 0 hk (by decide) w hM)
  have hle := vkey_le key 0 0 hk
  unfold behK zr
  generalize bs (vkey (sb key) 0 0) = k at *
  have hsz : ¬ 9223372036854775807 < k.size + (⟨#[0]⟩ : ByteArray).size := by
    have : (⟨#[0]⟩ : ByteArray).size = 1 := rfl
    omega
  go_enter Tryz.func187, Tryz.ntmps187
  go_wp2_with (go_at_call 130; refine HV.out.mono ?_; rintro e w1 ⟨rfl, hb1⟩)
  go_ret
  exact ⟨rfl, hb1⟩
def NoV (r : List Rw) (f t : ByteArray) (n : Nat) : Prop := ((btw r f t).take n).findSome? vrow = none
theorem heap_set_ne {W : World} {g i D : Nat} {u : Value} (h : D ≠ g) : (W.setCell ⟨g, i, none⟩ u).heap[D]? = W.heap[D]? := by
  simp only [World.setCell, Array.getElem?_modify]
  rw [if_neg (fun e => h e.symm)]
theorem from15 {B g : Nat} {t : TypeId} {cs : Array Value} {W : World} {v0 v1 v2 v3 v4 v5 v6 v7 v8 v9 v10 v11 v12 v13 v14 : Value} (h : Blk W g t cs) : KeepsFrom B W (((((((((((((((W.setCell ⟨g, 0, none⟩ v0).setCell ⟨g, 1, none⟩ v1).setCell ⟨g, 2, none⟩ v2).setCell ⟨g, 3, none⟩ v3).setCell ⟨g, 4, none⟩ v4).setCell ⟨g, 5, none⟩ v5).setCell ⟨g, 6, none⟩ v6).setCell ⟨g, 7, none⟩ v7).setCell ⟨g, 8, none⟩ v8).setCell ⟨g, 9, none⟩ v9).setCell ⟨g, 10, none⟩ v10).setCell ⟨g, 11, none⟩ v11).setCell ⟨g, 12, none⟩ v12).setCell ⟨g, 13, none⟩ v13).setCell ⟨g, 14, none⟩ v14) := by
  have b0 := h
  have k0 := KeepsFrom.refl B W
  have k1 := k0.trans (pk_from_put (i := 0) (u := v0) b0)
  have b1 := b0.set_ 0 v0
  have k2 := k1.trans (pk_from_put (i := 1) (u := v1) b1)
  have b2 := b1.set_ 1 v1
  have k3 := k2.trans (pk_from_put (i := 2) (u := v2) b2)
  have b3 := b2.set_ 2 v2
  have k4 := k3.trans (pk_from_put (i := 3) (u := v3) b3)
  have b4 := b3.set_ 3 v3
  have k5 := k4.trans (pk_from_put (i := 4) (u := v4) b4)
  have b5 := b4.set_ 4 v4
  have k6 := k5.trans (pk_from_put (i := 5) (u := v5) b5)
  have b6 := b5.set_ 5 v5
  have k7 := k6.trans (pk_from_put (i := 6) (u := v6) b6)
  have b7 := b6.set_ 6 v6
  have k8 := k7.trans (pk_from_put (i := 7) (u := v7) b7)
  have b8 := b7.set_ 7 v7
  have k9 := k8.trans (pk_from_put (i := 8) (u := v8) b8)
  have b9 := b8.set_ 8 v8
  have k10 := k9.trans (pk_from_put (i := 9) (u := v9) b9)
  have b10 := b9.set_ 9 v9
  have k11 := k10.trans (pk_from_put (i := 10) (u := v10) b10)
  have b11 := b10.set_ 10 v10
  have k12 := k11.trans (pk_from_put (i := 11) (u := v11) b11)
  have b12 := b11.set_ 11 v11
  have k13 := k12.trans (pk_from_put (i := 12) (u := v12) b12)
  have b13 := b12.set_ 12 v12
  have k14 := k13.trans (pk_from_put (i := 13) (u := v13) b13)
  have b14 := b13.set_ 13 v13
  have k15 := k14.trans (pk_from_put (i := 14) (u := v14) b14)
  have b15 := b14.set_ 14 v14
  exact k15
theorem Has.all15 {w V : World} {l : List As} {g : Nat} {t : TypeId} {c0 c1 c2 c3 c4 c5 c6 c7 c8 c9 c10 c11 c12 c13 c14 v0 v1 v2 v3 v4 v5 v6 v7 v8 v9 v10 v11 v12 v13 v14 : Value} (h : Has w (blkA g t #[c0, c1, c2, c3, c4, c5, c6, c7, c8, c9, c10, c11, c12, c13, c14] :: l) V) : Has w (blkA g t #[v0, v1, v2, v3, v4, v5, v6, v7, v8, v9, v10, v11, v12, v13, v14] :: l) (((((((((((((((V.setCell ⟨g, 0, none⟩ v0).setCell ⟨g, 1, none⟩ v1).setCell ⟨g, 2, none⟩ v2).setCell ⟨g, 3, none⟩ v3).setCell ⟨g, 4, none⟩ v4).setCell ⟨g, 5, none⟩ v5).setCell ⟨g, 6, none⟩ v6).setCell ⟨g, 7, none⟩ v7).setCell ⟨g, 8, none⟩ v8).setCell ⟨g, 9, none⟩ v9).setCell ⟨g, 10, none⟩ v10).setCell ⟨g, 11, none⟩ v11).setCell ⟨g, 12, none⟩ v12).setCell ⟨g, 13, none⟩ v13).setCell ⟨g, 14, none⟩ v14) := by
  have := (((((((((((((((h.setBlk 0 v0).setBlk 1 v1).setBlk 2 v2).setBlk 3 v3).setBlk 4 v4).setBlk 5 v5).setBlk 6 v6).setBlk 7 v7).setBlk 8 v8).setBlk 9 v9).setBlk 10 v10).setBlk 11 v11).setBlk 12 v12).setBlk 13 v13).setBlk 14 v14)
  simpa using this
theorem heap15 {W : World} {g D : Nat} {v0 v1 v2 v3 v4 v5 v6 v7 v8 v9 v10 v11 v12 v13 v14 : Value} {o : Obj} (hne : D ≠ g) (hK : W.heap[D]? = some o) : (((((((((((((((W.setCell ⟨g, 0, none⟩ v0).setCell ⟨g, 1, none⟩ v1).setCell ⟨g, 2, none⟩ v2).setCell ⟨g, 3, none⟩ v3).setCell ⟨g, 4, none⟩ v4).setCell ⟨g, 5, none⟩ v5).setCell ⟨g, 6, none⟩ v6).setCell ⟨g, 7, none⟩ v7).setCell ⟨g, 8, none⟩ v8).setCell ⟨g, 9, none⟩ v9).setCell ⟨g, 10, none⟩ v10).setCell ⟨g, 11, none⟩ v11).setCell ⟨g, 12, none⟩ v12).setCell ⟨g, 13, none⟩ v13).setCell ⟨g, 14, none⟩ v14).heap[D]? = some o := by
  simp only [heap_set_ne hne]
  exact hK
theorem ansV_form (o : Option (ByteArray × Bool)) : ∃ v i n, AnsV o = .returned (.tuple #[.string v, .bool i, .int .i64 n]) := by
  cases o with
  | none => exact ⟨_, _, _, rfl⟩
  | some x => exact ⟨_, _, _, rfl⟩
set_option maxHeartbeats 4000000 in
theorem verUp_c {V : World} {p : Nat} {r : List Rw} {F : Nat → Prop} (h : (tbA p r).p V F) (hz : Szs r) (hM : MaxL V) (key : ByteArray) (hk : isK key = true) (a b : Int) (hm : may a b = true) :
    Calls Tryz.prog 124 #[pt p, .string key, sv a b] V fun e w' => e = .returned (fdv (verF key (pverC r key (a, b))) (.slice none 0 0)) ∧ Below V.heap.size V w' := by
  have hsor := tbA_sor h
  have HVK := Lib.hid (fun W hW => pkVKey key a b hk hm W (hM.below hW))
  have HBV := Lib.hid (fun W hW => behind_c key hk W (hM.below hW))
  unfold pverC
  simp only
  generalize bs (vkey (sb key) a b) = f at *
  generalize behK key = t at *
  obtain ⟨o, ho⟩ : ∃ o, (btw r f t).findSome? vrow = o := ⟨_, rfl⟩
  rw [ho]
  have HO := Lib.hid ho
  have H := Lib.hid h
  have HZ := Lib.hid hz
  have HS := Lib.hid hsor
  have h0 := (((Has.nil (Below.refl V.heap.size V)).newBlk 9 #[.string key]).newBlk 26 #[.int .i64 a, .int .i64 b]).newBlk 60 #[.string ⟨#[]⟩, .string ⟨#[]⟩, .bool false, .bool false, .int .i64 0, .int .i64 0, .int .i64 0, .int .i64 0, .int .i64 0, .string ⟨#[]⟩, .int .i64 0, .int .i64 0, .int .i64 0, .int .i64 0, .slice none 0 0]
  have hz1 : (V.alloc (.cells #[.string key] 9)).heap.size = V.heap.size + 1 := World.size_alloc _ _
  have hz2 : ((V.alloc (.cells #[.string key] 9)).alloc (.cells #[.int .i64 a, .int .i64 b] 26)).heap.size = V.heap.size + 1 + 1 := (World.size_alloc _ _).trans (by rw [hz1])
  rw [hz2, hz1] at h0
  have H0 := Lib.hid h0
  clear h hz hsor ho hk hm hM h0 hz1 hz2
  refine (callsIn_wide (n := 3)).1 (callsIn_of_wp_marks Tryz.func124 rfl trivial (wpIn_wide.2 ?_) rfl)
  simp only [Tryz.ntmps124, List.size_toArray, List.length_cons, List.length_nil, Nat.reduceAdd, Nat.reduceSub, Array.replicate_succ, Array.replicate_zero, List.push_toArray, List.append_toArray, List.nil_append, List.cons_append]
  go_wp2_with (first
    | (go_at_call 130; refine (HVK.out _ H0.out.bel).mono ?_; rintro e w1 ⟨rfl, hb1⟩
       have h1 := H0.out.keep hb1
       have z1 := (h1.blkAt (g := V.heap.size) (t := 9) (cs := #[.string key]) (by simp)).cell 0
       simp at z1
       have H1 := Lib.hid h1
       clear hb1 h1)
    | (go_at_call 187; refine (HBV.out _ H1.out.bel).mono ?_; rintro e w2 ⟨rfl, hb2⟩
       have h2 := H1.out.keep hb2
       have z2 := (h2.blkAt (g := V.heap.size) (t := 9) (cs := #[.string key]) (by simp)).cell 0
       simp at z2
       have H2 := Lib.hid h2
       clear hb2 h2)
    | (go_at_call 55; refine (Has.tbAll H2.out p f t).mono ?_; rintro e W0 ⟨g1, g2, g3, rfl, h4⟩; have H4 := Lib.hid h4; clear h4))
  generalize V.heap.size + 1 + 1 = g6 at *
  generalize V.heap.size + 1 = g5 at *
  have H4 := Lib.hid (show Has V [blkA g1 32 #[pt p], blkA g2 9 #[.string f], blkA g3 9 #[.string t], blkA g6 60 #[.string ⟨#[]⟩, .string ⟨#[]⟩, .bool false, .bool false, .int .i64 0, .int .i64 0, .int .i64 0, .int .i64 0, .int .i64 0, .string ⟨#[]⟩, .int .i64 0, .int .i64 0, .int .i64 0, .int .i64 0, .slice none 0 0], blkA g5 26 #[.int .i64 a, .int .i64 b], blkA V.heap.size 9 #[.string key]] W0 from H4.out)
  clear H2 H1 z1 z2 H0 HVK HBV
  have hs0 := H4.out.size
  have hTR := Lib.hid (fun W (hh : Has V [blkA g1 32 #[pt p], blkA g2 9 #[.string f], blkA g3 9 #[.string t], blkA g6 60 #[.string ⟨#[]⟩, .string ⟨#[]⟩, .bool false, .bool false, .int .i64 0, .int .i64 0, .int .i64 0, .int .i64 0, .int .i64 0, .string ⟨#[]⟩, .int .i64 0, .int .i64 0, .int .i64 0, .int .i64 0, .slice none 0 0], blkA g5 26 #[.int .i64 a, .int .i64 b], blkA V.heap.size 9 #[.string key]] W) => (show TRD p g1 g2 g3 f t r W from
    ⟨⟨F, tbA_below H.out hh.bel⟩, HZ.out, hh.blkAt (by simp), hh.blkAt (by simp), hh.blkAt (by simp)⟩))
  refine wp_tours (P := Tryz.prog) rfl (fun _ _ => rfl) (tb_all_tours p g1 g2 g3 f t) rfl (btw r f t).length
    (fun bb r' n W => r' = r ∧ bb = upAt r f t n ∧ n ≤ (btw r f t).length ∧ NoV r f t n ∧ Has V [blkA g1 32 #[pt p], blkA g2 9 #[.string f], blkA g3 9 #[.string t], blkA g6 60 #[.string ⟨#[]⟩, .string ⟨#[]⟩, .bool false, .bool false, .int .i64 0, .int .i64 0, .int .i64 0, .int .i64 0, .int .i64 0, .string ⟨#[]⟩, .int .i64 0, .int .i64 0, .int .i64 0, .int .i64 0, .slice none 0 0], blkA g5 26 #[.int .i64 a, .int .i64 b], blkA V.heap.size 9 #[.string key]] W)
    (fun c W => c = .ret ∧ Has V [blkA g1 32 #[pt p], blkA g2 9 #[.string f], blkA g3 9 #[.string t], blkA g6 60 (fdc (verF key o) (.slice none 0 0)), blkA g5 26 #[.int .i64 a, .int .i64 b], blkA V.heap.size 9 #[.string key]] W)
    (fun bb r' n X Y h hX hf => ⟨h.1, h.2.1, h.2.2.1, h.2.2.2.1, h.2.2.2.2.firm hf hs0 (fun A hA => by
      simp only [List.mem_cons, List.not_mem_nil, or_false] at hA
      rcases hA with rfl | rfl | rfl | rfl | rfl | rfl <;> exact cel_blk _ _ _)⟩)
    (fun c X Y h hX hf => ⟨h.1, h.2.firm hf hs0 (fun A hA => by
      simp only [List.mem_cons, List.not_mem_nil, or_false] at hA
      rcases hA with rfl | rfl | rfl | rfl | rfl | rfl <;> exact cel_blk _ _ _)⟩)
    (fun bb r' n X h => ⟨by rw [h.1]; exact hTR.out X h.2.2.2.2, h.2.2.1⟩)
    r ⟨rfl, rfl, Nat.zero_le _, rfl, H4.out⟩ ?a1 ?assign ?body ?done ?stop
  case assign =>
    intro l x W K hK
    gi_wp2
    exact hK
  case body =>
    rintro l b' r' n x W hsW ⟨rfl, rfl, hn, hfs, hh⟩ hx
    rw [up_next HS.out _ _ hn] at hx
    obtain ⟨hst, hlt⟩ := up_step hx
    have htk : (btw r' f t).take (n + 1) = (btw r' f t).take n ++ [x] := by
      obtain ⟨h1, h2⟩ := List.getElem?_eq_some_iff.1 hx
      rw [List.take_succ_eq_append_getElem h1, h2]
    have hxm : x ∈ r' := List.mem_of_mem_take (List.mem_of_mem_drop (List.mem_of_getElem? hx))
    have hxs := HZ.out x hxm
    have hfi : vrow x ≠ none → o = vrow x := fun hne => by
      rw [← HO.out, ← List.take_append_drop (n + 1) (btw r' f t), htk, List.findSome?_append, List.findSome?_append, show ((btw r' f t).take n).findSome? vrow = none from hfs]
      cases hv : vrow x with
      | none => exact absurd hv hne
      | some u => simp [hv]
    have hnx : vrow x = none → NoV r' f t (n + 1) := fun hv => by
      unfold NoV
      rw [htk, List.findSome?_append, show ((btw r' f t).take n).findSome? vrow = none from hfs]
      simp [hv]
    have hRV := fun W => readV_c x.key W (by have := hxs.2.1; omega)
    have hTV := fun W => takeV_c x.value W (by have := hxs.2.2; omega)
    have HST := Lib.hid hst
    have HLT := Lib.hid hlt
    clear hx hst htk hxs hn hlt hxm hfs
    obtain ⟨xk, xv⟩ := x
    simp only at hRV hTV hfi hnx HST HLT
    cases hv1 : rdVK (sb xk) with
    | none =>
      rw [hv1] at hRV
      have hvr : vrow ⟨xk, xv⟩ = none := by unfold vrow; simp only [hv1]
      obtain ⟨v, i, nn, hvf⟩ := ansV_form (tkV (sb xv))
      rw [hvf] at hTV
      have HTK := Lib.hid (hnx hvr)
      have HRV := Lib.hid (show ∀ W, Calls Tryz.prog 28 #[.string xk] W fun e w' => e = .returned (.tuple #[.string ⟨#[]⟩, sv 0 0, .int .i64 4]) ∧ Below W.heap.size W w' from hRV)
      have HTV := Lib.hid hTV
      clear hv1 hvf hvr hfi hnx hRV hTV
      gi_wp2_with (first
        | (refine ⟨trivial, ?_⟩; gi_at_call 28; refine ((callsIn_wide.2 (HRV.out _)).inRound l).mono ?_; rintro e w5 ⟨rfl, hb5⟩
           have h5 := hh.keep hb5
           have h5s := h5.size
           have H6 := Lib.hid (h5.keep (nbl w5 (.cells #[.int .i64 0, .int .i64 0] 26)))
           have KF6 := Lib.hid (bsa hb5 (.cells #[.int .i64 0, .int .i64 0] 26))
           have b6 := Blk.new w5 26 #[.int .i64 0, .int .i64 0]
           clear hb5 h5)
        | (refine ⟨trivial, ?_⟩; gi_at_call 29; refine ((callsIn_wide.2 (HTV.out _)).inRound l).mono ?_; rintro e w7 ⟨rfl, hb7⟩
           have h7 := H6.out.keep hb7
           have KF7 := Lib.hid (bst KF6.out hb7)
           have b7 := b6.below hb7 b6.lt
           have q0 := b7.cell 0
           have q1 := b7.cell 1
           simp at q0 q1
           have k4 := (h7.blkAt (g := V.heap.size) (t := 9) (cs := #[.string key]) (by simp)).cell 0
           simp at k4
           have B6 := h7.blkAt (g := g6) (t := 60) (cs := #[.string ⟨#[]⟩, .string ⟨#[]⟩, .bool false, .bool false, .int .i64 0, .int .i64 0, .int .i64 0, .int .i64 0, .int .i64 0, .string ⟨#[]⟩, .int .i64 0, .int .i64 0, .int .i64 0, .int .i64 0, .slice none 0 0]) (by simp)
           have p0 := B6.cell 0
           have f0 := B6.frozen 0
           have p1 := B6.cell 1
           have f1 := B6.frozen 1
           have p2 := B6.cell 2
           have f2 := B6.frozen 2
           have p3 := B6.cell 3
           have f3 := B6.frozen 3
           have p4 := B6.cell 4
           have f4 := B6.frozen 4
           have p5 := B6.cell 5
           have f5 := B6.frozen 5
           have p6 := B6.cell 6
           have f6 := B6.frozen 6
           have p7 := B6.cell 7
           have f7 := B6.frozen 7
           have p8 := B6.cell 8
           have f8 := B6.frozen 8
           have p9 := B6.cell 9
           have f9 := B6.frozen 9
           have p10 := B6.cell 10
           have f10 := B6.frozen 10
           have p11 := B6.cell 11
           have f11 := B6.frozen 11
           have p12 := B6.cell 12
           have f12 := B6.frozen 12
           have p13 := B6.cell 13
           have f13 := B6.frozen 13
           have p14 := B6.cell 14
           have f14 := B6.frozen 14
           simp at p0 p1 p2 p3 p4 p5 p6 p7 p8 p9 p10 p11 p12 p13 p14
           have HB6 := Lib.hid B6
           have H7 := Lib.hid h7
           clear hb7 b7 B6 h7))
  
      exact ⟨keeps_below KF7.out, HST.out, HLT.out, HTK.out, H7.out⟩
    | some q =>
      obtain ⟨s2, a2, b2⟩ := q
      rw [hv1] at hRV
      have HRV := Lib.hid (show ∀ W, Calls Tryz.prog 28 #[.string xk] W fun e w' => e = .returned (.tuple #[.string ⟨s2.toArray⟩, sv a2 b2, .int .i64 0]) ∧ Below W.heap.size W w' from hRV)
      cases hv2 : tkV (sb xv) with
      | none =>
        rw [hv2] at hTV
        have hvr : vrow ⟨xk, xv⟩ = none := by unfold vrow; simp only [hv1, hv2]
        have HTK := Lib.hid (hnx hvr)
        have HTV := Lib.hid (show ∀ W, Calls Tryz.prog 29 #[.string xv] W fun e w' => e = .returned (.tuple #[.string ⟨#[]⟩, .bool false, .int .i64 4]) ∧ Below W.heap.size W w' from hTV)
        clear hv1 hv2 hvr hfi hnx hRV hTV
        gi_wp2_with (first
          | (refine ⟨trivial, ?_⟩; gi_at_call 28; refine ((callsIn_wide.2 (HRV.out _)).inRound l).mono ?_; rintro e w5 ⟨rfl, hb5⟩
             have h5 := hh.keep hb5
             have h5s := h5.size
             have H6 := Lib.hid (h5.keep (nbl w5 (.cells #[.int .i64 a2, .int .i64 b2] 26)))
             have KF6 := Lib.hid (bsa hb5 (.cells #[.int .i64 a2, .int .i64 b2] 26))
             have b6 := Blk.new w5 26 #[.int .i64 a2, .int .i64 b2]
             clear hb5 h5)
          | (refine ⟨trivial, ?_⟩; gi_at_call 29; refine ((callsIn_wide.2 (HTV.out _)).inRound l).mono ?_; rintro e w7 ⟨rfl, hb7⟩
             have h7 := H6.out.keep hb7
             have KF7 := Lib.hid (bst KF6.out hb7)
             have b7 := b6.below hb7 b6.lt
             have q0 := b7.cell 0
             have q1 := b7.cell 1
             simp at q0 q1
             have k4 := (h7.blkAt (g := V.heap.size) (t := 9) (cs := #[.string key]) (by simp)).cell 0
             simp at k4
             have B6 := h7.blkAt (g := g6) (t := 60) (cs := #[.string ⟨#[]⟩, .string ⟨#[]⟩, .bool false, .bool false, .int .i64 0, .int .i64 0, .int .i64 0, .int .i64 0, .int .i64 0, .string ⟨#[]⟩, .int .i64 0, .int .i64 0, .int .i64 0, .int .i64 0, .slice none 0 0]) (by simp)
             have p0 := B6.cell 0
             have f0 := B6.frozen 0
             have p1 := B6.cell 1
             have f1 := B6.frozen 1
             have p2 := B6.cell 2
             have f2 := B6.frozen 2
             have p3 := B6.cell 3
             have f3 := B6.frozen 3
             have p4 := B6.cell 4
             have f4 := B6.frozen 4
             have p5 := B6.cell 5
             have f5 := B6.frozen 5
             have p6 := B6.cell 6
             have f6 := B6.frozen 6
             have p7 := B6.cell 7
             have f7 := B6.frozen 7
             have p8 := B6.cell 8
             have f8 := B6.frozen 8
             have p9 := B6.cell 9
             have f9 := B6.frozen 9
             have p10 := B6.cell 10
             have f10 := B6.frozen 10
             have p11 := B6.cell 11
             have f11 := B6.frozen 11
             have p12 := B6.cell 12
             have f12 := B6.frozen 12
             have p13 := B6.cell 13
             have f13 := B6.frozen 13
             have p14 := B6.cell 14
             have f14 := B6.frozen 14
             simp at p0 p1 p2 p3 p4 p5 p6 p7 p8 p9 p10 p11 p12 p13 p14
             have HB6 := Lib.hid B6
             have H7 := Lib.hid h7
             clear hb7 b7 B6 h7))
    
        exact ⟨keeps_below KF7.out, HST.out, HLT.out, HTK.out, H7.out⟩
      | some q2 =>
        obtain ⟨v, i⟩ := q2
        rw [hv2] at hTV
        have hvr : vrow ⟨xk, xv⟩ = some (a2, b2, v, i) := by unfold vrow; simp only [hv1, hv2]
        have HFI := Lib.hid (show o = some (a2, b2, v, i) from (hfi (by rw [hvr]; simp)).trans hvr)
        have HTV := Lib.hid (show ∀ W, Calls Tryz.prog 29 #[.string xv] W fun e w' => e = .returned (.tuple #[.string v, .bool i, .int .i64 0]) ∧ Below W.heap.size W w' from hTV)
        clear hv1 hv2 hvr hfi hnx hRV hTV
        gi_wp2_with (first
          | (refine ⟨trivial, ?_⟩; gi_at_call 28; refine ((callsIn_wide.2 (HRV.out _)).inRound l).mono ?_; rintro e w5 ⟨rfl, hb5⟩
             have h5 := hh.keep hb5
             have h5s := h5.size
             have H6 := Lib.hid (h5.keep (nbl w5 (.cells #[.int .i64 a2, .int .i64 b2] 26)))
             have KF6 := Lib.hid (bsa hb5 (.cells #[.int .i64 a2, .int .i64 b2] 26))
             have b6 := Blk.new w5 26 #[.int .i64 a2, .int .i64 b2]
             clear hb5 h5)
          | (refine ⟨trivial, ?_⟩; gi_at_call 29; refine ((callsIn_wide.2 (HTV.out _)).inRound l).mono ?_; rintro e w7 ⟨rfl, hb7⟩
             have h7 := H6.out.keep hb7
             have KF7 := Lib.hid (bst KF6.out hb7)
             have b7 := b6.below hb7 b6.lt
             have q0 := b7.cell 0
             have q1 := b7.cell 1
             simp at q0 q1
             have k4 := (h7.blkAt (g := V.heap.size) (t := 9) (cs := #[.string key]) (by simp)).cell 0
             simp at k4
             have B6 := h7.blkAt (g := g6) (t := 60) (cs := #[.string ⟨#[]⟩, .string ⟨#[]⟩, .bool false, .bool false, .int .i64 0, .int .i64 0, .int .i64 0, .int .i64 0, .int .i64 0, .string ⟨#[]⟩, .int .i64 0, .int .i64 0, .int .i64 0, .int .i64 0, .slice none 0 0]) (by simp)
             have p0 := B6.cell 0
             have f0 := B6.frozen 0
             have p1 := B6.cell 1
             have f1 := B6.frozen 1
             have p2 := B6.cell 2
             have f2 := B6.frozen 2
             have p3 := B6.cell 3
             have f3 := B6.frozen 3
             have p4 := B6.cell 4
             have f4 := B6.frozen 4
             have p5 := B6.cell 5
             have f5 := B6.frozen 5
             have p6 := B6.cell 6
             have f6 := B6.frozen 6
             have p7 := B6.cell 7
             have f7 := B6.frozen 7
             have p8 := B6.cell 8
             have f8 := B6.frozen 8
             have p9 := B6.cell 9
             have f9 := B6.frozen 9
             have p10 := B6.cell 10
             have f10 := B6.frozen 10
             have p11 := B6.cell 11
             have f11 := B6.frozen 11
             have p12 := B6.cell 12
             have f12 := B6.frozen 12
             have p13 := B6.cell 13
             have f13 := B6.frozen 13
             have p14 := B6.cell 14
             have f14 := B6.frozen 14
             simp at p0 p1 p2 p3 p4 p5 p6 p7 p8 p9 p10 p11 p12 p13 p14
             have HB6 := Lib.hid B6
             have H7 := Lib.hid h7
             clear hb7 b7 B6 h7))
    
        have HOS := HFI.out
        subst HOS
        have H15 : Has V [blkA g6 60 (fdc (verF key (some (a2, b2, v, i))) (.slice none 0 0)), blkA g1 32 #[pt p], blkA g2 9 #[.string f], blkA g3 9 #[.string t], blkA g5 26 #[.int .i64 a, .int .i64 b], blkA V.heap.size 9 #[.string key]] _ := Has.all15 (v0 := .string key) (v1 := .string v) (v2 := .bool i) (v3 := .bool false) (v4 := .int .i64 a2) (v5 := .int .i64 b2) (v6 := .int .i64 0) (v7 := .int .i64 0) (v8 := .int .i64 0) (v9 := .string ⟨#[]⟩) (v10 := .int .i64 0) (v11 := .int .i64 0) (v12 := .int .i64 0) (v13 := .int .i64 0) (v14 := .slice none 0 0) (H7.out.perm (List.perm_middle (l₁ := [_, _, _])))
        have kf15 := (keeps_below (n := W0.heap.size) KF7.out).trans (from15 (v0 := .string key) (v1 := .string v) (v2 := .bool i) (v3 := .bool false) (v4 := .int .i64 a2) (v5 := .int .i64 b2) (v6 := .int .i64 0) (v7 := .int .i64 0) (v8 := .int .i64 0) (v9 := .string ⟨#[]⟩) (v10 := .int .i64 0) (v11 := .int .i64 0) (v12 := .int .i64 0) (v13 := .int .i64 0) (v14 := .slice none 0 0) HB6.out)
        exact ⟨kf15, rfl, H15.perm (List.perm_middle (l₁ := [_, _, _])).symm⟩
  case done =>
    rintro D b' r' n W hD hsW hno ⟨rfl, rfl, hn, hfs, hh⟩ hK
    rw [up_next HS.out _ _ hn, List.getElem?_eq_none_iff] at hno
    have hoN : o = none := by rw [← HO.out, ← (show ((btw r' f t).take n).findSome? vrow = none from hfs), List.take_of_length_le hno]
    subst hoN
    have k4 := (hh.blkAt (g := V.heap.size) (t := 9) (cs := #[.string key]) (by simp)).cell 0
    simp at k4
    have B6 := hh.blkAt (g := g6) (t := 60) (cs := #[.string ⟨#[]⟩, .string ⟨#[]⟩, .bool false, .bool false, .int .i64 0, .int .i64 0, .int .i64 0, .int .i64 0, .int .i64 0, .string ⟨#[]⟩, .int .i64 0, .int .i64 0, .int .i64 0, .int .i64 0, .slice none 0 0]) (by simp)
    have p0 := B6.cell 0
    have f0 := B6.frozen 0
    have p1 := B6.cell 1
    have f1 := B6.frozen 1
    have p2 := B6.cell 2
    have f2 := B6.frozen 2
    have p3 := B6.cell 3
    have f3 := B6.frozen 3
    have p4 := B6.cell 4
    have f4 := B6.frozen 4
    have p5 := B6.cell 5
    have f5 := B6.frozen 5
    have p6 := B6.cell 6
    have f6 := B6.frozen 6
    have p7 := B6.cell 7
    have f7 := B6.frozen 7
    have p8 := B6.cell 8
    have f8 := B6.frozen 8
    have p9 := B6.cell 9
    have f9 := B6.frozen 9
    have p10 := B6.cell 10
    have f10 := B6.frozen 10
    have p11 := B6.cell 11
    have f11 := B6.frozen 11
    have p12 := B6.cell 12
    have f12 := B6.frozen 12
    have p13 := B6.cell 13
    have f13 := B6.frozen 13
    have p14 := B6.cell 14
    have f14 := B6.frozen 14
    simp at p0 p1 p2 p3 p4 p5 p6 p7 p8 p9 p10 p11 p12 p13 p14
    have HB6 := Lib.hid B6
    have HH := Lib.hid hh
    clear B6 hh hno
    go_wp2_with fail
    have hne : D ≠ g6 := by
      rintro rfl
      have := HB6.out
      unfold Blk at this
      rw [hK] at this
      cases this
    have hK2 := heap15 (v0 := .string key) (v1 := .string ⟨#[]⟩) (v2 := .bool false) (v3 := .bool false) (v4 := .int .i64 0) (v5 := .int .i64 0) (v6 := .int .i64 0) (v7 := .int .i64 0) (v8 := .int .i64 0) (v9 := .string ⟨#[]⟩) (v10 := .int .i64 0) (v11 := .int .i64 0) (v12 := .int .i64 0) (v13 := .int .i64 0) (v14 := .slice none 0 0) hne hK
    have H15 : Has V [blkA g6 60 (fdc (verF key none) (.slice none 0 0)), blkA g1 32 #[pt p], blkA g2 9 #[.string f], blkA g3 9 #[.string t], blkA g5 26 #[.int .i64 a, .int .i64 b], blkA V.heap.size 9 #[.string key]] _ := Has.all15 (v0 := .string key) (v1 := .string ⟨#[]⟩) (v2 := .bool false) (v3 := .bool false) (v4 := .int .i64 0) (v5 := .int .i64 0) (v6 := .int .i64 0) (v7 := .int .i64 0) (v8 := .int .i64 0) (v9 := .string ⟨#[]⟩) (v10 := .int .i64 0) (v11 := .int .i64 0) (v12 := .int .i64 0) (v13 := .int .i64 0) (v14 := .slice none 0 0) (HH.out.perm (List.perm_middle (l₁ := [_, _, _])))
    refine ⟨by simp, .inl ⟨_, _, rfl, run_takeDeferred hK2, ?_⟩⟩
    have hfin := H15.firm (.put (B := V.heap.size) D (.deferred none) (by omega) hK2 rfl) (Nat.le_refl _) (fun A hA => by
      simp only [List.mem_cons, List.not_mem_nil, or_false] at hA
      rcases hA with rfl | rfl | rfl | rfl | rfl | rfl <;> exact cel_blk _ _ _)
    exact ⟨_, results_fd rfl rfl (hfin.blkAt (g := g6) (t := 60) (cs := fdc (verF key none) (.slice none 0 0)) (by simp)) rfl, rfl, hfin.bel⟩
  case stop =>
    rintro D c W hD hsW ⟨rfl, hh⟩ hK
    go_wp2_with fail
    refine ⟨by simp, .inl ⟨_, _, rfl, run_takeDeferred hK, ?_⟩⟩
    have hf : Firm V.heap.size W (W.putObj D (.deferred none)) := .put D _ (by omega) hK rfl
    have hfin := hh.firm hf (Nat.le_refl _) (fun A hA => by
      simp only [List.mem_cons, List.not_mem_nil, or_false] at hA
      rcases hA with rfl | rfl | rfl | rfl | rfl | rfl <;> exact cel_blk _ _ _)
    exact ⟨_, results_fd rfl rfl (hfin.blkAt (g := g6) (t := 60) (cs := fdc (verF key o) (.slice none 0 0)) (by simp)) rfl, rfl, hfin.bel⟩
end Go.Proofs.YtldbmogondmgmaaGreatDoor
