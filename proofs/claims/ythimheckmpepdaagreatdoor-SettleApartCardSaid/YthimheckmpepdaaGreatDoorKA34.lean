/-
  Layer 14, the code: Resolve, pending (written by wip/genset.py).
  Layer 14, the code: Resolve (written by wip/genset.py).
  Layer 12, plain: the chapter's examples.
  Layer 14, plain: what came to a span; the examples.
  Layer 12: ReadVersion, whole.
  Layer 12, the code: the version up to a stamp (written by wip/genpkver.py).
-/
import Derived.Test.YthimheckmpepdaaGreatDoorKA33
import Derived.Test.YthimheckmpepdaaGreatDoorKA32
import Derived.Test.YthimheckmpepdaaGreatDoorKA25
set_option linter.unusedVariables false
set_option linter.unusedSimpArgs false
set_option maxRecDepth 100000
namespace Go.Proofs.YthimheckmpepdaaGreatDoor
open Go.RowKit

set_option maxHeartbeats 4000000 in
theorem seRes_push {w V : World} {T : List As} {p N : Nat} {r : List Rw} (h : Has w (tbA p r :: T) V) (hr : ROk N r) (hN : N ≤ 999999000) (hM : MaxL w) (key : ByteArray) (x : Rc) (A : Option Addr) (n c : Nat) (hx : ∀ W, Has w (tbA p r :: T) W → WtAt W A n x.l) (hn : n ≤ 9223372036854775807) (hc : chkS key x = 0) (y : It) (ho : ownI (pint r key) x.id = some y) (hs : x.st = 1) :
    Calls Tryz.prog 20 #[pt p, .string key, rcv x (.slice A n c)] V fun e w' => AnsRes (pushP y key x, 0) w (tbA p r :: T) e w' := by
  have h1 := (h.newBlk 64 (rcc x (.slice A n c))).swap
  have H1 := Lib.hid h1
  have HCK := Lib.hid (seCheckRec h1 hr hN hM key x A n c (fun W hW => hx W (show Has w (blkA V.heap.size 64 (rcc x (.slice A n c)) :: tbA p r :: T) W from hW.swap).tail) hn)
  have b1 := h1.blkAt (g := V.heap.size) (t := 64) (cs := rcc x (.slice A n c)) (by simp)
  have q0 := b1.cell 0
  have q1 := b1.cell 1
  have q2 := b1.cell 2
  have q3 := b1.cell 3
  have q4 := b1.cell 4
  have q5 := b1.cell 5
  have q6 := b1.cell 6
  have q7 := b1.cell 7
  have q8 := b1.cell 8
  have q9 := b1.cell 9
  simp at q0 q1 q2 q3 q4 q5 q6 q7 q8 q9
  have HIN := Lib.hid (fun (hk : isK key = true) W (hW : Has w (tbA p r :: blkA V.heap.size 64 (rcc x (.slice A n c)) :: T) W) => let ⟨F, hA, _⟩ := hW.get; seIntentOf hA hr.szs (hM.below hW.bel) key hk x.id)
  clear h h1 hr hx b1
  have HI2 := Lib.hid (HIN.out (chkS_ok hc).1)
  have hkk := (chkS_ok hc).1
  have hmr := (mayR_parts (chkS_ok hc).2).1
  have hmy := pint_may (ownI_some ho).1
  have HGO := Lib.hid (fun W hW => seGone key hkk W (hM.below hW))
  have HCO := Lib.hid (fun v W => seCounts y v x (.slice A n c) W)
  have HVE := Lib.hid (fun A2 n2 c2 W (hW : Below w.heap.size w W) hx2 hn2 => seVersion key hkk x.sw x.sl hmr y hmy A2 n2 c2 W (hM.below hW) hx2 hn2)
  have HPU := Lib.hid (fun A2 n2 c2 W (hW : Below w.heap.size w W) hx2 hn2 => sePushed key hkk y hmy A2 n2 c2 x hmr (.slice A n c) W (hM.below hW) hx2 hn2)
  rw [hc] at HCK
  rw [ho] at HI2
  unfold AnsT at HI2
  simp only at HI2
  clear hc HIN hM ho hkk hmr hmy
  unfold AnsO at HPU
  have hs3 : (x.st == 3) = false := by rw [hs]; rfl
  have hs4 : (x.st == 4) = false := by rw [hs]; rfl
  have hs1 : (x.st == 1) = true := by rw [hs]; rfl
  clear HGO HVE HCO hs
  go_enter Tryz.func20, Tryz.ntmps20
  go_wp2_with (first
      | (go_at_call 64; refine HCK.out.mono ?_; rintro e w1 ⟨rfl, h2⟩
         have b2 := h2.blkAt (g := V.heap.size) (t := 64) (cs := rcc x (.slice A n c)) (by simp)
         have q0 := b2.cell 0
         have q1 := b2.cell 1
         have q2 := b2.cell 2
         have q3 := b2.cell 3
         have q4 := b2.cell 4
         have q5 := b2.cell 5
         have q6 := b2.cell 6
         have q7 := b2.cell 7
         have q8 := b2.cell 8
         have q9 := b2.cell 9
         simp at q0 q1 q2 q3 q4 q5 q6 q7 q8 q9
         have H2 := Lib.hid h2
         clear h2 b2)
      | (go_at_call 65; refine (HI2.out _ H2.out).mono ?_; rintro e w2 ⟨⟨A2, n2, c2, rfl, hat, hn2⟩, hb2⟩
         have h3 := H2.out.keep (bsa hb2 (.cells (itc y (.slice A2 n2 c2)) 38))
         have b3 := h3.blkAt (g := V.heap.size) (t := 64) (cs := rcc x (.slice A n c)) (by simp)
         have q0 := b3.cell 0
         have q1 := b3.cell 1
         have q2 := b3.cell 2
         have q3 := b3.cell 3
         have q4 := b3.cell 4
         have q5 := b3.cell 5
         have q6 := b3.cell 6
         have q7 := b3.cell 7
         have q8 := b3.cell 8
         have q9 := b3.cell 9
         simp at q0 q1 q2 q3 q4 q5 q6 q7 q8 q9
         have kI := Blk.new w2 38 (itc y (.slice A2 n2 c2))
         have KI := Lib.hid kI
         have HAT := Lib.hid (hat.below (nbl w2 (.cells (itc y (.slice A2 n2 c2)) 38)))
         clear hat kI
         have H3 := Lib.hid h3
         clear hb2 h3 b3)
      | (go_at_call 69; refine (HPU.out _ _ _ _ H3.out.bel HAT.out hn2).mono ?_; rintro e w5 ⟨⟨v5, rfl, hrow⟩, hb5⟩; obtain ⟨A5, c5, rfl, -⟩ := OAt.own hrow
         have H5 := Lib.hid ((show Has w (blkA V.heap.size 64 (rcc x (.slice A n c)) :: tbA p r :: T) _ from H3.out.swap).tail.newOp hrow hb5)
         clear hrow hb5)
      | fail)
  go_ret2
  exact ⟨_, _, _, rfl, rfl, H5.out⟩
end Go.Proofs.YthimheckmpepdaaGreatDoor
set_option linter.unusedVariables false
set_option linter.unusedSimpArgs false
set_option maxRecDepth 100000
namespace Go.Proofs.YthimheckmpepdaaGreatDoor
open Go.RowKit

theorem seResolve {w V : World} {T : List As} {p N : Nat} {r : List Rw} (h : Has w (tbA p r :: T) V) (hr : ROk N r) (hN : N ≤ 999999000) (hM : MaxL w) (key : ByteArray) (x : Rc) (A : Option Addr) (n c : Nat) (hx : ∀ W, Has w (tbA p r :: T) W → WtAt W A n x.l) (hn : n ≤ 9223372036854775807) :
    Calls Tryz.prog 20 #[pt p, .string key, rcv x (.slice A n c)] V fun e w' => AnsRes (resC r key x) w (tbA p r :: T) e w' := by
  unfold resC
  by_cases hc : chkS key x = 0
  · rw [if_pos hc]
    unfold resO
    cases ho : ownI (pint r key) x.id with
    | none => exact seRes_none h hr hN hM key x A n c hx hn hc ho
    | some y =>
      simp only
      unfold resP
      by_cases h3 : x.st = 3
      · rw [if_pos h3]
        cases hcn : counts y x with
        | true => exact seRes_ver h hr hN hM key x A n c hx hn hc y ho h3 hcn
        | false => exact seRes_else h hr hN hM key x A n c hx hn hc y ho h3 hcn
      · rw [if_neg h3]
        by_cases h4 : x.st = 4
        · rw [if_pos h4]
          exact seRes_ab h hr hN hM key x A n c hx hn hc y ho h4
        · rw [if_neg h4]
          by_cases h1 : x.st = 1
          · rw [if_pos h1]
            exact seRes_push h hr hN hM key x A n c hx hn hc y ho h1
          · rw [if_neg h1]
            exact seRes_st h hr hN hM key x A n c hx hn hc y ho (by simpa using h3) (by simpa using h4) (by simpa using h1)
  · rw [if_neg hc]
    refine seRes_no h hr hN hM key x A n c hx hn ?_
    unfold chkS at *
    split at hc
    · exact absurd rfl hc
    · rw [if_neg (by assumption)]
end Go.Proofs.YthimheckmpepdaaGreatDoor
set_option linter.unusedVariables false
set_option maxRecDepth 100000
namespace Go.Proofs.YthimheckmpepdaaGreatDoor
open Go.RowKit

def bA : ByteArray := ⟨#[97]⟩
def thV (v : ByteArray) (wall : Int) : Th := ⟨0, bA, v, false, wall, 0, zI⟩
def thI (y : It) : Th := ⟨1, bA, ⟨#[]⟩, false, 0, 0, y⟩
end Go.Proofs.YthimheckmpepdaaGreatDoor
set_option linter.unusedVariables false
set_option linter.unusedSimpArgs false
set_option maxRecDepth 100000
namespace Go.Proofs.YthimheckmpepdaaGreatDoor
open Go.RowKit

/-- The end of a span as a key. -/
def endK (s : ByteArray) : ByteArray := if s.size = 0 then ⟨#[0]⟩ else s.extract 0 (min s.size 32)
def isInP (f t : ByteArray) (k : ByteArray) : Bool := !(slt k f) && slt k t
def rdIK (k : List UInt8) : Option (List UInt8) := match rk 105 k with | some (s, []) => some s | _ => none
def hvRow (f t : ByteArray) (P : Int × Int → Bool) (x : Rw) : Bool :=
  match rdVK (sb x.key), tkV (sb x.value) with
  | some (s, a, b), some _ => isInP f t (bs s) && P (a, b)
  | _, _ => false
def fiRow (f t : ByteArray) (P : It → Bool) (x : Rw) : Option It :=
  match rdIK (sb x.key), tkI (sb x.value) with
  | some s, some y => if (isInP f t (bs s) && P y) = true then some y else none
  | _, _ => none
def vrows (r : List Rw) (f t : ByteArray) : List Rw := btw r (bs (vkey (sb (endK f)) 1099511627776 1048575)) (bs (vkey (sb (endK t)) 0 0) ++ zr)
def irows (r : List Rw) (f t : ByteArray) : List Rw := btw r (bs (ikey (sb (endK f)))) (bs (ikey (sb (endK t))) ++ zr)
def lateP (x : Tx) (ts : Int × Int) (c : Int × Int) : Bool := !(lt c (x.rw, x.rl)) && !(lt ts c)
def wayP (x : Tx) (ts : Int × Int) (y : It) : Bool := !(decide (y.id = x.id)) && !(lt ts (y.sw, y.sl))
def hasVP (r : List Rw) (f t : ByteArray) (P : Int × Int → Bool) : Bool := (vrows r f t).any (hvRow f t P)
def fstIP (r : List Rw) (f t : ByteArray) (P : It → Bool) : Option It := (irows r f t).findSome? (fiRow f t P)
def chkR (f t : ByteArray) (x : Tx) (ts low : Int × Int) : Int :=
  if (slt f t && mayX x && (may ts.1 ts.2 && may low.1 low.2) && !(lt ts (x.rw, x.rl))) = false then 2
  else if lt low (x.rw, x.rl) = false then 122 else 0
def refC (r : List Rw) (f t : ByteArray) (x : Tx) (ts low : Int × Int) : It × Int :=
  if chkR f t x ts low = 0 then
    (if hasVP r f t (lateP x ts) = true then (zI, 202) else
      match fstIP r f t (wayP x ts) with
      | some y => (y, 120)
      | none => (zI, 0))
  else (zI, chkR f t x ts low)

/-! ### the examples -/
def bB : ByteArray := ⟨#[98]⟩
def chZ : It := ⟨7, 0, 1, bA, 15, 0, 0, 0, [⟨3, ⟨#[122]⟩, false⟩]⟩
def chapP : List Th := [thV ⟨#[120]⟩ 10, thI chZ]
def recP (id st wall : Int) : Rc := ⟨id, 0, st, 1, bA, wall, 0, 0, 0, []⟩
def recE (id ep st wall : Int) : Rc := ⟨id, ep, st, 1, bA, wall, 0, 0, 0, []⟩
def rdrP (id wall : Int) : Tx := ⟨id, 0, 1, bA, wall, 0, wall, 0, wall, 0, 0, 0⟩
theorem sw1 : resC (tabP chapP) bA (recP 7 3 20) = ([verO bA 20 0 chZ, goneO bA], 0) := by kernel_rfl
theorem sw2 : resC (tabP chapP) bA (recP 7 3 14) = ([goneO bA], 0) := by kernel_rfl
theorem sw3 : resC (tabP chapP) bA (recE 7 1 3 20) = ([goneO bA], 0) := by kernel_rfl
theorem sw4 : resC (tabP chapP) bA (recP 7 1 18) = ([pushO bA chZ 18 0], 0) := by kernel_rfl
theorem sw5 : resC (tabP chapP) bA (recP 8 3 20) = ([], 0) := by kernel_rfl
theorem sw6 : refC (tabP chapP) bA bB (rdrP 9 12) (14, 0) (0, 0) = (zI, 0) := by kernel_rfl
theorem sw7 : refC (tabP chapP) bA bB (rdrP 9 12) (15, 0) (0, 0) = (chZ, 120) := by kernel_rfl
theorem sw8 : refC (tabP chapP) bA bB (rdrP 9 10) (14, 0) (0, 0) = (zI, 202) := by kernel_rfl
theorem sw9 : qryC (tabP chapP) bA 3 (recP 7 2 15) = (true, 0) := by kernel_rfl
theorem sw10 : qryC (tabP chapP) bA 3 (recP 7 2 14) = (false, 0) := by kernel_rfl
end Go.Proofs.YthimheckmpepdaaGreatDoor
set_option linter.unusedVariables false
set_option linter.unusedSimpArgs false
set_option maxRecDepth 100000
namespace Go.Proofs.YthimheckmpepdaaGreatDoor
open Go.RowKit

/-- What ReadVersion answers. -/
def AnsK (o : Option (List UInt8 × Int × Int)) : Ending :=
  match o with
  | none => .returned (.tuple #[.string ⟨#[]⟩, sv 0 0, .int .i64 4])
  | some (s, a, b) => .returned (.tuple #[.string ⟨s.toArray⟩, sv a b, .int .i64 0])
set_option maxHeartbeats 1000000 in
theorem readVersion_bad (k : ByteArray) (w : World) (hk : k.size ≤ 150000000000000) (s d : ByteArray) (hr : rkA (rk 118 (sb k)) = .returned (.tuple #[.string s, .string d, .bool true]))
    (a b n : Int) (t : ByteArray) (hT : ∀ V, Calls Tryz.prog 202 #[.string d] V fun e w' => e = .returned (.tuple #[sv a b, .string t, .int .i64 n]) ∧ Below V.heap.size V w') (hn : (n != 0) = true ∨ ((n != 0) = false ∧ t.toList ≠ [])) :
    Calls Tryz.prog 152 #[.string k] w fun e w' => e = .returned (.tuple #[.string ⟨#[]⟩, sv 0 0, .int .i64 4]) ∧ Below w.heap.size w w' := by
  have HC := Lib.hid (readKey_c 118 k (w.alloc (.cells #[.int .i64 0, .int .i64 0] 26)) hk)
  rw [hr] at HC
  have HX := Lib.hid (Blk.new w 26 #[.int .i64 0, .int .i64 0])
  have HT := Lib.hid hT
  clear hr hT
  rcases hn with hn | ⟨hn, ht⟩
  · go_enter Tryz.func152, Tryz.ntmps152
    go_wp2_with (first
    | (go_at_call 201; refine HC.out.mono ?_; rintro e w1 ⟨rfl, hb1⟩
       have g1 := (nbl w (.cells #[.int .i64 0, .int .i64 0] 26)).trans (hb1.mono (by simp))
       have k1 : Blk w1 w.heap.size 26 #[.int .i64 0, .int .i64 0] := HX.out.below hb1 (by simp))
    | (go_at_call 202; refine (HT.out _).mono ?_; rintro e w2 ⟨rfl, hb2⟩
       have k2 := k1.below hb2 k1.lt
       have c0 := k2.cell 0
       have c1 := k2.cell 1
       have f0 := k2.frozen 0
       have f1 := k2.frozen 1
       simp at c0 c1
       have g2 := g1.trans (hb2.mono g1.size)))
    refine ret_tct rfl rfl ((k2.all2 (v0 := .int .i64 a) (v1 := .int .i64 b)).all2 (v0 := .int .i64 0) (v1 := .int .i64 0)) rfl ⟨rfl, (((g2.setCell (by exact Nat.le_refl _) _).setCell (by exact Nat.le_refl _) _).setCell (by exact Nat.le_refl _) _).setCell (by exact Nat.le_refl _) _⟩
  · have hte : (t.toList == []) = false := by simpa using ht
    go_enter Tryz.func152, Tryz.ntmps152
    go_wp2_with (first
    | (go_at_call 201; refine HC.out.mono ?_; rintro e w1 ⟨rfl, hb1⟩
       have g1 := (nbl w (.cells #[.int .i64 0, .int .i64 0] 26)).trans (hb1.mono (by simp))
       have k1 : Blk w1 w.heap.size 26 #[.int .i64 0, .int .i64 0] := HX.out.below hb1 (by simp))
    | (go_at_call 202; refine (HT.out _).mono ?_; rintro e w2 ⟨rfl, hb2⟩
       have k2 := k1.below hb2 k1.lt
       have c0 := k2.cell 0
       have c1 := k2.cell 1
       have f0 := k2.frozen 0
       have f1 := k2.frozen 1
       simp at c0 c1
       have g2 := g1.trans (hb2.mono g1.size)))
    refine ret_tct rfl rfl ((k2.all2 (v0 := .int .i64 a) (v1 := .int .i64 b)).all2 (v0 := .int .i64 0) (v1 := .int .i64 0)) rfl ⟨rfl, (((g2.setCell (by exact Nat.le_refl _) _).setCell (by exact Nat.le_refl _) _).setCell (by exact Nat.le_refl _) _).setCell (by exact Nat.le_refl _) _⟩
theorem rk_size {m : UInt8} {k s r : List UInt8} (h : rk m k = some (s, r)) : r.length ≤ k.length ∧ 1 ≤ s.length ∧ s.length ≤ 32 ∧ k = m :: (okey s ++ r) := by
  unfold rk at h
  split at h
  · rename_i hh
    cases ht : tkey 1000 (k.drop 1) with
    | error x => rw [ht] at h; cases h
    | ok p =>
      rw [ht] at h
      simp only at h
      split at h
      · rename_i hl
        cases h
        have hb := (tkey_back _ _ _ _ _ (Nat.le_refl _) ht).1
        have hk : k = m :: (okey s ++ r) := by
          cases k with
          | nil => cases hh
          | cons c k =>
            simp only [List.head?_cons, Option.some.injEq] at hh
            subst hh
            simp only [List.drop_succ_cons, List.drop_zero] at hb
            rw [← hb]
            unfold okey
            simp
        exact ⟨by rw [hk]; simp; omega, hl.1, hl.2, hk⟩
      · cases h
  · cases h
theorem readV_c (k : ByteArray) (w : World) (hk : k.size ≤ 150000000000000) :
    Calls Tryz.prog 152 #[.string k] w fun e w' => e = AnsK (rdVK (sb k)) ∧ Below w.heap.size w w' := by
  unfold rdVK
  cases hr : rk 118 (sb k) with
  | none => exact readVersion_no k w hk hr
  | some p =>
    obtain ⟨s, r⟩ := p
    have hrs := (rk_size hr).1
    rw [sb_len] at hrs
    have hTD := fun V => takeDownAny (bs r) V (by show r.length ≤ _; omega)
    have hob : ob (bs r) = r := rfl
    rw [hob] at hTD
    have hrk : rkA (rk 118 (sb k)) = .returned (.tuple #[.string (bs s), .string (bs r), .bool true]) := by rw [hr]; rfl
    cases ht : tdown r with
    | error x =>
      rw [ht] at hTD
      have hx : x ≠ 0 := by
        unfold tdown at ht
        split at ht
        · cases ht; decide
        · split at ht
          · cases ht
          · cases ht; decide
      simp only [ht]
      exact readVersion_bad k w hk _ _ hrk _ _ _ _ hTD (.inl (by show ((x : Int) != 0) = true; simpa using hx))
    | ok q =>
      obtain ⟨a, b, l⟩ := q
      rw [ht] at hTD
      cases l with
      | nil =>
        obtain ⟨hm, ho⟩ := odown_tdown _ _ _ _ ht
        rw [List.append_nil] at ho
        simp only [ht]
        exact readVersion_c k w hk s a b hm (by rw [hr, ho])
      | cons c l =>
        simp only [ht]
        exact readVersion_bad k w hk _ _ hrk _ _ _ _ hTD (.inr ⟨rfl, by rw [Lib.toList_data]; simp [tdR]⟩)
end Go.Proofs.YthimheckmpepdaaGreatDoor
set_option linter.unusedVariables false
set_option linter.unusedSimpArgs false
set_option maxRecDepth 100000
namespace Go.Proofs.YthimheckmpepdaaGreatDoor
open Go.RowKit Go.Shelf
attribute [local go_sem] Oper.semAt_some

theorem pk_from_put {B g i : Nat} {u : Value} {t : TypeId} {cs : Array Value} {W : World} (h : Blk W g t cs) : KeepsFrom B W (W.setCell ⟨g, i, none⟩ u) := by
  refine ⟨by simp [World.setCell], fun k o _ hk ho => ?_⟩
  have hne : g ≠ k := by
    rintro rfl
    unfold Blk at h
    rw [h] at hk
    cases hk
    cases ho
  simp only [World.setCell, Array.getElem?_modify]
  rw [if_neg hne, hk]
theorem vkey_le (key : ByteArray) (a b : Int) (h : isK key = true) : (bs (vkey (sb key) a b)).size ≤ 1000 := by
  have h1 := okey_len key (isK_iff.1 h).2
  have h2 := odown_le a b
  show (vkey _ _ _).length ≤ _
  simp only [vkey, List.length_cons, List.length_append]
  omega
theorem heap_set_ne {W : World} {g i D : Nat} {u : Value} (h : D ≠ g) : (W.setCell ⟨g, i, none⟩ u).heap[D]? = W.heap[D]? := by
  simp only [World.setCell, Array.getElem?_modify]
  rw [if_neg (fun e => h e.symm)]
theorem ansV_form (o : Option (ByteArray × Bool)) : ∃ v i n, AnsV o = .returned (.tuple #[.string v, .bool i, .int .i64 n]) := by
  cases o with
  | none => exact ⟨_, _, _, rfl⟩
  | some x => exact ⟨_, _, _, rfl⟩
end Go.Proofs.YthimheckmpepdaaGreatDoor
