/-
  SettleOnce, walked (written by wip/gensel.py).
-/
import Derived.Test.YthimheckmpepdaaGreatDoorKO39
set_option linter.unusedVariables false
set_option linter.unusedSimpArgs false
set_option maxRecDepth 100000
namespace Go.Proofs.YthimheckmpepdaaGreatDoor
open Go.RowKit

set_option maxHeartbeats 8000000 in
theorem once_no (A : Option Addr) (n c : Nat) (l : List Th) (key f t : ByteArray) (q : Int) (x : Rc) (A1 : Option Addr) (n1 c1 : Nat) (y : Tx) (m1 m2 l1 l2 : Int) (w : World) (hx : ThAt w A n l) (hz : ∀ x ∈ l, TSz x) (hn : n ≤ 9223372036854775807) (hw : WtAt w A1 n1 x.l) (hn1 : n1 ≤ 9223372036854775807) (hks : key.size ≤ 140737488351232) (hfs : f.size ≤ 140737488351232) (hts : t.size ≤ 140737488351232) (hM : MaxL w) (ops : List Op_) (k : Int) (hk : ¬ k = 0) (ho : resC (tabP l) key x = (ops, k)) :
    Calls Tryz.prog 7 #[.slice A n c, .agg (askw key f t q x (.slice A1 n1 c1) y m1 m2 l1 l2)] w fun e w' => e = .returned (.bool true) ∧ Below w.heap.size w w' := by
  have H0 := Lib.hid ((Has.nil (Below.refl w.heap.size w)).newBlk 66 (askw key f t q x (.slice A1 n1 c1) y m1 m2 l1 l2))
  have HX := Lib.hid hx
  have HZ := Lib.hid hz
  have HW := Lib.hid hw
  clear hx hz hw
  obtain ⟨r, hr⟩ : ∃ r, tabP l = r := ⟨_, rfl⟩
  have HRO := Lib.hid (show ROk 7680 r from hr ▸ tabP_ok HZ.out)
  have HTB := Lib.hid (fun (W : World) (hb : Below w.heap.size w W) => tables14_c A n c l W (HX.out.below hb) hn HZ.out)
  rw [hr] at HTB ho
  clear hr
  have HS1 := Lib.hid (fun (T2 : List As) (p : Nat) {W : World} (hh : Has w (tbA p r :: T2) W) => seSett_no hh HRO.out (by decide) hM key x A1 n1 c1 (fun W hW => HW.out.below hW.bel) hn1 ops k hk ho)
  clear ho hk
  go_enter Tryz.func7, Tryz.ntmps7
  go_wp2_with fail
  refine (HTB.out _ H0.out.bel).mono ?_
  rintro e w1 ⟨p, b, rfl, h1⟩
  have H1 := Lib.hid (show Has w (tbA p r :: rtA b r :: blkA w.heap.size 66 (askw key f t q x (.slice A1 n1 c1) y m1 m2 l1 l2) :: []) w1 from H0.out.join h1)
  clear h1
  have z1 := H1.out.blkAt (g := w.heap.size) (t := 66) (cs := (askw key f t q x (.slice A1 n1 c1) y m1 m2 l1 l2)) (by simp)
  have hlr := Lib.hid (askw_rec z1)
  have a1_0 := z1.cell 0
  simp at a1_0
  clear z1
  go_wp2_with (refine wpList_load_mid rfl 64 _ rfl w.heap.size 4 rfl _ _ hlr.out Tryz.underlying64 rfl (by kernel_rfl) ?_)
  clear hlr
  refine (HS1.out _ _ H1.out).mono ?_
  rintro e w2 ⟨q1, A2, n2, c2, rfl, -, h2⟩
  have HF := Lib.hid h2
  clear h2 H1
  go_wp2_with fail
  refine (awake14 _ (hM.below HF.out.bel)).mono ?_
  rintro e w99 ⟨rfl, hb99⟩
  have hfin := (HF.out.keep hb99).bel
  clear hb99
  go_wp2_with fail
  go_ret
  exact ⟨rfl, hfin⟩
theorem settleOnce_walk (A : Option Addr) (n c : Nat) (l : List Th) (key f t : ByteArray) (q : Int) (x : Rc) (A1 : Option Addr) (n1 c1 : Nat) (y : Tx) (m1 m2 l1 l2 : Int) (w : World) (hx : ThAt w A n l) (hz : ∀ x ∈ l, TSz x) (hn : n ≤ 9223372036854775807) (hw : WtAt w A1 n1 x.l) (hn1 : n1 ≤ 9223372036854775807) (hks : key.size ≤ 140737488351232) (hfs : f.size ≤ 140737488351232) (hts : t.size ≤ 140737488351232) (hM : MaxL w) :
    Calls Tryz.prog 7 #[.slice A n c, .agg (askw key f t q x (.slice A1 n1 c1) y m1 m2 l1 l2)] w fun e w' => e = .returned (.bool true) ∧ Below w.heap.size w w' := by
  obtain ⟨o, ho⟩ : ∃ o, resC (tabP l) key x = o := ⟨_, rfl⟩
  obtain ⟨ops, k⟩ := o
  by_cases hk : k = 0
  · subst hk
    have hon := res_once (tabP_ok hz).sor ho
    cases h1 : pint (tabP l) key with
    | none =>
      cases h2 : pint (rapp (tabP l) ops) key with
      | none => exact once_A A n c l key f t q x A1 n1 c1 y m1 m2 l1 l2 w hx hz hn hw hn1 hks hfs hts hM ops ho h1 h2
      | some y2 => exact once_B A n c l key f t q x A1 n1 c1 y m1 m2 l1 l2 w hx hz hn hw hn1 hks hfs hts hM ops ho h1 y2 h2
    | some z =>
      by_cases hid : z.id = x.id
      · cases h2 : pint (rapp (tabP l) ops) key with
        | none => exact once_C A n c l key f t q x A1 n1 c1 y m1 m2 l1 l2 w hx hz hn hw hn1 hks hfs hts hM ops ho z h1 hid h2
        | some y2 => exact once_D A n c l key f t q x A1 n1 c1 y m1 m2 l1 l2 w hx hz hn hw hn1 hks hfs hts hM ops ho z h1 hid y2 h2
      · exact once_E A n c l key f t q x A1 n1 c1 y m1 m2 l1 l2 w hx hz hn hw hn1 hks hfs hts hM ops ho z h1 hid (hon.2.2 z h1 hid)
  · exact once_no A n c l key f t q x A1 n1 c1 y m1 m2 l1 l2 w hx hz hn hw hn1 hks hfs hts hM ops k hk ho
end Go.Proofs.YthimheckmpepdaaGreatDoor
