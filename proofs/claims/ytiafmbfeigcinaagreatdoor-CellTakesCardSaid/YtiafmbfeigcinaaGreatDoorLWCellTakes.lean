/-
  Layer 11: CellTakes: what a text says is the document's.
-/
import Derived.Test.YtiafmbfeigcinaaGreatDoorZ21
import Derived.Test.YtiafmbfeigcinaaGreatDoorZ18
set_option linter.unusedVariables false
set_option linter.unusedSimpArgs false
set_option maxRecDepth 100000
namespace Go.Proofs.YtiafmbfeigcinaaGreatDoor
open Go.RowKit

set_option maxHeartbeats 8000000 in
theorem cellTakes_walk (t : ByteArray) (w : World) (k0 : t.size ≤ 140737488351232) (hm : MaxL w) :
    Calls Tryz.prog 9 #[.string t] w fun e w' => e = .returned (.bool true) ∧ Below w.heap.size w w' := by
  have kt : t.size ≤ 225000000000000 := by omega
  obtain ⟨na, nk, en⟩ := AnsN_two (tkN (sb t))
  obtain ⟨sa, sc, sk, es⟩ := AnsS_two (tkS (sb t))
  obtain ⟨vs, vd, vk, ev⟩ := AnsV_two (tkV (sb t))
  obtain ⟨x, ik, ei⟩ := AnsI_two (tkI (sb t))
  obtain ⟨y, rk', er⟩ := AnsR_two (tkR (sb t))
  have EN := Lib.hid en
  have ES := Lib.hid es
  have EV := Lib.hid ev
  have EI := Lib.hid ei
  have ER := Lib.hid er
  have HM := Lib.hid hm
  have hvv := self_eq vs
  clear en es ev ei er hm
  go_enter Tryz.func9, Tryz.ntmps9
  go_wp2_with (first
    | (go_at_call 38; refine (takeN_c t _ kt).mono ?_; rintro e w1 ⟨he, b1⟩; rw [EN.out] at he; subst he)
    | (go_at_call 39; refine (rTakeNumber t _ kt).mono ?_; rintro e w2 ⟨he, b2⟩; rw [EN.out] at he; subst he
       have c2 := bst b1 b2)
    | (go_at_call 40; refine (takeS_c t _ kt).mono ?_; rintro e w3 ⟨he, b3⟩; rw [ES.out] at he; subst he
       have h3 := (Has.nil (bst c2 b3)).newBlk 26 #[.int .i64 sa, .int .i64 sc]
       have H3 := Lib.hid h3
       clear h3)
    | (go_at_call 41; refine (rTakeStamp t _ kt).mono ?_; rintro e w4 ⟨he, b4⟩; rw [ES.out] at he; subst he
       have h4 := (H3.out.keep b4).newBlk 26 #[.int .i64 sa, .int .i64 sc]
       have H4 := Lib.hid h4
       clear h4)
    | (go_at_call 42; refine (takeV_c t _ kt).mono ?_; rintro e w5 ⟨he, b5⟩; rw [EV.out] at he; subst he
       have H5 := Lib.hid (H4.out.keep b5))
    | (go_at_call 43; refine (rTakeVersion t _ kt).mono ?_; rintro e w6 ⟨he, b6⟩; rw [EV.out] at he; subst he
       have H6 := Lib.hid (H5.out.keep b6))
    | (go_at_call 44; refine (takeI_c t _ kt).mono ?_; rintro e w7 ⟨he, b7⟩
       obtain ⟨A1, n1, c1, rfl, at1, l1⟩ := EI.out _ _ _ he
       have h7 := (H6.out.keep b7).newBlk 37 (itc x (.slice A1 n1 c1))
       have P7 := Lib.hid (at1.below (nbl w7 (.cells (itc x (.slice A1 n1 c1)) 37)))
       have H7 := Lib.hid h7
       clear h7 he at1)
    | (go_at_call 45; refine (rTakeI_c t _ kt).mono ?_; rintro e w8 ⟨he, b8⟩
       obtain ⟨A2, n2, d2, rfl, at2, l2⟩ := EI.out _ _ _ he
       have h8 := (H7.out.keep b8).newBlk 37 (itc x (.slice A2 n2 d2))
       have bb := bsa b8 (.cells (itc x (.slice A2 n2 d2)) 37)
       have P8 := Lib.hid (P7.out.below bb)
       have Q8 := Lib.hid (at2.below (nbl w8 (.cells (itc x (.slice A2 n2 d2)) 37)))
       have H8 := Lib.hid h8
       clear h8 he at2 bb)
    | (go_at_call 46; refine (takeR_c t _ kt).mono ?_; rintro e w9 ⟨he, b9⟩
       obtain ⟨A3, n3, c3, rfl, at3, l3⟩ := ER.out _ _ _ he
       have h9 := (H8.out.keep b9).newBlk 106 (rcc y (.slice A3 n3 c3))
       have bb := bsa b9 (.cells (rcc y (.slice A3 n3 c3)) 106)
       have P9 := Lib.hid (P8.out.below bb)
       have Q9 := Lib.hid (Q8.out.below bb)
       have R9 := Lib.hid (at3.below (nbl w9 (.cells (rcc y (.slice A3 n3 c3)) 106)))
       have H9 := Lib.hid h9
       clear h9 he at3 bb)
    | (go_at_call 47; refine (rTakeR_c t _ kt).mono ?_; rintro e wa ⟨he, ba⟩
       obtain ⟨A4, n4, d4, rfl, at4, l4⟩ := ER.out _ _ _ he
       have ha := (H9.out.keep ba).newBlk 106 (rcc y (.slice A4 n4 d4))
       have bb := bsa ba (.cells (rcc y (.slice A4 n4 d4)) 106)
       have PA := Lib.hid (P9.out.below bb)
       have QA := Lib.hid (Q9.out.below bb)
       have RA := Lib.hid (R9.out.below bb)
       have SA := Lib.hid (at4.below (nbl wa (.cells (rcc y (.slice A4 n4 d4)) 106)))
       have cu := ha.blkIn (g := w3.heap.size) (t := 26) (cs := #[.int .i64 sa, .int .i64 sc]) (by simp)
       have cu0 := cu.cell 0
       have cu1 := cu.cell 1
       simp at cu0 cu1
       have cv := ha.blkIn (g := w4.heap.size) (t := 26) (cs := #[.int .i64 sa, .int .i64 sc]) (by simp)
       have cv0 := cv.cell 0
       have cv1 := cv.cell 1
       simp at cv0 cv1
       have ca := ha.blkIn (g := w7.heap.size) (t := 37) (cs := itc x (.slice A1 n1 c1)) (by simp)
       have ca0 := ca.cell 0
       have ca1 := ca.cell 1
       have ca2 := ca.cell 2
       have ca3 := ca.cell 3
       have ca4 := ca.cell 4
       have ca5 := ca.cell 5
       have ca6 := ca.cell 6
       have ca7 := ca.cell 7
       have ca8 := ca.cell 8
       simp at ca0 ca1 ca2 ca3 ca4 ca5 ca6 ca7 ca8
       have cb := ha.blkIn (g := w8.heap.size) (t := 37) (cs := itc x (.slice A2 n2 d2)) (by simp)
       have cb0 := cb.cell 0
       have cb1 := cb.cell 1
       have cb2 := cb.cell 2
       have cb3 := cb.cell 3
       have cb4 := cb.cell 4
       have cb5 := cb.cell 5
       have cb6 := cb.cell 6
       have cb7 := cb.cell 7
       have cb8 := cb.cell 8
       simp at cb0 cb1 cb2 cb3 cb4 cb5 cb6 cb7 cb8
       have KR1 := Lib.hid (ha.blkIn (g := w9.heap.size) (t := 106) (cs := rcc y (.slice A3 n3 c3)) (by simp))
       have KR2 := Lib.hid (ha.blkIn (g := wa.heap.size) (t := 106) (cs := rcc y (.slice A4 n4 d4)) (by simp))
       have HA := Lib.hid ha
       clear ha he at4 bb cu cv ca cb)
    | (go_at_call 26; refine (rSame_refl x A1 A2 n1 n2 c1 d2 _ PA.out QA.out l1).mono ?_; rintro e wb ⟨rfl, bb⟩
       have R1 := Lib.hid (RA.out.below bb)
       have S1 := Lib.hid (SA.out.below bb)
       have kr := KR1.out.below bb KR1.out.lt
       have ks := KR2.out.below bb KR2.out.lt
       have kr0 := kr.cell 0
       have kr1 := kr.cell 1
       have kr2 := kr.cell 2
       have kr3 := kr.cell 3
       have kr4 := kr.cell 4
       have kr5 := kr.cell 5
       have kr6 := kr.cell 6
       have kr7 := kr.cell 7
       have kr8 := kr.cell 8
       have kr9 := kr.cell 9
       simp at kr0 kr1 kr2 kr3 kr4 kr5 kr6 kr7 kr8 kr9
       have ks0 := ks.cell 0
       have ks1 := ks.cell 1
       have ks2 := ks.cell 2
       have ks3 := ks.cell 3
       have ks4 := ks.cell 4
       have ks5 := ks.cell 5
       have ks6 := ks.cell 6
       have ks7 := ks.cell 7
       have ks8 := ks.cell 8
       have ks9 := ks.cell 9
       simp at ks0 ks1 ks2 ks3 ks4 ks5 ks6 ks7 ks8 ks9
       have HB := Lib.hid (HA.out.keep bb)
       clear kr ks)
    | (go_at_call 48; refine (rSameR_refl y A3 A4 n3 n4 c3 d4 _ R1.out S1.out l3).mono ?_; rintro e wc ⟨rfl, bc⟩
       have HC := Lib.hid (HB.out.keep bc))
    | (go_at_call 49; refine (awake_c _ (HM.out.below' HC.out.bel (Nat.le_refl _))).mono ?_; rintro e wd ⟨rfl, bd⟩
       have HD := Lib.hid (HC.out.keep bd)))
  go_ret
  exact ⟨rfl, HD.out.bel⟩
end Go.Proofs.YtiafmbfeigcinaaGreatDoor
