/-
  Layer 14, the code: what is asked of a span (written by wip/genser.py).
  Layer 14, the code: whether a change with a number is there.
-/
import Derived.Test.YtldbmogondmgmaaGreatDoorSS33
import Derived.Test.YtldbmogondmgmaaGreatDoorSS35
import Derived.Test.YtldbmogondmgmaaGreatDoorSS32
set_option linter.unusedVariables false
set_option linter.unusedSimpArgs false
set_option maxRecDepth 100000
namespace Go.Proofs.YtldbmogondmgmaaGreatDoor
open Go.RowKit

set_option maxHeartbeats 4000000 in
theorem seChkSpan {w V : World} {T : List As} {p N : Nat} {r : List Rw} (h : Has w (tbA p r :: T) V) (hr : ROk N r) (hN : N ≤ 999999000) (f t : ByteArray) (x : Tx) (t1 t2 l1 l2 : Int) :
    Calls Tryz.prog 62 #[pt p, .agg #[.string f, .string t], txv x, sv t1 t2, sv l1 l2] V fun e w' => e = .returned (.int .i64 (chkR f t x (t1, t2) (l1, l2))) ∧ Has w (tbA p r :: T) w' := by
  have hz1 : (V.alloc (.cells #[.string f, .string t] 66)).heap.size = V.heap.size + 1 := World.size_alloc _ _
  have hz2 : ((V.alloc (.cells #[.string f, .string t] 66)).alloc (.cells (txc x) 28)).heap.size = V.heap.size + 1 + 1 := (World.size_alloc _ _).trans (by rw [hz1])
  have hz3 : (((V.alloc (.cells #[.string f, .string t] 66)).alloc (.cells (txc x) 28)).alloc (.cells #[.int .i64 t1, .int .i64 t2] 26)).heap.size = V.heap.size + 1 + 1 + 1 := (World.size_alloc _ _).trans (by rw [hz2])
  have h1 := (((h.newBlk 66 #[.string f, .string t]).newBlk 28 (txc x)).newBlk 26 #[.int .i64 t1, .int .i64 t2]).newBlk 26 #[.int .i64 l1, .int .i64 l2]
  rw [hz3, hz2, hz1] at h1
  have H1 := Lib.hid (h1.perm (List.perm_middle (l₁ := [_, _, _, _])))
  have HI := Lib.hid (fun W hW => seIsNone (w := w) (p := p) (V := W) (T := blkA (V.heap.size + 1 + 1 + 1) 26 #[.int .i64 l1, .int .i64 l2] :: blkA (V.heap.size + 1 + 1) 26 #[.int .i64 t1, .int .i64 t2] :: blkA (V.heap.size + 1) 28 (txc x) :: blkA V.heap.size 66 #[.string f, .string t] :: T) hW hr hN)
  have HM := Lib.hid (seMay x)
  have HS := Lib.hid (fun W => seStamps (some ⟨W.heap.size, 0, none⟩) 2 2 [(t1, t2), (l1, l2)] (may t1 t2 && may l1 l2) (by simp [mayP]) (W.alloc (.cells #[.int .i64 t1, .int .i64 t2, .int .i64 l1, .int .i64 l2] 26)) (by decide) (se_two W t1 t2 l1 l2))
  have HL1 := Lib.hid (less_c t1 t2 x.rw x.rl)
  have HL2 := Lib.hid (less_c l1 l2 x.rw x.rl)
  unfold chkR
  simp only
  have hsl : slt f t = Op.bytesLess f.toList t.toList := rfl
  rw [hsl]
  generalize mayX x = m_ at *
  generalize (may t1 t2 && may l1 l2) = ms_ at *
  generalize lt (t1, t2) (x.rw, x.rl) = lt1_ at *
  generalize lt (l1, l2) (x.rw, x.rl) = lt2_ at *
  clear h h1 hr hN hz1 hz2 hz3 hsl
  cases hlt : Op.bytesLess f.toList t.toList with
  | false =>
    go_enter Tryz.func62, Tryz.ntmps62
    go_wp2_with (first
      | (go_at_call 126; refine (HI.out _ H1.out).mono ?_; rintro e w1 ⟨rfl, h2⟩
         have H2 := Lib.hid h2
         have sa4 := h2.blkAt (g := V.heap.size + 1 + 1 + 1) (t := 26) (cs := #[.int .i64 l1, .int .i64 l2]) (by simp)
         have sa3 := h2.blkAt (g := V.heap.size + 1 + 1) (t := 26) (cs := #[.int .i64 t1, .int .i64 t2]) (by simp)
         have sa2 := h2.blkAt (g := V.heap.size + 1) (t := 28) (cs := txc x) (by simp)
         have sa1 := h2.blkAt (g := V.heap.size) (t := 66) (cs := #[.string f, .string t]) (by simp)
         have cl0 := sa4.cell 0
         have cl1 := sa4.cell 1
         simp at cl0 cl1
         have ct0 := sa3.cell 0
         have ct1 := sa3.cell 1
         simp at ct0 ct1
         have cx0 := sa2.cell 0
         have cx1 := sa2.cell 1
         have cx2 := sa2.cell 2
         have cx3 := sa2.cell 3
         have cx4 := sa2.cell 4
         have cx5 := sa2.cell 5
         have cx6 := sa2.cell 6
         have cx7 := sa2.cell 7
         have cx8 := sa2.cell 8
         have cx9 := sa2.cell 9
         have cx10 := sa2.cell 10
         have cx11 := sa2.cell 11
         simp at cx0 cx1 cx2 cx3 cx4 cx5 cx6 cx7 cx8 cx9 cx10 cx11
         have cf0 := sa1.cell 0
         have cf1 := sa1.cell 1
         simp at cf0 cf1
         clear sa1 sa2 sa3 sa4
         clear h2)
      | fail)
    go_ret
    exact ⟨by simp [*], (H2.out.perm (List.perm_middle (l₁ := [_, _, _, _])).symm).tail.tail.tail.tail⟩
  | true =>
    cases m_ with
    | false =>
      go_enter Tryz.func62, Tryz.ntmps62
      go_wp2_with (first
      | (go_at_call 126; refine (HI.out _ H1.out).mono ?_; rintro e w1 ⟨rfl, h2⟩
         have H2 := Lib.hid h2
         have sa4 := h2.blkAt (g := V.heap.size + 1 + 1 + 1) (t := 26) (cs := #[.int .i64 l1, .int .i64 l2]) (by simp)
         have sa3 := h2.blkAt (g := V.heap.size + 1 + 1) (t := 26) (cs := #[.int .i64 t1, .int .i64 t2]) (by simp)
         have sa2 := h2.blkAt (g := V.heap.size + 1) (t := 28) (cs := txc x) (by simp)
         have sa1 := h2.blkAt (g := V.heap.size) (t := 66) (cs := #[.string f, .string t]) (by simp)
         have cl0 := sa4.cell 0
         have cl1 := sa4.cell 1
         simp at cl0 cl1
         have ct0 := sa3.cell 0
         have ct1 := sa3.cell 1
         simp at ct0 ct1
         have cx0 := sa2.cell 0
         have cx1 := sa2.cell 1
         have cx2 := sa2.cell 2
         have cx3 := sa2.cell 3
         have cx4 := sa2.cell 4
         have cx5 := sa2.cell 5
         have cx6 := sa2.cell 6
         have cx7 := sa2.cell 7
         have cx8 := sa2.cell 8
         have cx9 := sa2.cell 9
         have cx10 := sa2.cell 10
         have cx11 := sa2.cell 11
         simp at cx0 cx1 cx2 cx3 cx4 cx5 cx6 cx7 cx8 cx9 cx10 cx11
         have cf0 := sa1.cell 0
         have cf1 := sa1.cell 1
         simp at cf0 cf1
         clear sa1 sa2 sa3 sa4
         clear h2)
      | (go_at_call 127; refine (HM.out _).mono ?_; rintro e w2 ⟨rfl, hb2⟩
         have h3 := H2.out.keep hb2
         have H3 := Lib.hid h3
         have HS3 := Lib.hid (HS.out w2)
         have sb4 := h3.blkAt (g := V.heap.size + 1 + 1 + 1) (t := 26) (cs := #[.int .i64 l1, .int .i64 l2]) (by simp)
         have sb3 := h3.blkAt (g := V.heap.size + 1 + 1) (t := 26) (cs := #[.int .i64 t1, .int .i64 t2]) (by simp)
         have sb2 := h3.blkAt (g := V.heap.size + 1) (t := 28) (cs := txc x) (by simp)
         have sb1 := h3.blkAt (g := V.heap.size) (t := 66) (cs := #[.string f, .string t]) (by simp)
         have cl0 := sb4.cell 0
         have cl1 := sb4.cell 1
         simp at cl0 cl1
         have ct0 := sb3.cell 0
         have ct1 := sb3.cell 1
         simp at ct0 ct1
         have cx0 := sb2.cell 0
         have cx1 := sb2.cell 1
         have cx2 := sb2.cell 2
         have cx3 := sb2.cell 3
         have cx4 := sb2.cell 4
         have cx5 := sb2.cell 5
         have cx6 := sb2.cell 6
         have cx7 := sb2.cell 7
         have cx8 := sb2.cell 8
         have cx9 := sb2.cell 9
         have cx10 := sb2.cell 10
         have cx11 := sb2.cell 11
         simp at cx0 cx1 cx2 cx3 cx4 cx5 cx6 cx7 cx8 cx9 cx10 cx11
         have cf0 := sb1.cell 0
         have cf1 := sb1.cell 1
         simp at cf0 cf1
         clear sb1 sb2 sb3 sb4
         clear h3 hb2)
      | fail)
      go_ret
      exact ⟨by simp [*], (H3.out.perm (List.perm_middle (l₁ := [_, _, _, _])).symm).tail.tail.tail.tail⟩
    | true =>
      cases ms_ with
      | false =>
        go_enter Tryz.func62, Tryz.ntmps62
        go_wp2_with (first
      | (go_at_call 126; refine (HI.out _ H1.out).mono ?_; rintro e w1 ⟨rfl, h2⟩
         have H2 := Lib.hid h2
         have sa4 := h2.blkAt (g := V.heap.size + 1 + 1 + 1) (t := 26) (cs := #[.int .i64 l1, .int .i64 l2]) (by simp)
         have sa3 := h2.blkAt (g := V.heap.size + 1 + 1) (t := 26) (cs := #[.int .i64 t1, .int .i64 t2]) (by simp)
         have sa2 := h2.blkAt (g := V.heap.size + 1) (t := 28) (cs := txc x) (by simp)
         have sa1 := h2.blkAt (g := V.heap.size) (t := 66) (cs := #[.string f, .string t]) (by simp)
         have cl0 := sa4.cell 0
         have cl1 := sa4.cell 1
         simp at cl0 cl1
         have ct0 := sa3.cell 0
         have ct1 := sa3.cell 1
         simp at ct0 ct1
         have cx0 := sa2.cell 0
         have cx1 := sa2.cell 1
         have cx2 := sa2.cell 2
         have cx3 := sa2.cell 3
         have cx4 := sa2.cell 4
         have cx5 := sa2.cell 5
         have cx6 := sa2.cell 6
         have cx7 := sa2.cell 7
         have cx8 := sa2.cell 8
         have cx9 := sa2.cell 9
         have cx10 := sa2.cell 10
         have cx11 := sa2.cell 11
         simp at cx0 cx1 cx2 cx3 cx4 cx5 cx6 cx7 cx8 cx9 cx10 cx11
         have cf0 := sa1.cell 0
         have cf1 := sa1.cell 1
         simp at cf0 cf1
         clear sa1 sa2 sa3 sa4
         clear h2)
      | (go_at_call 127; refine (HM.out _).mono ?_; rintro e w2 ⟨rfl, hb2⟩
         have h3 := H2.out.keep hb2
         have H3 := Lib.hid h3
         have HS3 := Lib.hid (HS.out w2)
         have sb4 := h3.blkAt (g := V.heap.size + 1 + 1 + 1) (t := 26) (cs := #[.int .i64 l1, .int .i64 l2]) (by simp)
         have sb3 := h3.blkAt (g := V.heap.size + 1 + 1) (t := 26) (cs := #[.int .i64 t1, .int .i64 t2]) (by simp)
         have sb2 := h3.blkAt (g := V.heap.size + 1) (t := 28) (cs := txc x) (by simp)
         have sb1 := h3.blkAt (g := V.heap.size) (t := 66) (cs := #[.string f, .string t]) (by simp)
         have cl0 := sb4.cell 0
         have cl1 := sb4.cell 1
         simp at cl0 cl1
         have ct0 := sb3.cell 0
         have ct1 := sb3.cell 1
         simp at ct0 ct1
         have cx0 := sb2.cell 0
         have cx1 := sb2.cell 1
         have cx2 := sb2.cell 2
         have cx3 := sb2.cell 3
         have cx4 := sb2.cell 4
         have cx5 := sb2.cell 5
         have cx6 := sb2.cell 6
         have cx7 := sb2.cell 7
         have cx8 := sb2.cell 8
         have cx9 := sb2.cell 9
         have cx10 := sb2.cell 10
         have cx11 := sb2.cell 11
         simp at cx0 cx1 cx2 cx3 cx4 cx5 cx6 cx7 cx8 cx9 cx10 cx11
         have cf0 := sb1.cell 0
         have cf1 := sb1.cell 1
         simp at cf0 cf1
         clear sb1 sb2 sb3 sb4
         clear h3 hb2)
      | (go_at_call 128; refine HS3.out.mono ?_; rintro e w3 ⟨rfl, hb3⟩
         have h4 := H3.out.keep (bst (nbl w2 (.cells #[.int .i64 t1, .int .i64 t2, .int .i64 l1, .int .i64 l2] 26)) hb3)
         have H4 := Lib.hid h4
         have sc4 := h4.blkAt (g := V.heap.size + 1 + 1 + 1) (t := 26) (cs := #[.int .i64 l1, .int .i64 l2]) (by simp)
         have sc3 := h4.blkAt (g := V.heap.size + 1 + 1) (t := 26) (cs := #[.int .i64 t1, .int .i64 t2]) (by simp)
         have sc2 := h4.blkAt (g := V.heap.size + 1) (t := 28) (cs := txc x) (by simp)
         have sc1 := h4.blkAt (g := V.heap.size) (t := 66) (cs := #[.string f, .string t]) (by simp)
         have cl0 := sc4.cell 0
         have cl1 := sc4.cell 1
         simp at cl0 cl1
         have ct0 := sc3.cell 0
         have ct1 := sc3.cell 1
         simp at ct0 ct1
         have cx0 := sc2.cell 0
         have cx1 := sc2.cell 1
         have cx2 := sc2.cell 2
         have cx3 := sc2.cell 3
         have cx4 := sc2.cell 4
         have cx5 := sc2.cell 5
         have cx6 := sc2.cell 6
         have cx7 := sc2.cell 7
         have cx8 := sc2.cell 8
         have cx9 := sc2.cell 9
         have cx10 := sc2.cell 10
         have cx11 := sc2.cell 11
         simp at cx0 cx1 cx2 cx3 cx4 cx5 cx6 cx7 cx8 cx9 cx10 cx11
         have cf0 := sc1.cell 0
         have cf1 := sc1.cell 1
         simp at cf0 cf1
         clear sc1 sc2 sc3 sc4
         clear h4 hb3)
      | fail)
        go_ret
        exact ⟨by simp [*], (H4.out.perm (List.perm_middle (l₁ := [_, _, _, _])).symm).tail.tail.tail.tail⟩
      | true =>
        cases lt1_ with
        | true =>
          go_enter Tryz.func62, Tryz.ntmps62
          go_wp2_with (first
      | (go_at_call 126; refine (HI.out _ H1.out).mono ?_; rintro e w1 ⟨rfl, h2⟩
         have H2 := Lib.hid h2
         have sa4 := h2.blkAt (g := V.heap.size + 1 + 1 + 1) (t := 26) (cs := #[.int .i64 l1, .int .i64 l2]) (by simp)
         have sa3 := h2.blkAt (g := V.heap.size + 1 + 1) (t := 26) (cs := #[.int .i64 t1, .int .i64 t2]) (by simp)
         have sa2 := h2.blkAt (g := V.heap.size + 1) (t := 28) (cs := txc x) (by simp)
         have sa1 := h2.blkAt (g := V.heap.size) (t := 66) (cs := #[.string f, .string t]) (by simp)
         have cl0 := sa4.cell 0
         have cl1 := sa4.cell 1
         simp at cl0 cl1
         have ct0 := sa3.cell 0
         have ct1 := sa3.cell 1
         simp at ct0 ct1
         have cx0 := sa2.cell 0
         have cx1 := sa2.cell 1
         have cx2 := sa2.cell 2
         have cx3 := sa2.cell 3
         have cx4 := sa2.cell 4
         have cx5 := sa2.cell 5
         have cx6 := sa2.cell 6
         have cx7 := sa2.cell 7
         have cx8 := sa2.cell 8
         have cx9 := sa2.cell 9
         have cx10 := sa2.cell 10
         have cx11 := sa2.cell 11
         simp at cx0 cx1 cx2 cx3 cx4 cx5 cx6 cx7 cx8 cx9 cx10 cx11
         have cf0 := sa1.cell 0
         have cf1 := sa1.cell 1
         simp at cf0 cf1
         clear sa1 sa2 sa3 sa4
         clear h2)
      | (go_at_call 127; refine (HM.out _).mono ?_; rintro e w2 ⟨rfl, hb2⟩
         have h3 := H2.out.keep hb2
         have H3 := Lib.hid h3
         have HS3 := Lib.hid (HS.out w2)
         have sb4 := h3.blkAt (g := V.heap.size + 1 + 1 + 1) (t := 26) (cs := #[.int .i64 l1, .int .i64 l2]) (by simp)
         have sb3 := h3.blkAt (g := V.heap.size + 1 + 1) (t := 26) (cs := #[.int .i64 t1, .int .i64 t2]) (by simp)
         have sb2 := h3.blkAt (g := V.heap.size + 1) (t := 28) (cs := txc x) (by simp)
         have sb1 := h3.blkAt (g := V.heap.size) (t := 66) (cs := #[.string f, .string t]) (by simp)
         have cl0 := sb4.cell 0
         have cl1 := sb4.cell 1
         simp at cl0 cl1
         have ct0 := sb3.cell 0
         have ct1 := sb3.cell 1
         simp at ct0 ct1
         have cx0 := sb2.cell 0
         have cx1 := sb2.cell 1
         have cx2 := sb2.cell 2
         have cx3 := sb2.cell 3
         have cx4 := sb2.cell 4
         have cx5 := sb2.cell 5
         have cx6 := sb2.cell 6
         have cx7 := sb2.cell 7
         have cx8 := sb2.cell 8
         have cx9 := sb2.cell 9
         have cx10 := sb2.cell 10
         have cx11 := sb2.cell 11
         simp at cx0 cx1 cx2 cx3 cx4 cx5 cx6 cx7 cx8 cx9 cx10 cx11
         have cf0 := sb1.cell 0
         have cf1 := sb1.cell 1
         simp at cf0 cf1
         clear sb1 sb2 sb3 sb4
         clear h3 hb2)
      | (go_at_call 128; refine HS3.out.mono ?_; rintro e w3 ⟨rfl, hb3⟩
         have h4 := H3.out.keep (bst (nbl w2 (.cells #[.int .i64 t1, .int .i64 t2, .int .i64 l1, .int .i64 l2] 26)) hb3)
         have H4 := Lib.hid h4
         have sc4 := h4.blkAt (g := V.heap.size + 1 + 1 + 1) (t := 26) (cs := #[.int .i64 l1, .int .i64 l2]) (by simp)
         have sc3 := h4.blkAt (g := V.heap.size + 1 + 1) (t := 26) (cs := #[.int .i64 t1, .int .i64 t2]) (by simp)
         have sc2 := h4.blkAt (g := V.heap.size + 1) (t := 28) (cs := txc x) (by simp)
         have sc1 := h4.blkAt (g := V.heap.size) (t := 66) (cs := #[.string f, .string t]) (by simp)
         have cl0 := sc4.cell 0
         have cl1 := sc4.cell 1
         simp at cl0 cl1
         have ct0 := sc3.cell 0
         have ct1 := sc3.cell 1
         simp at ct0 ct1
         have cx0 := sc2.cell 0
         have cx1 := sc2.cell 1
         have cx2 := sc2.cell 2
         have cx3 := sc2.cell 3
         have cx4 := sc2.cell 4
         have cx5 := sc2.cell 5
         have cx6 := sc2.cell 6
         have cx7 := sc2.cell 7
         have cx8 := sc2.cell 8
         have cx9 := sc2.cell 9
         have cx10 := sc2.cell 10
         have cx11 := sc2.cell 11
         simp at cx0 cx1 cx2 cx3 cx4 cx5 cx6 cx7 cx8 cx9 cx10 cx11
         have cf0 := sc1.cell 0
         have cf1 := sc1.cell 1
         simp at cf0 cf1
         clear sc1 sc2 sc3 sc4
         clear h4 hb3)
      | (go_at_call 12; refine (HL1.out _).mono ?_; rintro e w4 ⟨rfl, hb4⟩
         have h5 := H4.out.keep hb4
         have H5 := Lib.hid h5
         have sd4 := h5.blkAt (g := V.heap.size + 1 + 1 + 1) (t := 26) (cs := #[.int .i64 l1, .int .i64 l2]) (by simp)
         have sd3 := h5.blkAt (g := V.heap.size + 1 + 1) (t := 26) (cs := #[.int .i64 t1, .int .i64 t2]) (by simp)
         have sd2 := h5.blkAt (g := V.heap.size + 1) (t := 28) (cs := txc x) (by simp)
         have sd1 := h5.blkAt (g := V.heap.size) (t := 66) (cs := #[.string f, .string t]) (by simp)
         have cl0 := sd4.cell 0
         have cl1 := sd4.cell 1
         simp at cl0 cl1
         have ct0 := sd3.cell 0
         have ct1 := sd3.cell 1
         simp at ct0 ct1
         have cx0 := sd2.cell 0
         have cx1 := sd2.cell 1
         have cx2 := sd2.cell 2
         have cx3 := sd2.cell 3
         have cx4 := sd2.cell 4
         have cx5 := sd2.cell 5
         have cx6 := sd2.cell 6
         have cx7 := sd2.cell 7
         have cx8 := sd2.cell 8
         have cx9 := sd2.cell 9
         have cx10 := sd2.cell 10
         have cx11 := sd2.cell 11
         simp at cx0 cx1 cx2 cx3 cx4 cx5 cx6 cx7 cx8 cx9 cx10 cx11
         have cf0 := sd1.cell 0
         have cf1 := sd1.cell 1
         simp at cf0 cf1
         clear sd1 sd2 sd3 sd4
         clear h5 hb4)
      | fail)
          go_ret
          exact ⟨by simp [*], (H5.out.perm (List.perm_middle (l₁ := [_, _, _, _])).symm).tail.tail.tail.tail⟩
        | false =>
          cases lt2_ with
          | false =>
            go_enter Tryz.func62, Tryz.ntmps62
            go_wp2_with (first
      | (go_at_call 126; refine (HI.out _ H1.out).mono ?_; rintro e w1 ⟨rfl, h2⟩
         have H2 := Lib.hid h2
         have sa4 := h2.blkAt (g := V.heap.size + 1 + 1 + 1) (t := 26) (cs := #[.int .i64 l1, .int .i64 l2]) (by simp)
         have sa3 := h2.blkAt (g := V.heap.size + 1 + 1) (t := 26) (cs := #[.int .i64 t1, .int .i64 t2]) (by simp)
         have sa2 := h2.blkAt (g := V.heap.size + 1) (t := 28) (cs := txc x) (by simp)
         have sa1 := h2.blkAt (g := V.heap.size) (t := 66) (cs := #[.string f, .string t]) (by simp)
         have cl0 := sa4.cell 0
         have cl1 := sa4.cell 1
         simp at cl0 cl1
         have ct0 := sa3.cell 0
         have ct1 := sa3.cell 1
         simp at ct0 ct1
         have cx0 := sa2.cell 0
         have cx1 := sa2.cell 1
         have cx2 := sa2.cell 2
         have cx3 := sa2.cell 3
         have cx4 := sa2.cell 4
         have cx5 := sa2.cell 5
         have cx6 := sa2.cell 6
         have cx7 := sa2.cell 7
         have cx8 := sa2.cell 8
         have cx9 := sa2.cell 9
         have cx10 := sa2.cell 10
         have cx11 := sa2.cell 11
         simp at cx0 cx1 cx2 cx3 cx4 cx5 cx6 cx7 cx8 cx9 cx10 cx11
         have cf0 := sa1.cell 0
         have cf1 := sa1.cell 1
         simp at cf0 cf1
         clear sa1 sa2 sa3 sa4
         clear h2)
      | (go_at_call 127; refine (HM.out _).mono ?_; rintro e w2 ⟨rfl, hb2⟩
         have h3 := H2.out.keep hb2
         have H3 := Lib.hid h3
         have HS3 := Lib.hid (HS.out w2)
         have sb4 := h3.blkAt (g := V.heap.size + 1 + 1 + 1) (t := 26) (cs := #[.int .i64 l1, .int .i64 l2]) (by simp)
         have sb3 := h3.blkAt (g := V.heap.size + 1 + 1) (t := 26) (cs := #[.int .i64 t1, .int .i64 t2]) (by simp)
         have sb2 := h3.blkAt (g := V.heap.size + 1) (t := 28) (cs := txc x) (by simp)
         have sb1 := h3.blkAt (g := V.heap.size) (t := 66) (cs := #[.string f, .string t]) (by simp)
         have cl0 := sb4.cell 0
         have cl1 := sb4.cell 1
         simp at cl0 cl1
         have ct0 := sb3.cell 0
         have ct1 := sb3.cell 1
         simp at ct0 ct1
         have cx0 := sb2.cell 0
         have cx1 := sb2.cell 1
         have cx2 := sb2.cell 2
         have cx3 := sb2.cell 3
         have cx4 := sb2.cell 4
         have cx5 := sb2.cell 5
         have cx6 := sb2.cell 6
         have cx7 := sb2.cell 7
         have cx8 := sb2.cell 8
         have cx9 := sb2.cell 9
         have cx10 := sb2.cell 10
         have cx11 := sb2.cell 11
         simp at cx0 cx1 cx2 cx3 cx4 cx5 cx6 cx7 cx8 cx9 cx10 cx11
         have cf0 := sb1.cell 0
         have cf1 := sb1.cell 1
         simp at cf0 cf1
         clear sb1 sb2 sb3 sb4
         clear h3 hb2)
      | (go_at_call 128; refine HS3.out.mono ?_; rintro e w3 ⟨rfl, hb3⟩
         have h4 := H3.out.keep (bst (nbl w2 (.cells #[.int .i64 t1, .int .i64 t2, .int .i64 l1, .int .i64 l2] 26)) hb3)
         have H4 := Lib.hid h4
         have sc4 := h4.blkAt (g := V.heap.size + 1 + 1 + 1) (t := 26) (cs := #[.int .i64 l1, .int .i64 l2]) (by simp)
         have sc3 := h4.blkAt (g := V.heap.size + 1 + 1) (t := 26) (cs := #[.int .i64 t1, .int .i64 t2]) (by simp)
         have sc2 := h4.blkAt (g := V.heap.size + 1) (t := 28) (cs := txc x) (by simp)
         have sc1 := h4.blkAt (g := V.heap.size) (t := 66) (cs := #[.string f, .string t]) (by simp)
         have cl0 := sc4.cell 0
         have cl1 := sc4.cell 1
         simp at cl0 cl1
         have ct0 := sc3.cell 0
         have ct1 := sc3.cell 1
         simp at ct0 ct1
         have cx0 := sc2.cell 0
         have cx1 := sc2.cell 1
         have cx2 := sc2.cell 2
         have cx3 := sc2.cell 3
         have cx4 := sc2.cell 4
         have cx5 := sc2.cell 5
         have cx6 := sc2.cell 6
         have cx7 := sc2.cell 7
         have cx8 := sc2.cell 8
         have cx9 := sc2.cell 9
         have cx10 := sc2.cell 10
         have cx11 := sc2.cell 11
         simp at cx0 cx1 cx2 cx3 cx4 cx5 cx6 cx7 cx8 cx9 cx10 cx11
         have cf0 := sc1.cell 0
         have cf1 := sc1.cell 1
         simp at cf0 cf1
         clear sc1 sc2 sc3 sc4
         clear h4 hb3)
      | (go_at_call 12; refine (HL1.out _).mono ?_; rintro e w4 ⟨rfl, hb4⟩
         have h5 := H4.out.keep hb4
         have H5 := Lib.hid h5
         have sd4 := h5.blkAt (g := V.heap.size + 1 + 1 + 1) (t := 26) (cs := #[.int .i64 l1, .int .i64 l2]) (by simp)
         have sd3 := h5.blkAt (g := V.heap.size + 1 + 1) (t := 26) (cs := #[.int .i64 t1, .int .i64 t2]) (by simp)
         have sd2 := h5.blkAt (g := V.heap.size + 1) (t := 28) (cs := txc x) (by simp)
         have sd1 := h5.blkAt (g := V.heap.size) (t := 66) (cs := #[.string f, .string t]) (by simp)
         have cl0 := sd4.cell 0
         have cl1 := sd4.cell 1
         simp at cl0 cl1
         have ct0 := sd3.cell 0
         have ct1 := sd3.cell 1
         simp at ct0 ct1
         have cx0 := sd2.cell 0
         have cx1 := sd2.cell 1
         have cx2 := sd2.cell 2
         have cx3 := sd2.cell 3
         have cx4 := sd2.cell 4
         have cx5 := sd2.cell 5
         have cx6 := sd2.cell 6
         have cx7 := sd2.cell 7
         have cx8 := sd2.cell 8
         have cx9 := sd2.cell 9
         have cx10 := sd2.cell 10
         have cx11 := sd2.cell 11
         simp at cx0 cx1 cx2 cx3 cx4 cx5 cx6 cx7 cx8 cx9 cx10 cx11
         have cf0 := sd1.cell 0
         have cf1 := sd1.cell 1
         simp at cf0 cf1
         clear sd1 sd2 sd3 sd4
         clear h5 hb4)
      | (go_at_call 12; refine (HL2.out _).mono ?_; rintro e w5 ⟨rfl, hb5⟩; have H6 := Lib.hid (H5.out.keep hb5); clear hb5)
      | fail)
            go_ret
            exact ⟨by simp [*], (H6.out.perm (List.perm_middle (l₁ := [_, _, _, _])).symm).tail.tail.tail.tail⟩
          | true =>
            go_enter Tryz.func62, Tryz.ntmps62
            go_wp2_with (first
      | (go_at_call 126; refine (HI.out _ H1.out).mono ?_; rintro e w1 ⟨rfl, h2⟩
         have H2 := Lib.hid h2
         have sa4 := h2.blkAt (g := V.heap.size + 1 + 1 + 1) (t := 26) (cs := #[.int .i64 l1, .int .i64 l2]) (by simp)
         have sa3 := h2.blkAt (g := V.heap.size + 1 + 1) (t := 26) (cs := #[.int .i64 t1, .int .i64 t2]) (by simp)
         have sa2 := h2.blkAt (g := V.heap.size + 1) (t := 28) (cs := txc x) (by simp)
         have sa1 := h2.blkAt (g := V.heap.size) (t := 66) (cs := #[.string f, .string t]) (by simp)
         have cl0 := sa4.cell 0
         have cl1 := sa4.cell 1
         simp at cl0 cl1
         have ct0 := sa3.cell 0
         have ct1 := sa3.cell 1
         simp at ct0 ct1
         have cx0 := sa2.cell 0
         have cx1 := sa2.cell 1
         have cx2 := sa2.cell 2
         have cx3 := sa2.cell 3
         have cx4 := sa2.cell 4
         have cx5 := sa2.cell 5
         have cx6 := sa2.cell 6
         have cx7 := sa2.cell 7
         have cx8 := sa2.cell 8
         have cx9 := sa2.cell 9
         have cx10 := sa2.cell 10
         have cx11 := sa2.cell 11
         simp at cx0 cx1 cx2 cx3 cx4 cx5 cx6 cx7 cx8 cx9 cx10 cx11
         have cf0 := sa1.cell 0
         have cf1 := sa1.cell 1
         simp at cf0 cf1
         clear sa1 sa2 sa3 sa4
         clear h2)
      | (go_at_call 127; refine (HM.out _).mono ?_; rintro e w2 ⟨rfl, hb2⟩
         have h3 := H2.out.keep hb2
         have H3 := Lib.hid h3
         have HS3 := Lib.hid (HS.out w2)
         have sb4 := h3.blkAt (g := V.heap.size + 1 + 1 + 1) (t := 26) (cs := #[.int .i64 l1, .int .i64 l2]) (by simp)
         have sb3 := h3.blkAt (g := V.heap.size + 1 + 1) (t := 26) (cs := #[.int .i64 t1, .int .i64 t2]) (by simp)
         have sb2 := h3.blkAt (g := V.heap.size + 1) (t := 28) (cs := txc x) (by simp)
         have sb1 := h3.blkAt (g := V.heap.size) (t := 66) (cs := #[.string f, .string t]) (by simp)
         have cl0 := sb4.cell 0
         have cl1 := sb4.cell 1
         simp at cl0 cl1
         have ct0 := sb3.cell 0
         have ct1 := sb3.cell 1
         simp at ct0 ct1
         have cx0 := sb2.cell 0
         have cx1 := sb2.cell 1
         have cx2 := sb2.cell 2
         have cx3 := sb2.cell 3
         have cx4 := sb2.cell 4
         have cx5 := sb2.cell 5
         have cx6 := sb2.cell 6
         have cx7 := sb2.cell 7
         have cx8 := sb2.cell 8
         have cx9 := sb2.cell 9
         have cx10 := sb2.cell 10
         have cx11 := sb2.cell 11
         simp at cx0 cx1 cx2 cx3 cx4 cx5 cx6 cx7 cx8 cx9 cx10 cx11
         have cf0 := sb1.cell 0
         have cf1 := sb1.cell 1
         simp at cf0 cf1
         clear sb1 sb2 sb3 sb4
         clear h3 hb2)
      | (go_at_call 128; refine HS3.out.mono ?_; rintro e w3 ⟨rfl, hb3⟩
         have h4 := H3.out.keep (bst (nbl w2 (.cells #[.int .i64 t1, .int .i64 t2, .int .i64 l1, .int .i64 l2] 26)) hb3)
         have H4 := Lib.hid h4
         have sc4 := h4.blkAt (g := V.heap.size + 1 + 1 + 1) (t := 26) (cs := #[.int .i64 l1, .int .i64 l2]) (by simp)
         have sc3 := h4.blkAt (g := V.heap.size + 1 + 1) (t := 26) (cs := #[.int .i64 t1, .int .i64 t2]) (by simp)
         have sc2 := h4.blkAt (g := V.heap.size + 1) (t := 28) (cs := txc x) (by simp)
         have sc1 := h4.blkAt (g := V.heap.size) (t := 66) (cs := #[.string f, .string t]) (by simp)
         have cl0 := sc4.cell 0
         have cl1 := sc4.cell 1
         simp at cl0 cl1
         have ct0 := sc3.cell 0
         have ct1 := sc3.cell 1
         simp at ct0 ct1
         have cx0 := sc2.cell 0
         have cx1 := sc2.cell 1
         have cx2 := sc2.cell 2
         have cx3 := sc2.cell 3
         have cx4 := sc2.cell 4
         have cx5 := sc2.cell 5
         have cx6 := sc2.cell 6
         have cx7 := sc2.cell 7
         have cx8 := sc2.cell 8
         have cx9 := sc2.cell 9
         have cx10 := sc2.cell 10
         have cx11 := sc2.cell 11
         simp at cx0 cx1 cx2 cx3 cx4 cx5 cx6 cx7 cx8 cx9 cx10 cx11
         have cf0 := sc1.cell 0
         have cf1 := sc1.cell 1
         simp at cf0 cf1
         clear sc1 sc2 sc3 sc4
         clear h4 hb3)
      | (go_at_call 12; refine (HL1.out _).mono ?_; rintro e w4 ⟨rfl, hb4⟩
         have h5 := H4.out.keep hb4
         have H5 := Lib.hid h5
         have sd4 := h5.blkAt (g := V.heap.size + 1 + 1 + 1) (t := 26) (cs := #[.int .i64 l1, .int .i64 l2]) (by simp)
         have sd3 := h5.blkAt (g := V.heap.size + 1 + 1) (t := 26) (cs := #[.int .i64 t1, .int .i64 t2]) (by simp)
         have sd2 := h5.blkAt (g := V.heap.size + 1) (t := 28) (cs := txc x) (by simp)
         have sd1 := h5.blkAt (g := V.heap.size) (t := 66) (cs := #[.string f, .string t]) (by simp)
         have cl0 := sd4.cell 0
         have cl1 := sd4.cell 1
         simp at cl0 cl1
         have ct0 := sd3.cell 0
         have ct1 := sd3.cell 1
         simp at ct0 ct1
         have cx0 := sd2.cell 0
         have cx1 := sd2.cell 1
         have cx2 := sd2.cell 2
         have cx3 := sd2.cell 3
         have cx4 := sd2.cell 4
         have cx5 := sd2.cell 5
         have cx6 := sd2.cell 6
         have cx7 := sd2.cell 7
         have cx8 := sd2.cell 8
         have cx9 := sd2.cell 9
         have cx10 := sd2.cell 10
         have cx11 := sd2.cell 11
         simp at cx0 cx1 cx2 cx3 cx4 cx5 cx6 cx7 cx8 cx9 cx10 cx11
         have cf0 := sd1.cell 0
         have cf1 := sd1.cell 1
         simp at cf0 cf1
         clear sd1 sd2 sd3 sd4
         clear h5 hb4)
      | (go_at_call 12; refine (HL2.out _).mono ?_; rintro e w5 ⟨rfl, hb5⟩; have H6 := Lib.hid (H5.out.keep hb5); clear hb5)
      | fail)
            go_ret
            exact ⟨by simp [*], (H6.out.perm (List.perm_middle (l₁ := [_, _, _, _])).symm).tail.tail.tail.tail⟩
end Go.Proofs.YtldbmogondmgmaaGreatDoor
set_option linter.unusedVariables false
set_option linter.unusedSimpArgs false
set_option maxRecDepth 100000
namespace Go.Proofs.YtldbmogondmgmaaGreatDoor
open Go.RowKit

theorem hasQ_at {l : List Ch} {q : Int} {k : Nat} (hk : k < l.length) (h : (l[k]'hk).q = q) : hasQ l q = true :=
  List.any_eq_true.2 ⟨_, List.getElem_mem hk, decide_eq_true h⟩
theorem hasQ_no {l : List Ch} {q : Int} (h : ∀ c ∈ l, ¬ c.q = q) : hasQ l q = false := by
  unfold hasQ
  rw [List.any_eq_false]
  intro c hc
  simpa using h c hc
set_option maxHeartbeats 2000000 in
theorem seSeq (g : Nat) (y : Ch) (q : Int) (w : World) (hg : Blk w g 3 #[.int .i64 q]) :
    Calls Tryz.prog 140 #[chv y, pt g] w fun e w' => e = .returned (.bool (decide (y.q = q))) ∧ Below w.heap.size w w' := by
  obtain ⟨q1, s, d⟩ := y
  have hX := Blk.new w 24 #[.int .i64 q1, .string s, .bool d]
  have hG := hg.below (nbl w (.cells #[.int .i64 q1, .string s, .bool d] 24)) hg.lt
  have HB := Lib.hid (nbl w (.cells #[.int .i64 q1, .string s, .bool d] 24))
  have x0 := hX.cell 0
  have y0 := hG.cell 0
  simp at x0 y0
  clear hX hG hg
  have hd : decide (q1 = q) = (q1 == q) := rfl
  go_enter Tryz.func140, Tryz.ntmps140
  go_wp2_with fail
  go_ret
  exact ⟨by first | rfl | simp, HB.out⟩
set_option maxHeartbeats 4000000 in
theorem seIdx (g : Nat) (q : Int) (A : Option Addr) (n c : Nat) (l : List Ch) (hn : n ≤ 9223372036854775807) (w : World) (hx : ChAt w A n l) (hg : Blk w g 3 #[.int .i64 q]) :
    Calls Tryz.prog 167 #[.slice A n c, .func (.func 140) #[] #[pt g]] w fun e w' => (∃ k : Int, e = .returned (.int .i64 k) ∧ decide (0 ≤ k) = hasQ l q) ∧ Below w.heap.size w w' := by
  have HX := Lib.hid hx
  have HG := Lib.hid hg
  have HL := Lib.hid hx.1
  clear hx hg
  go_enter Tryz.func167, Tryz.ntmps167
  go_wp2
  go_loopw [8] (fun i wr => ∃ (k : Nat), k ≤ n ∧ i = .int .i64 k ∧ Hid (∀ y ∈ l.take k, ¬ y.q = q) ∧ Hid (Below w.heap.size w wr)) (fun i _ => n - (intOf i).toNat)
  case atStart => exact ⟨0, Nat.zero_le _, rfl, Lib.hid (fun y hy => (nomatch hy)), Lib.hid (Below.refl _ _)⟩
  case round =>
    obtain ⟨k, hk, rfl, HNO, HB⟩ := hrel
    by_cases hlt : k < n
    · have hkl : k < l.length := by rw [HL.out]; exact hlt
      obtain ⟨b, o, rfl, hc⟩ := (HX.out.below HB.out).2 (by omega)
      obtain ⟨h1, h2, h3⟩ := hc k hkl
      have hs := seSeq g (l[k]'hkl) q wr (HG.out.below HB.out HG.out.lt)
      have HTK := Lib.hid (List.take_succ_eq_append_getElem hkl)
      have HFD := Lib.hid (fun (hy : (l[k]'hkl).q = q) => hasQ_at hkl hy)
      obtain ⟨y, hy⟩ : ∃ y, l[k]'hkl = y := ⟨_, rfl⟩
      rw [hy] at h1 h2 h3 hs HFD
      have HY := Lib.hid hy
      clear hc hy
      by_cases hq : y.q = q
      · have HF := Lib.hid (HFD.out hq)
        rw [decide_eq_true hq] at hs
        clear hq HFD HTK
        go_wp2_with fail
        refine hs.mono ?_
        rintro e w2 ⟨rfl, hb2⟩
        have HB2 := Lib.hid (bst HB.out hb2)
        clear hb2
        go_wp2
        go_ret
        exact ⟨⟨k, rfl, by rw [HF.out]; exact decide_eq_true (by omega)⟩, HB2.out⟩
      · have HN2 := Lib.hid (show ∀ z ∈ l.take (k + 1), ¬ z.q = q from fun z hz => by
          rw [HTK.out] at hz
          rcases List.mem_append.1 hz with h | h
          · exact HNO.out z h
          · rw [List.mem_singleton.1 h, HY.out]; exact hq)
        rw [decide_eq_false hq] at hs
        clear hq HFD HTK HNO
        go_wp2_with fail
        refine hs.mono ?_
        rintro e w2 ⟨rfl, hb2⟩
        have HB2 := Lib.hid (bst HB.out hb2)
        clear hb2
        go_wp2
        go_roundw
        case rel => exact ⟨k + 1, by omega, by go_num, HN2, HB2⟩
        case measure => simp [intOf]; omega
    · have HF := Lib.hid (show hasQ l q = false from hasQ_no (fun y hy => HNO.out y (by rw [List.take_of_length_le (by have := HL.out; omega)]; exact hy)))
      clear HNO
      go_wp2
      go_ret
      exact ⟨⟨-1, rfl, by rw [HF.out]; rfl⟩, HB.out⟩
theorem seHas (g : Nat) (q : Int) (A : Option Addr) (n c : Nat) (l : List Ch) (hn : n ≤ 9223372036854775807) (w : World) (hx : ChAt w A n l) (hg : Blk w g 3 #[.int .i64 q]) :
    Calls Tryz.prog 139 #[.slice A n c, .func (.func 140) #[] #[pt g]] w fun e w' => e = .returned (.bool (hasQ l q)) ∧ Below w.heap.size w w' := by
  have HI := Lib.hid (seIdx g q A n c l hn w hx hg)
  clear hx hg
  go_enter Tryz.func139, Tryz.ntmps139
  go_wp2_with fail
  refine HI.out.mono ?_
  rintro e w1 ⟨⟨k, rfl, hk⟩, h1⟩
  have HK := Lib.hid hk
  clear hk
  go_wp2
  go_ret
  exact ⟨congrArg (fun b => Ending.returned (Value.bool b)) HK.out, h1⟩
end Go.Proofs.YtldbmogondmgmaaGreatDoor
