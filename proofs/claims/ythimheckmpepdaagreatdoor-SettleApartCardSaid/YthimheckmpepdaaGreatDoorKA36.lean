/-
  Layer 14, the code: what is asked of a span (written by wip/genser.py).
-/
import Derived.Test.YthimheckmpepdaaGreatDoorKA33
import Derived.Test.YthimheckmpepdaaGreatDoorKA35
set_option linter.unusedVariables false
set_option linter.unusedSimpArgs false
set_option maxRecDepth 100000
namespace Go.Proofs.YthimheckmpepdaaGreatDoor
open Go.RowKit

set_option maxHeartbeats 4000000 in
theorem seChkSpan {w V : World} {T : List As} {p N : Nat} {r : List Rw} (h : Has w (tbA p r :: T) V) (hr : ROk N r) (hN : N ≤ 999999000) (f t : ByteArray) (x : Tx) (t1 t2 l1 l2 : Int) :
    Calls Tryz.prog 93 #[pt p, .agg #[.string f, .string t], txv x, sv t1 t2, sv l1 l2] V fun e w' => e = .returned (.int .i64 (chkR f t x (t1, t2) (l1, l2))) ∧ Has w (tbA p r :: T) w' := by
  have hz1 : (V.alloc (.cells #[.string f, .string t] 61)).heap.size = V.heap.size + 1 := World.size_alloc _ _
  have hz2 : ((V.alloc (.cells #[.string f, .string t] 61)).alloc (.cells (txc x) 28)).heap.size = V.heap.size + 1 + 1 := (World.size_alloc _ _).trans (by rw [hz1])
  have hz3 : (((V.alloc (.cells #[.string f, .string t] 61)).alloc (.cells (txc x) 28)).alloc (.cells #[.int .i64 t1, .int .i64 t2] 26)).heap.size = V.heap.size + 1 + 1 + 1 := (World.size_alloc _ _).trans (by rw [hz2])
  have h1 := (((h.newBlk 61 #[.string f, .string t]).newBlk 28 (txc x)).newBlk 26 #[.int .i64 t1, .int .i64 t2]).newBlk 26 #[.int .i64 l1, .int .i64 l2]
  rw [hz3, hz2, hz1] at h1
  have H1 := Lib.hid (h1.perm (List.perm_middle (l₁ := [_, _, _, _])))
  have HI := Lib.hid (fun W hW => seIsNone (w := w) (p := p) (V := W) (T := blkA (V.heap.size + 1 + 1 + 1) 26 #[.int .i64 l1, .int .i64 l2] :: blkA (V.heap.size + 1 + 1) 26 #[.int .i64 t1, .int .i64 t2] :: blkA (V.heap.size + 1) 28 (txc x) :: blkA V.heap.size 61 #[.string f, .string t] :: T) hW hr hN)
  have HM := Lib.hid (seMay x)
  have HS := Lib.hid (fun W => seStamps (some ⟨W.heap.size, 0, none⟩) 2 2 [(t1, t2), (l1, l2)] (may t1 t2 && may l1 l2) (by simp [mayP]) (W.alloc (.cells #[.int .i64 t1, .int .i64 t2, .int .i64 l1, .int .i64 l2] 26)) (by decide) (se_two W t1 t2 l1 l2))
  have HL1 := Lib.hid (less_c t1 t2 x.rw x.rl)
  have HL2 := Lib.hid (less_c l1 l2 x.rw x.rl)
  unfold chkR
  simp only
  have hsl : slt f t = Op.bytesLess f.toList t.toList := rfl
  rw [hsl]
  generalize mayX x = m_ at *
  generalize (may t1 t2 && may l1 l2) = ms_ at *
  generalize lt (t1, t2) (x.rw, x.rl) = lt1_ at *
  generalize lt (l1, l2) (x.rw, x.rl) = lt2_ at *
  clear h h1 hr hN hz1 hz2 hz3 hsl
  cases hlt : Op.bytesLess f.toList t.toList with
  | false =>
    go_enter Tryz.func93, Tryz.ntmps93
    go_wp2_with (first
      | (go_at_call 131; refine (HI.out _ H1.out).mono ?_; rintro e w1 ⟨rfl, h2⟩
         have H2 := Lib.hid h2
         have sa4 := h2.blkAt (g := V.heap.size + 1 + 1 + 1) (t := 26) (cs := #[.int .i64 l1, .int .i64 l2]) (by simp)
         have sa3 := h2.blkAt (g := V.heap.size + 1 + 1) (t := 26) (cs := #[.int .i64 t1, .int .i64 t2]) (by simp)
         have sa2 := h2.blkAt (g := V.heap.size + 1) (t := 28) (cs := txc x) (by simp)
         have sa1 := h2.blkAt (g := V.heap.size) (t := 61) (cs := #[.string f, .string t]) (by simp)
         have cl0 := sa4.cell 0
         have cl1 := sa4.cell 1
         simp at cl0 cl1
         have ct0 := sa3.cell 0
         have ct1 := sa3.cell 1
         simp at ct0 ct1
         have cx0 := sa2.cell 0
         have cx1 := sa2.cell 1
         have cx2 := sa2.cell 2
         have cx3 := sa2.cell 3
         have cx4 := sa2.cell 4
         have cx5 := sa2.cell 5
         have cx6 := sa2.cell 6
         have cx7 := sa2.cell 7
         have cx8 := sa2.cell 8
         have cx9 := sa2.cell 9
         have cx10 := sa2.cell 10
         have cx11 := sa2.cell 11
         simp at cx0 cx1 cx2 cx3 cx4 cx5 cx6 cx7 cx8 cx9 cx10 cx11
         have cf0 := sa1.cell 0
         have cf1 := sa1.cell 1
         simp at cf0 cf1
         clear sa1 sa2 sa3 sa4
         clear h2)
      | fail)
    go_ret
    exact ⟨by simp [*], (H2.out.perm (List.perm_middle (l₁ := [_, _, _, _])).symm).tail.tail.tail.tail⟩
  | true =>
    cases m_ with
    | false =>
      go_enter Tryz.func93, Tryz.ntmps93
      go_wp2_with (first
      | (go_at_call 131; refine (HI.out _ H1.out).mono ?_; rintro e w1 ⟨rfl, h2⟩
         have H2 := Lib.hid h2
         have sa4 := h2.blkAt (g := V.heap.size + 1 + 1 + 1) (t := 26) (cs := #[.int .i64 l1, .int .i64 l2]) (by simp)
         have sa3 := h2.blkAt (g := V.heap.size + 1 + 1) (t := 26) (cs := #[.int .i64 t1, .int .i64 t2]) (by simp)
         have sa2 := h2.blkAt (g := V.heap.size + 1) (t := 28) (cs := txc x) (by simp)
         have sa1 := h2.blkAt (g := V.heap.size) (t := 61) (cs := #[.string f, .string t]) (by simp)
         have cl0 := sa4.cell 0
         have cl1 := sa4.cell 1
         simp at cl0 cl1
         have ct0 := sa3.cell 0
         have ct1 := sa3.cell 1
         simp at ct0 ct1
         have cx0 := sa2.cell 0
         have cx1 := sa2.cell 1
         have cx2 := sa2.cell 2
         have cx3 := sa2.cell 3
         have cx4 := sa2.cell 4
         have cx5 := sa2.cell 5
         have cx6 := sa2.cell 6
         have cx7 := sa2.cell 7
         have cx8 := sa2.cell 8
         have cx9 := sa2.cell 9
         have cx10 := sa2.cell 10
         have cx11 := sa2.cell 11
         simp at cx0 cx1 cx2 cx3 cx4 cx5 cx6 cx7 cx8 cx9 cx10 cx11
         have cf0 := sa1.cell 0
         have cf1 := sa1.cell 1
         simp at cf0 cf1
         clear sa1 sa2 sa3 sa4
         clear h2)
      | (go_at_call 149; refine (HM.out _).mono ?_; rintro e w2 ⟨rfl, hb2⟩
         have h3 := H2.out.keep hb2
         have H3 := Lib.hid h3
         have HS3 := Lib.hid (HS.out w2)
         have sb4 := h3.blkAt (g := V.heap.size + 1 + 1 + 1) (t := 26) (cs := #[.int .i64 l1, .int .i64 l2]) (by simp)
         have sb3 := h3.blkAt (g := V.heap.size + 1 + 1) (t := 26) (cs := #[.int .i64 t1, .int .i64 t2]) (by simp)
         have sb2 := h3.blkAt (g := V.heap.size + 1) (t := 28) (cs := txc x) (by simp)
         have sb1 := h3.blkAt (g := V.heap.size) (t := 61) (cs := #[.string f, .string t]) (by simp)
         have cl0 := sb4.cell 0
         have cl1 := sb4.cell 1
         simp at cl0 cl1
         have ct0 := sb3.cell 0
         have ct1 := sb3.cell 1
         simp at ct0 ct1
         have cx0 := sb2.cell 0
         have cx1 := sb2.cell 1
         have cx2 := sb2.cell 2
         have cx3 := sb2.cell 3
         have cx4 := sb2.cell 4
         have cx5 := sb2.cell 5
         have cx6 := sb2.cell 6
         have cx7 := sb2.cell 7
         have cx8 := sb2.cell 8
         have cx9 := sb2.cell 9
         have cx10 := sb2.cell 10
         have cx11 := sb2.cell 11
         simp at cx0 cx1 cx2 cx3 cx4 cx5 cx6 cx7 cx8 cx9 cx10 cx11
         have cf0 := sb1.cell 0
         have cf1 := sb1.cell 1
         simp at cf0 cf1
         clear sb1 sb2 sb3 sb4
         clear h3 hb2)
      | fail)
      go_ret
      exact ⟨by simp [*], (H3.out.perm (List.perm_middle (l₁ := [_, _, _, _])).symm).tail.tail.tail.tail⟩
    | true =>
      cases ms_ with
      | false =>
        go_enter Tryz.func93, Tryz.ntmps93
        go_wp2_with (first
      | (go_at_call 131; refine (HI.out _ H1.out).mono ?_; rintro e w1 ⟨rfl, h2⟩
         have H2 := Lib.hid h2
         have sa4 := h2.blkAt (g := V.heap.size + 1 + 1 + 1) (t := 26) (cs := #[.int .i64 l1, .int .i64 l2]) (by simp)
         have sa3 := h2.blkAt (g := V.heap.size + 1 + 1) (t := 26) (cs := #[.int .i64 t1, .int .i64 t2]) (by simp)
         have sa2 := h2.blkAt (g := V.heap.size + 1) (t := 28) (cs := txc x) (by simp)
         have sa1 := h2.blkAt (g := V.heap.size) (t := 61) (cs := #[.string f, .string t]) (by simp)
         have cl0 := sa4.cell 0
         have cl1 := sa4.cell 1
         simp at cl0 cl1
         have ct0 := sa3.cell 0
         have ct1 := sa3.cell 1
         simp at ct0 ct1
         have cx0 := sa2.cell 0
         have cx1 := sa2.cell 1
         have cx2 := sa2.cell 2
         have cx3 := sa2.cell 3
         have cx4 := sa2.cell 4
         have cx5 := sa2.cell 5
         have cx6 := sa2.cell 6
         have cx7 := sa2.cell 7
         have cx8 := sa2.cell 8
         have cx9 := sa2.cell 9
         have cx10 := sa2.cell 10
         have cx11 := sa2.cell 11
         simp at cx0 cx1 cx2 cx3 cx4 cx5 cx6 cx7 cx8 cx9 cx10 cx11
         have cf0 := sa1.cell 0
         have cf1 := sa1.cell 1
         simp at cf0 cf1
         clear sa1 sa2 sa3 sa4
         clear h2)
      | (go_at_call 149; refine (HM.out _).mono ?_; rintro e w2 ⟨rfl, hb2⟩
         have h3 := H2.out.keep hb2
         have H3 := Lib.hid h3
         have HS3 := Lib.hid (HS.out w2)
         have sb4 := h3.blkAt (g := V.heap.size + 1 + 1 + 1) (t := 26) (cs := #[.int .i64 l1, .int .i64 l2]) (by simp)
         have sb3 := h3.blkAt (g := V.heap.size + 1 + 1) (t := 26) (cs := #[.int .i64 t1, .int .i64 t2]) (by simp)
         have sb2 := h3.blkAt (g := V.heap.size + 1) (t := 28) (cs := txc x) (by simp)
         have sb1 := h3.blkAt (g := V.heap.size) (t := 61) (cs := #[.string f, .string t]) (by simp)
         have cl0 := sb4.cell 0
         have cl1 := sb4.cell 1
         simp at cl0 cl1
         have ct0 := sb3.cell 0
         have ct1 := sb3.cell 1
         simp at ct0 ct1
         have cx0 := sb2.cell 0
         have cx1 := sb2.cell 1
         have cx2 := sb2.cell 2
         have cx3 := sb2.cell 3
         have cx4 := sb2.cell 4
         have cx5 := sb2.cell 5
         have cx6 := sb2.cell 6
         have cx7 := sb2.cell 7
         have cx8 := sb2.cell 8
         have cx9 := sb2.cell 9
         have cx10 := sb2.cell 10
         have cx11 := sb2.cell 11
         simp at cx0 cx1 cx2 cx3 cx4 cx5 cx6 cx7 cx8 cx9 cx10 cx11
         have cf0 := sb1.cell 0
         have cf1 := sb1.cell 1
         simp at cf0 cf1
         clear sb1 sb2 sb3 sb4
         clear h3 hb2)
      | (go_at_call 150; refine HS3.out.mono ?_; rintro e w3 ⟨rfl, hb3⟩
         have h4 := H3.out.keep (bst (nbl w2 (.cells #[.int .i64 t1, .int .i64 t2, .int .i64 l1, .int .i64 l2] 26)) hb3)
         have H4 := Lib.hid h4
         have sc4 := h4.blkAt (g := V.heap.size + 1 + 1 + 1) (t := 26) (cs := #[.int .i64 l1, .int .i64 l2]) (by simp)
         have sc3 := h4.blkAt (g := V.heap.size + 1 + 1) (t := 26) (cs := #[.int .i64 t1, .int .i64 t2]) (by simp)
         have sc2 := h4.blkAt (g := V.heap.size + 1) (t := 28) (cs := txc x) (by simp)
         have sc1 := h4.blkAt (g := V.heap.size) (t := 61) (cs := #[.string f, .string t]) (by simp)
         have cl0 := sc4.cell 0
         have cl1 := sc4.cell 1
         simp at cl0 cl1
         have ct0 := sc3.cell 0
         have ct1 := sc3.cell 1
         simp at ct0 ct1
         have cx0 := sc2.cell 0
         have cx1 := sc2.cell 1
         have cx2 := sc2.cell 2
         have cx3 := sc2.cell 3
         have cx4 := sc2.cell 4
         have cx5 := sc2.cell 5
         have cx6 := sc2.cell 6
         have cx7 := sc2.cell 7
         have cx8 := sc2.cell 8
         have cx9 := sc2.cell 9
         have cx10 := sc2.cell 10
         have cx11 := sc2.cell 11
         simp at cx0 cx1 cx2 cx3 cx4 cx5 cx6 cx7 cx8 cx9 cx10 cx11
         have cf0 := sc1.cell 0
         have cf1 := sc1.cell 1
         simp at cf0 cf1
         clear sc1 sc2 sc3 sc4
         clear h4 hb3)
      | fail)
        go_ret
        exact ⟨by simp [*], (H4.out.perm (List.perm_middle (l₁ := [_, _, _, _])).symm).tail.tail.tail.tail⟩
      | true =>
        cases lt1_ with
        | true =>
          go_enter Tryz.func93, Tryz.ntmps93
          go_wp2_with (first
      | (go_at_call 131; refine (HI.out _ H1.out).mono ?_; rintro e w1 ⟨rfl, h2⟩
         have H2 := Lib.hid h2
         have sa4 := h2.blkAt (g := V.heap.size + 1 + 1 + 1) (t := 26) (cs := #[.int .i64 l1, .int .i64 l2]) (by simp)
         have sa3 := h2.blkAt (g := V.heap.size + 1 + 1) (t := 26) (cs := #[.int .i64 t1, .int .i64 t2]) (by simp)
         have sa2 := h2.blkAt (g := V.heap.size + 1) (t := 28) (cs := txc x) (by simp)
         have sa1 := h2.blkAt (g := V.heap.size) (t := 61) (cs := #[.string f, .string t]) (by simp)
         have cl0 := sa4.cell 0
         have cl1 := sa4.cell 1
         simp at cl0 cl1
         have ct0 := sa3.cell 0
         have ct1 := sa3.cell 1
         simp at ct0 ct1
         have cx0 := sa2.cell 0
         have cx1 := sa2.cell 1
         have cx2 := sa2.cell 2
         have cx3 := sa2.cell 3
         have cx4 := sa2.cell 4
         have cx5 := sa2.cell 5
         have cx6 := sa2.cell 6
         have cx7 := sa2.cell 7
         have cx8 := sa2.cell 8
         have cx9 := sa2.cell 9
         have cx10 := sa2.cell 10
         have cx11 := sa2.cell 11
         simp at cx0 cx1 cx2 cx3 cx4 cx5 cx6 cx7 cx8 cx9 cx10 cx11
         have cf0 := sa1.cell 0
         have cf1 := sa1.cell 1
         simp at cf0 cf1
         clear sa1 sa2 sa3 sa4
         clear h2)
      | (go_at_call 149; refine (HM.out _).mono ?_; rintro e w2 ⟨rfl, hb2⟩
         have h3 := H2.out.keep hb2
         have H3 := Lib.hid h3
         have HS3 := Lib.hid (HS.out w2)
         have sb4 := h3.blkAt (g := V.heap.size + 1 + 1 + 1) (t := 26) (cs := #[.int .i64 l1, .int .i64 l2]) (by simp)
         have sb3 := h3.blkAt (g := V.heap.size + 1 + 1) (t := 26) (cs := #[.int .i64 t1, .int .i64 t2]) (by simp)
         have sb2 := h3.blkAt (g := V.heap.size + 1) (t := 28) (cs := txc x) (by simp)
         have sb1 := h3.blkAt (g := V.heap.size) (t := 61) (cs := #[.string f, .string t]) (by simp)
         have cl0 := sb4.cell 0
         have cl1 := sb4.cell 1
         simp at cl0 cl1
         have ct0 := sb3.cell 0
         have ct1 := sb3.cell 1
         simp at ct0 ct1
         have cx0 := sb2.cell 0
         have cx1 := sb2.cell 1
         have cx2 := sb2.cell 2
         have cx3 := sb2.cell 3
         have cx4 := sb2.cell 4
         have cx5 := sb2.cell 5
         have cx6 := sb2.cell 6
         have cx7 := sb2.cell 7
         have cx8 := sb2.cell 8
         have cx9 := sb2.cell 9
         have cx10 := sb2.cell 10
         have cx11 := sb2.cell 11
         simp at cx0 cx1 cx2 cx3 cx4 cx5 cx6 cx7 cx8 cx9 cx10 cx11
         have cf0 := sb1.cell 0
         have cf1 := sb1.cell 1
         simp at cf0 cf1
         clear sb1 sb2 sb3 sb4
         clear h3 hb2)
      | (go_at_call 150; refine HS3.out.mono ?_; rintro e w3 ⟨rfl, hb3⟩
         have h4 := H3.out.keep (bst (nbl w2 (.cells #[.int .i64 t1, .int .i64 t2, .int .i64 l1, .int .i64 l2] 26)) hb3)
         have H4 := Lib.hid h4
         have sc4 := h4.blkAt (g := V.heap.size + 1 + 1 + 1) (t := 26) (cs := #[.int .i64 l1, .int .i64 l2]) (by simp)
         have sc3 := h4.blkAt (g := V.heap.size + 1 + 1) (t := 26) (cs := #[.int .i64 t1, .int .i64 t2]) (by simp)
         have sc2 := h4.blkAt (g := V.heap.size + 1) (t := 28) (cs := txc x) (by simp)
         have sc1 := h4.blkAt (g := V.heap.size) (t := 61) (cs := #[.string f, .string t]) (by simp)
         have cl0 := sc4.cell 0
         have cl1 := sc4.cell 1
         simp at cl0 cl1
         have ct0 := sc3.cell 0
         have ct1 := sc3.cell 1
         simp at ct0 ct1
         have cx0 := sc2.cell 0
         have cx1 := sc2.cell 1
         have cx2 := sc2.cell 2
         have cx3 := sc2.cell 3
         have cx4 := sc2.cell 4
         have cx5 := sc2.cell 5
         have cx6 := sc2.cell 6
         have cx7 := sc2.cell 7
         have cx8 := sc2.cell 8
         have cx9 := sc2.cell 9
         have cx10 := sc2.cell 10
         have cx11 := sc2.cell 11
         simp at cx0 cx1 cx2 cx3 cx4 cx5 cx6 cx7 cx8 cx9 cx10 cx11
         have cf0 := sc1.cell 0
         have cf1 := sc1.cell 1
         simp at cf0 cf1
         clear sc1 sc2 sc3 sc4
         clear h4 hb3)
      | (go_at_call 14; refine (HL1.out _).mono ?_; rintro e w4 ⟨rfl, hb4⟩
         have h5 := H4.out.keep hb4
         have H5 := Lib.hid h5
         have sd4 := h5.blkAt (g := V.heap.size + 1 + 1 + 1) (t := 26) (cs := #[.int .i64 l1, .int .i64 l2]) (by simp)
         have sd3 := h5.blkAt (g := V.heap.size + 1 + 1) (t := 26) (cs := #[.int .i64 t1, .int .i64 t2]) (by simp)
         have sd2 := h5.blkAt (g := V.heap.size + 1) (t := 28) (cs := txc x) (by simp)
         have sd1 := h5.blkAt (g := V.heap.size) (t := 61) (cs := #[.string f, .string t]) (by simp)
         have cl0 := sd4.cell 0
         have cl1 := sd4.cell 1
         simp at cl0 cl1
         have ct0 := sd3.cell 0
         have ct1 := sd3.cell 1
         simp at ct0 ct1
         have cx0 := sd2.cell 0
         have cx1 := sd2.cell 1
         have cx2 := sd2.cell 2
         have cx3 := sd2.cell 3
         have cx4 := sd2.cell 4
         have cx5 := sd2.cell 5
         have cx6 := sd2.cell 6
         have cx7 := sd2.cell 7
         have cx8 := sd2.cell 8
         have cx9 := sd2.cell 9
         have cx10 := sd2.cell 10
         have cx11 := sd2.cell 11
         simp at cx0 cx1 cx2 cx3 cx4 cx5 cx6 cx7 cx8 cx9 cx10 cx11
         have cf0 := sd1.cell 0
         have cf1 := sd1.cell 1
         simp at cf0 cf1
         clear sd1 sd2 sd3 sd4
         clear h5 hb4)
      | fail)
          go_ret
          exact ⟨by simp [*], (H5.out.perm (List.perm_middle (l₁ := [_, _, _, _])).symm).tail.tail.tail.tail⟩
        | false =>
          cases lt2_ with
          | false =>
            go_enter Tryz.func93, Tryz.ntmps93
            go_wp2_with (first
      | (go_at_call 131; refine (HI.out _ H1.out).mono ?_; rintro e w1 ⟨rfl, h2⟩
         have H2 := Lib.hid h2
         have sa4 := h2.blkAt (g := V.heap.size + 1 + 1 + 1) (t := 26) (cs := #[.int .i64 l1, .int .i64 l2]) (by simp)
         have sa3 := h2.blkAt (g := V.heap.size + 1 + 1) (t := 26) (cs := #[.int .i64 t1, .int .i64 t2]) (by simp)
         have sa2 := h2.blkAt (g := V.heap.size + 1) (t := 28) (cs := txc x) (by simp)
         have sa1 := h2.blkAt (g := V.heap.size) (t := 61) (cs := #[.string f, .string t]) (by simp)
         have cl0 := sa4.cell 0
         have cl1 := sa4.cell 1
         simp at cl0 cl1
         have ct0 := sa3.cell 0
         have ct1 := sa3.cell 1
         simp at ct0 ct1
         have cx0 := sa2.cell 0
         have cx1 := sa2.cell 1
         have cx2 := sa2.cell 2
         have cx3 := sa2.cell 3
         have cx4 := sa2.cell 4
         have cx5 := sa2.cell 5
         have cx6 := sa2.cell 6
         have cx7 := sa2.cell 7
         have cx8 := sa2.cell 8
         have cx9 := sa2.cell 9
         have cx10 := sa2.cell 10
         have cx11 := sa2.cell 11
         simp at cx0 cx1 cx2 cx3 cx4 cx5 cx6 cx7 cx8 cx9 cx10 cx11
         have cf0 := sa1.cell 0
         have cf1 := sa1.cell 1
         simp at cf0 cf1
         clear sa1 sa2 sa3 sa4
         clear h2)
      | (go_at_call 149; refine (HM.out _).mono ?_; rintro e w2 ⟨rfl, hb2⟩
         have h3 := H2.out.keep hb2
         have H3 := Lib.hid h3
         have HS3 := Lib.hid (HS.out w2)
         have sb4 := h3.blkAt (g := V.heap.size + 1 + 1 + 1) (t := 26) (cs := #[.int .i64 l1, .int .i64 l2]) (by simp)
         have sb3 := h3.blkAt (g := V.heap.size + 1 + 1) (t := 26) (cs := #[.int .i64 t1, .int .i64 t2]) (by simp)
         have sb2 := h3.blkAt (g := V.heap.size + 1) (t := 28) (cs := txc x) (by simp)
         have sb1 := h3.blkAt (g := V.heap.size) (t := 61) (cs := #[.string f, .string t]) (by simp)
         have cl0 := sb4.cell 0
         have cl1 := sb4.cell 1
         simp at cl0 cl1
         have ct0 := sb3.cell 0
         have ct1 := sb3.cell 1
         simp at ct0 ct1
         have cx0 := sb2.cell 0
         have cx1 := sb2.cell 1
         have cx2 := sb2.cell 2
         have cx3 := sb2.cell 3
         have cx4 := sb2.cell 4
         have cx5 := sb2.cell 5
         have cx6 := sb2.cell 6
         have cx7 := sb2.cell 7
         have cx8 := sb2.cell 8
         have cx9 := sb2.cell 9
         have cx10 := sb2.cell 10
         have cx11 := sb2.cell 11
         simp at cx0 cx1 cx2 cx3 cx4 cx5 cx6 cx7 cx8 cx9 cx10 cx11
         have cf0 := sb1.cell 0
         have cf1 := sb1.cell 1
         simp at cf0 cf1
         clear sb1 sb2 sb3 sb4
         clear h3 hb2)
      | (go_at_call 150; refine HS3.out.mono ?_; rintro e w3 ⟨rfl, hb3⟩
         have h4 := H3.out.keep (bst (nbl w2 (.cells #[.int .i64 t1, .int .i64 t2, .int .i64 l1, .int .i64 l2] 26)) hb3)
         have H4 := Lib.hid h4
         have sc4 := h4.blkAt (g := V.heap.size + 1 + 1 + 1) (t := 26) (cs := #[.int .i64 l1, .int .i64 l2]) (by simp)
         have sc3 := h4.blkAt (g := V.heap.size + 1 + 1) (t := 26) (cs := #[.int .i64 t1, .int .i64 t2]) (by simp)
         have sc2 := h4.blkAt (g := V.heap.size + 1) (t := 28) (cs := txc x) (by simp)
         have sc1 := h4.blkAt (g := V.heap.size) (t := 61) (cs := #[.string f, .string t]) (by simp)
         have cl0 := sc4.cell 0
         have cl1 := sc4.cell 1
         simp at cl0 cl1
         have ct0 := sc3.cell 0
         have ct1 := sc3.cell 1
         simp at ct0 ct1
         have cx0 := sc2.cell 0
         have cx1 := sc2.cell 1
         have cx2 := sc2.cell 2
         have cx3 := sc2.cell 3
         have cx4 := sc2.cell 4
         have cx5 := sc2.cell 5
         have cx6 := sc2.cell 6
         have cx7 := sc2.cell 7
         have cx8 := sc2.cell 8
         have cx9 := sc2.cell 9
         have cx10 := sc2.cell 10
         have cx11 := sc2.cell 11
         simp at cx0 cx1 cx2 cx3 cx4 cx5 cx6 cx7 cx8 cx9 cx10 cx11
         have cf0 := sc1.cell 0
         have cf1 := sc1.cell 1
         simp at cf0 cf1
         clear sc1 sc2 sc3 sc4
         clear h4 hb3)
      | (go_at_call 14; refine (HL1.out _).mono ?_; rintro e w4 ⟨rfl, hb4⟩
         have h5 := H4.out.keep hb4
         have H5 := Lib.hid h5
         have sd4 := h5.blkAt (g := V.heap.size + 1 + 1 + 1) (t := 26) (cs := #[.int .i64 l1, .int .i64 l2]) (by simp)
         have sd3 := h5.blkAt (g := V.heap.size + 1 + 1) (t := 26) (cs := #[.int .i64 t1, .int .i64 t2]) (by simp)
         have sd2 := h5.blkAt (g := V.heap.size + 1) (t := 28) (cs := txc x) (by simp)
         have sd1 := h5.blkAt (g := V.heap.size) (t := 61) (cs := #[.string f, .string t]) (by simp)
         have cl0 := sd4.cell 0
         have cl1 := sd4.cell 1
         simp at cl0 cl1
         have ct0 := sd3.cell 0
         have ct1 := sd3.cell 1
         simp at ct0 ct1
         have cx0 := sd2.cell 0
         have cx1 := sd2.cell 1
         have cx2 := sd2.cell 2
         have cx3 := sd2.cell 3
         have cx4 := sd2.cell 4
         have cx5 := sd2.cell 5
         have cx6 := sd2.cell 6
         have cx7 := sd2.cell 7
         have cx8 := sd2.cell 8
         have cx9 := sd2.cell 9
         have cx10 := sd2.cell 10
         have cx11 := sd2.cell 11
         simp at cx0 cx1 cx2 cx3 cx4 cx5 cx6 cx7 cx8 cx9 cx10 cx11
         have cf0 := sd1.cell 0
         have cf1 := sd1.cell 1
         simp at cf0 cf1
         clear sd1 sd2 sd3 sd4
         clear h5 hb4)
      | (go_at_call 14; refine (HL2.out _).mono ?_; rintro e w5 ⟨rfl, hb5⟩; have H6 := Lib.hid (H5.out.keep hb5); clear hb5)
      | fail)
            go_ret
            exact ⟨by simp [*], (H6.out.perm (List.perm_middle (l₁ := [_, _, _, _])).symm).tail.tail.tail.tail⟩
          | true =>
            go_enter Tryz.func93, Tryz.ntmps93
            go_wp2_with (first
      | (go_at_call 131; refine (HI.out _ H1.out).mono ?_; rintro e w1 ⟨rfl, h2⟩
         have H2 := Lib.hid h2
         have sa4 := h2.blkAt (g := V.heap.size + 1 + 1 + 1) (t := 26) (cs := #[.int .i64 l1, .int .i64 l2]) (by simp)
         have sa3 := h2.blkAt (g := V.heap.size + 1 + 1) (t := 26) (cs := #[.int .i64 t1, .int .i64 t2]) (by simp)
         have sa2 := h2.blkAt (g := V.heap.size + 1) (t := 28) (cs := txc x) (by simp)
         have sa1 := h2.blkAt (g := V.heap.size) (t := 61) (cs := #[.string f, .string t]) (by simp)
         have cl0 := sa4.cell 0
         have cl1 := sa4.cell 1
         simp at cl0 cl1
         have ct0 := sa3.cell 0
         have ct1 := sa3.cell 1
         simp at ct0 ct1
         have cx0 := sa2.cell 0
         have cx1 := sa2.cell 1
         have cx2 := sa2.cell 2
         have cx3 := sa2.cell 3
         have cx4 := sa2.cell 4
         have cx5 := sa2.cell 5
         have cx6 := sa2.cell 6
         have cx7 := sa2.cell 7
         have cx8 := sa2.cell 8
         have cx9 := sa2.cell 9
         have cx10 := sa2.cell 10
         have cx11 := sa2.cell 11
         simp at cx0 cx1 cx2 cx3 cx4 cx5 cx6 cx7 cx8 cx9 cx10 cx11
         have cf0 := sa1.cell 0
         have cf1 := sa1.cell 1
         simp at cf0 cf1
         clear sa1 sa2 sa3 sa4
         clear h2)
      | (go_at_call 149; refine (HM.out _).mono ?_; rintro e w2 ⟨rfl, hb2⟩
         have h3 := H2.out.keep hb2
         have H3 := Lib.hid h3
         have HS3 := Lib.hid (HS.out w2)
         have sb4 := h3.blkAt (g := V.heap.size + 1 + 1 + 1) (t := 26) (cs := #[.int .i64 l1, .int .i64 l2]) (by simp)
         have sb3 := h3.blkAt (g := V.heap.size + 1 + 1) (t := 26) (cs := #[.int .i64 t1, .int .i64 t2]) (by simp)
         have sb2 := h3.blkAt (g := V.heap.size + 1) (t := 28) (cs := txc x) (by simp)
         have sb1 := h3.blkAt (g := V.heap.size) (t := 61) (cs := #[.string f, .string t]) (by simp)
         have cl0 := sb4.cell 0
         have cl1 := sb4.cell 1
         simp at cl0 cl1
         have ct0 := sb3.cell 0
         have ct1 := sb3.cell 1
         simp at ct0 ct1
         have cx0 := sb2.cell 0
         have cx1 := sb2.cell 1
         have cx2 := sb2.cell 2
         have cx3 := sb2.cell 3
         have cx4 := sb2.cell 4
         have cx5 := sb2.cell 5
         have cx6 := sb2.cell 6
         have cx7 := sb2.cell 7
         have cx8 := sb2.cell 8
         have cx9 := sb2.cell 9
         have cx10 := sb2.cell 10
         have cx11 := sb2.cell 11
         simp at cx0 cx1 cx2 cx3 cx4 cx5 cx6 cx7 cx8 cx9 cx10 cx11
         have cf0 := sb1.cell 0
         have cf1 := sb1.cell 1
         simp at cf0 cf1
         clear sb1 sb2 sb3 sb4
         clear h3 hb2)
      | (go_at_call 150; refine HS3.out.mono ?_; rintro e w3 ⟨rfl, hb3⟩
         have h4 := H3.out.keep (bst (nbl w2 (.cells #[.int .i64 t1, .int .i64 t2, .int .i64 l1, .int .i64 l2] 26)) hb3)
         have H4 := Lib.hid h4
         have sc4 := h4.blkAt (g := V.heap.size + 1 + 1 + 1) (t := 26) (cs := #[.int .i64 l1, .int .i64 l2]) (by simp)
         have sc3 := h4.blkAt (g := V.heap.size + 1 + 1) (t := 26) (cs := #[.int .i64 t1, .int .i64 t2]) (by simp)
         have sc2 := h4.blkAt (g := V.heap.size + 1) (t := 28) (cs := txc x) (by simp)
         have sc1 := h4.blkAt (g := V.heap.size) (t := 61) (cs := #[.string f, .string t]) (by simp)
         have cl0 := sc4.cell 0
         have cl1 := sc4.cell 1
         simp at cl0 cl1
         have ct0 := sc3.cell 0
         have ct1 := sc3.cell 1
         simp at ct0 ct1
         have cx0 := sc2.cell 0
         have cx1 := sc2.cell 1
         have cx2 := sc2.cell 2
         have cx3 := sc2.cell 3
         have cx4 := sc2.cell 4
         have cx5 := sc2.cell 5
         have cx6 := sc2.cell 6
         have cx7 := sc2.cell 7
         have cx8 := sc2.cell 8
         have cx9 := sc2.cell 9
         have cx10 := sc2.cell 10
         have cx11 := sc2.cell 11
         simp at cx0 cx1 cx2 cx3 cx4 cx5 cx6 cx7 cx8 cx9 cx10 cx11
         have cf0 := sc1.cell 0
         have cf1 := sc1.cell 1
         simp at cf0 cf1
         clear sc1 sc2 sc3 sc4
         clear h4 hb3)
      | (go_at_call 14; refine (HL1.out _).mono ?_; rintro e w4 ⟨rfl, hb4⟩
         have h5 := H4.out.keep hb4
         have H5 := Lib.hid h5
         have sd4 := h5.blkAt (g := V.heap.size + 1 + 1 + 1) (t := 26) (cs := #[.int .i64 l1, .int .i64 l2]) (by simp)
         have sd3 := h5.blkAt (g := V.heap.size + 1 + 1) (t := 26) (cs := #[.int .i64 t1, .int .i64 t2]) (by simp)
         have sd2 := h5.blkAt (g := V.heap.size + 1) (t := 28) (cs := txc x) (by simp)
         have sd1 := h5.blkAt (g := V.heap.size) (t := 61) (cs := #[.string f, .string t]) (by simp)
         have cl0 := sd4.cell 0
         have cl1 := sd4.cell 1
         simp at cl0 cl1
         have ct0 := sd3.cell 0
         have ct1 := sd3.cell 1
         simp at ct0 ct1
         have cx0 := sd2.cell 0
         have cx1 := sd2.cell 1
         have cx2 := sd2.cell 2
         have cx3 := sd2.cell 3
         have cx4 := sd2.cell 4
         have cx5 := sd2.cell 5
         have cx6 := sd2.cell 6
         have cx7 := sd2.cell 7
         have cx8 := sd2.cell 8
         have cx9 := sd2.cell 9
         have cx10 := sd2.cell 10
         have cx11 := sd2.cell 11
         simp at cx0 cx1 cx2 cx3 cx4 cx5 cx6 cx7 cx8 cx9 cx10 cx11
         have cf0 := sd1.cell 0
         have cf1 := sd1.cell 1
         simp at cf0 cf1
         clear sd1 sd2 sd3 sd4
         clear h5 hb4)
      | (go_at_call 14; refine (HL2.out _).mono ?_; rintro e w5 ⟨rfl, hb5⟩; have H6 := Lib.hid (H5.out.keep hb5); clear hb5)
      | fail)
            go_ret
            exact ⟨by simp [*], (H6.out.perm (List.perm_middle (l₁ := [_, _, _, _])).symm).tail.tail.tail.tail⟩
end Go.Proofs.YthimheckmpepdaaGreatDoor
