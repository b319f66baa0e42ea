/-
  Layer 14, the code: Refresh (written by wip/genser.py).
-/
import Derived.Test.YtldbmogondmgmaaGreatDoorSS36
import Derived.Test.YtldbmogondmgmaaGreatDoorSSSeFst
import Derived.Test.YtldbmogondmgmaaGreatDoorSS04
set_option linter.unusedVariables false
set_option linter.unusedSimpArgs false
set_option maxRecDepth 100000
namespace Go.Proofs.YtldbmogondmgmaaGreatDoor
open Go.RowKit

def AnsRf (o : It × Int) (e : Ending) (w' : World) : Prop := ∃ A n c, e = .returned (.tuple #[itv o.1 (.slice A n c), .int .i64 o.2]) ∧ ChAt w' A n o.1.l ∧ n ≤ 9223372036854775807
set_option maxHeartbeats 4000000 in
theorem seRef_no {w V : World} {T : List As} {p N : Nat} {r : List Rw} (h : Has w (tbA p r :: T) V) (hr : ROk N r) (hN : N ≤ 999999000) (hM : MaxL w) (f t : ByteArray) (hfs : f.size ≤ 9223372036854775807) (hts : t.size ≤ 9223372036854775807) (x : Tx) (t1 t2 l1 l2 : Int) (k : Int) (hk : ¬ k = 0) (hc : chkR f t x (t1, t2) (l1, l2) = k) :
    Calls Tryz.prog 20 #[pt p, .agg #[.string f, .string t], txv x, sv t1 t2, sv l1 l2] V fun e w' => AnsRf (zI, k) e w' ∧ Has w (tbA p r :: T) w' := by
  have hz1 : (V.alloc (.cells #[.string f, .string t] 66)).heap.size = V.heap.size + 1 := World.size_alloc _ _
  have hz2 : ((V.alloc (.cells #[.string f, .string t] 66)).alloc (.cells (txc x) 28)).heap.size = V.heap.size + 1 + 1 := (World.size_alloc _ _).trans (by rw [hz1])
  have hz3 : (((V.alloc (.cells #[.string f, .string t] 66)).alloc (.cells (txc x) 28)).alloc (.cells #[.int .i64 t1, .int .i64 t2] 26)).heap.size = V.heap.size + 1 + 1 + 1 := (World.size_alloc _ _).trans (by rw [hz2])
  have hz4 : ((((V.alloc (.cells #[.string f, .string t] 66)).alloc (.cells (txc x) 28)).alloc (.cells #[.int .i64 t1, .int .i64 t2] 26)).alloc (.cells #[.int .i64 l1, .int .i64 l2] 26)).heap.size = V.heap.size + 1 + 1 + 1 + 1 := (World.size_alloc _ _).trans (by rw [hz3])
  have h1 := ((((h.newBlk 66 #[.string f, .string t]).newBlk 28 (txc x)).newBlk 26 #[.int .i64 t1, .int .i64 t2]).newBlk 26 #[.int .i64 l1, .int .i64 l2]).newBlk 39 (itc zI (.slice none 0 0))
  rw [hz4, hz3, hz2, hz1] at h1
  have H1 := Lib.hid (h1.perm (List.perm_middle (l₁ := [_, _, _, _, _])))
  have HCK := Lib.hid (seChkSpan H1.out hr hN f t x t1 t2 l1 l2)
  have HHV := Lib.hid (fun W (hW : Has w (tbA p r :: blkA (V.heap.size + 1 + 1 + 1 + 1) 39 (itc zI (.slice none 0 0)) :: blkA (V.heap.size + 1 + 1 + 1) 26 #[.int .i64 l1, .int .i64 l2] :: blkA (V.heap.size + 1 + 1) 26 #[.int .i64 t1, .int .i64 t2] :: blkA (V.heap.size + 1) 28 (txc x) :: blkA V.heap.size 66 #[.string f, .string t] :: T) W) => let ⟨F, hA, _⟩ := hW.get; seHasV hA hr.szs (hM.below hW.bel) f t hfs hts x t1 t2 (V.heap.size + 1) (V.heap.size + 1 + 1) (hW.blkAt (by simp)) (hW.blkAt (by simp)))
  have HFI := Lib.hid (fun W (hW : Has w (tbA p r :: blkA (V.heap.size + 1 + 1 + 1 + 1) 39 (itc zI (.slice none 0 0)) :: blkA (V.heap.size + 1 + 1 + 1) 26 #[.int .i64 l1, .int .i64 l2] :: blkA (V.heap.size + 1 + 1) 26 #[.int .i64 t1, .int .i64 t2] :: blkA (V.heap.size + 1) 28 (txc x) :: blkA V.heap.size 66 #[.string f, .string t] :: T) W) => let ⟨F, hA, _⟩ := hW.get; seFst hA hr.szs (hM.below hW.bel) f t hfs hts x t1 t2 (V.heap.size + 1) (V.heap.size + 1 + 1) (hW.blkAt (by simp)) (hW.blkAt (by simp)))
  rw [hc] at HCK
  have hk2 : (k == 0) = false := by simpa using hk
  clear hc hk HHV HFI
  clear h h1 hr hN hM hz1 hz2 hz3 hz4
  go_enter Tryz.func20, Tryz.ntmps20
  go_wp2_with (first
      | (go_at_call 62; refine HCK.out.mono ?_; rintro e w1 ⟨rfl, h2⟩
         have sa4 := h2.blkAt (g := V.heap.size + 1 + 1 + 1) (t := 26) (cs := #[.int .i64 l1, .int .i64 l2]) (by simp)
         have sa3 := h2.blkAt (g := V.heap.size + 1 + 1) (t := 26) (cs := #[.int .i64 t1, .int .i64 t2]) (by simp)
         have sa2 := h2.blkAt (g := V.heap.size + 1) (t := 28) (cs := txc x) (by simp)
         have sa1 := h2.blkAt (g := V.heap.size) (t := 66) (cs := #[.string f, .string t]) (by simp)
         have sa5 := h2.blkAt (g := V.heap.size + 1 + 1 + 1 + 1) (t := 39) (cs := (itc zI (.slice none 0 0))) (by simp)
         have cl0 := sa4.cell 0
         have cl1 := sa4.cell 1
         simp at cl0 cl1
         have ct0 := sa3.cell 0
         have ct1 := sa3.cell 1
         simp at ct0 ct1
         have cx0 := sa2.cell 0
         have cx1 := sa2.cell 1
         have cx2 := sa2.cell 2
         have cx3 := sa2.cell 3
         have cx4 := sa2.cell 4
         have cx5 := sa2.cell 5
         have cx6 := sa2.cell 6
         have cx7 := sa2.cell 7
         have cx8 := sa2.cell 8
         have cx9 := sa2.cell 9
         have cx10 := sa2.cell 10
         have cx11 := sa2.cell 11
         simp at cx0 cx1 cx2 cx3 cx4 cx5 cx6 cx7 cx8 cx9 cx10 cx11
         have cf0 := sa1.cell 0
         have cf1 := sa1.cell 1
         simp at cf0 cf1
         have ci0 := sa5.cell 0
         have fi0 := sa5.frozen 0
         have ci1 := sa5.cell 1
         have fi1 := sa5.frozen 1
         have ci2 := sa5.cell 2
         have fi2 := sa5.frozen 2
         have ci3 := sa5.cell 3
         have fi3 := sa5.frozen 3
         have ci4 := sa5.cell 4
         have fi4 := sa5.frozen 4
         have ci5 := sa5.cell 5
         have fi5 := sa5.frozen 5
         have ci6 := sa5.cell 6
         have fi6 := sa5.frozen 6
         have ci7 := sa5.cell 7
         have fi7 := sa5.frozen 7
         have ci8 := sa5.cell 8
         have fi8 := sa5.frozen 8
         simp at ci0 ci1 ci2 ci3 ci4 ci5 ci6 ci7 ci8
         clear sa1 sa2 sa3 sa4 sa5
         have H2 := Lib.hid h2
         clear h2)
      | fail)
  have hK := Lib.hid (H2.out.swap.blk.1)
  exact ret_it rfl rfl (Blk.all9 (v0 := .int .i64 0) (v1 := .int .i64 0) (v2 := .int .i64 0) (v3 := .string ⟨#[]⟩) (v4 := .int .i64 0) (v5 := .int .i64 0) (v6 := .int .i64 0) (v7 := .int .i64 0) (v8 := .slice none 0 0) (by exact hK.out)) rfl rfl ⟨⟨none, 0, 0, rfl, ChAt.nil _ _, by omega⟩, ((show Has w (tbA p r :: blkA (V.heap.size + 1 + 1 + 1) 26 #[.int .i64 l1, .int .i64 l2] :: blkA (V.heap.size + 1 + 1) 26 #[.int .i64 t1, .int .i64 t2] :: blkA (V.heap.size + 1) 28 (txc x) :: blkA V.heap.size 66 #[.string f, .string t] :: T) _ from (Has.all9s (v0 := .int .i64 0) (v1 := .int .i64 0) (v2 := .int .i64 0) (v3 := .string ⟨#[]⟩) (v4 := .int .i64 0) (v5 := .int .i64 0) (v6 := .int .i64 0) (v7 := .int .i64 0) (v8 := .slice none 0 0) H2.out.swap).tail).perm (List.perm_middle (l₁ := [_, _, _, _])).symm).tail.tail.tail.tail⟩
set_option maxHeartbeats 4000000 in
theorem seRef_ver {w V : World} {T : List As} {p N : Nat} {r : List Rw} (h : Has w (tbA p r :: T) V) (hr : ROk N r) (hN : N ≤ 999999000) (hM : MaxL w) (f t : ByteArray) (hfs : f.size ≤ 9223372036854775807) (hts : t.size ≤ 9223372036854775807) (x : Tx) (t1 t2 l1 l2 : Int) (hc : chkR f t x (t1, t2) (l1, l2) = 0) (hv : hasVP r f t (lateP x (t1, t2)) = true) :
    Calls Tryz.prog 20 #[pt p, .agg #[.string f, .string t], txv x, sv t1 t2, sv l1 l2] V fun e w' => AnsRf (zI, 202) e w' ∧ Has w (tbA p r :: T) w' := by
  have hz1 : (V.alloc (.cells #[.string f, .string t] 66)).heap.size = V.heap.size + 1 := World.size_alloc _ _
  have hz2 : ((V.alloc (.cells #[.string f, .string t] 66)).alloc (.cells (txc x) 28)).heap.size = V.heap.size + 1 + 1 := (World.size_alloc _ _).trans (by rw [hz1])
  have hz3 : (((V.alloc (.cells #[.string f, .string t] 66)).alloc (.cells (txc x) 28)).alloc (.cells #[.int .i64 t1, .int .i64 t2] 26)).heap.size = V.heap.size + 1 + 1 + 1 := (World.size_alloc _ _).trans (by rw [hz2])
  have hz4 : ((((V.alloc (.cells #[.string f, .string t] 66)).alloc (.cells (txc x) 28)).alloc (.cells #[.int .i64 t1, .int .i64 t2] 26)).alloc (.cells #[.int .i64 l1, .int .i64 l2] 26)).heap.size = V.heap.size + 1 + 1 + 1 + 1 := (World.size_alloc _ _).trans (by rw [hz3])
  have h1 := ((((h.newBlk 66 #[.string f, .string t]).newBlk 28 (txc x)).newBlk 26 #[.int .i64 t1, .int .i64 t2]).newBlk 26 #[.int .i64 l1, .int .i64 l2]).newBlk 39 (itc zI (.slice none 0 0))
  rw [hz4, hz3, hz2, hz1] at h1
  have H1 := Lib.hid (h1.perm (List.perm_middle (l₁ := [_, _, _, _, _])))
  have HCK := Lib.hid (seChkSpan H1.out hr hN f t x t1 t2 l1 l2)
  have HHV := Lib.hid (fun W (hW : Has w (tbA p r :: blkA (V.heap.size + 1 + 1 + 1 + 1) 39 (itc zI (.slice none 0 0)) :: blkA (V.heap.size + 1 + 1 + 1) 26 #[.int .i64 l1, .int .i64 l2] :: blkA (V.heap.size + 1 + 1) 26 #[.int .i64 t1, .int .i64 t2] :: blkA (V.heap.size + 1) 28 (txc x) :: blkA V.heap.size 66 #[.string f, .string t] :: T) W) => let ⟨F, hA, _⟩ := hW.get; seHasV hA hr.szs (hM.below hW.bel) f t hfs hts x t1 t2 (V.heap.size + 1) (V.heap.size + 1 + 1) (hW.blkAt (by simp)) (hW.blkAt (by simp)))
  have HFI := Lib.hid (fun W (hW : Has w (tbA p r :: blkA (V.heap.size + 1 + 1 + 1 + 1) 39 (itc zI (.slice none 0 0)) :: blkA (V.heap.size + 1 + 1 + 1) 26 #[.int .i64 l1, .int .i64 l2] :: blkA (V.heap.size + 1 + 1) 26 #[.int .i64 t1, .int .i64 t2] :: blkA (V.heap.size + 1) 28 (txc x) :: blkA V.heap.size 66 #[.string f, .string t] :: T) W) => let ⟨F, hA, _⟩ := hW.get; seFst hA hr.szs (hM.below hW.bel) f t hfs hts x t1 t2 (V.heap.size + 1) (V.heap.size + 1 + 1) (hW.blkAt (by simp)) (hW.blkAt (by simp)))
  rw [hc] at HCK
  rw [hv] at HHV
  clear hc hv HFI
  clear h h1 hr hN hM hz1 hz2 hz3 hz4
  go_enter Tryz.func20, Tryz.ntmps20
  go_wp2_with (first
      | (go_at_call 62; refine HCK.out.mono ?_; rintro e w1 ⟨rfl, h2⟩
         have sa4 := h2.blkAt (g := V.heap.size + 1 + 1 + 1) (t := 26) (cs := #[.int .i64 l1, .int .i64 l2]) (by simp)
         have sa3 := h2.blkAt (g := V.heap.size + 1 + 1) (t := 26) (cs := #[.int .i64 t1, .int .i64 t2]) (by simp)
         have sa2 := h2.blkAt (g := V.heap.size + 1) (t := 28) (cs := txc x) (by simp)
         have sa1 := h2.blkAt (g := V.heap.size) (t := 66) (cs := #[.string f, .string t]) (by simp)
         have sa5 := h2.blkAt (g := V.heap.size + 1 + 1 + 1 + 1) (t := 39) (cs := (itc zI (.slice none 0 0))) (by simp)
         have cl0 := sa4.cell 0
         have cl1 := sa4.cell 1
         simp at cl0 cl1
         have ct0 := sa3.cell 0
         have ct1 := sa3.cell 1
         simp at ct0 ct1
         have cx0 := sa2.cell 0
         have cx1 := sa2.cell 1
         have cx2 := sa2.cell 2
         have cx3 := sa2.cell 3
         have cx4 := sa2.cell 4
         have cx5 := sa2.cell 5
         have cx6 := sa2.cell 6
         have cx7 := sa2.cell 7
         have cx8 := sa2.cell 8
         have cx9 := sa2.cell 9
         have cx10 := sa2.cell 10
         have cx11 := sa2.cell 11
         simp at cx0 cx1 cx2 cx3 cx4 cx5 cx6 cx7 cx8 cx9 cx10 cx11
         have cf0 := sa1.cell 0
         have cf1 := sa1.cell 1
         simp at cf0 cf1
         have ci0 := sa5.cell 0
         have fi0 := sa5.frozen 0
         have ci1 := sa5.cell 1
         have fi1 := sa5.frozen 1
         have ci2 := sa5.cell 2
         have fi2 := sa5.frozen 2
         have ci3 := sa5.cell 3
         have fi3 := sa5.frozen 3
         have ci4 := sa5.cell 4
         have fi4 := sa5.frozen 4
         have ci5 := sa5.cell 5
         have fi5 := sa5.frozen 5
         have ci6 := sa5.cell 6
         have fi6 := sa5.frozen 6
         have ci7 := sa5.cell 7
         have fi7 := sa5.frozen 7
         have ci8 := sa5.cell 8
         have fi8 := sa5.frozen 8
         simp at ci0 ci1 ci2 ci3 ci4 ci5 ci6 ci7 ci8
         clear sa1 sa2 sa3 sa4 sa5
         have H2 := Lib.hid h2
         clear h2)
      | (go_at_call 63; refine (HHV.out _ H2.out).mono ?_; rintro e w2 ⟨rfl, hb2⟩
         have h3 := H2.out.keep hb2
         have sb4 := h3.blkAt (g := V.heap.size + 1 + 1 + 1) (t := 26) (cs := #[.int .i64 l1, .int .i64 l2]) (by simp)
         have sb3 := h3.blkAt (g := V.heap.size + 1 + 1) (t := 26) (cs := #[.int .i64 t1, .int .i64 t2]) (by simp)
         have sb2 := h3.blkAt (g := V.heap.size + 1) (t := 28) (cs := txc x) (by simp)
         have sb1 := h3.blkAt (g := V.heap.size) (t := 66) (cs := #[.string f, .string t]) (by simp)
         have sb5 := h3.blkAt (g := V.heap.size + 1 + 1 + 1 + 1) (t := 39) (cs := (itc zI (.slice none 0 0))) (by simp)
         have cl0 := sb4.cell 0
         have cl1 := sb4.cell 1
         simp at cl0 cl1
         have ct0 := sb3.cell 0
         have ct1 := sb3.cell 1
         simp at ct0 ct1
         have cx0 := sb2.cell 0
         have cx1 := sb2.cell 1
         have cx2 := sb2.cell 2
         have cx3 := sb2.cell 3
         have cx4 := sb2.cell 4
         have cx5 := sb2.cell 5
         have cx6 := sb2.cell 6
         have cx7 := sb2.cell 7
         have cx8 := sb2.cell 8
         have cx9 := sb2.cell 9
         have cx10 := sb2.cell 10
         have cx11 := sb2.cell 11
         simp at cx0 cx1 cx2 cx3 cx4 cx5 cx6 cx7 cx8 cx9 cx10 cx11
         have cf0 := sb1.cell 0
         have cf1 := sb1.cell 1
         simp at cf0 cf1
         have ci0 := sb5.cell 0
         have fi0 := sb5.frozen 0
         have ci1 := sb5.cell 1
         have fi1 := sb5.frozen 1
         have ci2 := sb5.cell 2
         have fi2 := sb5.frozen 2
         have ci3 := sb5.cell 3
         have fi3 := sb5.frozen 3
         have ci4 := sb5.cell 4
         have fi4 := sb5.frozen 4
         have ci5 := sb5.cell 5
         have fi5 := sb5.frozen 5
         have ci6 := sb5.cell 6
         have fi6 := sb5.frozen 6
         have ci7 := sb5.cell 7
         have fi7 := sb5.frozen 7
         have ci8 := sb5.cell 8
         have fi8 := sb5.frozen 8
         simp at ci0 ci1 ci2 ci3 ci4 ci5 ci6 ci7 ci8
         clear sb1 sb2 sb3 sb4 sb5
         have H3 := Lib.hid h3
         clear h3 hb2)
      | fail)
  have hK := Lib.hid (H3.out.swap.blk.1)
  exact ret_it rfl rfl (Blk.all9 (v0 := .int .i64 0) (v1 := .int .i64 0) (v2 := .int .i64 0) (v3 := .string ⟨#[]⟩) (v4 := .int .i64 0) (v5 := .int .i64 0) (v6 := .int .i64 0) (v7 := .int .i64 0) (v8 := .slice none 0 0) (by exact hK.out)) rfl rfl ⟨⟨none, 0, 0, rfl, ChAt.nil _ _, by omega⟩, ((show Has w (tbA p r :: blkA (V.heap.size + 1 + 1 + 1) 26 #[.int .i64 l1, .int .i64 l2] :: blkA (V.heap.size + 1 + 1) 26 #[.int .i64 t1, .int .i64 t2] :: blkA (V.heap.size + 1) 28 (txc x) :: blkA V.heap.size 66 #[.string f, .string t] :: T) _ from (Has.all9s (v0 := .int .i64 0) (v1 := .int .i64 0) (v2 := .int .i64 0) (v3 := .string ⟨#[]⟩) (v4 := .int .i64 0) (v5 := .int .i64 0) (v6 := .int .i64 0) (v7 := .int .i64 0) (v8 := .slice none 0 0) H3.out.swap).tail).perm (List.perm_middle (l₁ := [_, _, _, _])).symm).tail.tail.tail.tail⟩
set_option maxHeartbeats 4000000 in
theorem seRef_ok {w V : World} {T : List As} {p N : Nat} {r : List Rw} (h : Has w (tbA p r :: T) V) (hr : ROk N r) (hN : N ≤ 999999000) (hM : MaxL w) (f t : ByteArray) (hfs : f.size ≤ 9223372036854775807) (hts : t.size ≤ 9223372036854775807) (x : Tx) (t1 t2 l1 l2 : Int) (hc : chkR f t x (t1, t2) (l1, l2) = 0) (hv : hasVP r f t (lateP x (t1, t2)) = false) (hi : fstIP r f t (wayP x (t1, t2)) = none) :
    Calls Tryz.prog 20 #[pt p, .agg #[.string f, .string t], txv x, sv t1 t2, sv l1 l2] V fun e w' => AnsRf (zI, 0) e w' ∧ Has w (tbA p r :: T) w' := by
  have hz1 : (V.alloc (.cells #[.string f, .string t] 66)).heap.size = V.heap.size + 1 := World.size_alloc _ _
  have hz2 : ((V.alloc (.cells #[.string f, .string t] 66)).alloc (.cells (txc x) 28)).heap.size = V.heap.size + 1 + 1 := (World.size_alloc _ _).trans (by rw [hz1])
  have hz3 : (((V.alloc (.cells #[.string f, .string t] 66)).alloc (.cells (txc x) 28)).alloc (.cells #[.int .i64 t1, .int .i64 t2] 26)).heap.size = V.heap.size + 1 + 1 + 1 := (World.size_alloc _ _).trans (by rw [hz2])
  have hz4 : ((((V.alloc (.cells #[.string f, .string t] 66)).alloc (.cells (txc x) 28)).alloc (.cells #[.int .i64 t1, .int .i64 t2] 26)).alloc (.cells #[.int .i64 l1, .int .i64 l2] 26)).heap.size = V.heap.size + 1 + 1 + 1 + 1 := (World.size_alloc _ _).trans (by rw [hz3])
  have h1 := ((((h.newBlk 66 #[.string f, .string t]).newBlk 28 (txc x)).newBlk 26 #[.int .i64 t1, .int .i64 t2]).newBlk 26 #[.int .i64 l1, .int .i64 l2]).newBlk 39 (itc zI (.slice none 0 0))
  rw [hz4, hz3, hz2, hz1] at h1
  have H1 := Lib.hid (h1.perm (List.perm_middle (l₁ := [_, _, _, _, _])))
  have HCK := Lib.hid (seChkSpan H1.out hr hN f t x t1 t2 l1 l2)
  have HHV := Lib.hid (fun W (hW : Has w (tbA p r :: blkA (V.heap.size + 1 + 1 + 1 + 1) 39 (itc zI (.slice none 0 0)) :: blkA (V.heap.size + 1 + 1 + 1) 26 #[.int .i64 l1, .int .i64 l2] :: blkA (V.heap.size + 1 + 1) 26 #[.int .i64 t1, .int .i64 t2] :: blkA (V.heap.size + 1) 28 (txc x) :: blkA V.heap.size 66 #[.string f, .string t] :: T) W) => let ⟨F, hA, _⟩ := hW.get; seHasV hA hr.szs (hM.below hW.bel) f t hfs hts x t1 t2 (V.heap.size + 1) (V.heap.size + 1 + 1) (hW.blkAt (by simp)) (hW.blkAt (by simp)))
  have HFI := Lib.hid (fun W (hW : Has w (tbA p r :: blkA (V.heap.size + 1 + 1 + 1 + 1) 39 (itc zI (.slice none 0 0)) :: blkA (V.heap.size + 1 + 1 + 1) 26 #[.int .i64 l1, .int .i64 l2] :: blkA (V.heap.size + 1 + 1) 26 #[.int .i64 t1, .int .i64 t2] :: blkA (V.heap.size + 1) 28 (txc x) :: blkA V.heap.size 66 #[.string f, .string t] :: T) W) => let ⟨F, hA, _⟩ := hW.get; seFst hA hr.szs (hM.below hW.bel) f t hfs hts x t1 t2 (V.heap.size + 1) (V.heap.size + 1 + 1) (hW.blkAt (by simp)) (hW.blkAt (by simp)))
  rw [hc] at HCK
  rw [hv] at HHV
  rw [hi] at HFI
  unfold AnsT at HFI
  simp only at HFI
  clear hc hv hi
  clear h h1 hr hN hM hz1 hz2 hz3 hz4
  go_enter Tryz.func20, Tryz.ntmps20
  go_wp2_with (first
      | (go_at_call 62; refine HCK.out.mono ?_; rintro e w1 ⟨rfl, h2⟩
         have sa4 := h2.blkAt (g := V.heap.size + 1 + 1 + 1) (t := 26) (cs := #[.int .i64 l1, .int .i64 l2]) (by simp)
         have sa3 := h2.blkAt (g := V.heap.size + 1 + 1) (t := 26) (cs := #[.int .i64 t1, .int .i64 t2]) (by simp)
         have sa2 := h2.blkAt (g := V.heap.size + 1) (t := 28) (cs := txc x) (by simp)
         have sa1 := h2.blkAt (g := V.heap.size) (t := 66) (cs := #[.string f, .string t]) (by simp)
         have sa5 := h2.blkAt (g := V.heap.size + 1 + 1 + 1 + 1) (t := 39) (cs := (itc zI (.slice none 0 0))) (by simp)
         have cl0 := sa4.cell 0
         have cl1 := sa4.cell 1
         simp at cl0 cl1
         have ct0 := sa3.cell 0
         have ct1 := sa3.cell 1
         simp at ct0 ct1
         have cx0 := sa2.cell 0
         have cx1 := sa2.cell 1
         have cx2 := sa2.cell 2
         have cx3 := sa2.cell 3
         have cx4 := sa2.cell 4
         have cx5 := sa2.cell 5
         have cx6 := sa2.cell 6
         have cx7 := sa2.cell 7
         have cx8 := sa2.cell 8
         have cx9 := sa2.cell 9
         have cx10 := sa2.cell 10
         have cx11 := sa2.cell 11
         simp at cx0 cx1 cx2 cx3 cx4 cx5 cx6 cx7 cx8 cx9 cx10 cx11
         have cf0 := sa1.cell 0
         have cf1 := sa1.cell 1
         simp at cf0 cf1
         have ci0 := sa5.cell 0
         have fi0 := sa5.frozen 0
         have ci1 := sa5.cell 1
         have fi1 := sa5.frozen 1
         have ci2 := sa5.cell 2
         have fi2 := sa5.frozen 2
         have ci3 := sa5.cell 3
         have fi3 := sa5.frozen 3
         have ci4 := sa5.cell 4
         have fi4 := sa5.frozen 4
         have ci5 := sa5.cell 5
         have fi5 := sa5.frozen 5
         have ci6 := sa5.cell 6
         have fi6 := sa5.frozen 6
         have ci7 := sa5.cell 7
         have fi7 := sa5.frozen 7
         have ci8 := sa5.cell 8
         have fi8 := sa5.frozen 8
         simp at ci0 ci1 ci2 ci3 ci4 ci5 ci6 ci7 ci8
         clear sa1 sa2 sa3 sa4 sa5
         have H2 := Lib.hid h2
         clear h2)
      | (go_at_call 63; refine (HHV.out _ H2.out).mono ?_; rintro e w2 ⟨rfl, hb2⟩
         have h3 := H2.out.keep hb2
         have sb4 := h3.blkAt (g := V.heap.size + 1 + 1 + 1) (t := 26) (cs := #[.int .i64 l1, .int .i64 l2]) (by simp)
         have sb3 := h3.blkAt (g := V.heap.size + 1 + 1) (t := 26) (cs := #[.int .i64 t1, .int .i64 t2]) (by simp)
         have sb2 := h3.blkAt (g := V.heap.size + 1) (t := 28) (cs := txc x) (by simp)
         have sb1 := h3.blkAt (g := V.heap.size) (t := 66) (cs := #[.string f, .string t]) (by simp)
         have sb5 := h3.blkAt (g := V.heap.size + 1 + 1 + 1 + 1) (t := 39) (cs := (itc zI (.slice none 0 0))) (by simp)
         have cl0 := sb4.cell 0
         have cl1 := sb4.cell 1
         simp at cl0 cl1
         have ct0 := sb3.cell 0
         have ct1 := sb3.cell 1
         simp at ct0 ct1
         have cx0 := sb2.cell 0
         have cx1 := sb2.cell 1
         have cx2 := sb2.cell 2
         have cx3 := sb2.cell 3
         have cx4 := sb2.cell 4
         have cx5 := sb2.cell 5
         have cx6 := sb2.cell 6
         have cx7 := sb2.cell 7
         have cx8 := sb2.cell 8
         have cx9 := sb2.cell 9
         have cx10 := sb2.cell 10
         have cx11 := sb2.cell 11
         simp at cx0 cx1 cx2 cx3 cx4 cx5 cx6 cx7 cx8 cx9 cx10 cx11
         have cf0 := sb1.cell 0
         have cf1 := sb1.cell 1
         simp at cf0 cf1
         have ci0 := sb5.cell 0
         have fi0 := sb5.frozen 0
         have ci1 := sb5.cell 1
         have fi1 := sb5.frozen 1
         have ci2 := sb5.cell 2
         have fi2 := sb5.frozen 2
         have ci3 := sb5.cell 3
         have fi3 := sb5.frozen 3
         have ci4 := sb5.cell 4
         have fi4 := sb5.frozen 4
         have ci5 := sb5.cell 5
         have fi5 := sb5.frozen 5
         have ci6 := sb5.cell 6
         have fi6 := sb5.frozen 6
         have ci7 := sb5.cell 7
         have fi7 := sb5.frozen 7
         have ci8 := sb5.cell 8
         have fi8 := sb5.frozen 8
         simp at ci0 ci1 ci2 ci3 ci4 ci5 ci6 ci7 ci8
         clear sb1 sb2 sb3 sb4 sb5
         have H3 := Lib.hid h3
         clear h3 hb2)
      | (go_at_call 65; refine (HFI.out _ H3.out).mono ?_; rintro e w3 ⟨rfl, hb3⟩
         have h4 := H3.out.keep (bsa hb3 (.cells (itc zI (.slice none 0 0)) 39))
         have sc4 := h4.blkAt (g := V.heap.size + 1 + 1 + 1) (t := 26) (cs := #[.int .i64 l1, .int .i64 l2]) (by simp)
         have sc3 := h4.blkAt (g := V.heap.size + 1 + 1) (t := 26) (cs := #[.int .i64 t1, .int .i64 t2]) (by simp)
         have sc2 := h4.blkAt (g := V.heap.size + 1) (t := 28) (cs := txc x) (by simp)
         have sc1 := h4.blkAt (g := V.heap.size) (t := 66) (cs := #[.string f, .string t]) (by simp)
         have sc5 := h4.blkAt (g := V.heap.size + 1 + 1 + 1 + 1) (t := 39) (cs := (itc zI (.slice none 0 0))) (by simp)
         have cl0 := sc4.cell 0
         have cl1 := sc4.cell 1
         simp at cl0 cl1
         have ct0 := sc3.cell 0
         have ct1 := sc3.cell 1
         simp at ct0 ct1
         have cx0 := sc2.cell 0
         have cx1 := sc2.cell 1
         have cx2 := sc2.cell 2
         have cx3 := sc2.cell 3
         have cx4 := sc2.cell 4
         have cx5 := sc2.cell 5
         have cx6 := sc2.cell 6
         have cx7 := sc2.cell 7
         have cx8 := sc2.cell 8
         have cx9 := sc2.cell 9
         have cx10 := sc2.cell 10
         have cx11 := sc2.cell 11
         simp at cx0 cx1 cx2 cx3 cx4 cx5 cx6 cx7 cx8 cx9 cx10 cx11
         have cf0 := sc1.cell 0
         have cf1 := sc1.cell 1
         simp at cf0 cf1
         have ci0 := sc5.cell 0
         have fi0 := sc5.frozen 0
         have ci1 := sc5.cell 1
         have fi1 := sc5.frozen 1
         have ci2 := sc5.cell 2
         have fi2 := sc5.frozen 2
         have ci3 := sc5.cell 3
         have fi3 := sc5.frozen 3
         have ci4 := sc5.cell 4
         have fi4 := sc5.frozen 4
         have ci5 := sc5.cell 5
         have fi5 := sc5.frozen 5
         have ci6 := sc5.cell 6
         have fi6 := sc5.frozen 6
         have ci7 := sc5.cell 7
         have fi7 := sc5.frozen 7
         have ci8 := sc5.cell 8
         have fi8 := sc5.frozen 8
         simp at ci0 ci1 ci2 ci3 ci4 ci5 ci6 ci7 ci8
         clear sc1 sc2 sc3 sc4 sc5
         have H4 := Lib.hid h4
         clear h4 hb3)
      | fail)
  have hK := Lib.hid (H4.out.swap.blk.1)
  exact ret_it rfl rfl (Blk.all9 (v0 := .int .i64 0) (v1 := .int .i64 0) (v2 := .int .i64 0) (v3 := .string ⟨#[]⟩) (v4 := .int .i64 0) (v5 := .int .i64 0) (v6 := .int .i64 0) (v7 := .int .i64 0) (v8 := .slice none 0 0) (by exact hK.out)) rfl rfl ⟨⟨none, 0, 0, rfl, ChAt.nil _ _, by omega⟩, ((show Has w (tbA p r :: blkA (V.heap.size + 1 + 1 + 1) 26 #[.int .i64 l1, .int .i64 l2] :: blkA (V.heap.size + 1 + 1) 26 #[.int .i64 t1, .int .i64 t2] :: blkA (V.heap.size + 1) 28 (txc x) :: blkA V.heap.size 66 #[.string f, .string t] :: T) _ from (Has.all9s (v0 := .int .i64 0) (v1 := .int .i64 0) (v2 := .int .i64 0) (v3 := .string ⟨#[]⟩) (v4 := .int .i64 0) (v5 := .int .i64 0) (v6 := .int .i64 0) (v7 := .int .i64 0) (v8 := .slice none 0 0) H4.out.swap).tail).perm (List.perm_middle (l₁ := [_, _, _, _])).symm).tail.tail.tail.tail⟩
set_option maxHeartbeats 4000000 in
theorem seRef_way {w V : World} {T : List As} {p N : Nat} {r : List Rw} (h : Has w (tbA p r :: T) V) (hr : ROk N r) (hN : N ≤ 999999000) (hM : MaxL w) (f t : ByteArray) (hfs : f.size ≤ 9223372036854775807) (hts : t.size ≤ 9223372036854775807) (x : Tx) (t1 t2 l1 l2 : Int) (y : It) (hc : chkR f t x (t1, t2) (l1, l2) = 0) (hv : hasVP r f t (lateP x (t1, t2)) = false) (hi : fstIP r f t (wayP x (t1, t2)) = some y) :
    Calls Tryz.prog 20 #[pt p, .agg #[.string f, .string t], txv x, sv t1 t2, sv l1 l2] V fun e w' => AnsRf (y, 120) e w' ∧ Has w (tbA p r :: T) w' := by
  have hz1 : (V.alloc (.cells #[.string f, .string t] 66)).heap.size = V.heap.size + 1 := World.size_alloc _ _
  have hz2 : ((V.alloc (.cells #[.string f, .string t] 66)).alloc (.cells (txc x) 28)).heap.size = V.heap.size + 1 + 1 := (World.size_alloc _ _).trans (by rw [hz1])
  have hz3 : (((V.alloc (.cells #[.string f, .string t] 66)).alloc (.cells (txc x) 28)).alloc (.cells #[.int .i64 t1, .int .i64 t2] 26)).heap.size = V.heap.size + 1 + 1 + 1 := (World.size_alloc _ _).trans (by rw [hz2])
  have hz4 : ((((V.alloc (.cells #[.string f, .string t] 66)).alloc (.cells (txc x) 28)).alloc (.cells #[.int .i64 t1, .int .i64 t2] 26)).alloc (.cells #[.int .i64 l1, .int .i64 l2] 26)).heap.size = V.heap.size + 1 + 1 + 1 + 1 := (World.size_alloc _ _).trans (by rw [hz3])
  have h1 := ((((h.newBlk 66 #[.string f, .string t]).newBlk 28 (txc x)).newBlk 26 #[.int .i64 t1, .int .i64 t2]).newBlk 26 #[.int .i64 l1, .int .i64 l2]).newBlk 39 (itc zI (.slice none 0 0))
  rw [hz4, hz3, hz2, hz1] at h1
  have H1 := Lib.hid (h1.perm (List.perm_middle (l₁ := [_, _, _, _, _])))
  have HCK := Lib.hid (seChkSpan H1.out hr hN f t x t1 t2 l1 l2)
  have HHV := Lib.hid (fun W (hW : Has w (tbA p r :: blkA (V.heap.size + 1 + 1 + 1 + 1) 39 (itc zI (.slice none 0 0)) :: blkA (V.heap.size + 1 + 1 + 1) 26 #[.int .i64 l1, .int .i64 l2] :: blkA (V.heap.size + 1 + 1) 26 #[.int .i64 t1, .int .i64 t2] :: blkA (V.heap.size + 1) 28 (txc x) :: blkA V.heap.size 66 #[.string f, .string t] :: T) W) => let ⟨F, hA, _⟩ := hW.get; seHasV hA hr.szs (hM.below hW.bel) f t hfs hts x t1 t2 (V.heap.size + 1) (V.heap.size + 1 + 1) (hW.blkAt (by simp)) (hW.blkAt (by simp)))
  have HFI := Lib.hid (fun W (hW : Has w (tbA p r :: blkA (V.heap.size + 1 + 1 + 1 + 1) 39 (itc zI (.slice none 0 0)) :: blkA (V.heap.size + 1 + 1 + 1) 26 #[.int .i64 l1, .int .i64 l2] :: blkA (V.heap.size + 1 + 1) 26 #[.int .i64 t1, .int .i64 t2] :: blkA (V.heap.size + 1) 28 (txc x) :: blkA V.heap.size 66 #[.string f, .string t] :: T) W) => let ⟨F, hA, _⟩ := hW.get; seFst hA hr.szs (hM.below hW.bel) f t hfs hts x t1 t2 (V.heap.size + 1) (V.heap.size + 1 + 1) (hW.blkAt (by simp)) (hW.blkAt (by simp)))
  rw [hc] at HCK
  rw [hv] at HHV
  rw [hi] at HFI
  unfold AnsT at HFI
  simp only at HFI
  clear hc hv hi
  clear h h1 hr hN hM hz1 hz2 hz3 hz4
  go_enter Tryz.func20, Tryz.ntmps20
  go_wp2_with (first
      | (go_at_call 62; refine HCK.out.mono ?_; rintro e w1 ⟨rfl, h2⟩
         have sa4 := h2.blkAt (g := V.heap.size + 1 + 1 + 1) (t := 26) (cs := #[.int .i64 l1, .int .i64 l2]) (by simp)
         have sa3 := h2.blkAt (g := V.heap.size + 1 + 1) (t := 26) (cs := #[.int .i64 t1, .int .i64 t2]) (by simp)
         have sa2 := h2.blkAt (g := V.heap.size + 1) (t := 28) (cs := txc x) (by simp)
         have sa1 := h2.blkAt (g := V.heap.size) (t := 66) (cs := #[.string f, .string t]) (by simp)
         have sa5 := h2.blkAt (g := V.heap.size + 1 + 1 + 1 + 1) (t := 39) (cs := (itc zI (.slice none 0 0))) (by simp)
         have cl0 := sa4.cell 0
         have cl1 := sa4.cell 1
         simp at cl0 cl1
         have ct0 := sa3.cell 0
         have ct1 := sa3.cell 1
         simp at ct0 ct1
         have cx0 := sa2.cell 0
         have cx1 := sa2.cell 1
         have cx2 := sa2.cell 2
         have cx3 := sa2.cell 3
         have cx4 := sa2.cell 4
         have cx5 := sa2.cell 5
         have cx6 := sa2.cell 6
         have cx7 := sa2.cell 7
         have cx8 := sa2.cell 8
         have cx9 := sa2.cell 9
         have cx10 := sa2.cell 10
         have cx11 := sa2.cell 11
         simp at cx0 cx1 cx2 cx3 cx4 cx5 cx6 cx7 cx8 cx9 cx10 cx11
         have cf0 := sa1.cell 0
         have cf1 := sa1.cell 1
         simp at cf0 cf1
         have ci0 := sa5.cell 0
         have fi0 := sa5.frozen 0
         have ci1 := sa5.cell 1
         have fi1 := sa5.frozen 1
         have ci2 := sa5.cell 2
         have fi2 := sa5.frozen 2
         have ci3 := sa5.cell 3
         have fi3 := sa5.frozen 3
         have ci4 := sa5.cell 4
         have fi4 := sa5.frozen 4
         have ci5 := sa5.cell 5
         have fi5 := sa5.frozen 5
         have ci6 := sa5.cell 6
         have fi6 := sa5.frozen 6
         have ci7 := sa5.cell 7
         have fi7 := sa5.frozen 7
         have ci8 := sa5.cell 8
         have fi8 := sa5.frozen 8
         simp at ci0 ci1 ci2 ci3 ci4 ci5 ci6 ci7 ci8
         clear sa1 sa2 sa3 sa4 sa5
         have H2 := Lib.hid h2
         clear h2)
      | (go_at_call 63; refine (HHV.out _ H2.out).mono ?_; rintro e w2 ⟨rfl, hb2⟩
         have h3 := H2.out.keep hb2
         have sb4 := h3.blkAt (g := V.heap.size + 1 + 1 + 1) (t := 26) (cs := #[.int .i64 l1, .int .i64 l2]) (by simp)
         have sb3 := h3.blkAt (g := V.heap.size + 1 + 1) (t := 26) (cs := #[.int .i64 t1, .int .i64 t2]) (by simp)
         have sb2 := h3.blkAt (g := V.heap.size + 1) (t := 28) (cs := txc x) (by simp)
         have sb1 := h3.blkAt (g := V.heap.size) (t := 66) (cs := #[.string f, .string t]) (by simp)
         have sb5 := h3.blkAt (g := V.heap.size + 1 + 1 + 1 + 1) (t := 39) (cs := (itc zI (.slice none 0 0))) (by simp)
         have cl0 := sb4.cell 0
         have cl1 := sb4.cell 1
         simp at cl0 cl1
         have ct0 := sb3.cell 0
         have ct1 := sb3.cell 1
         simp at ct0 ct1
         have cx0 := sb2.cell 0
         have cx1 := sb2.cell 1
         have cx2 := sb2.cell 2
         have cx3 := sb2.cell 3
         have cx4 := sb2.cell 4
         have cx5 := sb2.cell 5
         have cx6 := sb2.cell 6
         have cx7 := sb2.cell 7
         have cx8 := sb2.cell 8
         have cx9 := sb2.cell 9
         have cx10 := sb2.cell 10
         have cx11 := sb2.cell 11
         simp at cx0 cx1 cx2 cx3 cx4 cx5 cx6 cx7 cx8 cx9 cx10 cx11
         have cf0 := sb1.cell 0
         have cf1 := sb1.cell 1
         simp at cf0 cf1
         have ci0 := sb5.cell 0
         have fi0 := sb5.frozen 0
         have ci1 := sb5.cell 1
         have fi1 := sb5.frozen 1
         have ci2 := sb5.cell 2
         have fi2 := sb5.frozen 2
         have ci3 := sb5.cell 3
         have fi3 := sb5.frozen 3
         have ci4 := sb5.cell 4
         have fi4 := sb5.frozen 4
         have ci5 := sb5.cell 5
         have fi5 := sb5.frozen 5
         have ci6 := sb5.cell 6
         have fi6 := sb5.frozen 6
         have ci7 := sb5.cell 7
         have fi7 := sb5.frozen 7
         have ci8 := sb5.cell 8
         have fi8 := sb5.frozen 8
         simp at ci0 ci1 ci2 ci3 ci4 ci5 ci6 ci7 ci8
         clear sb1 sb2 sb3 sb4 sb5
         have H3 := Lib.hid h3
         clear h3 hb2)
      | (go_at_call 65; refine (HFI.out _ H3.out).mono ?_; rintro e w3 ⟨⟨A2, n2, c2, rfl, hat, hn2⟩, hb3⟩
         have h4 := H3.out.keep (bsa hb3 (.cells (itc y (.slice A2 n2 c2)) 39))
         have sc4 := h4.blkAt (g := V.heap.size + 1 + 1 + 1) (t := 26) (cs := #[.int .i64 l1, .int .i64 l2]) (by simp)
         have sc3 := h4.blkAt (g := V.heap.size + 1 + 1) (t := 26) (cs := #[.int .i64 t1, .int .i64 t2]) (by simp)
         have sc2 := h4.blkAt (g := V.heap.size + 1) (t := 28) (cs := txc x) (by simp)
         have sc1 := h4.blkAt (g := V.heap.size) (t := 66) (cs := #[.string f, .string t]) (by simp)
         have sc5 := h4.blkAt (g := V.heap.size + 1 + 1 + 1 + 1) (t := 39) (cs := (itc zI (.slice none 0 0))) (by simp)
         have cl0 := sc4.cell 0
         have cl1 := sc4.cell 1
         simp at cl0 cl1
         have ct0 := sc3.cell 0
         have ct1 := sc3.cell 1
         simp at ct0 ct1
         have cx0 := sc2.cell 0
         have cx1 := sc2.cell 1
         have cx2 := sc2.cell 2
         have cx3 := sc2.cell 3
         have cx4 := sc2.cell 4
         have cx5 := sc2.cell 5
         have cx6 := sc2.cell 6
         have cx7 := sc2.cell 7
         have cx8 := sc2.cell 8
         have cx9 := sc2.cell 9
         have cx10 := sc2.cell 10
         have cx11 := sc2.cell 11
         simp at cx0 cx1 cx2 cx3 cx4 cx5 cx6 cx7 cx8 cx9 cx10 cx11
         have cf0 := sc1.cell 0
         have cf1 := sc1.cell 1
         simp at cf0 cf1
         have ci0 := sc5.cell 0
         have fi0 := sc5.frozen 0
         have ci1 := sc5.cell 1
         have fi1 := sc5.frozen 1
         have ci2 := sc5.cell 2
         have fi2 := sc5.frozen 2
         have ci3 := sc5.cell 3
         have fi3 := sc5.frozen 3
         have ci4 := sc5.cell 4
         have fi4 := sc5.frozen 4
         have ci5 := sc5.cell 5
         have fi5 := sc5.frozen 5
         have ci6 := sc5.cell 6
         have fi6 := sc5.frozen 6
         have ci7 := sc5.cell 7
         have fi7 := sc5.frozen 7
         have ci8 := sc5.cell 8
         have fi8 := sc5.frozen 8
         simp at ci0 ci1 ci2 ci3 ci4 ci5 ci6 ci7 ci8
         clear sc1 sc2 sc3 sc4 sc5
         have H4 := Lib.hid h4
         have HAT := Lib.hid (hat.below (nbl w3 (.cells (itc y (.slice A2 n2 c2)) 39)))
         clear h4 hb3 hat)
      | fail)
  have hK := Lib.hid (H4.out.swap.blk.1)
  have HNE := Lib.hid (HAT.out.apart hK.out (it_no _ _ (fun d e => nomatch e)))
  have hch := Lib.hid (((((((((HAT.out.put (g := V.heap.size + 1 + 1 + 1 + 1) (i := 0) (u := .int .i64 y.id) HNE.out).put (g := V.heap.size + 1 + 1 + 1 + 1) (i := 1) (u := .int .i64 y.ep) HNE.out).put (g := V.heap.size + 1 + 1 + 1 + 1) (i := 2) (u := .int .i64 y.pr) HNE.out).put (g := V.heap.size + 1 + 1 + 1 + 1) (i := 3) (u := .string y.an) HNE.out).put (g := V.heap.size + 1 + 1 + 1 + 1) (i := 4) (u := .int .i64 y.sw) HNE.out).put (g := V.heap.size + 1 + 1 + 1 + 1) (i := 5) (u := .int .i64 y.sl) HNE.out).put (g := V.heap.size + 1 + 1 + 1 + 1) (i := 6) (u := .int .i64 y.bw) HNE.out).put (g := V.heap.size + 1 + 1 + 1 + 1) (i := 7) (u := .int .i64 y.bl) HNE.out).put (g := V.heap.size + 1 + 1 + 1 + 1) (i := 8) (u := .slice A2 n2 c2) HNE.out)
  exact ret_it rfl rfl (Blk.all9 (v0 := .int .i64 y.id) (v1 := .int .i64 y.ep) (v2 := .int .i64 y.pr) (v3 := .string y.an) (v4 := .int .i64 y.sw) (v5 := .int .i64 y.sl) (v6 := .int .i64 y.bw) (v7 := .int .i64 y.bl) (v8 := .slice A2 n2 c2) (by exact hK.out)) rfl rfl ⟨⟨A2, n2, c2, rfl, hch.out, hn2⟩, ((show Has w (tbA p r :: blkA (V.heap.size + 1 + 1 + 1) 26 #[.int .i64 l1, .int .i64 l2] :: blkA (V.heap.size + 1 + 1) 26 #[.int .i64 t1, .int .i64 t2] :: blkA (V.heap.size + 1) 28 (txc x) :: blkA V.heap.size 66 #[.string f, .string t] :: T) _ from (Has.all9s (v0 := .int .i64 y.id) (v1 := .int .i64 y.ep) (v2 := .int .i64 y.pr) (v3 := .string y.an) (v4 := .int .i64 y.sw) (v5 := .int .i64 y.sl) (v6 := .int .i64 y.bw) (v7 := .int .i64 y.bl) (v8 := .slice A2 n2 c2) H4.out.swap).tail).perm (List.perm_middle (l₁ := [_, _, _, _])).symm).tail.tail.tail.tail⟩
theorem seRefresh {w V : World} {T : List As} {p N : Nat} {r : List Rw} (h : Has w (tbA p r :: T) V) (hr : ROk N r) (hN : N ≤ 999999000) (hM : MaxL w) (f t : ByteArray) (hfs : f.size ≤ 9223372036854775807) (hts : t.size ≤ 9223372036854775807) (x : Tx) (t1 t2 l1 l2 : Int) :
    Calls Tryz.prog 20 #[pt p, .agg #[.string f, .string t], txv x, sv t1 t2, sv l1 l2] V fun e w' => AnsRf (refC r f t x (t1, t2) (l1, l2)) e w' ∧ Has w (tbA p r :: T) w' := by
  unfold refC
  by_cases hc : chkR f t x (t1, t2) (l1, l2) = 0
  · rw [if_pos hc]
    cases hv : hasVP r f t (lateP x (t1, t2)) with
    | true => exact seRef_ver h hr hN hM f t hfs hts x t1 t2 l1 l2 hc hv
    | false =>
      rw [if_neg (by decide)]
      cases hi : fstIP r f t (wayP x (t1, t2)) with
      | none => exact seRef_ok h hr hN hM f t hfs hts x t1 t2 l1 l2 hc hv hi
      | some y => exact seRef_way h hr hN hM f t hfs hts x t1 t2 l1 l2 y hc hv hi
  · rw [if_neg hc]
    exact seRef_no h hr hN hM f t hfs hts x t1 t2 l1 l2 _ hc rfl
end Go.Proofs.YtldbmogondmgmaaGreatDoor
