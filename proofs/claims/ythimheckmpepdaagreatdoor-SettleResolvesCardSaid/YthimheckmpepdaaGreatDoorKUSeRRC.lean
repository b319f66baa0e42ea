/-
  Layer 14, the document's answer: Resolve, a version (written by wip/genrr.py).
-/
import Derived.Test.YthimheckmpepdaaGreatDoorKU42
set_option linter.unusedVariables false
set_option linter.unusedSimpArgs false
set_option maxRecDepth 100000
namespace Go.Proofs.YthimheckmpepdaaGreatDoor
open Go.RowKit

set_option maxHeartbeats 4000000 in
theorem seRR_ver {w V : World} {T : List As} {b : Nat} {r : List Rw} (h : Has w (rtA b r :: T) V) (hz : Szs r) (key : ByteArray) (x : Rc) (A : Option Addr) (n c : Nat) (hx : ∀ W, Has w (rtA b r :: T) W → WtAt W A n x.l) (hn : n ≤ 9223372036854775807) (hk : isK key = true) (hm : mayR x = true) (y : It) (ho : pint r key = some y) (hid : (y.id == x.id) = true) (hs2 : (x.st == 2) = false) (hs4 : (x.st == 4) = false) (hs3 : (x.st == 3) = true) (hep : (y.ep == x.ep) = true) (hlt : lt (x.sw, x.sl) (y.sw, y.sl) = false) :
    Calls Tryz.prog 21 #[pt b, .string key, rcv x (.slice A n c)] V fun e w' => AnsRes ([verO key x.sw x.sl y, goneO key], 0) w (rtA b r :: T) e w' := by
  have h1 := (h.newBlk 64 (rcc x (.slice A n c))).swap
  have H1 := Lib.hid h1
  have HCH := Lib.hid (fun W => (refCheck key W))
  have HMR := Lib.hid (fun W (hW : Has w (rtA b r :: blkA V.heap.size 64 (rcc x (.slice A n c)) :: T) W) => rMayR_c x _ rfl A n c W (hx W (show Has w (blkA V.heap.size 64 (rcc x (.slice A n c)) :: rtA b r :: T) W from hW.swap).tail) hn)
  have b1 := h1.blkAt (g := V.heap.size) (t := 64) (cs := rcc x (.slice A n c)) (by simp)
  have p0 := b1.cell 0
  have p1 := b1.cell 1
  have p2 := b1.cell 2
  have p3 := b1.cell 3
  have p4 := b1.cell 4
  have p5 := b1.cell 5
  have p6 := b1.cell 6
  have p7 := b1.cell 7
  have p8 := b1.cell 8
  have p9 := b1.cell 9
  simp at p0 p1 p2 p3 p4 p5 p6 p7 p8 p9
  have HIN := Lib.hid (fun (hk : isK key = true) W (hW : Has w (rtA b r :: blkA V.heap.size 64 (rcc x (.slice A n c)) :: T) W) => rInt_c hW hz key hk)
  clear h h1 hz hx b1
  have hk1000 : key.size ≤ 1000 := by have := isK_iff.1 hk; omega
  have HIK := Lib.hid (show ∀ W, Calls Tryz.prog 31 #[.string key] W fun e w' => e = .returned (.tuple #[.string (bs (ikey (sb key))), .int .i64 0]) ∧ Below W.heap.size W w' from fun W => by
    have := rIntentKey key W
    unfold ikS ikE at this
    rw [if_pos hk1000, if_pos hk1000] at this
    exact this)
  have hmay := (mayR_parts hm).1
  have hks := isK_iff.1 hk
  rw [if_pos hks] at HCH
  have HI2 := Lib.hid (HIN.out hk)
  rw [ho] at HI2
  unfold AnsT at HI2
  simp only at HI2
  rw [hm] at HMR
  have hmy : mayI y = true := pint_may ho
  clear HIN hks hm ho
  have HLS := Lib.hid (refLess5 x.sw x.sl y.sw y.sl)
  rw [hlt] at HLS
  have HVK := Lib.hid (show ∀ W, Calls Tryz.prog 73 #[.string key, sv x.sw x.sl] W fun e w' => e = .returned (.tuple #[.string (bs (vkey (sb key) x.sw x.sl)), .int .i64 0]) ∧ Below W.heap.size W w' from fun W => by
    have := rVersionKey key x.sw x.sl W
    unfold vkS vkE at this
    rw [if_pos ⟨hk1000, hmay⟩, if_pos ⟨hk1000, hmay⟩] at this
    exact this)
  have hlen : y.l ≠ [] := mayI_ne hmy
  have hVV := last_isV hmy
  have HVT := Lib.hid (fun s d (hs : s = lastS y) (hd : d = !lastD y) W => (show Calls Tryz.prog 74 #[.string s, .bool d] W fun e w' => e = .returned (.tuple #[.string (bs (txV (lastS y) (!lastD y))), .int .i64 0]) ∧ Below W.heap.size W w' from by
    subst hs hd
    have := rVersion (lastS y) (!lastD y) W
    rw [hVV] at this
    exact this))
  have HLA := Lib.hid (fun (m : Nat) (hm : m < y.l.length) (hl : y.l.length = m + 1) => (show (y.l[m]'hm).s = lastS y ∧ (y.l[m]'hm).d = lastD y from by
    have hgl : y.l.getLast? = some (y.l[m]'hm) := by
      rw [List.getLast?_eq_getElem?, hl]
      exact List.getElem?_eq_getElem hm
    unfold lastS lastD
    rw [hgl]
    exact ⟨rfl, rfl⟩))
  have HLN := Lib.hid (List.length_pos_iff.2 hlen)
  unfold verO
  generalize bs (txV (lastS y) (!lastD y)) = tv at *
  generalize bs (vkey (sb key) x.sw x.sl) = kv at *
  generalize lastS y = ls at *
  generalize lastD y = ld at *
  clear hmy hk1000 hk hlt hmay hlen hVV
  obtain ⟨y0, y1, y2, y3, y4, y5, y6, y7, y8⟩ := y
  have hid2 : y0 = x.id := by simpa using hid
  have hep2 : y1 = x.ep := by simpa using hep
  subst hid2 hep2
  clear hid hep
  unfold goneO
  generalize bs (ikey (sb key)) = kk at *
  go_enter Tryz.func21, Tryz.ntmps21
  go_wp2_with (first
      | (go_at_call 70; refine (HCH.out _).mono ?_; rintro e w1 ⟨rfl, rfl⟩)
      | (go_at_call 71; refine (HMR.out _ H1.out).mono ?_; rintro e w2 ⟨rfl, hb2⟩
         have h2 := H1.out.keep hb2
         have b2 := h2.blkAt (g := V.heap.size) (t := 64) (cs := rcc x (.slice A n c)) (by simp)
         have p0 := b2.cell 0
         have p1 := b2.cell 1
         have p2 := b2.cell 2
         have p3 := b2.cell 3
         have p4 := b2.cell 4
         have p5 := b2.cell 5
         have p6 := b2.cell 6
         have p7 := b2.cell 7
         have p8 := b2.cell 8
         have p9 := b2.cell 9
         simp at p0 p1 p2 p3 p4 p5 p6 p7 p8 p9
         have H2 := Lib.hid h2
         clear hb2 h2 b2)
      | (go_at_call 30; refine (HI2.out _ H2.out).mono ?_; rintro e w3 ⟨⟨A2, n2, c2, rfl, hat, hn2⟩, hb3⟩
         have h3 := H2.out.keep (bsa hb3 (.cells (itc ⟨x.id, x.ep, y2, y3, y4, y5, y6, y7, y8⟩ (.slice A2 n2 c2)) 38))
         have b3 := h3.blkAt (g := V.heap.size) (t := 64) (cs := rcc x (.slice A n c)) (by simp)
         have p0 := b3.cell 0
         have p1 := b3.cell 1
         have p2 := b3.cell 2
         have p3 := b3.cell 3
         have p4 := b3.cell 4
         have p5 := b3.cell 5
         have p6 := b3.cell 6
         have p7 := b3.cell 7
         have p8 := b3.cell 8
         have p9 := b3.cell 9
         simp at p0 p1 p2 p3 p4 p5 p6 p7 p8 p9
         have HA3 := Lib.hid (hat.below (nbl w3 (.cells (itc ⟨x.id, x.ep, y2, y3, y4, y5, y6, y7, y8⟩ (.slice A2 n2 c2)) 38)))
         have kI := Lib.hid (Blk.new w3 38 (itc ⟨x.id, x.ep, y2, y3, y4, y5, y6, y7, y8⟩ (.slice A2 n2 c2)))
         clear hat
         have H3 := Lib.hid h3
         clear hb3 h3 b3)
      | (go_at_call 31; refine (HIK.out _).mono ?_; rintro e w5 ⟨rfl, hb5⟩
         have h5 := H3.out.keep (bsa hb5 (.cells #[.string kk, .string ⟨#[]⟩, .bool true] 91))
         have b5 := h5.blkAt (g := V.heap.size) (t := 64) (cs := rcc x (.slice A n c)) (by simp)
         have p0 := b5.cell 0
         have p1 := b5.cell 1
         have p2 := b5.cell 2
         have p3 := b5.cell 3
         have p4 := b5.cell 4
         have p5 := b5.cell 5
         have p6 := b5.cell 6
         have p7 := b5.cell 7
         have p8 := b5.cell 8
         have p9 := b5.cell 9
         simp at p0 p1 p2 p3 p4 p5 p6 p7 p8 p9
         have k5 := (kI.out.below hb5 kI.out.lt).below (nbl w5 (.cells #[.string kk, .string ⟨#[]⟩, .bool true] 91)) (kI.out.below hb5 kI.out.lt).lt
         have i0 := k5.cell 0
         have fi0 := k5.frozen 0
         have i1 := k5.cell 1
         have fi1 := k5.frozen 1
         have i2 := k5.cell 2
         have fi2 := k5.frozen 2
         have i3 := k5.cell 3
         have fi3 := k5.frozen 3
         have i4 := k5.cell 4
         have fi4 := k5.frozen 4
         have i5 := k5.cell 5
         have fi5 := k5.frozen 5
         have i6 := k5.cell 6
         have fi6 := k5.frozen 6
         have i7 := k5.cell 7
         have fi7 := k5.frozen 7
         have i8 := k5.cell 8
         have fi8 := k5.frozen 8
         simp at i0 i1 i2 i3 i4 i5 i6 i7 i8
         have G5 := Lib.hid (Blk.new w5 91 #[.string kk, .string ⟨#[]⟩, .bool true])
         have K5 := Lib.hid k5
         have HA5 := Lib.hid ((HA3.out.below hb5).below (nbl w5 (.cells #[.string kk, .string ⟨#[]⟩, .bool true] 91)))
         have H5 := Lib.hid h5
         clear hb5 h5 b5 k5)
      | (go_at_call 72; refine (HLS.out _).mono ?_; rintro e w6 ⟨rfl, hb6⟩
         have h6 := H5.out.keep hb6
         have b6 := h6.blkAt (g := V.heap.size) (t := 64) (cs := rcc x (.slice A n c)) (by simp)
         have p0 := b6.cell 0
         have p1 := b6.cell 1
         have p2 := b6.cell 2
         have p3 := b6.cell 3
         have p4 := b6.cell 4
         have p5 := b6.cell 5
         have p6 := b6.cell 6
         have p7 := b6.cell 7
         have p8 := b6.cell 8
         have p9 := b6.cell 9
         simp at p0 p1 p2 p3 p4 p5 p6 p7 p8 p9
         have k6 := K5.out.below hb6 K5.out.lt
         have i0 := k6.cell 0
         have fi0 := k6.frozen 0
         have i1 := k6.cell 1
         have fi1 := k6.frozen 1
         have i2 := k6.cell 2
         have fi2 := k6.frozen 2
         have i3 := k6.cell 3
         have fi3 := k6.frozen 3
         have i4 := k6.cell 4
         have fi4 := k6.frozen 4
         have i5 := k6.cell 5
         have fi5 := k6.frozen 5
         have i6 := k6.cell 6
         have fi6 := k6.frozen 6
         have i7 := k6.cell 7
         have fi7 := k6.frozen 7
         have i8 := k6.cell 8
         have fi8 := k6.frozen 8
         simp at i0 i1 i2 i3 i4 i5 i6 i7 i8
         have g6 := G5.out.below hb6 G5.out.lt
         have gg0 := g6.cell 0
         have gg1 := g6.cell 1
         have gg2 := g6.cell 2
         simp at gg0 gg1 gg2
         have G6 := Lib.hid g6
         have K6 := Lib.hid k6
         have HA6 := Lib.hid (HA5.out.below hb6)
         have H6 := Lib.hid h6
         clear hb6 h6 b6 k6 g6
         obtain ⟨m, rfl⟩ : ∃ m, n2 = m + 1 := ⟨n2 - 1, by have := HLN.out; have := HA6.out.1; omega⟩
         obtain ⟨bb, oo, rfl, hc⟩ := HA6.out.2 (by omega)
         have hml : m < y8.length := by have := HA6.out.1; omega
         obtain ⟨c0, c1, c2'⟩ := hc m hml
         obtain ⟨hls, hld⟩ := HLA.out m hml HA6.out.1
         rw [hls] at c1
         rw [hld] at c2'
         obtain ⟨sq, hsq⟩ : ∃ sq, (y8[m]'hml).q = sq := ⟨_, rfl⟩
         rw [hsq] at c0
         have hmm : ((m + 1 : Nat) : Int) - 1 = (m : Int) := by omega
         have HV2 := Lib.hid (HVT.out ls (!ld) rfl rfl)
         have G6b := Lib.hid (G6.out.below (nbl w6 (.cells #[.int .i64 sq, .string ls, .bool ld] 24)) G6.out.lt)
         have K6b := Lib.hid (Blk.new w6 24 #[.int .i64 sq, .string ls, .bool ld])
         have h6b := H6.out.keep (nbl w6 (.cells #[.int .i64 sq, .string ls, .bool ld] 24))
         have b6b := h6b.blkAt (g := V.heap.size) (t := 64) (cs := rcc x (.slice A n c)) (by simp)
         have pp5 := b6b.cell 5
         have pp6 := b6b.cell 6
         simp at pp5 pp6
         have H6b := Lib.hid h6b
         clear hc hls hld hsq h6b b6b)
      | (go_at_call 73; refine (HVK.out _).mono ?_; rintro e w7 ⟨rfl, hb7⟩
         have H7 := Lib.hid (H6b.out.keep hb7)
         have G7 := Lib.hid (G6b.out.below hb7 G6b.out.lt)
         have k7 := K6b.out.below hb7 K6b.out.lt
         have d0 := k7.cell 0
         have d1 := k7.cell 1
         have d2 := k7.cell 2
         simp at d0 d1 d2
         clear hb7 k7)
      | (go_at_call 74; refine (HV2.out _).mono ?_; rintro e w8 ⟨rfl, hb8⟩
         have H8 := Lib.hid (H7.out.keep hb8)
         have g8 := G7.out.below hb8 G7.out.lt
         have gv0 := g8.cell 0
         have gv1 := g8.cell 1
         have gv2 := g8.cell 2
         simp at gv0 gv1 gv2
         clear hb8 g8)
      | fail)
  have hq := Blk.new w8 91 #[.string kv, .string tv, .bool false, .string kk, .string ⟨#[]⟩, .bool true]
  go_ret2
  exact ⟨_, _, _, rfl, rfl, ((show Has w (blkA V.heap.size 64 (rcc x (.slice A n c)) :: rtA b r :: T) _ from H8.out.swap).tail).newOp (orow2 hq (Nat.le_refl _)) (nbl _ _)⟩
end Go.Proofs.YthimheckmpepdaaGreatDoor
