/-
  Layer 13, the code: check (written by wip/genpo.py).
  Layer 13, the code: the newest version's stamp (written by wip/genponew.py).
  Layer 13: TakeIntent, with the row that it makes (written by wip/genpo2.py).
  Layer 13, the code: a key's intent (written by wip/genpo2.py).
-/
import Derived.Test.YtgccichmdddbpaaGreatDoorPA33
import Derived.Test.YtgccichmdddbpaaGreatDoorPA31
import Derived.Test.YtgccichmdddbpaaGreatDoorPA30
set_option linter.unusedVariables false
set_option linter.unusedSimpArgs false
set_option maxRecDepth 100000
namespace Go.Proofs.YtgccichmdddbpaaGreatDoor
open Go.RowKit

theorem markK_form (key : ByteArray) : ∃ s n, markK [105] key [] = .returned (.tuple #[.string s, .int .i64 n]) ∧ (isK key = true → n = 0 ∧ s = bs (ikey (sb key))) ∧ (isK key = false → n = 2) := by
  unfold markK
  cases h : isK key
  · exact ⟨_, _, rfl, (fun h => nomatch h), fun _ => rfl⟩
  · exact ⟨_, _, rfl, (fun _ => ⟨rfl, by simp [bs, ikey]⟩), (fun h => nomatch h)⟩
set_option maxHeartbeats 4000000 in
theorem poCheck {w V : World} {T : List As} {p N : Nat} {r : List Rw} (h : Has w (tbA p r :: T) V) (hr : ROk N r) (hN : N ≤ 999999000) (hM : MaxL w) (key : ByteArray) (ch : Ch) (x : Tx) (m1 m2 : Int) :
    Calls Tryz.prog 43 #[pt p, .string key, chv ch, txv x, sv m1 m2] V fun e w' => e = .returned (.int .i64 (chkW (isK key) ch x (m1, m2))) ∧ Has w (tbA p r :: T) w' := by
  obtain ⟨q, s, d⟩ := ch
  obtain ⟨ks, kn, hks, hk1, hk2⟩ := markK_form key
  have HK := Lib.hid (fun W (hb : Below w.heap.size w W) => intentKey_c key W (hM.below hb))
  rw [hks] at HK
  have HCI := Lib.hid (fun A n c W (hA : ChAt W A n [(⟨q, s, d⟩ : Ch)]) hn => checkI (wIt x x.ww x.wl [⟨q, s, d⟩]) A n c W hA hn)
  have hst : ([(x.rw, x.rl), (x.lw, x.ll), (m1, m2)] : List (Int × Int)).all mayP = (may x.rw x.rl && may x.lw x.ll && may m1 m2) := by simp [mayP, Bool.and_assoc]
  have HS := Lib.hid (fun W => poStamps (some ⟨W.heap.size, 0, none⟩) 3 3 [(x.rw, x.rl), (x.lw, x.ll), (m1, m2)] _ hst (W.alloc (.cells #[.int .i64 x.rw, .int .i64 x.rl, .int .i64 x.lw, .int .i64 x.ll, .int .i64 m1, .int .i64 m2] 26)) (by decide) (three_stamps W x.rw x.rl x.lw x.ll m1 m2))
  have h1 := ((h.newBlk 24 #[.int .i64 q, .string s, .bool d]).newBlk 28 (txc x)).newBlk 26 #[.int .i64 m1, .int .i64 m2]
  have hz1 : (V.alloc (.cells #[.int .i64 q, .string s, .bool d] 24)).heap.size = V.heap.size + 1 := World.size_alloc _ _
  have hz2 : ((V.alloc (.cells #[.int .i64 q, .string s, .bool d] 24)).alloc (.cells (txc x) 28)).heap.size = V.heap.size + 1 + 1 := (World.size_alloc _ _).trans (by rw [hz1])
  rw [hz2, hz1] at h1
  unfold chkW
  simp only
  obtain ⟨st, hst2⟩ : ∃ st, (may x.rw x.rl && may x.lw x.ll && may m1 m2) = st := ⟨_, rfl⟩
  obtain ⟨mi, hmi⟩ : ∃ mi, mayI (wIt x x.ww x.wl [⟨q, s, d⟩]) = mi := ⟨_, rfl⟩
  rw [hst2] at HS ⊢
  rw [hmi] at HCI ⊢
  clear hst hst2 hmi hks
  obtain ⟨x0, x1, x2, x3, x4, x5, x6, x7, x8, x9, x10, x11⟩ := x
  have HA := Lib.hid (show Calls Tryz.prog 19 #[pt p, .slice none 0 0] _ fun e w' => e = .returned (.int .i64 0) ∧ Has w (blkA (V.heap.size + 1 + 1) 26 #[.int .i64 m1, .int .i64 m2] :: blkA (V.heap.size + 1) 28 (txc ⟨x0, x1, x2, x3, x4, x5, x6, x7, x8, x9, x10, x11⟩) :: blkA V.heap.size 24 #[.int .i64 q, .string s, .bool d] :: tbA p r :: T) w' from
    (Has.tbApply (h1.perm (List.perm_middle (l₁ := [_, _, _]))) hr hN none 0 0 [] ⟨rfl, fun h => absurd h (by omega)⟩ (by omega) (fun o ho => nomatch ho)).mono fun e w' hq => ⟨hq.1, hq.2.1.perm (List.perm_middle (l₁ := [_, _, _])).symm⟩)
  clear h h1 hr hN hz1 hz2
  cases hik : isK key
  · have := hk2 hik
    subst this
    clear hk1 hk2 HCI
    go_enter Tryz.func43, Tryz.ntmps43
    go_wp2_with (first
      | (go_at_call 19; refine HA.out.mono ?_; rintro e w1 ⟨rfl, h1⟩
         have H1 := Lib.hid h1
         clear h1)
      | (go_at_call 89; refine (HK.out w1 H1.out.bel).mono ?_; rintro e w2 ⟨rfl, hb2⟩
         have h2 := H1.out.keep hb2
         have b7 := h2.blkAt (g := V.heap.size) (t := 24) (cs := #[.int .i64 q, .string s, .bool d]) (by simp)
         have b8 := h2.blkAt (g := V.heap.size + 1) (t := 28) (cs := txc ⟨x0, x1, x2, x3, x4, x5, x6, x7, x8, x9, x10, x11⟩) (by simp)
         have b9 := h2.blkAt (g := V.heap.size + 1 + 1) (t := 26) (cs := #[.int .i64 m1, .int .i64 m2]) (by simp)
         have ac0 := b7.cell 0
         have ac1 := b7.cell 1
         have ac2 := b7.cell 2
         have at0 := b8.cell 0
         have at1 := b8.cell 1
         have at2 := b8.cell 2
         have at3 := b8.cell 3
         have at4 := b8.cell 4
         have at5 := b8.cell 5
         have at6 := b8.cell 6
         have at7 := b8.cell 7
         have at8 := b8.cell 8
         have at9 := b8.cell 9
         have at10 := b8.cell 10
         have at11 := b8.cell 11
         have as0 := b9.cell 0
         have as1 := b9.cell 1
         simp at ac0 ac1 ac2 at0 at1 at2 at3 at4 at5 at6 at7 at8 at9 at10 at11 as0 as1
         clear b7 b8 b9
         have HS2 := Lib.hid (HS.out w2)
         have H2 := Lib.hid h2
         have H2b := Lib.hid (h2.keep (nbl w2 (.cells #[.int .i64 x4, .int .i64 x5, .int .i64 x8, .int .i64 x9, .int .i64 m1, .int .i64 m2] 26)))
         clear hb2 h2)
      | (go_at_call 90; refine HS2.out.mono ?_; rintro e w3 ⟨rfl, hb3⟩
         have h3 := H2b.out.keep hb3
         have b7 := h3.blkAt (g := V.heap.size) (t := 24) (cs := #[.int .i64 q, .string s, .bool d]) (by simp)
         have b8 := h3.blkAt (g := V.heap.size + 1) (t := 28) (cs := txc ⟨x0, x1, x2, x3, x4, x5, x6, x7, x8, x9, x10, x11⟩) (by simp)
         have b9 := h3.blkAt (g := V.heap.size + 1 + 1) (t := 26) (cs := #[.int .i64 m1, .int .i64 m2]) (by simp)
         have bc0 := b7.cell 0
         have bc1 := b7.cell 1
         have bc2 := b7.cell 2
         have bt0 := b8.cell 0
         have bt1 := b8.cell 1
         have bt2 := b8.cell 2
         have bt3 := b8.cell 3
         have bt4 := b8.cell 4
         have bt5 := b8.cell 5
         have bt6 := b8.cell 6
         have bt7 := b8.cell 7
         have bt8 := b8.cell 8
         have bt9 := b8.cell 9
         have bt10 := b8.cell 10
         have bt11 := b8.cell 11
         have bs0 := b9.cell 0
         have bs1 := b9.cell 1
         simp at bc0 bc1 bc2 bt0 bt1 bt2 bt3 bt4 bt5 bt6 bt7 bt8 bt9 bt10 bt11 bs0 bs1
         clear b7 b8 b9
         have H3 := Lib.hid h3
         have H3b := Lib.hid (h3.keep (nbl w3 (.cells #[.int .i64 q, .string s, .bool d] 24)))
         have HO := Lib.hid (one_change w3 q s d)
         clear hb3 h3)
      | (go_at_call 92; refine (intentOf_c ⟨x0, x1, x2, x3, x4, x5, x6, x7, x8, x9, x10, x11⟩ x6 x7 [⟨q, s, d⟩] _ _ _ _).mono ?_; rintro e w4 ⟨rfl, hb4⟩
         have H4 := Lib.hid (H3b.out.keep hb4)
         have HO4 := Lib.hid (HO.out.below hb4)
         clear hb4)
      | (go_at_call 91; refine (HCI.out _ _ _ w4 HO4.out (by omega)).mono ?_; rintro e w5 ⟨rfl, hb5⟩
         have H5 := Lib.hid (H4.out.keep hb5)
         clear hb5))
    go_ret
    exact ⟨rfl, H2.out.tail.tail.tail⟩
  · obtain ⟨rfl, -⟩ := hk1 hik
    clear hk1 hk2
    cases st
    · clear HCI
      go_enter Tryz.func43, Tryz.ntmps43
      go_wp2_with (first
        | (go_at_call 19; refine HA.out.mono ?_; rintro e w1 ⟨rfl, h1⟩
           have H1 := Lib.hid h1
           clear h1)
        | (go_at_call 89; refine (HK.out w1 H1.out.bel).mono ?_; rintro e w2 ⟨rfl, hb2⟩
           have h2 := H1.out.keep hb2
           have b7 := h2.blkAt (g := V.heap.size) (t := 24) (cs := #[.int .i64 q, .string s, .bool d]) (by simp)
           have b8 := h2.blkAt (g := V.heap.size + 1) (t := 28) (cs := txc ⟨x0, x1, x2, x3, x4, x5, x6, x7, x8, x9, x10, x11⟩) (by simp)
           have b9 := h2.blkAt (g := V.heap.size + 1 + 1) (t := 26) (cs := #[.int .i64 m1, .int .i64 m2]) (by simp)
           have ac0 := b7.cell 0
           have ac1 := b7.cell 1
           have ac2 := b7.cell 2
           have at0 := b8.cell 0
           have at1 := b8.cell 1
           have at2 := b8.cell 2
           have at3 := b8.cell 3
           have at4 := b8.cell 4
           have at5 := b8.cell 5
           have at6 := b8.cell 6
           have at7 := b8.cell 7
           have at8 := b8.cell 8
           have at9 := b8.cell 9
           have at10 := b8.cell 10
           have at11 := b8.cell 11
           have as0 := b9.cell 0
           have as1 := b9.cell 1
           simp at ac0 ac1 ac2 at0 at1 at2 at3 at4 at5 at6 at7 at8 at9 at10 at11 as0 as1
           clear b7 b8 b9
           have HS2 := Lib.hid (HS.out w2)
           have H2 := Lib.hid h2
           have H2b := Lib.hid (h2.keep (nbl w2 (.cells #[.int .i64 x4, .int .i64 x5, .int .i64 x8, .int .i64 x9, .int .i64 m1, .int .i64 m2] 26)))
           clear hb2 h2)
        | (go_at_call 90; refine HS2.out.mono ?_; rintro e w3 ⟨rfl, hb3⟩
           have h3 := H2b.out.keep hb3
           have b7 := h3.blkAt (g := V.heap.size) (t := 24) (cs := #[.int .i64 q, .string s, .bool d]) (by simp)
           have b8 := h3.blkAt (g := V.heap.size + 1) (t := 28) (cs := txc ⟨x0, x1, x2, x3, x4, x5, x6, x7, x8, x9, x10, x11⟩) (by simp)
           have b9 := h3.blkAt (g := V.heap.size + 1 + 1) (t := 26) (cs := #[.int .i64 m1, .int .i64 m2]) (by simp)
           have bc0 := b7.cell 0
           have bc1 := b7.cell 1
           have bc2 := b7.cell 2
           have bt0 := b8.cell 0
           have bt1 := b8.cell 1
           have bt2 := b8.cell 2
           have bt3 := b8.cell 3
           have bt4 := b8.cell 4
           have bt5 := b8.cell 5
           have bt6 := b8.cell 6
           have bt7 := b8.cell 7
           have bt8 := b8.cell 8
           have bt9 := b8.cell 9
           have bt10 := b8.cell 10
           have bt11 := b8.cell 11
           have bs0 := b9.cell 0
           have bs1 := b9.cell 1
           simp at bc0 bc1 bc2 bt0 bt1 bt2 bt3 bt4 bt5 bt6 bt7 bt8 bt9 bt10 bt11 bs0 bs1
           clear b7 b8 b9
           have H3 := Lib.hid h3
           have H3b := Lib.hid (h3.keep (nbl w3 (.cells #[.int .i64 q, .string s, .bool d] 24)))
           have HO := Lib.hid (one_change w3 q s d)
           clear hb3 h3)
        | (go_at_call 92; refine (intentOf_c ⟨x0, x1, x2, x3, x4, x5, x6, x7, x8, x9, x10, x11⟩ x6 x7 [⟨q, s, d⟩] _ _ _ _).mono ?_; rintro e w4 ⟨rfl, hb4⟩
           have H4 := Lib.hid (H3b.out.keep hb4)
           have HO4 := Lib.hid (HO.out.below hb4)
           clear hb4)
        | (go_at_call 91; refine (HCI.out _ _ _ w4 HO4.out (by omega)).mono ?_; rintro e w5 ⟨rfl, hb5⟩
           have H5 := Lib.hid (H4.out.keep hb5)
           clear hb5))
      go_ret
      exact ⟨rfl, H3.out.tail.tail.tail⟩
    · cases mi
      · go_enter Tryz.func43, Tryz.ntmps43
        go_wp2_with (first
          | (go_at_call 19; refine HA.out.mono ?_; rintro e w1 ⟨rfl, h1⟩
             have H1 := Lib.hid h1
             clear h1)
          | (go_at_call 89; refine (HK.out w1 H1.out.bel).mono ?_; rintro e w2 ⟨rfl, hb2⟩
             have h2 := H1.out.keep hb2
             have b7 := h2.blkAt (g := V.heap.size) (t := 24) (cs := #[.int .i64 q, .string s, .bool d]) (by simp)
             have b8 := h2.blkAt (g := V.heap.size + 1) (t := 28) (cs := txc ⟨x0, x1, x2, x3, x4, x5, x6, x7, x8, x9, x10, x11⟩) (by simp)
             have b9 := h2.blkAt (g := V.heap.size + 1 + 1) (t := 26) (cs := #[.int .i64 m1, .int .i64 m2]) (by simp)
             have ac0 := b7.cell 0
             have ac1 := b7.cell 1
             have ac2 := b7.cell 2
             have at0 := b8.cell 0
             have at1 := b8.cell 1
             have at2 := b8.cell 2
             have at3 := b8.cell 3
             have at4 := b8.cell 4
             have at5 := b8.cell 5
             have at6 := b8.cell 6
             have at7 := b8.cell 7
             have at8 := b8.cell 8
             have at9 := b8.cell 9
             have at10 := b8.cell 10
             have at11 := b8.cell 11
             have as0 := b9.cell 0
             have as1 := b9.cell 1
             simp at ac0 ac1 ac2 at0 at1 at2 at3 at4 at5 at6 at7 at8 at9 at10 at11 as0 as1
             clear b7 b8 b9
             have HS2 := Lib.hid (HS.out w2)
             have H2 := Lib.hid h2
             have H2b := Lib.hid (h2.keep (nbl w2 (.cells #[.int .i64 x4, .int .i64 x5, .int .i64 x8, .int .i64 x9, .int .i64 m1, .int .i64 m2] 26)))
             clear hb2 h2)
          | (go_at_call 90; refine HS2.out.mono ?_; rintro e w3 ⟨rfl, hb3⟩
             have h3 := H2b.out.keep hb3
             have b7 := h3.blkAt (g := V.heap.size) (t := 24) (cs := #[.int .i64 q, .string s, .bool d]) (by simp)
             have b8 := h3.blkAt (g := V.heap.size + 1) (t := 28) (cs := txc ⟨x0, x1, x2, x3, x4, x5, x6, x7, x8, x9, x10, x11⟩) (by simp)
             have b9 := h3.blkAt (g := V.heap.size + 1 + 1) (t := 26) (cs := #[.int .i64 m1, .int .i64 m2]) (by simp)
             have bc0 := b7.cell 0
             have bc1 := b7.cell 1
             have bc2 := b7.cell 2
             have bt0 := b8.cell 0
             have bt1 := b8.cell 1
             have bt2 := b8.cell 2
             have bt3 := b8.cell 3
             have bt4 := b8.cell 4
             have bt5 := b8.cell 5
             have bt6 := b8.cell 6
             have bt7 := b8.cell 7
             have bt8 := b8.cell 8
             have bt9 := b8.cell 9
             have bt10 := b8.cell 10
             have bt11 := b8.cell 11
             have bs0 := b9.cell 0
             have bs1 := b9.cell 1
             simp at bc0 bc1 bc2 bt0 bt1 bt2 bt3 bt4 bt5 bt6 bt7 bt8 bt9 bt10 bt11 bs0 bs1
             clear b7 b8 b9
             have H3 := Lib.hid h3
             have H3b := Lib.hid (h3.keep (nbl w3 (.cells #[.int .i64 q, .string s, .bool d] 24)))
             have HO := Lib.hid (one_change w3 q s d)
             clear hb3 h3)
          | (go_at_call 92; refine (intentOf_c ⟨x0, x1, x2, x3, x4, x5, x6, x7, x8, x9, x10, x11⟩ x6 x7 [⟨q, s, d⟩] _ _ _ _).mono ?_; rintro e w4 ⟨rfl, hb4⟩
             have H4 := Lib.hid (H3b.out.keep hb4)
             have HO4 := Lib.hid (HO.out.below hb4)
             clear hb4)
          | (go_at_call 91; refine (HCI.out _ _ _ w4 HO4.out (by omega)).mono ?_; rintro e w5 ⟨rfl, hb5⟩
             have H5 := Lib.hid (H4.out.keep hb5)
             clear hb5))
        go_ret
        exact ⟨rfl, H5.out.tail.tail.tail⟩
      · go_enter Tryz.func43, Tryz.ntmps43
        go_wp2_with (first
          | (go_at_call 19; refine HA.out.mono ?_; rintro e w1 ⟨rfl, h1⟩
             have H1 := Lib.hid h1
             clear h1)
          | (go_at_call 89; refine (HK.out w1 H1.out.bel).mono ?_; rintro e w2 ⟨rfl, hb2⟩
             have h2 := H1.out.keep hb2
             have b7 := h2.blkAt (g := V.heap.size) (t := 24) (cs := #[.int .i64 q, .string s, .bool d]) (by simp)
             have b8 := h2.blkAt (g := V.heap.size + 1) (t := 28) (cs := txc ⟨x0, x1, x2, x3, x4, x5, x6, x7, x8, x9, x10, x11⟩) (by simp)
             have b9 := h2.blkAt (g := V.heap.size + 1 + 1) (t := 26) (cs := #[.int .i64 m1, .int .i64 m2]) (by simp)
             have ac0 := b7.cell 0
             have ac1 := b7.cell 1
             have ac2 := b7.cell 2
             have at0 := b8.cell 0
             have at1 := b8.cell 1
             have at2 := b8.cell 2
             have at3 := b8.cell 3
             have at4 := b8.cell 4
             have at5 := b8.cell 5
             have at6 := b8.cell 6
             have at7 := b8.cell 7
             have at8 := b8.cell 8
             have at9 := b8.cell 9
             have at10 := b8.cell 10
             have at11 := b8.cell 11
             have as0 := b9.cell 0
             have as1 := b9.cell 1
             simp at ac0 ac1 ac2 at0 at1 at2 at3 at4 at5 at6 at7 at8 at9 at10 at11 as0 as1
             clear b7 b8 b9
             have HS2 := Lib.hid (HS.out w2)
             have H2 := Lib.hid h2
             have H2b := Lib.hid (h2.keep (nbl w2 (.cells #[.int .i64 x4, .int .i64 x5, .int .i64 x8, .int .i64 x9, .int .i64 m1, .int .i64 m2] 26)))
             clear hb2 h2)
          | (go_at_call 90; refine HS2.out.mono ?_; rintro e w3 ⟨rfl, hb3⟩
             have h3 := H2b.out.keep hb3
             have b7 := h3.blkAt (g := V.heap.size) (t := 24) (cs := #[.int .i64 q, .string s, .bool d]) (by simp)
             have b8 := h3.blkAt (g := V.heap.size + 1) (t := 28) (cs := txc ⟨x0, x1, x2, x3, x4, x5, x6, x7, x8, x9, x10, x11⟩) (by simp)
             have b9 := h3.blkAt (g := V.heap.size + 1 + 1) (t := 26) (cs := #[.int .i64 m1, .int .i64 m2]) (by simp)
             have bc0 := b7.cell 0
             have bc1 := b7.cell 1
             have bc2 := b7.cell 2
             have bt0 := b8.cell 0
             have bt1 := b8.cell 1
             have bt2 := b8.cell 2
             have bt3 := b8.cell 3
             have bt4 := b8.cell 4
             have bt5 := b8.cell 5
             have bt6 := b8.cell 6
             have bt7 := b8.cell 7
             have bt8 := b8.cell 8
             have bt9 := b8.cell 9
             have bt10 := b8.cell 10
             have bt11 := b8.cell 11
             have bs0 := b9.cell 0
             have bs1 := b9.cell 1
             simp at bc0 bc1 bc2 bt0 bt1 bt2 bt3 bt4 bt5 bt6 bt7 bt8 bt9 bt10 bt11 bs0 bs1
             clear b7 b8 b9
             have H3 := Lib.hid h3
             have H3b := Lib.hid (h3.keep (nbl w3 (.cells #[.int .i64 q, .string s, .bool d] 24)))
             have HO := Lib.hid (one_change w3 q s d)
             clear hb3 h3)
          | (go_at_call 92; refine (intentOf_c ⟨x0, x1, x2, x3, x4, x5, x6, x7, x8, x9, x10, x11⟩ x6 x7 [⟨q, s, d⟩] _ _ _ _).mono ?_; rintro e w4 ⟨rfl, hb4⟩
             have H4 := Lib.hid (H3b.out.keep hb4)
             have HO4 := Lib.hid (HO.out.below hb4)
             clear hb4)
          | (go_at_call 91; refine (HCI.out _ _ _ w4 HO4.out (by omega)).mono ?_; rintro e w5 ⟨rfl, hb5⟩
             have H5 := Lib.hid (H4.out.keep hb5)
             clear hb5))
        go_ret
        exact ⟨rfl, H5.out.tail.tail.tail⟩
end Go.Proofs.YtgccichmdddbpaaGreatDoor
set_option linter.unusedVariables false
set_option linter.unusedSimpArgs false
set_option maxRecDepth 100000
namespace Go.Proofs.YtgccichmdddbpaaGreatDoor
open Go.RowKit Go.Shelf
attribute [local go_sem] Oper.semAt_some

def stO : Option Ver → Int × Int
  | none => (0, 0)
  | some (a, b, _) => (a, b)
theorem nwV_is (r : List Rw) (key : ByteArray) : nwV r key = stO ((btw r (bs (vkey (sb key) 1099511627776 1048575)) (bs (vkey (sb key) 0 0))).findSome? vrow) := by
  unfold nwV
  cases (btw r (bs (vkey (sb key) 1099511627776 1048575)) (bs (vkey (sb key) 0 0))).findSome? vrow with
  | none => rfl
  | some q => rfl
theorem results_st {fn : Func} {tmps : Array Value} {w : World} {p : Tmp} {g : Nat} {cs : Array Value} (hr : fn.results = #[.cell p 26]) (hp : tmps.getD p undef = .pointer (some ⟨g, 0, none⟩))
    (hB : Blk w g 26 cs) (hs : cs.size = 2) : (results fn tmps).run Tryz.prog w = .ok (.agg cs) w := by
  have hp' : tmps[p]?.getD undef = .pointer (some ⟨g, 0, none⟩) := by simpa using hp
  simp [results, hr, hp', asAddr, run_loadVar_row w g 26 26 _ (0, 0) _ hB Tryz.underlying26 rfl (by rw [hs]; kernel_rfl)]
theorem from2 {B g : Nat} {t : TypeId} {cs : Array Value} {W : World} {v0 v1 : Value} (h : Blk W g t cs) : KeepsFrom B W ((W.setCell ⟨g, 0, none⟩ v0).setCell ⟨g, 1, none⟩ v1) :=
  ((KeepsFrom.refl B W).trans (pk_from_put (i := 0) (u := v0) h)).trans (pk_from_put (i := 1) (u := v1) (h.set_ 0 v0))
theorem heap2 {W : World} {g D : Nat} {v0 v1 : Value} {o : Obj} (hne : D ≠ g) (hK : W.heap[D]? = some o) : ((W.setCell ⟨g, 0, none⟩ v0).setCell ⟨g, 1, none⟩ v1).heap[D]? = some o := by
  simp only [heap_set_ne hne]
  exact hK
theorem Has.all2 {w V : World} {l : List As} {g : Nat} {t : TypeId} {c0 c1 v0 v1 : Value} (h : Has w (blkA g t #[c0, c1] :: l) V) : Has w (blkA g t #[v0, v1] :: l) ((V.setCell ⟨g, 0, none⟩ v0).setCell ⟨g, 1, none⟩ v1) := by
  have := ((h.setBlk 0 v0).setBlk 1 v1)
  simpa using this
set_option maxHeartbeats 4000000 in
theorem newest_c {V : World} {p : Nat} {r : List Rw} {F : Nat → Prop} (h : (tbA p r).p V F) (hz : Szs r) (hM : MaxL V) (key : ByteArray) (hk : isK key = true) :
    Calls Tryz.prog 97 #[pt p, .string key] V fun e w' => e = .returned (sv (nwV r key).1 (nwV r key).2) ∧ Below V.heap.size V w' := by
  have hsor := tbA_sor h
  have HV1 := Lib.hid (fun W hW => pkVKey key 1099511627776 1048575 hk (by decide) W (hM.below hW))
  have HV2 := Lib.hid (fun W hW => pkVKey key 0 0 hk (by decide) W (hM.below hW))
  rw [nwV_is]
  generalize bs (vkey (sb key) 1099511627776 1048575) = f at *
  generalize bs (vkey (sb key) 0 0) = t at *
  obtain ⟨o, ho⟩ : ∃ o, (btw r f t).findSome? vrow = o := ⟨_, rfl⟩
  rw [ho]
  have HO := Lib.hid ho
  have H := Lib.hid h
  have HZ := Lib.hid hz
  have HS := Lib.hid hsor
  have h0 := (Has.nil (Below.refl V.heap.size V)).newBlk 26 #[.int .i64 0, .int .i64 0]
  have H0 := Lib.hid h0
  clear h hz hsor ho hk hM h0
  refine (callsIn_wide (n := 3)).1 (callsIn_of_wp_marks Tryz.func97 rfl trivial (wpIn_wide.2 ?_) rfl)
  simp only [Tryz.ntmps97, List.size_toArray, List.length_cons, List.length_nil, Nat.reduceAdd, Nat.reduceSub, Array.replicate_succ, Array.replicate_zero, List.push_toArray, List.append_toArray, List.nil_append, List.cons_append]
  go_wp2_with (first
    | (go_at_call_of 149 (Value.agg #[.int .i64 1099511627776, .int .i64 1048575]); refine (HV1.out _ H0.out.bel).mono ?_; rintro e w1 ⟨rfl, hb1⟩
       have h1 := H0.out.keep hb1
       have H1 := Lib.hid h1
       clear hb1 h1)
    | (go_at_call_of 149 (Value.agg #[.int .i64 0, .int .i64 0]); refine (HV2.out _ H1.out.bel).mono ?_; rintro e w2 ⟨rfl, hb2⟩
       have h2 := H1.out.keep hb2
       have H2 := Lib.hid h2
       clear hb2 h2)
    | (go_at_call 56; refine (Has.tbAll H2.out p f t).mono ?_; rintro e W0 ⟨g1, g2, g3, rfl, h4⟩; have H4 := Lib.hid h4; clear h4))
  have H4 := Lib.hid (show Has V [blkA g1 31 #[pt p], blkA g2 9 #[.string f], blkA g3 9 #[.string t], blkA V.heap.size 26 #[.int .i64 0, .int .i64 0]] W0 from H4.out)
  clear H2 H1 H0 HV1 HV2
  have hs0 := H4.out.size
  have hTR := Lib.hid (fun W (hh : Has V [blkA g1 31 #[pt p], blkA g2 9 #[.string f], blkA g3 9 #[.string t], blkA V.heap.size 26 #[.int .i64 0, .int .i64 0]] W) => (show TRD p g1 g2 g3 f t r W from
    ⟨⟨F, tbA_below H.out hh.bel⟩, HZ.out, hh.blkAt (by simp), hh.blkAt (by simp), hh.blkAt (by simp)⟩))
  refine wp_tours (P := Tryz.prog) rfl (fun _ _ => rfl) (tb_all_tours p g1 g2 g3 f t) rfl (btw r f t).length
    (fun bb r' n W => r' = r ∧ bb = upAt r f t n ∧ n ≤ (btw r f t).length ∧ NoV r f t n ∧ Has V [blkA g1 31 #[pt p], blkA g2 9 #[.string f], blkA g3 9 #[.string t], blkA V.heap.size 26 #[.int .i64 0, .int .i64 0]] W)
    (fun c W => c = .ret ∧ Has V [blkA g1 31 #[pt p], blkA g2 9 #[.string f], blkA g3 9 #[.string t], blkA V.heap.size 26 #[.int .i64 (stO o).1, .int .i64 (stO o).2]] W)
    (fun bb r' n X Y h hX hf => ⟨h.1, h.2.1, h.2.2.1, h.2.2.2.1, h.2.2.2.2.firm hf hs0 (fun A hA => by
      simp only [List.mem_cons, List.not_mem_nil, or_false] at hA
      rcases hA with rfl | rfl | rfl | rfl <;> exact cel_blk _ _ _)⟩)
    (fun c X Y h hX hf => ⟨h.1, h.2.firm hf hs0 (fun A hA => by
      simp only [List.mem_cons, List.not_mem_nil, or_false] at hA
      rcases hA with rfl | rfl | rfl | rfl <;> exact cel_blk _ _ _)⟩)
    (fun bb r' n X h => ⟨by rw [h.1]; exact hTR.out X h.2.2.2.2, h.2.2.1⟩)
    r ⟨rfl, rfl, Nat.zero_le _, rfl, H4.out⟩ ?a1 ?assign ?body ?done ?stop
  case assign =>
    intro l x W K hK
    gi_wp2
    exact hK
  case body =>
    rintro l b' r' n x W hsW ⟨rfl, rfl, hn, hfs, hh⟩ hx
    rw [up_next HS.out _ _ hn] at hx
    obtain ⟨hst, hlt⟩ := up_step hx
    have htk : (btw r' f t).take (n + 1) = (btw r' f t).take n ++ [x] := by
      obtain ⟨h1, h2⟩ := List.getElem?_eq_some_iff.1 hx
      rw [List.take_succ_eq_append_getElem h1, h2]
    have hxm : x ∈ r' := List.mem_of_mem_take (List.mem_of_mem_drop (List.mem_of_getElem? hx))
    have hxs := HZ.out x hxm
    have hfi : vrow x ≠ none → o = vrow x := fun hne => by
      rw [← HO.out, ← List.take_append_drop (n + 1) (btw r' f t), htk, List.findSome?_append, List.findSome?_append, show ((btw r' f t).take n).findSome? vrow = none from hfs]
      cases hv : vrow x with
      | none => exact absurd hv hne
      | some u => simp [hv]
    have hnx : vrow x = none → NoV r' f t (n + 1) := fun hv => by
      unfold NoV
      rw [htk, List.findSome?_append, show ((btw r' f t).take n).findSome? vrow = none from hfs]
      simp [hv]
    have hRV := fun W => readV_c x.key W (by have := hxs.2.1; omega)
    have hTV := fun W => takeV_c x.value W (by have := hxs.2.2; omega)
    have HST := Lib.hid hst
    have HLT := Lib.hid hlt
    clear hx hst htk hxs hn hlt hxm hfs
    obtain ⟨xk, xv⟩ := x
    simp only at hRV hTV hfi hnx HST HLT
    cases hv1 : rdVK (sb xk) with
    | none =>
      rw [hv1] at hRV
      have hvr : vrow ⟨xk, xv⟩ = none := by unfold vrow; simp only [hv1]
      obtain ⟨v, i, nn, hvf⟩ := ansV_form (tkV (sb xv))
      rw [hvf] at hTV
      have HTK := Lib.hid (hnx hvr)
      have HRV := Lib.hid (show ∀ W, Calls Tryz.prog 150 #[.string xk] W fun e w' => e = .returned (.tuple #[.string ⟨#[]⟩, sv 0 0, .int .i64 4]) ∧ Below W.heap.size W w' from hRV)
      have HTV := Lib.hid hTV
      clear hv1 hvf hvr hfi hnx hRV hTV
      gi_wp2_with (first
        | (refine ⟨trivial, ?_⟩; gi_at_call 150; refine ((callsIn_wide.2 (HRV.out _)).inRound l).mono ?_; rintro e w5 ⟨rfl, hb5⟩
           have h5 := hh.keep hb5
           have h5s := h5.size
           have H6 := Lib.hid (h5.keep (nbl w5 (.cells #[.int .i64 0, .int .i64 0] 26)))
           have KF6 := Lib.hid (bsa hb5 (.cells #[.int .i64 0, .int .i64 0] 26))
           have b6 := Blk.new w5 26 #[.int .i64 0, .int .i64 0]
           clear hb5 h5)
        | (refine ⟨trivial, ?_⟩; gi_at_call 151; refine ((callsIn_wide.2 (HTV.out _)).inRound l).mono ?_; rintro e w7 ⟨rfl, hb7⟩
           have h7 := H6.out.keep hb7
           have KF7 := Lib.hid (bst KF6.out hb7)
           have b7 := b6.below hb7 b6.lt
           have q0 := b7.cell 0
           have q1 := b7.cell 1
           simp at q0 q1
           have B4 := h7.blkAt (g := V.heap.size) (t := 26) (cs := #[.int .i64 0, .int .i64 0]) (by simp)
           have p0 := B4.cell 0
           have f0 := B4.frozen 0
           have p1 := B4.cell 1
           have f1 := B4.frozen 1
           simp at p0 p1
           have HB4 := Lib.hid B4
           have H7 := Lib.hid h7
           clear hb7 b7 B4 h7))
  
      exact ⟨keeps_below KF7.out, HST.out, HLT.out, HTK.out, H7.out⟩
    | some q =>
      obtain ⟨s2, a2, b2⟩ := q
      rw [hv1] at hRV
      have HRV := Lib.hid (show ∀ W, Calls Tryz.prog 150 #[.string xk] W fun e w' => e = .returned (.tuple #[.string ⟨s2.toArray⟩, sv a2 b2, .int .i64 0]) ∧ Below W.heap.size W w' from hRV)
      cases hv2 : tkV (sb xv) with
      | none =>
        rw [hv2] at hTV
        have hvr : vrow ⟨xk, xv⟩ = none := by unfold vrow; simp only [hv1, hv2]
        have HTK := Lib.hid (hnx hvr)
        have HTV := Lib.hid (show ∀ W, Calls Tryz.prog 151 #[.string xv] W fun e w' => e = .returned (.tuple #[.string ⟨#[]⟩, .bool false, .int .i64 4]) ∧ Below W.heap.size W w' from hTV)
        clear hv1 hv2 hvr hfi hnx hRV hTV
        gi_wp2_with (first
          | (refine ⟨trivial, ?_⟩; gi_at_call 150; refine ((callsIn_wide.2 (HRV.out _)).inRound l).mono ?_; rintro e w5 ⟨rfl, hb5⟩
             have h5 := hh.keep hb5
             have h5s := h5.size
             have H6 := Lib.hid (h5.keep (nbl w5 (.cells #[.int .i64 a2, .int .i64 b2] 26)))
             have KF6 := Lib.hid (bsa hb5 (.cells #[.int .i64 a2, .int .i64 b2] 26))
             have b6 := Blk.new w5 26 #[.int .i64 a2, .int .i64 b2]
             clear hb5 h5)
          | (refine ⟨trivial, ?_⟩; gi_at_call 151; refine ((callsIn_wide.2 (HTV.out _)).inRound l).mono ?_; rintro e w7 ⟨rfl, hb7⟩
             have h7 := H6.out.keep hb7
             have KF7 := Lib.hid (bst KF6.out hb7)
             have b7 := b6.below hb7 b6.lt
             have q0 := b7.cell 0
             have q1 := b7.cell 1
             simp at q0 q1
             have B4 := h7.blkAt (g := V.heap.size) (t := 26) (cs := #[.int .i64 0, .int .i64 0]) (by simp)
             have p0 := B4.cell 0
             have f0 := B4.frozen 0
             have p1 := B4.cell 1
             have f1 := B4.frozen 1
             simp at p0 p1
             have HB4 := Lib.hid B4
             have H7 := Lib.hid h7
             clear hb7 b7 B4 h7))
    
        exact ⟨keeps_below KF7.out, HST.out, HLT.out, HTK.out, H7.out⟩
      | some q2 =>
        obtain ⟨v, i⟩ := q2
        rw [hv2] at hTV
        have hvr : vrow ⟨xk, xv⟩ = some (a2, b2, v, i) := by unfold vrow; simp only [hv1, hv2]
        have HFI := Lib.hid (show o = some (a2, b2, v, i) from (hfi (by rw [hvr]; simp)).trans hvr)
        have HTV := Lib.hid (show ∀ W, Calls Tryz.prog 151 #[.string xv] W fun e w' => e = .returned (.tuple #[.string v, .bool i, .int .i64 0]) ∧ Below W.heap.size W w' from hTV)
        clear hv1 hv2 hvr hfi hnx hRV hTV
        gi_wp2_with (first
          | (refine ⟨trivial, ?_⟩; gi_at_call 150; refine ((callsIn_wide.2 (HRV.out _)).inRound l).mono ?_; rintro e w5 ⟨rfl, hb5⟩
             have h5 := hh.keep hb5
             have h5s := h5.size
             have H6 := Lib.hid (h5.keep (nbl w5 (.cells #[.int .i64 a2, .int .i64 b2] 26)))
             have KF6 := Lib.hid (bsa hb5 (.cells #[.int .i64 a2, .int .i64 b2] 26))
             have b6 := Blk.new w5 26 #[.int .i64 a2, .int .i64 b2]
             clear hb5 h5)
          | (refine ⟨trivial, ?_⟩; gi_at_call 151; refine ((callsIn_wide.2 (HTV.out _)).inRound l).mono ?_; rintro e w7 ⟨rfl, hb7⟩
             have h7 := H6.out.keep hb7
             have KF7 := Lib.hid (bst KF6.out hb7)
             have b7 := b6.below hb7 b6.lt
             have q0 := b7.cell 0
             have q1 := b7.cell 1
             simp at q0 q1
             have B4 := h7.blkAt (g := V.heap.size) (t := 26) (cs := #[.int .i64 0, .int .i64 0]) (by simp)
             have p0 := B4.cell 0
             have f0 := B4.frozen 0
             have p1 := B4.cell 1
             have f1 := B4.frozen 1
             simp at p0 p1
             have HB4 := Lib.hid B4
             have H7 := Lib.hid h7
             clear hb7 b7 B4 h7))
    
        have HOS := HFI.out
        subst HOS
        have H15 : Has V [blkA V.heap.size 26 #[.int .i64 a2, .int .i64 b2], blkA g1 31 #[pt p], blkA g2 9 #[.string f], blkA g3 9 #[.string t]] _ := Has.all2 (v0 := .int .i64 a2) (v1 := .int .i64 b2) (H7.out.perm (List.perm_middle (l₁ := [_, _, _])))
        have kf15 := (keeps_below (n := W0.heap.size) KF7.out).trans (from2 (v0 := .int .i64 a2) (v1 := .int .i64 b2) HB4.out)
        exact ⟨kf15, rfl, H15.perm (List.perm_middle (l₁ := [_, _, _])).symm⟩
  case done =>
    rintro D b' r' n W hD hsW hno ⟨rfl, rfl, hn, hfs, hh⟩ hK
    rw [up_next HS.out _ _ hn, List.getElem?_eq_none_iff] at hno
    have hoN : o = none := by rw [← HO.out, ← (show ((btw r' f t).take n).findSome? vrow = none from hfs), List.take_of_length_le hno]
    subst hoN
    have B4 := hh.blkAt (g := V.heap.size) (t := 26) (cs := #[.int .i64 0, .int .i64 0]) (by simp)
    have p0 := B4.cell 0
    have f0 := B4.frozen 0
    have p1 := B4.cell 1
    have f1 := B4.frozen 1
    simp at p0 p1
    have HB4 := Lib.hid B4
    have HH := Lib.hid hh
    clear B4 hh hno
    go_wp2_with fail
    have hne : D ≠ V.heap.size := by
      rintro rfl
      have := HB4.out
      unfold Blk at this
      rw [hK] at this
      cases this
    have hK2 := heap2 (v0 := .int .i64 0) (v1 := .int .i64 0) hne hK
    have H15 : Has V [blkA V.heap.size 26 #[.int .i64 0, .int .i64 0], blkA g1 31 #[pt p], blkA g2 9 #[.string f], blkA g3 9 #[.string t]] _ := Has.all2 (v0 := .int .i64 0) (v1 := .int .i64 0) (HH.out.perm (List.perm_middle (l₁ := [_, _, _])))
    refine ⟨by simp, .inl ⟨_, _, rfl, run_takeDeferred hK2, ?_⟩⟩
    have hfin := H15.firm (.put (B := V.heap.size) D (.deferred none) (by omega) hK2 rfl) (Nat.le_refl _) (fun A hA => by
      simp only [List.mem_cons, List.not_mem_nil, or_false] at hA
      rcases hA with rfl | rfl | rfl | rfl <;> exact cel_blk _ _ _)
    exact ⟨_, results_st rfl rfl (hfin.blkAt (g := V.heap.size) (t := 26) (cs := #[.int .i64 0, .int .i64 0]) (by simp)) rfl, rfl, hfin.bel⟩
  case stop =>
    rintro D c W hD hsW ⟨rfl, hh⟩ hK
    go_wp2_with fail
    refine ⟨by simp, .inl ⟨_, _, rfl, run_takeDeferred hK, ?_⟩⟩
    have hf : Firm V.heap.size W (W.putObj D (.deferred none)) := .put D _ (by omega) hK rfl
    have hfin := hh.firm hf (Nat.le_refl _) (fun A hA => by
      simp only [List.mem_cons, List.not_mem_nil, or_false] at hA
      rcases hA with rfl | rfl | rfl | rfl <;> exact cel_blk _ _ _)
    exact ⟨_, results_st rfl rfl (hfin.blkAt (g := V.heap.size) (t := 26) (cs := #[.int .i64 (stO o).1, .int .i64 (stO o).2]) (by simp)) rfl, rfl, hfin.bel⟩
end Go.Proofs.YtgccichmdddbpaaGreatDoor
set_option linter.unusedVariables false
set_option linter.unusedSimpArgs false
set_option maxRecDepth 100000
namespace Go.Proofs.YtgccichmdddbpaaGreatDoor
open Go.RowKit

theorem ownsRow_set {w : World} {B sz n g i : Nat} {E : TypeId} {v u : Value} {xs : List Value} (h : w.ownsRow B E sz v n xs) (hne : ∀ k, v.ownBlock = some k → k ≠ g) : (w.setCell ⟨g, i, none⟩ u).ownsRow B E sz v n xs := by
  refine ⟨h.1, h.2.elim .inl (fun ⟨q, cap, cur, e, hq, hh, r⟩ => .inr ⟨q, cap, cur, e, hq, ?_, r⟩)⟩
  have := hne q (by rw [e]; rfl)
  rw [heap_set_ne this]
  exact hh
theorem World.ownsRow.below_ {w w' : World} {B sz n : Nat} {E : TypeId} {v : Value} {xs : List Value} (h : w.ownsRow B E sz v n xs) (hb : Below w.heap.size w w') : w'.ownsRow B E sz v n xs :=
  World.ownsRow.kept h (row := none) ⟨hb.os, hb.tape, hb.output, hb.size, fun k hk _ => hb.block k hk⟩ (by
    cases hv : v.ownBlock with
    | none => exact .inl rfl
    | some q => exact .inr (by simp))
theorem Has.rowUp {w V : World} {T : List As} {E : TypeId} {sz : Nat} {v : Value} {n : Nat} {xs : List Value} (h : Has w (rowA E sz v n xs :: T) V) : V.ownsRow w.heap.size E sz v n xs := by
  obtain ⟨F, a1, a2⟩ := h.get
  refine ⟨a1.1.1, a1.1.2.elim .inl (fun ⟨q, cap, cur, e, hq, hh, r⟩ => .inr ⟨q, cap, cur, e, a2 q ((a1.2 q).2 (by rw [e]; rfl)), hh, r⟩)⟩
/-- What TakeIntent answers: the changes are a row of its own. -/
def AnsIO (o : Option It) (B : Nat) (e : Ending) (w' : World) : Prop :=
  match o with
  | none => e = .returned (.tuple #[itv zI (.slice none 0 0), .int .i64 4])
  | some x => ∃ A n c, e = .returned (.tuple #[itv x (.slice A n c), .int .i64 0]) ∧ w'.ownsRow B 24 3 (.slice A n c) n (x.l.flatMap chc) ∧ n = x.l.length
set_option maxHeartbeats 4000000 in
theorem takeIO_c (t : ByteArray) (w : World) (ht : t.size ≤ 225000000000000) :
    Calls Tryz.prog 93 #[.string t] w fun e w' => AnsIO (tkI (sb t)) w.heap.size e w' ∧ Below w.heap.size w w' := by
  have h0 := ((Has.nil (Below.refl w.heap.size w)).newBlk 38 (itc zI (.slice none 0 0))).newBlk 38 (itc zI (.slice none 0 0))
  rw [show (w.alloc (.cells (itc zI (.slice none 0 0)) 38)).heap.size = w.heap.size + 1 by simp] at h0
  have HN := Lib.hid (h0.rdNew t ht)
  obtain ⟨s0, hs0⟩ : ∃ s0 : Rst, (if t.size ≤ 2048 then some (sb t) else none) = s0 := ⟨_, rfl⟩
  rw [hs0] at HN
  have hfi : tkI (sb t) = if finI s0 = some [] ∧ mayI (rdI (sb t)).1 = true then some (rdI (sb t)).1 else none := by
    by_cases hz : t.size ≤ 2048
    · rw [if_pos hz] at hs0
      subst hs0
      rw [finI_some]
      rfl
    · rw [if_neg hz] at hs0
      subst hs0
      rw [finI_none, if_neg (by simp), tkI_long (by rw [sb_len]; omega)]
  have hs1 : s0 ≠ none → s0 = some (sb t) := by
    intro hne
    by_cases hz : t.size ≤ 2048
    · rw [if_pos hz] at hs0; exact hs0.symm
    · rw [if_neg hz] at hs0; exact absurd hs0.symm hne
  have HFI := Lib.hid hfi
  have HS1 := Lib.hid hs1
  clear h0 hs0 hfi hs1
  go_enter Tryz.func93, Tryz.ntmps93
  go_wp2_with (first
    | (go_at_call 141; refine HN.out.mono ?_; rintro e w1 ⟨g, rfl, h1⟩
       have h2 := ((h1.newBlk 204 #[pt g]).perm (List.perm_middle (l₁ := [_]))).perm (List.Perm.cons _ (List.Perm.swap _ _ _))
       have h3 : Has w (rdA g s0 :: blkA (w.heap.size + 1) 38 (itc zI (.slice none 0 0)) :: blkA w1.heap.size 204 #[pt g] :: blkA w.heap.size 38 (itc zI (.slice none 0 0)) :: []) (w1.alloc (.cells #[pt g] 204)) := h2
       have r1 := (h3.blkIn (g := w1.heap.size) (t := 204) (cs := #[pt g]) (by simp)).cell 0
       simp at r1
       have H3 := Lib.hid h3
       clear h1 h2 h3 HN)
    | (go_at_call 142; refine (H3.out.rdNums [0, 1, 2] (by simp) rfl rfl (by simp) (fun i hi => by simp at hi; rcases hi with rfl | rfl | rfl <;> exact ⟨0, rfl⟩)).mono ?_; rintro e w2 ⟨vs, ⟨rfl, hvl, hvb, hvs⟩, h4⟩
       obtain ⟨a0, a1, a2, rfl⟩ := three3 hvl
       have e1 : sets (itc zI (.slice none 0 0)) (ivs [0, 1, 2] [a0, a1, a2]) = itc ⟨(a0 : Int), (a1 : Int), (a2 : Int), ⟨#[]⟩, 0, 0, 0, 0, []⟩ (.slice none 0 0) := by simp [sets, ivs, zI]
       rw [e1] at h4
       have r2 := (h4.blkIn (g := w1.heap.size) (t := 204) (cs := #[pt g]) (by simp)).cell 0
       simp at r2
       have H4 := Lib.hid h4
       clear h4 e1 H3 r1)
    | (go_at_call 143; refine H4.out.rdStr.mono ?_; rintro e w3 ⟨u, ⟨rfl, hu⟩, h5⟩
       have z1 := h5.swap.blk.1.cell 3
       have zf := h5.swap.blk.1.frozen 3
       simp at z1
       have h5 := (h5.swap.setBlk 3 (.string u)).swap
       have r3 := (h5.blkIn (g := w1.heap.size) (t := 204) (cs := #[pt g]) (by simp)).cell 0
       simp at r3
       have H5 := Lib.hid h5
       clear h5 H4 r2)
    | (go_at_call 144; refine (H5.out.rdStamps [4, 6] (by simp [World.setCell]) rfl rfl (by simp) (fun i hi => by simp at hi; rcases hi with rfl | rfl <;> exact ⟨⟨0, rfl⟩, ⟨0, rfl⟩⟩)).mono ?_; rintro e w4 ⟨vt, ⟨rfl, htl, htb, hts⟩, h6⟩
       obtain ⟨b0, b1, b2, b3, rfl⟩ := four_ htl
       have e2 : sets ((itc ⟨(a0 : Int), (a1 : Int), (a2 : Int), ⟨#[]⟩, 0, 0, 0, 0, []⟩ (.slice none 0 0)).setIfInBounds 3 (.string u)) (ivs (dbl [4, 6]) [b0, b1, b2, b3]) = itc ⟨(a0 : Int), (a1 : Int), (a2 : Int), u, b0, b1, b2, b3, []⟩ (.slice none 0 0) := by simp [sets, ivs, dbl]
       rw [e2] at h6
       have r4 := (h6.blkIn (g := w1.heap.size) (t := 204) (cs := #[pt g]) (by simp)).cell 0
       simp at r4
       have h7 := (h6.rowNil 24 3).perm ((List.perm_middle (l₁ := [_, _, _]) (a := rowA 24 3 (.slice none 0 0) 0 [])).symm)
       have HM := Lib.hid (many_c pC 146 #[pt w1.heap.size, pt (w.heap.size + 1)] g (xI (w.heap.size + 1) w1.heap.size g ⟨(a0 : Int), (a1 : Int), (a2 : Int), u, b0, b1, b2, b3, []⟩) w
         (fun args W => by rfl) pC_eats (fun T V s v l hl h => closI (w.heap.size + 1) w1.heap.size g _ w T V s v l hl h) w4 _ (.slice none 0 0) [blkA w.heap.size 38 (itc zI (.slice none 0 0))] h7)
       clear h6 h7 e2 H5 r3)
    | (go_at_call 145; refine HM.out.mono ?_; rintro e w5 ⟨rfl, l, v', hl, h8⟩
       have h8 : Has w (rdA g (finI s0) :: (xI (w.heap.size + 1) w1.heap.size g ⟨(a0 : Int), (a1 : Int), (a2 : Int), u, b0, b1, b2, b3, []⟩ v' l ++ [blkA w.heap.size 38 (itc zI (.slice none 0 0))])) w5 := h8
       have r5 := (h8.blkIn (g := w1.heap.size) (t := 204) (cs := #[pt g]) (by simp [xI])).cell 0
       simp at r5
       have hrow := (h8.perm (List.perm_middle (l₁ := [_, _, _]))).rowUp
       obtain ⟨Av, cv, rfl, hat, hnc, hcm, hav⟩ := chRow (h8.perm (List.perm_middle (l₁ := [_, _, _]))).rowOf
       have HROW := Lib.hid hrow
       clear hrow
       have hap : ∀ a, Av = some a → a.block ≠ w.heap.size := (h8.perm (List.perm_middle (l₁ := [_, _, _]))).apart (g := w.heap.size) (t := 38) (cs := itc zI (.slice none 0 0)) (by simp [xI])
       have kx := h8.blkIn (g := w.heap.size + 1) (t := 38) (cs := itc ⟨(a0 : Int), (a1 : Int), (a2 : Int), u, b0, b1, b2, b3, l⟩ (.slice Av l.length cv)) (by simp [xI])
       have ky := h8.blkIn (g := w.heap.size) (t := 38) (cs := itc zI (.slice none 0 0)) (by simp [xI])
       obtain ⟨kk, bb, hk, hbb, hCK⟩ := checkI2 ⟨(a0 : Int), (a1 : Int), (a2 : Int), u, b0, b1, b2, b3, l⟩ Av l.length cv w5 hat (by omega)
       have q0 := kx.cell 0
       have p0 := ky.cell 0
       have f0 := ky.frozen 0
       have q1 := kx.cell 1
       have p1 := ky.cell 1
       have f1 := ky.frozen 1
       have q2 := kx.cell 2
       have p2 := ky.cell 2
       have f2 := ky.frozen 2
       have q3 := kx.cell 3
       have p3 := ky.cell 3
       have f3 := ky.frozen 3
       have q4 := kx.cell 4
       have p4 := ky.cell 4
       have f4 := ky.frozen 4
       have q5 := kx.cell 5
       have p5 := ky.cell 5
       have f5 := ky.frozen 5
       have q6 := kx.cell 6
       have p6 := ky.cell 6
       have f6 := ky.frozen 6
       have q7 := kx.cell 7
       have p7 := ky.cell 7
       have f7 := ky.frozen 7
       have q8 := kx.cell 8
       have p8 := ky.cell 8
       have f8 := ky.frozen 8
       simp at q0 p0 q1 p1 q2 p2 q3 p3 q4 p4 q5 p5 q6 p6 q7 p7 q8 p8
       have hbel := h8.bel
       have HCK := Lib.hid hCK
       have HKX := Lib.hid kx
       have HKY := Lib.hid ky
       have HAT := Lib.hid hat
       have H8 := Lib.hid h8
       have HLL := Lib.hid (show finI s0 ≠ none → l = (many pC (pn (pns 4 (ps (pns 3 s0).2).2).2).1 (pn (pns 4 (ps (pns 3 s0).2).2).2).2).1 from hl)
       clear h8 HM r4 kx ky hCK hat hl)
    | (go_at_call 148; refine H8.out.rdDone.mono ?_; rintro e w6 ⟨rfl, rfl⟩
       obtain ⟨bd, hbd⟩ : ∃ bd, decide (finI s0 = some []) = bd := ⟨_, rfl⟩
       rw [hbd]
       have HBD := Lib.hid hbd
       clear hbd)
    | (go_at_call 91; refine HCK.out.mono ?_; rintro e w7 ⟨rfl, hb7⟩
       have kx7 := HKX.out.below hb7 HKX.out.lt
       have ky7 := HKY.out.below hb7 HKY.out.lt
       have j0 := kx7.cell 0
       have m0 := ky7.cell 0
       have n0 := ky7.frozen 0
       have j1 := kx7.cell 1
       have m1 := ky7.cell 1
       have n1 := ky7.frozen 1
       have j2 := kx7.cell 2
       have m2 := ky7.cell 2
       have n2 := ky7.frozen 2
       have j3 := kx7.cell 3
       have m3 := ky7.cell 3
       have n3 := ky7.frozen 3
       have j4 := kx7.cell 4
       have m4 := ky7.cell 4
       have n4 := ky7.frozen 4
       have j5 := kx7.cell 5
       have m5 := ky7.cell 5
       have n5 := ky7.frozen 5
       have j6 := kx7.cell 6
       have m6 := ky7.cell 6
       have n6 := ky7.frozen 6
       have j7 := kx7.cell 7
       have m7 := ky7.cell 7
       have n7 := ky7.frozen 7
       have j8 := kx7.cell 8
       have m8 := ky7.cell 8
       have n8 := ky7.frozen 8
       simp at j0 m0 j1 m1 j2 m2 j3 m3 j4 m4 j5 m5 j6 m6 j7 m7 j8 m8))
  all_goals
    have hy : finI s0 = some [] → (⟨(a0 : Int), (a1 : Int), (a2 : Int), u, b0, b1, b2, b3, l⟩ : It) = (rdI (sb t)).1 := by
      intro hf
      have hs := HS1.out (fun e => by rw [e] at hf; cases hf)
      subst hs
      exact rdI_parts (sb t) hvs hu hts HLL.out (by rw [hf]; simp)
  · rename_i hbd hm
    rw [hbd] at HBD
    have hf : finI s0 = some [] := of_decide_eq_true HBD.out
    have hm' : mayI ⟨(a0 : Int), (a1 : Int), (a2 : Int), u, b0, b1, b2, b3, l⟩ = false := by simpa using hm
    have hW : Blk _ w.heap.size 38 (itc zI (.slice none 0 0)) := ky7.all9
    refine ret_it rfl rfl hW rfl rfl ⟨?_, (((((((((hbel.trans (hb7.mono hbel.size)).setCell (by exact Nat.le_refl _) _).setCell (by exact Nat.le_refl _) _).setCell (by exact Nat.le_refl _) _).setCell (by exact Nat.le_refl _) _).setCell (by exact Nat.le_refl _) _).setCell (by exact Nat.le_refl _) _).setCell (by exact Nat.le_refl _) _).setCell (by exact Nat.le_refl _) _).setCell (by exact Nat.le_refl _) _⟩
    rw [HFI.out, if_neg (by rw [← hy hf, hm']; simp)]
    rfl
  · rename_i hbd hm
    rw [hbd] at HBD
    have hf : finI s0 = some [] := of_decide_eq_true HBD.out
    have hm' : mayI ⟨(a0 : Int), (a1 : Int), (a2 : Int), u, b0, b1, b2, b3, l⟩ = true := by simpa using hm
    have hW : Blk _ w.heap.size 38 (itc ⟨(a0 : Int), (a1 : Int), (a2 : Int), u, b0, b1, b2, b3, l⟩ (.slice Av l.length cv)) := ky7.all9
    have hat7 := HAT.out.below hb7
    refine ret_it rfl rfl hW rfl rfl ⟨?_, (((((((((hbel.trans (hb7.mono hbel.size)).setCell (by exact Nat.le_refl _) _).setCell (by exact Nat.le_refl _) _).setCell (by exact Nat.le_refl _) _).setCell (by exact Nat.le_refl _) _).setCell (by exact Nat.le_refl _) _).setCell (by exact Nat.le_refl _) _).setCell (by exact Nat.le_refl _) _).setCell (by exact Nat.le_refl _) _).setCell (by exact Nat.le_refl _) _⟩
    rw [HFI.out, if_pos ⟨hf, by rw [← hy hf, hm']⟩, ← hy hf]
    have hr7 := World.ownsRow.below_ HROW.out hb7
    have hne : ∀ k, (Value.slice Av l.length cv).ownBlock = some k → k ≠ w.heap.size := fun k hk => by
      obtain ⟨o, ho⟩ : ∃ o, Av = some o ∧ o.block = k := by
        cases Av with
        | none => cases hk
        | some a => exact ⟨a, rfl, by injection hk⟩
      rw [← ho.2]
      exact hap o ho.1
    exact ⟨Av, l.length, cv, rfl, ((((((((ownsRow_set hr7 hne |> (ownsRow_set · hne)) |> (ownsRow_set · hne)) |> (ownsRow_set · hne)) |> (ownsRow_set · hne)) |> (ownsRow_set · hne)) |> (ownsRow_set · hne)) |> (ownsRow_set · hne)) |> (ownsRow_set · hne)), rfl⟩
  · rename_i hbd
    have hf : ¬ finI s0 = some [] := by
      have := HBD.out
      intro h
      rw [decide_eq_true h] at this
      exact hbd this.symm
    have hW : Blk _ w.heap.size 38 (itc zI (.slice none 0 0)) := HKY.out.all9
    refine ret_it rfl rfl hW rfl rfl ⟨?_, (((((((((hbel).setCell (by exact Nat.le_refl _) _).setCell (by exact Nat.le_refl _) _).setCell (by exact Nat.le_refl _) _).setCell (by exact Nat.le_refl _) _).setCell (by exact Nat.le_refl _) _).setCell (by exact Nat.le_refl _) _).setCell (by exact Nat.le_refl _) _).setCell (by exact Nat.le_refl _) _).setCell (by exact Nat.le_refl _) _⟩
    rw [HFI.out, if_neg (fun h => hf h.1)]
    rfl
end Go.Proofs.YtgccichmdddbpaaGreatDoor
set_option linter.unusedVariables false
set_option linter.unusedSimpArgs false
set_option maxRecDepth 100000
namespace Go.Proofs.YtgccichmdddbpaaGreatDoor
open Go.RowKit

theorem World.ownsRow.up_ {w : World} {B B' sz n : Nat} {E : TypeId} {v : Value} {xs : List Value} (h : w.ownsRow B E sz v n xs) (hB : B' ≤ B) : w.ownsRow B' E sz v n xs :=
  ⟨h.1, h.2.elim .inl (fun ⟨q, cap, cur, e, hq, hh, r⟩ => .inr ⟨q, cap, cur, e, Nat.le_trans hB hq, hh, r⟩)⟩
def AnsTO (o : Option It) (B : Nat) (e : Ending) (w' : World) : Prop :=
  match o with
  | none => e = .returned (.tuple #[itv zI (.slice none 0 0), .bool false])
  | some y => ∃ A n c, e = .returned (.tuple #[itv y (.slice A n c), .bool true]) ∧ w'.ownsRow B 24 3 (.slice A n c) n (y.l.flatMap chc) ∧ n = y.l.length
set_option maxHeartbeats 2000000 in
theorem poIntentAt_c {V : World} {p : Nat} {r : List Rw} {F : Nat → Prop} (h : (tbA p r).p V F) (hz : Szs r) (hM : MaxL V) (key : ByteArray) (hk : isK key = true) :
    Calls Tryz.prog 44 #[pt p, .string key] V fun e w' => AnsTO (pint r key) V.heap.size e w' ∧ Below V.heap.size V w' := by
  have hK : ∀ W, Below V.heap.size V W → Calls Tryz.prog 89 #[.string key] W fun e w' => e = .returned (.tuple #[.string (bs (ikey (sb key))), .int .i64 0]) ∧ Below W.heap.size W w' := fun W hb => by
    have := intentKey_c key W (hM.below hb)
    unfold markK at this
    rw [if_pos hk, List.append_nil] at this
    exact this
  have hG := fun W (hb : Below V.heap.size V W) => tb_get (tbA_below h hb) (bs (ikey (sb key)))
  have hT := fun W => takeIO_c (rval r (bs (ikey (sb key)))) W (by have := rval_le hz (bs (ikey (sb key))); omega)
  unfold pint
  generalize rval r (bs (ikey (sb key))) = t at *
  generalize rhas r (bs (ikey (sb key))) = hh at *
  generalize bs (ikey (sb key)) = kk at *
  have HK := Lib.hid hK
  have HG := Lib.hid hG
  have k0 := Blk.new V 38 (itc zI (.slice none 0 0))
  have g0 := nbl V (.cells (itc zI (.slice none 0 0)) 38)
  clear hK hG h hM hk hz
  cases ho : tkI (sb t) with
  | none =>
    simp only [ho, AnsIO] at hT
    have HT := Lib.hid hT
    clear ho hT
    go_enter Tryz.func44, Tryz.ntmps44
    go_wp2_with (first
      | (go_at_call 89; refine (HK.out _ g0).mono ?_; rintro e w1 ⟨rfl, hb1⟩; have g1 := bst g0 hb1; have k1 := k0.below hb1 k0.lt)
      | (go_at_call 25; refine (HG.out _ g1).mono ?_; rintro e w2 ⟨rfl, hb2⟩; have g2 := bst g1 hb2; have k2 := k1.below hb2 k1.lt)
      | (go_at_call 93; refine (HT.out _).mono ?_; rintro e w3 ⟨rfl, hb3⟩
         have k3 := (k2.below hb3 k2.lt).below (nbl w3 (.cells (itc zI (.slice none 0 0)) 38)) (k2.below hb3 k2.lt).lt
         have g3 := bsa (bst g2 hb3) (.cells (itc zI (.slice none 0 0)) 38)
         have p0 := k3.cell 0
         have f0 := k3.frozen 0
         have p1 := k3.cell 1
         have f1 := k3.frozen 1
         have p2 := k3.cell 2
         have f2 := k3.frozen 2
         have p3 := k3.cell 3
         have f3 := k3.frozen 3
         have p4 := k3.cell 4
         have f4 := k3.frozen 4
         have p5 := k3.cell 5
         have f5 := k3.frozen 5
         have p6 := k3.cell 6
         have f6 := k3.frozen 6
         have p7 := k3.cell 7
         have f7 := k3.frozen 7
         have p8 := k3.cell 8
         have f8 := k3.frozen 8
         simp at p0 p1 p2 p3 p4 p5 p6 p7 p8
         have K3 := Lib.hid k3
         have G3 := Lib.hid g3
         clear hb1 hb2 hb3 k3 g3))
    exact ret_it rfl rfl (Blk.all9 (v0 := .int .i64 zI.id) (v1 := .int .i64 zI.ep) (v2 := .int .i64 zI.pr) (v3 := .string zI.an) (v4 := .int .i64 zI.sw) (v5 := .int .i64 zI.sl) (v6 := .int .i64 zI.bw) (v7 := .int .i64 zI.bl) (v8 := .slice none 0 0) (by exact K3.out)) rfl rfl ⟨rfl, (((((((((G3.out.setCell (by exact Nat.le_refl _) _).setCell (by exact Nat.le_refl _) _).setCell (by exact Nat.le_refl _) _).setCell (by exact Nat.le_refl _) _).setCell (by exact Nat.le_refl _) _).setCell (by exact Nat.le_refl _) _).setCell (by exact Nat.le_refl _) _).setCell (by exact Nat.le_refl _) _).setCell (by exact Nat.le_refl _) _)⟩
  | some y =>
    simp only [ho, AnsIO] at hT
    have HT := Lib.hid hT
    clear ho hT
    go_enter Tryz.func44, Tryz.ntmps44
    go_wp2_with (first
      | (go_at_call 89; refine (HK.out _ g0).mono ?_; rintro e w1 ⟨rfl, hb1⟩; have g1 := bst g0 hb1; have k1 := k0.below hb1 k0.lt)
      | (go_at_call 25; refine (HG.out _ g1).mono ?_; rintro e w2 ⟨rfl, hb2⟩; have g2 := bst g1 hb2; have k2 := k1.below hb2 k1.lt)
      | (go_at_call 93; refine (HT.out _).mono ?_; rintro e w3 ⟨⟨A, n, c, rfl, hrow, hn⟩, hb3⟩
         have HSZ := Lib.hid g2.size
         have HKL := Lib.hid k2.lt
         have HROW := Lib.hid (World.ownsRow.below_ hrow (nbl w3 (.cells (itc y (.slice A n c)) 38)))
         have HN := Lib.hid hn
         clear hrow hn
         have k3 := (k2.below hb3 k2.lt).below (nbl w3 (.cells (itc y (.slice A n c)) 38)) (k2.below hb3 k2.lt).lt
         have g3 := bsa (bst g2 hb3) (.cells (itc y (.slice A n c)) 38)
         have p0 := k3.cell 0
         have f0 := k3.frozen 0
         have p1 := k3.cell 1
         have f1 := k3.frozen 1
         have p2 := k3.cell 2
         have f2 := k3.frozen 2
         have p3 := k3.cell 3
         have f3 := k3.frozen 3
         have p4 := k3.cell 4
         have f4 := k3.frozen 4
         have p5 := k3.cell 5
         have f5 := k3.frozen 5
         have p6 := k3.cell 6
         have f6 := k3.frozen 6
         have p7 := k3.cell 7
         have f7 := k3.frozen 7
         have p8 := k3.cell 8
         have f8 := k3.frozen 8
         simp at p0 p1 p2 p3 p4 p5 p6 p7 p8
         have K3 := Lib.hid k3
         have G3 := Lib.hid g3
         clear hb1 hb2 hb3 k3 g3))
    have hne : ∀ k, (Value.slice A n c).ownBlock = some k → k ≠ V.heap.size := fun k hk => by
      have h1 := (World.ownsRow.lt HROW.out k hk).1
      have h2 := HKL.out
      omega
    have hr0 := World.ownsRow.up_ HROW.out HSZ.out
    have HA9 := Lib.hid ((((((((((hr0 |> (ownsRow_set (g := V.heap.size) (i := 0) (u := .int .i64 y.id) · hne)) |> (ownsRow_set (g := V.heap.size) (i := 1) (u := .int .i64 y.ep) · hne)) |> (ownsRow_set (g := V.heap.size) (i := 2) (u := .int .i64 y.pr) · hne)) |> (ownsRow_set (g := V.heap.size) (i := 3) (u := .string y.an) · hne)) |> (ownsRow_set (g := V.heap.size) (i := 4) (u := .int .i64 y.sw) · hne)) |> (ownsRow_set (g := V.heap.size) (i := 5) (u := .int .i64 y.sl) · hne)) |> (ownsRow_set (g := V.heap.size) (i := 6) (u := .int .i64 y.bw) · hne)) |> (ownsRow_set (g := V.heap.size) (i := 7) (u := .int .i64 y.bl) · hne)) |> (ownsRow_set (g := V.heap.size) (i := 8) (u := .slice A n c) · hne)))
    exact ret_it rfl rfl (Blk.all9 (v0 := .int .i64 y.id) (v1 := .int .i64 y.ep) (v2 := .int .i64 y.pr) (v3 := .string y.an) (v4 := .int .i64 y.sw) (v5 := .int .i64 y.sl) (v6 := .int .i64 y.bw) (v7 := .int .i64 y.bl) (v8 := .slice A n c) (by exact K3.out)) rfl rfl ⟨⟨A, n, c, rfl, HA9.out, HN.out⟩, (((((((((G3.out.setCell (by exact Nat.le_refl _) _).setCell (by exact Nat.le_refl _) _).setCell (by exact Nat.le_refl _) _).setCell (by exact Nat.le_refl _) _).setCell (by exact Nat.le_refl _) _).setCell (by exact Nat.le_refl _) _).setCell (by exact Nat.le_refl _) _).setCell (by exact Nat.le_refl _) _).setCell (by exact Nat.le_refl _) _)⟩
end Go.Proofs.YtgccichmdddbpaaGreatDoor
