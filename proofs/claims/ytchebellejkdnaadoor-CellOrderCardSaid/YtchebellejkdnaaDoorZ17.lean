/-
  Layer 11, the code: Intent, Record.
-/
import Derived.Test.YtchebellejkdnaaDoorZ15
set_option linter.unusedVariables false
set_option linter.unusedSimpArgs false
set_option maxRecDepth 100000
namespace Go.Proofs.YtchebellejkdnaaDoor
open Go.RowKit

set_option maxHeartbeats 2000000 in
theorem intent_c (x : It) (A : Option Addr) (n c : Nat) (w : World) (hx : ChAt w A n x.l) (hA : ∀ p, A = some p → p.block < w.heap.size) (hn : n ≤ 9223372036854775807) :
    Calls Tryd.prog 10 #[itv x (.slice A n c)] w fun e w' => e = ansT (mayI x) (txI x) ∧ Below w.heap.size w w' := by
  have hB0 := nbl w (.cells (itc x (.slice A n c)) 26)
  have HK := Lib.hid (checkI x A n c (w.alloc (.cells (itc x (.slice A n c)) 26)) (hx.below hB0) (fun p hp => Nat.lt_of_lt_of_le (hA p hp) hB0.size) hn)
  have HB0 := Lib.hid hB0
  cases hm : mayI x
  · rw [hm] at HK
    obtain ⟨id, ep, pr, an, sw, sl, bw, bl, l⟩ := x
    clear hB0 hx
    go_enter Tryd.func10, Tryd.ntmps10
    go_wp2_with (go_at_call 12; refine HK.out.mono ?_; rintro e w1 ⟨rfl, hb1⟩)
    go_ret2
    exact ⟨rfl, HB0.out.trans (hb1.mono (by simp))⟩
  · rw [hm] at HK
    have hlen := txI_len x hm
    have hmm := hm
    simp only [mayI, hdr, Bool.and_eq_true] at hmm
    obtain ⟨⟨⟨⟨⟨⟨⟨m1, m2⟩, m3⟩, m4⟩, m5⟩, m6⟩, m7⟩, m8⟩ := hmm
    have m1 := isI_iff.1 m1
    have m2 := isN_iff.1 m2
    have m3 := isP_iff.1 m3
    have m4 := (isK_iff.1 m4).2
    have m7 := of_decide_eq_true m7
    have m9 := rise_all m8
    have hxl := hx.1
    have hxn : n ≤ 16 := by omega
    obtain ⟨p4, hp4⟩ : ∃ p4, p4 = ((([] ++ [x.id, x.ep, x.pr].flatMap nbs) ++ tbs x.an) ++ [(x.sw, x.sl), (x.bw, x.bl)].flatMap txP) ++ [(n : Int)].flatMap nbs := ⟨_, rfl⟩
    have hT : txI x = p4 ++ x.l.flatMap txC := by
      rw [hp4]
      unfold txI
      rw [hxl]
      simp [txP, txS, List.append_assoc]
    have hl4 : p4.length ≤ 2048 := by
      have := congrArg List.length hT
      rw [List.length_append] at this
      omega
    have hl3 : ((([] ++ [x.id, x.ep, x.pr].flatMap nbs) ++ tbs x.an) ++ [(x.sw, x.sl), (x.bw, x.bl)].flatMap txP).length ≤ 2048 := by
      have := congrArg List.length hp4
      rw [List.length_append] at this
      omega
    have hl2 : (([] ++ [x.id, x.ep, x.pr].flatMap nbs) ++ tbs x.an).length ≤ 2048 := by
      rw [List.length_append] at hl3
      omega
    have hl1 : ([] ++ [x.id, x.ep, x.pr].flatMap nbs).length ≤ 2048 := by
      rw [List.length_append] at hl2
      omega
    have hS : ∀ p ∈ [(x.sw, x.sl), (x.bw, x.bl)], mayP p = true := by simp [mayP, m5, m6]
    have HH0 := Lib.hid ((Has.nil (Below.refl w.heap.size w)).newBlk 26 (itc x (.slice A n c)))
    have HX := Lib.hid hx
    have HP4 := Lib.hid hp4
    have HTx := Lib.hid hT
    have hfb : ∀ j, ((x.l.take j).flatMap txC).length ≤ 4000 := by
      intro j
      have := flat_take_le txC x.l j 88 fun c hc => by
        obtain ⟨q1, q2, q3⟩ := m9 c hc
        have r1 := num_len q2
        have r2 := fl_len c.d
        have r3 := str_len q3 (Nat.le_refl _)
        unfold txC
        simp only [List.length_append]
        omega
      omega
    have HM9 := Lib.hid m9
    have HFB := Lib.hid hfb
    have HFT := Lib.hid (fun j h => flat_take txC x.l j h)
    obtain ⟨id, ep, pr, an, sw, sl, bw, bl, l⟩ := x
    simp only at hl1 hl2 hl3 hS m1 m2 m3 m4 hxl
    clear hx hp4 hT m5 m6 m7 m8 m9 hm hB0 hlen hfb
    go_enter Tryd.func10, Tryd.ntmps10
    go_wp2_with (first
      | (go_at_call 12; refine HK.out.mono ?_; rintro e w1 ⟨rfl, hb1⟩
         have H1 := (HH0.out.keep hb1).penNew
         have kx := H1.swap.blk.1
         have k0 := kx.cell 0
         have k1 := kx.cell 1
         have k2 := kx.cell 2
         simp at k0 k1 k2)
      | (go_at_call 45; refine (H1.penNums (by simp) [id, ep, pr] (by simp; omega) (by simp) (by simp) rfl rfl).mono ?_; rintro e w2 ⟨rfl, h2⟩
         clear H1 kx
         have ka := h2.swap.blk.1.cell 3
         simp at ka)
      | (go_at_call 46; refine (h2.penStr an (by omega) (by omega)).mono ?_; rintro e w3 ⟨rfl, h3⟩
         clear h2 ka
         have ky := h3.swap.blk.1
         have k4 := ky.cell 4
         have k5 := ky.cell 5
         have k6 := ky.cell 6
         have k7 := ky.cell 7
         simp at k4 k5 k6 k7)
      | (go_at_call 47; refine (h3.penStamps (by simp) [(sw, sl), (bw, bl)] hS (by simp) (by omega) rfl rfl).mono ?_; rintro e w4 ⟨rfl, h4⟩
         clear h3 ky
         have kl := h4.swap.blk.1.cell 8
         simp at kl)
      | (go_at_call 45; refine (h4.penNums (by simp) [(n : Int)] (by simp; omega) (by simp) (by omega) rfl rfl).mono ?_; rintro e w5 ⟨rfl, h5⟩
         clear h4 kl
         have km := h5.swap.blk.1.cell 8
         simp at km))
    rw [← HP4.out] at h5
    have H5 := Lib.hid h5
    clear h5 hl1 hl2 hl3 hS HH0 HK HP4 km
    go_loopw [38] (fun i wr => ∃ j : Nat, j ≤ n ∧ i = .int .i64 j ∧ Hid (Has w (penA w1.heap.size (p4 ++ (l.take j).flatMap txC) :: blkA w.heap.size 26 (itc ⟨id, ep, pr, an, sw, sl, bw, bl, l⟩ (.slice A n c)) :: []) wr)) (fun i _ => n - (intOf i).toNat)
    case atStart => exact ⟨0, Nat.zero_le _, rfl, by simpa using H5⟩
    case round =>
      obtain ⟨j, hj, rfl, HH⟩ := hrel
      by_cases hlt : j < n
      · have hjl : j < l.length := by omega
        have hfa := HX.out.below HH.out.bel
        obtain ⟨b, o, rfl, hc⟩ := hfa.2 (by omega)
        have hcj := hc j hjl
        have hq3 := HM9.out _ (List.getElem_mem hjl)
        have hfl := HFT.out j hjl
        have hfb := HFB.out j
        obtain ⟨cc, hcc⟩ : ∃ cc, l[j]'hjl = cc := ⟨_, rfl⟩
        rw [hcc] at hcj hq3
        try simp only at hfl
        rw [hcc] at hfl
        obtain ⟨q, s, d⟩ := cc
        simp only at hcj hq3
        have hq : 0 ≤ q ∧ q ≤ 9007199254740991 := ⟨hq3.1, hq3.2.1⟩
        have hs : s.size ≤ 64 := hq3.2.2
        have hnl := num_len hq.2
        have hdl := fl_len d
        have HA := Lib.hid (HH.out.newBlk 77 #[.int .i64 q, .string s, .bool d]).swap
        generalize hys : p4 ++ (l.take j).flatMap txC = ys at *
        have hyl : ys.length ≤ 6100 := by rw [← hys, List.length_append]; (try simp only at hfb); omega
        have HFL := Lib.hid (show ys ++ txC ⟨q, s, d⟩ = p4 ++ (l.take (j + 1)).flatMap txC by rw [hfl, ← hys, List.append_assoc])
        obtain ⟨k0, kr⟩ := hcj
        clear hc hfa hfl hys hfb hcc HH hq3
        go_wp2_with (first
          | (go_at_call 45; refine (HA.out.penNums (by simp) [q] (by simpa using hq) (by simp) (by omega) rfl rfl).mono ?_; rintro e z1 ⟨rfl, y1⟩
             have c2 := y1.swap.blk.1.cell 2
             simp at c2)
          | (go_at_call 48; refine (y1.penFlag d (by simp only [List.length_append, List.flatMap_cons, List.flatMap_nil, List.append_nil]; omega)).mono ?_; rintro e z2 ⟨rfl, y2⟩
             have c1 := y2.swap.blk.1.cell 1
             simp at c1)
          | (go_at_call 46; refine (y2.penStr s hs (by simp only [List.length_append, List.flatMap_cons, List.flatMap_nil, List.append_nil]; omega)).mono ?_; rintro e z3 ⟨rfl, y3⟩))
        go_roundw
        case rel =>
          refine ⟨j + 1, by omega, by go_num, Lib.hid ?_⟩
          rw [← HFL.out]
          have := y3.swap.tail
          simpa [txC, List.append_assoc] using this
        case measure => simp [intOf]; omega
      · have hjn : j = n := by omega
        have h6 := HH.out
        rw [List.take_of_length_le (by omega)] at h6
        have ht := HTx.out
        try simp only at ht
        clear HH
        go_wp2_with (go_at_call 49; refine h6.penText.mono ?_; rintro e w7 ⟨rfl, rfl⟩)
        go_ret2
        refine ⟨?_, h6.bel⟩
        rw [ansT_t, ht]
        rfl

set_option maxHeartbeats 2000000 in
theorem record_c (x : Rc) (A : Option Addr) (n c : Nat) (w : World) (hx : WtAt w A n x.l) (hA : ∀ p, A = some p → p.block < w.heap.size) (hn : n ≤ 9223372036854775807) :
    Calls Tryd.prog 18 #[rcv x (.slice A n c)] w fun e w' => e = ansT (mayR x) (txR x) ∧ Below w.heap.size w w' := by
  have hB0 := nbl w (.cells (rcc x (.slice A n c)) 37)
  have HK := Lib.hid (checkR x A n c (w.alloc (.cells (rcc x (.slice A n c)) 37)) (hx.below hB0) (fun p hp => Nat.lt_of_lt_of_le (hA p hp) hB0.size) hn)
  have HB0 := Lib.hid hB0
  cases hm : mayR x
  · rw [hm] at HK
    obtain ⟨id, ep, st, pr, an, sw, sl, bw, bl, l⟩ := x
    clear hB0 hx
    go_enter Tryd.func18, Tryd.ntmps18
    go_wp2_with (go_at_call 20; refine HK.out.mono ?_; rintro e w1 ⟨rfl, hb1⟩)
    go_ret2
    exact ⟨rfl, HB0.out.trans (hb1.mono (by simp))⟩
  · rw [hm] at HK
    have hlen := txR_len x hm
    have hmm := hm
    simp only [mayR, hdr, Bool.and_eq_true] at hmm
    obtain ⟨⟨⟨⟨⟨⟨⟨m1, m2⟩, m3⟩, m4⟩, m5⟩, m6⟩, m7⟩, m8⟩ := hmm
    have m1 := isI_iff.1 m1
    have m2 := isN_iff.1 m2
    have m3 := isP_iff.1 m3
    have m4 := (isK_iff.1 m4).2
    have m7 := isS_iff.1 m7
    obtain ⟨m8, m9⟩ := areW_all m8
    have hxl := hx.1
    have hxn : n ≤ 32 := by omega
    obtain ⟨p4, hp4⟩ : ∃ p4, p4 = ((([] ++ [x.id, x.ep, x.st, x.pr].flatMap nbs) ++ tbs x.an) ++ [(x.sw, x.sl), (x.bw, x.bl)].flatMap txP) ++ [(n : Int)].flatMap nbs := ⟨_, rfl⟩
    have hT : txR x = p4 ++ x.l.flatMap txW := by
      rw [hp4]
      unfold txR
      rw [hxl]
      simp [txP, txS, List.append_assoc]
    have hl4 : p4.length ≤ 2048 := by
      have := congrArg List.length hT
      rw [List.length_append] at this
      omega
    have hl3 : ((([] ++ [x.id, x.ep, x.st, x.pr].flatMap nbs) ++ tbs x.an) ++ [(x.sw, x.sl), (x.bw, x.bl)].flatMap txP).length ≤ 2048 := by
      have := congrArg List.length hp4
      rw [List.length_append] at this
      omega
    have hl2 : (([] ++ [x.id, x.ep, x.st, x.pr].flatMap nbs) ++ tbs x.an).length ≤ 2048 := by
      rw [List.length_append] at hl3
      omega
    have hl1 : ([] ++ [x.id, x.ep, x.st, x.pr].flatMap nbs).length ≤ 2048 := by
      rw [List.length_append] at hl2
      omega
    have hS : ∀ p ∈ [(x.sw, x.sl), (x.bw, x.bl)], mayP p = true := by simp [mayP, m5, m6]
    have HH0 := Lib.hid ((Has.nil (Below.refl w.heap.size w)).newBlk 37 (rcc x (.slice A n c)))
    have HX := Lib.hid hx
    have HP4 := Lib.hid hp4
    have HTx := Lib.hid hT
    have hfb : ∀ j, ((x.l.take j).flatMap txW).length ≤ 4000 := by
      intro j
      have := flat_take_le txW x.l j 80 fun c hc => by
        obtain ⟨q1, q2, q3⟩ := m9 c hc
        have r1 := num_len q2
        have r3 := str_len q3 (Nat.le_refl _)
        unfold txW
        simp only [List.length_append]
        omega
      omega
    have HM9 := Lib.hid m9
    have HFB := Lib.hid hfb
    have HFT := Lib.hid (fun j h => flat_take txW x.l j h)
    obtain ⟨id, ep, st, pr, an, sw, sl, bw, bl, l⟩ := x
    simp only at hl1 hl2 hl3 hS m1 m2 m3 m4 m7 hxl
    clear hx hp4 hT m5 m6  m8 m9 hm hB0 hlen hfb
    go_enter Tryd.func18, Tryd.ntmps18
    go_wp2_with (first
      | (go_at_call 20; refine HK.out.mono ?_; rintro e w1 ⟨rfl, hb1⟩
         have H1 := (HH0.out.keep hb1).penNew
         have kx := H1.swap.blk.1
         have k0 := kx.cell 0
         have k1 := kx.cell 1
         have k2 := kx.cell 2
         have k3 := kx.cell 3
         simp at k0 k1 k2 k3)
      | (go_at_call 45; refine (H1.penNums (by simp) [id, ep, st, pr] (by simp; omega) (by simp) (by simp) rfl rfl).mono ?_; rintro e w2 ⟨rfl, h2⟩
         clear H1 kx
         have ka := h2.swap.blk.1.cell 4
         simp at ka)
      | (go_at_call 46; refine (h2.penStr an (by omega) (by omega)).mono ?_; rintro e w3 ⟨rfl, h3⟩
         clear h2 ka
         have ky := h3.swap.blk.1
         have k5 := ky.cell 5
         have k6 := ky.cell 6
         have k7 := ky.cell 7
         have k8 := ky.cell 8
         simp at k5 k6 k7 k8)
      | (go_at_call 47; refine (h3.penStamps (by simp) [(sw, sl), (bw, bl)] hS (by simp) (by omega) rfl rfl).mono ?_; rintro e w4 ⟨rfl, h4⟩
         clear h3 ky
         have kl := h4.swap.blk.1.cell 9
         simp at kl)
      | (go_at_call 45; refine (h4.penNums (by simp) [(n : Int)] (by simp; omega) (by simp) (by omega) rfl rfl).mono ?_; rintro e w5 ⟨rfl, h5⟩
         clear h4 kl
         have km := h5.swap.blk.1.cell 9
         simp at km))
    rw [← HP4.out] at h5
    have H5 := Lib.hid h5
    clear h5 hl1 hl2 hl3 hS HH0 HK HP4 km
    go_loopw [40] (fun i wr => ∃ j : Nat, j ≤ n ∧ i = .int .i64 j ∧ Hid (Has w (penA w1.heap.size (p4 ++ (l.take j).flatMap txW) :: blkA w.heap.size 37 (rcc ⟨id, ep, st, pr, an, sw, sl, bw, bl, l⟩ (.slice A n c)) :: []) wr)) (fun i _ => n - (intOf i).toNat)
    case atStart => exact ⟨0, Nat.zero_le _, rfl, by simpa using H5⟩
    case round =>
      obtain ⟨j, hj, rfl, HH⟩ := hrel
      by_cases hlt : j < n
      · have hjl : j < l.length := by omega
        have hfa := HX.out.below HH.out.bel
        obtain ⟨b, o, rfl, hc⟩ := hfa.2 (by omega)
        have hcj := hc j hjl
        have hq3 := HM9.out _ (List.getElem_mem hjl)
        have hfl := HFT.out j hjl
        have hfb := HFB.out j
        obtain ⟨cc, hcc⟩ : ∃ cc, l[j]'hjl = cc := ⟨_, rfl⟩
        rw [hcc] at hcj hq3
        try simp only at hfl
        rw [hcc] at hfl
        obtain ⟨s, q⟩ := cc
        simp only at hcj hq3
        have hq : 0 ≤ q ∧ q ≤ 9007199254740991 := ⟨hq3.1, hq3.2.1⟩
        have hs : s.size ≤ 64 := hq3.2.2
        have hnl := num_len hq.2
        have hsl := str_len hs (Nat.le_refl _)
        have HA := Lib.hid (HH.out.newBlk 89 #[.string s, .int .i64 q]).swap
        generalize hys : p4 ++ (l.take j).flatMap txW = ys at *
        have hyl : ys.length ≤ 6100 := by rw [← hys, List.length_append]; (try simp only at hfb); omega
        have HFL := Lib.hid (show ys ++ txW ⟨s, q⟩ = p4 ++ (l.take (j + 1)).flatMap txW by rw [hfl, ← hys, List.append_assoc])
        obtain ⟨k0, kr⟩ := hcj
        clear hc hfa hfl hys hfb hcc HH hq3
        go_wp2_with (first
          | (go_at_call 46; refine (HA.out.penStr s hs (by omega)).mono ?_; rintro e z1 ⟨rfl, y1⟩
             have c1 := y1.swap.blk.1.cell 1
             simp at c1)
          | (go_at_call 45; refine (y1.penNums (by simp) [q] (by simpa using hq) (by simp) (by simp only [List.length_append]; omega) rfl rfl).mono ?_; rintro e z3 ⟨rfl, y3⟩))
        go_roundw
        case rel =>
          refine ⟨j + 1, by omega, by go_num, Lib.hid ?_⟩
          rw [← HFL.out]
          have := y3.swap.tail
          simpa [txW, List.append_assoc] using this
        case measure => simp [intOf]; omega
      · have hjn : j = n := by omega
        have h6 := HH.out
        rw [List.take_of_length_le (by omega)] at h6
        have ht := HTx.out
        try simp only at ht
        clear HH
        go_wp2_with (go_at_call 49; refine h6.penText.mono ?_; rintro e w7 ⟨rfl, rfl⟩)
        go_ret2
        refine ⟨?_, h6.bel⟩
        rw [ansT_t, ht]
        rfl
end Go.Proofs.YtchebellejkdnaaDoor
