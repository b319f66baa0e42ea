/-
  Layer 14, the code: whether a version came to a span (written by wip/genser.py).
-/
import Derived.Test.YtldbmogondmgmaaGreatDoorSS35
import Derived.Test.YtldbmogondmgmaaGreatDoorSS33
import Derived.Test.YtldbmogondmgmaaGreatDoorSS34
set_option linter.unusedVariables false
set_option linter.unusedSimpArgs false
set_option maxRecDepth 100000
namespace Go.Proofs.YtldbmogondmgmaaGreatDoor
open Go.RowKit Go.Shelf
attribute [local go_sem] Oper.semAt_some

theorem results_b {fn : Func} {tmps : Array Value} {w : World} {p : Tmp} {g : Nat} {v : Value} (hr : fn.results = #[.cell p 4]) (hp : tmps.getD p undef = .pointer (some ⟨g, 0, none⟩))
    (hB : Blk w g 4 #[v]) : (results fn tmps).run Tryz.prog w = .ok v w := by
  have hp' : tmps[p]?.getD undef = .pointer (some ⟨g, 0, none⟩) := by simpa using hp
  have hc := hB.cell 0
  simp at hc
  simp [results, hr, hp', go_sem, asAddr, loadVar, hc]
def SeNoV (f t : ByteArray) (x : Tx) (t1 t2 : Int) (r : List Rw) (ff tt : ByteArray) (n : Nat) : Prop := ((btw r ff tt).take n).any (hvRow f t (lateP x (t1, t2))) = false
set_option maxHeartbeats 8000000 in
theorem seHasV {V : World} {p : Nat} {r : List Rw} {F : Nat → Prop} (h : (tbA p r).p V F) (hz : Szs r) (hM : MaxL V) (f t : ByteArray) (hfs : f.size ≤ 9223372036854775807) (hts : t.size ≤ 9223372036854775807) (x : Tx) (t1 t2 : Int) (gx gt : Nat) (hX : Blk V gx 28 (txc x)) (hT : Blk V gt 26 #[.int .i64 t1, .int .i64 t2]) :
    Calls Tryz.prog 63 #[pt p, .agg #[.string f, .string t], (.func (.func 64) #[] #[pt gx, pt gt])] V fun e w' => e = .returned (.bool (hasVP r f t (lateP x (t1, t2)))) ∧ Below V.heap.size V w' := by
  have hsor := tbA_sor h
  have HEN := Lib.hid (seEnds f t hfs hts)
  have HK1 := Lib.hid (fun W (hW : Below V.heap.size V W) => seVKey (endK f) 1099511627776 1048575 (endK_is f) (by decide) W (hM.below hW))
  have HK2 := Lib.hid (fun W (hW : Below V.heap.size V W) => seVKey (endK t) 0 0 (endK_is t) (by decide) W (hM.below hW))
  have hle := vkey_le (endK t) 0 0 (endK_is t)
  unfold hasVP vrows zr
  generalize (bs (vkey (sb (endK f)) 1099511627776 1048575)) = ff at *
  generalize (bs (vkey (sb (endK t)) 0 0)) = tk at *
  have hsz : ¬ 9223372036854775807 < tk.size + (⟨#[0]⟩ : ByteArray).size := by
    have : (⟨#[0]⟩ : ByteArray).size = 1 := rfl
    omega
  obtain ⟨tt, htt⟩ : ∃ tt, tk ++ ⟨#[0]⟩ = tt := ⟨_, rfl⟩
  rw [htt]
  obtain ⟨o, ho⟩ : ∃ o, (btw r ff tt).any (hvRow f t (lateP x (t1, t2))) = o := ⟨_, rfl⟩
  rw [ho]
  have HO := Lib.hid ho
  have H := Lib.hid h
  have HZ := Lib.hid hz
  have HS := Lib.hid hsor
  have HTT := Lib.hid htt
  have HIS := Lib.hid (fun k W => seIsIn f t k W)
  have HCL := Lib.hid (fun W (hW : Below V.heap.size V W) a b => seLate x t1 t2 gx gt a b W (hX.below hW hX.lt) (hT.below hW hT.lt))
  have h0 := ((((Has.nil (Below.refl V.heap.size V)).newBlk 66 #[.string f, .string t]).newBlk 131 #[(.func (.func 64) #[] #[pt gx, pt gt])]).newBlk 4 #[.bool false])
  have hz1 : (V.alloc (.cells #[.string f, .string t] 66)).heap.size = V.heap.size + 1 := World.size_alloc _ _
  have hz2 : ((V.alloc (.cells #[.string f, .string t] 66)).alloc (.cells #[(.func (.func 64) #[] #[pt gx, pt gt])] 131)).heap.size = V.heap.size + 1 + 1 := (World.size_alloc _ _).trans (by rw [hz1])
  rw [hz2, hz1] at h0
  have H0 := Lib.hid h0
  clear h hz hsor ho hM h0 hz1 hz2 hX hT htt hle
  refine (callsIn_wide (n := 3)).1 (callsIn_of_wp_marks Tryz.func63 rfl trivial (wpIn_wide.2 ?_) rfl)
  simp only [Tryz.ntmps63, List.size_toArray, List.length_cons, List.length_nil, Nat.reduceAdd, Nat.reduceSub, Array.replicate_succ, Array.replicate_zero, List.push_toArray, List.append_toArray, List.nil_append, List.cons_append]
  go_wp2_with (first
    | (go_at_call 129; refine (HEN.out _).mono ?_; rintro e w1 ⟨rfl, hb1⟩; have H1 := Lib.hid (H0.out.keep hb1); clear hb1)
    | (go_at_call 130; with_reducible refine (HK1.out _ H1.out.bel).mono ?_; rintro e w2 ⟨rfl, hb2⟩; have H2 := Lib.hid (H1.out.keep hb2); clear hb2)
    | (go_at_call 130; with_reducible refine (HK2.out _ H2.out.bel).mono ?_; rintro e w3 ⟨rfl, hb3⟩; have H3 := Lib.hid (H2.out.keep hb3); clear hb3)
    | (go_at_call 55; rw [HTT.out]; refine (Has.tbAll H3.out p ff tt).mono ?_; rintro e W0 ⟨g1, g2, g3, rfl, h4⟩; have H4 := Lib.hid h4; clear h4))
  generalize V.heap.size + 1 + 1 = g6 at *
  generalize V.heap.size + 1 = g5 at *
  have H4 := Lib.hid (show Has V [blkA g1 32 #[pt p], blkA g2 9 #[.string ff], blkA g3 9 #[.string tt], blkA g6 4 #[.bool false], blkA g5 131 #[(.func (.func 64) #[] #[pt gx, pt gt])], blkA V.heap.size 66 #[.string f, .string t]] W0 from H4.out)
  clear H3 H2 H1 H0 HK1 HK2 HEN HTT hsz
  have hs0 := H4.out.size
  have hTR := Lib.hid (fun W (hh : Has V [blkA g1 32 #[pt p], blkA g2 9 #[.string ff], blkA g3 9 #[.string tt], blkA g6 4 #[.bool false], blkA g5 131 #[(.func (.func 64) #[] #[pt gx, pt gt])], blkA V.heap.size 66 #[.string f, .string t]] W) => (show TRD p g1 g2 g3 ff tt r W from
    ⟨⟨F, tbA_below H.out hh.bel⟩, HZ.out, hh.blkAt (by simp), hh.blkAt (by simp), hh.blkAt (by simp)⟩))
  refine wp_tours (P := Tryz.prog) rfl (fun _ _ => rfl) (tb_all_tours p g1 g2 g3 ff tt) rfl (btw r ff tt).length
    (fun bb r' n W => r' = r ∧ bb = upAt r ff tt n ∧ n ≤ (btw r ff tt).length ∧ SeNoV f t x t1 t2 r ff tt n ∧ Has V [blkA g1 32 #[pt p], blkA g2 9 #[.string ff], blkA g3 9 #[.string tt], blkA g6 4 #[.bool false], blkA g5 131 #[(.func (.func 64) #[] #[pt gx, pt gt])], blkA V.heap.size 66 #[.string f, .string t]] W)
    (fun c W => c = .ret ∧ o = true ∧ Has V [blkA g1 32 #[pt p], blkA g2 9 #[.string ff], blkA g3 9 #[.string tt], blkA g6 4 #[.bool true], blkA g5 131 #[(.func (.func 64) #[] #[pt gx, pt gt])], blkA V.heap.size 66 #[.string f, .string t]] W)
    (fun bb r' n X Y h hX hf => ⟨h.1, h.2.1, h.2.2.1, h.2.2.2.1, h.2.2.2.2.firm hf hs0 (fun A hA => by
      simp only [List.mem_cons, List.not_mem_nil, or_false] at hA
      rcases hA with rfl | rfl | rfl | rfl | rfl | rfl <;> exact cel_blk _ _ _)⟩)
    (fun c X Y h hX hf => ⟨h.1, h.2.1, h.2.2.firm hf hs0 (fun A hA => by
      simp only [List.mem_cons, List.not_mem_nil, or_false] at hA
      rcases hA with rfl | rfl | rfl | rfl | rfl | rfl <;> exact cel_blk _ _ _)⟩)
    (fun bb r' n X h => ⟨by rw [h.1]; exact hTR.out X h.2.2.2.2, h.2.2.1⟩)
    r ⟨rfl, rfl, Nat.zero_le _, rfl, H4.out⟩ ?a1 ?assign ?body ?done ?stop
  case assign =>
    intro l x W K hK
    gi_wp2
    exact hK
  case body =>
    rintro l b' r' n xr W hsW ⟨rfl, rfl, hn, hfs, hh⟩ hx
    rw [up_next HS.out _ _ hn] at hx
    obtain ⟨hst, hlt⟩ := up_step hx
    have htk : (btw r' ff tt).take (n + 1) = (btw r' ff tt).take n ++ [xr] := by
      obtain ⟨h1, h2⟩ := List.getElem?_eq_some_iff.1 hx
      rw [List.take_succ_eq_append_getElem h1, h2]
    have hxm : xr ∈ r' := List.mem_of_mem_take (List.mem_of_mem_drop (List.mem_of_getElem? hx))
    have hxs := HZ.out xr hxm
    have hfi : hvRow f t (lateP x (t1, t2)) xr = true → o = true := fun hne => by
      rw [← HO.out]
      exact List.any_eq_true.2 ⟨xr, List.mem_of_getElem? hx, hne⟩
    have hnx : hvRow f t (lateP x (t1, t2)) xr = false → SeNoV f t x t1 t2 r' ff tt (n + 1) := fun hv => by
      unfold SeNoV
      rw [htk, List.any_append, show ((btw r' ff tt).take n).any (hvRow f t (lateP x (t1, t2))) = false from hfs]
      simp [hv]
    have hRV := fun W => readV_c xr.key W (by have := hxs.2.1; omega)
    have hTV := fun W => takeV_c xr.value W (by have := hxs.2.2; omega)
    have HST := Lib.hid hst
    have HLT := Lib.hid hlt
    clear hx hst htk hxs hn hlt hxm hfs
    obtain ⟨xk, xv⟩ := xr
    simp only at hRV hTV hfi hnx HST HLT
    cases hv1 : rdVK (sb xk) with
    | none =>
      rw [hv1] at hRV
      have hvr : hvRow f t (lateP x (t1, t2)) ⟨xk, xv⟩ = false := by unfold hvRow; simp only [hv1]
      obtain ⟨v, i, nn, hvf⟩ := ansV_form (tkV (sb xv))
      rw [hvf] at hTV
      have HTK := Lib.hid (hnx hvr)
      have HRV := Lib.hid (show ∀ W, Calls Tryz.prog 28 #[.string xk] W fun e w' => e = .returned (.tuple #[.string ⟨#[]⟩, sv 0 0, .int .i64 4]) ∧ Below W.heap.size W w' from hRV)
      have HTV := Lib.hid hTV
      clear hv1 hvf hvr hfi hnx hRV hTV
      gi_wp2_with (first
        | (refine ⟨trivial, ?_⟩; gi_at_call 28; refine ((callsIn_wide.2 (HRV.out _)).inRound l).mono ?_; rintro e w5 ⟨rfl, hb5⟩
           have h5 := hh.keep hb5
           have H6 := Lib.hid (h5.keep (nbl w5 (.cells #[.int .i64 0, .int .i64 0] 26)))
           have KF6 := Lib.hid (bsa hb5 (.cells #[.int .i64 0, .int .i64 0] 26))
           have b6 := Lib.hid (Blk.new w5 26 #[.int .i64 0, .int .i64 0])
           clear hb5 h5)
        | (refine ⟨trivial, ?_⟩; gi_at_call 29; refine ((callsIn_wide.2 (HTV.out _)).inRound l).mono ?_; rintro e w7 ⟨rfl, hb7⟩
           have h7 := H6.out.keep hb7
           have KF7 := Lib.hid (bst KF6.out hb7)
           have b7 := b6.out.below hb7 b6.out.lt
           have cs0 := b7.cell 0
           have cs1 := b7.cell 1
           simp at cs0 cs1
           have B7 := Lib.hid b7
           have ua1 := h7.blkAt (g := V.heap.size) (t := 66) (cs := #[.string f, .string t]) (by simp)
           have ua2 := h7.blkAt (g := g5) (t := 131) (cs := #[(.func (.func 64) #[] #[pt gx, pt gt])]) (by simp)
           have cf0 := ua1.cell 0
           have cf1 := ua1.cell 1
           simp at cf0 cf1
           have cg0 := ua2.cell 0
           simp at cg0
           clear ua1 ua2
           have ua3 := h7.blkAt (g := g6) (t := 4) (cs := #[.bool false]) (by simp)
           have ce0 := ua3.cell 0
           have fe0 := ua3.frozen 0
           simp at ce0
           clear ua3
           have H7 := Lib.hid h7
           clear hb7 b7 h7)
        | fail)
      refine ⟨trivial, ?_⟩
      gi_wp2_with fail
      refine ⟨fun _ _ => trivial, ?_⟩
      gi_wp2_with fail
      exact ⟨keeps_below KF7.out, HST.out, HLT.out, HTK.out, H7.out⟩
    | some q =>
      obtain ⟨s2, a2, b2⟩ := q
      rw [hv1] at hRV
      have HRV := Lib.hid (show ∀ W, Calls Tryz.prog 28 #[.string xk] W fun e w' => e = .returned (.tuple #[.string (bs s2), sv a2 b2, .int .i64 0]) ∧ Below W.heap.size W w' from hRV)
      cases hv2 : tkV (sb xv) with
      | none =>
        rw [hv2] at hTV
        have hvr : hvRow f t (lateP x (t1, t2)) ⟨xk, xv⟩ = false := by unfold hvRow; simp only [hv1, hv2]
        have HTK := Lib.hid (hnx hvr)
        have HTV := Lib.hid (show ∀ W, Calls Tryz.prog 29 #[.string xv] W fun e w' => e = .returned (.tuple #[.string ⟨#[]⟩, .bool false, .int .i64 4]) ∧ Below W.heap.size W w' from hTV)
        clear hv1 hv2 hvr hfi hnx hRV hTV
        gi_wp2_with (first
          | (refine ⟨trivial, ?_⟩; gi_at_call 28; refine ((callsIn_wide.2 (HRV.out _)).inRound l).mono ?_; rintro e w5 ⟨rfl, hb5⟩
             have h5 := hh.keep hb5
             have H6 := Lib.hid (h5.keep (nbl w5 (.cells #[.int .i64 a2, .int .i64 b2] 26)))
             have KF6 := Lib.hid (bsa hb5 (.cells #[.int .i64 a2, .int .i64 b2] 26))
             have b6 := Lib.hid (Blk.new w5 26 #[.int .i64 a2, .int .i64 b2])
             clear hb5 h5)
          | (refine ⟨trivial, ?_⟩; gi_at_call 29; refine ((callsIn_wide.2 (HTV.out _)).inRound l).mono ?_; rintro e w7 ⟨rfl, hb7⟩
             have h7 := H6.out.keep hb7
             have KF7 := Lib.hid (bst KF6.out hb7)
             have b7 := b6.out.below hb7 b6.out.lt
             have cs0 := b7.cell 0
             have cs1 := b7.cell 1
             simp at cs0 cs1
             have B7 := Lib.hid b7
             have ua1 := h7.blkAt (g := V.heap.size) (t := 66) (cs := #[.string f, .string t]) (by simp)
             have ua2 := h7.blkAt (g := g5) (t := 131) (cs := #[(.func (.func 64) #[] #[pt gx, pt gt])]) (by simp)
             have cf0 := ua1.cell 0
             have cf1 := ua1.cell 1
             simp at cf0 cf1
             have cg0 := ua2.cell 0
             simp at cg0
             clear ua1 ua2
             have ua3 := h7.blkAt (g := g6) (t := 4) (cs := #[.bool false]) (by simp)
             have ce0 := ua3.cell 0
             have fe0 := ua3.frozen 0
             simp at ce0
             clear ua3
             have H7 := Lib.hid h7
             clear hb7 b7 h7)
          | fail)
        refine ⟨trivial, ?_⟩
        gi_wp2_with fail
        refine ⟨fun _ _ => trivial, ?_⟩
        gi_wp2_with fail
        exact ⟨keeps_below KF7.out, HST.out, HLT.out, HTK.out, H7.out⟩
      | some q2 =>
        obtain ⟨v, i⟩ := q2
        rw [hv2] at hTV
        have HTV := Lib.hid (show ∀ W, Calls Tryz.prog 29 #[.string xv] W fun e w' => e = .returned (.tuple #[.string v, .bool i, .int .i64 0]) ∧ Below W.heap.size W w' from hTV)
        have hvr : hvRow f t (lateP x (t1, t2)) ⟨xk, xv⟩ = (isInP f t (bs s2) && lateP x (t1, t2) (a2, b2)) := by unfold hvRow; simp only [hv1, hv2]
        have HIS2 := Lib.hid (HIS.out (bs s2))
        have HCL2 := Lib.hid (fun W hW => HCL.out W hW a2 b2)
        generalize bs s2 = s2 at *
        clear hRV hTV hv1 hv2
        cases hi : isInP f t s2 with
        | false =>
          rw [hi] at HIS2
          have HTK := Lib.hid (hnx (by rw [hvr, hi]; rfl))
          clear hvr hfi hnx hi
          gi_wp2_with (first
            | (refine ⟨trivial, ?_⟩; gi_at_call 28; refine ((callsIn_wide.2 (HRV.out _)).inRound l).mono ?_; rintro e w5 ⟨rfl, hb5⟩
               have h5 := hh.keep hb5
               have H6 := Lib.hid (h5.keep (nbl w5 (.cells #[.int .i64 a2, .int .i64 b2] 26)))
               have KF6 := Lib.hid (bsa hb5 (.cells #[.int .i64 a2, .int .i64 b2] 26))
               have b6 := Lib.hid (Blk.new w5 26 #[.int .i64 a2, .int .i64 b2])
               clear hb5 h5)
            | (refine ⟨trivial, ?_⟩; gi_at_call 29; refine ((callsIn_wide.2 (HTV.out _)).inRound l).mono ?_; rintro e w7 ⟨rfl, hb7⟩
               have h7 := H6.out.keep hb7
               have KF7 := Lib.hid (bst KF6.out hb7)
               have b7 := b6.out.below hb7 b6.out.lt
               have cs0 := b7.cell 0
               have cs1 := b7.cell 1
               simp at cs0 cs1
               have B7 := Lib.hid b7
               have ua1 := h7.blkAt (g := V.heap.size) (t := 66) (cs := #[.string f, .string t]) (by simp)
               have ua2 := h7.blkAt (g := g5) (t := 131) (cs := #[(.func (.func 64) #[] #[pt gx, pt gt])]) (by simp)
               have cf0 := ua1.cell 0
               have cf1 := ua1.cell 1
               simp at cf0 cf1
               have cg0 := ua2.cell 0
               simp at cg0
               clear ua1 ua2
               have ua3 := h7.blkAt (g := g6) (t := 4) (cs := #[.bool false]) (by simp)
               have ce0 := ua3.cell 0
               have fe0 := ua3.frozen 0
               simp at ce0
               clear ua3
               have H7 := Lib.hid h7
               clear hb7 b7 h7)
            | (refine ⟨trivial, ?_⟩; gi_at_call 131; refine ((callsIn_wide.2 (HIS2.out _)).inRound l).mono ?_; rintro e w8 ⟨rfl, hb8⟩
               have h8 := H7.out.keep hb8
               have KF8 := Lib.hid (bst KF7.out hb8)
               have b8 := B7.out.below hb8 B7.out.lt
               have cs0 := b8.cell 0
               have cs1 := b8.cell 1
               simp at cs0 cs1
               have B8 := Lib.hid b8
               have ub1 := h8.blkAt (g := V.heap.size) (t := 66) (cs := #[.string f, .string t]) (by simp)
               have ub2 := h8.blkAt (g := g5) (t := 131) (cs := #[(.func (.func 64) #[] #[pt gx, pt gt])]) (by simp)
               have cf0 := ub1.cell 0
               have cf1 := ub1.cell 1
               simp at cf0 cf1
               have cg0 := ub2.cell 0
               simp at cg0
               clear ub1 ub2
               have ub3 := h8.blkAt (g := g6) (t := 4) (cs := #[.bool false]) (by simp)
               have ce0 := ub3.cell 0
               have fe0 := ub3.frozen 0
               simp at ce0
               clear ub3
               have H8 := Lib.hid h8
               clear hb8 b8 h8)
            | fail)
          refine ⟨fun _ _ => trivial, ?_⟩
          gi_wp2_with fail
          exact ⟨keeps_below KF8.out, HST.out, HLT.out, HTK.out, H8.out⟩
        | true =>
          rw [hi] at HIS2
          cases hl : lateP x (t1, t2) (a2, b2) with
          | false =>
            rw [hl] at HCL2
            have HTK := Lib.hid (hnx (by rw [hvr, hi, hl]; rfl))
            clear hvr hfi hnx hi hl
            gi_wp2_with (first
              | (refine ⟨trivial, ?_⟩; gi_at_call 28; refine ((callsIn_wide.2 (HRV.out _)).inRound l).mono ?_; rintro e w5 ⟨rfl, hb5⟩
                 have h5 := hh.keep hb5
                 have H6 := Lib.hid (h5.keep (nbl w5 (.cells #[.int .i64 a2, .int .i64 b2] 26)))
                 have KF6 := Lib.hid (bsa hb5 (.cells #[.int .i64 a2, .int .i64 b2] 26))
                 have b6 := Lib.hid (Blk.new w5 26 #[.int .i64 a2, .int .i64 b2])
                 clear hb5 h5)
              | (refine ⟨trivial, ?_⟩; gi_at_call 29; refine ((callsIn_wide.2 (HTV.out _)).inRound l).mono ?_; rintro e w7 ⟨rfl, hb7⟩
                 have h7 := H6.out.keep hb7
                 have KF7 := Lib.hid (bst KF6.out hb7)
                 have b7 := b6.out.below hb7 b6.out.lt
                 have cs0 := b7.cell 0
                 have cs1 := b7.cell 1
                 simp at cs0 cs1
                 have B7 := Lib.hid b7
                 have ua1 := h7.blkAt (g := V.heap.size) (t := 66) (cs := #[.string f, .string t]) (by simp)
                 have ua2 := h7.blkAt (g := g5) (t := 131) (cs := #[(.func (.func 64) #[] #[pt gx, pt gt])]) (by simp)
                 have cf0 := ua1.cell 0
                 have cf1 := ua1.cell 1
                 simp at cf0 cf1
                 have cg0 := ua2.cell 0
                 simp at cg0
                 clear ua1 ua2
                 have ua3 := h7.blkAt (g := g6) (t := 4) (cs := #[.bool false]) (by simp)
                 have ce0 := ua3.cell 0
                 have fe0 := ua3.frozen 0
                 simp at ce0
                 clear ua3
                 have H7 := Lib.hid h7
                 clear hb7 b7 h7)
              | (refine ⟨trivial, ?_⟩; gi_at_call 131; refine ((callsIn_wide.2 (HIS2.out _)).inRound l).mono ?_; rintro e w8 ⟨rfl, hb8⟩
                 have h8 := H7.out.keep hb8
                 have KF8 := Lib.hid (bst KF7.out hb8)
                 have b8 := B7.out.below hb8 B7.out.lt
                 have cs0 := b8.cell 0
                 have cs1 := b8.cell 1
                 simp at cs0 cs1
                 have B8 := Lib.hid b8
                 have ub1 := h8.blkAt (g := V.heap.size) (t := 66) (cs := #[.string f, .string t]) (by simp)
                 have ub2 := h8.blkAt (g := g5) (t := 131) (cs := #[(.func (.func 64) #[] #[pt gx, pt gt])]) (by simp)
                 have cf0 := ub1.cell 0
                 have cf1 := ub1.cell 1
                 simp at cf0 cf1
                 have cg0 := ub2.cell 0
                 simp at cg0
                 clear ub1 ub2
                 have ub3 := h8.blkAt (g := g6) (t := 4) (cs := #[.bool false]) (by simp)
                 have ce0 := ub3.cell 0
                 have fe0 := ub3.frozen 0
                 simp at ce0
                 clear ub3
                 have H8 := Lib.hid h8
                 clear hb8 b8 h8)
              | ((first | refine ⟨trivial, ?_⟩ | refine ⟨fun _ _ => trivial, ?_⟩); gi_at_call 64; refine ((callsIn_wide.2 (HCL2.out _ H8.out.bel)).inRound l).mono ?_; rintro e w9 ⟨rfl, hb9⟩
                 have h9 := H8.out.keep hb9
                 have KF9 := Lib.hid (bst KF8.out hb9)
                 have uc1 := h9.blkAt (g := V.heap.size) (t := 66) (cs := #[.string f, .string t]) (by simp)
                 have uc2 := h9.blkAt (g := g5) (t := 131) (cs := #[(.func (.func 64) #[] #[pt gx, pt gt])]) (by simp)
                 have cf0 := uc1.cell 0
                 have cf1 := uc1.cell 1
                 simp at cf0 cf1
                 have cg0 := uc2.cell 0
                 simp at cg0
                 clear uc1 uc2
                 have uc3 := h9.blkAt (g := g6) (t := 4) (cs := #[.bool false]) (by simp)
                 have ce0 := uc3.cell 0
                 have fe0 := uc3.frozen 0
                 simp at ce0
                 clear uc3
                 have H9 := Lib.hid h9
                 clear hb9 h9)
              | fail)
            exact ⟨keeps_below KF9.out, HST.out, HLT.out, HTK.out, H9.out⟩
          | true =>
            rw [hl] at HCL2
            have HFI := Lib.hid (hfi (by rw [hvr, hi, hl]; rfl))
            clear hvr hfi hnx hi hl
            gi_wp2_with (first
              | (refine ⟨trivial, ?_⟩; gi_at_call 28; refine ((callsIn_wide.2 (HRV.out _)).inRound l).mono ?_; rintro e w5 ⟨rfl, hb5⟩
                 have h5 := hh.keep hb5
                 have H6 := Lib.hid (h5.keep (nbl w5 (.cells #[.int .i64 a2, .int .i64 b2] 26)))
                 have KF6 := Lib.hid (bsa hb5 (.cells #[.int .i64 a2, .int .i64 b2] 26))
                 have b6 := Lib.hid (Blk.new w5 26 #[.int .i64 a2, .int .i64 b2])
                 clear hb5 h5)
              | (refine ⟨trivial, ?_⟩; gi_at_call 29; refine ((callsIn_wide.2 (HTV.out _)).inRound l).mono ?_; rintro e w7 ⟨rfl, hb7⟩
                 have h7 := H6.out.keep hb7
                 have KF7 := Lib.hid (bst KF6.out hb7)
                 have b7 := b6.out.below hb7 b6.out.lt
                 have cs0 := b7.cell 0
                 have cs1 := b7.cell 1
                 simp at cs0 cs1
                 have B7 := Lib.hid b7
                 have ua1 := h7.blkAt (g := V.heap.size) (t := 66) (cs := #[.string f, .string t]) (by simp)
                 have ua2 := h7.blkAt (g := g5) (t := 131) (cs := #[(.func (.func 64) #[] #[pt gx, pt gt])]) (by simp)
                 have cf0 := ua1.cell 0
                 have cf1 := ua1.cell 1
                 simp at cf0 cf1
                 have cg0 := ua2.cell 0
                 simp at cg0
                 clear ua1 ua2
                 have ua3 := h7.blkAt (g := g6) (t := 4) (cs := #[.bool false]) (by simp)
                 have ce0 := ua3.cell 0
                 have fe0 := ua3.frozen 0
                 simp at ce0
                 clear ua3
                 have H7 := Lib.hid h7
                 clear hb7 b7 h7)
              | (refine ⟨trivial, ?_⟩; gi_at_call 131; refine ((callsIn_wide.2 (HIS2.out _)).inRound l).mono ?_; rintro e w8 ⟨rfl, hb8⟩
                 have h8 := H7.out.keep hb8
                 have KF8 := Lib.hid (bst KF7.out hb8)
                 have b8 := B7.out.below hb8 B7.out.lt
                 have cs0 := b8.cell 0
                 have cs1 := b8.cell 1
                 simp at cs0 cs1
                 have B8 := Lib.hid b8
                 have ub1 := h8.blkAt (g := V.heap.size) (t := 66) (cs := #[.string f, .string t]) (by simp)
                 have ub2 := h8.blkAt (g := g5) (t := 131) (cs := #[(.func (.func 64) #[] #[pt gx, pt gt])]) (by simp)
                 have cf0 := ub1.cell 0
                 have cf1 := ub1.cell 1
                 simp at cf0 cf1
                 have cg0 := ub2.cell 0
                 simp at cg0
                 clear ub1 ub2
                 have ub3 := h8.blkAt (g := g6) (t := 4) (cs := #[.bool false]) (by simp)
                 have ce0 := ub3.cell 0
                 have fe0 := ub3.frozen 0
                 simp at ce0
                 clear ub3
                 have H8 := Lib.hid h8
                 clear hb8 b8 h8)
              | ((first | refine ⟨trivial, ?_⟩ | refine ⟨fun _ _ => trivial, ?_⟩); gi_at_call 64; refine ((callsIn_wide.2 (HCL2.out _ H8.out.bel)).inRound l).mono ?_; rintro e w9 ⟨rfl, hb9⟩
                 have h9 := H8.out.keep hb9
                 have KF9 := Lib.hid (bst KF8.out hb9)
                 have uc1 := h9.blkAt (g := V.heap.size) (t := 66) (cs := #[.string f, .string t]) (by simp)
                 have uc2 := h9.blkAt (g := g5) (t := 131) (cs := #[(.func (.func 64) #[] #[pt gx, pt gt])]) (by simp)
                 have cf0 := uc1.cell 0
                 have cf1 := uc1.cell 1
                 simp at cf0 cf1
                 have cg0 := uc2.cell 0
                 simp at cg0
                 clear uc1 uc2
                 have uc3 := h9.blkAt (g := g6) (t := 4) (cs := #[.bool false]) (by simp)
                 have ce0 := uc3.cell 0
                 have fe0 := uc3.frozen 0
                 simp at ce0
                 clear uc3
                 have H9 := Lib.hid h9
                 clear hb9 h9)
              | fail)
            have hp := H9.out.perm (List.perm_middle (l₁ := [_, _, _]))
            have hb := hp.blk.1
            have hq := hp.setBlk 0 (.bool true)
            have hkf := (keeps_below (n := W0.heap.size) KF9.out).trans (pk_from_put (i := 0) (u := .bool true) hb)
            exact ⟨hkf, rfl, HFI.out, (show Has V [blkA g6 4 #[.bool true], blkA g1 32 #[pt p], blkA g2 9 #[.string ff], blkA g3 9 #[.string tt], blkA g5 131 #[(.func (.func 64) #[] #[pt gx, pt gt])], blkA V.heap.size 66 #[.string f, .string t]] _ from hq).perm (List.perm_middle (l₁ := [_, _, _])).symm⟩
  case done =>
    rintro D b' r' n W hD hsW hno ⟨rfl, rfl, hn, hfs, hh⟩ hK
    rw [up_next HS.out _ _ hn, List.getElem?_eq_none_iff] at hno
    have hoN : o = false := by rw [← HO.out, ← (show ((btw r' ff tt).take n).any (hvRow f t (lateP x (t1, t2))) = false from hfs), List.take_of_length_le hno]
    subst hoN
    have hp := hh.perm (List.perm_middle (l₁ := [_, _, _]))
    have hb := hp.blk.1
    have ce0 := hb.cell 0
    have fe0 := hb.frozen 0
    simp at ce0
    have HP := Lib.hid hp
    have HB := Lib.hid hb
    clear hh hno hp hb
    go_wp2_with fail
    have hne : D ≠ g6 := by
      rintro rfl
      have := HB.out
      unfold Blk at this
      rw [hK] at this
      cases this
    have hK2 := (heap_set_ne (i := 0) (u := .bool false) (W := W) hne).trans hK
    have hq : Has V [blkA g6 4 #[.bool false], blkA g1 32 #[pt p], blkA g2 9 #[.string ff], blkA g3 9 #[.string tt], blkA g5 131 #[(.func (.func 64) #[] #[pt gx, pt gt])], blkA V.heap.size 66 #[.string f, .string t]] _ := HP.out.setBlk 0 (.bool false)
    refine ⟨by simp, .inl ⟨_, _, rfl, run_takeDeferred hK2, ?_⟩⟩
    have hfin := hq.firm (.put (B := V.heap.size) D (.deferred none) (by omega) hK2 rfl) (Nat.le_refl _) (fun A hA => by
      simp only [List.mem_cons, List.not_mem_nil, or_false] at hA
      rcases hA with rfl | rfl | rfl | rfl | rfl | rfl <;> exact cel_blk _ _ _)
    exact ⟨_, results_b rfl rfl (hfin.blkAt (g := g6) (t := 4) (cs := #[.bool false]) (by simp)), rfl, hfin.bel⟩
  case stop =>
    rintro D c W hD hsW ⟨rfl, rfl, hh⟩ hK
    go_wp2_with fail
    refine ⟨by simp, .inl ⟨_, _, rfl, run_takeDeferred hK, ?_⟩⟩
    have hf : Firm V.heap.size W (W.putObj D (.deferred none)) := .put D _ (by omega) hK rfl
    have hfin := hh.firm hf (Nat.le_refl _) (fun A hA => by
      simp only [List.mem_cons, List.not_mem_nil, or_false] at hA
      rcases hA with rfl | rfl | rfl | rfl | rfl | rfl <;> exact cel_blk _ _ _)
    exact ⟨_, results_b rfl rfl (hfin.blkAt (g := g6) (t := 4) (cs := #[.bool true]) (by simp)), rfl, hfin.bel⟩
end Go.Proofs.YtldbmogondmgmaaGreatDoor
