/-
  Layer 14, the code: which intent came to a span first (written by wip/genser.py).
-/
import Derived.Test.YtldbmogondmgmaaGreatDoorSSSeHasV
set_option linter.unusedVariables false
set_option linter.unusedSimpArgs false
set_option maxRecDepth 100000
namespace Go.Proofs.YtldbmogondmgmaaGreatDoor
open Go.RowKit Go.Shelf
attribute [local go_sem] Oper.semAt_some

theorem Has.all9s {w V : World} {l : List As} {g : Nat} {t : TypeId} {c0 c1 c2 c3 c4 c5 c6 c7 c8 v0 v1 v2 v3 v4 v5 v6 v7 v8 : Value} (h : Has w (blkA g t #[c0, c1, c2, c3, c4, c5, c6, c7, c8] :: l) V) : Has w (blkA g t #[v0, v1, v2, v3, v4, v5, v6, v7, v8] :: l) (((((((((V.setCell ⟨g, 0, none⟩ v0).setCell ⟨g, 1, none⟩ v1).setCell ⟨g, 2, none⟩ v2).setCell ⟨g, 3, none⟩ v3).setCell ⟨g, 4, none⟩ v4).setCell ⟨g, 5, none⟩ v5).setCell ⟨g, 6, none⟩ v6).setCell ⟨g, 7, none⟩ v7).setCell ⟨g, 8, none⟩ v8) := by
  have := (((((((((h.setBlk 0 v0).setBlk 1 v1).setBlk 2 v2).setBlk 3 v3).setBlk 4 v4).setBlk 5 v5).setBlk 6 v6).setBlk 7 v7).setBlk 8 v8)
  simpa using this
theorem se_from9 {B g : Nat} {t : TypeId} {cs : Array Value} {W : World} {v0 v1 v2 v3 v4 v5 v6 v7 v8 : Value} (h : Blk W g t cs) : KeepsFrom B W (((((((((W.setCell ⟨g, 0, none⟩ v0).setCell ⟨g, 1, none⟩ v1).setCell ⟨g, 2, none⟩ v2).setCell ⟨g, 3, none⟩ v3).setCell ⟨g, 4, none⟩ v4).setCell ⟨g, 5, none⟩ v5).setCell ⟨g, 6, none⟩ v6).setCell ⟨g, 7, none⟩ v7).setCell ⟨g, 8, none⟩ v8) := by
  have b0 := h
  have k0 := KeepsFrom.refl B W
  have k1 := k0.trans (pk_from_put (i := 0) (u := v0) b0)
  have b1 := b0.set_ 0 v0
  have k2 := k1.trans (pk_from_put (i := 1) (u := v1) b1)
  have b2 := b1.set_ 1 v1
  have k3 := k2.trans (pk_from_put (i := 2) (u := v2) b2)
  have b3 := b2.set_ 2 v2
  have k4 := k3.trans (pk_from_put (i := 3) (u := v3) b3)
  have b4 := b3.set_ 3 v3
  have k5 := k4.trans (pk_from_put (i := 4) (u := v4) b4)
  have b5 := b4.set_ 4 v4
  have k6 := k5.trans (pk_from_put (i := 5) (u := v5) b5)
  have b6 := b5.set_ 5 v5
  have k7 := k6.trans (pk_from_put (i := 6) (u := v6) b6)
  have b7 := b6.set_ 6 v6
  have k8 := k7.trans (pk_from_put (i := 7) (u := v7) b7)
  have b8 := b7.set_ 7 v7
  have k9 := k8.trans (pk_from_put (i := 8) (u := v8) b8)
  exact k9
theorem se_heap9 {W : World} {g D : Nat} {v0 v1 v2 v3 v4 v5 v6 v7 v8 : Value} {o : Obj} (hne : D ≠ g) (hK : W.heap[D]? = some o) : (((((((((W.setCell ⟨g, 0, none⟩ v0).setCell ⟨g, 1, none⟩ v1).setCell ⟨g, 2, none⟩ v2).setCell ⟨g, 3, none⟩ v3).setCell ⟨g, 4, none⟩ v4).setCell ⟨g, 5, none⟩ v5).setCell ⟨g, 6, none⟩ v6).setCell ⟨g, 7, none⟩ v7).setCell ⟨g, 8, none⟩ v8).heap[D]? = some o := by
  simp only [heap_set_ne hne]
  exact hK
theorem bl_no (b : Bool) : ∀ o q s d, (#[Value.bool b] : Array Value)[o]? = some (.int .i64 q) → (#[Value.bool b] : Array Value)[o + 1]? = some (.string s) → (#[Value.bool b] : Array Value)[o + 2]? = some (.bool d) → False := by
  intro o q s d h1 _ _
  match o with
  | 0 => simp at h1
  | n + 1 => simp at h1
theorem ChAt.firm {B : Nat} {w w' : World} {A : Option Addr} {n : Nat} {l : List Ch} (h : ChAt w A n l) (hf : Firm B w w') : ChAt w' A n l := h.keep fun _ _ _ _ hv => hf.cell hv
theorem seAnsI_two (o : Option It) : ∃ (x : It) (k : Int), ∀ w e w', AnsI o w e w' → ∃ A n c, e = .returned (.tuple #[itv x (.slice A n c), .int .i64 k]) := by
  cases o with
  | none => exact ⟨zI, 4, fun _ _ _ h => ⟨none, 0, 0, h⟩⟩
  | some x => exact ⟨x, 0, fun _ _ _ h => by obtain ⟨A, n, c, h, _⟩ := h; exact ⟨A, n, c, h⟩⟩
theorem results_ib {fn : Func} {tmps : Array Value} {w : World} {p q : Tmp} {g k : Nat} {cs : Array Value} {v : Value} (hr : fn.results = #[.cell p 39, .cell q 4]) (hp : tmps.getD p undef = .pointer (some ⟨g, 0, none⟩)) (hq : tmps.getD q undef = .pointer (some ⟨k, 0, none⟩))
    (hB : Blk w g 39 cs) (hs : cs.size = 9) (hK : Blk w k 4 #[v]) : (results fn tmps).run Tryz.prog w = .ok (.tuple #[.agg cs, v]) w := by
  have hp' : tmps[p]?.getD undef = .pointer (some ⟨g, 0, none⟩) := by simpa using hp
  have hq' : tmps[q]?.getD undef = .pointer (some ⟨k, 0, none⟩) := by simpa using hq
  have hc := hK.cell 0
  simp at hc
  have h1 := run_loadVar_row (P := Tryz.prog) w g 39 39 cs (0, 0) _ hB Tryz.underlying39 rfl (by rw [hs]; kernel_rfl)
  have h2 : (loadVar 4 ⟨k, 0, none⟩).run Tryz.prog w = .ok v w := by simp [go_sem, loadVar, hc]
  simp [results, hr, hp', hq', asAddr, h1, h2]
theorem readIntent_bad (k : ByteArray) (w : World) (hk : k.size ≤ 150000000000000) (s r : List UInt8) (hr : rk 105 (sb k) = some (s, r)) (hne : r ≠ []) :
    Calls Tryz.prog 132 #[.string k] w fun e w' => e = str2 [] 4 ∧ Below w.heap.size w w' := by
  have HC := Lib.hid (readKey_c 105 k w hk)
  rw [hr] at HC
  have hte : r.isEmpty = false := by
    cases r with
    | nil => exact absurd rfl hne
    | cons a l => rfl
  clear hr hne
  go_enter Tryz.func132, Tryz.ntmps132
  go_wp2_with (go_at_call 86; refine HC.out.mono ?_; rintro e w1 ⟨rfl, hb1⟩; unfold rkA; simp only)
  go_ret2
  exact ⟨rfl, hb1⟩
def AnsRI (o : Option (List UInt8)) : Ending := match o with | none => str2 [] 4 | some s => str2 s 0
theorem readI_c (k : ByteArray) (w : World) (hk : k.size ≤ 150000000000000) :
    Calls Tryz.prog 132 #[.string k] w fun e w' => e = AnsRI (rdIK (sb k)) ∧ Below w.heap.size w w' := by
  unfold rdIK
  cases hr : rk 105 (sb k) with
  | none => exact readIntent_no k w hk hr
  | some p =>
    obtain ⟨s, r⟩ := p
    cases r with
    | nil => exact readIntent_c k w hk s hr
    | cons a l => exact readIntent_bad k w hk s (a :: l) hr (by simp)
def SeNoI (f t : ByteArray) (x : Tx) (t1 t2 : Int) (r : List Rw) (ff tt : ByteArray) (n : Nat) : Prop := ((btw r ff tt).take n).findSome? (fiRow f t (wayP x (t1, t2))) = none
set_option maxHeartbeats 8000000 in
theorem seFst {V : World} {p : Nat} {r : List Rw} {F : Nat → Prop} (h : (tbA p r).p V F) (hz : Szs r) (hM : MaxL V) (f t : ByteArray) (hfs : f.size ≤ 9223372036854775807) (hts : t.size ≤ 9223372036854775807) (x : Tx) (t1 t2 : Int) (gx gt : Nat) (hX : Blk V gx 28 (txc x)) (hT : Blk V gt 26 #[.int .i64 t1, .int .i64 t2]) :
    Calls Tryz.prog 65 #[pt p, .agg #[.string f, .string t], (.func (.func 66) #[] #[pt gx, pt gt])] V fun e w' => AnsT (fstIP r f t (wayP x (t1, t2))) e w' ∧ Below V.heap.size V w' := by
  have hsor := tbA_sor h
  have HEN := Lib.hid (seEnds f t hfs hts)
  have HK1 := Lib.hid (fun W (hW : Below V.heap.size V W) => seIKey (endK f) (endK_is f) W (hM.below hW))
  have HK2 := Lib.hid (fun W (hW : Below V.heap.size V W) => seIKey (endK t) (endK_is t) W (hM.below hW))
  have hle : (bs (ikey (sb (endK t)))).size ≤ 1000 := by
    have h1 := okey_sz (endK_is t)
    rw [bs_size]
    unfold ikey
    simp only [List.length_cons]
    omega
  unfold fstIP irows zr
  generalize (bs (ikey (sb (endK f)))) = ff at *
  generalize (bs (ikey (sb (endK t)))) = tk at *
  have hsz : ¬ 9223372036854775807 < tk.size + (⟨#[0]⟩ : ByteArray).size := by
    have : (⟨#[0]⟩ : ByteArray).size = 1 := rfl
    omega
  obtain ⟨tt, htt⟩ : ∃ tt, tk ++ ⟨#[0]⟩ = tt := ⟨_, rfl⟩
  rw [htt]
  obtain ⟨o, ho⟩ : ∃ o, (btw r ff tt).findSome? (fiRow f t (wayP x (t1, t2))) = o := ⟨_, rfl⟩
  rw [ho]
  have HO := Lib.hid ho
  have H := Lib.hid h
  have HZ := Lib.hid hz
  have HS := Lib.hid hsor
  have HTT := Lib.hid htt
  have HIS := Lib.hid (fun k W => seIsIn f t k W)
  have HCL := Lib.hid (fun W (hW : Below V.heap.size V W) y v => seWay x t1 t2 gx gt y v W (hX.below hW hX.lt) (hT.below hW hT.lt))
  have h0 := (((((Has.nil (Below.refl V.heap.size V)).newBlk 66 #[.string f, .string t]).newBlk 134 #[(.func (.func 66) #[] #[pt gx, pt gt])]).newBlk 39 (itc zI (.slice none 0 0))).newBlk 4 #[.bool false])
  have hz1 : (V.alloc (.cells #[.string f, .string t] 66)).heap.size = V.heap.size + 1 := World.size_alloc _ _
  have hz2 : ((V.alloc (.cells #[.string f, .string t] 66)).alloc (.cells #[(.func (.func 66) #[] #[pt gx, pt gt])] 134)).heap.size = V.heap.size + 1 + 1 := (World.size_alloc _ _).trans (by rw [hz1])
  have hz3 : (((V.alloc (.cells #[.string f, .string t] 66)).alloc (.cells #[(.func (.func 66) #[] #[pt gx, pt gt])] 134)).alloc (.cells (itc zI (.slice none 0 0)) 39)).heap.size = V.heap.size + 1 + 1 + 1 := (World.size_alloc _ _).trans (by rw [hz2])
  rw [hz3, hz2, hz1] at h0
  have H0 := Lib.hid h0
  clear h hz hsor ho hM h0 hz1 hz2 hz3 hX hT htt hle
  refine (callsIn_wide (n := 3)).1 (callsIn_of_wp_marks Tryz.func65 rfl trivial (wpIn_wide.2 ?_) rfl)
  simp only [Tryz.ntmps65, List.size_toArray, List.length_cons, List.length_nil, Nat.reduceAdd, Nat.reduceSub, Array.replicate_succ, Array.replicate_zero, List.push_toArray, List.append_toArray, List.nil_append, List.cons_append]
  go_wp2_with (first
    | (go_at_call 129; refine (HEN.out _).mono ?_; rintro e w1 ⟨rfl, hb1⟩; have H1 := Lib.hid (H0.out.keep hb1); clear hb1)
    | (go_at_call 13; with_reducible refine (HK1.out _ H1.out.bel).mono ?_; rintro e w2 ⟨rfl, hb2⟩; have H2 := Lib.hid (H1.out.keep hb2); clear hb2)
    | (go_at_call 13; with_reducible refine (HK2.out _ H2.out.bel).mono ?_; rintro e w3 ⟨rfl, hb3⟩; have H3 := Lib.hid (H2.out.keep hb3); clear hb3)
    | (go_at_call 55; rw [HTT.out]; refine (Has.tbAll H3.out p ff tt).mono ?_; rintro e W0 ⟨g1, g2, g3, rfl, h4⟩; have H4 := Lib.hid h4; clear h4))
  have h67 : V.heap.size + 1 + 1 ≠ V.heap.size + 1 + 1 + 1 := by omega
  have h76 : V.heap.size + 1 + 1 + 1 ≠ V.heap.size + 1 + 1 := by omega
  generalize V.heap.size + 1 + 1 + 1 = g7 at *
  generalize V.heap.size + 1 + 1 = g6 at *
  generalize V.heap.size + 1 = g5 at *
  have H4 := Lib.hid (show Has V [blkA g1 32 #[pt p], blkA g2 9 #[.string ff], blkA g3 9 #[.string tt], blkA g6 39 (itc zI (.slice none 0 0)), blkA g7 4 #[.bool false], blkA g5 134 #[(.func (.func 66) #[] #[pt gx, pt gt])], blkA V.heap.size 66 #[.string f, .string t]] W0 from (H4.out.perm (List.Perm.append_left [_, _, _] (List.Perm.swap _ _ _))))
  clear H3 H2 H1 H0 HK1 HK2 HEN HTT hsz
  have hs0 := H4.out.size
  have hTR := Lib.hid (fun W (hh : Has V [blkA g1 32 #[pt p], blkA g2 9 #[.string ff], blkA g3 9 #[.string tt], blkA g6 39 (itc zI (.slice none 0 0)), blkA g7 4 #[.bool false], blkA g5 134 #[(.func (.func 66) #[] #[pt gx, pt gt])], blkA V.heap.size 66 #[.string f, .string t]] W) => (show TRD p g1 g2 g3 ff tt r W from
    ⟨⟨F, tbA_below H.out hh.bel⟩, HZ.out, hh.blkAt (by simp), hh.blkAt (by simp), hh.blkAt (by simp)⟩))
  refine wp_tours (P := Tryz.prog) rfl (fun _ _ => rfl) (tb_all_tours p g1 g2 g3 ff tt) rfl (btw r ff tt).length
    (fun bb r' n W => r' = r ∧ bb = upAt r ff tt n ∧ n ≤ (btw r ff tt).length ∧ SeNoI f t x t1 t2 r ff tt n ∧ Has V [blkA g1 32 #[pt p], blkA g2 9 #[.string ff], blkA g3 9 #[.string tt], blkA g6 39 (itc zI (.slice none 0 0)), blkA g7 4 #[.bool false], blkA g5 134 #[(.func (.func 66) #[] #[pt gx, pt gt])], blkA V.heap.size 66 #[.string f, .string t]] W)
    (fun cc W => cc = .ret ∧ ∃ y A n c, o = some y ∧ Has V [blkA g1 32 #[pt p], blkA g2 9 #[.string ff], blkA g3 9 #[.string tt], blkA g6 39 (itc y (.slice A n c)), blkA g7 4 #[.bool true], blkA g5 134 #[(.func (.func 66) #[] #[pt gx, pt gt])], blkA V.heap.size 66 #[.string f, .string t]] W ∧ ChAt W A n y.l ∧ n ≤ 9223372036854775807)
    (fun bb r' n X Y h hX hf => ⟨h.1, h.2.1, h.2.2.1, h.2.2.2.1, h.2.2.2.2.firm hf hs0 (fun A hA => by
      simp only [List.mem_cons, List.not_mem_nil, or_false] at hA
      rcases hA with rfl | rfl | rfl | rfl | rfl | rfl | rfl <;> exact cel_blk _ _ _)⟩)
    (fun cc X Y h hX hf => by
      obtain ⟨h1, y, A, n, c, h2, h3, h4, h5⟩ := h
      exact ⟨h1, y, A, n, c, h2, h3.firm hf hs0 (fun A hA => by
      simp only [List.mem_cons, List.not_mem_nil, or_false] at hA
      rcases hA with rfl | rfl | rfl | rfl | rfl | rfl | rfl <;> exact cel_blk _ _ _), h4.firm hf, h5⟩)
    (fun bb r' n X h => ⟨by rw [h.1]; exact hTR.out X h.2.2.2.2, h.2.2.1⟩)
    r ⟨rfl, rfl, Nat.zero_le _, rfl, H4.out⟩ ?a1 ?assign ?body ?done ?stop
  case assign =>
    intro l x W K hK
    gi_wp2
    exact hK
  case body =>
    rintro l b' r' n xr W hsW ⟨rfl, rfl, hn, hfs, hh⟩ hx
    rw [up_next HS.out _ _ hn] at hx
    obtain ⟨hst, hlt⟩ := up_step hx
    have htk : (btw r' ff tt).take (n + 1) = (btw r' ff tt).take n ++ [xr] := by
      obtain ⟨h1, h2⟩ := List.getElem?_eq_some_iff.1 hx
      rw [List.take_succ_eq_append_getElem h1, h2]
    have hxm : xr ∈ r' := List.mem_of_mem_take (List.mem_of_mem_drop (List.mem_of_getElem? hx))
    have hxs := HZ.out xr hxm
    have hfi : fiRow f t (wayP x (t1, t2)) xr ≠ none → o = fiRow f t (wayP x (t1, t2)) xr := fun hne => by
      rw [← HO.out, ← List.take_append_drop (n + 1) (btw r' ff tt), htk, List.findSome?_append, List.findSome?_append, show ((btw r' ff tt).take n).findSome? (fiRow f t (wayP x (t1, t2))) = none from hfs]
      cases hv : fiRow f t (wayP x (t1, t2)) xr with
      | none => exact absurd hv hne
      | some u => simp [hv]
    have hnx : fiRow f t (wayP x (t1, t2)) xr = none → SeNoI f t x t1 t2 r' ff tt (n + 1) := fun hv => by
      unfold SeNoI
      rw [htk, List.findSome?_append, show ((btw r' ff tt).take n).findSome? (fiRow f t (wayP x (t1, t2))) = none from hfs]
      simp [hv]
    have hRV := fun W => readI_c xr.key W (by have := hxs.2.1; omega)
    have hTV := fun W => takeI_c xr.value W (by have := hxs.2.2; omega)
    have HST := Lib.hid hst
    have HLT := Lib.hid hlt
    clear hx hst htk hxs hn hlt hxm hfs
    obtain ⟨xk, xv⟩ := xr
    simp only at hRV hTV hfi hnx HST HLT
    cases hv1 : rdIK (sb xk) with
    | none =>
      rw [hv1] at hRV
      have hvr : fiRow f t (wayP x (t1, t2)) ⟨xk, xv⟩ = none := by unfold fiRow; simp only [hv1]
      obtain ⟨y, kk, hvf⟩ := seAnsI_two (tkI (sb xv))
      have HT2 := Lib.hid hvf
      have HTK := Lib.hid (hnx hvr)
      have HRV := Lib.hid (show ∀ W, Calls Tryz.prog 132 #[.string xk] W fun e w' => e = .returned (.tuple #[.string ⟨#[]⟩, .int .i64 4]) ∧ Below W.heap.size W w' from hRV)
      have HTV := Lib.hid hTV
      clear hv1 hvf hvr hfi hnx hRV hTV
      gi_wp2_with (first
        | (refine ⟨trivial, ?_⟩; gi_at_call 132; refine ((callsIn_wide.2 (HRV.out _)).inRound l).mono ?_; rintro e w5 ⟨rfl, hb5⟩
           have H6 := Lib.hid (hh.keep hb5)
           have KF6 := Lib.hid hb5
           clear hb5)
        | (refine ⟨trivial, ?_⟩; gi_at_call 15; refine ((callsIn_wide.2 (HTV.out _)).inRound l).mono ?_; rintro e w7 ⟨hq, hb7⟩; obtain ⟨A2, n2, c2, rfl⟩ := HT2.out _ _ _ hq
           have h7 := H6.out.keep (bsa hb7 (.cells (itc y (.slice A2 n2 c2)) 39))
           have KF7 := Lib.hid (bst KF6.out (bsa hb7 (.cells (itc y (.slice A2 n2 c2)) 39)))
           have B7 := Lib.hid (Blk.new w7 39 (itc y (.slice A2 n2 c2)))
           have ua1 := h7.blkAt (g := V.heap.size) (t := 66) (cs := #[.string f, .string t]) (by simp)
           have ua2 := h7.blkAt (g := g5) (t := 134) (cs := #[(.func (.func 66) #[] #[pt gx, pt gt])]) (by simp)
           have cf0 := ua1.cell 0
           have cf1 := ua1.cell 1
           simp at cf0 cf1
           have cg0 := ua2.cell 0
           simp at cg0
           clear ua1 ua2
           have ua3 := h7.blkAt (g := g6) (t := 39) (cs := (itc zI (.slice none 0 0))) (by simp)
           have ua4 := h7.blkAt (g := g7) (t := 4) (cs := #[.bool false]) (by simp)
           have ci0 := ua3.cell 0
           have fi0 := ua3.frozen 0
           have ci1 := ua3.cell 1
           have fi1 := ua3.frozen 1
           have ci2 := ua3.cell 2
           have fi2 := ua3.frozen 2
           have ci3 := ua3.cell 3
           have fi3 := ua3.frozen 3
           have ci4 := ua3.cell 4
           have fi4 := ua3.frozen 4
           have ci5 := ua3.cell 5
           have fi5 := ua3.frozen 5
           have ci6 := ua3.cell 6
           have fi6 := ua3.frozen 6
           have ci7 := ua3.cell 7
           have fi7 := ua3.frozen 7
           have ci8 := ua3.cell 8
           have fi8 := ua3.frozen 8
           simp at ci0 ci1 ci2 ci3 ci4 ci5 ci6 ci7 ci8
           have ce0 := ua4.cell 0
           have fe0 := ua4.frozen 0
           simp at ce0
           clear ua3 ua4
           have H7 := Lib.hid h7
           clear hb7 h7)
        | fail)
      refine ⟨trivial, ?_⟩
      gi_wp2_with fail
      refine ⟨fun _ _ => trivial, ?_⟩
      gi_wp2_with fail
      exact ⟨keeps_below KF7.out, HST.out, HLT.out, HTK.out, H7.out⟩
    | some s2 =>
      rw [hv1] at hRV
      have HRV := Lib.hid (show ∀ W, Calls Tryz.prog 132 #[.string xk] W fun e w' => e = .returned (.tuple #[.string (bs s2), .int .i64 0]) ∧ Below W.heap.size W w' from hRV)
      cases hv2 : tkI (sb xv) with
      | none =>
        rw [hv2] at hTV
        have hvr : fiRow f t (wayP x (t1, t2)) ⟨xk, xv⟩ = none := by unfold fiRow; simp only [hv1, hv2]
        have HTK := Lib.hid (hnx hvr)
        have HTV := Lib.hid (show ∀ W, Calls Tryz.prog 15 #[.string xv] W fun e w' => e = .returned (.tuple #[itv zI (.slice none 0 0), .int .i64 4]) ∧ Below W.heap.size W w' from hTV)
        clear hv1 hv2 hvr hfi hnx hRV hTV
        gi_wp2_with (first
          | (refine ⟨trivial, ?_⟩; gi_at_call 132; refine ((callsIn_wide.2 (HRV.out _)).inRound l).mono ?_; rintro e w5 ⟨rfl, hb5⟩
             have H6 := Lib.hid (hh.keep hb5)
             have KF6 := Lib.hid hb5
             clear hb5)
          | (refine ⟨trivial, ?_⟩; gi_at_call 15; refine ((callsIn_wide.2 (HTV.out _)).inRound l).mono ?_; rintro e w7 ⟨rfl, hb7⟩
             have h7 := H6.out.keep (bsa hb7 (.cells (itc zI (.slice none 0 0)) 39))
             have KF7 := Lib.hid (bst KF6.out (bsa hb7 (.cells (itc zI (.slice none 0 0)) 39)))
             have B7 := Lib.hid (Blk.new w7 39 (itc zI (.slice none 0 0)))
             have ua1 := h7.blkAt (g := V.heap.size) (t := 66) (cs := #[.string f, .string t]) (by simp)
             have ua2 := h7.blkAt (g := g5) (t := 134) (cs := #[(.func (.func 66) #[] #[pt gx, pt gt])]) (by simp)
             have cf0 := ua1.cell 0
             have cf1 := ua1.cell 1
             simp at cf0 cf1
             have cg0 := ua2.cell 0
             simp at cg0
             clear ua1 ua2
             have ua3 := h7.blkAt (g := g6) (t := 39) (cs := (itc zI (.slice none 0 0))) (by simp)
             have ua4 := h7.blkAt (g := g7) (t := 4) (cs := #[.bool false]) (by simp)
             have ci0 := ua3.cell 0
             have fi0 := ua3.frozen 0
             have ci1 := ua3.cell 1
             have fi1 := ua3.frozen 1
             have ci2 := ua3.cell 2
             have fi2 := ua3.frozen 2
             have ci3 := ua3.cell 3
             have fi3 := ua3.frozen 3
             have ci4 := ua3.cell 4
             have fi4 := ua3.frozen 4
             have ci5 := ua3.cell 5
             have fi5 := ua3.frozen 5
             have ci6 := ua3.cell 6
             have fi6 := ua3.frozen 6
             have ci7 := ua3.cell 7
             have fi7 := ua3.frozen 7
             have ci8 := ua3.cell 8
             have fi8 := ua3.frozen 8
             simp at ci0 ci1 ci2 ci3 ci4 ci5 ci6 ci7 ci8
             have ce0 := ua4.cell 0
             have fe0 := ua4.frozen 0
             simp at ce0
             clear ua3 ua4
             have H7 := Lib.hid h7
             clear hb7 h7)
          | fail)
        refine ⟨trivial, ?_⟩
        gi_wp2_with fail
        refine ⟨fun _ _ => trivial, ?_⟩
        gi_wp2_with fail
        exact ⟨keeps_below KF7.out, HST.out, HLT.out, HTK.out, H7.out⟩
      | some y =>
        rw [hv2] at hTV
        unfold AnsI at hTV
        simp only at hTV
        have HTV := Lib.hid hTV
        have hvr : fiRow f t (wayP x (t1, t2)) ⟨xk, xv⟩ = if (isInP f t (bs s2) && wayP x (t1, t2) y) = true then some y else none := by unfold fiRow; simp only [hv1, hv2]
        have HIS2 := Lib.hid (HIS.out (bs s2))
        have HCL2 := Lib.hid (fun W hW => HCL.out W hW y)
        generalize bs s2 = s2 at *
        clear hRV hTV hv1 hv2
        cases hi : isInP f t s2 with
        | false =>
          rw [hi] at HIS2
          have HTK := Lib.hid (hnx (by rw [hvr, hi]; rfl))
          clear hvr hfi hnx hi
          gi_wp2_with (first
            | (refine ⟨trivial, ?_⟩; gi_at_call 132; refine ((callsIn_wide.2 (HRV.out _)).inRound l).mono ?_; rintro e w5 ⟨rfl, hb5⟩
               have H6 := Lib.hid (hh.keep hb5)
               have KF6 := Lib.hid hb5
               clear hb5)
            | (refine ⟨trivial, ?_⟩; gi_at_call 15; refine ((callsIn_wide.2 (HTV.out _)).inRound l).mono ?_; rintro e w7 ⟨⟨A2, n2, c2, rfl, hat, hnc, hcm, hap⟩, hb7⟩
               have HAT := Lib.hid (hat.below (nbl w7 (.cells (itc y (.slice A2 n2 c2)) 39)))
               clear hat hap
               have h7 := H6.out.keep (bsa hb7 (.cells (itc y (.slice A2 n2 c2)) 39))
               have KF7 := Lib.hid (bst KF6.out (bsa hb7 (.cells (itc y (.slice A2 n2 c2)) 39)))
               have B7 := Lib.hid (Blk.new w7 39 (itc y (.slice A2 n2 c2)))
               have ua1 := h7.blkAt (g := V.heap.size) (t := 66) (cs := #[.string f, .string t]) (by simp)
               have ua2 := h7.blkAt (g := g5) (t := 134) (cs := #[(.func (.func 66) #[] #[pt gx, pt gt])]) (by simp)
               have cf0 := ua1.cell 0
               have cf1 := ua1.cell 1
               simp at cf0 cf1
               have cg0 := ua2.cell 0
               simp at cg0
               clear ua1 ua2
               have ua3 := h7.blkAt (g := g6) (t := 39) (cs := (itc zI (.slice none 0 0))) (by simp)
               have ua4 := h7.blkAt (g := g7) (t := 4) (cs := #[.bool false]) (by simp)
               have ci0 := ua3.cell 0
               have fi0 := ua3.frozen 0
               have ci1 := ua3.cell 1
               have fi1 := ua3.frozen 1
               have ci2 := ua3.cell 2
               have fi2 := ua3.frozen 2
               have ci3 := ua3.cell 3
               have fi3 := ua3.frozen 3
               have ci4 := ua3.cell 4
               have fi4 := ua3.frozen 4
               have ci5 := ua3.cell 5
               have fi5 := ua3.frozen 5
               have ci6 := ua3.cell 6
               have fi6 := ua3.frozen 6
               have ci7 := ua3.cell 7
               have fi7 := ua3.frozen 7
               have ci8 := ua3.cell 8
               have fi8 := ua3.frozen 8
               simp at ci0 ci1 ci2 ci3 ci4 ci5 ci6 ci7 ci8
               have ce0 := ua4.cell 0
               have fe0 := ua4.frozen 0
               simp at ce0
               clear ua3 ua4
               have H7 := Lib.hid h7
               clear hb7 h7)
            | (refine ⟨trivial, ?_⟩; gi_at_call 131; refine ((callsIn_wide.2 (HIS2.out _)).inRound l).mono ?_; rintro e w8 ⟨rfl, hb8⟩
               have h8 := H7.out.keep hb8
               have KF8 := Lib.hid (bst KF7.out hb8)
               have b8 := B7.out.below hb8 B7.out.lt
               have cs0 := b8.cell 0
               have cs1 := b8.cell 1
               have cs2 := b8.cell 2
               have cs3 := b8.cell 3
               have cs4 := b8.cell 4
               have cs5 := b8.cell 5
               have cs6 := b8.cell 6
               have cs7 := b8.cell 7
               have cs8 := b8.cell 8
               simp at cs0 cs1 cs2 cs3 cs4 cs5 cs6 cs7 cs8
               have B8 := Lib.hid b8
               have ub1 := h8.blkAt (g := V.heap.size) (t := 66) (cs := #[.string f, .string t]) (by simp)
               have ub2 := h8.blkAt (g := g5) (t := 134) (cs := #[(.func (.func 66) #[] #[pt gx, pt gt])]) (by simp)
               have cf0 := ub1.cell 0
               have cf1 := ub1.cell 1
               simp at cf0 cf1
               have cg0 := ub2.cell 0
               simp at cg0
               clear ub1 ub2
               have ub3 := h8.blkAt (g := g6) (t := 39) (cs := (itc zI (.slice none 0 0))) (by simp)
               have ub4 := h8.blkAt (g := g7) (t := 4) (cs := #[.bool false]) (by simp)
               have ci0 := ub3.cell 0
               have fi0 := ub3.frozen 0
               have ci1 := ub3.cell 1
               have fi1 := ub3.frozen 1
               have ci2 := ub3.cell 2
               have fi2 := ub3.frozen 2
               have ci3 := ub3.cell 3
               have fi3 := ub3.frozen 3
               have ci4 := ub3.cell 4
               have fi4 := ub3.frozen 4
               have ci5 := ub3.cell 5
               have fi5 := ub3.frozen 5
               have ci6 := ub3.cell 6
               have fi6 := ub3.frozen 6
               have ci7 := ub3.cell 7
               have fi7 := ub3.frozen 7
               have ci8 := ub3.cell 8
               have fi8 := ub3.frozen 8
               simp at ci0 ci1 ci2 ci3 ci4 ci5 ci6 ci7 ci8
               have ce0 := ub4.cell 0
               have fe0 := ub4.frozen 0
               simp at ce0
               clear ub3 ub4
               have H8 := Lib.hid h8
               have HAT8 := Lib.hid (HAT.out.below hb8)
               clear hb8 b8 h8)
            | fail)
          refine ⟨fun _ _ => trivial, ?_⟩
          gi_wp2_with fail
          exact ⟨keeps_below KF8.out, HST.out, HLT.out, HTK.out, H8.out⟩
        | true =>
          rw [hi] at HIS2
          cases hl : wayP x (t1, t2) y with
          | false =>
            rw [hl] at HCL2
            have HTK := Lib.hid (hnx (by rw [hvr, hi, hl]; rfl))
            clear hvr hfi hnx hi hl
            gi_wp2_with (first
              | (refine ⟨trivial, ?_⟩; gi_at_call 132; refine ((callsIn_wide.2 (HRV.out _)).inRound l).mono ?_; rintro e w5 ⟨rfl, hb5⟩
                 have H6 := Lib.hid (hh.keep hb5)
                 have KF6 := Lib.hid hb5
                 clear hb5)
              | (refine ⟨trivial, ?_⟩; gi_at_call 15; refine ((callsIn_wide.2 (HTV.out _)).inRound l).mono ?_; rintro e w7 ⟨⟨A2, n2, c2, rfl, hat, hnc, hcm, hap⟩, hb7⟩
                 have HAT := Lib.hid (hat.below (nbl w7 (.cells (itc y (.slice A2 n2 c2)) 39)))
                 clear hat hap
                 have h7 := H6.out.keep (bsa hb7 (.cells (itc y (.slice A2 n2 c2)) 39))
                 have KF7 := Lib.hid (bst KF6.out (bsa hb7 (.cells (itc y (.slice A2 n2 c2)) 39)))
                 have B7 := Lib.hid (Blk.new w7 39 (itc y (.slice A2 n2 c2)))
                 have ua1 := h7.blkAt (g := V.heap.size) (t := 66) (cs := #[.string f, .string t]) (by simp)
                 have ua2 := h7.blkAt (g := g5) (t := 134) (cs := #[(.func (.func 66) #[] #[pt gx, pt gt])]) (by simp)
                 have cf0 := ua1.cell 0
                 have cf1 := ua1.cell 1
                 simp at cf0 cf1
                 have cg0 := ua2.cell 0
                 simp at cg0
                 clear ua1 ua2
                 have ua3 := h7.blkAt (g := g6) (t := 39) (cs := (itc zI (.slice none 0 0))) (by simp)
                 have ua4 := h7.blkAt (g := g7) (t := 4) (cs := #[.bool false]) (by simp)
                 have ci0 := ua3.cell 0
                 have fi0 := ua3.frozen 0
                 have ci1 := ua3.cell 1
                 have fi1 := ua3.frozen 1
                 have ci2 := ua3.cell 2
                 have fi2 := ua3.frozen 2
                 have ci3 := ua3.cell 3
                 have fi3 := ua3.frozen 3
                 have ci4 := ua3.cell 4
                 have fi4 := ua3.frozen 4
                 have ci5 := ua3.cell 5
                 have fi5 := ua3.frozen 5
                 have ci6 := ua3.cell 6
                 have fi6 := ua3.frozen 6
                 have ci7 := ua3.cell 7
                 have fi7 := ua3.frozen 7
                 have ci8 := ua3.cell 8
                 have fi8 := ua3.frozen 8
                 simp at ci0 ci1 ci2 ci3 ci4 ci5 ci6 ci7 ci8
                 have ce0 := ua4.cell 0
                 have fe0 := ua4.frozen 0
                 simp at ce0
                 clear ua3 ua4
                 have H7 := Lib.hid h7
                 clear hb7 h7)
              | (refine ⟨trivial, ?_⟩; gi_at_call 131; refine ((callsIn_wide.2 (HIS2.out _)).inRound l).mono ?_; rintro e w8 ⟨rfl, hb8⟩
                 have h8 := H7.out.keep hb8
                 have KF8 := Lib.hid (bst KF7.out hb8)
                 have b8 := B7.out.below hb8 B7.out.lt
                 have cs0 := b8.cell 0
                 have cs1 := b8.cell 1
                 have cs2 := b8.cell 2
                 have cs3 := b8.cell 3
                 have cs4 := b8.cell 4
                 have cs5 := b8.cell 5
                 have cs6 := b8.cell 6
                 have cs7 := b8.cell 7
                 have cs8 := b8.cell 8
                 simp at cs0 cs1 cs2 cs3 cs4 cs5 cs6 cs7 cs8
                 have B8 := Lib.hid b8
                 have ub1 := h8.blkAt (g := V.heap.size) (t := 66) (cs := #[.string f, .string t]) (by simp)
                 have ub2 := h8.blkAt (g := g5) (t := 134) (cs := #[(.func (.func 66) #[] #[pt gx, pt gt])]) (by simp)
                 have cf0 := ub1.cell 0
                 have cf1 := ub1.cell 1
                 simp at cf0 cf1
                 have cg0 := ub2.cell 0
                 simp at cg0
                 clear ub1 ub2
                 have ub3 := h8.blkAt (g := g6) (t := 39) (cs := (itc zI (.slice none 0 0))) (by simp)
                 have ub4 := h8.blkAt (g := g7) (t := 4) (cs := #[.bool false]) (by simp)
                 have ci0 := ub3.cell 0
                 have fi0 := ub3.frozen 0
                 have ci1 := ub3.cell 1
                 have fi1 := ub3.frozen 1
                 have ci2 := ub3.cell 2
                 have fi2 := ub3.frozen 2
                 have ci3 := ub3.cell 3
                 have fi3 := ub3.frozen 3
                 have ci4 := ub3.cell 4
                 have fi4 := ub3.frozen 4
                 have ci5 := ub3.cell 5
                 have fi5 := ub3.frozen 5
                 have ci6 := ub3.cell 6
                 have fi6 := ub3.frozen 6
                 have ci7 := ub3.cell 7
                 have fi7 := ub3.frozen 7
                 have ci8 := ub3.cell 8
                 have fi8 := ub3.frozen 8
                 simp at ci0 ci1 ci2 ci3 ci4 ci5 ci6 ci7 ci8
                 have ce0 := ub4.cell 0
                 have fe0 := ub4.frozen 0
                 simp at ce0
                 clear ub3 ub4
                 have H8 := Lib.hid h8
                 have HAT8 := Lib.hid (HAT.out.below hb8)
                 clear hb8 b8 h8)
              | ((first | refine ⟨trivial, ?_⟩ | refine ⟨fun _ _ => trivial, ?_⟩); gi_at_call 66; refine ((callsIn_wide.2 (HCL2.out _ H8.out.bel _)).inRound l).mono ?_; rintro e w9 ⟨rfl, hb9⟩
                 have h9 := H8.out.keep hb9
                 have KF9 := Lib.hid (bst KF8.out hb9)
                 have uc1 := h9.blkAt (g := V.heap.size) (t := 66) (cs := #[.string f, .string t]) (by simp)
                 have uc2 := h9.blkAt (g := g5) (t := 134) (cs := #[(.func (.func 66) #[] #[pt gx, pt gt])]) (by simp)
                 have cf0 := uc1.cell 0
                 have cf1 := uc1.cell 1
                 simp at cf0 cf1
                 have cg0 := uc2.cell 0
                 simp at cg0
                 clear uc1 uc2
                 have uc3 := h9.blkAt (g := g6) (t := 39) (cs := (itc zI (.slice none 0 0))) (by simp)
                 have uc4 := h9.blkAt (g := g7) (t := 4) (cs := #[.bool false]) (by simp)
                 have ci0 := uc3.cell 0
                 have fi0 := uc3.frozen 0
                 have ci1 := uc3.cell 1
                 have fi1 := uc3.frozen 1
                 have ci2 := uc3.cell 2
                 have fi2 := uc3.frozen 2
                 have ci3 := uc3.cell 3
                 have fi3 := uc3.frozen 3
                 have ci4 := uc3.cell 4
                 have fi4 := uc3.frozen 4
                 have ci5 := uc3.cell 5
                 have fi5 := uc3.frozen 5
                 have ci6 := uc3.cell 6
                 have fi6 := uc3.frozen 6
                 have ci7 := uc3.cell 7
                 have fi7 := uc3.frozen 7
                 have ci8 := uc3.cell 8
                 have fi8 := uc3.frozen 8
                 simp at ci0 ci1 ci2 ci3 ci4 ci5 ci6 ci7 ci8
                 have ce0 := uc4.cell 0
                 have fe0 := uc4.frozen 0
                 simp at ce0
                 clear uc3 uc4
                 have b9 := B8.out.below hb9 B8.out.lt
                 have cs0 := b9.cell 0
                 have cs1 := b9.cell 1
                 have cs2 := b9.cell 2
                 have cs3 := b9.cell 3
                 have cs4 := b9.cell 4
                 have cs5 := b9.cell 5
                 have cs6 := b9.cell 6
                 have cs7 := b9.cell 7
                 have cs8 := b9.cell 8
                 simp at cs0 cs1 cs2 cs3 cs4 cs5 cs6 cs7 cs8
                 have HAT9 := Lib.hid (HAT8.out.below hb9)
                 clear b9
                 have H9 := Lib.hid h9
                 clear hb9 h9)
              | fail)
            exact ⟨keeps_below KF9.out, HST.out, HLT.out, HTK.out, H9.out⟩
          | true =>
            rw [hl] at HCL2
            have HFI := Lib.hid (show o = some y from by
              have h1 : fiRow f t (wayP x (t1, t2)) ⟨xk, xv⟩ = some y := by rw [hvr, hi, hl]; rfl
              exact (hfi (by rw [h1]; simp)).trans h1)
            clear hvr hfi hnx hi hl
            gi_wp2_with (first
              | (refine ⟨trivial, ?_⟩; gi_at_call 132; refine ((callsIn_wide.2 (HRV.out _)).inRound l).mono ?_; rintro e w5 ⟨rfl, hb5⟩
                 have H6 := Lib.hid (hh.keep hb5)
                 have KF6 := Lib.hid hb5
                 clear hb5)
              | (refine ⟨trivial, ?_⟩; gi_at_call 15; refine ((callsIn_wide.2 (HTV.out _)).inRound l).mono ?_; rintro e w7 ⟨⟨A2, n2, c2, rfl, hat, hnc, hcm, hap⟩, hb7⟩
                 have HAT := Lib.hid (hat.below (nbl w7 (.cells (itc y (.slice A2 n2 c2)) 39)))
                 clear hat hap
                 have h7 := H6.out.keep (bsa hb7 (.cells (itc y (.slice A2 n2 c2)) 39))
                 have KF7 := Lib.hid (bst KF6.out (bsa hb7 (.cells (itc y (.slice A2 n2 c2)) 39)))
                 have B7 := Lib.hid (Blk.new w7 39 (itc y (.slice A2 n2 c2)))
                 have ua1 := h7.blkAt (g := V.heap.size) (t := 66) (cs := #[.string f, .string t]) (by simp)
                 have ua2 := h7.blkAt (g := g5) (t := 134) (cs := #[(.func (.func 66) #[] #[pt gx, pt gt])]) (by simp)
                 have cf0 := ua1.cell 0
                 have cf1 := ua1.cell 1
                 simp at cf0 cf1
                 have cg0 := ua2.cell 0
                 simp at cg0
                 clear ua1 ua2
                 have ua3 := h7.blkAt (g := g6) (t := 39) (cs := (itc zI (.slice none 0 0))) (by simp)
                 have ua4 := h7.blkAt (g := g7) (t := 4) (cs := #[.bool false]) (by simp)
                 have ci0 := ua3.cell 0
                 have fi0 := ua3.frozen 0
                 have ci1 := ua3.cell 1
                 have fi1 := ua3.frozen 1
                 have ci2 := ua3.cell 2
                 have fi2 := ua3.frozen 2
                 have ci3 := ua3.cell 3
                 have fi3 := ua3.frozen 3
                 have ci4 := ua3.cell 4
                 have fi4 := ua3.frozen 4
                 have ci5 := ua3.cell 5
                 have fi5 := ua3.frozen 5
                 have ci6 := ua3.cell 6
                 have fi6 := ua3.frozen 6
                 have ci7 := ua3.cell 7
                 have fi7 := ua3.frozen 7
                 have ci8 := ua3.cell 8
                 have fi8 := ua3.frozen 8
                 simp at ci0 ci1 ci2 ci3 ci4 ci5 ci6 ci7 ci8
                 have ce0 := ua4.cell 0
                 have fe0 := ua4.frozen 0
                 simp at ce0
                 clear ua3 ua4
                 have H7 := Lib.hid h7
                 clear hb7 h7)
              | (refine ⟨trivial, ?_⟩; gi_at_call 131; refine ((callsIn_wide.2 (HIS2.out _)).inRound l).mono ?_; rintro e w8 ⟨rfl, hb8⟩
                 have h8 := H7.out.keep hb8
                 have KF8 := Lib.hid (bst KF7.out hb8)
                 have b8 := B7.out.below hb8 B7.out.lt
                 have cs0 := b8.cell 0
                 have cs1 := b8.cell 1
                 have cs2 := b8.cell 2
                 have cs3 := b8.cell 3
                 have cs4 := b8.cell 4
                 have cs5 := b8.cell 5
                 have cs6 := b8.cell 6
                 have cs7 := b8.cell 7
                 have cs8 := b8.cell 8
                 simp at cs0 cs1 cs2 cs3 cs4 cs5 cs6 cs7 cs8
                 have B8 := Lib.hid b8
                 have ub1 := h8.blkAt (g := V.heap.size) (t := 66) (cs := #[.string f, .string t]) (by simp)
                 have ub2 := h8.blkAt (g := g5) (t := 134) (cs := #[(.func (.func 66) #[] #[pt gx, pt gt])]) (by simp)
                 have cf0 := ub1.cell 0
                 have cf1 := ub1.cell 1
                 simp at cf0 cf1
                 have cg0 := ub2.cell 0
                 simp at cg0
                 clear ub1 ub2
                 have ub3 := h8.blkAt (g := g6) (t := 39) (cs := (itc zI (.slice none 0 0))) (by simp)
                 have ub4 := h8.blkAt (g := g7) (t := 4) (cs := #[.bool false]) (by simp)
                 have ci0 := ub3.cell 0
                 have fi0 := ub3.frozen 0
                 have ci1 := ub3.cell 1
                 have fi1 := ub3.frozen 1
                 have ci2 := ub3.cell 2
                 have fi2 := ub3.frozen 2
                 have ci3 := ub3.cell 3
                 have fi3 := ub3.frozen 3
                 have ci4 := ub3.cell 4
                 have fi4 := ub3.frozen 4
                 have ci5 := ub3.cell 5
                 have fi5 := ub3.frozen 5
                 have ci6 := ub3.cell 6
                 have fi6 := ub3.frozen 6
                 have ci7 := ub3.cell 7
                 have fi7 := ub3.frozen 7
                 have ci8 := ub3.cell 8
                 have fi8 := ub3.frozen 8
                 simp at ci0 ci1 ci2 ci3 ci4 ci5 ci6 ci7 ci8
                 have ce0 := ub4.cell 0
                 have fe0 := ub4.frozen 0
                 simp at ce0
                 clear ub3 ub4
                 have H8 := Lib.hid h8
                 have HAT8 := Lib.hid (HAT.out.below hb8)
                 clear hb8 b8 h8)
              | ((first | refine ⟨trivial, ?_⟩ | refine ⟨fun _ _ => trivial, ?_⟩); gi_at_call 66; refine ((callsIn_wide.2 (HCL2.out _ H8.out.bel _)).inRound l).mono ?_; rintro e w9 ⟨rfl, hb9⟩
                 have h9 := H8.out.keep hb9
                 have KF9 := Lib.hid (bst KF8.out hb9)
                 have uc1 := h9.blkAt (g := V.heap.size) (t := 66) (cs := #[.string f, .string t]) (by simp)
                 have uc2 := h9.blkAt (g := g5) (t := 134) (cs := #[(.func (.func 66) #[] #[pt gx, pt gt])]) (by simp)
                 have cf0 := uc1.cell 0
                 have cf1 := uc1.cell 1
                 simp at cf0 cf1
                 have cg0 := uc2.cell 0
                 simp at cg0
                 clear uc1 uc2
                 have uc3 := h9.blkAt (g := g6) (t := 39) (cs := (itc zI (.slice none 0 0))) (by simp)
                 have uc4 := h9.blkAt (g := g7) (t := 4) (cs := #[.bool false]) (by simp)
                 have ci0 := uc3.cell 0
                 have fi0 := uc3.frozen 0
                 have ci1 := uc3.cell 1
                 have fi1 := uc3.frozen 1
                 have ci2 := uc3.cell 2
                 have fi2 := uc3.frozen 2
                 have ci3 := uc3.cell 3
                 have fi3 := uc3.frozen 3
                 have ci4 := uc3.cell 4
                 have fi4 := uc3.frozen 4
                 have ci5 := uc3.cell 5
                 have fi5 := uc3.frozen 5
                 have ci6 := uc3.cell 6
                 have fi6 := uc3.frozen 6
                 have ci7 := uc3.cell 7
                 have fi7 := uc3.frozen 7
                 have ci8 := uc3.cell 8
                 have fi8 := uc3.frozen 8
                 simp at ci0 ci1 ci2 ci3 ci4 ci5 ci6 ci7 ci8
                 have ce0 := uc4.cell 0
                 have fe0 := uc4.frozen 0
                 simp at ce0
                 clear uc3 uc4
                 have b9 := B8.out.below hb9 B8.out.lt
                 have cs0 := b9.cell 0
                 have cs1 := b9.cell 1
                 have cs2 := b9.cell 2
                 have cs3 := b9.cell 3
                 have cs4 := b9.cell 4
                 have cs5 := b9.cell 5
                 have cs6 := b9.cell 6
                 have cs7 := b9.cell 7
                 have cs8 := b9.cell 8
                 simp at cs0 cs1 cs2 cs3 cs4 cs5 cs6 cs7 cs8
                 have HAT9 := Lib.hid (HAT8.out.below hb9)
                 clear b9
                 have H9 := Lib.hid h9
                 clear hb9 h9)
              | fail)
            have hp := H9.out.perm (List.perm_middle (l₁ := [_, _, _]))
            have hb := hp.blk.1
            have hq : Has V [blkA g6 39 (itc y (.slice A2 n2 c2)), blkA g1 32 #[pt p], blkA g2 9 #[.string ff], blkA g3 9 #[.string tt], blkA g7 4 #[.bool false], blkA g5 134 #[(.func (.func 66) #[] #[pt gx, pt gt])], blkA V.heap.size 66 #[.string f, .string t]] _ := Has.all9s (v0 := .int .i64 y.id) (v1 := .int .i64 y.ep) (v2 := .int .i64 y.pr) (v3 := .string y.an) (v4 := .int .i64 y.sw) (v5 := .int .i64 y.sl) (v6 := .int .i64 y.bw) (v7 := .int .i64 y.bl) (v8 := .slice A2 n2 c2) hp
            have hq2 := hq.perm (List.perm_middle (l₁ := [_, _, _, _]))
            have hb2 := hq2.blk.1
            have hq3 : Has V [blkA g7 4 #[.bool true], blkA g6 39 (itc y (.slice A2 n2 c2)), blkA g1 32 #[pt p], blkA g2 9 #[.string ff], blkA g3 9 #[.string tt], blkA g5 134 #[(.func (.func 66) #[] #[pt gx, pt gt])], blkA V.heap.size 66 #[.string f, .string t]] _ := hq2.setBlk 0 (.bool true)
            have hkf := ((keeps_below (n := W0.heap.size) KF9.out).trans (se_from9 (v0 := .int .i64 y.id) (v1 := .int .i64 y.ep) (v2 := .int .i64 y.pr) (v3 := .string y.an) (v4 := .int .i64 y.sw) (v5 := .int .i64 y.sl) (v6 := .int .i64 y.bw) (v7 := .int .i64 y.bl) (v8 := .slice A2 n2 c2) hb)).trans (pk_from_put (i := 0) (u := .bool true) hb2)
            have hne := HAT9.out.apart hb (it_no _ _ (fun d e => nomatch e))
            have hch := (((((((((HAT9.out.put (g := g6) (i := 0) (u := .int .i64 y.id) hne).put (g := g6) (i := 1) (u := .int .i64 y.ep) hne).put (g := g6) (i := 2) (u := .int .i64 y.pr) hne).put (g := g6) (i := 3) (u := .string y.an) hne).put (g := g6) (i := 4) (u := .int .i64 y.sw) hne).put (g := g6) (i := 5) (u := .int .i64 y.sl) hne).put (g := g6) (i := 6) (u := .int .i64 y.bw) hne).put (g := g6) (i := 7) (u := .int .i64 y.bl) hne).put (g := g6) (i := 8) (u := .slice A2 n2 c2) hne)
            have hne2 := hch.apart hb2 (bl_no false)
            have hch2 := hch.put (g := g7) (i := 0) (u := .bool true) hne2
            have hnn : n2 ≤ 9223372036854775807 := by omega
            have hq4 : Has V [blkA g1 32 #[pt p], blkA g2 9 #[.string ff], blkA g3 9 #[.string tt], blkA g6 39 (itc y (.slice A2 n2 c2)), blkA g7 4 #[.bool true], blkA g5 134 #[(.func (.func 66) #[] #[pt gx, pt gt])], blkA V.heap.size 66 #[.string f, .string t]] _ := (hq3.perm (List.Perm.swap _ _ _)).perm ((List.Perm.cons _ (List.perm_middle (l₁ := [_, _, _])).symm).trans (List.perm_middle (l₁ := [_, _, _])).symm)
            first | exact ⟨hkf, rfl, y, A2, n2, c2, HFI.out, hq4, hch2, hnn⟩ | exact ⟨hkf, rfl, y, HFI.out, A2, n2, ⟨c2, hq4⟩, hch2, hnn⟩
  case done =>
    rintro D b' r' n W hD hsW hno ⟨rfl, rfl, hn, hfs, hh⟩ hK
    rw [up_next HS.out _ _ hn, List.getElem?_eq_none_iff] at hno
    have hoN : o = none := by rw [← HO.out, ← (show ((btw r' ff tt).take n).findSome? (fiRow f t (wayP x (t1, t2))) = none from hfs), List.take_of_length_le hno]
    subst hoN
    have hp := hh.perm (List.perm_middle (l₁ := [_, _, _]))
    have hb := hp.blk.1
    have hb7 := hh.blkAt (g := g7) (t := 4) (cs := #[.bool false]) (by simp)
    have ci0 := hb.cell 0
    have fi0 := hb.frozen 0
    have ci1 := hb.cell 1
    have fi1 := hb.frozen 1
    have ci2 := hb.cell 2
    have fi2 := hb.frozen 2
    have ci3 := hb.cell 3
    have fi3 := hb.frozen 3
    have ci4 := hb.cell 4
    have fi4 := hb.frozen 4
    have ci5 := hb.cell 5
    have fi5 := hb.frozen 5
    have ci6 := hb.cell 6
    have fi6 := hb.frozen 6
    have ci7 := hb.cell 7
    have fi7 := hb.frozen 7
    have ci8 := hb.cell 8
    have fi8 := hb.frozen 8
    simp at ci0 ci1 ci2 ci3 ci4 ci5 ci6 ci7 ci8
    have ce0 := hb7.cell 0
    have fe0 := hb7.frozen 0
    simp at ce0
    have HP := Lib.hid hp
    have HB := Lib.hid hb
    have HB7 := Lib.hid hb7
    clear hh hno hp hb hb7
    go_wp2_with fail
    have hne : D ≠ g6 := by
      rintro rfl
      have := HB.out
      unfold Blk at this
      rw [hK] at this
      cases this
    have hne7 : D ≠ g7 := by
      rintro rfl
      have := HB7.out
      unfold Blk at this
      rw [hK] at this
      cases this
    have hK2 := se_heap9 (v0 := .int .i64 0) (v1 := .int .i64 0) (v2 := .int .i64 0) (v3 := .string ⟨#[]⟩) (v4 := .int .i64 0) (v5 := .int .i64 0) (v6 := .int .i64 0) (v7 := .int .i64 0) (v8 := .slice none 0 0) hne hK
    have hK3 := (heap_set_ne (i := 0) (u := .bool false) hne7).trans hK2
    have hq : Has V [blkA g6 39 (itc zI (.slice none 0 0)), blkA g1 32 #[pt p], blkA g2 9 #[.string ff], blkA g3 9 #[.string tt], blkA g7 4 #[.bool false], blkA g5 134 #[(.func (.func 66) #[] #[pt gx, pt gt])], blkA V.heap.size 66 #[.string f, .string t]] _ := Has.all9s (v0 := .int .i64 0) (v1 := .int .i64 0) (v2 := .int .i64 0) (v3 := .string ⟨#[]⟩) (v4 := .int .i64 0) (v5 := .int .i64 0) (v6 := .int .i64 0) (v7 := .int .i64 0) (v8 := .slice none 0 0) HP.out
    have hq2 := hq.perm (List.perm_middle (l₁ := [_, _, _, _]))
    have hq3 : Has V [blkA g7 4 #[.bool false], blkA g6 39 (itc zI (.slice none 0 0)), blkA g1 32 #[pt p], blkA g2 9 #[.string ff], blkA g3 9 #[.string tt], blkA g5 134 #[(.func (.func 66) #[] #[pt gx, pt gt])], blkA V.heap.size 66 #[.string f, .string t]] _ := hq2.setBlk 0 (.bool false)
    refine ⟨by simp, .inl ⟨_, _, rfl, run_takeDeferred hK3, ?_⟩⟩
    have hfin := hq3.firm (.put (B := V.heap.size) D (.deferred none) (by omega) hK3 rfl) (Nat.le_refl _) (fun A hA => by
      simp only [List.mem_cons, List.not_mem_nil, or_false] at hA
      rcases hA with rfl | rfl | rfl | rfl | rfl | rfl | rfl <;> exact cel_blk _ _ _)
    exact ⟨_, results_ib rfl rfl rfl (hfin.blkAt (g := g6) (t := 39) (cs := (itc zI (.slice none 0 0))) (by simp)) rfl (hfin.blkAt (g := g7) (t := 4) (cs := #[.bool false]) (by simp)), rfl, hfin.bel⟩
  case stop =>
    rintro D cc W hD hsW ⟨rfl, y, A, n, c, rfl, hh, hch, hn⟩ hK
    go_wp2_with fail
    refine ⟨by simp, .inl ⟨_, _, rfl, run_takeDeferred hK, ?_⟩⟩
    have hf : Firm V.heap.size W (W.putObj D (.deferred none)) := .put D _ (by omega) hK rfl
    have hfin := hh.firm hf (Nat.le_refl _) (fun A hA => by
      simp only [List.mem_cons, List.not_mem_nil, or_false] at hA
      rcases hA with rfl | rfl | rfl | rfl | rfl | rfl | rfl <;> exact cel_blk _ _ _)
    exact ⟨_, results_ib rfl rfl rfl (hfin.blkAt (g := g6) (t := 39) (cs := itc y (.slice A n c)) (by simp)) rfl (hfin.blkAt (g := g7) (t := 4) (cs := #[.bool true]) (by simp)), ⟨A, n, c, rfl, hch.firm hf, hn⟩, hfin.bel⟩
end Go.Proofs.YtldbmogondmgmaaGreatDoor
