/-
  Layer 12, the code: the version up to a stamp (written by wip/genpkver.py).
  Layer 12, the code: what check asks: keys, stamps, whether a transaction may read; its top.
  Layer 12, the code: read (written by wip/genpkread.py).
  Layer 12, the code: read's walks (written by wip/genpkread.py).
-/
import Derived.Test.YtgccichmdddbpaaGreatDoorPL30
import Derived.Test.YtgccichmdddbpaaGreatDoorPL31
import Derived.Test.YtgccichmdddbpaaGreatDoorPL15
import Derived.Test.YtgccichmdddbpaaGreatDoorPL24
set_option linter.unusedVariables false
set_option linter.unusedSimpArgs false
set_option maxRecDepth 100000
namespace Go.Proofs.YtgccichmdddbpaaGreatDoor
open Go.RowKit Go.Shelf
attribute [local go_sem] Oper.semAt_some

theorem pk_from_put {B g i : Nat} {u : Value} {t : TypeId} {cs : Array Value} {W : World} (h : Blk W g t cs) : KeepsFrom B W (W.setCell ⟨g, i, none⟩ u) := by
  refine ⟨by simp [World.setCell], fun k o _ hk ho => ?_⟩
  have hne : g ≠ k := by
    rintro rfl
    unfold Blk at h
    rw [h] at hk
    cases hk
    cases ho
  simp only [World.setCell, Array.getElem?_modify]
  rw [if_neg hne, hk]
theorem vkey_le (key : ByteArray) (a b : Int) (h : isK key = true) : (bs (vkey (sb key) a b)).size ≤ 1000 := by
  have h1 := okey_len key (isK_iff.1 h).2
  have h2 := odown_le a b
  show (vkey _ _ _).length ≤ _
  simp only [vkey, List.length_cons, List.length_append]
  omega
theorem pkVKey (key : ByteArray) (a b : Int) (hk : isK key = true) (hm : may a b = true) (W : World) (hM : MaxL W) :
    Calls Tryz.prog 149 #[.string key, sv a b] W fun e w' => e = .returned (.tuple #[.string (bs (vkey (sb key) a b)), .int .i64 0]) ∧ Below W.heap.size W w' := by
  have := versionKey_c key a b W hM hm
  unfold markK at this
  rw [if_pos hk] at this
  have e : ([118] ++ okey (sb key) ++ odown a b : List UInt8) = vkey (sb key) a b := by simp [vkey]
  rw [e] at this
  exact this
theorem behind_c (key : ByteArray) (hk : isK key = true) (w : World) (hM : MaxL w) :
    Calls Tryz.prog 170 #[.string key] w fun e w' => e = .returned (.string (behK key)) ∧ Below w.heap.size w w' := by
  have HV := Lib.hid (pkVKey key 0 0 hk (by decide) w hM)
  have hle := vkey_le key 0 0 hk
  unfold behK zr
  generalize bs (vkey (sb key) 0 0) = k at *
  have hsz : ¬ 9223372036854775807 < k.size + (⟨#[0]⟩ : ByteArray).size := by
    have : (⟨#[0]⟩ : ByteArray).size = 1 := rfl
    omega
  go_enter Tryz.func170, Tryz.ntmps170
  go_wp2_with (go_at_call 149; refine HV.out.mono ?_; rintro e w1 ⟨rfl, hb1⟩)
  go_ret
  exact ⟨rfl, hb1⟩
def NoV (r : List Rw) (f t : ByteArray) (n : Nat) : Prop := ((btw r f t).take n).findSome? vrow = none
theorem heap_set_ne {W : World} {g i D : Nat} {u : Value} (h : D ≠ g) : (W.setCell ⟨g, i, none⟩ u).heap[D]? = W.heap[D]? := by
  simp only [World.setCell, Array.getElem?_modify]
  rw [if_neg (fun e => h e.symm)]
theorem from15 {B g : Nat} {t : TypeId} {cs : Array Value} {W : World} {v0 v1 v2 v3 v4 v5 v6 v7 v8 v9 v10 v11 v12 v13 v14 : Value} (h : Blk W g t cs) : KeepsFrom B W (((((((((((((((W.setCell ⟨g, 0, none⟩ v0).setCell ⟨g, 1, none⟩ v1).setCell ⟨g, 2, none⟩ v2).setCell ⟨g, 3, none⟩ v3).setCell ⟨g, 4, none⟩ v4).setCell ⟨g, 5, none⟩ v5).setCell ⟨g, 6, none⟩ v6).setCell ⟨g, 7, none⟩ v7).setCell ⟨g, 8, none⟩ v8).setCell ⟨g, 9, none⟩ v9).setCell ⟨g, 10, none⟩ v10).setCell ⟨g, 11, none⟩ v11).setCell ⟨g, 12, none⟩ v12).setCell ⟨g, 13, none⟩ v13).setCell ⟨g, 14, none⟩ v14) := by
  have b0 := h
  have k0 := KeepsFrom.refl B W
  have k1 := k0.trans (pk_from_put (i := 0) (u := v0) b0)
  have b1 := b0.set_ 0 v0
  have k2 := k1.trans (pk_from_put (i := 1) (u := v1) b1)
  have b2 := b1.set_ 1 v1
  have k3 := k2.trans (pk_from_put (i := 2) (u := v2) b2)
  have b3 := b2.set_ 2 v2
  have k4 := k3.trans (pk_from_put (i := 3) (u := v3) b3)
  have b4 := b3.set_ 3 v3
  have k5 := k4.trans (pk_from_put (i := 4) (u := v4) b4)
  have b5 := b4.set_ 4 v4
  have k6 := k5.trans (pk_from_put (i := 5) (u := v5) b5)
  have b6 := b5.set_ 5 v5
  have k7 := k6.trans (pk_from_put (i := 6) (u := v6) b6)
  have b7 := b6.set_ 6 v6
  have k8 := k7.trans (pk_from_put (i := 7) (u := v7) b7)
  have b8 := b7.set_ 7 v7
  have k9 := k8.trans (pk_from_put (i := 8) (u := v8) b8)
  have b9 := b8.set_ 8 v8
  have k10 := k9.trans (pk_from_put (i := 9) (u := v9) b9)
  have b10 := b9.set_ 9 v9
  have k11 := k10.trans (pk_from_put (i := 10) (u := v10) b10)
  have b11 := b10.set_ 10 v10
  have k12 := k11.trans (pk_from_put (i := 11) (u := v11) b11)
  have b12 := b11.set_ 11 v11
  have k13 := k12.trans (pk_from_put (i := 12) (u := v12) b12)
  have b13 := b12.set_ 12 v12
  have k14 := k13.trans (pk_from_put (i := 13) (u := v13) b13)
  have b14 := b13.set_ 13 v13
  have k15 := k14.trans (pk_from_put (i := 14) (u := v14) b14)
  have b15 := b14.set_ 14 v14
  exact k15
theorem Has.all15 {w V : World} {l : List As} {g : Nat} {t : TypeId} {c0 c1 c2 c3 c4 c5 c6 c7 c8 c9 c10 c11 c12 c13 c14 v0 v1 v2 v3 v4 v5 v6 v7 v8 v9 v10 v11 v12 v13 v14 : Value} (h : Has w (blkA g t #[c0, c1, c2, c3, c4, c5, c6, c7, c8, c9, c10, c11, c12, c13, c14] :: l) V) : Has w (blkA g t #[v0, v1, v2, v3, v4, v5, v6, v7, v8, v9, v10, v11, v12, v13, v14] :: l) (((((((((((((((V.setCell ⟨g, 0, none⟩ v0).setCell ⟨g, 1, none⟩ v1).setCell ⟨g, 2, none⟩ v2).setCell ⟨g, 3, none⟩ v3).setCell ⟨g, 4, none⟩ v4).setCell ⟨g, 5, none⟩ v5).setCell ⟨g, 6, none⟩ v6).setCell ⟨g, 7, none⟩ v7).setCell ⟨g, 8, none⟩ v8).setCell ⟨g, 9, none⟩ v9).setCell ⟨g, 10, none⟩ v10).setCell ⟨g, 11, none⟩ v11).setCell ⟨g, 12, none⟩ v12).setCell ⟨g, 13, none⟩ v13).setCell ⟨g, 14, none⟩ v14) := by
  have := (((((((((((((((h.setBlk 0 v0).setBlk 1 v1).setBlk 2 v2).setBlk 3 v3).setBlk 4 v4).setBlk 5 v5).setBlk 6 v6).setBlk 7 v7).setBlk 8 v8).setBlk 9 v9).setBlk 10 v10).setBlk 11 v11).setBlk 12 v12).setBlk 13 v13).setBlk 14 v14)
  simpa using this
theorem heap15 {W : World} {g D : Nat} {v0 v1 v2 v3 v4 v5 v6 v7 v8 v9 v10 v11 v12 v13 v14 : Value} {o : Obj} (hne : D ≠ g) (hK : W.heap[D]? = some o) : (((((((((((((((W.setCell ⟨g, 0, none⟩ v0).setCell ⟨g, 1, none⟩ v1).setCell ⟨g, 2, none⟩ v2).setCell ⟨g, 3, none⟩ v3).setCell ⟨g, 4, none⟩ v4).setCell ⟨g, 5, none⟩ v5).setCell ⟨g, 6, none⟩ v6).setCell ⟨g, 7, none⟩ v7).setCell ⟨g, 8, none⟩ v8).setCell ⟨g, 9, none⟩ v9).setCell ⟨g, 10, none⟩ v10).setCell ⟨g, 11, none⟩ v11).setCell ⟨g, 12, none⟩ v12).setCell ⟨g, 13, none⟩ v13).setCell ⟨g, 14, none⟩ v14).heap[D]? = some o := by
  simp only [heap_set_ne hne]
  exact hK
theorem ansV_form (o : Option (ByteArray × Bool)) : ∃ v i n, AnsV o = .returned (.tuple #[.string v, .bool i, .int .i64 n]) := by
  cases o with
  | none => exact ⟨_, _, _, rfl⟩
  | some x => exact ⟨_, _, _, rfl⟩
set_option maxHeartbeats 4000000 in
theorem verUp_c {V : World} {p : Nat} {r : List Rw} {F : Nat → Prop} (h : (tbA p r).p V F) (hz : Szs r) (hM : MaxL V) (key : ByteArray) (hk : isK key = true) (a b : Int) (hm : may a b = true) :
    Calls Tryz.prog 125 #[pt p, .string key, sv a b] V fun e w' => e = .returned (fdv (verF key (pverC r key (a, b))) (.slice none 0 0)) ∧ Below V.heap.size V w' := by
  have hsor := tbA_sor h
  have HVK := Lib.hid (fun W hW => pkVKey key a b hk hm W (hM.below hW))
  have HBV := Lib.hid (fun W hW => behind_c key hk W (hM.below hW))
  unfold pverC
  simp only
  generalize bs (vkey (sb key) a b) = f at *
  generalize behK key = t at *
  obtain ⟨o, ho⟩ : ∃ o, (btw r f t).findSome? vrow = o := ⟨_, rfl⟩
  rw [ho]
  have HO := Lib.hid ho
  have H := Lib.hid h
  have HZ := Lib.hid hz
  have HS := Lib.hid hsor
  have h0 := (((Has.nil (Below.refl V.heap.size V)).newBlk 9 #[.string key]).newBlk 26 #[.int .i64 a, .int .i64 b]).newBlk 73 #[.string ⟨#[]⟩, .string ⟨#[]⟩, .bool false, .bool false, .int .i64 0, .int .i64 0, .int .i64 0, .int .i64 0, .int .i64 0, .string ⟨#[]⟩, .int .i64 0, .int .i64 0, .int .i64 0, .int .i64 0, .slice none 0 0]
  have hz1 : (V.alloc (.cells #[.string key] 9)).heap.size = V.heap.size + 1 := World.size_alloc _ _
  have hz2 : ((V.alloc (.cells #[.string key] 9)).alloc (.cells #[.int .i64 a, .int .i64 b] 26)).heap.size = V.heap.size + 1 + 1 := (World.size_alloc _ _).trans (by rw [hz1])
  rw [hz2, hz1] at h0
  have H0 := Lib.hid h0
  clear h hz hsor ho hk hm hM h0 hz1 hz2
  refine (callsIn_wide (n := 3)).1 (callsIn_of_wp_marks Tryz.func125 rfl trivial (wpIn_wide.2 ?_) rfl)
  simp only [Tryz.ntmps125, List.size_toArray, List.length_cons, List.length_nil, Nat.reduceAdd, Nat.reduceSub, Array.replicate_succ, Array.replicate_zero, List.push_toArray, List.append_toArray, List.nil_append, List.cons_append]
  go_wp2_with (first
    | (go_at_call 149; refine (HVK.out _ H0.out.bel).mono ?_; rintro e w1 ⟨rfl, hb1⟩
       have h1 := H0.out.keep hb1
       have z1 := (h1.blkAt (g := V.heap.size) (t := 9) (cs := #[.string key]) (by simp)).cell 0
       simp at z1
       have H1 := Lib.hid h1
       clear hb1 h1)
    | (go_at_call 170; refine (HBV.out _ H1.out.bel).mono ?_; rintro e w2 ⟨rfl, hb2⟩
       have h2 := H1.out.keep hb2
       have z2 := (h2.blkAt (g := V.heap.size) (t := 9) (cs := #[.string key]) (by simp)).cell 0
       simp at z2
       have H2 := Lib.hid h2
       clear hb2 h2)
    | (go_at_call 56; refine (Has.tbAll H2.out p f t).mono ?_; rintro e W0 ⟨g1, g2, g3, rfl, h4⟩; have H4 := Lib.hid h4; clear h4))
  generalize V.heap.size + 1 + 1 = g6 at *
  generalize V.heap.size + 1 = g5 at *
  have H4 := Lib.hid (show Has V [blkA g1 31 #[pt p], blkA g2 9 #[.string f], blkA g3 9 #[.string t], blkA g6 73 #[.string ⟨#[]⟩, .string ⟨#[]⟩, .bool false, .bool false, .int .i64 0, .int .i64 0, .int .i64 0, .int .i64 0, .int .i64 0, .string ⟨#[]⟩, .int .i64 0, .int .i64 0, .int .i64 0, .int .i64 0, .slice none 0 0], blkA g5 26 #[.int .i64 a, .int .i64 b], blkA V.heap.size 9 #[.string key]] W0 from H4.out)
  clear H2 H1 z1 z2 H0 HVK HBV
  have hs0 := H4.out.size
  have hTR := Lib.hid (fun W (hh : Has V [blkA g1 31 #[pt p], blkA g2 9 #[.string f], blkA g3 9 #[.string t], blkA g6 73 #[.string ⟨#[]⟩, .string ⟨#[]⟩, .bool false, .bool false, .int .i64 0, .int .i64 0, .int .i64 0, .int .i64 0, .int .i64 0, .string ⟨#[]⟩, .int .i64 0, .int .i64 0, .int .i64 0, .int .i64 0, .slice none 0 0], blkA g5 26 #[.int .i64 a, .int .i64 b], blkA V.heap.size 9 #[.string key]] W) => (show TRD p g1 g2 g3 f t r W from
    ⟨⟨F, tbA_below H.out hh.bel⟩, HZ.out, hh.blkAt (by simp), hh.blkAt (by simp), hh.blkAt (by simp)⟩))
  refine wp_tours (P := Tryz.prog) rfl (fun _ _ => rfl) (tb_all_tours p g1 g2 g3 f t) rfl (btw r f t).length
    (fun bb r' n W => r' = r ∧ bb = upAt r f t n ∧ n ≤ (btw r f t).length ∧ NoV r f t n ∧ Has V [blkA g1 31 #[pt p], blkA g2 9 #[.string f], blkA g3 9 #[.string t], blkA g6 73 #[.string ⟨#[]⟩, .string ⟨#[]⟩, .bool false, .bool false, .int .i64 0, .int .i64 0, .int .i64 0, .int .i64 0, .int .i64 0, .string ⟨#[]⟩, .int .i64 0, .int .i64 0, .int .i64 0, .int .i64 0, .slice none 0 0], blkA g5 26 #[.int .i64 a, .int .i64 b], blkA V.heap.size 9 #[.string key]] W)
    (fun c W => c = .ret ∧ Has V [blkA g1 31 #[pt p], blkA g2 9 #[.string f], blkA g3 9 #[.string t], blkA g6 73 (fdc (verF key o) (.slice none 0 0)), blkA g5 26 #[.int .i64 a, .int .i64 b], blkA V.heap.size 9 #[.string key]] W)
    (fun bb r' n X Y h hX hf => ⟨h.1, h.2.1, h.2.2.1, h.2.2.2.1, h.2.2.2.2.firm hf hs0 (fun A hA => by
      simp only [List.mem_cons, List.not_mem_nil, or_false] at hA
      rcases hA with rfl | rfl | rfl | rfl | rfl | rfl <;> exact cel_blk _ _ _)⟩)
    (fun c X Y h hX hf => ⟨h.1, h.2.firm hf hs0 (fun A hA => by
      simp only [List.mem_cons, List.not_mem_nil, or_false] at hA
      rcases hA with rfl | rfl | rfl | rfl | rfl | rfl <;> exact cel_blk _ _ _)⟩)
    (fun bb r' n X h => ⟨by rw [h.1]; exact hTR.out X h.2.2.2.2, h.2.2.1⟩)
    r ⟨rfl, rfl, Nat.zero_le _, rfl, H4.out⟩ ?a1 ?assign ?body ?done ?stop
  case assign =>
    intro l x W K hK
    gi_wp2
    exact hK
  case body =>
    rintro l b' r' n x W hsW ⟨rfl, rfl, hn, hfs, hh⟩ hx
    rw [up_next HS.out _ _ hn] at hx
    obtain ⟨hst, hlt⟩ := up_step hx
    have htk : (btw r' f t).take (n + 1) = (btw r' f t).take n ++ [x] := by
      obtain ⟨h1, h2⟩ := List.getElem?_eq_some_iff.1 hx
      rw [List.take_succ_eq_append_getElem h1, h2]
    have hxm : x ∈ r' := List.mem_of_mem_take (List.mem_of_mem_drop (List.mem_of_getElem? hx))
    have hxs := HZ.out x hxm
    have hfi : vrow x ≠ none → o = vrow x := fun hne => by
      rw [← HO.out, ← List.take_append_drop (n + 1) (btw r' f t), htk, List.findSome?_append, List.findSome?_append, show ((btw r' f t).take n).findSome? vrow = none from hfs]
      cases hv : vrow x with
      | none => exact absurd hv hne
      | some u => simp [hv]
    have hnx : vrow x = none → NoV r' f t (n + 1) := fun hv => by
      unfold NoV
      rw [htk, List.findSome?_append, show ((btw r' f t).take n).findSome? vrow = none from hfs]
      simp [hv]
    have hRV := fun W => readV_c x.key W (by have := hxs.2.1; omega)
    have hTV := fun W => takeV_c x.value W (by have := hxs.2.2; omega)
    have HST := Lib.hid hst
    have HLT := Lib.hid hlt
    clear hx hst htk hxs hn hlt hxm hfs
    obtain ⟨xk, xv⟩ := x
    simp only at hRV hTV hfi hnx HST HLT
    cases hv1 : rdVK (sb xk) with
    | none =>
      rw [hv1] at hRV
      have hvr : vrow ⟨xk, xv⟩ = none := by unfold vrow; simp only [hv1]
      obtain ⟨v, i, nn, hvf⟩ := ansV_form (tkV (sb xv))
      rw [hvf] at hTV
      have HTK := Lib.hid (hnx hvr)
      have HRV := Lib.hid (show ∀ W, Calls Tryz.prog 150 #[.string xk] W fun e w' => e = .returned (.tuple #[.string ⟨#[]⟩, sv 0 0, .int .i64 4]) ∧ Below W.heap.size W w' from hRV)
      have HTV := Lib.hid hTV
      clear hv1 hvf hvr hfi hnx hRV hTV
      gi_wp2_with (first
        | (refine ⟨trivial, ?_⟩; gi_at_call 150; refine ((callsIn_wide.2 (HRV.out _)).inRound l).mono ?_; rintro e w5 ⟨rfl, hb5⟩
           have h5 := hh.keep hb5
           have h5s := h5.size
           have H6 := Lib.hid (h5.keep (nbl w5 (.cells #[.int .i64 0, .int .i64 0] 26)))
           have KF6 := Lib.hid (bsa hb5 (.cells #[.int .i64 0, .int .i64 0] 26))
           have b6 := Blk.new w5 26 #[.int .i64 0, .int .i64 0]
           clear hb5 h5)
        | (refine ⟨trivial, ?_⟩; gi_at_call 151; refine ((callsIn_wide.2 (HTV.out _)).inRound l).mono ?_; rintro e w7 ⟨rfl, hb7⟩
           have h7 := H6.out.keep hb7
           have KF7 := Lib.hid (bst KF6.out hb7)
           have b7 := b6.below hb7 b6.lt
           have q0 := b7.cell 0
           have q1 := b7.cell 1
           simp at q0 q1
           have k4 := (h7.blkAt (g := V.heap.size) (t := 9) (cs := #[.string key]) (by simp)).cell 0
           simp at k4
           have B6 := h7.blkAt (g := g6) (t := 73) (cs := #[.string ⟨#[]⟩, .string ⟨#[]⟩, .bool false, .bool false, .int .i64 0, .int .i64 0, .int .i64 0, .int .i64 0, .int .i64 0, .string ⟨#[]⟩, .int .i64 0, .int .i64 0, .int .i64 0, .int .i64 0, .slice none 0 0]) (by simp)
           have p0 := B6.cell 0
           have f0 := B6.frozen 0
           have p1 := B6.cell 1
           have f1 := B6.frozen 1
           have p2 := B6.cell 2
           have f2 := B6.frozen 2
           have p3 := B6.cell 3
           have f3 := B6.frozen 3
           have p4 := B6.cell 4
           have f4 := B6.frozen 4
           have p5 := B6.cell 5
           have f5 := B6.frozen 5
           have p6 := B6.cell 6
           have f6 := B6.frozen 6
           have p7 := B6.cell 7
           have f7 := B6.frozen 7
           have p8 := B6.cell 8
           have f8 := B6.frozen 8
           have p9 := B6.cell 9
           have f9 := B6.frozen 9
           have p10 := B6.cell 10
           have f10 := B6.frozen 10
           have p11 := B6.cell 11
           have f11 := B6.frozen 11
           have p12 := B6.cell 12
           have f12 := B6.frozen 12
           have p13 := B6.cell 13
           have f13 := B6.frozen 13
           have p14 := B6.cell 14
           have f14 := B6.frozen 14
           simp at p0 p1 p2 p3 p4 p5 p6 p7 p8 p9 p10 p11 p12 p13 p14
           have HB6 := Lib.hid B6
           have H7 := Lib.hid h7
           clear hb7 b7 B6 h7))
  
      exact ⟨keeps_below KF7.out, HST.out, HLT.out, HTK.out, H7.out⟩
    | some q =>
      obtain ⟨s2, a2, b2⟩ := q
      rw [hv1] at hRV
      have HRV := Lib.hid (show ∀ W, Calls Tryz.prog 150 #[.string xk] W fun e w' => e = .returned (.tuple #[.string ⟨s2.toArray⟩, sv a2 b2, .int .i64 0]) ∧ Below W.heap.size W w' from hRV)
      cases hv2 : tkV (sb xv) with
      | none =>
        rw [hv2] at hTV
        have hvr : vrow ⟨xk, xv⟩ = none := by unfold vrow; simp only [hv1, hv2]
        have HTK := Lib.hid (hnx hvr)
        have HTV := Lib.hid (show ∀ W, Calls Tryz.prog 151 #[.string xv] W fun e w' => e = .returned (.tuple #[.string ⟨#[]⟩, .bool false, .int .i64 4]) ∧ Below W.heap.size W w' from hTV)
        clear hv1 hv2 hvr hfi hnx hRV hTV
        gi_wp2_with (first
          | (refine ⟨trivial, ?_⟩; gi_at_call 150; refine ((callsIn_wide.2 (HRV.out _)).inRound l).mono ?_; rintro e w5 ⟨rfl, hb5⟩
             have h5 := hh.keep hb5
             have h5s := h5.size
             have H6 := Lib.hid (h5.keep (nbl w5 (.cells #[.int .i64 a2, .int .i64 b2] 26)))
             have KF6 := Lib.hid (bsa hb5 (.cells #[.int .i64 a2, .int .i64 b2] 26))
             have b6 := Blk.new w5 26 #[.int .i64 a2, .int .i64 b2]
             clear hb5 h5)
          | (refine ⟨trivial, ?_⟩; gi_at_call 151; refine ((callsIn_wide.2 (HTV.out _)).inRound l).mono ?_; rintro e w7 ⟨rfl, hb7⟩
             have h7 := H6.out.keep hb7
             have KF7 := Lib.hid (bst KF6.out hb7)
             have b7 := b6.below hb7 b6.lt
             have q0 := b7.cell 0
             have q1 := b7.cell 1
             simp at q0 q1
             have k4 := (h7.blkAt (g := V.heap.size) (t := 9) (cs := #[.string key]) (by simp)).cell 0
             simp at k4
             have B6 := h7.blkAt (g := g6) (t := 73) (cs := #[.string ⟨#[]⟩, .string ⟨#[]⟩, .bool false, .bool false, .int .i64 0, .int .i64 0, .int .i64 0, .int .i64 0, .int .i64 0, .string ⟨#[]⟩, .int .i64 0, .int .i64 0, .int .i64 0, .int .i64 0, .slice none 0 0]) (by simp)
             have p0 := B6.cell 0
             have f0 := B6.frozen 0
             have p1 := B6.cell 1
             have f1 := B6.frozen 1
             have p2 := B6.cell 2
             have f2 := B6.frozen 2
             have p3 := B6.cell 3
             have f3 := B6.frozen 3
             have p4 := B6.cell 4
             have f4 := B6.frozen 4
             have p5 := B6.cell 5
             have f5 := B6.frozen 5
             have p6 := B6.cell 6
             have f6 := B6.frozen 6
             have p7 := B6.cell 7
             have f7 := B6.frozen 7
             have p8 := B6.cell 8
             have f8 := B6.frozen 8
             have p9 := B6.cell 9
             have f9 := B6.frozen 9
             have p10 := B6.cell 10
             have f10 := B6.frozen 10
             have p11 := B6.cell 11
             have f11 := B6.frozen 11
             have p12 := B6.cell 12
             have f12 := B6.frozen 12
             have p13 := B6.cell 13
             have f13 := B6.frozen 13
             have p14 := B6.cell 14
             have f14 := B6.frozen 14
             simp at p0 p1 p2 p3 p4 p5 p6 p7 p8 p9 p10 p11 p12 p13 p14
             have HB6 := Lib.hid B6
             have H7 := Lib.hid h7
             clear hb7 b7 B6 h7))
    
        exact ⟨keeps_below KF7.out, HST.out, HLT.out, HTK.out, H7.out⟩
      | some q2 =>
        obtain ⟨v, i⟩ := q2
        rw [hv2] at hTV
        have hvr : vrow ⟨xk, xv⟩ = some (a2, b2, v, i) := by unfold vrow; simp only [hv1, hv2]
        have HFI := Lib.hid (show o = some (a2, b2, v, i) from (hfi (by rw [hvr]; simp)).trans hvr)
        have HTV := Lib.hid (show ∀ W, Calls Tryz.prog 151 #[.string xv] W fun e w' => e = .returned (.tuple #[.string v, .bool i, .int .i64 0]) ∧ Below W.heap.size W w' from hTV)
        clear hv1 hv2 hvr hfi hnx hRV hTV
        gi_wp2_with (first
          | (refine ⟨trivial, ?_⟩; gi_at_call 150; refine ((callsIn_wide.2 (HRV.out _)).inRound l).mono ?_; rintro e w5 ⟨rfl, hb5⟩
             have h5 := hh.keep hb5
             have h5s := h5.size
             have H6 := Lib.hid (h5.keep (nbl w5 (.cells #[.int .i64 a2, .int .i64 b2] 26)))
             have KF6 := Lib.hid (bsa hb5 (.cells #[.int .i64 a2, .int .i64 b2] 26))
             have b6 := Blk.new w5 26 #[.int .i64 a2, .int .i64 b2]
             clear hb5 h5)
          | (refine ⟨trivial, ?_⟩; gi_at_call 151; refine ((callsIn_wide.2 (HTV.out _)).inRound l).mono ?_; rintro e w7 ⟨rfl, hb7⟩
             have h7 := H6.out.keep hb7
             have KF7 := Lib.hid (bst KF6.out hb7)
             have b7 := b6.below hb7 b6.lt
             have q0 := b7.cell 0
             have q1 := b7.cell 1
             simp at q0 q1
             have k4 := (h7.blkAt (g := V.heap.size) (t := 9) (cs := #[.string key]) (by simp)).cell 0
             simp at k4
             have B6 := h7.blkAt (g := g6) (t := 73) (cs := #[.string ⟨#[]⟩, .string ⟨#[]⟩, .bool false, .bool false, .int .i64 0, .int .i64 0, .int .i64 0, .int .i64 0, .int .i64 0, .string ⟨#[]⟩, .int .i64 0, .int .i64 0, .int .i64 0, .int .i64 0, .slice none 0 0]) (by simp)
             have p0 := B6.cell 0
             have f0 := B6.frozen 0
             have p1 := B6.cell 1
             have f1 := B6.frozen 1
             have p2 := B6.cell 2
             have f2 := B6.frozen 2
             have p3 := B6.cell 3
             have f3 := B6.frozen 3
             have p4 := B6.cell 4
             have f4 := B6.frozen 4
             have p5 := B6.cell 5
             have f5 := B6.frozen 5
             have p6 := B6.cell 6
             have f6 := B6.frozen 6
             have p7 := B6.cell 7
             have f7 := B6.frozen 7
             have p8 := B6.cell 8
             have f8 := B6.frozen 8
             have p9 := B6.cell 9
             have f9 := B6.frozen 9
             have p10 := B6.cell 10
             have f10 := B6.frozen 10
             have p11 := B6.cell 11
             have f11 := B6.frozen 11
             have p12 := B6.cell 12
             have f12 := B6.frozen 12
             have p13 := B6.cell 13
             have f13 := B6.frozen 13
             have p14 := B6.cell 14
             have f14 := B6.frozen 14
             simp at p0 p1 p2 p3 p4 p5 p6 p7 p8 p9 p10 p11 p12 p13 p14
             have HB6 := Lib.hid B6
             have H7 := Lib.hid h7
             clear hb7 b7 B6 h7))
    
        have HOS := HFI.out
        subst HOS
        have H15 : Has V [blkA g6 73 (fdc (verF key (some (a2, b2, v, i))) (.slice none 0 0)), blkA g1 31 #[pt p], blkA g2 9 #[.string f], blkA g3 9 #[.string t], blkA g5 26 #[.int .i64 a, .int .i64 b], blkA V.heap.size 9 #[.string key]] _ := Has.all15 (v0 := .string key) (v1 := .string v) (v2 := .bool i) (v3 := .bool false) (v4 := .int .i64 a2) (v5 := .int .i64 b2) (v6 := .int .i64 0) (v7 := .int .i64 0) (v8 := .int .i64 0) (v9 := .string ⟨#[]⟩) (v10 := .int .i64 0) (v11 := .int .i64 0) (v12 := .int .i64 0) (v13 := .int .i64 0) (v14 := .slice none 0 0) (H7.out.perm (List.perm_middle (l₁ := [_, _, _])))
        have kf15 := (keeps_below (n := W0.heap.size) KF7.out).trans (from15 (v0 := .string key) (v1 := .string v) (v2 := .bool i) (v3 := .bool false) (v4 := .int .i64 a2) (v5 := .int .i64 b2) (v6 := .int .i64 0) (v7 := .int .i64 0) (v8 := .int .i64 0) (v9 := .string ⟨#[]⟩) (v10 := .int .i64 0) (v11 := .int .i64 0) (v12 := .int .i64 0) (v13 := .int .i64 0) (v14 := .slice none 0 0) HB6.out)
        exact ⟨kf15, rfl, H15.perm (List.perm_middle (l₁ := [_, _, _])).symm⟩
  case done =>
    rintro D b' r' n W hD hsW hno ⟨rfl, rfl, hn, hfs, hh⟩ hK
    rw [up_next HS.out _ _ hn, List.getElem?_eq_none_iff] at hno
    have hoN : o = none := by rw [← HO.out, ← (show ((btw r' f t).take n).findSome? vrow = none from hfs), List.take_of_length_le hno]
    subst hoN
    have k4 := (hh.blkAt (g := V.heap.size) (t := 9) (cs := #[.string key]) (by simp)).cell 0
    simp at k4
    have B6 := hh.blkAt (g := g6) (t := 73) (cs := #[.string ⟨#[]⟩, .string ⟨#[]⟩, .bool false, .bool false, .int .i64 0, .int .i64 0, .int .i64 0, .int .i64 0, .int .i64 0, .string ⟨#[]⟩, .int .i64 0, .int .i64 0, .int .i64 0, .int .i64 0, .slice none 0 0]) (by simp)
    have p0 := B6.cell 0
    have f0 := B6.frozen 0
    have p1 := B6.cell 1
    have f1 := B6.frozen 1
    have p2 := B6.cell 2
    have f2 := B6.frozen 2
    have p3 := B6.cell 3
    have f3 := B6.frozen 3
    have p4 := B6.cell 4
    have f4 := B6.frozen 4
    have p5 := B6.cell 5
    have f5 := B6.frozen 5
    have p6 := B6.cell 6
    have f6 := B6.frozen 6
    have p7 := B6.cell 7
    have f7 := B6.frozen 7
    have p8 := B6.cell 8
    have f8 := B6.frozen 8
    have p9 := B6.cell 9
    have f9 := B6.frozen 9
    have p10 := B6.cell 10
    have f10 := B6.frozen 10
    have p11 := B6.cell 11
    have f11 := B6.frozen 11
    have p12 := B6.cell 12
    have f12 := B6.frozen 12
    have p13 := B6.cell 13
    have f13 := B6.frozen 13
    have p14 := B6.cell 14
    have f14 := B6.frozen 14
    simp at p0 p1 p2 p3 p4 p5 p6 p7 p8 p9 p10 p11 p12 p13 p14
    have HB6 := Lib.hid B6
    have HH := Lib.hid hh
    clear B6 hh hno
    go_wp2_with fail
    have hne : D ≠ g6 := by
      rintro rfl
      have := HB6.out
      unfold Blk at this
      rw [hK] at this
      cases this
    have hK2 := heap15 (v0 := .string key) (v1 := .string ⟨#[]⟩) (v2 := .bool false) (v3 := .bool false) (v4 := .int .i64 0) (v5 := .int .i64 0) (v6 := .int .i64 0) (v7 := .int .i64 0) (v8 := .int .i64 0) (v9 := .string ⟨#[]⟩) (v10 := .int .i64 0) (v11 := .int .i64 0) (v12 := .int .i64 0) (v13 := .int .i64 0) (v14 := .slice none 0 0) hne hK
    have H15 : Has V [blkA g6 73 (fdc (verF key none) (.slice none 0 0)), blkA g1 31 #[pt p], blkA g2 9 #[.string f], blkA g3 9 #[.string t], blkA g5 26 #[.int .i64 a, .int .i64 b], blkA V.heap.size 9 #[.string key]] _ := Has.all15 (v0 := .string key) (v1 := .string ⟨#[]⟩) (v2 := .bool false) (v3 := .bool false) (v4 := .int .i64 0) (v5 := .int .i64 0) (v6 := .int .i64 0) (v7 := .int .i64 0) (v8 := .int .i64 0) (v9 := .string ⟨#[]⟩) (v10 := .int .i64 0) (v11 := .int .i64 0) (v12 := .int .i64 0) (v13 := .int .i64 0) (v14 := .slice none 0 0) (HH.out.perm (List.perm_middle (l₁ := [_, _, _])))
    refine ⟨by simp, .inl ⟨_, _, rfl, run_takeDeferred hK2, ?_⟩⟩
    have hfin := H15.firm (.put (B := V.heap.size) D (.deferred none) (by omega) hK2 rfl) (Nat.le_refl _) (fun A hA => by
      simp only [List.mem_cons, List.not_mem_nil, or_false] at hA
      rcases hA with rfl | rfl | rfl | rfl | rfl | rfl <;> exact cel_blk _ _ _)
    exact ⟨_, results_fd rfl rfl (hfin.blkAt (g := g6) (t := 73) (cs := fdc (verF key none) (.slice none 0 0)) (by simp)) rfl, rfl, hfin.bel⟩
  case stop =>
    rintro D c W hD hsW ⟨rfl, hh⟩ hK
    go_wp2_with fail
    refine ⟨by simp, .inl ⟨_, _, rfl, run_takeDeferred hK, ?_⟩⟩
    have hf : Firm V.heap.size W (W.putObj D (.deferred none)) := .put D _ (by omega) hK rfl
    have hfin := hh.firm hf (Nat.le_refl _) (fun A hA => by
      simp only [List.mem_cons, List.not_mem_nil, or_false] at hA
      rcases hA with rfl | rfl | rfl | rfl | rfl | rfl <;> exact cel_blk _ _ _)
    exact ⟨_, results_fd rfl rfl (hfin.blkAt (g := g6) (t := 73) (cs := fdc (verF key o) (.slice none 0 0)) (by simp)) rfl, rfl, hfin.bel⟩
end Go.Proofs.YtgccichmdddbpaaGreatDoor
set_option linter.unusedVariables false
set_option linter.unusedSimpArgs false
set_option maxRecDepth 100000
namespace Go.Proofs.YtgccichmdddbpaaGreatDoor
open Go.RowKit

set_option maxHeartbeats 4000000 in
theorem idxP {S : Type} (ok : S → Int × Int → Bool) (nx : S → Int × Int → S) (J : S → World → Prop) (A : Option Addr) (n c : Nat) (l : List (Int × Int)) (hn : n ≤ 9223372036854775807)
    (hat : ∀ s W, J s W → Stamps W A n l)
    (step : ∀ s (c : Int × Int) W, J s W → Calls Tryz.prog 169 #[(sv c.1 c.2)] W fun e w' => e = .returned (.bool (!(ok s c))) ∧ J (nx s c) w')
    (s : S) (w : World) (hJ : J s w) :
    Calls Tryz.prog 180 #[.slice A n c, .func (.func 169) #[] #[]] w fun e w' => ∃ k : Int, e = .returned (.int .i64 k) ∧ decide (0 ≤ k) = !(scan ok nx s l) ∧ ∃ s', J s' w' := by
  have ST := Lib.hid step
  have HF := Lib.hid hat
  clear step hat
  go_enter Tryz.func180, Tryz.ntmps180
  go_wp2
  go_loopw [8] (fun i wr => ∃ (k : Nat) (s' : S), k ≤ n ∧ i = .int .i64 k ∧ Hid (scan ok nx s' (l.drop k) = scan ok nx s l) ∧ J s' wr) (fun i _ => n - (intOf i).toNat)
  case atStart => exact ⟨0, s, Nat.zero_le _, rfl, rfl, hJ⟩
  case round =>
    obtain ⟨k, s', hk, rfl, hrun, hRep⟩ := hrel
    have hfa := HF.out s' wr hRep
    have hlen := hfa.1
    by_cases hlt : k < n
    · have hkl : k < l.length := by omega
      obtain ⟨b, o, rfl, hc⟩ := hfa.2 (by omega)
      obtain ⟨h1, h2⟩ := hc k hkl
      have hs := ST.out s' (l[k]'hkl) wr hRep
      have hd : l.drop k = (l[k]'hkl) :: l.drop (k + 1) := List.drop_eq_getElem_cons hkl
      have hrun' := hrun.out
      rw [hd] at hrun'
      generalize (l[k]'hkl) = x at *
      clear hc hfa HF ST hd hrun
      cases hok : ok s' x with
      | true =>
        have HR := Lib.hid (show scan ok nx (nx s' x) (l.drop (k + 1)) = scan ok nx s l by rw [← hrun', scan, hok, Bool.true_and])
        rw [hok] at hs
        clear hrun' hok
        go_wp2_with fail
        refine hs.mono ?_
        rintro e w2 ⟨rfl, h2⟩
        go_wp2
        go_roundw
        case rel => exact ⟨k + 1, _, by omega, by go_num, HR, h2⟩
        case measure => simp [intOf]; omega
      | false =>
        have HR := Lib.hid (show scan ok nx s l = false by rw [← hrun', scan, hok, Bool.false_and])
        rw [hok] at hs
        clear hrun' hok
        go_wp2_with fail
        refine hs.mono ?_
        rintro e w2 ⟨rfl, h2⟩
        go_wp2
        go_ret
        exact ⟨k, rfl, by rw [HR.out]; exact decide_eq_true (by omega), _, h2⟩
    · have HR := Lib.hid (show scan ok nx s l = true by rw [← hrun.out, List.drop_of_length_le (by omega), scan])
      clear hrun HF ST hfa
      go_wp2
      go_ret
      exact ⟨-1, rfl, by rw [HR.out]; rfl, _, hRep⟩
theorem conP {S : Type} (ok : S → Int × Int → Bool) (nx : S → Int × Int → S) (J : S → World → Prop) (A : Option Addr) (n c : Nat) (l : List (Int × Int)) (hn : n ≤ 9223372036854775807)
    (hat : ∀ s W, J s W → Stamps W A n l)
    (step : ∀ s (c : Int × Int) W, J s W → Calls Tryz.prog 169 #[(sv c.1 c.2)] W fun e w' => e = .returned (.bool (!(ok s c))) ∧ J (nx s c) w')
    (s : S) (w : World) (hJ : J s w) :
    Calls Tryz.prog 135 #[.slice A n c, .func (.func 169) #[] #[]] w fun e w' => e = .returned (.bool (!(scan ok nx s l))) ∧ ∃ s', J s' w' := by
  have HI := Lib.hid (idxP ok nx J A n c l hn hat step s w hJ)
  clear step hat hJ
  go_enter Tryz.func135, Tryz.ntmps135
  go_wp2_with fail
  refine HI.out.mono ?_
  rintro e w1 ⟨k, rfl, hk, h1⟩
  have HK := Lib.hid hk
  clear hk
  go_wp2
  go_ret
  exact ⟨congrArg (fun b => Ending.returned (Value.bool b)) HK.out, h1⟩

theorem pkOne (c : Int × Int) (W : World) :
    Calls Tryz.prog 169 #[sv c.1 c.2] W fun e w' => e = .returned (.bool (!(mayP c))) ∧ Below W.heap.size W w' := by
  obtain ⟨x, y⟩ := c
  have h3 := Blk.new W 26 #[.int .i64 x, .int .i64 y]
  have HO := Lib.hid (check_c x y (W.alloc (.cells #[.int .i64 x, .int .i64 y] 26)))
  have c0 := h3.cell 0
  have c1 := h3.cell 1
  simp at c0 c1
  clear h3
  have hck : (ck x y != 0) = !mayP (x, y) := by
    unfold ck mayP
    cases may x y <;> rfl
  obtain ⟨kk, hkk⟩ : ∃ kk, ck x y = kk := ⟨_, rfl⟩
  rw [hkk] at HO hck
  rw [← hck]
  clear hkk hck
  go_enter Tryz.func169, Tryz.ntmps169
  go_wp2_with (go_at_call 23; refine HO.out.mono ?_; rintro e w1 ⟨rfl, q1⟩)
  have q3 := (nbl W (.cells #[.int .i64 x, .int .i64 y] 26)).trans (q1.mono (by simp))
  go_ret
  exact ⟨rfl, q3⟩
theorem pkStamps (A : Option Addr) (n c : Nat) (l : List (Int × Int)) (b : Bool) (hb : l.all mayP = b) (w : World) (hn : n ≤ 9223372036854775807) (hx : Stamps w A n l) :
    Calls Tryz.prog 122 #[.slice A n c] w fun e w' => e = .returned (.bool b) ∧ Below w.heap.size w w' := by
  have HC := Lib.hid (conP (fun (_ : Unit) p => mayP p) (fun u _ => u) (fun _ W => Below w.heap.size w W) A n c l hn (fun s W h => hx.below' h)
    (fun s x W h => (pkOne x W).mono fun e w' ⟨h1, h3⟩ => ⟨h1, h.trans (h3.mono h.size)⟩) () w (Below.refl _ _))
  rw [scan_all, hb] at HC
  clear hb hx
  go_enter Tryz.func122, Tryz.ntmps122
  go_wp2_with fail
  refine HC.out.mono ?_
  rintro e w1 ⟨rfl, s', h1⟩
  go_wp2
  go_ret
  exact ⟨by simp, h1⟩
theorem pkIsKey (key : ByteArray) (w : World) (hM : MaxL w) : Calls Tryz.prog 73 #[.string key] w fun e w' => e = .returned (.bool (isK key)) ∧ Below w.heap.size w w' := by
  have HK := Lib.hid (intentKey_c key w hM)
  have hf : ∃ s n, markK [105] key [] = .returned (.tuple #[.string s, .int .i64 n]) ∧ (n == 0) = isK key := by
    unfold markK
    cases isK key
    · exact ⟨_, _, rfl, rfl⟩
    · exact ⟨_, _, rfl, rfl⟩
  obtain ⟨s, n, hs, hn⟩ := hf
  rw [hs] at HK
  rw [← hn]
  clear hs hn
  go_enter Tryz.func73, Tryz.ntmps73
  go_wp2_with (go_at_call 89; refine HK.out.mono ?_; rintro e w1 ⟨rfl, hb1⟩)
  go_ret
  exact ⟨rfl, hb1⟩
theorem two_stamps (w : World) (a b c d : Int) : Stamps (w.alloc (.cells #[.int .i64 a, .int .i64 b, .int .i64 c, .int .i64 d] 26)) (some ⟨w.heap.size, 0, none⟩) 2 [(a, b), (c, d)] := by
  have h := Blk.new w 26 #[.int .i64 a, .int .i64 b, .int .i64 c, .int .i64 d]
  refine ⟨rfl, fun _ => ⟨w.heap.size, 0, rfl, fun i hi => ?_⟩⟩
  have : i = 0 ∨ i = 1 := by simp at hi; omega
  rcases this with rfl | rfl
  · exact ⟨h.cell 0, h.cell 1⟩
  · exact ⟨h.cell 2, h.cell 3⟩
theorem one_stamp (w : World) (a b : Int) : Stamps (w.alloc (.cells #[.int .i64 a, .int .i64 b] 26)) (some ⟨w.heap.size, 0, none⟩) 1 [(a, b)] := by
  have h := Blk.new w 26 #[.int .i64 a, .int .i64 b]
  refine ⟨rfl, fun _ => ⟨w.heap.size, 0, rfl, fun i hi => ?_⟩⟩
  have : i = 0 := by simp at hi; omega
  subst this
  exact ⟨h.cell 0, h.cell 1⟩
set_option maxHeartbeats 2000000 in
theorem pkTop (x : Tx) (w : World) : Calls Tryz.prog 26 #[txv x] w fun e w' => e = .returned (sv (topX x).1 (topX x).2) ∧ Below w.heap.size w w' := by
  have hmx : mx [(x.rw, x.rl), (x.lw, x.ll)] = topX x := rfl
  have HM := Lib.hid (fun (A : Option Addr) (V : World) h => max_c A 2 2 [(x.rw, x.rl), (x.lw, x.ll)] V h (by decide))
  rw [hmx] at HM
  generalize topX x = m at *
  obtain ⟨m1, m2⟩ := m
  clear hmx
  obtain ⟨x0, x1, x2, x3, x4, x5, x6, x7, x8, x9, x10, x11⟩ := x
  have hz1 : (w.alloc (.cells (txc ⟨x0, x1, x2, x3, x4, x5, x6, x7, x8, x9, x10, x11⟩) 28)).heap.size = w.heap.size + 1 := World.size_alloc _ _
  have hz2 : ((w.alloc (.cells (txc ⟨x0, x1, x2, x3, x4, x5, x6, x7, x8, x9, x10, x11⟩) 28)).alloc (.cells #[.int .i64 0, .int .i64 0] 26)).heap.size = w.heap.size + 1 + 1 := (World.size_alloc _ _).trans (by rw [hz1])
  have hs := two_stamps ((w.alloc (.cells (txc ⟨x0, x1, x2, x3, x4, x5, x6, x7, x8, x9, x10, x11⟩) 28)).alloc (.cells #[.int .i64 0, .int .i64 0] 26)) x4 x5 x8 x9
  rw [hz2] at hs
  have hB := Box.new (w.alloc (.cells (txc ⟨x0, x1, x2, x3, x4, x5, x6, x7, x8, x9, x10, x11⟩) 28)) 0 0
  rw [hz1] at hB
  have hB1 := hB.keep (nbl _ (.cells #[.int .i64 x4, .int .i64 x5, .int .i64 x8, .int .i64 x9] 26))
  have g1 := bsa (bsa (nbl w (.cells (txc ⟨x0, x1, x2, x3, x4, x5, x6, x7, x8, x9, x10, x11⟩) 28)) (.cells #[.int .i64 0, .int .i64 0] 26)) (.cells #[.int .i64 x4, .int .i64 x5, .int .i64 x8, .int .i64 x9] 26)
  have HC := Lib.hid (HM.out _ _ hs)
  have HB1 := Lib.hid hB1
  have HG1 := Lib.hid g1
  clear hs hB hB1 g1 hz1 hz2 HM
  go_enter Tryz.func26, Tryz.ntmps26
  go_wp2_with fail
  refine HC.out.mono ?_
  rintro e w1 ⟨rfl, hb1⟩
  have hB2 := HB1.out.keep hb1
  have g0 := bst HG1.out hb1
  have r0 := hB2.c0
  have r1 := hB2.c1
  have f0 := hB2.fz 0
  have f1 := hB2.fz 1
  clear hb1
  go_wp2
  exact ret_one rfl rfl ((hB2.put0 _).put1 _) rfl ⟨rfl, (g0.setCell (by simp) _).setCell (by simp) _⟩
set_option maxHeartbeats 2000000 in
theorem pkMay (x : Tx) (w : World) : Calls Tryz.prog 121 #[txv x] w fun e w' => e = .returned (.bool (mayX x)) ∧ Below w.heap.size w w' := by
  have HA := Lib.hid (pkStamps (some ⟨w.heap.size + 1, 0, none⟩) 2 2 [(x.rw, x.rl), (x.lw, x.ll)] (may x.rw x.rl && may x.lw x.ll) (by simp [mayP]) ((w.alloc (.cells (txc x) 28)).alloc (.cells #[.int .i64 x.rw, .int .i64 x.rl, .int .i64 x.lw, .int .i64 x.ll] 26)) (by decide)
    (by have := two_stamps (w.alloc (.cells (txc x) 28)) x.rw x.rl x.lw x.ll; simpa using this))
  have HG := Lib.hid (bsa (nbl w (.cells (txc x) 28)) (.cells #[.int .i64 x.rw, .int .i64 x.rl, .int .i64 x.lw, .int .i64 x.ll] 26))
  have HG1 := Lib.hid (nbl w (.cells (txc x) 28))
  unfold mayX idOk
  obtain ⟨bb, hbb⟩ : ∃ bb, (may x.rw x.rl && may x.lw x.ll) = bb := ⟨_, rfl⟩
  rw [hbb] at HA ⊢
  clear hbb
  obtain ⟨x0, x1, x2, x3, x4, x5, x6, x7, x8, x9, x10, x11⟩ := x
  simp only at HA HG HG1 ⊢
  by_cases c1 : 1 ≤ x0
  · by_cases c2 : x0 ≤ 9007199254740991
    · by_cases c3 : 0 ≤ x1
      · by_cases c4 : x1 ≤ 9007199254740991
        · rw [decide_eq_true (show 1 ≤ x0 ∧ x0 ≤ 9007199254740991 ∧ 0 ≤ x1 ∧ x1 ≤ 9007199254740991 from ⟨c1, c2, c3, c4⟩)]
          go_enter Tryz.func121, Tryz.ntmps121
          go_wp2_with (go_at_call 122; refine HA.out.mono ?_; rintro e w1 ⟨rfl, hb1⟩)
          go_ret
          exact ⟨by simp, bst HG.out hb1⟩
        · rw [decide_eq_false (show ¬ (1 ≤ x0 ∧ x0 ≤ 9007199254740991 ∧ 0 ≤ x1 ∧ x1 ≤ 9007199254740991) from fun h => c4 h.2.2.2)]
          go_enter Tryz.func121, Tryz.ntmps121
          go_wp2
          go_ret
          exact ⟨by simp, HG1.out⟩
      · rw [decide_eq_false (show ¬ (1 ≤ x0 ∧ x0 ≤ 9007199254740991 ∧ 0 ≤ x1 ∧ x1 ≤ 9007199254740991) from fun h => c3 h.2.2.1)]
        go_enter Tryz.func121, Tryz.ntmps121
        go_wp2
        go_ret
        exact ⟨by simp, HG1.out⟩
    · rw [decide_eq_false (show ¬ (1 ≤ x0 ∧ x0 ≤ 9007199254740991 ∧ 0 ≤ x1 ∧ x1 ≤ 9007199254740991) from fun h => c2 h.2.1)]
      go_enter Tryz.func121, Tryz.ntmps121
      go_wp2
      go_ret
      exact ⟨by simp, HG1.out⟩
  · rw [decide_eq_false (show ¬ (1 ≤ x0 ∧ x0 ≤ 9007199254740991 ∧ 0 ≤ x1 ∧ x1 ≤ 9007199254740991) from fun h => c1 h.1)]
    go_enter Tryz.func121, Tryz.ntmps121
    go_wp2
    go_ret
    exact ⟨by simp, HG1.out⟩
end Go.Proofs.YtgccichmdddbpaaGreatDoor
set_option linter.unusedVariables false
set_option linter.unusedSimpArgs false
set_option maxRecDepth 100000
namespace Go.Proofs.YtgccichmdddbpaaGreatDoor
open Go.RowKit

theorem below15 {B g : Nat} {w W : World} {v0 v1 v2 v3 v4 v5 v6 v7 v8 v9 v10 v11 v12 v13 v14 : Value} (h : Below B w W) (hg : B ≤ g) : Below B w (((((((((((((((W.setCell ⟨g, 0, none⟩ v0).setCell ⟨g, 1, none⟩ v1).setCell ⟨g, 2, none⟩ v2).setCell ⟨g, 3, none⟩ v3).setCell ⟨g, 4, none⟩ v4).setCell ⟨g, 5, none⟩ v5).setCell ⟨g, 6, none⟩ v6).setCell ⟨g, 7, none⟩ v7).setCell ⟨g, 8, none⟩ v8).setCell ⟨g, 9, none⟩ v9).setCell ⟨g, 10, none⟩ v10).setCell ⟨g, 11, none⟩ v11).setCell ⟨g, 12, none⟩ v12).setCell ⟨g, 13, none⟩ v13).setCell ⟨g, 14, none⟩ v14) := (((((((((((((((h.setCell (by exact hg) _).setCell (by exact hg) _).setCell (by exact hg) _).setCell (by exact hg) _).setCell (by exact hg) _).setCell (by exact hg) _).setCell (by exact hg) _).setCell (by exact hg) _).setCell (by exact hg) _).setCell (by exact hg) _).setCell (by exact hg) _).setCell (by exact hg) _).setCell (by exact hg) _).setCell (by exact hg) _).setCell (by exact hg) _)
theorem ChAt.put15 {W : World} {A : Option Addr} {n g : Nat} {l : List Ch} {v0 v1 v2 v3 v4 v5 v6 v7 v8 v9 v10 v11 v12 v13 v14 : Value} (h : ChAt W A n l) (ha : 0 < n → ∀ a, A = some a → a.block ≠ g) : ChAt (((((((((((((((W.setCell ⟨g, 0, none⟩ v0).setCell ⟨g, 1, none⟩ v1).setCell ⟨g, 2, none⟩ v2).setCell ⟨g, 3, none⟩ v3).setCell ⟨g, 4, none⟩ v4).setCell ⟨g, 5, none⟩ v5).setCell ⟨g, 6, none⟩ v6).setCell ⟨g, 7, none⟩ v7).setCell ⟨g, 8, none⟩ v8).setCell ⟨g, 9, none⟩ v9).setCell ⟨g, 10, none⟩ v10).setCell ⟨g, 11, none⟩ v11).setCell ⟨g, 12, none⟩ v12).setCell ⟨g, 13, none⟩ v13).setCell ⟨g, 14, none⟩ v14) A n l := (((((((((((((((h.put ha).put ha).put ha).put ha).put ha).put ha).put ha).put ha).put ha).put ha).put ha).put ha).put ha).put ha).put ha)
/-- What read, Get answer. -/
def AnsF (o : Fd × Int) (e : Ending) (w' : World) : Prop := ∃ A n c, e = .returned (.tuple #[fdv o.1 (.slice A n c), .int .i64 o.2]) ∧ ChAt w' A n o.1.it.l ∧ n ≤ 9223372036854775807
theorem verF_it (key : ByteArray) (o : Option Ver) : (verF key o).it = zI ∧ (verF key o).own = false ∧ (verF key o).key = key := by
  cases o with
  | none => exact ⟨rfl, rfl, rfl⟩
  | some q => exact ⟨rfl, rfl, rfl⟩
theorem tkI_may {b : List UInt8} {y : It} (h : tkI b = some y) : mayI y = true ∧ y.l ≠ [] := by
  unfold tkI at h
  split at h
  · rename_i hm
    cases h
    refine ⟨hm.2, fun e => ?_⟩
    have := hm.2
    unfold mayI at this
    rw [e] at this
    simp at this
  · cases h
theorem top_may {x : Tx} (h : mayX x = true) : may (topX x).1 (topX x).2 = true := by
  unfold mayX at h
  simp only [Bool.and_eq_true] at h
  unfold topX two
  split
  · exact h.2.2
  · exact h.2.1
/-- What a transaction at some place is seen to be: two stamps, two numbers. -/
theorem newF_is (v : Option Ver) (key : ByteArray) (x : Tx) (u : Fd) (hu : verF key v = u) : newF v key x = if lt (u.sw, u.sl) (x.rw, x.rl) = false then (⟨key, ⟨#[]⟩, false, false, u.sw, u.sl, zI⟩, 121) else (u, 0) := by
  subst hu
  rfl
end Go.Proofs.YtgccichmdddbpaaGreatDoor
set_option linter.unusedVariables false
set_option linter.unusedSimpArgs false
set_option maxRecDepth 100000
namespace Go.Proofs.YtgccichmdddbpaaGreatDoor
open Go.RowKit
set_option maxHeartbeats 8000000 in
theorem read_none_false {V : World} {p : Nat} (key : ByteArray) (x0 x1 x2 : Int) (x3 : ByteArray) (x4 x5 x6 x7 x8 x9 x10 x11 m1 m2 : Int) (uk uv : ByteArray) (ui uo : Bool) (usw usl : Int)
    (HT : Hid (∀ W, Calls Tryz.prog 26 #[txv ⟨x0, x1, x2, x3, x4, x5, x6, x7, x8, x9, x10, x11⟩] W fun e w' => e = .returned (sv m1 m2) ∧ Below W.heap.size W w'))
    (HI : Hid (∀ W, Below V.heap.size V W → Calls Tryz.prog 123 #[pt p, .string key] W fun e w' => e = .returned (.tuple #[itv zI (.slice none 0 0), .bool false]) ∧ Below W.heap.size W w'))
    (HV : Hid (∀ W, Below V.heap.size V W → Calls Tryz.prog 125 #[pt p, .string key, sv m1 m2] W fun e w' => e = .returned (fdv ⟨uk, uv, ui, uo, usw, usl, zI⟩ (.slice none 0 0)) ∧ Below W.heap.size W w'))
    (HL2 : Hid (∀ W, Calls Tryz.prog 22 #[sv usw usl, sv x4 x5] W fun e w' => e = .returned (.bool false) ∧ Below W.heap.size W w'))
    : Calls Tryz.prog 74 #[pt p, .string key, txv ⟨x0, x1, x2, x3, x4, x5, x6, x7, x8, x9, x10, x11⟩] V fun e w' => AnsF (⟨key, ⟨#[]⟩, false, false, usw, usl, zI⟩, 121) e w' ∧ Below V.heap.size V w' := by
  have hz1 : (V.alloc (.cells (txc ⟨x0, x1, x2, x3, x4, x5, x6, x7, x8, x9, x10, x11⟩) 28)).heap.size = V.heap.size + 1 := World.size_alloc _ _
  have TX0 := Lib.hid ((Blk.new V 28 (txc ⟨x0, x1, x2, x3, x4, x5, x6, x7, x8, x9, x10, x11⟩)).below (nbl _ (.cells (fdc zF (.slice none 0 0)) 73)) (Blk.new V 28 _).lt)
  have RB0 := Lib.hid (Blk.new (V.alloc (.cells (txc ⟨x0, x1, x2, x3, x4, x5, x6, x7, x8, x9, x10, x11⟩) 28)) 73 (fdc zF (.slice none 0 0)))
  rw [hz1] at RB0
  have G0 := Lib.hid (bsa (nbl V (.cells (txc ⟨x0, x1, x2, x3, x4, x5, x6, x7, x8, x9, x10, x11⟩) 28)) (.cells (fdc zF (.slice none 0 0)) 73))
  clear hz1
  go_enter Tryz.func74, Tryz.ntmps74
  go_wp2_with (first
      | (go_at_call 26; refine (HT.out _).mono ?_; rintro e w1 ⟨rfl, hb1⟩
         have g1 := bsa (bst G0.out hb1) (.cells #[.int .i64 m1, .int .i64 m2] 26)
         have hb1' := bsa hb1 (.cells #[.int .i64 m1, .int .i64 m2] 26)
         have TX1 := Lib.hid (TX0.out.below hb1' TX0.out.lt)
         have RB1 := Lib.hid (RB0.out.below hb1' RB0.out.lt)
         have ST1 := Lib.hid (Blk.new w1 26 #[.int .i64 m1, .int .i64 m2])
         have G1 := Lib.hid g1
         clear hb1 hb1' g1)
      | (go_at_call 123; refine (HI.out _ G1.out).mono ?_; rintro e w2 ⟨rfl, hb2⟩
         have hb2' := bsa hb2 (.cells (itc zI (.slice none 0 0)) 38)
         have tx2 := TX1.out.below hb2' TX1.out.lt
         have rb2 := RB1.out.below hb2' RB1.out.lt
         have st2 := ST1.out.below hb2' ST1.out.lt
         have G2 := Lib.hid (bst G1.out hb2')
         have x2_0 := tx2.cell 0
         have x2_1 := tx2.cell 1
         simp at x2_0 x2_1
         have s2_0 := st2.cell 0
         have s2_1 := st2.cell 1
         simp at s2_0 s2_1
         have r2_0 := rb2.cell 0
         have q2_0 := rb2.frozen 0
         have r2_1 := rb2.cell 1
         have q2_1 := rb2.frozen 1
         have r2_2 := rb2.cell 2
         have q2_2 := rb2.frozen 2
         have r2_3 := rb2.cell 3
         have q2_3 := rb2.frozen 3
         have r2_4 := rb2.cell 4
         have q2_4 := rb2.frozen 4
         have r2_5 := rb2.cell 5
         have q2_5 := rb2.frozen 5
         have r2_6 := rb2.cell 6
         have q2_6 := rb2.frozen 6
         have r2_7 := rb2.cell 7
         have q2_7 := rb2.frozen 7
         have r2_8 := rb2.cell 8
         have q2_8 := rb2.frozen 8
         have r2_9 := rb2.cell 9
         have q2_9 := rb2.frozen 9
         have r2_10 := rb2.cell 10
         have q2_10 := rb2.frozen 10
         have r2_11 := rb2.cell 11
         have q2_11 := rb2.frozen 11
         have r2_12 := rb2.cell 12
         have q2_12 := rb2.frozen 12
         have r2_13 := rb2.cell 13
         have q2_13 := rb2.frozen 13
         have r2_14 := rb2.cell 14
         have q2_14 := rb2.frozen 14
         simp at r2_0 r2_1 r2_2 r2_3 r2_4 r2_5 r2_6 r2_7 r2_8 r2_9 r2_10 r2_11 r2_12 r2_13 r2_14
         have TX2 := Lib.hid tx2
         have RB2 := Lib.hid rb2
         have ST2 := Lib.hid st2
         clear hb2 hb2' tx2 rb2 st2)
      | (go_at_call 125; refine (HV.out _ G2.out).mono ?_; rintro e w4 ⟨rfl, hb4⟩
         have hb4' := bsa hb4 (.cells (fdc ⟨uk, uv, ui, uo, usw, usl, zI⟩ (.slice none 0 0)) 73)
         have tx4 := TX2.out.below hb4' TX2.out.lt
         have rb4 := RB2.out.below hb4' RB2.out.lt
         have nb4 := Blk.new w4 73 (fdc ⟨uk, uv, ui, uo, usw, usl, zI⟩ (.slice none 0 0))
         have G4 := Lib.hid (bst G2.out hb4')
         have x4_4 := tx4.cell 4
         have x4_5 := tx4.cell 5
         simp at x4_4 x4_5
         have TX4 := Lib.hid tx4
         have RB4 := Lib.hid rb4
         have NB4 := Lib.hid nb4
         clear hb4 hb4' tx4 rb4 nb4)
      | (go_at_call_of 22 (Value.agg #[Value.int .i64 usw, Value.int .i64 usl]); refine (HL2.out _).mono ?_; rintro e w5 ⟨rfl, hb5⟩
         have rb5 := RB4.out.below hb5 RB4.out.lt
         have nb5 := NB4.out.below hb5 NB4.out.lt
         have r5_0 := rb5.cell 0
         have q5_0 := rb5.frozen 0
         have r5_1 := rb5.cell 1
         have q5_1 := rb5.frozen 1
         have r5_2 := rb5.cell 2
         have q5_2 := rb5.frozen 2
         have r5_3 := rb5.cell 3
         have q5_3 := rb5.frozen 3
         have r5_4 := rb5.cell 4
         have q5_4 := rb5.frozen 4
         have r5_5 := rb5.cell 5
         have q5_5 := rb5.frozen 5
         have r5_6 := rb5.cell 6
         have q5_6 := rb5.frozen 6
         have r5_7 := rb5.cell 7
         have q5_7 := rb5.frozen 7
         have r5_8 := rb5.cell 8
         have q5_8 := rb5.frozen 8
         have r5_9 := rb5.cell 9
         have q5_9 := rb5.frozen 9
         have r5_10 := rb5.cell 10
         have q5_10 := rb5.frozen 10
         have r5_11 := rb5.cell 11
         have q5_11 := rb5.frozen 11
         have r5_12 := rb5.cell 12
         have q5_12 := rb5.frozen 12
         have r5_13 := rb5.cell 13
         have q5_13 := rb5.frozen 13
         have r5_14 := rb5.cell 14
         have q5_14 := rb5.frozen 14
         simp at r5_0 r5_1 r5_2 r5_3 r5_4 r5_5 r5_6 r5_7 r5_8 r5_9 r5_10 r5_11 r5_12 r5_13 r5_14
         have n5_0 := nb5.cell 0
         have n5_1 := nb5.cell 1
         have n5_2 := nb5.cell 2
         have n5_3 := nb5.cell 3
         have n5_4 := nb5.cell 4
         have n5_5 := nb5.cell 5
         have n5_6 := nb5.cell 6
         have n5_7 := nb5.cell 7
         have n5_8 := nb5.cell 8
         have n5_9 := nb5.cell 9
         have n5_10 := nb5.cell 10
         have n5_11 := nb5.cell 11
         have n5_12 := nb5.cell 12
         have n5_13 := nb5.cell 13
         have n5_14 := nb5.cell 14
         simp at n5_0 n5_1 n5_2 n5_3 n5_4 n5_5 n5_6 n5_7 n5_8 n5_9 n5_10 n5_11 n5_12 n5_13 n5_14
         have RB5 := Lib.hid rb5
         have G5 := Lib.hid (bst G4.out hb5)
         clear hb5 rb5 nb5))
  refine ret_fd2 rfl rfl (Blk.all15 (v0 := .string key) (v1 := .string ⟨#[]⟩) (v2 := .bool false) (v3 := .bool false) (v4 := .int .i64 usw) (v5 := .int .i64 usl) (v6 := .int .i64 0) (v7 := .int .i64 0) (v8 := .int .i64 0) (v9 := .string ⟨#[]⟩) (v10 := .int .i64 0) (v11 := .int .i64 0) (v12 := .int .i64 0) (v13 := .int .i64 0) (v14 := .slice none 0 0) (by exact RB5.out)) rfl rfl ⟨⟨none, 0, 0, rfl, ChAt.nil _ _, by omega⟩, below15 G5.out (by exact Nat.le_succ _)⟩
set_option maxHeartbeats 8000000 in
theorem read_none_true {V : World} {p : Nat} (key : ByteArray) (x0 x1 x2 : Int) (x3 : ByteArray) (x4 x5 x6 x7 x8 x9 x10 x11 m1 m2 : Int) (uk uv : ByteArray) (ui uo : Bool) (usw usl : Int)
    (HT : Hid (∀ W, Calls Tryz.prog 26 #[txv ⟨x0, x1, x2, x3, x4, x5, x6, x7, x8, x9, x10, x11⟩] W fun e w' => e = .returned (sv m1 m2) ∧ Below W.heap.size W w'))
    (HI : Hid (∀ W, Below V.heap.size V W → Calls Tryz.prog 123 #[pt p, .string key] W fun e w' => e = .returned (.tuple #[itv zI (.slice none 0 0), .bool false]) ∧ Below W.heap.size W w'))
    (HV : Hid (∀ W, Below V.heap.size V W → Calls Tryz.prog 125 #[pt p, .string key, sv m1 m2] W fun e w' => e = .returned (fdv ⟨uk, uv, ui, uo, usw, usl, zI⟩ (.slice none 0 0)) ∧ Below W.heap.size W w'))
    (HL2 : Hid (∀ W, Calls Tryz.prog 22 #[sv usw usl, sv x4 x5] W fun e w' => e = .returned (.bool true) ∧ Below W.heap.size W w'))
    : Calls Tryz.prog 74 #[pt p, .string key, txv ⟨x0, x1, x2, x3, x4, x5, x6, x7, x8, x9, x10, x11⟩] V fun e w' => AnsF (⟨uk, uv, ui, uo, usw, usl, zI⟩, 0) e w' ∧ Below V.heap.size V w' := by
  have hz1 : (V.alloc (.cells (txc ⟨x0, x1, x2, x3, x4, x5, x6, x7, x8, x9, x10, x11⟩) 28)).heap.size = V.heap.size + 1 := World.size_alloc _ _
  have TX0 := Lib.hid ((Blk.new V 28 (txc ⟨x0, x1, x2, x3, x4, x5, x6, x7, x8, x9, x10, x11⟩)).below (nbl _ (.cells (fdc zF (.slice none 0 0)) 73)) (Blk.new V 28 _).lt)
  have RB0 := Lib.hid (Blk.new (V.alloc (.cells (txc ⟨x0, x1, x2, x3, x4, x5, x6, x7, x8, x9, x10, x11⟩) 28)) 73 (fdc zF (.slice none 0 0)))
  rw [hz1] at RB0
  have G0 := Lib.hid (bsa (nbl V (.cells (txc ⟨x0, x1, x2, x3, x4, x5, x6, x7, x8, x9, x10, x11⟩) 28)) (.cells (fdc zF (.slice none 0 0)) 73))
  clear hz1
  go_enter Tryz.func74, Tryz.ntmps74
  go_wp2_with (first
      | (go_at_call 26; refine (HT.out _).mono ?_; rintro e w1 ⟨rfl, hb1⟩
         have g1 := bsa (bst G0.out hb1) (.cells #[.int .i64 m1, .int .i64 m2] 26)
         have hb1' := bsa hb1 (.cells #[.int .i64 m1, .int .i64 m2] 26)
         have TX1 := Lib.hid (TX0.out.below hb1' TX0.out.lt)
         have RB1 := Lib.hid (RB0.out.below hb1' RB0.out.lt)
         have ST1 := Lib.hid (Blk.new w1 26 #[.int .i64 m1, .int .i64 m2])
         have G1 := Lib.hid g1
         clear hb1 hb1' g1)
      | (go_at_call 123; refine (HI.out _ G1.out).mono ?_; rintro e w2 ⟨rfl, hb2⟩
         have hb2' := bsa hb2 (.cells (itc zI (.slice none 0 0)) 38)
         have tx2 := TX1.out.below hb2' TX1.out.lt
         have rb2 := RB1.out.below hb2' RB1.out.lt
         have st2 := ST1.out.below hb2' ST1.out.lt
         have G2 := Lib.hid (bst G1.out hb2')
         have x2_0 := tx2.cell 0
         have x2_1 := tx2.cell 1
         simp at x2_0 x2_1
         have s2_0 := st2.cell 0
         have s2_1 := st2.cell 1
         simp at s2_0 s2_1
         have r2_0 := rb2.cell 0
         have q2_0 := rb2.frozen 0
         have r2_1 := rb2.cell 1
         have q2_1 := rb2.frozen 1
         have r2_2 := rb2.cell 2
         have q2_2 := rb2.frozen 2
         have r2_3 := rb2.cell 3
         have q2_3 := rb2.frozen 3
         have r2_4 := rb2.cell 4
         have q2_4 := rb2.frozen 4
         have r2_5 := rb2.cell 5
         have q2_5 := rb2.frozen 5
         have r2_6 := rb2.cell 6
         have q2_6 := rb2.frozen 6
         have r2_7 := rb2.cell 7
         have q2_7 := rb2.frozen 7
         have r2_8 := rb2.cell 8
         have q2_8 := rb2.frozen 8
         have r2_9 := rb2.cell 9
         have q2_9 := rb2.frozen 9
         have r2_10 := rb2.cell 10
         have q2_10 := rb2.frozen 10
         have r2_11 := rb2.cell 11
         have q2_11 := rb2.frozen 11
         have r2_12 := rb2.cell 12
         have q2_12 := rb2.frozen 12
         have r2_13 := rb2.cell 13
         have q2_13 := rb2.frozen 13
         have r2_14 := rb2.cell 14
         have q2_14 := rb2.frozen 14
         simp at r2_0 r2_1 r2_2 r2_3 r2_4 r2_5 r2_6 r2_7 r2_8 r2_9 r2_10 r2_11 r2_12 r2_13 r2_14
         have TX2 := Lib.hid tx2
         have RB2 := Lib.hid rb2
         have ST2 := Lib.hid st2
         clear hb2 hb2' tx2 rb2 st2)
      | (go_at_call 125; refine (HV.out _ G2.out).mono ?_; rintro e w4 ⟨rfl, hb4⟩
         have hb4' := bsa hb4 (.cells (fdc ⟨uk, uv, ui, uo, usw, usl, zI⟩ (.slice none 0 0)) 73)
         have tx4 := TX2.out.below hb4' TX2.out.lt
         have rb4 := RB2.out.below hb4' RB2.out.lt
         have nb4 := Blk.new w4 73 (fdc ⟨uk, uv, ui, uo, usw, usl, zI⟩ (.slice none 0 0))
         have G4 := Lib.hid (bst G2.out hb4')
         have x4_4 := tx4.cell 4
         have x4_5 := tx4.cell 5
         simp at x4_4 x4_5
         have TX4 := Lib.hid tx4
         have RB4 := Lib.hid rb4
         have NB4 := Lib.hid nb4
         clear hb4 hb4' tx4 rb4 nb4)
      | (go_at_call_of 22 (Value.agg #[Value.int .i64 usw, Value.int .i64 usl]); refine (HL2.out _).mono ?_; rintro e w5 ⟨rfl, hb5⟩
         have rb5 := RB4.out.below hb5 RB4.out.lt
         have nb5 := NB4.out.below hb5 NB4.out.lt
         have r5_0 := rb5.cell 0
         have q5_0 := rb5.frozen 0
         have r5_1 := rb5.cell 1
         have q5_1 := rb5.frozen 1
         have r5_2 := rb5.cell 2
         have q5_2 := rb5.frozen 2
         have r5_3 := rb5.cell 3
         have q5_3 := rb5.frozen 3
         have r5_4 := rb5.cell 4
         have q5_4 := rb5.frozen 4
         have r5_5 := rb5.cell 5
         have q5_5 := rb5.frozen 5
         have r5_6 := rb5.cell 6
         have q5_6 := rb5.frozen 6
         have r5_7 := rb5.cell 7
         have q5_7 := rb5.frozen 7
         have r5_8 := rb5.cell 8
         have q5_8 := rb5.frozen 8
         have r5_9 := rb5.cell 9
         have q5_9 := rb5.frozen 9
         have r5_10 := rb5.cell 10
         have q5_10 := rb5.frozen 10
         have r5_11 := rb5.cell 11
         have q5_11 := rb5.frozen 11
         have r5_12 := rb5.cell 12
         have q5_12 := rb5.frozen 12
         have r5_13 := rb5.cell 13
         have q5_13 := rb5.frozen 13
         have r5_14 := rb5.cell 14
         have q5_14 := rb5.frozen 14
         simp at r5_0 r5_1 r5_2 r5_3 r5_4 r5_5 r5_6 r5_7 r5_8 r5_9 r5_10 r5_11 r5_12 r5_13 r5_14
         have n5_0 := nb5.cell 0
         have n5_1 := nb5.cell 1
         have n5_2 := nb5.cell 2
         have n5_3 := nb5.cell 3
         have n5_4 := nb5.cell 4
         have n5_5 := nb5.cell 5
         have n5_6 := nb5.cell 6
         have n5_7 := nb5.cell 7
         have n5_8 := nb5.cell 8
         have n5_9 := nb5.cell 9
         have n5_10 := nb5.cell 10
         have n5_11 := nb5.cell 11
         have n5_12 := nb5.cell 12
         have n5_13 := nb5.cell 13
         have n5_14 := nb5.cell 14
         simp at n5_0 n5_1 n5_2 n5_3 n5_4 n5_5 n5_6 n5_7 n5_8 n5_9 n5_10 n5_11 n5_12 n5_13 n5_14
         have RB5 := Lib.hid rb5
         have G5 := Lib.hid (bst G4.out hb5)
         clear hb5 rb5 nb5))
  refine ret_fd2 rfl rfl (Blk.all15 (v0 := .string uk) (v1 := .string uv) (v2 := .bool ui) (v3 := .bool uo) (v4 := .int .i64 usw) (v5 := .int .i64 usl) (v6 := .int .i64 0) (v7 := .int .i64 0) (v8 := .int .i64 0) (v9 := .string ⟨#[]⟩) (v10 := .int .i64 0) (v11 := .int .i64 0) (v12 := .int .i64 0) (v13 := .int .i64 0) (v14 := .slice none 0 0) (by exact RB5.out)) rfl rfl ⟨⟨none, 0, 0, rfl, ChAt.nil _ _, by omega⟩, below15 G5.out (by exact Nat.le_succ _)⟩
end Go.Proofs.YtgccichmdddbpaaGreatDoor
