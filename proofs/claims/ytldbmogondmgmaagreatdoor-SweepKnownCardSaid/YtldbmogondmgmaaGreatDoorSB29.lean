/-
  Changes of the walk's own that grow by append, in a round: beside what else the walk has.
  Layer 15, the statements' helpers: what stands under a key below a stamp (written by wip/gensw3.py).
-/
import Derived.Test.YtldbmogondmgmaaGreatDoorSB16
import Derived.Test.YtldbmogondmgmaaGreatDoorSB25
import Derived.Maps.OwnIn
import Derived.Test.YtldbmogondmgmaaGreatDoorSB28
set_option linter.unusedVariables false
namespace Go.Proofs.YtldbmogondmgmaaGreatDoor
open Go.RowKit Go.Shelf

end Go.Proofs.YtldbmogondmgmaaGreatDoor
set_option linter.unusedVariables false
set_option linter.unusedSimpArgs false
set_option maxRecDepth 100000
namespace Go.Proofs.YtldbmogondmgmaaGreatDoor
open Go.RowKit Go.Shelf
attribute [local go_sem] Oper.semAt_some

def vT : ByteArray := ⟨#[118]⟩
def wT : ByteArray := ⟨#[119]⟩
theorem sw_skip {α β : Type} (p : α → Bool) (f : α → Option β) : ∀ r : List α, (∀ x ∈ r, p x = false → f x = none) → (r.filter p).findSome? f = r.findSome? f
  | [], _ => rfl
  | x :: r, h => by
    have ih := sw_skip p f r (fun y hy => h y (by simp [hy]))
    cases hp : p x with
    | true => rw [List.filter_cons, if_pos hp, List.findSome?_cons, List.findSome?_cons, ih]
    | false => rw [List.filter_cons, if_neg (by rw [hp]; decide), List.findSome?_cons, h x (by simp) hp, ih]
theorem rdC_btw {r : List Rw} (hs : RSor r) (key : ByteArray) (bl : Int × Int) : ((btw r vT wT).findSome? (rdf key bl)).getD (⟨#[]⟩, false) = rdC r key bl := by
  unfold rdC
  rw [btw_filter hs _ _ (by unfold wT; rw [Lib.toList_data]; simp), sw_skip]
  intro x hx hp
  unfold rdf
  cases hv : vrd x with
  | none => rfl
  | some q =>
    obtain ⟨s, a, b, v, i⟩ := q
    exfalso
    obtain ⟨-, hk, -⟩ := vrd_key hv
    have hk2 : x.key.toList = 118 :: (okey (sb s) ++ odown a b) := by rw [Lib.toList_data]; exact hk
    have h1 : kl x.key vT = false := by
      unfold kl vT
      rw [hk2, Lib.toList_data]
      simp [Op.bytesLess, kl_nil]
    have h2 : kl x.key wT = true := by
      unfold kl wT
      rw [hk2, Lib.toList_data]
      simp [Op.bytesLess]
    rw [h1, h2] at hp
    cases hp
theorem results_sb {fn : Func} {tmps : Array Value} {w : World} {p q : Tmp} {g k : Nat} {s : ByteArray} {b : Bool} (hr : fn.results = #[.cell p 9, .cell q 4]) (hp : tmps.getD p undef = .pointer (some ⟨g, 0, none⟩)) (hB : Blk w g 9 #[.string s])
    (hq : tmps.getD q undef = .pointer (some ⟨k, 0, none⟩)) (hC : Blk w k 4 #[.bool b]) : (results fn tmps).run Tryz.prog w = .ok (.tuple #[.string s, .bool b]) w := by
  have hp' : tmps[p]?.getD undef = .pointer (some ⟨g, 0, none⟩) := by simpa using hp
  have hq' : tmps[q]?.getD undef = .pointer (some ⟨k, 0, none⟩) := by simpa using hq
  have hc := hB.cell 0
  have hd := hC.cell 0
  simp at hc hd
  simp [results, hr, hp', hq', go_sem, asAddr, loadVar, hc, hd]
def NoR (key : ByteArray) (a b : Int) (r : List Rw) (n : Nat) : Prop := ((btw r vT wT).take n).findSome? (rdf key (a, b)) = none
set_option maxHeartbeats 8000000 in
theorem read15 {V : World} {p : Nat} {r : List Rw} {F : Nat → Prop} (h : (tbA p r).p V F) (hz : Szs r) (key : ByteArray) (a b : Int) :
    Calls Tryz.prog 26 #[pt p, .string key, sv a b] V fun e w' => e = .returned (.tuple #[.string (rdC r key (a, b)).1, .bool (rdC r key (a, b)).2]) ∧ Below V.heap.size V w' := by
  have hsor := tbA_sor h
  rw [← rdC_btw hsor]
  have hcmp : ∀ (fn : Fn) (f cs : Array Value) (W : World), (binOp .eql 121 (.func fn f cs) .nilFunc).run Tryz.prog W = .ok (.bool false) W := fun fn f cs W => by kernel_rfl
  obtain ⟨o, ho⟩ : ∃ o, ((btw r vT wT).findSome? (rdf key (a, b))).getD (⟨#[]⟩, false) = o := ⟨_, rfl⟩
  rw [ho]
  obtain ⟨o1, o2⟩ := o
  have HO := Lib.hid ho
  have H := Lib.hid h
  have HZ := Lib.hid hz
  have HS := Lib.hid hsor
  have h0 := ((((Has.nil (Below.refl V.heap.size V)).newBlk 9 #[.string key]).newBlk 26 #[.int .i64 a, .int .i64 b]).newBlk 9 #[.string ⟨#[]⟩]).newBlk 4 #[.bool false]
  have hz1 : (V.alloc (.cells #[.string key] 9)).heap.size = V.heap.size + 1 := World.size_alloc _ _
  have hz2 : ((V.alloc (.cells #[.string key] 9)).alloc (.cells #[.int .i64 a, .int .i64 b] 26)).heap.size = V.heap.size + 1 + 1 := (World.size_alloc _ _).trans (by rw [hz1])
  have hz3 : (((V.alloc (.cells #[.string key] 9)).alloc (.cells #[.int .i64 a, .int .i64 b] 26)).alloc (.cells #[.string ⟨#[]⟩] 9)).heap.size = V.heap.size + 1 + 1 + 1 := (World.size_alloc _ _).trans (by rw [hz2])
  rw [hz3, hz2, hz1] at h0
  have H0 := Lib.hid h0
  have hv : (⟨#[118]⟩ : ByteArray) = vT := rfl
  have hw : (⟨#[119]⟩ : ByteArray) = wT := rfl
  have HA1 := Lib.hid (fun W (h : Has V [blkA (V.heap.size + 1 + 1 + 1) 4 #[.bool false], blkA (V.heap.size + 1 + 1) 9 #[.string ⟨#[]⟩], blkA (V.heap.size + 1) 26 #[.int .i64 a, .int .i64 b], blkA V.heap.size 9 #[.string key]] W) => Has.tbAll h p ⟨#[118]⟩ ⟨#[119]⟩)
  clear h hz hsor ho h0 hz1 hz2 hz3
  refine (callsIn_wide (n := 3)).1 (callsIn_of_wp_marks Tryz.func26 rfl trivial (wpIn_wide.2 ?_) rfl)
  simp only [Tryz.ntmps26, List.size_toArray, List.length_cons, List.length_nil, Nat.reduceAdd, Nat.reduceSub, Array.replicate_succ, Array.replicate_zero, List.push_toArray, List.append_toArray, List.nil_append, List.cons_append]
  go_wp2_with fail
  refine (HA1.out _ H0.out).mono ?_
  rintro e W1 ⟨a1, a2, a3, rfl, h1⟩
  have H1 := Lib.hid h1.tail.tail.tail
  clear h1 H0
  go_wp2_with fail
  refine (HA1.out _ H1.out).mono ?_
  rintro e W0 ⟨g1, g2, g3, rfl, h4⟩
  rw [hv, hw] at h4
  have H4 := Lib.hid (show Has V [blkA g1 32 #[pt p], blkA g2 9 #[.string vT], blkA g3 9 #[.string wT], blkA (V.heap.size + 1 + 1 + 1) 4 #[.bool false], blkA (V.heap.size + 1 + 1) 9 #[.string ⟨#[]⟩], blkA (V.heap.size + 1) 26 #[.int .i64 a, .int .i64 b], blkA V.heap.size 9 #[.string key]] W0 from h4)
  clear h4 H1 HA1 hv hw
  go_wp2_with fail
  have hs0 := H4.out.size
  have hTR := Lib.hid (fun W (hh : Has V [blkA g1 32 #[pt p], blkA g2 9 #[.string vT], blkA g3 9 #[.string wT], blkA (V.heap.size + 1 + 1 + 1) 4 #[.bool false], blkA (V.heap.size + 1 + 1) 9 #[.string ⟨#[]⟩], blkA (V.heap.size + 1) 26 #[.int .i64 a, .int .i64 b], blkA V.heap.size 9 #[.string key]] W) => (show TRD p g1 g2 g3 vT wT r W from
    ⟨⟨F, tbA_below H.out hh.bel⟩, HZ.out, hh.blkAt (by simp), hh.blkAt (by simp), hh.blkAt (by simp)⟩))
  refine wp_tours (P := Tryz.prog) rfl (fun _ _ => rfl) (tb_all_tours p g1 g2 g3 vT wT) rfl (btw r vT wT).length
    (fun bb r' n W => r' = r ∧ bb = upAt r vT wT n ∧ n ≤ (btw r vT wT).length ∧ NoR key a b r n ∧ Has V [blkA g1 32 #[pt p], blkA g2 9 #[.string vT], blkA g3 9 #[.string wT], blkA (V.heap.size + 1 + 1 + 1) 4 #[.bool false], blkA (V.heap.size + 1 + 1) 9 #[.string ⟨#[]⟩], blkA (V.heap.size + 1) 26 #[.int .i64 a, .int .i64 b], blkA V.heap.size 9 #[.string key]] W)
    (fun c W => c = .ret ∧ Has V [blkA g1 32 #[pt p], blkA g2 9 #[.string vT], blkA g3 9 #[.string wT], blkA (V.heap.size + 1 + 1 + 1) 4 #[.bool o2], blkA (V.heap.size + 1 + 1) 9 #[.string o1], blkA (V.heap.size + 1) 26 #[.int .i64 a, .int .i64 b], blkA V.heap.size 9 #[.string key]] W)
    (fun bb r' n X Y h hX hf => ⟨h.1, h.2.1, h.2.2.1, h.2.2.2.1, h.2.2.2.2.firm hf hs0 (fun A hA => by
      simp only [List.mem_cons, List.not_mem_nil, or_false] at hA
      rcases hA with rfl | rfl | rfl | rfl | rfl | rfl | rfl <;> exact cel_blk _ _ _)⟩)
    (fun c X Y h hX hf => ⟨h.1, h.2.firm hf hs0 (fun A hA => by
      simp only [List.mem_cons, List.not_mem_nil, or_false] at hA
      rcases hA with rfl | rfl | rfl | rfl | rfl | rfl | rfl <;> exact cel_blk _ _ _)⟩)
    (fun bb r' n X h => ⟨by rw [h.1]; exact hTR.out X h.2.2.2.2, h.2.2.1⟩)
    r ⟨rfl, rfl, Nat.zero_le _, rfl, H4.out⟩ ?a1 ?assign ?body ?done ?stop
  case assign =>
    intro l x W K hK
    gi_wp2
    exact hK
  case body =>
    rintro l b' r' n xr W hsW ⟨rfl, rfl, hn, hfs, hh⟩ hx
    rw [up_next HS.out _ _ hn] at hx
    obtain ⟨hst, hlt⟩ := up_step hx
    have htk : (btw r' vT wT).take (n + 1) = (btw r' vT wT).take n ++ [xr] := by
      obtain ⟨h1, h2⟩ := List.getElem?_eq_some_iff.1 hx
      rw [List.take_succ_eq_append_getElem h1, h2]
    have hxm : xr ∈ r' := List.mem_of_mem_take (List.mem_of_mem_drop (List.mem_of_getElem? hx))
    have hxs := HZ.out xr hxm
    have hfi : ∀ q, rdf key (a, b) xr = some q → q = (o1, o2) := fun q hq => by
      have h1 : (btw r' vT wT).findSome? (rdf key (a, b)) = some q := by
        have h2 : btw r' vT wT = (btw r' vT wT).take n ++ xr :: (btw r' vT wT).drop (n + 1) := by
          obtain ⟨h1, h2⟩ := List.getElem?_eq_some_iff.1 hx
          rw [← h2, ← List.drop_eq_getElem_cons h1, List.take_append_drop]
        rw [h2, List.findSome?_append, show ((btw r' vT wT).take n).findSome? (rdf key (a, b)) = none from hfs, List.findSome?_cons, hq]
        rfl
      rw [← HO.out, h1]
      rfl
    have hnx : rdf key (a, b) xr = none → NoR key a b r' (n + 1) := fun hv => by
      unfold NoR
      rw [htk, List.findSome?_append, show ((btw r' vT wT).take n).findSome? (rdf key (a, b)) = none from hfs]
      simp [hv]
    have hRV := fun W => readV_c xr.key W (by have := hxs.2.1; omega)
    have hTV := fun W => takeV_c xr.value W (by have := hxs.2.2; omega)
    have HST := Lib.hid hst
    have HLT := Lib.hid hlt
    clear hx hst htk hxs hn hlt hxm hfs
    obtain ⟨xk, xv⟩ := xr
    simp only at hRV hTV hfi hnx HST HLT
    cases hv1 : rdVK (sb xk) with
    | none =>
      rw [hv1] at hRV
      have hvr : rdf key (a, b) ⟨xk, xv⟩ = none := by unfold rdf vrd; simp only [hv1]
      obtain ⟨v, i, nn, hvf⟩ := ansV_form (tkV (sb xv))
      rw [hvf] at hTV
      have HTK := Lib.hid (hnx hvr)
      have HRV := Lib.hid (show ∀ W, Calls Tryz.prog 28 #[.string xk] W fun e w' => e = .returned (.tuple #[.string ⟨#[]⟩, sv 0 0, .int .i64 4]) ∧ Below W.heap.size W w' from hRV)
      have HTV := Lib.hid hTV
      clear hv1 hvf hvr hfi hnx hRV hTV
      gi_wp2_with (first
        | (refine ⟨trivial, ?_⟩; gi_at_call 28; refine ((callsIn_wide.2 (HRV.out _)).inRound l).mono ?_; rintro e w5 ⟨rfl, hb5⟩
           have h5 := hh.keep hb5
           have H6 := Lib.hid (h5.keep (nbl w5 (.cells #[.int .i64 0, .int .i64 0] 26)))
           have KF6 := Lib.hid (bsa hb5 (.cells #[.int .i64 0, .int .i64 0] 26))
           have b6 := Lib.hid (Blk.new w5 26 #[.int .i64 0, .int .i64 0])
           clear hb5 h5)
        | (refine ⟨trivial, ?_⟩; gi_at_call 29; refine ((callsIn_wide.2 (HTV.out _)).inRound l).mono ?_; rintro e w7 ⟨rfl, hb7⟩
           have h7 := H6.out.keep hb7
           have KF7 := Lib.hid (bst KF6.out hb7)
           have b7 := b6.out.below hb7 b6.out.lt
           have cx0 := b7.cell 0
           have cx1 := b7.cell 1
           simp at cx0 cx1
           have uka := h7.blkAt (g := V.heap.size) (t := 9) (cs := #[.string key]) (by simp)
           have ck0 := uka.cell 0
           simp at ck0
           clear uka
           have uta := h7.blkAt (g := V.heap.size + 1) (t := 26) (cs := #[.int .i64 a, .int .i64 b]) (by simp)
           have ct0 := uta.cell 0
           have ct1 := uta.cell 1
           simp at ct0 ct1
           clear uta
           have ura := h7.blkAt (g := V.heap.size + 1 + 1) (t := 9) (cs := #[.string ⟨#[]⟩]) (by simp)
           have cr0 := ura.cell 0
           have fr0 := ura.frozen 0
           simp at cr0
           clear ura
           have uqa := h7.blkAt (g := V.heap.size + 1 + 1 + 1) (t := 4) (cs := #[.bool false]) (by simp)
           have cq0 := uqa.cell 0
           have fq0 := uqa.frozen 0
           simp at cq0
           clear uqa
           have H7 := Lib.hid h7
           clear hb7 b7 h7)
        | fail)
      refine ⟨trivial, ?_⟩
      gi_wp2_with fail
      exact ⟨keeps_below KF7.out, HST.out, HLT.out, HTK.out, H7.out⟩
    | some q =>
      obtain ⟨s2, a2, b2⟩ := q
      rw [hv1] at hRV
      have HRV := Lib.hid (show ∀ W, Calls Tryz.prog 28 #[.string xk] W fun e w' => e = .returned (.tuple #[.string (bs s2), sv a2 b2, .int .i64 0]) ∧ Below W.heap.size W w' from hRV)
      cases hv2 : tkV (sb xv) with
      | none =>
        rw [hv2] at hTV
        have hvr : rdf key (a, b) ⟨xk, xv⟩ = none := by unfold rdf vrd; simp only [hv1, hv2]
        have HTK := Lib.hid (hnx hvr)
        have HTV := Lib.hid (show ∀ W, Calls Tryz.prog 29 #[.string xv] W fun e w' => e = .returned (.tuple #[.string ⟨#[]⟩, .bool false, .int .i64 4]) ∧ Below W.heap.size W w' from hTV)
        clear hv1 hv2 hvr hfi hnx hRV hTV
        gi_wp2_with (first
          | (refine ⟨trivial, ?_⟩; gi_at_call 28; refine ((callsIn_wide.2 (HRV.out _)).inRound l).mono ?_; rintro e w5 ⟨rfl, hb5⟩
             have h5 := hh.keep hb5
             have H6 := Lib.hid (h5.keep (nbl w5 (.cells #[.int .i64 a2, .int .i64 b2] 26)))
             have KF6 := Lib.hid (bsa hb5 (.cells #[.int .i64 a2, .int .i64 b2] 26))
             have b6 := Lib.hid (Blk.new w5 26 #[.int .i64 a2, .int .i64 b2])
             clear hb5 h5)
          | (refine ⟨trivial, ?_⟩; gi_at_call 29; refine ((callsIn_wide.2 (HTV.out _)).inRound l).mono ?_; rintro e w7 ⟨rfl, hb7⟩
             have h7 := H6.out.keep hb7
             have KF7 := Lib.hid (bst KF6.out hb7)
             have b7 := b6.out.below hb7 b6.out.lt
             have cx0 := b7.cell 0
             have cx1 := b7.cell 1
             simp at cx0 cx1
             have uka := h7.blkAt (g := V.heap.size) (t := 9) (cs := #[.string key]) (by simp)
             have ck0 := uka.cell 0
             simp at ck0
             clear uka
             have uta := h7.blkAt (g := V.heap.size + 1) (t := 26) (cs := #[.int .i64 a, .int .i64 b]) (by simp)
             have ct0 := uta.cell 0
             have ct1 := uta.cell 1
             simp at ct0 ct1
             clear uta
             have ura := h7.blkAt (g := V.heap.size + 1 + 1) (t := 9) (cs := #[.string ⟨#[]⟩]) (by simp)
             have cr0 := ura.cell 0
             have fr0 := ura.frozen 0
             simp at cr0
             clear ura
             have uqa := h7.blkAt (g := V.heap.size + 1 + 1 + 1) (t := 4) (cs := #[.bool false]) (by simp)
             have cq0 := uqa.cell 0
             have fq0 := uqa.frozen 0
             simp at cq0
             clear uqa
             have H7 := Lib.hid h7
             clear hb7 b7 h7)
          | fail)
        refine ⟨trivial, ?_⟩
        gi_wp2_with fail
        exact ⟨keeps_below KF7.out, HST.out, HLT.out, HTK.out, H7.out⟩
      | some q2 =>
        obtain ⟨u, i⟩ := q2
        rw [hv2] at hTV
        have HTV := Lib.hid (show ∀ W, Calls Tryz.prog 29 #[.string xv] W fun e w' => e = .returned (.tuple #[.string u, .bool i, .int .i64 0]) ∧ Below W.heap.size W w' from hTV)
        have hvr : rdf key (a, b) ⟨xk, xv⟩ = if bs s2 = key ∧ lt (a2, b2) (a, b) = true then some (u, i) else none := by unfold rdf vrd; simp only [hv1, hv2]
        have HLS := Lib.hid (fun W => less_c a2 b2 a b W)
        generalize bs s2 = s at *
        clear hv1 hv2 hRV hTV
        by_cases hsk : s = key
        case neg =>
          have hkb : (s.toList == key.toList) = false := by
            have := ne_list s key
            rw [decide_eq_true hsk] at this
            simpa using this
          have HTK := Lib.hid (hnx (by rw [hvr, if_neg (fun h => hsk h.1)]))
          clear hvr hfi hnx hsk
          gi_wp2_with (first
            | (refine ⟨trivial, ?_⟩; gi_at_call 28; refine ((callsIn_wide.2 (HRV.out _)).inRound l).mono ?_; rintro e w5 ⟨rfl, hb5⟩
               have h5 := hh.keep hb5
               have H6 := Lib.hid (h5.keep (nbl w5 (.cells #[.int .i64 a2, .int .i64 b2] 26)))
               have KF6 := Lib.hid (bsa hb5 (.cells #[.int .i64 a2, .int .i64 b2] 26))
               have b6 := Lib.hid (Blk.new w5 26 #[.int .i64 a2, .int .i64 b2])
               clear hb5 h5)
            | (refine ⟨trivial, ?_⟩; gi_at_call 29; refine ((callsIn_wide.2 (HTV.out _)).inRound l).mono ?_; rintro e w7 ⟨rfl, hb7⟩
               have h7 := H6.out.keep hb7
               have KF7 := Lib.hid (bst KF6.out hb7)
               have b7 := b6.out.below hb7 b6.out.lt
               have cx0 := b7.cell 0
               have cx1 := b7.cell 1
               simp at cx0 cx1
               have uka := h7.blkAt (g := V.heap.size) (t := 9) (cs := #[.string key]) (by simp)
               have ck0 := uka.cell 0
               simp at ck0
               clear uka
               have uta := h7.blkAt (g := V.heap.size + 1) (t := 26) (cs := #[.int .i64 a, .int .i64 b]) (by simp)
               have ct0 := uta.cell 0
               have ct1 := uta.cell 1
               simp at ct0 ct1
               clear uta
               have ura := h7.blkAt (g := V.heap.size + 1 + 1) (t := 9) (cs := #[.string ⟨#[]⟩]) (by simp)
               have cr0 := ura.cell 0
               have fr0 := ura.frozen 0
               simp at cr0
               clear ura
               have uqa := h7.blkAt (g := V.heap.size + 1 + 1 + 1) (t := 4) (cs := #[.bool false]) (by simp)
               have cq0 := uqa.cell 0
               have fq0 := uqa.frozen 0
               simp at cq0
               clear uqa
               have H7 := Lib.hid h7
               clear hb7 b7 h7)
            | fail)
          refine ⟨trivial, ?_⟩
          gi_wp2_with fail
          exact ⟨keeps_below KF7.out, HST.out, HLT.out, HTK.out, H7.out⟩
        case pos =>
          have hks := hsk.symm
          clear hsk
          subst hks
          cases hl : lt (a2, b2) (a, b) with
          | false =>
            rw [hl] at HLS
            have HTK := Lib.hid (hnx (by rw [hvr, hl]; simp))
            clear hvr hfi hnx hl
            gi_wp2_with (first
              | (refine ⟨trivial, ?_⟩; gi_at_call 28; refine ((callsIn_wide.2 (HRV.out _)).inRound l).mono ?_; rintro e w5 ⟨rfl, hb5⟩
                 have h5 := hh.keep hb5
                 have H6 := Lib.hid (h5.keep (nbl w5 (.cells #[.int .i64 a2, .int .i64 b2] 26)))
                 have KF6 := Lib.hid (bsa hb5 (.cells #[.int .i64 a2, .int .i64 b2] 26))
                 have b6 := Lib.hid (Blk.new w5 26 #[.int .i64 a2, .int .i64 b2])
                 clear hb5 h5)
              | (refine ⟨trivial, ?_⟩; gi_at_call 29; refine ((callsIn_wide.2 (HTV.out _)).inRound l).mono ?_; rintro e w7 ⟨rfl, hb7⟩
                 have h7 := H6.out.keep hb7
                 have KF7 := Lib.hid (bst KF6.out hb7)
                 have b7 := b6.out.below hb7 b6.out.lt
                 have cx0 := b7.cell 0
                 have cx1 := b7.cell 1
                 simp at cx0 cx1
                 have uka := h7.blkAt (g := V.heap.size) (t := 9) (cs := #[.string key]) (by simp)
                 have ck0 := uka.cell 0
                 simp at ck0
                 clear uka
                 have uta := h7.blkAt (g := V.heap.size + 1) (t := 26) (cs := #[.int .i64 a, .int .i64 b]) (by simp)
                 have ct0 := uta.cell 0
                 have ct1 := uta.cell 1
                 simp at ct0 ct1
                 clear uta
                 have ura := h7.blkAt (g := V.heap.size + 1 + 1) (t := 9) (cs := #[.string ⟨#[]⟩]) (by simp)
                 have cr0 := ura.cell 0
                 have fr0 := ura.frozen 0
                 simp at cr0
                 clear ura
                 have uqa := h7.blkAt (g := V.heap.size + 1 + 1 + 1) (t := 4) (cs := #[.bool false]) (by simp)
                 have cq0 := uqa.cell 0
                 have fq0 := uqa.frozen 0
                 simp at cq0
                 clear uqa
                 have H7 := Lib.hid h7
                 clear hb7 b7 h7)
              | ((first | refine ⟨trivial, ?_⟩ | refine ⟨fun _ _ => trivial, ?_⟩); gi_at_call 12; refine ((callsIn_wide.2 (HLS.out _)).inRound l).mono ?_; rintro e w8 ⟨rfl, hb8⟩
                 have h8 := H7.out.keep hb8
                 have KF8 := Lib.hid (bst KF7.out hb8)
                 have ukb := h8.blkAt (g := V.heap.size) (t := 9) (cs := #[.string key]) (by simp)
                 have ck0 := ukb.cell 0
                 simp at ck0
                 clear ukb
                 have utb := h8.blkAt (g := V.heap.size + 1) (t := 26) (cs := #[.int .i64 a, .int .i64 b]) (by simp)
                 have ct0 := utb.cell 0
                 have ct1 := utb.cell 1
                 simp at ct0 ct1
                 clear utb
                 have urb := h8.blkAt (g := V.heap.size + 1 + 1) (t := 9) (cs := #[.string ⟨#[]⟩]) (by simp)
                 have cr0 := urb.cell 0
                 have fr0 := urb.frozen 0
                 simp at cr0
                 clear urb
                 have uqb := h8.blkAt (g := V.heap.size + 1 + 1 + 1) (t := 4) (cs := #[.bool false]) (by simp)
                 have cq0 := uqb.cell 0
                 have fq0 := uqb.frozen 0
                 simp at cq0
                 clear uqb
                 have H8 := Lib.hid h8
                 clear hb8 h8)
              | fail)
            exact ⟨keeps_below KF8.out, HST.out, HLT.out, HTK.out, H8.out⟩
          | true =>
            rw [hl] at HLS
            have hoo := hfi (u, i) (by rw [hvr, hl]; simp)
            injection hoo with ho1 ho2
            subst ho1 ho2
            clear hvr hfi hnx hl
            gi_wp2_with (first
              | (refine ⟨trivial, ?_⟩; gi_at_call 28; refine ((callsIn_wide.2 (HRV.out _)).inRound l).mono ?_; rintro e w5 ⟨rfl, hb5⟩
                 have h5 := hh.keep hb5
                 have H6 := Lib.hid (h5.keep (nbl w5 (.cells #[.int .i64 a2, .int .i64 b2] 26)))
                 have KF6 := Lib.hid (bsa hb5 (.cells #[.int .i64 a2, .int .i64 b2] 26))
                 have b6 := Lib.hid (Blk.new w5 26 #[.int .i64 a2, .int .i64 b2])
                 clear hb5 h5)
              | (refine ⟨trivial, ?_⟩; gi_at_call 29; refine ((callsIn_wide.2 (HTV.out _)).inRound l).mono ?_; rintro e w7 ⟨rfl, hb7⟩
                 have h7 := H6.out.keep hb7
                 have KF7 := Lib.hid (bst KF6.out hb7)
                 have b7 := b6.out.below hb7 b6.out.lt
                 have cx0 := b7.cell 0
                 have cx1 := b7.cell 1
                 simp at cx0 cx1
                 have uka := h7.blkAt (g := V.heap.size) (t := 9) (cs := #[.string key]) (by simp)
                 have ck0 := uka.cell 0
                 simp at ck0
                 clear uka
                 have uta := h7.blkAt (g := V.heap.size + 1) (t := 26) (cs := #[.int .i64 a, .int .i64 b]) (by simp)
                 have ct0 := uta.cell 0
                 have ct1 := uta.cell 1
                 simp at ct0 ct1
                 clear uta
                 have ura := h7.blkAt (g := V.heap.size + 1 + 1) (t := 9) (cs := #[.string ⟨#[]⟩]) (by simp)
                 have cr0 := ura.cell 0
                 have fr0 := ura.frozen 0
                 simp at cr0
                 clear ura
                 have uqa := h7.blkAt (g := V.heap.size + 1 + 1 + 1) (t := 4) (cs := #[.bool false]) (by simp)
                 have cq0 := uqa.cell 0
                 have fq0 := uqa.frozen 0
                 simp at cq0
                 clear uqa
                 have H7 := Lib.hid h7
                 clear hb7 b7 h7)
              | ((first | refine ⟨trivial, ?_⟩ | refine ⟨fun _ _ => trivial, ?_⟩); gi_at_call 12; refine ((callsIn_wide.2 (HLS.out _)).inRound l).mono ?_; rintro e w8 ⟨rfl, hb8⟩
                 have h8 := H7.out.keep hb8
                 have KF8 := Lib.hid (bst KF7.out hb8)
                 have ukb := h8.blkAt (g := V.heap.size) (t := 9) (cs := #[.string key]) (by simp)
                 have ck0 := ukb.cell 0
                 simp at ck0
                 clear ukb
                 have utb := h8.blkAt (g := V.heap.size + 1) (t := 26) (cs := #[.int .i64 a, .int .i64 b]) (by simp)
                 have ct0 := utb.cell 0
                 have ct1 := utb.cell 1
                 simp at ct0 ct1
                 clear utb
                 have urb := h8.blkAt (g := V.heap.size + 1 + 1) (t := 9) (cs := #[.string ⟨#[]⟩]) (by simp)
                 have cr0 := urb.cell 0
                 have fr0 := urb.frozen 0
                 simp at cr0
                 clear urb
                 have uqb := h8.blkAt (g := V.heap.size + 1 + 1 + 1) (t := 4) (cs := #[.bool false]) (by simp)
                 have cq0 := uqb.cell 0
                 have fq0 := uqb.frozen 0
                 simp at cq0
                 clear uqb
                 have H8 := Lib.hid h8
                 clear hb8 h8)
              | fail)
            have hp := H8.out.perm (List.perm_middle (l₁ := [_, _, _, _]))
            have hb := hp.blk.1
            have hp2 := ((hp.setBlk 0 (.string u)).perm (List.perm_middle (l₁ := [_, _, _, _])).symm).perm (List.perm_middle (l₁ := [_, _, _]))
            have hb2 := hp2.blk.1
            have hp3 := (hp2.setBlk 0 (.bool i)).perm (List.perm_middle (l₁ := [_, _, _])).symm
            have hkf := ((keeps_below (n := W0.heap.size) KF8.out).trans (pk_from_put (i := 0) (u := .string u) hb)).trans (pk_from_put (i := 0) (u := .bool i) hb2)
            first | exact ⟨hkf, rfl, hp3⟩ | exact ⟨hkf, hp3⟩
  case done =>
    rintro D b' r' n W hD hsW hno ⟨rfl, rfl, hn, hfs, hh⟩ hK
    rw [up_next HS.out _ _ hn, List.getElem?_eq_none_iff] at hno
    have hoN : (⟨#[]⟩, false) = (o1, o2) := by
      have h1 : ((btw r' vT wT).take n).findSome? (rdf key (a, b)) = none := hfs
      rw [List.take_of_length_le hno] at h1
      have h2 := HO.out
      rw [h1] at h2
      exact h2
    injection hoN with ho1 ho2
    subst ho1 ho2
    have ukd := hh.blkAt (g := V.heap.size) (t := 9) (cs := #[.string key]) (by simp)
    have ck0 := ukd.cell 0
    simp at ck0
    clear ukd
    have utd := hh.blkAt (g := V.heap.size + 1) (t := 26) (cs := #[.int .i64 a, .int .i64 b]) (by simp)
    have ct0 := utd.cell 0
    have ct1 := utd.cell 1
    simp at ct0 ct1
    clear utd
    have urd := hh.blkAt (g := V.heap.size + 1 + 1) (t := 9) (cs := #[.string ⟨#[]⟩]) (by simp)
    have cr0 := urd.cell 0
    have fr0 := urd.frozen 0
    simp at cr0
    clear urd
    have uqd := hh.blkAt (g := V.heap.size + 1 + 1 + 1) (t := 4) (cs := #[.bool false]) (by simp)
    have cq0 := uqd.cell 0
    have fq0 := uqd.frozen 0
    simp at cq0
    clear uqd
    have HH := Lib.hid hh
    clear hh hno
    go_wp2_with fail
    have hp := HH.out.perm (List.perm_middle (l₁ := [_, _, _, _]))
    have hb := hp.blk.1
    have hp2 := ((hp.setBlk 0 (.string ⟨#[]⟩)).perm (List.perm_middle (l₁ := [_, _, _, _])).symm).perm (List.perm_middle (l₁ := [_, _, _]))
    have hb2 := hp2.blk.1
    have hp3 : Has V [blkA g1 32 #[pt p], blkA g2 9 #[.string vT], blkA g3 9 #[.string wT], blkA (V.heap.size + 1 + 1 + 1) 4 #[.bool false], blkA (V.heap.size + 1 + 1) 9 #[.string ⟨#[]⟩], blkA (V.heap.size + 1) 26 #[.int .i64 a, .int .i64 b], blkA V.heap.size 9 #[.string key]] _ := (hp2.setBlk 0 (.bool false)).perm (List.perm_middle (l₁ := [_, _, _])).symm
    have hne : D ≠ V.heap.size + 1 + 1 := by
      rintro rfl
      unfold Blk at hb
      rw [hK] at hb
      cases hb
    have hne2 : D ≠ V.heap.size + 1 + 1 + 1 := by
      rintro rfl
      have hb3 := (HH.out.perm (List.perm_middle (l₁ := [_, _, _]))).blk.1
      unfold Blk at hb3
      rw [hK] at hb3
      cases hb3
    have hK2 := (heap_set_ne (i := 0) (u := .string ⟨#[]⟩) hne).trans hK
    have hK3 := (heap_set_ne (i := 0) (u := .bool false) hne2).trans hK2
    refine ⟨by simp, .inl ⟨_, _, rfl, run_takeDeferred hK3, ?_⟩⟩
    have hfin := hp3.firm (.put (B := V.heap.size) D (.deferred none) (by omega) hK3 rfl) (Nat.le_refl _) (fun A hA => by
      simp only [List.mem_cons, List.not_mem_nil, or_false] at hA
      rcases hA with rfl | rfl | rfl | rfl | rfl | rfl | rfl <;> exact cel_blk _ _ _)
    exact ⟨_, results_sb rfl rfl (hfin.blkAt (g := V.heap.size + 1 + 1) (t := 9) (cs := #[.string ⟨#[]⟩]) (by simp)) rfl (hfin.blkAt (g := V.heap.size + 1 + 1 + 1) (t := 4) (cs := #[.bool false]) (by simp)), rfl, hfin.bel⟩
  case stop =>
    rintro D c W hD hsW ⟨rfl, hh⟩ hK
    go_wp2_with fail
    refine ⟨by simp, .inl ⟨_, _, rfl, run_takeDeferred hK, ?_⟩⟩
    have hf : Firm V.heap.size W (W.putObj D (.deferred none)) := .put D _ (by omega) hK rfl
    have hfin := hh.firm hf (Nat.le_refl _) (fun A hA => by
      simp only [List.mem_cons, List.not_mem_nil, or_false] at hA
      rcases hA with rfl | rfl | rfl | rfl | rfl | rfl | rfl <;> exact cel_blk _ _ _)
    exact ⟨_, results_sb rfl rfl (hfin.blkAt (g := V.heap.size + 1 + 1) (t := 9) (cs := #[.string o1]) (by simp)) rfl (hfin.blkAt (g := V.heap.size + 1 + 1 + 1) (t := 4) (cs := #[.bool o2]) (by simp)), rfl, hfin.bel⟩
end Go.Proofs.YtldbmogondmgmaaGreatDoor
