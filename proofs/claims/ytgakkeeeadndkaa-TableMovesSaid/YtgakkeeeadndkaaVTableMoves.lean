/-
  Layer 10: TableMoves, walked (written by wip/genvmo.py).
-/
import Derived.Test.YtgakkeeeadndkaaTbMv
import Derived.Test.YtgakkeeeadndkaaRoundHeld
set_option linter.unusedVariables false
namespace Go.Proofs.Ytgakkeeeadndkaa
open Go.RowKit Go.Shelf
attribute [local go_sem] Oper.semAt_some

set_option maxRecDepth 100000 in
set_option maxHeartbeats 8000000 in
theorem tableMoves_w (A : Option Addr) (n c : Nat) (f t : ByteArray) (w : World) (bs : List (List Op_)) (hb : BAt w A n bs) (hz : ∀ b ∈ bs, OSz b) (hn : n ≤ 9223372036854775807) (hf : f.size ≤ 140737488351232) (ht : t.size ≤ 140737488351232) :
    Calls Try.prog 5 #[.slice A n c, .string f, .string t] w fun e w' => e = .returned (.bool true) ∧ Below w.heap.size w w' := by
  have h0 := (((Has.nil (Below.refl _ w)).newBlk 22 #[.slice A n c]).newBlk 9 #[.string t]).newBlk 4 #[.bool false]
  simp only [World.size_alloc] at h0
  have HBAT := Lib.hid hb
  have HZ := Lib.hid hz
  have HLN := Lib.hid hb.1
  clear hb hz
  refine (callsIn_wide (n := 3)).1 (callsIn_of_wp_marks Try.func5 rfl trivial (wpIn_wide.2 ?_) rfl)
  simp only [Try.ntmps5, List.size_toArray, List.length_cons, List.length_nil, Nat.reduceAdd, Nat.reduceSub, Array.replicate_succ, Array.replicate_zero, List.push_toArray, List.append_toArray, List.nil_append, List.cons_append]
  go_wp2_with fail
  refine (h0.tbNew 7).mono ?_
  rintro e w1 ⟨p, rfl, h1⟩
  go_wp2_with fail
  refine (h1.rtNew 7).mono ?_
  rintro e w2 ⟨b, rfl, h2⟩
  have H2 := Lib.hid (((h2.swap.newBlk 23 #[pt p]).newBlk 25 #[pt b]).perm (List.perm_append_comm_assoc [_, _] [_, _] _))
  simp only [World.size_alloc, List.cons_append, List.nil_append] at H2
  clear h0 h1 h2
  go_wp2_with fail
  obtain ⟨GA, hGA⟩ : ∃ GA, GA = w2.heap.size := ⟨_, rfl⟩
  obtain ⟨GB, hGB⟩ : ∃ GB, GB = w2.heap.size + 1 := ⟨_, rfl⟩
  rw [← hGB, ← hGA] at H2
  try rw [← hGB]
  try rw [← hGA]
  clear hGA hGB
  have CEL := Lib.hid (fun V l (h : Has w l V) (hm : ∀ Z ∈ [blkA GB 25 #[pt b], blkA GA 23 #[pt p], blkA (w.heap.size + 1 + 1) 4 #[.bool false], blkA (w.heap.size + 1) 9 #[.string t], blkA w.heap.size 22 #[.slice A n c]], Z ∈ l) => (show V.cell? ⟨GB, 0, none⟩ = some (pt b) ∧ V.cell? ⟨GA, 0, none⟩ = some (pt p) ∧ V.cell? ⟨w.heap.size, 0, none⟩ = some (.slice A n c) from ⟨(h.blkAt (g := GB) (t := 25) (cs := #[pt b]) (hm _ (by simp))).cell 0, (h.blkAt (g := GA) (t := 23) (cs := #[pt p]) (hm _ (by simp))).cell 0, (h.blkAt (g := w.heap.size) (t := 22) (cs := #[.slice A n c]) (hm _ (by simp))).cell 0⟩))
  have CET := Lib.hid (fun V l (h : Has w l V) (hm : ∀ Z ∈ [blkA GB 25 #[pt b], blkA GA 23 #[pt p], blkA (w.heap.size + 1 + 1) 4 #[.bool false], blkA (w.heap.size + 1) 9 #[.string t], blkA w.heap.size 22 #[.slice A n c]], Z ∈ l) => (show V.cell? ⟨w.heap.size + 1, 0, none⟩ = some (.string t) from (h.blkAt (g := w.heap.size + 1) (t := 9) (cs := #[.string t]) (hm _ (by simp))).cell 0))
  have CER := Lib.hid (fun V l (h : Has w l V) (hm : ∀ Z ∈ [blkA GB 25 #[pt b], blkA GA 23 #[pt p], blkA (w.heap.size + 1 + 1) 4 #[.bool false], blkA (w.heap.size + 1) 9 #[.string t], blkA w.heap.size 22 #[.slice A n c]], Z ∈ l) => (show Blk V (w.heap.size + 1 + 1) 4 #[.bool false] from h.blkAt (hm _ (by simp))))
  have hcelT : ∀ Z ∈ [blkA GB 25 #[pt b], blkA GA 23 #[pt p], blkA (w.heap.size + 1 + 1) 4 #[.bool false], blkA (w.heap.size + 1) 9 #[.string t], blkA w.heap.size 22 #[.slice A n c]], CelA Z := by
    intro Z hA
    simp only [List.mem_cons, List.not_mem_nil, or_false] at hA
    rcases hA with rfl | rfl | rfl | rfl | rfl <;> exact cel_blk _ _ _
  have HCT := Lib.hid hcelT
  clear hcelT
  obtain ⟨T, hT⟩ : ∃ T, T = [blkA GB 25 #[pt b], blkA GA 23 #[pt p], blkA (w.heap.size + 1 + 1) 4 #[.bool false], blkA (w.heap.size + 1) 9 #[.string t], blkA w.heap.size 22 #[.slice A n c]] := ⟨_, rfl⟩
  have HT := Lib.hid hT
  rw [← hT] at H2 CEL CET CER HCT
  clear hT

  go_loopw [9] (fun i wr => ∃ k : Nat, k ≤ n ∧ k ≤ 10 ∧ i = .int .i64 k ∧ Hid (Has w (tbA p (tabs bs k) :: rtA b (tabs bs k) :: T) wr)) (fun i _ => n - (intOf i).toNat)
  case atStart => exact ⟨0, Nat.zero_le _, Nat.zero_le _, rfl, H2⟩
  case round =>
    obtain ⟨k, hk, hk10, rfl, HH⟩ := hrel
    obtain ⟨y1, y2, y3⟩ := CEL.out _ _ HH.out (fun A h => by simp [h])
    by_cases hlt : k < n ∧ k < 10
    · obtain ⟨hlt, hlt30⟩ := hlt
      have e1 : k < bs.length := by rw [HLN.out]; exact hlt
      obtain ⟨bb, o, rfl, hc⟩ := HBAT.out.2 (by omega)
      obtain ⟨Ai, ci, z0, hops, hci1, hci2⟩ := hc k e1
      have hok := tabs_ok HZ.out k
      have hlen := hok.len
      have hsz := HZ.out _ (List.getElem_mem e1)
      have hsc := tabs_succ e1
      have HC := Lib.hid (fun V X Y (h : Has w (X :: Y :: T) V) => (show V.cell? ⟨bb, o + k, none⟩ = some (.slice Ai (bs[k]'e1).length ci) ∧ _ from ⟨(h.bel.cell (World.block_lt_of_cell? w _ z0)).trans z0, CEL.out _ _ h (fun A h => by simp [h])⟩))
      have hP : TS w p b (tabs bs k) (tabs bs (k + 1)) T false false wr.drew := Has.drew (show Has w (tbA p (tabs bs k) :: rtA b (tabs bs k) :: T) wr from HH.out)
      have hS := HC.out _ _ _ hP
      obtain ⟨z1, -⟩ := HC.out _ _ _ HH.out
      rw [hsc] at hP
      have HA1 := Lib.hid (fun W y (h : TS w p b (tabs bs k) (rapp (tabs bs k) (bs[k]'e1)) T false y W) => h.appA hok (by omega) Ai _ ci hops (by omega) hsz)
      have HB1 := Lib.hid (fun W x (h : TS w p b (tabs bs k) (rapp (tabs bs k) (bs[k]'e1)) T x false W) => h.appB (by omega) Ai _ ci hops (by omega))
      have hfin : ∀ W, TS w p b (tabs bs k) (rapp (tabs bs k) (bs[k]'e1)) T true true W → Has w (tbA p (tabs bs (k + 1)) :: rtA b (tabs bs (k + 1)) :: T) W := fun W h => by rw [hsc]; exact h
      have HF := Lib.hid hfin
      have i1 : (0 : Int) ≤ (k : Int) := by omega
      have i2 : (k : Int) < (n : Int) := by omega
      have b0 : ((((chk (bs[k]'e1)) : Nat) : Int) != (((chk (bs[k]'e1)) : Nat) : Int)) = false := by simp
      clear hc hops hci1 hci2 hok hlen hsz hsc hfin z0
      generalize (bs[k]'e1).length = m at *
      generalize rapp (tabs bs k) (bs[k]'e1) = R' at *
      generalize ((chk (bs[k]'e1) : Nat) : Int) = ee at *
      generalize tabs bs k = R at *
      clear e1
      go_wp2_with fail
      go_region_held3 (fun W => W.cell? ⟨bb, o + k, none⟩ = some (.slice Ai m ci) ∧ W.cell? ⟨GB, 0, none⟩ = some (pt b) ∧ W.cell? ⟨GA, 0, none⟩ = some (pt p) ∧ W.cell? ⟨w.heap.size, 0, none⟩ = some (.slice (some ⟨bb, o, none⟩) n c))
        (first | with_reducible assumption | with_reducible exact hS)
        (first
          | (go_at_call 14; (with_reducible refine (HA1.out _ _ (by with_reducible assumption)).mono ?_); rintro e w8 ⟨rfl, hP8, hb8, -⟩; have hS8 := HC.out _ _ _ hP8)
          | (go_at_call 15; (with_reducible refine (HB1.out _ _ (by with_reducible assumption)).mono ?_); rintro e w9 ⟨rfl, hP9, hb9, -⟩; have hS9 := HC.out _ _ _ hP9))
      all_goals
        go_wp2_with fail
        go_roundw
        case rel =>
          refine ⟨k + 1, by omega, by omega, by go_num, ?_⟩
          first
            | exact Lib.hid (HF.out _ hP9)
            | exact Lib.hid (HF.out _ hP8)
        case measure => simp [intOf]; omega
    · have hrest : (k < n ∧ ¬ k < 10) ∨ ¬ k < n := by omega
      clear hlt
      rcases hrest with ⟨hkn, hk3⟩ | hkn
      · have hki : (k : Int) < (n : Int) := by omega
        have hk3i : ¬ (k : Int) < 10 := by omega
        have hok := tabs_ok HZ.out k
        have HOK := Lib.hid (hok.mono (show 128 * k ≤ 1280 by omega))
        have HE := Lib.hid (show Has w (tbA p (tabs bs k) :: rtA b (tabs bs k) :: T) wr from HH.out)
        have hcmp : ∀ (fn : Fn) (f cs : Array Value) (W : World), (binOp .eql 49 (.func fn f cs) .nilFunc).run Try.prog W = .ok (.bool false) W := fun fn f cs W => by kernel_rfl
        generalize tabs bs k = R0 at *
        clear HH hok
        have hct := CET.out _ _ HE.out (fun A h => by simp [h])
        go_wp2_with fail
        refine (tb_all p f t _).mono ?_
        rintro e Wa ⟨a1, a2, a3, rfl, -, -, hba⟩
        have HEa := Lib.hid (HE.out.keep hba)
        have HEb := Lib.hid ((HEa.out.newBlk 9 #[.string f]).newBlk 3 #[.int .i64 0])
        simp only [World.size_alloc] at HEb
        obtain ⟨za1, za2, za3⟩ := CEL.out _ _ HEb.out (fun A h => by simp [h])
        have zat := CET.out _ _ HEb.out (fun A h => by simp [h])
        clear hct hba HE y1 y2 y3
        obtain ⟨GM, hGM⟩ : ∃ GM, GM = Wa.heap.size + 1 := ⟨_, rfl⟩
        obtain ⟨GT, hGT⟩ : ∃ GT, GT = Wa.heap.size := ⟨_, rfl⟩
        go_wp2_with fail
        rw [← hGM, ← hGT] at HEb
        try rw [← hGM]
        try rw [← hGT]
        refine (Has.tbAll HEb.out p f t).mono ?_
        rintro e Wc ⟨g1, g2, g3, rfl, h4⟩
        have HM0 := Lib.hid (show Has w (MvL p b GM GT R0 0 f (blkA g1 23 #[pt p] :: blkA g2 9 #[.string f] :: blkA g3 9 #[.string t] :: T)) Wc from h4.perm (mv_perm _ _ _ _ _ _ _ _))
        have TRX := Lib.hid (fun V r m key (h : Has w (MvL p b GM GT r m key (blkA g1 23 #[pt p] :: blkA g2 9 #[.string f] :: blkA g3 9 #[.string t] :: T)) V) (hz : Szs r) => (show TRD p g1 g2 g3 f t r V from h.trd hz (by simp [MvL]) (by simp [MvL]) (by simp [MvL]) (by simp [MvL])))
        have hcT : ∀ A ∈ (blkA g1 23 #[pt p] :: blkA g2 9 #[.string f] :: blkA g3 9 #[.string t] :: T), CelA A := by
          intro A hA
          simp only [List.mem_cons] at hA
          rcases hA with rfl | rfl | rfl | hA
          · exact cel_blk _ _ _
          · exact cel_blk _ _ _
          · exact cel_blk _ _ _
          · exact HCT.out A hA
        have HCQ := Lib.hid hcT
        have hsubT : ∀ A ∈ T, A ∈ (blkA g1 23 #[pt p] :: blkA g2 9 #[.string f] :: blkA g3 9 #[.string t] :: T) := fun A h => by simp [h]
        have HSUB := Lib.hid hsubT
        obtain ⟨TT, hTT⟩ : ∃ TT, TT = (blkA g1 23 #[pt p] :: blkA g2 9 #[.string f] :: blkA g3 9 #[.string t] :: T) := ⟨_, rfl⟩
        rw [← hTT] at HM0 TRX HCQ HSUB hsubT
        have CE5 := Lib.hid (fun V r m key (h : Has w (MvL p b GM GT r m key TT) V) => And.intro (mv_cells h) (And.intro (CEL.out _ _ h (fun A hA => mv_sub A (hsubT A hA))) (CET.out _ _ h (fun A hA => mv_sub A (hsubT A hA)))))
        have CRR := Lib.hid (fun V r m key (h : Has w (MvL p b GM GT r m key TT) V) => CER.out _ _ h (fun A hA => mv_sub A (hsubT A hA)))
        clear h4 hcT hsubT hTT HEb HEa za1 za2 za3 zat hGM hGT HT HCT H2
        go_wp2_with fail
        have HSW := HM0.out.bel.size
        have hmix : Try.prog.follows .mixedOrders = true := by kernel_rfl
        refine wp_tours (P := Try.prog) rfl (fun _ _ => rfl) (tb_all_tours p g1 g2 g3 f t) rfl 20
          (fun key r n' W => r = mvR bs R0 n' ∧ n' < 20 ∧ Has w (MvL p b GM GT r n' key TT) W)
          (fun c W => c = .ret ∧ Blk W (w.heap.size + 1 + 1) 4 #[.bool true] ∧ Below w.heap.size w W)
          (fun key r n' X Y h hX hf => ⟨h.1, h.2.1, mv_firm h.2.2 HCQ.out hf HSW⟩)
          (fun c X Y h hX hf => ⟨h.1, hf.cells h.2.1, h.2.2.trans (hf.below HSW h.2.2.size)⟩)
          (fun key r n' X h => ⟨TRX.out _ _ _ _ h.2.2 (by rw [h.1]; exact (mvR_ok HZ.out HOK.out n').szs), by have := h.2.1; omega⟩)
          R0 ⟨rfl, by omega, HM0.out⟩ ?a11 ?assign1 ?body1 ?done1 ?stop1
        case assign1 =>
          intro l x W K hK
          gi_wp2
          exact hK
        case body1 =>
          rintro l key r n' ⟨xk, xv⟩ W hsW ⟨hr, hn20, hh⟩ hx
          have hok := mvR_ok HZ.out HOK.out n'
          rw [← hr] at hok
          have hxm : (⟨xk, xv⟩ : Rw) ∈ r := by
            unfold nxU at hx
            split at hx
            · exact List.mem_of_getElem? hx
            · cases hx
          have hkx : ¬ 9223372036854775807 < xk.size + 1 := by have := (hok.szs _ hxm).1; have := (hok.szs _ hxm).2; simp only at *; omega
          rw [nxU_btw hok.sor] at hx
          obtain ⟨L, hL⟩ : ∃ L, btw r key t = L := ⟨_, rfl⟩
          rw [hL] at hx
          obtain ⟨hl0, hx0⟩ := List.getElem?_eq_some_iff.1 hx
          have hlen := hok.len
          have hLl : L.length ≤ 3840 := by have h1 := btw_len r key t; have h2 := rend_le r t; rw [hL] at h1; omega
          have HL := Lib.hid hL
          have HOKR := Lib.hid hok
          have HSOR := Lib.hid hok.sor
          have HR := Lib.hid hr
          have HH := Lib.hid hh
          have HX0 := Lib.hid hx0
          obtain ⟨⟨c1, c2⟩, ⟨c3, c4, c5⟩, c6⟩ := CE5.out _ _ _ _ hh
          have hlp : (0 : Int) < (L.length : Int) := by omega
          have hlz : ((L.length : Int) == 0) = false := beq_eq_false_iff_ne.2 (by omega)
          have e1 : (xk.toList != xk.toList) = false := by simp
          have e2 : (xv.toList != xv.toList) = false := by simp
          have e3 : (xk.toList == xk.toList) = true := by simp
          have e4 : (xv.toList == xv.toList) = true := by simp
          clear hr hh hok hL hx hx0
          gi_wp2_with fail
          refine ⟨trivial, ((callsIn_wide.2 (Has.rtBetweenM HH.out (b := b) (r := r) (by simp [MvL]) HSOR.out key t (by omega) L HL.out)).inRound l).mono ?_⟩
          rintro e W1 ⟨Aw, cw, rfl, -, hw1, hcw, hdw, hb1⟩
          obtain ⟨bx, ox, rfl, hcx⟩ := hw1.2 (by omega)
          obtain ⟨x0, x1⟩ := hcx 0 hl0
          rw [HX0.out] at x0 x1
          have x0s : W1.cell? ⟨bx, ox, none⟩ = some (.string xk) := by simpa using x0
          have x1s : W1.cell? ⟨bx, ox + 1, none⟩ = some (.string xv) := by simpa using x1
          have H1 := Lib.hid (HH.out.keep hb1)
          have HK1 := Lib.hid hb1
          have f2 := (mv_blks H1.out).2.frozen 0
          have H2 := Lib.hid (mv_setK H1.out (xk ++ ⟨#[0]⟩))
          obtain ⟨⟨y1, y2⟩, ⟨y3, y4, y5⟩, y6⟩ := CE5.out _ _ _ _ H2.out
          obtain ⟨⟨z1, z2⟩, -, -⟩ := CE5.out _ _ _ _ H1.out
          clear hcx hb1 hw1 c1 c2 c3 c4 c5 c6
          gi_wp2_with fail
          have KP := Lib.hid ((keeps_below (n := Wc.heap.size) HK1.out).trans (from_put (B := Wc.heap.size) (i := 0) (u := .string (xk ++ ⟨#[0]⟩)) (mv_blks H1.out).2))
          generalize W1.setCell ⟨GT, 0, none⟩ (.string (xk ++ ⟨#[0]⟩)) = V2 at *
          clear z1 z2 f2 y1 y2 y3 y4 y5 y6 H1 HK1
          have hmi : (0 : Int) ≤ (n' : Int) := by omega
          have hm20 : (n' : Int) < 20 := by omega
          by_cases hg : n' < n
          · have hgi : (n' : Int) < (n : Int) := by omega
            have e0 : n' < bs.length := by rw [HLN.out]; exact hg
            obtain ⟨bb, o, rfl, hc⟩ := HBAT.out.2 (by omega)
            obtain ⟨Ai, ci, z0, hops, hci1, hci2⟩ := hc n' e0
            have hsz := HZ.out _ (List.getElem_mem e0)
            have hsc := mvR_in (R0 := R0) e0 hn20
            rw [← HR.out] at hsc
            have HSC := Lib.hid hsc
            have HC := Lib.hid (fun V X Y (h : Has w (X :: Y :: blkA GM 3 #[.int .i64 (n' : Nat)] :: blkA GT 9 #[.string (xk ++ ⟨#[0]⟩)] :: TT) V) => (show V.cell? ⟨GM, 0, none⟩ = some (.int .i64 (n' : Nat)) ∧ V.cell? ⟨w.heap.size, 0, none⟩ = some (.slice (some ⟨bb, o, none⟩) n c) ∧ V.cell? ⟨GB, 0, none⟩ = some (pt b) ∧ V.cell? ⟨GA, 0, none⟩ = some (pt p) ∧ V.cell? ⟨bb, o + n', none⟩ = some (.slice Ai (bs[n']'e0).length ci) from
              ⟨(h.blkAt (g := GM) (t := 3) (cs := #[.int .i64 (n' : Nat)]) (by simp)).cell 0, (CEL.out _ _ h (fun Z hZ => by simp [HSUB.out Z hZ])).2.2, (CEL.out _ _ h (fun Z hZ => by simp [HSUB.out Z hZ])).1, (CEL.out _ _ h (fun Z hZ => by simp [HSUB.out Z hZ])).2.1, (h.bel.cell (World.block_lt_of_cell? w _ z0)).trans z0⟩))
            have hP : TS w p b r (rapp r (bs[n']'e0)) (blkA GM 3 #[.int .i64 (n' : Nat)] :: blkA GT 9 #[.string (xk ++ ⟨#[0]⟩)] :: TT) false false V2.drew := Has.drew (show Has w (tbA p r :: rtA b r :: blkA GM 3 #[.int .i64 (n' : Nat)] :: blkA GT 9 #[.string (xk ++ ⟨#[0]⟩)] :: TT) V2 from H2.out)
            have hS := HC.out _ _ _ hP
            have HA1 := Lib.hid (fun W y (h : TS w p b r (rapp r (bs[n']'e0)) (blkA GM 3 #[.int .i64 (n' : Nat)] :: blkA GT 9 #[.string (xk ++ ⟨#[0]⟩)] :: TT) false y W) => h.appA HOKR.out (by omega) Ai _ ci hops (by omega) hsz)
            have HB1 := Lib.hid (fun W x (h : TS w p b r (rapp r (bs[n']'e0)) (blkA GM 3 #[.int .i64 (n' : Nat)] :: blkA GT 9 #[.string (xk ++ ⟨#[0]⟩)] :: TT) x false W) => h.appB (by have := HOKR.out.len; omega) Ai _ ci hops (by omega))
            have b0 : ((((chk (bs[n']'e0)) : Nat) : Int) != (((chk (bs[n']'e0)) : Nat) : Int)) = false := by simp
            clear hc hops hci1 hci2 hsz hsc z0
            generalize (bs[n']'e0).length = m at *
            generalize rapp r (bs[n']'e0) = R' at *
            generalize ((chk (bs[n']'e0) : Nat) : Int) = ee at *
            clear e0
            refine wpIn_round_held (S := fun W => W.cell? ⟨GM, 0, none⟩ = some (.int .i64 (n' : Nat)) ∧ W.cell? ⟨w.heap.size, 0, none⟩ = some (.slice (some ⟨bb, o, none⟩) n c) ∧ W.cell? ⟨GB, 0, none⟩ = some (pt b) ∧ W.cell? ⟨GA, 0, none⟩ = some (pt p) ∧ W.cell? ⟨bb, o + n', none⟩ = some (.slice Ai m ci)) hmix (by kernel_rfl) hS (fun hHeld => ?_)
            simp only [List.size_toArray, List.length_cons, List.length_nil, Nat.reduceAdd, Array.replicate_succ, Array.replicate_zero]
            refine wpAnyH_take (i := 0) (oi := { dst := some 77, op := Op.load 3 (Operand.tmp 11), type := 3, pos := "law.go:95", after := #[], guard := none }) (v := ?v01) rfl (by kernel_rfl) (by kernel_rfl) (by kernel_rfl) (fun _ _ _ h => h) (Or.inl ⟨by rfl, ?hy01⟩) (by assumption) ?rest01
            case hy01 => (intro V hSw; (try dsimp only at hSw); go_simp; all_goals (with_reducible rfl))
            try simp only [Act.put, List.setIfInBounds_toArray, List.set_cons_zero, List.set_cons_succ]
            refine wpAnyH_take (i := 1) (oi := { dst := some 78, op := Op.load 22 (Operand.tmp 3), type := 22, pos := "law.go:95", after := #[], guard := none }) (v := ?v11) rfl (by kernel_rfl) (by kernel_rfl) (by kernel_rfl) (fun _ _ _ h => h) (Or.inl ⟨by rfl, ?hy11⟩) (by assumption) ?rest11
            case hy11 => (intro V hSw; (try dsimp only at hSw); go_simp; all_goals (with_reducible rfl))
            try simp only [Act.put, List.setIfInBounds_toArray, List.set_cons_zero, List.set_cons_succ]
            refine wpAnyH_take (i := 2) (oi := { dst := some 79, op := Op.call { callee := Callee.builtin Builtin.len, args := #[Operand.tmp 78], argTypes := #[22] }, type := 3, pos := "law.go:95", after := #[{ on := 1, ground := Ground.data }], guard := none }) (v := ?v21) rfl (by kernel_rfl) (by kernel_rfl) (by kernel_rfl) (fun _ _ _ h => h) (Or.inl ⟨by rfl, ?hy21⟩) (by assumption) ?rest21
            case hy21 => (intro V hSw; (try dsimp only at hSw); go_simp; all_goals (with_reducible rfl))
            try simp only [Act.put, List.setIfInBounds_toArray, List.set_cons_zero, List.set_cons_succ]
            refine wpAnyH_take (i := 3) (oi := { dst := some 80, op := Op.binOp BinOp.lss 3 (Operand.tmp 77) (Operand.tmp 79) 3, type := 4, pos := "law.go:95", after := #[{ on := 0, ground := Ground.data }, { on := 2, ground := Ground.data }], guard := none }) (v := ?v31) rfl (by kernel_rfl) (by kernel_rfl) (by kernel_rfl) (fun _ _ _ h => h) (Or.inl ⟨by rfl, ?hy31⟩) (by assumption) ?rest31
            case hy31 => (intro V hSw; (try dsimp only at hSw); go_simp; all_goals (with_reducible rfl))
            try simp only [Act.put, List.setIfInBounds_toArray, List.set_cons_zero, List.set_cons_succ]
            refine wpAnyH_take (i := 4) (oi := { dst := some 81, op := Op.move (Operand.tmp 80), type := 4, pos := "law.go:95", after := #[{ on := 3, ground := Ground.data }], guard := none }) (v := ?v41) rfl (by kernel_rfl) (by kernel_rfl) (by kernel_rfl) (fun _ _ _ h => h) (Or.inl ⟨by rfl, ?hy41⟩) (by assumption) ?rest41
            case hy41 => (intro V hSw; (try dsimp only at hSw); go_simp; all_goals (with_reducible rfl))
            try simp only [Act.put, List.setIfInBounds_toArray, List.set_cons_zero, List.set_cons_succ]
            refine wpAnyH_take (i := 5) (oi := { dst := some 82, op := Op.load 3 (Operand.tmp 11), type := 3, pos := "law.go:95", after := #[{ on := 4, ground := Ground.guard }], guard := some (4, true) }) (v := ?v51) rfl (by kernel_rfl) (by kernel_rfl) (by kernel_rfl) (fun _ _ _ h => h) (Or.inl ⟨by rfl, ?hy51⟩) (by assumption) ?rest51
            case hy51 => (intro V hSw; (try dsimp only at hSw); go_simp; all_goals (with_reducible rfl))
            try simp only [Act.put, List.setIfInBounds_toArray, List.set_cons_zero, List.set_cons_succ]
            refine wpAnyH_take (i := 6) (oi := { dst := some 83, op := Op.binOp BinOp.lss 3 (Operand.tmp 82) (Operand.const (Value.int IntKind.i64 20)) 3, type := 4, pos := "law.go:95", after := #[{ on := 5, ground := Ground.data }, { on := 4, ground := Ground.guard }], guard := some (4, true) }) (v := ?v61) rfl (by kernel_rfl) (by kernel_rfl) (by kernel_rfl) (fun _ _ _ h => h) (Or.inl ⟨by rfl, ?hy61⟩) (by assumption) ?rest61
            case hy61 => (intro V hSw; (try dsimp only at hSw); go_simp; all_goals (with_reducible rfl))
            try simp only [Act.put, List.setIfInBounds_toArray, List.set_cons_zero, List.set_cons_succ]
            refine wpAnyH_take (i := 7) (oi := { dst := some 84, op := Op.pick (Operand.tmp 81) (Operand.tmp 83) (Operand.const (Value.bool false)), type := 4, pos := "law.go:95", after := #[{ on := 4, ground := Ground.data }, { on := 6, ground := Ground.data }], guard := none }) (v := ?v71) rfl (by kernel_rfl) (by kernel_rfl) (by kernel_rfl) (fun _ _ _ h => h) (Or.inl ⟨by rfl, ?hy71⟩) (by assumption) ?rest71
            case hy71 => (intro V hSw; (try dsimp only at hSw); go_simp; all_goals (with_reducible rfl))
            try simp only [Act.put, List.setIfInBounds_toArray, List.set_cons_zero, List.set_cons_succ]
            refine wpAnyH_take (i := 8) (oi := { dst := some 85, op := Op.move (Operand.tmp 84), type := 4, pos := "law.go:95", after := #[{ on := 7, ground := Ground.data }, { on := 4, ground := Ground.chain }], guard := none }) (v := ?v81) rfl (by kernel_rfl) (by kernel_rfl) (by kernel_rfl) (fun _ _ _ h => h) (Or.inl ⟨by rfl, ?hy81⟩) (by assumption) ?rest81
            case hy81 => (intro V hSw; (try dsimp only at hSw); go_simp; all_goals (with_reducible rfl))
            try simp only [Act.put, List.setIfInBounds_toArray, List.set_cons_zero, List.set_cons_succ]
            refine wpAnyH_take (i := 9) (oi := { dst := some 86, op := Op.load 23 (Operand.tmp 7), type := 23, pos := "law.go:95", after := #[{ on := 8, ground := Ground.guard }], guard := some (8, true) }) (v := ?v91) rfl (by kernel_rfl) (by kernel_rfl) (by kernel_rfl) (fun _ _ _ h => h) (Or.inl ⟨by rfl, ?hy91⟩) (by assumption) ?rest91
            case hy91 => (intro V hSw; (try dsimp only at hSw); go_simp; all_goals (with_reducible rfl))
            try simp only [Act.put, List.setIfInBounds_toArray, List.set_cons_zero, List.set_cons_succ]
            refine wpAnyH_take (i := 10) (oi := { dst := some 87, op := Op.load 22 (Operand.tmp 3), type := 22, pos := "law.go:95", after := #[{ on := 8, ground := Ground.guard }], guard := some (8, true) }) (v := ?v101) rfl (by kernel_rfl) (by kernel_rfl) (by kernel_rfl) (fun _ _ _ h => h) (Or.inl ⟨by rfl, ?hy101⟩) (by assumption) ?rest101
            case hy101 => (intro V hSw; (try dsimp only at hSw); go_simp; all_goals (with_reducible rfl))
            try simp only [Act.put, List.setIfInBounds_toArray, List.set_cons_zero, List.set_cons_succ]
            refine wpAnyH_take (i := 11) (oi := { dst := some 88, op := Op.load 3 (Operand.tmp 11), type := 3, pos := "law.go:95", after := #[{ on := 8, ground := Ground.guard }], guard := some (8, true) }) (v := ?v111) rfl (by kernel_rfl) (by kernel_rfl) (by kernel_rfl) (fun _ _ _ h => h) (Or.inl ⟨by rfl, ?hy111⟩) (by assumption) ?rest111
            case hy111 => (intro V hSw; (try dsimp only at hSw); go_simp; all_goals (with_reducible rfl))
            try simp only [Act.put, List.setIfInBounds_toArray, List.set_cons_zero, List.set_cons_succ]
            refine wpAnyH_take (i := 12) (oi := { dst := some 89, op := Op.indexAddr 22 (Operand.tmp 87) (Operand.tmp 88), type := 0, pos := "law.go:95", after := #[{ on := 10, ground := Ground.data }, { on := 11, ground := Ground.data }, { on := 8, ground := Ground.guard }], guard := some (8, true) }) (v := ?v121) rfl (by kernel_rfl) (by kernel_rfl) (by kernel_rfl) (fun _ _ _ h => h) (Or.inl ⟨by rfl, ?hy121⟩) (by assumption) ?rest121
            case hy121 => (intro V hSw; (try dsimp only at hSw); go_simp; all_goals (with_reducible rfl))
            try simp only [Act.put, List.setIfInBounds_toArray, List.set_cons_zero, List.set_cons_succ]
            refine wpAnyH_take (i := 13) (oi := { dst := some 90, op := Op.load 27 (Operand.tmp 89), type := 27, pos := "law.go:95", after := #[{ on := 12, ground := Ground.data }, { on := 8, ground := Ground.guard }], guard := some (8, true) }) (v := ?v131) rfl (by kernel_rfl) (by kernel_rfl) (by kernel_rfl) (fun _ _ _ h => h) (Or.inl ⟨by rfl, ?hy131⟩) (by assumption) ?rest131
            case hy131 => (intro V hSw; (try dsimp only at hSw); go_simp; all_goals (with_reducible rfl))
            try simp only [Act.put, List.setIfInBounds_toArray, List.set_cons_zero, List.set_cons_succ]
            refine wpAnyH_take (i := 15) (oi := { dst := some 92, op := Op.load 25 (Operand.tmp 8), type := 25, pos := "law.go:95", after := #[{ on := 8, ground := Ground.guard }], guard := some (8, true) }) (v := ?v151) rfl (by kernel_rfl) (by kernel_rfl) (by kernel_rfl) (fun _ _ _ h => h) (Or.inl ⟨by rfl, ?hy151⟩) (by assumption) ?rest151
            case hy151 => (intro V hSw; (try dsimp only at hSw); go_simp; all_goals (with_reducible rfl))
            try simp only [Act.put, List.setIfInBounds_toArray, List.set_cons_zero, List.set_cons_succ]
            refine wpAnyH_take (i := 16) (oi := { dst := some 93, op := Op.load 22 (Operand.tmp 3), type := 22, pos := "law.go:95", after := #[{ on := 8, ground := Ground.guard }], guard := some (8, true) }) (v := ?v161) rfl (by kernel_rfl) (by kernel_rfl) (by kernel_rfl) (fun _ _ _ h => h) (Or.inl ⟨by rfl, ?hy161⟩) (by assumption) ?rest161
            case hy161 => (intro V hSw; (try dsimp only at hSw); go_simp; all_goals (with_reducible rfl))
            try simp only [Act.put, List.setIfInBounds_toArray, List.set_cons_zero, List.set_cons_succ]
            refine wpAnyH_take (i := 17) (oi := { dst := some 94, op := Op.load 3 (Operand.tmp 11), type := 3, pos := "law.go:95", after := #[{ on := 8, ground := Ground.guard }], guard := some (8, true) }) (v := ?v171) rfl (by kernel_rfl) (by kernel_rfl) (by kernel_rfl) (fun _ _ _ h => h) (Or.inl ⟨by rfl, ?hy171⟩) (by assumption) ?rest171
            case hy171 => (intro V hSw; (try dsimp only at hSw); go_simp; all_goals (with_reducible rfl))
            try simp only [Act.put, List.setIfInBounds_toArray, List.set_cons_zero, List.set_cons_succ]
            refine wpAnyH_take (i := 18) (oi := { dst := some 95, op := Op.indexAddr 22 (Operand.tmp 93) (Operand.tmp 94), type := 0, pos := "law.go:95", after := #[{ on := 16, ground := Ground.data }, { on := 17, ground := Ground.data }, { on := 8, ground := Ground.guard }], guard := some (8, true) }) (v := ?v181) rfl (by kernel_rfl) (by kernel_rfl) (by kernel_rfl) (fun _ _ _ h => h) (Or.inl ⟨by rfl, ?hy181⟩) (by assumption) ?rest181
            case hy181 => (intro V hSw; (try dsimp only at hSw); go_simp; all_goals (with_reducible rfl))
            try simp only [Act.put, List.setIfInBounds_toArray, List.set_cons_zero, List.set_cons_succ]
            refine wpAnyH_take (i := 19) (oi := { dst := some 96, op := Op.load 27 (Operand.tmp 95), type := 27, pos := "law.go:95", after := #[{ on := 18, ground := Ground.data }, { on := 8, ground := Ground.guard }], guard := some (8, true) }) (v := ?v191) rfl (by kernel_rfl) (by kernel_rfl) (by kernel_rfl) (fun _ _ _ h => h) (Or.inl ⟨by rfl, ?hy191⟩) (by assumption) ?rest191
            case hy191 => (intro V hSw; (try dsimp only at hSw); go_simp; all_goals (with_reducible rfl))
            try simp only [Act.put, List.setIfInBounds_toArray, List.set_cons_zero, List.set_cons_succ]
            refine wpAnyH_ready (rs := [14]) (by kernel_rfl) (by simp) ?_
            refine AllReadyH.cons (o := { dst := some 91, op := Op.call { callee := Callee.value (Operand.func 14), args := #[Operand.tmp 86, Operand.tmp 90], argTypes := #[23, 27] }, type := 28, pos := "law.go:95", after := #[{ on := 9, ground := Ground.data }, { on := 13, ground := Ground.data }, { on := 8, ground := Ground.chain }, { on := 8, ground := Ground.guard }], guard := some (8, true) }) rfl (fun K hK => ?_) AllReadyH.nil
            go_simp
            refine (HA1.out _ _ hP).mono ?_
            rintro e W8 ⟨rfl, hP8, -, hkW8⟩
            refine hK.out _ _ (HC.out _ _ _ hP8) (fun hHeld2 => ?_)
            clear hK K
            try simp only [Act.put, List.setIfInBounds_toArray, List.set_cons_zero, List.set_cons_succ]
            refine wpAnyH_ready (rs := [20]) (by kernel_rfl) (by simp) ?_
            refine AllReadyH.cons (o := { dst := some 97, op := Op.call { callee := Callee.value (Operand.func 15), args := #[Operand.tmp 92, Operand.tmp 96], argTypes := #[25, 27] }, type := 28, pos := "law.go:95", after := #[{ on := 15, ground := Ground.data }, { on := 19, ground := Ground.data }, { on := 14, ground := Ground.chain }, { on := 8, ground := Ground.guard }], guard := some (8, true) }) rfl (fun K hK => ?_) AllReadyH.nil
            go_simp
            refine (HB1.out _ _ hP8).mono ?_
            rintro e W9 ⟨rfl, hP9, -, hkW9⟩
            refine hK.out _ _ (HC.out _ _ _ hP9) (fun hHeld2 => ?_)
            clear hK K
            try simp only [Act.put, List.setIfInBounds_toArray, List.set_cons_zero, List.set_cons_succ]
            refine wpAnyH_take (i := 21) (oi := { dst := some 98, op := Op.binOp BinOp.neq 28 (Operand.tmp 91) (Operand.tmp 97) 28, type := 4, pos := "law.go:95", after := #[{ on := 14, ground := Ground.data }, { on := 20, ground := Ground.data }, { on := 8, ground := Ground.guard }], guard := some (8, true) }) (v := ?v211) rfl (by kernel_rfl) (by kernel_rfl) (by kernel_rfl) (fun _ _ _ h => h) (Or.inl ⟨by rfl, ?hy211⟩) (by assumption) ?rest211
            case hy211 => (intro V hSw; (try dsimp only at hSw); go_simp; all_goals (with_reducible rfl))
            try simp only [Act.put, List.setIfInBounds_toArray, List.set_cons_zero, List.set_cons_succ]
            refine wpAnyH_take (i := 22) (oi := { dst := some 99, op := Op.pick (Operand.tmp 85) (Operand.tmp 98) (Operand.const (Value.bool false)), type := 4, pos := "law.go:95", after := #[{ on := 8, ground := Ground.data }, { on := 21, ground := Ground.data }], guard := none }) (v := ?v221) rfl (by kernel_rfl) (by kernel_rfl) (by kernel_rfl) (fun _ _ _ h => h) (Or.inl ⟨by rfl, ?hy221⟩) (by assumption) ?rest221
            case hy221 => (intro V hSw; (try dsimp only at hSw); go_simp; all_goals (with_reducible rfl))
            try simp only [Act.put, List.setIfInBounds_toArray, List.set_cons_zero, List.set_cons_succ]
            refine wpAnyH_done (by kernel_rfl) ?_ _
            have H9 := Lib.hid (show Has w (MvL p b GM GT R' n' (xk ++ ⟨#[0]⟩) TT) W9 from hP9)
            have KP9 := Lib.hid (((KP.out.trans (show KeepsFrom _ V2 V2.drew from ⟨Nat.le_refl _, fun _ _ _ h _ => h⟩)).trans (hkW8 _)).trans (hkW9 _))
            have HRR := HSC
            clear hP hP8 hP9 hkW8 hkW9 hHeld hHeld2 hS HA1 HB1 HC
            have hz1 := (mv_cells H9.out).1
            have hz2 := (mv_blks H9.out).1.frozen 0
            have H10 : Has w (MvL p b GM GT R' (n' + 1) (xk ++ ⟨#[0]⟩) TT) (W9.setCell ⟨GM, 0, none⟩ (.int .i64 ((n' : Int) + 1))) := by
              have := mv_setN H9.out (n' + 1)
              rwa [show ((n' + 1 : Nat) : Int) = (n' : Int) + 1 by push_cast; rfl] at this
            have hz3 : (W9.setCell ⟨GM, 0, none⟩ (.int .i64 ((n' : Int) + 1))).cell? ⟨GM, 0, none⟩ = some (.int .i64 ((n' : Int) + 1)) := by
              have := (mv_cells H10).1
              rwa [show ((n' + 1 : Nat) : Int) = (n' : Int) + 1 by push_cast; rfl] at this
            have hk10' : KeepsFrom Wc.heap.size W (W9.setCell ⟨GM, 0, none⟩ (.int .i64 ((n' : Int) + 1))) := KP9.out.trans (from_put (mv_blks H9.out).1)
            have HT10 := Lib.hid H10
            have HK10 := Lib.hid hk10'
            have HBL := Lib.hid (CRR.out _ _ _ _ H10)
            clear H10 hk10'
            simp only [NormalOnly]
            by_cases h20 : n' + 1 = 20
            · first
              | (exfalso; omega)
              | (have q20 : (((n' : Int) + 1) == 20) = true := by rw [beq_iff_eq]; omega
                 gi_wp2_with fail
                 refine ⟨trivial, ((callsIn_wide.2 (tb_works _)).inRound l).mono ?_⟩
                 rintro e W11 ⟨rfl, hb11⟩
                 have hbl := HBL.out.below hb11 HBL.out.lt
                 have hf11 := hbl.frozen 0
                 have hc11 := hbl.cell 0
                 have HB11 := Lib.hid hb11
                 clear hb11
                 gi_wp2_with fail
                 exact ⟨(HK10.out.trans (keeps_below HB11.out)).trans (from_put hbl), rfl, by simpa using hbl.set_ 0 (.bool true), below_put (bst HT10.out.bel HB11.out) (by omega)⟩)
            · have q20 : (((n' : Int) + 1) == 20) = false := beq_eq_false_iff_ne.2 (by omega)
              gi_wp2_with fail
              first | exact ⟨HK10.out, by omega, by rw [HRR.out]; exact HT10.out⟩ | exact ⟨HK10.out, R', by rw [HRR.out], by omega, HT10.out⟩
          · have hgi : ¬ (n' : Int) < (n : Int) := by omega
            have hsc := mvR_out (bs := bs) (R0 := R0) (j := n') (.inl (by rw [HLN.out]; exact hg))
            rw [← HR.out] at hsc
            have HRR := Lib.hid hsc
            clear hsc
            have hh2 : Has w (MvL p b GM GT r n' (xk ++ ⟨#[0]⟩) TT) V2.drew := Has.drew H2.out
            obtain ⟨⟨y1, -⟩, ⟨-, -, y3⟩, -⟩ := CE5.out _ _ _ _ hh2
            have H9 := Lib.hid hh2
            have KP9 := Lib.hid (KP.out.trans (show KeepsFrom _ V2 V2.drew from ⟨Nat.le_refl _, fun _ _ _ h _ => h⟩))
            clear hh2
            refine wpIn_round_held (S := fun W => W.cell? ⟨GM, 0, none⟩ = some (.int .i64 (n' : Nat)) ∧ W.cell? ⟨w.heap.size, 0, none⟩ = some (.slice A n c)) hmix (by kernel_rfl) ⟨y1, y3⟩ (fun hHeld => ?_)
            simp only [List.size_toArray, List.length_cons, List.length_nil, Nat.reduceAdd, Array.replicate_succ, Array.replicate_zero]
            refine wpAnyH_take (i := 0) (oi := { dst := some 77, op := Op.load 3 (Operand.tmp 11), type := 3, pos := "law.go:95", after := #[], guard := none }) (v := ?w01) rfl (by kernel_rfl) (by kernel_rfl) (by kernel_rfl) (fun _ _ _ h => h) (Or.inl ⟨by rfl, ?hw01⟩) (by assumption) ?rst01
            case hw01 => (intro V hSw; (try dsimp only at hSw); go_simp; all_goals (with_reducible rfl))
            try simp only [Act.put, List.setIfInBounds_toArray, List.set_cons_zero, List.set_cons_succ]
            refine wpAnyH_take (i := 1) (oi := { dst := some 78, op := Op.load 22 (Operand.tmp 3), type := 22, pos := "law.go:95", after := #[], guard := none }) (v := ?w11) rfl (by kernel_rfl) (by kernel_rfl) (by kernel_rfl) (fun _ _ _ h => h) (Or.inl ⟨by rfl, ?hw11⟩) (by assumption) ?rst11
            case hw11 => (intro V hSw; (try dsimp only at hSw); go_simp; all_goals (with_reducible rfl))
            try simp only [Act.put, List.setIfInBounds_toArray, List.set_cons_zero, List.set_cons_succ]
            refine wpAnyH_take (i := 2) (oi := { dst := some 79, op := Op.call { callee := Callee.builtin Builtin.len, args := #[Operand.tmp 78], argTypes := #[22] }, type := 3, pos := "law.go:95", after := #[{ on := 1, ground := Ground.data }], guard := none }) (v := ?w21) rfl (by kernel_rfl) (by kernel_rfl) (by kernel_rfl) (fun _ _ _ h => h) (Or.inl ⟨by rfl, ?hw21⟩) (by assumption) ?rst21
            case hw21 => (intro V hSw; (try dsimp only at hSw); go_simp; all_goals (with_reducible rfl))
            try simp only [Act.put, List.setIfInBounds_toArray, List.set_cons_zero, List.set_cons_succ]
            refine wpAnyH_take (i := 3) (oi := { dst := some 80, op := Op.binOp BinOp.lss 3 (Operand.tmp 77) (Operand.tmp 79) 3, type := 4, pos := "law.go:95", after := #[{ on := 0, ground := Ground.data }, { on := 2, ground := Ground.data }], guard := none }) (v := ?w31) rfl (by kernel_rfl) (by kernel_rfl) (by kernel_rfl) (fun _ _ _ h => h) (Or.inl ⟨by rfl, ?hw31⟩) (by assumption) ?rst31
            case hw31 => (intro V hSw; (try dsimp only at hSw); go_simp; all_goals (with_reducible rfl))
            try simp only [Act.put, List.setIfInBounds_toArray, List.set_cons_zero, List.set_cons_succ]
            refine wpAnyH_take (i := 4) (oi := { dst := some 81, op := Op.move (Operand.tmp 80), type := 4, pos := "law.go:95", after := #[{ on := 3, ground := Ground.data }], guard := none }) (v := ?w41) rfl (by kernel_rfl) (by kernel_rfl) (by kernel_rfl) (fun _ _ _ h => h) (Or.inl ⟨by rfl, ?hw41⟩) (by assumption) ?rst41
            case hw41 => (intro V hSw; (try dsimp only at hSw); go_simp; all_goals (with_reducible rfl))
            try simp only [Act.put, List.setIfInBounds_toArray, List.set_cons_zero, List.set_cons_succ]
            refine wpAnyH_take (i := 5) (oi := { dst := some 82, op := Op.load 3 (Operand.tmp 11), type := 3, pos := "law.go:95", after := #[{ on := 4, ground := Ground.guard }], guard := some (4, true) }) (v := undef) rfl (by kernel_rfl) (by kernel_rfl) (by kernel_rfl) (fun _ _ _ h => h) (Or.inr ⟨by rfl, rfl⟩) (by assumption) ?rst51
            try simp only [Act.put, List.setIfInBounds_toArray, List.set_cons_zero, List.set_cons_succ]
            refine wpAnyH_take (i := 6) (oi := { dst := some 83, op := Op.binOp BinOp.lss 3 (Operand.tmp 82) (Operand.const (Value.int IntKind.i64 20)) 3, type := 4, pos := "law.go:95", after := #[{ on := 5, ground := Ground.data }, { on := 4, ground := Ground.guard }], guard := some (4, true) }) (v := undef) rfl (by kernel_rfl) (by kernel_rfl) (by kernel_rfl) (fun _ _ _ h => h) (Or.inr ⟨by rfl, rfl⟩) (by assumption) ?rst61
            try simp only [Act.put, List.setIfInBounds_toArray, List.set_cons_zero, List.set_cons_succ]
            refine wpAnyH_take (i := 7) (oi := { dst := some 84, op := Op.pick (Operand.tmp 81) (Operand.tmp 83) (Operand.const (Value.bool false)), type := 4, pos := "law.go:95", after := #[{ on := 4, ground := Ground.data }, { on := 6, ground := Ground.data }], guard := none }) (v := ?w71) rfl (by kernel_rfl) (by kernel_rfl) (by kernel_rfl) (fun _ _ _ h => h) (Or.inl ⟨by rfl, ?hw71⟩) (by assumption) ?rst71
            case hw71 => (intro V hSw; (try dsimp only at hSw); go_simp; all_goals (with_reducible rfl))
            try simp only [Act.put, List.setIfInBounds_toArray, List.set_cons_zero, List.set_cons_succ]
            refine wpAnyH_take (i := 8) (oi := { dst := some 85, op := Op.move (Operand.tmp 84), type := 4, pos := "law.go:95", after := #[{ on := 7, ground := Ground.data }, { on := 4, ground := Ground.chain }], guard := none }) (v := ?w81) rfl (by kernel_rfl) (by kernel_rfl) (by kernel_rfl) (fun _ _ _ h => h) (Or.inl ⟨by rfl, ?hw81⟩) (by assumption) ?rst81
            case hw81 => (intro V hSw; (try dsimp only at hSw); go_simp; all_goals (with_reducible rfl))
            try simp only [Act.put, List.setIfInBounds_toArray, List.set_cons_zero, List.set_cons_succ]
            refine wpAnyH_take (i := 9) (oi := { dst := some 86, op := Op.load 23 (Operand.tmp 7), type := 23, pos := "law.go:95", after := #[{ on := 8, ground := Ground.guard }], guard := some (8, true) }) (v := undef) rfl (by kernel_rfl) (by kernel_rfl) (by kernel_rfl) (fun _ _ _ h => h) (Or.inr ⟨by rfl, rfl⟩) (by assumption) ?rst91
            try simp only [Act.put, List.setIfInBounds_toArray, List.set_cons_zero, List.set_cons_succ]
            refine wpAnyH_take (i := 10) (oi := { dst := some 87, op := Op.load 22 (Operand.tmp 3), type := 22, pos := "law.go:95", after := #[{ on := 8, ground := Ground.guard }], guard := some (8, true) }) (v := undef) rfl (by kernel_rfl) (by kernel_rfl) (by kernel_rfl) (fun _ _ _ h => h) (Or.inr ⟨by rfl, rfl⟩) (by assumption) ?rst101
            try simp only [Act.put, List.setIfInBounds_toArray, List.set_cons_zero, List.set_cons_succ]
            refine wpAnyH_take (i := 11) (oi := { dst := some 88, op := Op.load 3 (Operand.tmp 11), type := 3, pos := "law.go:95", after := #[{ on := 8, ground := Ground.guard }], guard := some (8, true) }) (v := undef) rfl (by kernel_rfl) (by kernel_rfl) (by kernel_rfl) (fun _ _ _ h => h) (Or.inr ⟨by rfl, rfl⟩) (by assumption) ?rst111
            try simp only [Act.put, List.setIfInBounds_toArray, List.set_cons_zero, List.set_cons_succ]
            refine wpAnyH_take (i := 12) (oi := { dst := some 89, op := Op.indexAddr 22 (Operand.tmp 87) (Operand.tmp 88), type := 0, pos := "law.go:95", after := #[{ on := 10, ground := Ground.data }, { on := 11, ground := Ground.data }, { on := 8, ground := Ground.guard }], guard := some (8, true) }) (v := undef) rfl (by kernel_rfl) (by kernel_rfl) (by kernel_rfl) (fun _ _ _ h => h) (Or.inr ⟨by rfl, rfl⟩) (by assumption) ?rst121
            try simp only [Act.put, List.setIfInBounds_toArray, List.set_cons_zero, List.set_cons_succ]
            refine wpAnyH_take (i := 13) (oi := { dst := some 90, op := Op.load 27 (Operand.tmp 89), type := 27, pos := "law.go:95", after := #[{ on := 12, ground := Ground.data }, { on := 8, ground := Ground.guard }], guard := some (8, true) }) (v := undef) rfl (by kernel_rfl) (by kernel_rfl) (by kernel_rfl) (fun _ _ _ h => h) (Or.inr ⟨by rfl, rfl⟩) (by assumption) ?rst131
            try simp only [Act.put, List.setIfInBounds_toArray, List.set_cons_zero, List.set_cons_succ]
            refine wpAnyH_take (i := 15) (oi := { dst := some 92, op := Op.load 25 (Operand.tmp 8), type := 25, pos := "law.go:95", after := #[{ on := 8, ground := Ground.guard }], guard := some (8, true) }) (v := undef) rfl (by kernel_rfl) (by kernel_rfl) (by kernel_rfl) (fun _ _ _ h => h) (Or.inr ⟨by rfl, rfl⟩) (by assumption) ?rst151
            try simp only [Act.put, List.setIfInBounds_toArray, List.set_cons_zero, List.set_cons_succ]
            refine wpAnyH_take (i := 16) (oi := { dst := some 93, op := Op.load 22 (Operand.tmp 3), type := 22, pos := "law.go:95", after := #[{ on := 8, ground := Ground.guard }], guard := some (8, true) }) (v := undef) rfl (by kernel_rfl) (by kernel_rfl) (by kernel_rfl) (fun _ _ _ h => h) (Or.inr ⟨by rfl, rfl⟩) (by assumption) ?rst161
            try simp only [Act.put, List.setIfInBounds_toArray, List.set_cons_zero, List.set_cons_succ]
            refine wpAnyH_take (i := 17) (oi := { dst := some 94, op := Op.load 3 (Operand.tmp 11), type := 3, pos := "law.go:95", after := #[{ on := 8, ground := Ground.guard }], guard := some (8, true) }) (v := undef) rfl (by kernel_rfl) (by kernel_rfl) (by kernel_rfl) (fun _ _ _ h => h) (Or.inr ⟨by rfl, rfl⟩) (by assumption) ?rst171
            try simp only [Act.put, List.setIfInBounds_toArray, List.set_cons_zero, List.set_cons_succ]
            refine wpAnyH_take (i := 18) (oi := { dst := some 95, op := Op.indexAddr 22 (Operand.tmp 93) (Operand.tmp 94), type := 0, pos := "law.go:95", after := #[{ on := 16, ground := Ground.data }, { on := 17, ground := Ground.data }, { on := 8, ground := Ground.guard }], guard := some (8, true) }) (v := undef) rfl (by kernel_rfl) (by kernel_rfl) (by kernel_rfl) (fun _ _ _ h => h) (Or.inr ⟨by rfl, rfl⟩) (by assumption) ?rst181
            try simp only [Act.put, List.setIfInBounds_toArray, List.set_cons_zero, List.set_cons_succ]
            refine wpAnyH_take (i := 19) (oi := { dst := some 96, op := Op.load 27 (Operand.tmp 95), type := 27, pos := "law.go:95", after := #[{ on := 18, ground := Ground.data }, { on := 8, ground := Ground.guard }], guard := some (8, true) }) (v := undef) rfl (by kernel_rfl) (by kernel_rfl) (by kernel_rfl) (fun _ _ _ h => h) (Or.inr ⟨by rfl, rfl⟩) (by assumption) ?rst191
            try simp only [Act.put, List.setIfInBounds_toArray, List.set_cons_zero, List.set_cons_succ]
            refine wpAnyH_take (i := 14) (oi := { dst := some 91, op := Op.call { callee := Callee.value (Operand.func 14), args := #[Operand.tmp 86, Operand.tmp 90], argTypes := #[23, 27] }, type := 28, pos := "law.go:95", after := #[{ on := 9, ground := Ground.data }, { on := 13, ground := Ground.data }, { on := 8, ground := Ground.chain }, { on := 8, ground := Ground.guard }], guard := some (8, true) }) (v := undef) rfl (by kernel_rfl) (by kernel_rfl) (by kernel_rfl) (fun _ _ _ h => h) (Or.inr ⟨by rfl, rfl⟩) (by assumption) ?rst141
            try simp only [Act.put, List.setIfInBounds_toArray, List.set_cons_zero, List.set_cons_succ]
            refine wpAnyH_take (i := 20) (oi := { dst := some 97, op := Op.call { callee := Callee.value (Operand.func 15), args := #[Operand.tmp 92, Operand.tmp 96], argTypes := #[25, 27] }, type := 28, pos := "law.go:95", after := #[{ on := 15, ground := Ground.data }, { on := 19, ground := Ground.data }, { on := 14, ground := Ground.chain }, { on := 8, ground := Ground.guard }], guard := some (8, true) }) (v := undef) rfl (by kernel_rfl) (by kernel_rfl) (by kernel_rfl) (fun _ _ _ h => h) (Or.inr ⟨by rfl, rfl⟩) (by assumption) ?rst201
            try simp only [Act.put, List.setIfInBounds_toArray, List.set_cons_zero, List.set_cons_succ]
            refine wpAnyH_take (i := 21) (oi := { dst := some 98, op := Op.binOp BinOp.neq 28 (Operand.tmp 91) (Operand.tmp 97) 28, type := 4, pos := "law.go:95", after := #[{ on := 14, ground := Ground.data }, { on := 20, ground := Ground.data }, { on := 8, ground := Ground.guard }], guard := some (8, true) }) (v := undef) rfl (by kernel_rfl) (by kernel_rfl) (by kernel_rfl) (fun _ _ _ h => h) (Or.inr ⟨by rfl, rfl⟩) (by assumption) ?rst211
            try simp only [Act.put, List.setIfInBounds_toArray, List.set_cons_zero, List.set_cons_succ]
            refine wpAnyH_take (i := 22) (oi := { dst := some 99, op := Op.pick (Operand.tmp 85) (Operand.tmp 98) (Operand.const (Value.bool false)), type := 4, pos := "law.go:95", after := #[{ on := 8, ground := Ground.data }, { on := 21, ground := Ground.data }], guard := none }) (v := ?w221) rfl (by kernel_rfl) (by kernel_rfl) (by kernel_rfl) (fun _ _ _ h => h) (Or.inl ⟨by rfl, ?hw221⟩) (by assumption) ?rst221
            case hw221 => (intro V hSw; (try dsimp only at hSw); go_simp; all_goals (with_reducible rfl))
            try simp only [Act.put, List.setIfInBounds_toArray, List.set_cons_zero, List.set_cons_succ]
            refine wpAnyH_done (by kernel_rfl) ?_ _
            generalize V2.drew = W9 at *
            have hz1 := (mv_cells H9.out).1
            have hz2 := (mv_blks H9.out).1.frozen 0
            have H10 : Has w (MvL p b GM GT r (n' + 1) (xk ++ ⟨#[0]⟩) TT) (W9.setCell ⟨GM, 0, none⟩ (.int .i64 ((n' : Int) + 1))) := by
              have := mv_setN H9.out (n' + 1)
              rwa [show ((n' + 1 : Nat) : Int) = (n' : Int) + 1 by push_cast; rfl] at this
            have hz3 : (W9.setCell ⟨GM, 0, none⟩ (.int .i64 ((n' : Int) + 1))).cell? ⟨GM, 0, none⟩ = some (.int .i64 ((n' : Int) + 1)) := by
              have := (mv_cells H10).1
              rwa [show ((n' + 1 : Nat) : Int) = (n' : Int) + 1 by push_cast; rfl] at this
            have hk10' : KeepsFrom Wc.heap.size W (W9.setCell ⟨GM, 0, none⟩ (.int .i64 ((n' : Int) + 1))) := KP9.out.trans (from_put (mv_blks H9.out).1)
            have HT10 := Lib.hid H10
            have HK10 := Lib.hid hk10'
            have HBL := Lib.hid (CRR.out _ _ _ _ H10)
            clear H10 hk10'
            simp only [NormalOnly]
            by_cases h20 : n' + 1 = 20
            · have q20 : (((n' : Int) + 1) == 20) = true := by rw [beq_iff_eq]; omega
              gi_wp2_with fail
              refine ⟨trivial, ((callsIn_wide.2 (tb_works _)).inRound l).mono ?_⟩
              rintro e W11 ⟨rfl, hb11⟩
              have hbl := HBL.out.below hb11 HBL.out.lt
              have hf11 := hbl.frozen 0
              have hc11 := hbl.cell 0
              have HB11 := Lib.hid hb11
              clear hb11
              gi_wp2_with fail
              exact ⟨(HK10.out.trans (keeps_below HB11.out)).trans (from_put hbl), rfl, by simpa using hbl.set_ 0 (.bool true), below_put (bst HT10.out.bel HB11.out) (by omega)⟩
            · have q20 : (((n' : Int) + 1) == 20) = false := beq_eq_false_iff_ne.2 (by omega)
              gi_wp2_with fail
              first | exact ⟨HK10.out, by omega, by rw [HRR.out]; exact HT10.out⟩ | exact ⟨HK10.out, r, by rw [HRR.out], by omega, HT10.out⟩
        case done1 =>
          rintro D key r n' W hD hsW hno ⟨hr, hn20, hh⟩ hK
          have hok := mvR_ok HZ.out HOK.out n'
          rw [← hr] at hok
          rw [nxU_btw hok.sor, List.getElem?_eq_none_iff] at hno
          have hL0 : btw r key t = [] := List.eq_nil_of_length_eq_zero (by omega)
          have hlen := hok.len
          obtain ⟨⟨c1, c2⟩, ⟨c3, c4, c5⟩, c6⟩ := CE5.out _ _ _ _ hh
          have hbl0 := CRR.out _ _ _ _ hh
          have HBL := Lib.hid hbl0
          have HBW := Lib.hid hh.bel
          have HHK := Lib.hid (hh.rtBetweenM (b := b) (r := r) (by simp [MvL]) hok.sor key t (by omega) [] hL0)
          have hDr : w.heap.size + 1 + 1 < Wc.heap.size := (CRR.out _ _ _ _ HM0.out).lt
          clear hh hok hbl0 hL0 hno
          go_wp2_with fail
          refine HHK.out.mono ?_
          rintro e W1 ⟨Aw, cw, rfl, -, -, hcw, hdw, hb1⟩
          have hK1 := (hb1.block D (Array.getElem?_eq_some_iff.1 hK).1).trans hK
          have hbl1 := HBL.out.below hb1 HBL.out.lt
          have HB1 := Lib.hid (bst HBW.out hb1)
          clear hb1 hK
          go_wp2_with fail
          refine (tb_works _).mono ?_
          rintro e W2 ⟨rfl, hb2⟩
          have hK2 := (hb2.block D (Array.getElem?_eq_some_iff.1 hK1).1).trans hK1
          have hbl2 := hbl1.below hb2 hbl1.lt
          have hf2 := hbl2.frozen 0
          have hc2 := hbl2.cell 0
          have hbF0 := bst HB1.out hb2
          clear hb2 hK1
          go_wp2_with fail
          have hne : w.heap.size + 1 + 1 ≠ D := by omega
          have hbF : Below w.heap.size w (W2.setCell ⟨w.heap.size + 1 + 1, 0, none⟩ (.bool true)) := below_put hbF0 (by omega)
          have hK3 : (W2.setCell ⟨w.heap.size + 1 + 1, 0, none⟩ (.bool true)).heap[D]? = some (.deferred (some [])) := by simp only [World.setCell, Array.getElem?_modify]; rw [if_neg hne]; exact hK2
          have hblF : Blk (W2.setCell ⟨w.heap.size + 1 + 1, 0, none⟩ (.bool true)) (w.heap.size + 1 + 1) 4 #[.bool true] := by simpa using hbl2.set_ 0 (.bool true)
          generalize W2.setCell ⟨w.heap.size + 1 + 1, 0, none⟩ (.bool true) = WF at *
          refine ⟨by simp, .inl ⟨_, _, rfl, run_takeDeferred hK3, ?_⟩⟩
          have hfin : Blk (WF.putObj D (.deferred none)) (w.heap.size + 1 + 1) 4 #[.bool true] := by
            unfold Blk
            rw [World.putObj_heap_other hne]
            exact hblF
          refine ⟨.bool true, ?_, rfl, ?_⟩
          · have hc := hfin.cell 0
            have ht : (#[Value.bool true])[0]? = some (Value.bool true) := rfl
            rw [ht] at hc
            generalize WF.putObj D (.deferred none) = Z at *
            simp [results, Try.results5, go_sem, asAddr, loadVar, hc]
          · exact below_obj hbF (by omega)
        case stop1 =>
          rintro D cc WF hD hsW ⟨rfl, hblF, hbF⟩ hK3
          have hDr : w.heap.size + 1 + 1 < Wc.heap.size := (CRR.out _ _ _ _ HM0.out).lt
          have hne : w.heap.size + 1 + 1 ≠ D := by omega
          go_wp2_with fail
          refine ⟨by simp, .inl ⟨_, _, rfl, run_takeDeferred hK3, ?_⟩⟩
          have hfin : Blk (WF.putObj D (.deferred none)) (w.heap.size + 1 + 1) 4 #[.bool true] := by
            unfold Blk
            rw [World.putObj_heap_other hne]
            exact hblF
          refine ⟨.bool true, ?_, rfl, ?_⟩
          · have hc := hfin.cell 0
            have ht : (#[Value.bool true])[0]? = some (Value.bool true) := rfl
            rw [ht] at hc
            generalize WF.putObj D (.deferred none) = Z at *
            simp [results, Try.results5, go_sem, asAddr, loadVar, hc]
          · exact below_obj hbF (by omega)
      · have hki : ¬ (k : Int) < (n : Int) := by omega
        have hok := tabs_ok HZ.out k
        have HOK := Lib.hid (hok.mono (show 128 * k ≤ 1280 by omega))
        have HE := Lib.hid (show Has w (tbA p (tabs bs k) :: rtA b (tabs bs k) :: T) wr from HH.out)
        have hcmp : ∀ (fn : Fn) (f cs : Array Value) (W : World), (binOp .eql 49 (.func fn f cs) .nilFunc).run Try.prog W = .ok (.bool false) W := fun fn f cs W => by kernel_rfl
        generalize tabs bs k = R0 at *
        clear HH hok
        have hct := CET.out _ _ HE.out (fun A h => by simp [h])
        go_wp2_with fail
        refine (tb_all p f t _).mono ?_
        rintro e Wa ⟨a1, a2, a3, rfl, -, -, hba⟩
        have HEa := Lib.hid (HE.out.keep hba)
        have HEb := Lib.hid ((HEa.out.newBlk 9 #[.string f]).newBlk 3 #[.int .i64 0])
        simp only [World.size_alloc] at HEb
        obtain ⟨za1, za2, za3⟩ := CEL.out _ _ HEb.out (fun A h => by simp [h])
        have zat := CET.out _ _ HEb.out (fun A h => by simp [h])
        clear hct hba HE y1 y2 y3
        obtain ⟨GM, hGM⟩ : ∃ GM, GM = Wa.heap.size + 1 := ⟨_, rfl⟩
        obtain ⟨GT, hGT⟩ : ∃ GT, GT = Wa.heap.size := ⟨_, rfl⟩
        go_wp2_with fail
        rw [← hGM, ← hGT] at HEb
        try rw [← hGM]
        try rw [← hGT]
        refine (Has.tbAll HEb.out p f t).mono ?_
        rintro e Wc ⟨g1, g2, g3, rfl, h4⟩
        have HM0 := Lib.hid (show Has w (MvL p b GM GT R0 0 f (blkA g1 23 #[pt p] :: blkA g2 9 #[.string f] :: blkA g3 9 #[.string t] :: T)) Wc from h4.perm (mv_perm _ _ _ _ _ _ _ _))
        have TRX := Lib.hid (fun V r m key (h : Has w (MvL p b GM GT r m key (blkA g1 23 #[pt p] :: blkA g2 9 #[.string f] :: blkA g3 9 #[.string t] :: T)) V) (hz : Szs r) => (show TRD p g1 g2 g3 f t r V from h.trd hz (by simp [MvL]) (by simp [MvL]) (by simp [MvL]) (by simp [MvL])))
        have hcT : ∀ A ∈ (blkA g1 23 #[pt p] :: blkA g2 9 #[.string f] :: blkA g3 9 #[.string t] :: T), CelA A := by
          intro A hA
          simp only [List.mem_cons] at hA
          rcases hA with rfl | rfl | rfl | hA
          · exact cel_blk _ _ _
          · exact cel_blk _ _ _
          · exact cel_blk _ _ _
          · exact HCT.out A hA
        have HCQ := Lib.hid hcT
        have hsubT : ∀ A ∈ T, A ∈ (blkA g1 23 #[pt p] :: blkA g2 9 #[.string f] :: blkA g3 9 #[.string t] :: T) := fun A h => by simp [h]
        have HSUB := Lib.hid hsubT
        obtain ⟨TT, hTT⟩ : ∃ TT, TT = (blkA g1 23 #[pt p] :: blkA g2 9 #[.string f] :: blkA g3 9 #[.string t] :: T) := ⟨_, rfl⟩
        rw [← hTT] at HM0 TRX HCQ HSUB hsubT
        have CE5 := Lib.hid (fun V r m key (h : Has w (MvL p b GM GT r m key TT) V) => And.intro (mv_cells h) (And.intro (CEL.out _ _ h (fun A hA => mv_sub A (hsubT A hA))) (CET.out _ _ h (fun A hA => mv_sub A (hsubT A hA)))))
        have CRR := Lib.hid (fun V r m key (h : Has w (MvL p b GM GT r m key TT) V) => CER.out _ _ h (fun A hA => mv_sub A (hsubT A hA)))
        clear h4 hcT hsubT hTT HEb HEa za1 za2 za3 zat hGM hGT HT HCT H2
        go_wp2_with fail
        have HSW := HM0.out.bel.size
        have hmix : Try.prog.follows .mixedOrders = true := by kernel_rfl
        refine wp_tours (P := Try.prog) rfl (fun _ _ => rfl) (tb_all_tours p g1 g2 g3 f t) rfl 20
          (fun key r n' W => r = mvR bs R0 n' ∧ n' < 20 ∧ Has w (MvL p b GM GT r n' key TT) W)
          (fun c W => c = .ret ∧ Blk W (w.heap.size + 1 + 1) 4 #[.bool true] ∧ Below w.heap.size w W)
          (fun key r n' X Y h hX hf => ⟨h.1, h.2.1, mv_firm h.2.2 HCQ.out hf HSW⟩)
          (fun c X Y h hX hf => ⟨h.1, hf.cells h.2.1, h.2.2.trans (hf.below HSW h.2.2.size)⟩)
          (fun key r n' X h => ⟨TRX.out _ _ _ _ h.2.2 (by rw [h.1]; exact (mvR_ok HZ.out HOK.out n').szs), by have := h.2.1; omega⟩)
          R0 ⟨rfl, by omega, HM0.out⟩ ?a12 ?assign2 ?body2 ?done2 ?stop2
        case assign2 =>
          intro l x W K hK
          gi_wp2
          exact hK
        case body2 =>
          rintro l key r n' ⟨xk, xv⟩ W hsW ⟨hr, hn20, hh⟩ hx
          have hok := mvR_ok HZ.out HOK.out n'
          rw [← hr] at hok
          have hxm : (⟨xk, xv⟩ : Rw) ∈ r := by
            unfold nxU at hx
            split at hx
            · exact List.mem_of_getElem? hx
            · cases hx
          have hkx : ¬ 9223372036854775807 < xk.size + 1 := by have := (hok.szs _ hxm).1; have := (hok.szs _ hxm).2; simp only at *; omega
          rw [nxU_btw hok.sor] at hx
          obtain ⟨L, hL⟩ : ∃ L, btw r key t = L := ⟨_, rfl⟩
          rw [hL] at hx
          obtain ⟨hl0, hx0⟩ := List.getElem?_eq_some_iff.1 hx
          have hlen := hok.len
          have hLl : L.length ≤ 3840 := by have h1 := btw_len r key t; have h2 := rend_le r t; rw [hL] at h1; omega
          have HL := Lib.hid hL
          have HOKR := Lib.hid hok
          have HSOR := Lib.hid hok.sor
          have HR := Lib.hid hr
          have HH := Lib.hid hh
          have HX0 := Lib.hid hx0
          obtain ⟨⟨c1, c2⟩, ⟨c3, c4, c5⟩, c6⟩ := CE5.out _ _ _ _ hh
          have hlp : (0 : Int) < (L.length : Int) := by omega
          have hlz : ((L.length : Int) == 0) = false := beq_eq_false_iff_ne.2 (by omega)
          have e1 : (xk.toList != xk.toList) = false := by simp
          have e2 : (xv.toList != xv.toList) = false := by simp
          have e3 : (xk.toList == xk.toList) = true := by simp
          have e4 : (xv.toList == xv.toList) = true := by simp
          clear hr hh hok hL hx hx0
          gi_wp2_with fail
          refine ⟨trivial, ((callsIn_wide.2 (Has.rtBetweenM HH.out (b := b) (r := r) (by simp [MvL]) HSOR.out key t (by omega) L HL.out)).inRound l).mono ?_⟩
          rintro e W1 ⟨Aw, cw, rfl, -, hw1, hcw, hdw, hb1⟩
          obtain ⟨bx, ox, rfl, hcx⟩ := hw1.2 (by omega)
          obtain ⟨x0, x1⟩ := hcx 0 hl0
          rw [HX0.out] at x0 x1
          have x0s : W1.cell? ⟨bx, ox, none⟩ = some (.string xk) := by simpa using x0
          have x1s : W1.cell? ⟨bx, ox + 1, none⟩ = some (.string xv) := by simpa using x1
          have H1 := Lib.hid (HH.out.keep hb1)
          have HK1 := Lib.hid hb1
          have f2 := (mv_blks H1.out).2.frozen 0
          have H2 := Lib.hid (mv_setK H1.out (xk ++ ⟨#[0]⟩))
          obtain ⟨⟨y1, y2⟩, ⟨y3, y4, y5⟩, y6⟩ := CE5.out _ _ _ _ H2.out
          obtain ⟨⟨z1, z2⟩, -, -⟩ := CE5.out _ _ _ _ H1.out
          clear hcx hb1 hw1 c1 c2 c3 c4 c5 c6
          gi_wp2_with fail
          have KP := Lib.hid ((keeps_below (n := Wc.heap.size) HK1.out).trans (from_put (B := Wc.heap.size) (i := 0) (u := .string (xk ++ ⟨#[0]⟩)) (mv_blks H1.out).2))
          generalize W1.setCell ⟨GT, 0, none⟩ (.string (xk ++ ⟨#[0]⟩)) = V2 at *
          clear z1 z2 f2 y1 y2 y3 y4 y5 y6 H1 HK1
          have hmi : (0 : Int) ≤ (n' : Int) := by omega
          have hm20 : (n' : Int) < 20 := by omega
          by_cases hg : n' < n
          · have hgi : (n' : Int) < (n : Int) := by omega
            have e0 : n' < bs.length := by rw [HLN.out]; exact hg
            obtain ⟨bb, o, rfl, hc⟩ := HBAT.out.2 (by omega)
            obtain ⟨Ai, ci, z0, hops, hci1, hci2⟩ := hc n' e0
            have hsz := HZ.out _ (List.getElem_mem e0)
            have hsc := mvR_in (R0 := R0) e0 hn20
            rw [← HR.out] at hsc
            have HSC := Lib.hid hsc
            have HC := Lib.hid (fun V X Y (h : Has w (X :: Y :: blkA GM 3 #[.int .i64 (n' : Nat)] :: blkA GT 9 #[.string (xk ++ ⟨#[0]⟩)] :: TT) V) => (show V.cell? ⟨GM, 0, none⟩ = some (.int .i64 (n' : Nat)) ∧ V.cell? ⟨w.heap.size, 0, none⟩ = some (.slice (some ⟨bb, o, none⟩) n c) ∧ V.cell? ⟨GB, 0, none⟩ = some (pt b) ∧ V.cell? ⟨GA, 0, none⟩ = some (pt p) ∧ V.cell? ⟨bb, o + n', none⟩ = some (.slice Ai (bs[n']'e0).length ci) from
              ⟨(h.blkAt (g := GM) (t := 3) (cs := #[.int .i64 (n' : Nat)]) (by simp)).cell 0, (CEL.out _ _ h (fun Z hZ => by simp [HSUB.out Z hZ])).2.2, (CEL.out _ _ h (fun Z hZ => by simp [HSUB.out Z hZ])).1, (CEL.out _ _ h (fun Z hZ => by simp [HSUB.out Z hZ])).2.1, (h.bel.cell (World.block_lt_of_cell? w _ z0)).trans z0⟩))
            have hP : TS w p b r (rapp r (bs[n']'e0)) (blkA GM 3 #[.int .i64 (n' : Nat)] :: blkA GT 9 #[.string (xk ++ ⟨#[0]⟩)] :: TT) false false V2.drew := Has.drew (show Has w (tbA p r :: rtA b r :: blkA GM 3 #[.int .i64 (n' : Nat)] :: blkA GT 9 #[.string (xk ++ ⟨#[0]⟩)] :: TT) V2 from H2.out)
            have hS := HC.out _ _ _ hP
            have HA1 := Lib.hid (fun W y (h : TS w p b r (rapp r (bs[n']'e0)) (blkA GM 3 #[.int .i64 (n' : Nat)] :: blkA GT 9 #[.string (xk ++ ⟨#[0]⟩)] :: TT) false y W) => h.appA HOKR.out (by omega) Ai _ ci hops (by omega) hsz)
            have HB1 := Lib.hid (fun W x (h : TS w p b r (rapp r (bs[n']'e0)) (blkA GM 3 #[.int .i64 (n' : Nat)] :: blkA GT 9 #[.string (xk ++ ⟨#[0]⟩)] :: TT) x false W) => h.appB (by have := HOKR.out.len; omega) Ai _ ci hops (by omega))
            have b0 : ((((chk (bs[n']'e0)) : Nat) : Int) != (((chk (bs[n']'e0)) : Nat) : Int)) = false := by simp
            clear hc hops hci1 hci2 hsz hsc z0
            generalize (bs[n']'e0).length = m at *
            generalize rapp r (bs[n']'e0) = R' at *
            generalize ((chk (bs[n']'e0) : Nat) : Int) = ee at *
            clear e0
            refine wpIn_round_held (S := fun W => W.cell? ⟨GM, 0, none⟩ = some (.int .i64 (n' : Nat)) ∧ W.cell? ⟨w.heap.size, 0, none⟩ = some (.slice (some ⟨bb, o, none⟩) n c) ∧ W.cell? ⟨GB, 0, none⟩ = some (pt b) ∧ W.cell? ⟨GA, 0, none⟩ = some (pt p) ∧ W.cell? ⟨bb, o + n', none⟩ = some (.slice Ai m ci)) hmix (by kernel_rfl) hS (fun hHeld => ?_)
            simp only [List.size_toArray, List.length_cons, List.length_nil, Nat.reduceAdd, Array.replicate_succ, Array.replicate_zero]
            refine wpAnyH_take (i := 0) (oi := { dst := some 77, op := Op.load 3 (Operand.tmp 11), type := 3, pos := "law.go:95", after := #[], guard := none }) (v := ?v02) rfl (by kernel_rfl) (by kernel_rfl) (by kernel_rfl) (fun _ _ _ h => h) (Or.inl ⟨by rfl, ?hy02⟩) (by assumption) ?rest02
            case hy02 => (intro V hSw; (try dsimp only at hSw); go_simp; all_goals (with_reducible rfl))
            try simp only [Act.put, List.setIfInBounds_toArray, List.set_cons_zero, List.set_cons_succ]
            refine wpAnyH_take (i := 1) (oi := { dst := some 78, op := Op.load 22 (Operand.tmp 3), type := 22, pos := "law.go:95", after := #[], guard := none }) (v := ?v12) rfl (by kernel_rfl) (by kernel_rfl) (by kernel_rfl) (fun _ _ _ h => h) (Or.inl ⟨by rfl, ?hy12⟩) (by assumption) ?rest12
            case hy12 => (intro V hSw; (try dsimp only at hSw); go_simp; all_goals (with_reducible rfl))
            try simp only [Act.put, List.setIfInBounds_toArray, List.set_cons_zero, List.set_cons_succ]
            refine wpAnyH_take (i := 2) (oi := { dst := some 79, op := Op.call { callee := Callee.builtin Builtin.len, args := #[Operand.tmp 78], argTypes := #[22] }, type := 3, pos := "law.go:95", after := #[{ on := 1, ground := Ground.data }], guard := none }) (v := ?v22) rfl (by kernel_rfl) (by kernel_rfl) (by kernel_rfl) (fun _ _ _ h => h) (Or.inl ⟨by rfl, ?hy22⟩) (by assumption) ?rest22
            case hy22 => (intro V hSw; (try dsimp only at hSw); go_simp; all_goals (with_reducible rfl))
            try simp only [Act.put, List.setIfInBounds_toArray, List.set_cons_zero, List.set_cons_succ]
            refine wpAnyH_take (i := 3) (oi := { dst := some 80, op := Op.binOp BinOp.lss 3 (Operand.tmp 77) (Operand.tmp 79) 3, type := 4, pos := "law.go:95", after := #[{ on := 0, ground := Ground.data }, { on := 2, ground := Ground.data }], guard := none }) (v := ?v32) rfl (by kernel_rfl) (by kernel_rfl) (by kernel_rfl) (fun _ _ _ h => h) (Or.inl ⟨by rfl, ?hy32⟩) (by assumption) ?rest32
            case hy32 => (intro V hSw; (try dsimp only at hSw); go_simp; all_goals (with_reducible rfl))
            try simp only [Act.put, List.setIfInBounds_toArray, List.set_cons_zero, List.set_cons_succ]
            refine wpAnyH_take (i := 4) (oi := { dst := some 81, op := Op.move (Operand.tmp 80), type := 4, pos := "law.go:95", after := #[{ on := 3, ground := Ground.data }], guard := none }) (v := ?v42) rfl (by kernel_rfl) (by kernel_rfl) (by kernel_rfl) (fun _ _ _ h => h) (Or.inl ⟨by rfl, ?hy42⟩) (by assumption) ?rest42
            case hy42 => (intro V hSw; (try dsimp only at hSw); go_simp; all_goals (with_reducible rfl))
            try simp only [Act.put, List.setIfInBounds_toArray, List.set_cons_zero, List.set_cons_succ]
            refine wpAnyH_take (i := 5) (oi := { dst := some 82, op := Op.load 3 (Operand.tmp 11), type := 3, pos := "law.go:95", after := #[{ on := 4, ground := Ground.guard }], guard := some (4, true) }) (v := ?v52) rfl (by kernel_rfl) (by kernel_rfl) (by kernel_rfl) (fun _ _ _ h => h) (Or.inl ⟨by rfl, ?hy52⟩) (by assumption) ?rest52
            case hy52 => (intro V hSw; (try dsimp only at hSw); go_simp; all_goals (with_reducible rfl))
            try simp only [Act.put, List.setIfInBounds_toArray, List.set_cons_zero, List.set_cons_succ]
            refine wpAnyH_take (i := 6) (oi := { dst := some 83, op := Op.binOp BinOp.lss 3 (Operand.tmp 82) (Operand.const (Value.int IntKind.i64 20)) 3, type := 4, pos := "law.go:95", after := #[{ on := 5, ground := Ground.data }, { on := 4, ground := Ground.guard }], guard := some (4, true) }) (v := ?v62) rfl (by kernel_rfl) (by kernel_rfl) (by kernel_rfl) (fun _ _ _ h => h) (Or.inl ⟨by rfl, ?hy62⟩) (by assumption) ?rest62
            case hy62 => (intro V hSw; (try dsimp only at hSw); go_simp; all_goals (with_reducible rfl))
            try simp only [Act.put, List.setIfInBounds_toArray, List.set_cons_zero, List.set_cons_succ]
            refine wpAnyH_take (i := 7) (oi := { dst := some 84, op := Op.pick (Operand.tmp 81) (Operand.tmp 83) (Operand.const (Value.bool false)), type := 4, pos := "law.go:95", after := #[{ on := 4, ground := Ground.data }, { on := 6, ground := Ground.data }], guard := none }) (v := ?v72) rfl (by kernel_rfl) (by kernel_rfl) (by kernel_rfl) (fun _ _ _ h => h) (Or.inl ⟨by rfl, ?hy72⟩) (by assumption) ?rest72
            case hy72 => (intro V hSw; (try dsimp only at hSw); go_simp; all_goals (with_reducible rfl))
            try simp only [Act.put, List.setIfInBounds_toArray, List.set_cons_zero, List.set_cons_succ]
            refine wpAnyH_take (i := 8) (oi := { dst := some 85, op := Op.move (Operand.tmp 84), type := 4, pos := "law.go:95", after := #[{ on := 7, ground := Ground.data }, { on := 4, ground := Ground.chain }], guard := none }) (v := ?v82) rfl (by kernel_rfl) (by kernel_rfl) (by kernel_rfl) (fun _ _ _ h => h) (Or.inl ⟨by rfl, ?hy82⟩) (by assumption) ?rest82
            case hy82 => (intro V hSw; (try dsimp only at hSw); go_simp; all_goals (with_reducible rfl))
            try simp only [Act.put, List.setIfInBounds_toArray, List.set_cons_zero, List.set_cons_succ]
            refine wpAnyH_take (i := 9) (oi := { dst := some 86, op := Op.load 23 (Operand.tmp 7), type := 23, pos := "law.go:95", after := #[{ on := 8, ground := Ground.guard }], guard := some (8, true) }) (v := ?v92) rfl (by kernel_rfl) (by kernel_rfl) (by kernel_rfl) (fun _ _ _ h => h) (Or.inl ⟨by rfl, ?hy92⟩) (by assumption) ?rest92
            case hy92 => (intro V hSw; (try dsimp only at hSw); go_simp; all_goals (with_reducible rfl))
            try simp only [Act.put, List.setIfInBounds_toArray, List.set_cons_zero, List.set_cons_succ]
            refine wpAnyH_take (i := 10) (oi := { dst := some 87, op := Op.load 22 (Operand.tmp 3), type := 22, pos := "law.go:95", after := #[{ on := 8, ground := Ground.guard }], guard := some (8, true) }) (v := ?v102) rfl (by kernel_rfl) (by kernel_rfl) (by kernel_rfl) (fun _ _ _ h => h) (Or.inl ⟨by rfl, ?hy102⟩) (by assumption) ?rest102
            case hy102 => (intro V hSw; (try dsimp only at hSw); go_simp; all_goals (with_reducible rfl))
            try simp only [Act.put, List.setIfInBounds_toArray, List.set_cons_zero, List.set_cons_succ]
            refine wpAnyH_take (i := 11) (oi := { dst := some 88, op := Op.load 3 (Operand.tmp 11), type := 3, pos := "law.go:95", after := #[{ on := 8, ground := Ground.guard }], guard := some (8, true) }) (v := ?v112) rfl (by kernel_rfl) (by kernel_rfl) (by kernel_rfl) (fun _ _ _ h => h) (Or.inl ⟨by rfl, ?hy112⟩) (by assumption) ?rest112
            case hy112 => (intro V hSw; (try dsimp only at hSw); go_simp; all_goals (with_reducible rfl))
            try simp only [Act.put, List.setIfInBounds_toArray, List.set_cons_zero, List.set_cons_succ]
            refine wpAnyH_take (i := 12) (oi := { dst := some 89, op := Op.indexAddr 22 (Operand.tmp 87) (Operand.tmp 88), type := 0, pos := "law.go:95", after := #[{ on := 10, ground := Ground.data }, { on := 11, ground := Ground.data }, { on := 8, ground := Ground.guard }], guard := some (8, true) }) (v := ?v122) rfl (by kernel_rfl) (by kernel_rfl) (by kernel_rfl) (fun _ _ _ h => h) (Or.inl ⟨by rfl, ?hy122⟩) (by assumption) ?rest122
            case hy122 => (intro V hSw; (try dsimp only at hSw); go_simp; all_goals (with_reducible rfl))
            try simp only [Act.put, List.setIfInBounds_toArray, List.set_cons_zero, List.set_cons_succ]
            refine wpAnyH_take (i := 13) (oi := { dst := some 90, op := Op.load 27 (Operand.tmp 89), type := 27, pos := "law.go:95", after := #[{ on := 12, ground := Ground.data }, { on := 8, ground := Ground.guard }], guard := some (8, true) }) (v := ?v132) rfl (by kernel_rfl) (by kernel_rfl) (by kernel_rfl) (fun _ _ _ h => h) (Or.inl ⟨by rfl, ?hy132⟩) (by assumption) ?rest132
            case hy132 => (intro V hSw; (try dsimp only at hSw); go_simp; all_goals (with_reducible rfl))
            try simp only [Act.put, List.setIfInBounds_toArray, List.set_cons_zero, List.set_cons_succ]
            refine wpAnyH_take (i := 15) (oi := { dst := some 92, op := Op.load 25 (Operand.tmp 8), type := 25, pos := "law.go:95", after := #[{ on := 8, ground := Ground.guard }], guard := some (8, true) }) (v := ?v152) rfl (by kernel_rfl) (by kernel_rfl) (by kernel_rfl) (fun _ _ _ h => h) (Or.inl ⟨by rfl, ?hy152⟩) (by assumption) ?rest152
            case hy152 => (intro V hSw; (try dsimp only at hSw); go_simp; all_goals (with_reducible rfl))
            try simp only [Act.put, List.setIfInBounds_toArray, List.set_cons_zero, List.set_cons_succ]
            refine wpAnyH_take (i := 16) (oi := { dst := some 93, op := Op.load 22 (Operand.tmp 3), type := 22, pos := "law.go:95", after := #[{ on := 8, ground := Ground.guard }], guard := some (8, true) }) (v := ?v162) rfl (by kernel_rfl) (by kernel_rfl) (by kernel_rfl) (fun _ _ _ h => h) (Or.inl ⟨by rfl, ?hy162⟩) (by assumption) ?rest162
            case hy162 => (intro V hSw; (try dsimp only at hSw); go_simp; all_goals (with_reducible rfl))
            try simp only [Act.put, List.setIfInBounds_toArray, List.set_cons_zero, List.set_cons_succ]
            refine wpAnyH_take (i := 17) (oi := { dst := some 94, op := Op.load 3 (Operand.tmp 11), type := 3, pos := "law.go:95", after := #[{ on := 8, ground := Ground.guard }], guard := some (8, true) }) (v := ?v172) rfl (by kernel_rfl) (by kernel_rfl) (by kernel_rfl) (fun _ _ _ h => h) (Or.inl ⟨by rfl, ?hy172⟩) (by assumption) ?rest172
            case hy172 => (intro V hSw; (try dsimp only at hSw); go_simp; all_goals (with_reducible rfl))
            try simp only [Act.put, List.setIfInBounds_toArray, List.set_cons_zero, List.set_cons_succ]
            refine wpAnyH_take (i := 18) (oi := { dst := some 95, op := Op.indexAddr 22 (Operand.tmp 93) (Operand.tmp 94), type := 0, pos := "law.go:95", after := #[{ on := 16, ground := Ground.data }, { on := 17, ground := Ground.data }, { on := 8, ground := Ground.guard }], guard := some (8, true) }) (v := ?v182) rfl (by kernel_rfl) (by kernel_rfl) (by kernel_rfl) (fun _ _ _ h => h) (Or.inl ⟨by rfl, ?hy182⟩) (by assumption) ?rest182
            case hy182 => (intro V hSw; (try dsimp only at hSw); go_simp; all_goals (with_reducible rfl))
            try simp only [Act.put, List.setIfInBounds_toArray, List.set_cons_zero, List.set_cons_succ]
            refine wpAnyH_take (i := 19) (oi := { dst := some 96, op := Op.load 27 (Operand.tmp 95), type := 27, pos := "law.go:95", after := #[{ on := 18, ground := Ground.data }, { on := 8, ground := Ground.guard }], guard := some (8, true) }) (v := ?v192) rfl (by kernel_rfl) (by kernel_rfl) (by kernel_rfl) (fun _ _ _ h => h) (Or.inl ⟨by rfl, ?hy192⟩) (by assumption) ?rest192
            case hy192 => (intro V hSw; (try dsimp only at hSw); go_simp; all_goals (with_reducible rfl))
            try simp only [Act.put, List.setIfInBounds_toArray, List.set_cons_zero, List.set_cons_succ]
            refine wpAnyH_ready (rs := [14]) (by kernel_rfl) (by simp) ?_
            refine AllReadyH.cons (o := { dst := some 91, op := Op.call { callee := Callee.value (Operand.func 14), args := #[Operand.tmp 86, Operand.tmp 90], argTypes := #[23, 27] }, type := 28, pos := "law.go:95", after := #[{ on := 9, ground := Ground.data }, { on := 13, ground := Ground.data }, { on := 8, ground := Ground.chain }, { on := 8, ground := Ground.guard }], guard := some (8, true) }) rfl (fun K hK => ?_) AllReadyH.nil
            go_simp
            refine (HA1.out _ _ hP).mono ?_
            rintro e W8 ⟨rfl, hP8, -, hkW8⟩
            refine hK.out _ _ (HC.out _ _ _ hP8) (fun hHeld2 => ?_)
            clear hK K
            try simp only [Act.put, List.setIfInBounds_toArray, List.set_cons_zero, List.set_cons_succ]
            refine wpAnyH_ready (rs := [20]) (by kernel_rfl) (by simp) ?_
            refine AllReadyH.cons (o := { dst := some 97, op := Op.call { callee := Callee.value (Operand.func 15), args := #[Operand.tmp 92, Operand.tmp 96], argTypes := #[25, 27] }, type := 28, pos := "law.go:95", after := #[{ on := 15, ground := Ground.data }, { on := 19, ground := Ground.data }, { on := 14, ground := Ground.chain }, { on := 8, ground := Ground.guard }], guard := some (8, true) }) rfl (fun K hK => ?_) AllReadyH.nil
            go_simp
            refine (HB1.out _ _ hP8).mono ?_
            rintro e W9 ⟨rfl, hP9, -, hkW9⟩
            refine hK.out _ _ (HC.out _ _ _ hP9) (fun hHeld2 => ?_)
            clear hK K
            try simp only [Act.put, List.setIfInBounds_toArray, List.set_cons_zero, List.set_cons_succ]
            refine wpAnyH_take (i := 21) (oi := { dst := some 98, op := Op.binOp BinOp.neq 28 (Operand.tmp 91) (Operand.tmp 97) 28, type := 4, pos := "law.go:95", after := #[{ on := 14, ground := Ground.data }, { on := 20, ground := Ground.data }, { on := 8, ground := Ground.guard }], guard := some (8, true) }) (v := ?v212) rfl (by kernel_rfl) (by kernel_rfl) (by kernel_rfl) (fun _ _ _ h => h) (Or.inl ⟨by rfl, ?hy212⟩) (by assumption) ?rest212
            case hy212 => (intro V hSw; (try dsimp only at hSw); go_simp; all_goals (with_reducible rfl))
            try simp only [Act.put, List.setIfInBounds_toArray, List.set_cons_zero, List.set_cons_succ]
            refine wpAnyH_take (i := 22) (oi := { dst := some 99, op := Op.pick (Operand.tmp 85) (Operand.tmp 98) (Operand.const (Value.bool false)), type := 4, pos := "law.go:95", after := #[{ on := 8, ground := Ground.data }, { on := 21, ground := Ground.data }], guard := none }) (v := ?v222) rfl (by kernel_rfl) (by kernel_rfl) (by kernel_rfl) (fun _ _ _ h => h) (Or.inl ⟨by rfl, ?hy222⟩) (by assumption) ?rest222
            case hy222 => (intro V hSw; (try dsimp only at hSw); go_simp; all_goals (with_reducible rfl))
            try simp only [Act.put, List.setIfInBounds_toArray, List.set_cons_zero, List.set_cons_succ]
            refine wpAnyH_done (by kernel_rfl) ?_ _
            have H9 := Lib.hid (show Has w (MvL p b GM GT R' n' (xk ++ ⟨#[0]⟩) TT) W9 from hP9)
            have KP9 := Lib.hid (((KP.out.trans (show KeepsFrom _ V2 V2.drew from ⟨Nat.le_refl _, fun _ _ _ h _ => h⟩)).trans (hkW8 _)).trans (hkW9 _))
            have HRR := HSC
            clear hP hP8 hP9 hkW8 hkW9 hHeld hHeld2 hS HA1 HB1 HC
            have hz1 := (mv_cells H9.out).1
            have hz2 := (mv_blks H9.out).1.frozen 0
            have H10 : Has w (MvL p b GM GT R' (n' + 1) (xk ++ ⟨#[0]⟩) TT) (W9.setCell ⟨GM, 0, none⟩ (.int .i64 ((n' : Int) + 1))) := by
              have := mv_setN H9.out (n' + 1)
              rwa [show ((n' + 1 : Nat) : Int) = (n' : Int) + 1 by push_cast; rfl] at this
            have hz3 : (W9.setCell ⟨GM, 0, none⟩ (.int .i64 ((n' : Int) + 1))).cell? ⟨GM, 0, none⟩ = some (.int .i64 ((n' : Int) + 1)) := by
              have := (mv_cells H10).1
              rwa [show ((n' + 1 : Nat) : Int) = (n' : Int) + 1 by push_cast; rfl] at this
            have hk10' : KeepsFrom Wc.heap.size W (W9.setCell ⟨GM, 0, none⟩ (.int .i64 ((n' : Int) + 1))) := KP9.out.trans (from_put (mv_blks H9.out).1)
            have HT10 := Lib.hid H10
            have HK10 := Lib.hid hk10'
            have HBL := Lib.hid (CRR.out _ _ _ _ H10)
            clear H10 hk10'
            simp only [NormalOnly]
            by_cases h20 : n' + 1 = 20
            · first
              | (exfalso; omega)
              | (have q20 : (((n' : Int) + 1) == 20) = true := by rw [beq_iff_eq]; omega
                 gi_wp2_with fail
                 refine ⟨trivial, ((callsIn_wide.2 (tb_works _)).inRound l).mono ?_⟩
                 rintro e W11 ⟨rfl, hb11⟩
                 have hbl := HBL.out.below hb11 HBL.out.lt
                 have hf11 := hbl.frozen 0
                 have hc11 := hbl.cell 0
                 have HB11 := Lib.hid hb11
                 clear hb11
                 gi_wp2_with fail
                 exact ⟨(HK10.out.trans (keeps_below HB11.out)).trans (from_put hbl), rfl, by simpa using hbl.set_ 0 (.bool true), below_put (bst HT10.out.bel HB11.out) (by omega)⟩)
            · have q20 : (((n' : Int) + 1) == 20) = false := beq_eq_false_iff_ne.2 (by omega)
              gi_wp2_with fail
              first | exact ⟨HK10.out, by omega, by rw [HRR.out]; exact HT10.out⟩ | exact ⟨HK10.out, R', by rw [HRR.out], by omega, HT10.out⟩
          · have hgi : ¬ (n' : Int) < (n : Int) := by omega
            have hsc := mvR_out (bs := bs) (R0 := R0) (j := n') (.inl (by rw [HLN.out]; exact hg))
            rw [← HR.out] at hsc
            have HRR := Lib.hid hsc
            clear hsc
            have hh2 : Has w (MvL p b GM GT r n' (xk ++ ⟨#[0]⟩) TT) V2.drew := Has.drew H2.out
            obtain ⟨⟨y1, -⟩, ⟨-, -, y3⟩, -⟩ := CE5.out _ _ _ _ hh2
            have H9 := Lib.hid hh2
            have KP9 := Lib.hid (KP.out.trans (show KeepsFrom _ V2 V2.drew from ⟨Nat.le_refl _, fun _ _ _ h _ => h⟩))
            clear hh2
            refine wpIn_round_held (S := fun W => W.cell? ⟨GM, 0, none⟩ = some (.int .i64 (n' : Nat)) ∧ W.cell? ⟨w.heap.size, 0, none⟩ = some (.slice A n c)) hmix (by kernel_rfl) ⟨y1, y3⟩ (fun hHeld => ?_)
            simp only [List.size_toArray, List.length_cons, List.length_nil, Nat.reduceAdd, Array.replicate_succ, Array.replicate_zero]
            refine wpAnyH_take (i := 0) (oi := { dst := some 77, op := Op.load 3 (Operand.tmp 11), type := 3, pos := "law.go:95", after := #[], guard := none }) (v := ?w02) rfl (by kernel_rfl) (by kernel_rfl) (by kernel_rfl) (fun _ _ _ h => h) (Or.inl ⟨by rfl, ?hw02⟩) (by assumption) ?rst02
            case hw02 => (intro V hSw; (try dsimp only at hSw); go_simp; all_goals (with_reducible rfl))
            try simp only [Act.put, List.setIfInBounds_toArray, List.set_cons_zero, List.set_cons_succ]
            refine wpAnyH_take (i := 1) (oi := { dst := some 78, op := Op.load 22 (Operand.tmp 3), type := 22, pos := "law.go:95", after := #[], guard := none }) (v := ?w12) rfl (by kernel_rfl) (by kernel_rfl) (by kernel_rfl) (fun _ _ _ h => h) (Or.inl ⟨by rfl, ?hw12⟩) (by assumption) ?rst12
            case hw12 => (intro V hSw; (try dsimp only at hSw); go_simp; all_goals (with_reducible rfl))
            try simp only [Act.put, List.setIfInBounds_toArray, List.set_cons_zero, List.set_cons_succ]
            refine wpAnyH_take (i := 2) (oi := { dst := some 79, op := Op.call { callee := Callee.builtin Builtin.len, args := #[Operand.tmp 78], argTypes := #[22] }, type := 3, pos := "law.go:95", after := #[{ on := 1, ground := Ground.data }], guard := none }) (v := ?w22) rfl (by kernel_rfl) (by kernel_rfl) (by kernel_rfl) (fun _ _ _ h => h) (Or.inl ⟨by rfl, ?hw22⟩) (by assumption) ?rst22
            case hw22 => (intro V hSw; (try dsimp only at hSw); go_simp; all_goals (with_reducible rfl))
            try simp only [Act.put, List.setIfInBounds_toArray, List.set_cons_zero, List.set_cons_succ]
            refine wpAnyH_take (i := 3) (oi := { dst := some 80, op := Op.binOp BinOp.lss 3 (Operand.tmp 77) (Operand.tmp 79) 3, type := 4, pos := "law.go:95", after := #[{ on := 0, ground := Ground.data }, { on := 2, ground := Ground.data }], guard := none }) (v := ?w32) rfl (by kernel_rfl) (by kernel_rfl) (by kernel_rfl) (fun _ _ _ h => h) (Or.inl ⟨by rfl, ?hw32⟩) (by assumption) ?rst32
            case hw32 => (intro V hSw; (try dsimp only at hSw); go_simp; all_goals (with_reducible rfl))
            try simp only [Act.put, List.setIfInBounds_toArray, List.set_cons_zero, List.set_cons_succ]
            refine wpAnyH_take (i := 4) (oi := { dst := some 81, op := Op.move (Operand.tmp 80), type := 4, pos := "law.go:95", after := #[{ on := 3, ground := Ground.data }], guard := none }) (v := ?w42) rfl (by kernel_rfl) (by kernel_rfl) (by kernel_rfl) (fun _ _ _ h => h) (Or.inl ⟨by rfl, ?hw42⟩) (by assumption) ?rst42
            case hw42 => (intro V hSw; (try dsimp only at hSw); go_simp; all_goals (with_reducible rfl))
            try simp only [Act.put, List.setIfInBounds_toArray, List.set_cons_zero, List.set_cons_succ]
            refine wpAnyH_take (i := 5) (oi := { dst := some 82, op := Op.load 3 (Operand.tmp 11), type := 3, pos := "law.go:95", after := #[{ on := 4, ground := Ground.guard }], guard := some (4, true) }) (v := undef) rfl (by kernel_rfl) (by kernel_rfl) (by kernel_rfl) (fun _ _ _ h => h) (Or.inr ⟨by rfl, rfl⟩) (by assumption) ?rst52
            try simp only [Act.put, List.setIfInBounds_toArray, List.set_cons_zero, List.set_cons_succ]
            refine wpAnyH_take (i := 6) (oi := { dst := some 83, op := Op.binOp BinOp.lss 3 (Operand.tmp 82) (Operand.const (Value.int IntKind.i64 20)) 3, type := 4, pos := "law.go:95", after := #[{ on := 5, ground := Ground.data }, { on := 4, ground := Ground.guard }], guard := some (4, true) }) (v := undef) rfl (by kernel_rfl) (by kernel_rfl) (by kernel_rfl) (fun _ _ _ h => h) (Or.inr ⟨by rfl, rfl⟩) (by assumption) ?rst62
            try simp only [Act.put, List.setIfInBounds_toArray, List.set_cons_zero, List.set_cons_succ]
            refine wpAnyH_take (i := 7) (oi := { dst := some 84, op := Op.pick (Operand.tmp 81) (Operand.tmp 83) (Operand.const (Value.bool false)), type := 4, pos := "law.go:95", after := #[{ on := 4, ground := Ground.data }, { on := 6, ground := Ground.data }], guard := none }) (v := ?w72) rfl (by kernel_rfl) (by kernel_rfl) (by kernel_rfl) (fun _ _ _ h => h) (Or.inl ⟨by rfl, ?hw72⟩) (by assumption) ?rst72
            case hw72 => (intro V hSw; (try dsimp only at hSw); go_simp; all_goals (with_reducible rfl))
            try simp only [Act.put, List.setIfInBounds_toArray, List.set_cons_zero, List.set_cons_succ]
            refine wpAnyH_take (i := 8) (oi := { dst := some 85, op := Op.move (Operand.tmp 84), type := 4, pos := "law.go:95", after := #[{ on := 7, ground := Ground.data }, { on := 4, ground := Ground.chain }], guard := none }) (v := ?w82) rfl (by kernel_rfl) (by kernel_rfl) (by kernel_rfl) (fun _ _ _ h => h) (Or.inl ⟨by rfl, ?hw82⟩) (by assumption) ?rst82
            case hw82 => (intro V hSw; (try dsimp only at hSw); go_simp; all_goals (with_reducible rfl))
            try simp only [Act.put, List.setIfInBounds_toArray, List.set_cons_zero, List.set_cons_succ]
            refine wpAnyH_take (i := 9) (oi := { dst := some 86, op := Op.load 23 (Operand.tmp 7), type := 23, pos := "law.go:95", after := #[{ on := 8, ground := Ground.guard }], guard := some (8, true) }) (v := undef) rfl (by kernel_rfl) (by kernel_rfl) (by kernel_rfl) (fun _ _ _ h => h) (Or.inr ⟨by rfl, rfl⟩) (by assumption) ?rst92
            try simp only [Act.put, List.setIfInBounds_toArray, List.set_cons_zero, List.set_cons_succ]
            refine wpAnyH_take (i := 10) (oi := { dst := some 87, op := Op.load 22 (Operand.tmp 3), type := 22, pos := "law.go:95", after := #[{ on := 8, ground := Ground.guard }], guard := some (8, true) }) (v := undef) rfl (by kernel_rfl) (by kernel_rfl) (by kernel_rfl) (fun _ _ _ h => h) (Or.inr ⟨by rfl, rfl⟩) (by assumption) ?rst102
            try simp only [Act.put, List.setIfInBounds_toArray, List.set_cons_zero, List.set_cons_succ]
            refine wpAnyH_take (i := 11) (oi := { dst := some 88, op := Op.load 3 (Operand.tmp 11), type := 3, pos := "law.go:95", after := #[{ on := 8, ground := Ground.guard }], guard := some (8, true) }) (v := undef) rfl (by kernel_rfl) (by kernel_rfl) (by kernel_rfl) (fun _ _ _ h => h) (Or.inr ⟨by rfl, rfl⟩) (by assumption) ?rst112
            try simp only [Act.put, List.setIfInBounds_toArray, List.set_cons_zero, List.set_cons_succ]
            refine wpAnyH_take (i := 12) (oi := { dst := some 89, op := Op.indexAddr 22 (Operand.tmp 87) (Operand.tmp 88), type := 0, pos := "law.go:95", after := #[{ on := 10, ground := Ground.data }, { on := 11, ground := Ground.data }, { on := 8, ground := Ground.guard }], guard := some (8, true) }) (v := undef) rfl (by kernel_rfl) (by kernel_rfl) (by kernel_rfl) (fun _ _ _ h => h) (Or.inr ⟨by rfl, rfl⟩) (by assumption) ?rst122
            try simp only [Act.put, List.setIfInBounds_toArray, List.set_cons_zero, List.set_cons_succ]
            refine wpAnyH_take (i := 13) (oi := { dst := some 90, op := Op.load 27 (Operand.tmp 89), type := 27, pos := "law.go:95", after := #[{ on := 12, ground := Ground.data }, { on := 8, ground := Ground.guard }], guard := some (8, true) }) (v := undef) rfl (by kernel_rfl) (by kernel_rfl) (by kernel_rfl) (fun _ _ _ h => h) (Or.inr ⟨by rfl, rfl⟩) (by assumption) ?rst132
            try simp only [Act.put, List.setIfInBounds_toArray, List.set_cons_zero, List.set_cons_succ]
            refine wpAnyH_take (i := 15) (oi := { dst := some 92, op := Op.load 25 (Operand.tmp 8), type := 25, pos := "law.go:95", after := #[{ on := 8, ground := Ground.guard }], guard := some (8, true) }) (v := undef) rfl (by kernel_rfl) (by kernel_rfl) (by kernel_rfl) (fun _ _ _ h => h) (Or.inr ⟨by rfl, rfl⟩) (by assumption) ?rst152
            try simp only [Act.put, List.setIfInBounds_toArray, List.set_cons_zero, List.set_cons_succ]
            refine wpAnyH_take (i := 16) (oi := { dst := some 93, op := Op.load 22 (Operand.tmp 3), type := 22, pos := "law.go:95", after := #[{ on := 8, ground := Ground.guard }], guard := some (8, true) }) (v := undef) rfl (by kernel_rfl) (by kernel_rfl) (by kernel_rfl) (fun _ _ _ h => h) (Or.inr ⟨by rfl, rfl⟩) (by assumption) ?rst162
            try simp only [Act.put, List.setIfInBounds_toArray, List.set_cons_zero, List.set_cons_succ]
            refine wpAnyH_take (i := 17) (oi := { dst := some 94, op := Op.load 3 (Operand.tmp 11), type := 3, pos := "law.go:95", after := #[{ on := 8, ground := Ground.guard }], guard := some (8, true) }) (v := undef) rfl (by kernel_rfl) (by kernel_rfl) (by kernel_rfl) (fun _ _ _ h => h) (Or.inr ⟨by rfl, rfl⟩) (by assumption) ?rst172
            try simp only [Act.put, List.setIfInBounds_toArray, List.set_cons_zero, List.set_cons_succ]
            refine wpAnyH_take (i := 18) (oi := { dst := some 95, op := Op.indexAddr 22 (Operand.tmp 93) (Operand.tmp 94), type := 0, pos := "law.go:95", after := #[{ on := 16, ground := Ground.data }, { on := 17, ground := Ground.data }, { on := 8, ground := Ground.guard }], guard := some (8, true) }) (v := undef) rfl (by kernel_rfl) (by kernel_rfl) (by kernel_rfl) (fun _ _ _ h => h) (Or.inr ⟨by rfl, rfl⟩) (by assumption) ?rst182
            try simp only [Act.put, List.setIfInBounds_toArray, List.set_cons_zero, List.set_cons_succ]
            refine wpAnyH_take (i := 19) (oi := { dst := some 96, op := Op.load 27 (Operand.tmp 95), type := 27, pos := "law.go:95", after := #[{ on := 18, ground := Ground.data }, { on := 8, ground := Ground.guard }], guard := some (8, true) }) (v := undef) rfl (by kernel_rfl) (by kernel_rfl) (by kernel_rfl) (fun _ _ _ h => h) (Or.inr ⟨by rfl, rfl⟩) (by assumption) ?rst192
            try simp only [Act.put, List.setIfInBounds_toArray, List.set_cons_zero, List.set_cons_succ]
            refine wpAnyH_take (i := 14) (oi := { dst := some 91, op := Op.call { callee := Callee.value (Operand.func 14), args := #[Operand.tmp 86, Operand.tmp 90], argTypes := #[23, 27] }, type := 28, pos := "law.go:95", after := #[{ on := 9, ground := Ground.data }, { on := 13, ground := Ground.data }, { on := 8, ground := Ground.chain }, { on := 8, ground := Ground.guard }], guard := some (8, true) }) (v := undef) rfl (by kernel_rfl) (by kernel_rfl) (by kernel_rfl) (fun _ _ _ h => h) (Or.inr ⟨by rfl, rfl⟩) (by assumption) ?rst142
            try simp only [Act.put, List.setIfInBounds_toArray, List.set_cons_zero, List.set_cons_succ]
            refine wpAnyH_take (i := 20) (oi := { dst := some 97, op := Op.call { callee := Callee.value (Operand.func 15), args := #[Operand.tmp 92, Operand.tmp 96], argTypes := #[25, 27] }, type := 28, pos := "law.go:95", after := #[{ on := 15, ground := Ground.data }, { on := 19, ground := Ground.data }, { on := 14, ground := Ground.chain }, { on := 8, ground := Ground.guard }], guard := some (8, true) }) (v := undef) rfl (by kernel_rfl) (by kernel_rfl) (by kernel_rfl) (fun _ _ _ h => h) (Or.inr ⟨by rfl, rfl⟩) (by assumption) ?rst202
            try simp only [Act.put, List.setIfInBounds_toArray, List.set_cons_zero, List.set_cons_succ]
            refine wpAnyH_take (i := 21) (oi := { dst := some 98, op := Op.binOp BinOp.neq 28 (Operand.tmp 91) (Operand.tmp 97) 28, type := 4, pos := "law.go:95", after := #[{ on := 14, ground := Ground.data }, { on := 20, ground := Ground.data }, { on := 8, ground := Ground.guard }], guard := some (8, true) }) (v := undef) rfl (by kernel_rfl) (by kernel_rfl) (by kernel_rfl) (fun _ _ _ h => h) (Or.inr ⟨by rfl, rfl⟩) (by assumption) ?rst212
            try simp only [Act.put, List.setIfInBounds_toArray, List.set_cons_zero, List.set_cons_succ]
            refine wpAnyH_take (i := 22) (oi := { dst := some 99, op := Op.pick (Operand.tmp 85) (Operand.tmp 98) (Operand.const (Value.bool false)), type := 4, pos := "law.go:95", after := #[{ on := 8, ground := Ground.data }, { on := 21, ground := Ground.data }], guard := none }) (v := ?w222) rfl (by kernel_rfl) (by kernel_rfl) (by kernel_rfl) (fun _ _ _ h => h) (Or.inl ⟨by rfl, ?hw222⟩) (by assumption) ?rst222
            case hw222 => (intro V hSw; (try dsimp only at hSw); go_simp; all_goals (with_reducible rfl))
            try simp only [Act.put, List.setIfInBounds_toArray, List.set_cons_zero, List.set_cons_succ]
            refine wpAnyH_done (by kernel_rfl) ?_ _
            generalize V2.drew = W9 at *
            have hz1 := (mv_cells H9.out).1
            have hz2 := (mv_blks H9.out).1.frozen 0
            have H10 : Has w (MvL p b GM GT r (n' + 1) (xk ++ ⟨#[0]⟩) TT) (W9.setCell ⟨GM, 0, none⟩ (.int .i64 ((n' : Int) + 1))) := by
              have := mv_setN H9.out (n' + 1)
              rwa [show ((n' + 1 : Nat) : Int) = (n' : Int) + 1 by push_cast; rfl] at this
            have hz3 : (W9.setCell ⟨GM, 0, none⟩ (.int .i64 ((n' : Int) + 1))).cell? ⟨GM, 0, none⟩ = some (.int .i64 ((n' : Int) + 1)) := by
              have := (mv_cells H10).1
              rwa [show ((n' + 1 : Nat) : Int) = (n' : Int) + 1 by push_cast; rfl] at this
            have hk10' : KeepsFrom Wc.heap.size W (W9.setCell ⟨GM, 0, none⟩ (.int .i64 ((n' : Int) + 1))) := KP9.out.trans (from_put (mv_blks H9.out).1)
            have HT10 := Lib.hid H10
            have HK10 := Lib.hid hk10'
            have HBL := Lib.hid (CRR.out _ _ _ _ H10)
            clear H10 hk10'
            simp only [NormalOnly]
            by_cases h20 : n' + 1 = 20
            · have q20 : (((n' : Int) + 1) == 20) = true := by rw [beq_iff_eq]; omega
              gi_wp2_with fail
              refine ⟨trivial, ((callsIn_wide.2 (tb_works _)).inRound l).mono ?_⟩
              rintro e W11 ⟨rfl, hb11⟩
              have hbl := HBL.out.below hb11 HBL.out.lt
              have hf11 := hbl.frozen 0
              have hc11 := hbl.cell 0
              have HB11 := Lib.hid hb11
              clear hb11
              gi_wp2_with fail
              exact ⟨(HK10.out.trans (keeps_below HB11.out)).trans (from_put hbl), rfl, by simpa using hbl.set_ 0 (.bool true), below_put (bst HT10.out.bel HB11.out) (by omega)⟩
            · have q20 : (((n' : Int) + 1) == 20) = false := beq_eq_false_iff_ne.2 (by omega)
              gi_wp2_with fail
              first | exact ⟨HK10.out, by omega, by rw [HRR.out]; exact HT10.out⟩ | exact ⟨HK10.out, r, by rw [HRR.out], by omega, HT10.out⟩
        case done2 =>
          rintro D key r n' W hD hsW hno ⟨hr, hn20, hh⟩ hK
          have hok := mvR_ok HZ.out HOK.out n'
          rw [← hr] at hok
          rw [nxU_btw hok.sor, List.getElem?_eq_none_iff] at hno
          have hL0 : btw r key t = [] := List.eq_nil_of_length_eq_zero (by omega)
          have hlen := hok.len
          obtain ⟨⟨c1, c2⟩, ⟨c3, c4, c5⟩, c6⟩ := CE5.out _ _ _ _ hh
          have hbl0 := CRR.out _ _ _ _ hh
          have HBL := Lib.hid hbl0
          have HBW := Lib.hid hh.bel
          have HHK := Lib.hid (hh.rtBetweenM (b := b) (r := r) (by simp [MvL]) hok.sor key t (by omega) [] hL0)
          have hDr : w.heap.size + 1 + 1 < Wc.heap.size := (CRR.out _ _ _ _ HM0.out).lt
          clear hh hok hbl0 hL0 hno
          go_wp2_with fail
          refine HHK.out.mono ?_
          rintro e W1 ⟨Aw, cw, rfl, -, -, hcw, hdw, hb1⟩
          have hK1 := (hb1.block D (Array.getElem?_eq_some_iff.1 hK).1).trans hK
          have hbl1 := HBL.out.below hb1 HBL.out.lt
          have HB1 := Lib.hid (bst HBW.out hb1)
          clear hb1 hK
          go_wp2_with fail
          refine (tb_works _).mono ?_
          rintro e W2 ⟨rfl, hb2⟩
          have hK2 := (hb2.block D (Array.getElem?_eq_some_iff.1 hK1).1).trans hK1
          have hbl2 := hbl1.below hb2 hbl1.lt
          have hf2 := hbl2.frozen 0
          have hc2 := hbl2.cell 0
          have hbF0 := bst HB1.out hb2
          clear hb2 hK1
          go_wp2_with fail
          have hne : w.heap.size + 1 + 1 ≠ D := by omega
          have hbF : Below w.heap.size w (W2.setCell ⟨w.heap.size + 1 + 1, 0, none⟩ (.bool true)) := below_put hbF0 (by omega)
          have hK3 : (W2.setCell ⟨w.heap.size + 1 + 1, 0, none⟩ (.bool true)).heap[D]? = some (.deferred (some [])) := by simp only [World.setCell, Array.getElem?_modify]; rw [if_neg hne]; exact hK2
          have hblF : Blk (W2.setCell ⟨w.heap.size + 1 + 1, 0, none⟩ (.bool true)) (w.heap.size + 1 + 1) 4 #[.bool true] := by simpa using hbl2.set_ 0 (.bool true)
          generalize W2.setCell ⟨w.heap.size + 1 + 1, 0, none⟩ (.bool true) = WF at *
          refine ⟨by simp, .inl ⟨_, _, rfl, run_takeDeferred hK3, ?_⟩⟩
          have hfin : Blk (WF.putObj D (.deferred none)) (w.heap.size + 1 + 1) 4 #[.bool true] := by
            unfold Blk
            rw [World.putObj_heap_other hne]
            exact hblF
          refine ⟨.bool true, ?_, rfl, ?_⟩
          · have hc := hfin.cell 0
            have ht : (#[Value.bool true])[0]? = some (Value.bool true) := rfl
            rw [ht] at hc
            generalize WF.putObj D (.deferred none) = Z at *
            simp [results, Try.results5, go_sem, asAddr, loadVar, hc]
          · exact below_obj hbF (by omega)
        case stop2 =>
          rintro D cc WF hD hsW ⟨rfl, hblF, hbF⟩ hK3
          have hDr : w.heap.size + 1 + 1 < Wc.heap.size := (CRR.out _ _ _ _ HM0.out).lt
          have hne : w.heap.size + 1 + 1 ≠ D := by omega
          go_wp2_with fail
          refine ⟨by simp, .inl ⟨_, _, rfl, run_takeDeferred hK3, ?_⟩⟩
          have hfin : Blk (WF.putObj D (.deferred none)) (w.heap.size + 1 + 1) 4 #[.bool true] := by
            unfold Blk
            rw [World.putObj_heap_other hne]
            exact hblF
          refine ⟨.bool true, ?_, rfl, ?_⟩
          · have hc := hfin.cell 0
            have ht : (#[Value.bool true])[0]? = some (Value.bool true) := rfl
            rw [ht] at hc
            generalize WF.putObj D (.deferred none) = Z at *
            simp [results, Try.results5, go_sem, asAddr, loadVar, hc]
          · exact below_obj hbF (by omega)
end Go.Proofs.Ytgakkeeeadndkaa
