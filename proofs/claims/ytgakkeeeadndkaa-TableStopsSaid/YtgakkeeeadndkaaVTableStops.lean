/-
  Layer 10: TableStops, walked.
-/
import Derived.Test.YtgakkeeeadndkaaTbBrk
set_option linter.unusedVariables false
namespace Go.Proofs.Ytgakkeeeadndkaa
open Go.RowKit Go.Shelf
attribute [local go_sem] Oper.semAt_some

set_option maxRecDepth 100000 in
set_option maxHeartbeats 8000000 in
theorem tableStops_w (A : Option Addr) (n c : Nat) (many : Int) (w : World) (bs : List (List Op_)) (hb : BAt w A n bs) (hz : ∀ b ∈ bs, OSz b) (hn : n ≤ 9223372036854775807) (hi : -9223372036854775808 ≤ many ∧ many ≤ 9223372036854775807) :
    Calls Try.prog 10 #[.slice A n c, .int .i64 many] w fun e w' => e = .returned (.bool true) ∧ Below w.heap.size w w' := by
  have hok := tabs_ok hz (min n 30)
  have hl := hok.len
  obtain ⟨R, hR⟩ : ∃ R, tabs bs (min n 30) = R := ⟨_, rfl⟩
  rw [hR] at hok hl
  have hl2 : R.length ≤ 3840 := by omega
  have H0 := Lib.hid (Has.nil (Below.refl _ w))
  have HZ := Lib.hid hok.szs
  have HS := Lib.hid hok.sor
  have MA := Lib.hid (fun V l (h : Has w l V) (s : Int) => h.tbMade s A n c bs hb hz hn R hR)
  have m1 := Int.emod_nonneg many (b := (R.length : Int) + 1) (by omega)
  have m2 := Int.emod_lt_of_pos many (b := (R.length : Int) + 1) (by omega)
  obtain ⟨k, hkk⟩ := Int.eq_ofNat_of_zero_le m1
  rw [hkk] at m2
  have hkL : k ≤ R.length := by omega
  have HK := Lib.hid hkk
  clear hb hz hok hl hR m1 m2 hkk hi
  refine (callsIn_wide (n := 3)).1 (callsIn_of_wp_marks Try.func10 rfl trivial (wpIn_wide.2 ?_) rfl)
  simp only [Try.ntmps10, List.size_toArray, List.length_cons, List.length_nil, Nat.reduceAdd, Nat.reduceSub, Array.replicate_succ, Array.replicate_zero, List.push_toArray, List.append_toArray, List.nil_append, List.cons_append]
  go_wp2_with fail
  refine (Has.tbWorks H0.out).mono ?_
  rintro e w1 ⟨rfl, h1⟩
  have H1 := Lib.hid h1
  clear h1 H0
  go_wp2_with fail
  refine (MA.out _ _ H1.out 2).mono ?_
  rintro e w2 ⟨p, b, rfl, h2⟩
  have LM := h2.swap.mpLen rfl
  have HB2 := Lib.hid (h2.newBlk 3 #[.int .i64 k])
  have KB2 := Lib.hid (Blk.new w2 3 #[.int .i64 k])
  have hs2 : (w2.alloc (.cells #[.int .i64 k] 3)).heap.size = w2.heap.size + 1 := by simp
  have HSZ2 := Lib.hid hs2
  clear h2 H1 MA hs2
  go_wp2_with fail
  refine (bring many ((R.length : Int) + 1) _ (by omega) (by omega)).mono ?_
  rintro e w3 ⟨rfl, rfl⟩
  rw [HK.out]
  clear LM
  go_wp2_with fail
  refine (tb_all p ⟨#[]⟩ ⟨#[]⟩ _).mono ?_
  rintro e w4 ⟨g1, g2, g3, rfl, ⟨q1, q2, q3, -⟩, ⟨k1, k2, k3⟩, hb4⟩
  have H4 := Lib.hid (HB2.out.keep hb4)
  have KN4 := Lib.hid (KB2.out.below hb4 (by rw [HSZ2.out]; omega))
  have KK := Lib.hid (And.intro k1 (And.intro k2 k3))
  clear k1 k2 k3 hb4
  go_wp2_with fail
  refine (tb_back p ⟨#[]⟩ ⟨#[]⟩ _).mono ?_
  rintro e w5 ⟨d1, d2, d3, rfl, -, ⟨k1, k2, k3⟩, hb5⟩
  have h5 := H4.out.keep hb5
  have HB5 := Lib.hid h5.bel
  obtain ⟨F, hA, -⟩ := h5.at_ (show tbA p R ∈ _ by simp)
  have KN5 := Lib.hid (KN4.out.below hb5 KN4.out.lt)
  have TU := Lib.hid (show TRD p g1 g2 g3 ⟨#[]⟩ ⟨#[]⟩ R w5 from ⟨⟨F, hA⟩, HZ.out, KK.out.1.below hb5 KK.out.1.lt, KK.out.2.1.below hb5 KK.out.2.1.lt, KK.out.2.2.below hb5 KK.out.2.2.lt⟩)
  have TD := Lib.hid (show TRD p d1 d2 d3 ⟨#[]⟩ ⟨#[]⟩ R w5 from ⟨⟨F, hA⟩, HZ.out, k1, k2, k3⟩)
  clear q1 q2 q3 k1 k2 k3 hb5 h5 hA H4 KN4 KB2 HB2 HSZ2 KK
  go_wp2_with fail
  have HVw5 : Below w5.heap.size w5 w5 := Below.refl _ _
  refine wp_loop_rounds 3 ?_
  rw [rounds_succ]
  go_wp2_with fail
  have HAwa : Below w5.heap.size w5 ((w5.alloc (.cells #[.int .i64 0] 3)).alloc (.cells #[.int .i64 0] 3)) := bsa (nbl w5 _) _
  have swa : ((w5.alloc (.cells #[.int .i64 0] 3)).alloc (.cells #[.int .i64 0] 3)).heap.size = w5.heap.size + 2 := by simp
  have kuwa : Blk ((w5.alloc (.cells #[.int .i64 0] 3)).alloc (.cells #[.int .i64 0] 3)) w5.heap.size 3 #[.int .i64 0] := (Blk.new w5 3 #[.int .i64 0]).below (nbl _ _) (Blk.new w5 3 #[.int .i64 0]).lt
  have kdwa : Blk ((w5.alloc (.cells #[.int .i64 0] 3)).alloc (.cells #[.int .i64 0] 3)) (w5.heap.size + 1) 3 #[.int .i64 0] := by
    have := Blk.new (w5.alloc (.cells #[.int .i64 0] 3)) 3 #[.int .i64 0]
    rwa [show (w5.alloc (.cells #[.int .i64 0] 3)).heap.size = w5.heap.size + 1 by simp] at this
  obtain ⟨wa, hwa⟩ : ∃ wa, wa = ((w5.alloc (.cells #[.int .i64 0] 3)).alloc (.cells #[.int .i64 0] 3)) := ⟨_, rfl⟩
  rw [← hwa] at HAwa swa kuwa kdwa ⊢
  clear hwa
  refine tours_brk (P := Try.prog) rfl (fun _ _ => rfl) (tb_all_tours p g1 g2 g3 ⟨#[]⟩ ⟨#[]⟩) rfl k
    (fun b r' n' W => r' = R ∧ b = upAt R ⟨#[]⟩ ⟨#[]⟩ n' ∧ n' ≤ k ∧ Blk W w5.heap.size 3 #[.int .i64 n'] ∧ Blk W (w5.heap.size + 1) 3 #[.int .i64 0] ∧ Below w5.heap.size w5 W)
    (fun W => Blk W w5.heap.size 3 #[.int .i64 k] ∧ Blk W (w5.heap.size + 1) 3 #[.int .i64 0] ∧ Below w5.heap.size w5 W)
    (fun b r' n' X Y h hX hf => ⟨h.1, h.2.1, h.2.2.1, hf.cells h.2.2.2.1, hf.cells h.2.2.2.2.1, h.2.2.2.2.2.trans (hf.below (by have := swa; omega) (by have := h.2.2.2.2.2.size; omega))⟩)
    (fun X Y h hX hf => ⟨hf.cells h.1, hf.cells h.2.1, h.2.2.trans (hf.below (by have := swa; omega) (by have := h.2.2.size; omega))⟩)
    (fun b r' n' W hno h => by
      obtain ⟨hr, hb, hn', hrest⟩ := h
      rw [hr, hb, up_next HS.out _ _ (by rw [btw_all]; omega), List.getElem?_eq_none_iff, btw_all] at hno
      obtain rfl : n' = k := by omega
      exact hrest)
    (fun b r' n' X h => ⟨by rw [h.1]; exact TU.out.below (HVw5.trans (h.2.2.2.2.2.mono HVw5.size)), h.2.2.1⟩)
    R ⟨rfl, rfl, Nat.zero_le _, kuwa, kdwa, HAwa⟩ ?aV1 ?assignV1 ?bodyV1 ?finV1
  case assignV1 =>
    intro l x W K hK
    gi_wp2
    exact hK
  case bodyV1 =>
    rintro l b r' n' x W hsW ⟨hr, hb, hn', hu, hd, hB⟩ hx
    rw [hr, hb, up_next HS.out _ _ (by rw [btw_all]; omega)] at hx
    obtain ⟨hst, hlt⟩ := up_step hx
    rw [btw_all] at hlt
    have c1 : W.cell? ⟨w5.heap.size, 0, none⟩ = some (.int .i64 n') := hu.cell 0
    have c4 : W.cell? ⟨w5.heap.size + 1, 0, none⟩ = some (.int .i64 0) := hd.cell 0
    have c2 : W.cell? ⟨w2.heap.size, 0, none⟩ = some (.int .i64 k) := (KN5.out.below (HVw5.trans (hB.mono HVw5.size)) KN5.out.lt).cell 0
    have f1 := hu.frozen 0
    have f4 := hd.frozen 0
    have HST := Lib.hid hst
    have HU := Lib.hid hu
    have HD := Lib.hid hd
    have HBW := Lib.hid hB
    
    clear hr hb hst hu hd hB hx
    by_cases hpe : n' = k
    · have hq : ((n' : Int) == (k : Int)) = true := by simp [hpe]
      gi_wp2
      exact ⟨KeepsFrom.refl _ _, rfl, by rw [← hpe]; exact HU.out, HD.out, HBW.out⟩
    · have hq : ((n' : Int) == (k : Int)) = false := by simp; omega
      gi_wp2
      exact ⟨from_put HU.out, _, rfl, HST.out, by omega, by simpa using HU.out.set_ 0 (.int .i64 (n' + 1 : Nat)), blk_put_ne HD.out (by omega), below_put HBW.out (by omega)⟩
  case finV1 =>
    rintro D1 V1 hD1 hsV1 ⟨kuV1, kdV1, hBV1⟩ hKD1
    have LD1 : D1 < V1.heap.size := (Array.getElem?_eq_some_iff.1 hKD1).1
    go_wp2_with fail
    refine tours_brk (P := Try.prog) rfl (fun _ _ => rfl) (tb_back_tours p d1 d2 d3 ⟨#[]⟩ ⟨#[]⟩) rfl k
      (fun b r' n' W => r' = R ∧ b = dnAt R ⟨#[]⟩ ⟨#[]⟩ n' ∧ n' ≤ k ∧ Blk W w5.heap.size 3 #[.int .i64 k] ∧ Blk W (w5.heap.size + 1) 3 #[.int .i64 n'] ∧ Below w5.heap.size w5 W ∧ Bt (w5.heap.size + 1) V1 W)
      (fun W => Blk W w5.heap.size 3 #[.int .i64 k] ∧ Blk W (w5.heap.size + 1) 3 #[.int .i64 k] ∧ Below w5.heap.size w5 W ∧ Bt (w5.heap.size + 1) V1 W)
      (fun b r' n' X Y h hX hf => ⟨h.1, h.2.1, h.2.2.1, hf.cells h.2.2.2.1, hf.cells h.2.2.2.2.1, h.2.2.2.2.2.1.trans (hf.below (by have := hBV1.size; omega) (by have := h.2.2.2.2.2.1.size; omega)), h.2.2.2.2.2.2.firm hX hf⟩)
      (fun X Y h hX hf => ⟨hf.cells h.1, hf.cells h.2.1, h.2.2.1.trans (hf.below (by have := hBV1.size; omega) (by have := h.2.2.1.size; omega)), h.2.2.2.firm hX hf⟩)
      (fun b r' n' W hno h => by
        obtain ⟨hr, hb, hn', hrest⟩ := h
        rw [hr, hb, dn_next HS.out HZ.out _ _ (by rw [btw_all]; omega), List.getElem?_eq_none_iff, List.length_reverse, btw_all] at hno
        obtain rfl : n' = k := by omega
        exact hrest)
      (fun b r' n' X h => ⟨by rw [h.1]; exact TD.out.below (HVw5.trans (h.2.2.2.2.2.1.mono HVw5.size)), h.2.2.1⟩)
      R ⟨rfl, rfl, Nat.zero_le _, kuV1, kdV1, hBV1, Bt.refl _ _⟩ ?aV2 ?assignV2 ?bodyV2 ?finV2
    case assignV2 =>
      intro l x W K hK
      gi_wp2
      exact hK
    case bodyV2 =>
      rintro l b r' n' x W hsW ⟨hr, hb, hn', hu, hd, hB, hbt⟩ hx
      rw [hr, hb, dn_next HS.out HZ.out _ _ (by rw [btw_all]; omega)] at hx
      obtain ⟨hst, hlt⟩ := dn_step hx
      rw [btw_all] at hlt
      have c1 : W.cell? ⟨w5.heap.size, 0, none⟩ = some (.int .i64 k) := hu.cell 0
      have c4 : W.cell? ⟨w5.heap.size + 1, 0, none⟩ = some (.int .i64 n') := hd.cell 0
      have c2 : W.cell? ⟨w2.heap.size, 0, none⟩ = some (.int .i64 k) := (KN5.out.below (HVw5.trans (hB.mono HVw5.size)) KN5.out.lt).cell 0
      have f1 := hu.frozen 0
      have f4 := hd.frozen 0
      have HST := Lib.hid hst
      have HU := Lib.hid hu
      have HD := Lib.hid hd
      have HBW := Lib.hid hB
      have HBT := Lib.hid hbt
      clear hr hb hst hu hd hB hx hbt
      by_cases hpe : n' = k
      · have hq : ((n' : Int) == (k : Int)) = true := by simp [hpe]
        gi_wp2
        exact ⟨KeepsFrom.refl _ _, rfl, HU.out, by rw [← hpe]; exact HD.out, HBW.out, HBT.out⟩
      · have hq : ((n' : Int) == (k : Int)) = false := by simp; omega
        gi_wp2
        exact ⟨from_put HD.out, _, rfl, HST.out, by omega, blk_put_ne HU.out (by omega), by simpa using HD.out.set_ 0 (.int .i64 (n' + 1 : Nat)), below_put HBW.out (by omega), HBT.out.put⟩
    case finV2 =>
      rintro D2 V2 hD2 hsV2 ⟨kuV2, kdV2, hBV2, hbtV2⟩ hKD2
      have LD2 : D2 < V2.heap.size := (Array.getElem?_eq_some_iff.1 hKD2).1
      have c1 : V2.cell? ⟨w5.heap.size, 0, none⟩ = some (.int .i64 k) := kuV2.cell 0
      have c4 : V2.cell? ⟨w5.heap.size + 1, 0, none⟩ = some (.int .i64 k) := kdV2.cell 0
      have HVV2 : Below w5.heap.size w5 V2 := HVw5.trans (hBV2.mono HVw5.size)
      have c2 : V2.cell? ⟨w2.heap.size, 0, none⟩ = some (.int .i64 k) := (KN5.out.below HVV2 KN5.out.lt).cell 0
      have hKD12 := (hbtV2.2 D1 (by omega) LD1).trans hKD1
      have hneD2 : D1 ≠ D2 := by omega
      have hszV2 := hBV2.size
      have hszV1 := hBV1.size
      clear kuV2 kdV2 hbtV2 kuV1 kdV1 hBV1
      have hq : ((k : Int) != (k : Int)) = false := by simp
      go_wp2_with fail
      clear c1 c4 c2
      rw [rounds_succ]
      go_wp2_with fail
      have HAwb : Below V2.heap.size V2 ((V2.alloc (.cells #[.int .i64 0] 3)).alloc (.cells #[.int .i64 0] 3)) := bsa (nbl V2 _) _
      have swb : ((V2.alloc (.cells #[.int .i64 0] 3)).alloc (.cells #[.int .i64 0] 3)).heap.size = V2.heap.size + 2 := by simp
      have kuwb : Blk ((V2.alloc (.cells #[.int .i64 0] 3)).alloc (.cells #[.int .i64 0] 3)) V2.heap.size 3 #[.int .i64 0] := (Blk.new V2 3 #[.int .i64 0]).below (nbl _ _) (Blk.new V2 3 #[.int .i64 0]).lt
      have kdwb : Blk ((V2.alloc (.cells #[.int .i64 0] 3)).alloc (.cells #[.int .i64 0] 3)) (V2.heap.size + 1) 3 #[.int .i64 0] := by
        have := Blk.new (V2.alloc (.cells #[.int .i64 0] 3)) 3 #[.int .i64 0]
        rwa [show (V2.alloc (.cells #[.int .i64 0] 3)).heap.size = V2.heap.size + 1 by simp] at this
      obtain ⟨wb, hwb⟩ : ∃ wb, wb = ((V2.alloc (.cells #[.int .i64 0] 3)).alloc (.cells #[.int .i64 0] 3)) := ⟨_, rfl⟩
      rw [← hwb] at HAwb swb kuwb kdwb ⊢
      clear hwb
      refine tours_brk (P := Try.prog) rfl (fun _ _ => rfl) (tb_all_tours p g1 g2 g3 ⟨#[]⟩ ⟨#[]⟩) rfl k
        (fun b r' n' W => r' = R ∧ b = upAt R ⟨#[]⟩ ⟨#[]⟩ n' ∧ n' ≤ k ∧ Blk W V2.heap.size 3 #[.int .i64 n'] ∧ Blk W (V2.heap.size + 1) 3 #[.int .i64 0] ∧ Below V2.heap.size V2 W)
        (fun W => Blk W V2.heap.size 3 #[.int .i64 k] ∧ Blk W (V2.heap.size + 1) 3 #[.int .i64 0] ∧ Below V2.heap.size V2 W)
        (fun b r' n' X Y h hX hf => ⟨h.1, h.2.1, h.2.2.1, hf.cells h.2.2.2.1, hf.cells h.2.2.2.2.1, h.2.2.2.2.2.trans (hf.below (by have := swb; omega) (by have := h.2.2.2.2.2.size; omega))⟩)
        (fun X Y h hX hf => ⟨hf.cells h.1, hf.cells h.2.1, h.2.2.trans (hf.below (by have := swb; omega) (by have := h.2.2.size; omega))⟩)
        (fun b r' n' W hno h => by
          obtain ⟨hr, hb, hn', hrest⟩ := h
          rw [hr, hb, up_next HS.out _ _ (by rw [btw_all]; omega), List.getElem?_eq_none_iff, btw_all] at hno
          obtain rfl : n' = k := by omega
          exact hrest)
        (fun b r' n' X h => ⟨by rw [h.1]; exact TU.out.below (HVV2.trans (h.2.2.2.2.2.mono HVV2.size)), h.2.2.1⟩)
        R ⟨rfl, rfl, Nat.zero_le _, kuwb, kdwb, HAwb⟩ ?aV3 ?assignV3 ?bodyV3 ?finV3
      case assignV3 =>
        intro l x W K hK
        gi_wp2
        exact hK
      case bodyV3 =>
        rintro l b r' n' x W hsW ⟨hr, hb, hn', hu, hd, hB⟩ hx
        rw [hr, hb, up_next HS.out _ _ (by rw [btw_all]; omega)] at hx
        obtain ⟨hst, hlt⟩ := up_step hx
        rw [btw_all] at hlt
        have c1 : W.cell? ⟨V2.heap.size, 0, none⟩ = some (.int .i64 n') := hu.cell 0
        have c4 : W.cell? ⟨V2.heap.size + 1, 0, none⟩ = some (.int .i64 0) := hd.cell 0
        have c2 : W.cell? ⟨w2.heap.size, 0, none⟩ = some (.int .i64 k) := (KN5.out.below (HVV2.trans (hB.mono HVV2.size)) KN5.out.lt).cell 0
        have f1 := hu.frozen 0
        have f4 := hd.frozen 0
        have HST := Lib.hid hst
        have HU := Lib.hid hu
        have HD := Lib.hid hd
        have HBW := Lib.hid hB
        
        clear hr hb hst hu hd hB hx
        by_cases hpe : n' = k
        · have hq : ((n' : Int) == (k : Int)) = true := by simp [hpe]
          gi_wp2
          exact ⟨KeepsFrom.refl _ _, rfl, by rw [← hpe]; exact HU.out, HD.out, HBW.out⟩
        · have hq : ((n' : Int) == (k : Int)) = false := by simp; omega
          gi_wp2
          exact ⟨from_put HU.out, _, rfl, HST.out, by omega, by simpa using HU.out.set_ 0 (.int .i64 (n' + 1 : Nat)), blk_put_ne HD.out (by omega), below_put HBW.out (by omega)⟩
      case finV3 =>
        rintro D3 V3 hD3 hsV3 ⟨kuV3, kdV3, hBV3⟩ hKD3
        have LD3 : D3 < V3.heap.size := (Array.getElem?_eq_some_iff.1 hKD3).1
        go_wp2_with fail
        refine tours_brk (P := Try.prog) rfl (fun _ _ => rfl) (tb_back_tours p d1 d2 d3 ⟨#[]⟩ ⟨#[]⟩) rfl k
          (fun b r' n' W => r' = R ∧ b = dnAt R ⟨#[]⟩ ⟨#[]⟩ n' ∧ n' ≤ k ∧ Blk W V2.heap.size 3 #[.int .i64 k] ∧ Blk W (V2.heap.size + 1) 3 #[.int .i64 n'] ∧ Below V2.heap.size V2 W ∧ Bt (V2.heap.size + 1) V3 W)
          (fun W => Blk W V2.heap.size 3 #[.int .i64 k] ∧ Blk W (V2.heap.size + 1) 3 #[.int .i64 k] ∧ Below V2.heap.size V2 W ∧ Bt (V2.heap.size + 1) V3 W)
          (fun b r' n' X Y h hX hf => ⟨h.1, h.2.1, h.2.2.1, hf.cells h.2.2.2.1, hf.cells h.2.2.2.2.1, h.2.2.2.2.2.1.trans (hf.below (by have := hBV3.size; omega) (by have := h.2.2.2.2.2.1.size; omega)), h.2.2.2.2.2.2.firm hX hf⟩)
          (fun X Y h hX hf => ⟨hf.cells h.1, hf.cells h.2.1, h.2.2.1.trans (hf.below (by have := hBV3.size; omega) (by have := h.2.2.1.size; omega)), h.2.2.2.firm hX hf⟩)
          (fun b r' n' W hno h => by
            obtain ⟨hr, hb, hn', hrest⟩ := h
            rw [hr, hb, dn_next HS.out HZ.out _ _ (by rw [btw_all]; omega), List.getElem?_eq_none_iff, List.length_reverse, btw_all] at hno
            obtain rfl : n' = k := by omega
            exact hrest)
          (fun b r' n' X h => ⟨by rw [h.1]; exact TD.out.below (HVV2.trans (h.2.2.2.2.2.1.mono HVV2.size)), h.2.2.1⟩)
          R ⟨rfl, rfl, Nat.zero_le _, kuV3, kdV3, hBV3, Bt.refl _ _⟩ ?aV4 ?assignV4 ?bodyV4 ?finV4
        case assignV4 =>
          intro l x W K hK
          gi_wp2
          exact hK
        case bodyV4 =>
          rintro l b r' n' x W hsW ⟨hr, hb, hn', hu, hd, hB, hbt⟩ hx
          rw [hr, hb, dn_next HS.out HZ.out _ _ (by rw [btw_all]; omega)] at hx
          obtain ⟨hst, hlt⟩ := dn_step hx
          rw [btw_all] at hlt
          have c1 : W.cell? ⟨V2.heap.size, 0, none⟩ = some (.int .i64 k) := hu.cell 0
          have c4 : W.cell? ⟨V2.heap.size + 1, 0, none⟩ = some (.int .i64 n') := hd.cell 0
          have c2 : W.cell? ⟨w2.heap.size, 0, none⟩ = some (.int .i64 k) := (KN5.out.below (HVV2.trans (hB.mono HVV2.size)) KN5.out.lt).cell 0
          have f1 := hu.frozen 0
          have f4 := hd.frozen 0
          have HST := Lib.hid hst
          have HU := Lib.hid hu
          have HD := Lib.hid hd
          have HBW := Lib.hid hB
          have HBT := Lib.hid hbt
          clear hr hb hst hu hd hB hx hbt
          by_cases hpe : n' = k
          · have hq : ((n' : Int) == (k : Int)) = true := by simp [hpe]
            gi_wp2
            exact ⟨KeepsFrom.refl _ _, rfl, HU.out, by rw [← hpe]; exact HD.out, HBW.out, HBT.out⟩
          · have hq : ((n' : Int) == (k : Int)) = false := by simp; omega
            gi_wp2
            exact ⟨from_put HD.out, _, rfl, HST.out, by omega, blk_put_ne HU.out (by omega), by simpa using HD.out.set_ 0 (.int .i64 (n' + 1 : Nat)), below_put HBW.out (by omega), HBT.out.put⟩
        case finV4 =>
          rintro D4 V4 hD4 hsV4 ⟨kuV4, kdV4, hBV4, hbtV4⟩ hKD4
          have LD4 : D4 < V4.heap.size := (Array.getElem?_eq_some_iff.1 hKD4).1
          have c1 : V4.cell? ⟨V2.heap.size, 0, none⟩ = some (.int .i64 k) := kuV4.cell 0
          have c4 : V4.cell? ⟨V2.heap.size + 1, 0, none⟩ = some (.int .i64 k) := kdV4.cell 0
          have HVV4 : Below w5.heap.size w5 V4 := HVV2.trans (hBV4.mono HVV2.size)
          have c2 : V4.cell? ⟨w2.heap.size, 0, none⟩ = some (.int .i64 k) := (KN5.out.below HVV4 KN5.out.lt).cell 0
          have hKD32 := (hbtV4.2 D3 (by omega) LD3).trans hKD3
          have hneD4 : D3 ≠ D4 := by omega
          have hszV4 := hBV4.size
          have hszV3 := hBV3.size
          clear kuV4 kdV4 hbtV4 kuV3 kdV3 hBV3
          have hq : ((k : Int) != (k : Int)) = false := by simp
          go_wp2_with fail
          clear c1 c4 c2
          rw [rounds_succ]
          go_wp2_with fail
          have e1 := (hBV4.block D1 (by omega)).trans hKD12
          have e2 := (hBV4.block D2 (by omega)).trans hKD2
          refine ⟨by simp, .inl ⟨_, _, rfl, run_takeDeferred hKD4, ?_⟩⟩
          refine ⟨by simp, .inl ⟨_, _, rfl, run_takeDeferred ((World.putObj_heap_other (by omega)).trans hKD32), ?_⟩⟩
          refine ⟨by simp, .inl ⟨_, _, rfl, run_takeDeferred ((World.putObj_heap_other (by omega)).trans ((World.putObj_heap_other (by omega)).trans e2)), ?_⟩⟩
          refine ⟨by simp, .inl ⟨_, _, rfl, run_takeDeferred ((World.putObj_heap_other (by omega)).trans ((World.putObj_heap_other (by omega)).trans ((World.putObj_heap_other (by omega)).trans e1))), ?_⟩⟩
          have hb5 := HB5.out.size
          exact ⟨_, results_tmp rfl _ _ _, rfl, below_obj (below_obj (below_obj (below_obj (HB5.out.trans (HVV4.mono hb5)) (by omega)) (by omega)) (by omega)) (by omega)⟩
end Go.Proofs.Ytgakkeeeadndkaa
