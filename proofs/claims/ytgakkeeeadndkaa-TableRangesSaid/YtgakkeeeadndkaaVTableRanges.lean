/-
  Layer 10: TableRanges, walked (written by wip/genvtr.py).
-/
import Derived.Test.YtgakkeeeadndkaaTbMem
set_option linter.unusedVariables false
namespace Go.Proofs.Ytgakkeeeadndkaa
open Go.RowKit Go.Shelf

set_option maxRecDepth 100000 in
set_option maxHeartbeats 8000000 in
theorem tableRanges_w (A : Option Addr) (n c : Nat) (f t : ByteArray) (w : World) (bs : List (List Op_)) (hb : BAt w A n bs) (hz : ∀ b ∈ bs, OSz b) (hn : n ≤ 9223372036854775807) :
    Calls Try.prog 4 #[.slice A n c, .string f, .string t] w fun e w' => e = .returned (.bool true) ∧ Below w.heap.size w w' := by
  have h0 : Has w [] w := Has.nil (Below.refl _ _)
  have HBAT := Lib.hid hb
  have HZ := Lib.hid hz
  have HLN := Lib.hid hb.1
  clear hb hz
  go_enter Try.func4, Try.ntmps4
  go_wp2_with (first
    | (go_at_call 12; refine (h0.tbNew 1).mono ?_; rintro e w1 ⟨p, rfl, h1⟩)
    | (go_at_call 13; refine (h1.rtNew 1).mono ?_; rintro e w2 ⟨b, rfl, h2⟩; have H2 := Lib.hid h2.swap; clear h0 h1 h2))
  go_loopw [9] (fun i wr => ∃ k : Nat, k ≤ n ∧ k ≤ 30 ∧ i = .int .i64 k ∧ Hid (Has w [tbA p (tabs bs k), rtA b (tabs bs k)] wr)) (fun i _ => n - (intOf i).toNat)
  case atStart => exact ⟨0, Nat.zero_le _, Nat.zero_le _, rfl, H2⟩
  case round =>
    obtain ⟨k, hk, hk30, rfl, HH⟩ := hrel
    by_cases hlt : k < n ∧ k < 30
    · obtain ⟨hlt, hlt30⟩ := hlt
      have e1 : k < bs.length := by rw [HLN.out]; exact hlt
      obtain ⟨bb, o, rfl, hc⟩ := HBAT.out.2 (by omega)
      obtain ⟨Ai, ci, z0, hops, hci1, hci2⟩ := hc k e1
      have hok := tabs_ok HZ.out k
      have hlen := hok.len
      have hsz := HZ.out _ (List.getElem_mem e1)
      have hsc := tabs_succ e1
      have HC := Lib.hid (fun V (hb : Below w.heap.size w V) => (hb.cell (World.block_lt_of_cell? w _ z0)).trans z0)
      have hP : TS w p b (tabs bs k) (tabs bs (k + 1)) [] false false wr.drew := Has.drew (show Has w (tbA p (tabs bs k) :: rtA b (tabs bs k) :: []) wr from HH.out)
      have hS : wr.drew.cell? ⟨bb, o + k, none⟩ = some (.slice Ai (bs[k]'e1).length ci) := HC.out _ hP.bel
      have z1 : wr.cell? ⟨bb, o + k, none⟩ = some (.slice Ai (bs[k]'e1).length ci) := HC.out _ HH.out.bel
      rw [hsc] at hP
      have HA1 := Lib.hid (fun W y (h : TS w p b (tabs bs k) (rapp (tabs bs k) (bs[k]'e1)) [] false y W) => h.appA hok (by omega) Ai _ ci hops (by omega) hsz)
      have HB1 := Lib.hid (fun W x (h : TS w p b (tabs bs k) (rapp (tabs bs k) (bs[k]'e1)) [] x false W) => h.appB (by omega) Ai _ ci hops (by omega))
      have hfin : ∀ W, TS w p b (tabs bs k) (rapp (tabs bs k) (bs[k]'e1)) [] true true W → Has w [tbA p (tabs bs (k + 1)), rtA b (tabs bs (k + 1))] W := fun W h => by rw [hsc]; exact h
      have HF := Lib.hid hfin
      have i1 : (0 : Int) ≤ (k : Int) := by omega
      have i2 : (k : Int) < (n : Int) := by omega
      have b0 : ((((chk (bs[k]'e1)) : Nat) : Int) != (((chk (bs[k]'e1)) : Nat) : Int)) = false := by simp
      clear hc hops hci1 hci2 hok hlen hsz hsc hfin z0
      generalize (bs[k]'e1).length = m at *
      generalize rapp (tabs bs k) (bs[k]'e1) = R' at *
      generalize ((chk (bs[k]'e1) : Nat) : Int) = ee at *
      generalize tabs bs k = R at *
      clear e1
      go_wp2_with fail
      go_region_held3 (fun W => W.cell? ⟨bb, o + k, none⟩ = some (.slice Ai m ci))
        (first | with_reducible assumption | with_reducible exact hS)
        (first
          | (go_at_call 14; (with_reducible refine (HA1.out _ _ (by with_reducible assumption)).mono ?_); rintro e w8 ⟨rfl, hP8, hb8, -⟩; have hS8 := HC.out _ hb8)
          | (go_at_call 15; (with_reducible refine (HB1.out _ _ (by with_reducible assumption)).mono ?_); rintro e w9 ⟨rfl, hP9, hb9, -⟩; have hS9 := HC.out _ hb9))
      all_goals
        go_wp2_with fail
        go_roundw
        case rel =>
          refine ⟨k + 1, by omega, by omega, by go_num, ?_⟩
          first
            | exact Lib.hid (HF.out _ hP9)
            | exact Lib.hid (HF.out _ hP8)
        case measure => simp [intOf]; omega
    · by_cases hkn : k < n
      · obtain rfl : k = 30 := by omega
        rw [show ((30 : Nat) : Int) = 30 from rfl]
        clear hlt hk30
        have hok := tabs_ok HZ.out 30
        have HE := Lib.hid (show Has w [tbA p (tabs bs 30), rtA b (tabs bs 30)] wr from HH.out)
        have hlen := hok.len
        obtain ⟨hsor, hszs, _⟩ := hok
        have HSO := Lib.hid hsor
        have HSZ := Lib.hid hszs
        have hl1 : (tabs bs 30).length ≤ 3840 := by omega
        obtain ⟨B, hB⟩ : ∃ B, btw (tabs bs 30) f t = B := ⟨_, rfl⟩
        have hbl : B.length ≤ 3840 := by have h1 := btw_len (tabs bs 30) f t; have h2 := rend_le (tabs bs 30) t; rw [← hB]; omega
        have HBB := Lib.hid hB
        obtain ⟨D, hD⟩ : ∃ D, B.reverse = D := ⟨_, rfl⟩
        have HBR := Lib.hid (show (btw (tabs bs 30) f t).reverse = D from by rw [hB, hD])
        have hdl : D.length ≤ 3840 := by rw [← hD, List.length_reverse]; exact hbl
        have HDD := Lib.hid hD
        have HGE := Lib.hid (fun W (h : Has w [tbA p (tabs bs 30), rtA b (tabs bs 30)] W) => h.tbGetM (p := p) (r := tabs bs 30) (by simp) f)
        have HGF := Lib.hid (fun W (h : Has w [tbA p (tabs bs 30), rtA b (tabs bs 30)] W) => h.rtGetM (b := b) (r := tabs bs 30) (by simp) f)
        have b1 : ((rval (tabs bs 30) f).toList == (rval (tabs bs 30) f).toList) = true := by simp
        have b2 : (rhas (tabs bs 30) f == rhas (tabs bs 30) f) = true := by simp
        generalize rval (tabs bs 30) f = gv at *
        generalize rhas (tabs bs 30) f = gh at *
        generalize tabs bs 30 = R at *
        clear HH HZ hlen hsor hszs hB hD HBAT HLN
        go_wp2_with (first
          | (go_at_call 21; refine (HGE.out _ HE.out).mono ?_; rintro e w2 ⟨rfl, h2⟩; have H2 := Lib.hid h2; clear h2)
          | (go_at_call 22; refine (HGF.out _ H2.out).mono ?_; rintro e w3 ⟨rfl, h3⟩; have H3 := Lib.hid h3; clear h3)
          | (go_at_call 23; refine (Has.rtBetweenM H3.out (b := b) (r := R) (by simp) HSO.out f t (by omega) B HBB.out).mono ?_; rintro e w4 ⟨A4, c4, rfl, h4, hw4, hc4, hd4, -⟩; have H4 := Lib.hid h4; have HW4 := Lib.hid hw4; clear h4 hw4)
          | (go_at_call 24; (with_reducible refine (Has.tbRangedUM H4.out (p := p) (r := R) (by simp) HSZ.out (by omega) f t B HBB.out).mono ?_); rintro e w5 ⟨A5, c5, rfl, h5, hw5, hc5, hd5, hb5⟩; have H5 := Lib.hid h5; have HW5 := Lib.hid hw5; have HW45 := Lib.hid (HW4.out.below hb5); clear h5 hw5 hb5)
          | (go_at_call 19; (with_reducible refine (Has.sameM H5.out A5 A4 B.length B.length c5 c4 B B HW5.out HW45.out (by omega) (by omega) rfl).mono ?_); rintro e w6 ⟨rfl, h6, hb6⟩; have H6 := Lib.hid h6; have HW46 := Lib.hid (HW45.out.below hb6); clear h6 hb6 H5)
          | (go_at_call 24; (with_reducible refine (Has.tbRangedDM H6.out (p := p) (r := R) (by simp) HSZ.out (by omega) f t D HBR.out).mono ?_); rintro e w7 ⟨A7, c7, rfl, h7, hw7, hc7, hd7, hb7⟩; have H7 := Lib.hid h7; have HW7 := Lib.hid hw7; have HW47 := Lib.hid (HW46.out.below hb7); clear h7 hw7 hb7 H6)
          | (go_at_call 25; (with_reducible refine (Has.turnedM H7.out A4 B.length c4 B D HW47.out (by omega) HDD.out).mono ?_); rintro e w8 ⟨A8, c8, rfl, h8, hw8, hc8, hd8, hb8⟩; have H8 := Lib.hid h8; have HW8 := Lib.hid hw8; have HW78 := Lib.hid (HW7.out.below hb8); clear h8 hw8 hb8 H7)
          | (go_at_call 19; (with_reducible refine (Has.sameM H8.out A7 A8 D.length D.length c7 c8 D D HW78.out HW8.out (by omega) (by omega) rfl).mono ?_); rintro e w9 ⟨rfl, h9, hb9⟩; have H9 := Lib.hid h9; clear h9 hb9 H8)
          | (go_at_call 20; refine (Has.tbWorks H9.out).mono ?_; rintro e w10 ⟨rfl, h10⟩))
        go_ret
        exact ⟨rfl, h10.bel⟩

      · obtain rfl : k = n := by omega
        clear hlt hkn
        have hok := tabs_ok HZ.out k
        have HE := Lib.hid (show Has w [tbA p (tabs bs k), rtA b (tabs bs k)] wr from HH.out)
        have hlen := hok.len
        obtain ⟨hsor, hszs, _⟩ := hok
        have HSO := Lib.hid hsor
        have HSZ := Lib.hid hszs
        have hl1 : (tabs bs k).length ≤ 3840 := by omega
        obtain ⟨B, hB⟩ : ∃ B, btw (tabs bs k) f t = B := ⟨_, rfl⟩
        have hbl : B.length ≤ 3840 := by have h1 := btw_len (tabs bs k) f t; have h2 := rend_le (tabs bs k) t; rw [← hB]; omega
        have HBB := Lib.hid hB
        obtain ⟨D, hD⟩ : ∃ D, B.reverse = D := ⟨_, rfl⟩
        have HBR := Lib.hid (show (btw (tabs bs k) f t).reverse = D from by rw [hB, hD])
        have hdl : D.length ≤ 3840 := by rw [← hD, List.length_reverse]; exact hbl
        have HDD := Lib.hid hD
        have HGE := Lib.hid (fun W (h : Has w [tbA p (tabs bs k), rtA b (tabs bs k)] W) => h.tbGetM (p := p) (r := tabs bs k) (by simp) f)
        have HGF := Lib.hid (fun W (h : Has w [tbA p (tabs bs k), rtA b (tabs bs k)] W) => h.rtGetM (b := b) (r := tabs bs k) (by simp) f)
        have b1 : ((rval (tabs bs k) f).toList == (rval (tabs bs k) f).toList) = true := by simp
        have b2 : (rhas (tabs bs k) f == rhas (tabs bs k) f) = true := by simp
        generalize rval (tabs bs k) f = gv at *
        generalize rhas (tabs bs k) f = gh at *
        generalize tabs bs k = R at *
        clear HH HZ hlen hsor hszs hB hD HBAT HLN
        go_wp2_with (first
          | (go_at_call 21; refine (HGE.out _ HE.out).mono ?_; rintro e w2 ⟨rfl, h2⟩; have H2 := Lib.hid h2; clear h2)
          | (go_at_call 22; refine (HGF.out _ H2.out).mono ?_; rintro e w3 ⟨rfl, h3⟩; have H3 := Lib.hid h3; clear h3)
          | (go_at_call 23; refine (Has.rtBetweenM H3.out (b := b) (r := R) (by simp) HSO.out f t (by omega) B HBB.out).mono ?_; rintro e w4 ⟨A4, c4, rfl, h4, hw4, hc4, hd4, -⟩; have H4 := Lib.hid h4; have HW4 := Lib.hid hw4; clear h4 hw4)
          | (go_at_call 24; (with_reducible refine (Has.tbRangedUM H4.out (p := p) (r := R) (by simp) HSZ.out (by omega) f t B HBB.out).mono ?_); rintro e w5 ⟨A5, c5, rfl, h5, hw5, hc5, hd5, hb5⟩; have H5 := Lib.hid h5; have HW5 := Lib.hid hw5; have HW45 := Lib.hid (HW4.out.below hb5); clear h5 hw5 hb5)
          | (go_at_call 19; (with_reducible refine (Has.sameM H5.out A5 A4 B.length B.length c5 c4 B B HW5.out HW45.out (by omega) (by omega) rfl).mono ?_); rintro e w6 ⟨rfl, h6, hb6⟩; have H6 := Lib.hid h6; have HW46 := Lib.hid (HW45.out.below hb6); clear h6 hb6 H5)
          | (go_at_call 24; (with_reducible refine (Has.tbRangedDM H6.out (p := p) (r := R) (by simp) HSZ.out (by omega) f t D HBR.out).mono ?_); rintro e w7 ⟨A7, c7, rfl, h7, hw7, hc7, hd7, hb7⟩; have H7 := Lib.hid h7; have HW7 := Lib.hid hw7; have HW47 := Lib.hid (HW46.out.below hb7); clear h7 hw7 hb7 H6)
          | (go_at_call 25; (with_reducible refine (Has.turnedM H7.out A4 B.length c4 B D HW47.out (by omega) HDD.out).mono ?_); rintro e w8 ⟨A8, c8, rfl, h8, hw8, hc8, hd8, hb8⟩; have H8 := Lib.hid h8; have HW8 := Lib.hid hw8; have HW78 := Lib.hid (HW7.out.below hb8); clear h8 hw8 hb8 H7)
          | (go_at_call 19; (with_reducible refine (Has.sameM H8.out A7 A8 D.length D.length c7 c8 D D HW78.out HW8.out (by omega) (by omega) rfl).mono ?_); rintro e w9 ⟨rfl, h9, hb9⟩; have H9 := Lib.hid h9; clear h9 hb9 H8)
          | (go_at_call 20; refine (Has.tbWorks H9.out).mono ?_; rintro e w10 ⟨rfl, h10⟩))
        go_ret
        exact ⟨rfl, h10.bel⟩

end Go.Proofs.Ytgakkeeeadndkaa
