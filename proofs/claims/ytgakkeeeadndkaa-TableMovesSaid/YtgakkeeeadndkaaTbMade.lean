/-
  Layer 10, the statements' words: made: a table, and the map that it should be.
-/
import Derived.Test.YtgakkeeeadndkaaTbMap
set_option linter.unusedVariables false
namespace Go.Proofs.Ytgakkeeeadndkaa
open Go.RowKit Go.Maps Go.MapKept

theorem rfold_ok {N : Nat} {r : List Rw} (h : ROk N r) {l : List Op_} (hb : ∀ o ∈ l, opBad o = false) (hs : OSz l) (j : Nat) (hj : j ≤ l.length) : ROk (N + j) ((l.take j).foldl rone r) := by
  have := h.fold (l := l.take j) (fun o ho => hb o (List.mem_of_mem_take ho)) (fun o ho => hs o (List.mem_of_mem_take ho))
  rw [List.length_take, Nat.min_eq_left hj] at this
  exact this
set_option maxRecDepth 100000 in
set_option maxHeartbeats 8000000 in
theorem tb_made (seed : Int) (A0 : Option Addr) (n0 c0 : Nat) (w : World) (bs : List (List Op_)) (hb : BAt w A0 n0 bs) (hz : ∀ b ∈ bs, OSz b) (hn : n0 ≤ 9223372036854775807) :
    Calls Try.prog 27 #[.int .i64 seed, .slice A0 n0 c0] w fun e w' => ∃ q b, e = .returned (.tuple #[pt q, .map (some b)]) ∧ Has w [tbA q (tabs bs (min n0 30)), mpA b 3840 (tabs bs (min n0 30))] w' := by
  have h0 : Has w [] w := Has.nil (Below.refl _ _)
  have HBAT := Lib.hid hb
  have HZ := Lib.hid hz
  have HLN := Lib.hid hb.1
  have hmm := @run_makeMap Try.prog
  have hmx : (3840 : Nat) < maxLen := by decide
  clear hb hz
  go_enter Try.func27, Try.ntmps27
  go_wp2_with (first
    | (go_at_call 12; refine (h0.tbNew seed).mono ?_; rintro e w1 ⟨q, rfl, h1⟩; have H1 := Lib.hid h1.mpNew.swap; clear h1 h0))
  clear hmm
  generalize hB : w1.heap.size = B at *
  generalize w1.alloc (.map #[] 0) = X at *
  go_loopw [8] (fun i wr => ∃ k : Nat, k ≤ n0 ∧ k ≤ 30 ∧ i = .int .i64 k ∧ Hid (Has w [tbA q (tabs bs k), mpA B (128 * k) (tabs bs k)] wr)) (fun i _ => n0 - (intOf i).toNat)
  case atStart => exact ⟨0, Nat.zero_le _, Nat.zero_le _, rfl, H1⟩
  case round =>
    obtain ⟨k, hk, hk30, rfl, HH⟩ := hrel
    by_cases hlt : k < n0 ∧ k < 30
    · obtain ⟨hlt, hlt30⟩ := hlt
      have e1 : k < bs.length := by rw [HLN.out]; exact hlt
      obtain ⟨bb, o, rfl, hc⟩ := HBAT.out.2 (by omega)
      obtain ⟨Ai, ci, z0, hops, hci1, hci2⟩ := hc k e1
      have hok := tabs_ok HZ.out k
      have hlen := hok.len
      have hsz := HZ.out _ (List.getElem_mem e1)
      have hsc := tabs_succ e1
      have HC := Lib.hid (fun V (hb : Below w.heap.size w V) => (show V.cell? ⟨bb, o + k, none⟩ = some (.slice Ai (bs[k]'e1).length ci) ∧ OAt V Ai (bs[k]'e1).length (bs[k]'e1) from ⟨(hb.cell (World.block_lt_of_cell? w _ z0)).trans z0, hops.below hb⟩))
      have AP := Lib.hid (HH.out.tbApply hok (by omega) Ai _ ci _ hops (by omega) hsz)
      obtain ⟨z1, hops1⟩ := HC.out wr HH.out.bel
      have i1 : (0 : Int) ≤ (k : Int) := by omega
      have i2 : (k : Int) < (n0 : Int) := by omega
      have HOK := Lib.hid hok
      have HOS := Lib.hid hsz
      clear hc hops hops1 hok z0 hsz
      generalize bs[k]'e1 = l at *
      obtain ⟨m, hm⟩ : ∃ m, m = l.length := ⟨_, rfl⟩
      rw [← hm] at HC AP z1 hci1
      have HMM := Lib.hid hm
      have HSC := Lib.hid hsc
      generalize tabs bs k = R at *
      clear e1 hm hsc
      by_cases hck : chk l = 0
      · obtain ⟨h128, hbad⟩ := chk_ok hck
        have e0 : rapp R l = l.foldl rone R := by unfold rapp; rw [if_pos hck]
        rw [hck, e0] at AP
        rw [e0] at HSC
        have hm128 : m ≤ 128 := by rw [HMM.out]; exact h128
        have HBD := Lib.hid hbad
        generalize hLL : l.foldl rone R = LL at *
        have HLL := Lib.hid hLL
        clear hck h128 hbad e0 hLL
        go_wp2_with (first
          | (go_at_call 14; refine AP.out.mono ?_; rintro e w4 ⟨rfl, h4, -⟩; have H4 := Lib.hid (h4.swap); clear h4))
        go_loopw [9, 10] (fun i _ wr => ∃ j : Nat, j ≤ m ∧ i = .int .i64 j ∧ Hid (Has w [mpA B (128 * k + j) ((l.take j).foldl rone R), tbA q LL] wr)) (fun i _ _ => m - (intOf i).toNat)
        case atStart => exact ⟨0, Nat.zero_le _, rfl, H4⟩
        case round =>
          obtain ⟨j, hj, rfl, HH⟩ := hrel
          obtain ⟨z5, hops5⟩ := HC.out wr HH.out.bel
          by_cases hjm : j < m
          · have e2 : j < l.length := by rw [← HMM.out]; exact hjm
            obtain ⟨b6, o6, rfl, hc6⟩ := hops5.2 (by omega)
            obtain ⟨y0, y1, y2⟩ := hc6 j e2
            have hsj := HOS.out _ (List.getElem_mem e2)
            have hrs := rfold_succ R l e2
            have j1 : (0 : Int) ≤ (j : Int) := by omega
            have j2 : (j : Int) < (m : Int) := by omega
            clear hc6 hops5
            generalize l[j]'e2 = op at *
            obtain ⟨key, value, del⟩ := op
            simp only at y0 y1 y2 hsj
            have HRS := Lib.hid hrs
            have HKEY := Lib.hid (HKey9 key (by omega))
            have HVAL := Lib.hid (rowE_mk value)
            obtain ⟨D, hO, hM, hT⟩ := (HH.out.alloc (.cells #[.string key, .string value, .bool del] 32)).mp
            have HO := Lib.hid hO
            have HM := Lib.hid hM
            have HT := Lib.hid hT
            have hjb : 128 * k + j < 3969 := by omega
            clear hrs hsj hO hM hT e2
            cases del with
            | true =>
              go_wp2_with (first
                | (at_delete; refine wpList_delete_own _ rfl _ _ 51 9 rfl 39 mapK9 Try.underlying51 _ B (128 * k + j) D rfl HO.out _ _ rfl HKEY.out ?_; intro w5 hO5 ht5; have H5 := Lib.hid ((HT.out w5 (128 * k + j) _ _ ht5.grown hO5 (HM.out.del key value)).mpMono (c' := 128 * k + (j + 1)) (by omega)); clear hO5 ht5 HO HM HT))
              go_roundw
              case rel => exact ⟨j + 1, by omega, by go_num, Lib.hid (by rw [HRS.out]; exact H5.out)⟩
              case measure => simp [intOf]; omega
            | false =>
              go_wp2_with (first
                | (at_mapUpdate; refine wpList_mapUpdate_own _ rfl _ _ _ 51 rfl 9 39 mapK9 Try.underlying51 _ B (128 * k + j) D rfl HO.out (by unfold maxLen; omega) _ _ _ rfl rfl HKEY.out _ [] HVAL.out ?_; intro w5 hO5 ht5; have H5 := Lib.hid (HT.out w5 (128 * k + j + 1) _ _ ht5 hO5 (HM.out.put key value)); clear hO5 ht5 HO HM HT))
              go_roundw
              case rel => exact ⟨j + 1, by omega, by go_num, Lib.hid (by rw [HRS.out]; exact H5.out)⟩
              case measure => simp [intOf]; omega
          · obtain rfl : j = m := by omega
            have hh := HH.out
            rw [List.take_of_length_le (by have := HMM.out; omega), HLL.out] at hh
            have H6 := Lib.hid ((hh.mpMono (c' := 128 * (k + 1)) (by omega)).swap)
            clear hh
            go_wp2_with fail
            go_roundw
            case rel => exact ⟨k + 1, by omega, by omega, by go_num, Lib.hid (by rw [HSC.out]; exact H6.out)⟩
            case measure => simp [intOf]; omega
      · have e0 : rapp R l = R := by unfold rapp; rw [if_neg hck]
        rw [e0] at AP HSC
        have hne : (((chk l : Nat) : Int) != 0) = true := by simpa using hck
        generalize chk l = ee at *
        clear hck e0
        go_wp2_with (first
          | (go_at_call 14; refine AP.out.mono ?_; rintro e w4 ⟨rfl, h4, -⟩; have H4 := Lib.hid ((h4.swap.mpMono (c' := 128 * (k + 1)) (by omega)).swap); clear h4))
        go_roundw
        case rel => exact ⟨k + 1, by omega, by omega, by go_num, Lib.hid (by rw [HSC.out]; exact H4.out)⟩
        case measure => simp [intOf]; omega
    · obtain rfl : k = min n0 30 := by omega
      have HE := Lib.hid (HH.out.swap.mpMono (c' := 3840) (by omega)).swap
      by_cases h80 : n0 < 30
      · go_wp2_with fail
        go_ret2; exact ⟨_, _, rfl, HE.out⟩
      · go_wp2_with fail
        all_goals (go_ret2; exact ⟨_, _, rfl, HE.out⟩)
end Go.Proofs.Ytgakkeeeadndkaa
