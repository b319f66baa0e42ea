/-
  Layer 10: TableMap, walked (written by wip/genvtm.py).
-/
import Derived.Test.YtgakkeeeadndkaaVTableCopies
set_option linter.unusedVariables false
namespace Go.Proofs.Ytgakkeeeadndkaa
open Go.RowKit Go.Shelf Go.Maps Go.MapKept

theorem Has.tbGetB {w V : World} {l : List As} {p : Nat} {r : List Rw} (h : Has w l V) (hm : tbA p r ∈ l) (key : ByteArray) : Calls Try.prog 21 #[pt p, .string key] V fun e w' => e = .returned (.tuple #[.string (rval r key), .bool (rhas r key)]) ∧ Has w l w' ∧ Below V.heap.size V w' := by
  obtain ⟨F, hA, _⟩ := h.at_ hm
  refine (tb_get hA key).mono ?_
  rintro e w' ⟨rfl, hb⟩
  exact ⟨rfl, h.keep hb, hb⟩
/-- The first change that may not be. -/
theorem first_bad {l : List Op_} (h : l.any opBad = true) : ∃ j, ∃ hj : j < l.length, opBad (l[j]'hj) = true ∧ ∀ i (hi : i < l.length), i < j → opBad (l[i]'hi) = false := by
  induction l with
  | nil => cases h
  | cons o l ih =>
    cases ho : opBad o with
    | true => exact ⟨0, by simp, ho, fun i _ h => absurd h (Nat.not_lt_zero _)⟩
    | false =>
      have h2 : l.any opBad = true := by rw [List.any_cons, ho, Bool.false_or] at h; exact h
      obtain ⟨j, hj, h3, h4⟩ := ih h2
      refine ⟨j + 1, by simpa using hj, h3, fun i hi hij => ?_⟩
      cases i with
      | zero => exact ho
      | succ i => exact h4 i (by simpa using hi) (by omega)
set_option maxRecDepth 100000 in
set_option maxHeartbeats 8000000 in
theorem tableMap_w (seed : Int) (A : Option Addr) (n c : Nat) (w : World) (bs : List (List Op_)) (hb : BAt w A n bs) (hz : ∀ b ∈ bs, OSz b) (hn : n ≤ 9223372036854775807) :
    Calls Try.prog 6 #[.int .i64 seed, .slice A n c] w fun e w' => e = .returned (.bool true) ∧ Below w.heap.size w w' := by
  have H0 := Lib.hid (Has.nil (Below.refl _ w))
  have HBAT := Lib.hid hb
  have HZ := Lib.hid hz
  have HLN := Lib.hid hb.1
  have hmm := @run_makeMap Try.prog
  clear hb hz
  go_enter Try.func6, Try.ntmps6
  go_wp2_with (first
    | (go_at_call 20; refine (Has.tbWorks H0.out).mono ?_; rintro e w1 ⟨rfl, h1⟩; have H1 := Lib.hid h1; clear h1 H0)
    | (go_at_call 12; refine (H1.out.tbNew seed).mono ?_; rintro e w2 ⟨p, rfl, h2⟩; have H2 := Lib.hid h2.mpNew.swap; clear h2 H1))
  clear hmm
  generalize hB : w2.heap.size = B at *
  generalize w2.alloc (.map #[] 0) = X at *
  go_loopw [7] (fun i wr => ∃ k : Nat, k ≤ n ∧ k ≤ 30 ∧ i = .int .i64 k ∧ Hid (Has w [tbA p (tabs bs k), mpA B (128 * k) (tabs bs k)] wr)) (fun i _ => n - (intOf i).toNat)
  case atStart => exact ⟨0, Nat.zero_le _, Nat.zero_le _, rfl, H2⟩
  case round =>
    obtain ⟨k, hk, hk30, rfl, HH⟩ := hrel
    by_cases hlt : k < n ∧ k < 30
    · obtain ⟨hlt, hlt30⟩ := hlt
      have e1 : k < bs.length := by rw [HLN.out]; exact hlt
      obtain ⟨bb, o, rfl, hc⟩ := HBAT.out.2 (by omega)
      obtain ⟨Ai, ci, z0, hops, hci1, hci2⟩ := hc k e1
      have hok := tabs_ok HZ.out k
      have hlen := hok.len
      have hsz := HZ.out _ (List.getElem_mem e1)
      have hsc := tabs_succ e1
      have HC := Lib.hid (fun V (hb : Below w.heap.size w V) => (show V.cell? ⟨bb, o + k, none⟩ = some (.slice Ai (bs[k]'e1).length ci) ∧ OAt V Ai (bs[k]'e1).length (bs[k]'e1) from ⟨(hb.cell (World.block_lt_of_cell? w _ z0)).trans z0, hops.below hb⟩))
      have AP := Lib.hid (HH.out.tbApply hok (by omega) Ai _ ci _ hops (by omega) hsz)
      obtain ⟨z1, hops1⟩ := HC.out wr HH.out.bel
      have HOP1 := Lib.hid hops1
      have i1 : (0 : Int) ≤ (k : Int) := by omega
      have i2 : (k : Int) < (n : Int) := by omega
      have HOS := Lib.hid hsz
      clear hc hops hops1 hok z0 hsz
      generalize bs[k]'e1 = l at *
      obtain ⟨m, hm⟩ : ∃ m, m = l.length := ⟨_, rfl⟩
      rw [← hm] at HC AP z1 hci1 HOP1
      have HMM := Lib.hid hm
      have HSC := Lib.hid hsc
      generalize tabs bs k = R at *
      clear e1 hm hsc
      by_cases hck : chk l = 0
      · obtain ⟨h128, hbad⟩ := chk_ok hck
        have e0 : rapp R l = l.foldl rone R := by unfold rapp; rw [if_pos hck]
        rw [hck, e0] at AP
        rw [e0] at HSC
        have hm128 : m ≤ 128 := by rw [HMM.out]; exact h128
        have HBD := Lib.hid hbad
        generalize hLL : l.foldl rone R = LL at *
        have HLL := Lib.hid hLL
        clear hck h128 hbad e0 hLL
        have d1 : decide ((m : Int) ≤ 128) = true := decide_eq_true (by omega)
        go_wp2_with fail
        go_loopw [8, 9] (fun b i wr2 => ∃ j : Nat, j ≤ m ∧ i = .int .i64 j ∧ b = .bool true ∧ wr2 = wr) (fun _ i _ => m - (intOf i).toNat)
        case atStart => exact ⟨0, Nat.zero_le _, rfl, rfl, rfl⟩
        case round =>
          obtain ⟨j, hj, rfl, rfl, hwr⟩ := hrel
          subst hwr
          by_cases hjm : j < m
          · have e2 : j < l.length := by rw [← HMM.out]; exact hjm
            obtain ⟨b6, o6, rfl, hc6⟩ := HOP1.out.2 (by omega)
            obtain ⟨y0, y1, y2⟩ := hc6 j e2
            have hbj := HBD.out _ (List.getElem_mem e2)
            have j1 : (0 : Int) ≤ (j : Int) := by omega
            have j2 : (j : Int) < (m : Int) := by omega
            clear hc6
            generalize l[j]'e2 = op at *
            obtain ⟨key, value, del⟩ := op
            simp only at y0 y1 y2
            have hb2 : (key.toList.isEmpty || (del && !value.toList.isEmpty)) = false := hbj
            rw [Bool.or_eq_false_iff] at hb2
            obtain ⟨hk1, hv1⟩ := hb2
            have hk2 : ¬ key.toList = [] := fun e => by rw [e] at hk1; cases hk1
            clear hbj
            cases del with
            | false =>
              clear hv1
              go_wp2_with fail
              go_roundw
              case rel => first | exact ⟨j + 1, by omega, by go_num, rfl, rfl⟩ | exact ⟨j + 1, by omega, by go_num, rfl, trivial⟩ | exact ⟨j + 1, by omega, by go_num, trivial⟩ | exact ⟨j + 1, by omega, by go_num⟩ | exact ⟨j + 1, by omega, by go_num, rfl⟩
              case measure => simp [intOf]; omega
            | true =>
              have hv2 : value.toList.isEmpty = true := by simpa using hv1
              have hv3 : value.toList = [] := by simpa using hv2
              clear hv1
              go_wp2_with fail
              go_roundw
              case rel => first | exact ⟨j + 1, by omega, by go_num, rfl, rfl⟩ | exact ⟨j + 1, by omega, by go_num, rfl, trivial⟩ | exact ⟨j + 1, by omega, by go_num, trivial⟩ | exact ⟨j + 1, by omega, by go_num⟩ | exact ⟨j + 1, by omega, by go_num, rfl⟩
              case measure => simp [intOf]; omega
          · obtain rfl : j = m := by omega
            go_wp2_with (first
              | (go_at_call 14; refine AP.out.mono ?_; rintro e w4 ⟨rfl, h4, -⟩; have H4 := Lib.hid (h4.swap); clear h4))
            go_loopw [10] (fun i wr => ∃ j2 : Nat, j2 ≤ j ∧ i = .int .i64 j2 ∧ Hid (Has w [mpA B (128 * k + j2) ((l.take j2).foldl rone R), tbA p LL] wr)) (fun i _ => j - (intOf i).toNat)
            case atStart => exact ⟨0, Nat.zero_le _, rfl, H4⟩
            case round =>
              obtain ⟨i, hi, rfl, HH⟩ := hrel
              obtain ⟨z5, hops5⟩ := HC.out wr HH.out.bel
              by_cases him : i < j
              · have e2 : i < l.length := by rw [← HMM.out]; exact him
                obtain ⟨b6, o6, rfl, hc6⟩ := hops5.2 (by omega)
                obtain ⟨y0, y1, y2⟩ := hc6 i e2
                have hsj := HOS.out _ (List.getElem_mem e2)
                have hrs := rfold_succ R l e2
                have j1 : (0 : Int) ≤ (i : Int) := by omega
                have j2 : (i : Int) < (j : Int) := by omega
                clear hc6 hops5
                generalize l[i]'e2 = op at *
                obtain ⟨key, value, del⟩ := op
                simp only at y0 y1 y2 hsj
                have HRS := Lib.hid hrs
                have HKEY := Lib.hid (HKey9 key (by omega))
                have HVAL := Lib.hid (rowE_mk value)
                have hjb : 128 * k + i < 3969 := by omega
                clear hrs hsj e2
                cases del with
                | true =>
                  obtain ⟨D, hO, hM, hT⟩ := HH.out.mp
                  have HO := Lib.hid hO
                  have HM := Lib.hid hM
                  have HT := Lib.hid hT
                  clear hO hM hT
                  go_wp2_with (first
                    | (at_delete; refine wpList_delete_own _ rfl _ _ 51 9 rfl 39 mapK9 Try.underlying51 _ B (128 * k + i) D rfl HO.out _ _ rfl HKEY.out ?_; intro w5 hO5 ht5; have H5 := Lib.hid ((HT.out w5 (128 * k + i) _ _ ht5.grown hO5 (HM.out.del key value)).mpMono (c' := 128 * k + (i + 1)) (by omega)); clear hO5 ht5 HO HM HT))
                  go_roundw
                  case rel => exact ⟨i + 1, by omega, by go_num, Lib.hid (by rw [HRS.out]; exact H5.out)⟩
                  case measure => simp [intOf]; omega
                | false =>
                  obtain ⟨D, hO, hM, hT⟩ := HH.out.drew.mp
                  have HO := Lib.hid hO
                  have HM := Lib.hid hM
                  have HT := Lib.hid hT
                  have zd : wr.drew.cell? ⟨bb, o + k, none⟩ = some (.slice (some ⟨b6, o6, none⟩) j ci) := z5
                  have yd0 : wr.drew.cell? ⟨b6, o6 + i * 3, none⟩ = some (.string key) := y0
                  have yd1 : wr.drew.cell? ⟨b6, o6 + i * 3 + 1, none⟩ = some (.string value) := y1
                  clear hO hM hT
                  go_wp2_with fail
                  go_still_tail 18, (by kernel_rfl)
                  change wpList _ _ _ _ _ wr.drew
                  go_wp2_with (first
                    | (at_mapUpdate; refine wpList_mapUpdate_own _ rfl _ _ _ 51 rfl 9 39 mapK9 Try.underlying51 _ B (128 * k + i) D rfl HO.out (by unfold maxLen; omega) _ _ _ rfl rfl HKEY.out _ [] HVAL.out ?_; intro w5 hO5 ht5; have H5 := Lib.hid (HT.out w5 (128 * k + i + 1) _ _ ht5 hO5 (HM.out.put key value)); clear hO5 ht5 HO HM HT))
                  go_roundw
                  case rel => exact ⟨i + 1, by omega, by go_num, Lib.hid (by rw [HRS.out]; exact H5.out)⟩
                  case measure => simp [intOf]; omega
              · obtain rfl : i = j := by omega
                have hh := HH.out
                rw [List.take_of_length_le (by have := HMM.out; omega), HLL.out] at hh
                have H6 := Lib.hid ((hh.mpMono (c' := 128 * (k + 1)) (by omega)).swap)
                clear hh
                go_wp2_with fail
                go_roundw
                case rel => exact ⟨k + 1, by omega, by omega, by go_num, Lib.hid (by rw [HSC.out]; exact H6.out)⟩
                case measure => simp [intOf]; omega
      · have e0 : rapp R l = R := by unfold rapp; rw [if_neg hck]
        rw [e0] at AP HSC
        have hne : (((chk l : Nat) : Int) == 0) = false := by simpa using hck
        have hcase : 128 < m ∨ (m ≤ 128 ∧ ∃ j, ∃ hj : j < l.length, opBad (l[j]'hj) = true ∧ ∀ i (hi : i < l.length), i < j → opBad (l[i]'hi) = false) := by
          by_cases h1 : 128 < m
          · exact .inl h1
          · refine .inr ⟨by omega, first_bad ?_⟩
            cases ha : l.any opBad with
            | true => rfl
            | false =>
              refine absurd ?_ hck
              unfold chk
              rw [if_neg (by rw [← HMM.out]; exact h1), if_neg (by rw [ha]; decide)]
        generalize ((chk l : Nat) : Int) = ee at *
        clear hck e0
        rcases hcase with hbig | ⟨hm128, jb, hjb, hbad, hgood⟩
        · have d1 : decide ((m : Int) ≤ 128) = false := decide_eq_false (by omega)
          go_wp2_with fail
          go_loopw [8, 9] (fun b i wr2 => i = .int .i64 0 ∧ b = .bool false ∧ wr2 = wr) (fun _ i _ => 0)
          case atStart => exact ⟨rfl, rfl, rfl⟩
          case round =>
            obtain ⟨rfl, rfl, hwr⟩ := hrel
            subst hwr
            go_wp2_with (first
              | (go_at_call 14; refine AP.out.mono ?_; rintro e w4 ⟨rfl, h4, -⟩; have H4 := Lib.hid ((h4.swap.mpMono (c' := 128 * (k + 1)) (by omega)).swap); clear h4))
            go_loopw [10] (fun i wr2 => i = .int .i64 0 ∧ wr2 = w4) (fun i _ => 0)
            case atStart => exact ⟨rfl, rfl⟩
            case round =>
              obtain ⟨rfl, hwr⟩ := hrel
              subst hwr
              obtain ⟨z5, -⟩ := HC.out wr H4.out.bel
              go_wp2_with fail
              go_roundw
              case rel => exact ⟨k + 1, by omega, by omega, by go_num, Lib.hid (by rw [HSC.out]; exact H4.out)⟩
              case measure => simp [intOf]; omega
        · have d1 : decide ((m : Int) ≤ 128) = true := decide_eq_true (by omega)
          have HJB := Lib.hid hjb
          have HBAD := Lib.hid hbad
          have HGD := Lib.hid hgood
          have hjm : jb < m := by rw [HMM.out]; exact hjb
          clear hbad hgood
          go_wp2_with fail
          go_loopw [8, 9] (fun b i wr2 => ∃ j : Nat, i = .int .i64 j ∧ ((j ≤ jb ∧ b = .bool true) ∨ (j = jb + 1 ∧ b = .bool false)) ∧ wr2 = wr) (fun _ i _ => m - (intOf i).toNat)
          case atStart => exact ⟨0, rfl, .inl ⟨Nat.zero_le _, rfl⟩, rfl⟩
          case round =>
            obtain ⟨j, rfl, hjc, hwr⟩ := hrel
            subst hwr
            rcases hjc with ⟨hjl, rfl⟩ | ⟨rfl, rfl⟩
            · have hj2 : j < m := by omega
              have e2 : j < l.length := by rw [← HMM.out]; exact hj2
              obtain ⟨b6, o6, rfl, hc6⟩ := HOP1.out.2 (by omega)
              obtain ⟨y0, y1, y2⟩ := hc6 j e2
              have j1 : (0 : Int) ≤ (j : Int) := by omega
              have j2 : (j : Int) < (m : Int) := by omega
              have hq : opBad (l[j]'e2) = decide (j = jb) := by
                by_cases e : j = jb
                · rw [decide_eq_true e]; subst e; exact HBAD.out
                · rw [decide_eq_false e]; exact HGD.out j e2 (by omega)
              clear hc6
              generalize l[j]'e2 = op at *
              obtain ⟨key, value, del⟩ := op
              simp only at y0 y1 y2
              have hb2 : (key.toList.isEmpty || (del && !value.toList.isEmpty)) = decide (j = jb) := hq
              clear hq
              by_cases e : j = jb
              · rw [decide_eq_true e] at hb2
                have HEJ := Lib.hid e
                clear e
                cases hk1 : key.toList.isEmpty with
                | true =>
                  have hk2 : key.toList = [] := by simpa using hk1
                  clear hb2
                  go_wp2_with fail
                  go_roundw
                  case rel => exact ⟨j + 1, by go_num, .inr ⟨by rw [HEJ.out], rfl⟩, by trivial⟩
                  case measure => simp [intOf]; omega
                | false =>
                  have hk2 : ¬ key.toList = [] := fun e => by rw [e] at hk1; cases hk1
                  rw [hk1, Bool.false_or, Bool.and_eq_true] at hb2
                  obtain ⟨rfl, hv1⟩ := hb2
                  have hv2 : value.toList.isEmpty = false := by simpa using hv1
                  have hv3 : ¬ value.toList = [] := fun e => by rw [e] at hv2; cases hv2
                  clear hv1
                  go_wp2_with fail
                  go_roundw
                  case rel => exact ⟨j + 1, by go_num, .inr ⟨by rw [HEJ.out], rfl⟩, by trivial⟩
                  case measure => simp [intOf]; omega
              · rw [decide_eq_false e, Bool.or_eq_false_iff] at hb2
                obtain ⟨hk1, hv1⟩ := hb2
                have hk2 : ¬ key.toList = [] := fun e => by rw [e] at hk1; cases hk1
                cases del with
                | false =>
                  clear hv1
                  go_wp2_with fail
                  go_roundw
                  case rel => exact ⟨j + 1, by go_num, .inl ⟨by omega, rfl⟩, by trivial⟩
                  case measure => simp [intOf]; omega
                | true =>
                  have hv2 : value.toList.isEmpty = true := by simpa using hv1
                  have hv3 : value.toList = [] := by simpa using hv2
                  clear hv1
                  go_wp2_with fail
                  go_roundw
                  case rel => exact ⟨j + 1, by go_num, .inl ⟨by omega, rfl⟩, by trivial⟩
                  case measure => simp [intOf]; omega
            · have HW := Lib.hid (rfl : wr = wr)
              by_cases hjx : jb + 1 < m
              all_goals
                go_wp2_with (first
                  | (go_at_call 14; refine AP.out.mono ?_; rintro e w4 ⟨rfl, h4, -⟩; have H4 := Lib.hid ((h4.swap.mpMono (c' := 128 * (k + 1)) (by omega)).swap); clear h4))
                go_loopw [10] (fun i wr2 => i = .int .i64 0 ∧ wr2 = w4) (fun i _ => 0)
                case atStart => exact ⟨rfl, rfl⟩
                case round =>
                  obtain ⟨rfl, hwr⟩ := hrel
                  subst hwr
                  obtain ⟨z5, -⟩ := HC.out wr H4.out.bel
                  go_wp2_with fail
                  go_roundw
                  case rel => exact ⟨k + 1, by omega, by omega, by go_num, Lib.hid (by rw [HSC.out]; exact H4.out)⟩
                  case measure => simp [intOf]; omega
    · by_cases hkn : k < n
      · obtain rfl : k = 30 := by omega
        rw [show ((30 : Nat) : Int) = 30 from rfl]
        clear hlt hk30
        have hok := tabs_ok HZ.out 30
        have HE := Lib.hid (show Has w [tbA p (tabs bs 30), mpA B (128 * 30) (tabs bs 30)] wr from HH.out)
        have hlen := hok.len
        obtain ⟨hsor, hszs, _⟩ := hok
        have HSZ := Lib.hid hszs
        have HSO := Lib.hid hsor
        have hl1 : (tabs bs 30).length ≤ 3840 := by omega
        generalize tabs bs 30 = R at *
        clear HH HZ hlen hsor hszs HBAT HLN
        obtain ⟨N, hN⟩ : ∃ N, 128 * 30 = N := ⟨_, rfl⟩
        rw [hN] at HE
        clear hN
        have b1 : ((R.length : Int) != (R.length : Int)) = false := by simp
        go_wp2_with (first
          | (go_at_call 18; (with_reducible refine (Has.tbRowsM (p := p) (r := R) HE.out (by simp) HSZ.out (by omega)).mono ?_); rintro e w4 ⟨A4, c4, rfl, h4, hw4, hc4, hd4, -⟩; have H4 := Lib.hid h4; have W4 := Lib.hid hw4; have LM := (h4.perm (l' := [mpA B N R, rwA (.slice A4 R.length c4) R, tbA p R]) (List.perm_append_comm (l₁ := [_, _]) (l₂ := [_]))).mpLen rfl; clear h4 hw4)
          | (go_at_call 16; (with_reducible refine (Has.tbLenM (p := p) (r := R) H4.out (by simp)).mono ?_); rintro e w6 ⟨rfl, hw6⟩; obtain rfl : w4 = w6 := hw6.symm))
        have KO := Lib.hid (fun (i : Nat) (hi : i + 1 < R.length) => (show kl (R[i]'(by omega)).key (R[i + 1]'hi).key = true from List.pairwise_iff_getElem.1 HSO.out i (i + 1) (by omega) hi (by omega)))
        have KE := Lib.hid (fun (i : Nat) (hi : i < R.length) => (show (R[i]'hi).key.size ≤ 281474976710656 ∧ rhas R (R[i]'hi).key = true ∧ rval R (R[i]'hi).key = (R[i]'hi).value from by
          have h1 := (HSZ.out _ (List.getElem_mem hi)).2.1
          have h2 := rpos_self HSO.out hi
          have h3 : rhas R (R[i]'hi).key = true := (rhas_iff _ _).2 ⟨by rw [h2]; exact hi, by simp only [h2]⟩
          refine ⟨by omega, h3, ?_⟩
          unfold rval
          rw [h3, if_pos rfl, h2, List.getElem?_eq_getElem hi]
          rfl))
        clear LM b1
        go_loopw [12, 13] (fun iv _ wr => ∃ i : Nat, i ≤ R.length ∧ iv = .int .i64 i ∧ Hid (Has w [mpA B N R, rwA (.slice A4 R.length c4) R, tbA p R] wr)) (fun iv _ _ => R.length - (intOf iv).toNat)
        case atStart => exact ⟨0, Nat.zero_le _, rfl, Lib.hid (H4.out.perm (List.perm_append_comm (l₁ := [_, _]) (l₂ := [_])))⟩
        case round =>
          obtain ⟨i, hi, rfl, HH⟩ := hrel
          by_cases hlt : i < R.length
          · have HAT := Lib.hid (fun V (h : Has w [mpA B N R, rwA (.slice A4 R.length c4) R, tbA p R] V) => h.rwAt (A := A4) (c := c4) (L := R) (by simp) rfl)
            obtain ⟨bx, ox, rfl, hcx⟩ := (HAT.out _ HH.out).2 (by omega)
            have CEL := Lib.hid (fun V (h : Has w [mpA B N R, rwA (.slice (some ⟨bx, ox, none⟩) R.length c4) R, tbA p R] V) (j : Nat) (hj : j < R.length) => (show V.cell? ⟨bx, ox + j * 2, none⟩ = some (.string (R[j]'hj).key) ∧ V.cell? ⟨bx, ox + j * 2 + 1, none⟩ = some (.string (R[j]'hj).value) from by
              obtain ⟨bx', ox', e1, hc⟩ := (HAT.out V h).2 (by omega)
              injection e1 with e1
              injection e1 with e1 e2
              subst e1; subst e2
              exact hc j hj))
            obtain ⟨D, hO, hM, hT⟩ := HH.out.mp
            obtain ⟨ksz, kh, kv⟩ := KE.out i hlt
            have HKZ := Lib.hid ksz
            have HKH := Lib.hid kh
            have HKV := Lib.hid kv
            have GE := Lib.hid (fun W (h : Has w [mpA B N R, rwA (.slice (some ⟨bx, ox, none⟩) R.length c4) R, tbA p R] W) => h.tbGetB (p := p) (r := R) (by simp) (R[i]'hlt).key)
            rw [kh, kv] at GE
            clear hcx ksz kh kv
            have i1 : (0 : Int) ≤ (i : Int) := by omega
            have i2 : (i : Int) < (R.length : Int) := by omega
            have CEI := Lib.hid (fun V h => CEL.out V h i hlt)
            generalize hx : R[i]'hlt = x at *
            have HXK := Lib.hid hx
            obtain ⟨key, value⟩ := x
            simp only at HKZ HKH HKV GE CEI
            clear hx
            have HH9 := Lib.hid (HH.out.alloc (.cells #[.string ⟨#[]⟩, .string value] 39))
            have HB9 := Lib.hid (Blk.new wr 39 #[.string ⟨#[]⟩, .string value])
            have HO := Lib.hid hO
            have HM := Lib.hid hM
            clear hO hM hT
            have s2 : (value.toList == value.toList) = true := by simp
            obtain ⟨x0, x1⟩ := CEI.out _ HH.out
            obtain ⟨y0, y1⟩ := CEI.out _ HH9.out
            by_cases h0 : 0 < i
            · have hi0 : (0 : Int) < (i : Int) := by omega
              have hip : i - 1 + 1 < R.length := by omega
              have hpe : i - 1 + 1 = i := by omega
              have hq := KO.out (i - 1) hip
              simp only [hpe, HXK.out] at hq
              have CEP := Lib.hid (fun V h => CEL.out V h (i - 1) (by omega))
              generalize R[i - 1]'(by omega) = y at *
              have s1 : Op.bytesLess key.toList y.key.toList = false := kl_asym hq
              have s3 : (key.toList == y.key.toList) = false := by rw [kbeq]; exact decide_eq_false (fun e => kl_ne hq e.symm)
              clear hq hip hpe
              go_wp2_with (first
                | (at_lookup; refine wpList_look10 _ rfl _ _ rfl B N D R key value rfl HO.out HM.out rfl HKZ.out HKH.out HKV.out ?_)
                | (go_at_call 21; refine (GE.out _ HH9.out).mono ?_; rintro e w5 ⟨rfl, h5, hb5⟩; have H5 := Lib.hid h5; have zb := (HB9.out.below hb5 HB9.out.lt).cell 1; obtain ⟨v0, v1⟩ := CEI.out _ h5; obtain ⟨p0, p1⟩ := CEP.out _ h5; clear h5))
              go_quiet (fail)
              go_wp2_with fail
              go_roundw
              case rel => exact ⟨i + 1, by omega, by go_num, Lib.hid (H5.out.drewN _)⟩
              case measure => simp [intOf]; omega
            · have h01 : ¬ (0 : Int) < (i : Int) := by omega
              go_wp2_with (first
                | (at_lookup; refine wpList_look10 _ rfl _ _ rfl B N D R key value rfl HO.out HM.out rfl HKZ.out HKH.out HKV.out ?_)
                | (go_at_call 21; refine (GE.out _ HH9.out).mono ?_; rintro e w5 ⟨rfl, h5, hb5⟩; have H5 := Lib.hid h5; have zb := (HB9.out.below hb5 HB9.out.lt).cell 1; obtain ⟨v0, v1⟩ := CEI.out _ h5; clear h5))
              go_quiet (fail)
              go_wp2_with fail
              go_roundw
              case rel => exact ⟨i + 1, by omega, by go_num, Lib.hid (H5.out.drewN _)⟩
              case measure => simp [intOf]; omega
          · obtain rfl : i = R.length := by omega
            go_wp2_with fail
            go_ret
            exact ⟨rfl, HH.out.bel⟩

      · obtain rfl : k = n := by omega
        clear hlt hkn
        have hok := tabs_ok HZ.out k
        have HE := Lib.hid (show Has w [tbA p (tabs bs k), mpA B (128 * k) (tabs bs k)] wr from HH.out)
        have hlen := hok.len
        obtain ⟨hsor, hszs, _⟩ := hok
        have HSZ := Lib.hid hszs
        have HSO := Lib.hid hsor
        have hl1 : (tabs bs k).length ≤ 3840 := by omega
        generalize tabs bs k = R at *
        clear HH HZ hlen hsor hszs HBAT HLN
        obtain ⟨N, hN⟩ : ∃ N, 128 * k = N := ⟨_, rfl⟩
        rw [hN] at HE
        clear hN
        have b1 : ((R.length : Int) != (R.length : Int)) = false := by simp
        go_wp2_with (first
          | (go_at_call 18; (with_reducible refine (Has.tbRowsM (p := p) (r := R) HE.out (by simp) HSZ.out (by omega)).mono ?_); rintro e w4 ⟨A4, c4, rfl, h4, hw4, hc4, hd4, -⟩; have H4 := Lib.hid h4; have W4 := Lib.hid hw4; have LM := (h4.perm (l' := [mpA B N R, rwA (.slice A4 R.length c4) R, tbA p R]) (List.perm_append_comm (l₁ := [_, _]) (l₂ := [_]))).mpLen rfl; clear h4 hw4)
          | (go_at_call 16; (with_reducible refine (Has.tbLenM (p := p) (r := R) H4.out (by simp)).mono ?_); rintro e w6 ⟨rfl, hw6⟩; obtain rfl : w4 = w6 := hw6.symm))
        have KO := Lib.hid (fun (i : Nat) (hi : i + 1 < R.length) => (show kl (R[i]'(by omega)).key (R[i + 1]'hi).key = true from List.pairwise_iff_getElem.1 HSO.out i (i + 1) (by omega) hi (by omega)))
        have KE := Lib.hid (fun (i : Nat) (hi : i < R.length) => (show (R[i]'hi).key.size ≤ 281474976710656 ∧ rhas R (R[i]'hi).key = true ∧ rval R (R[i]'hi).key = (R[i]'hi).value from by
          have h1 := (HSZ.out _ (List.getElem_mem hi)).2.1
          have h2 := rpos_self HSO.out hi
          have h3 : rhas R (R[i]'hi).key = true := (rhas_iff _ _).2 ⟨by rw [h2]; exact hi, by simp only [h2]⟩
          refine ⟨by omega, h3, ?_⟩
          unfold rval
          rw [h3, if_pos rfl, h2, List.getElem?_eq_getElem hi]
          rfl))
        clear LM b1
        go_loopw [12, 13] (fun iv _ wr => ∃ i : Nat, i ≤ R.length ∧ iv = .int .i64 i ∧ Hid (Has w [mpA B N R, rwA (.slice A4 R.length c4) R, tbA p R] wr)) (fun iv _ _ => R.length - (intOf iv).toNat)
        case atStart => exact ⟨0, Nat.zero_le _, rfl, Lib.hid (H4.out.perm (List.perm_append_comm (l₁ := [_, _]) (l₂ := [_])))⟩
        case round =>
          obtain ⟨i, hi, rfl, HH⟩ := hrel
          by_cases hlt : i < R.length
          · have HAT := Lib.hid (fun V (h : Has w [mpA B N R, rwA (.slice A4 R.length c4) R, tbA p R] V) => h.rwAt (A := A4) (c := c4) (L := R) (by simp) rfl)
            obtain ⟨bx, ox, rfl, hcx⟩ := (HAT.out _ HH.out).2 (by omega)
            have CEL := Lib.hid (fun V (h : Has w [mpA B N R, rwA (.slice (some ⟨bx, ox, none⟩) R.length c4) R, tbA p R] V) (j : Nat) (hj : j < R.length) => (show V.cell? ⟨bx, ox + j * 2, none⟩ = some (.string (R[j]'hj).key) ∧ V.cell? ⟨bx, ox + j * 2 + 1, none⟩ = some (.string (R[j]'hj).value) from by
              obtain ⟨bx', ox', e1, hc⟩ := (HAT.out V h).2 (by omega)
              injection e1 with e1
              injection e1 with e1 e2
              subst e1; subst e2
              exact hc j hj))
            obtain ⟨D, hO, hM, hT⟩ := HH.out.mp
            obtain ⟨ksz, kh, kv⟩ := KE.out i hlt
            have HKZ := Lib.hid ksz
            have HKH := Lib.hid kh
            have HKV := Lib.hid kv
            have GE := Lib.hid (fun W (h : Has w [mpA B N R, rwA (.slice (some ⟨bx, ox, none⟩) R.length c4) R, tbA p R] W) => h.tbGetB (p := p) (r := R) (by simp) (R[i]'hlt).key)
            rw [kh, kv] at GE
            clear hcx ksz kh kv
            have i1 : (0 : Int) ≤ (i : Int) := by omega
            have i2 : (i : Int) < (R.length : Int) := by omega
            have CEI := Lib.hid (fun V h => CEL.out V h i hlt)
            generalize hx : R[i]'hlt = x at *
            have HXK := Lib.hid hx
            obtain ⟨key, value⟩ := x
            simp only at HKZ HKH HKV GE CEI
            clear hx
            have HH9 := Lib.hid (HH.out.alloc (.cells #[.string ⟨#[]⟩, .string value] 39))
            have HB9 := Lib.hid (Blk.new wr 39 #[.string ⟨#[]⟩, .string value])
            have HO := Lib.hid hO
            have HM := Lib.hid hM
            clear hO hM hT
            have s2 : (value.toList == value.toList) = true := by simp
            obtain ⟨x0, x1⟩ := CEI.out _ HH.out
            obtain ⟨y0, y1⟩ := CEI.out _ HH9.out
            by_cases h0 : 0 < i
            · have hi0 : (0 : Int) < (i : Int) := by omega
              have hip : i - 1 + 1 < R.length := by omega
              have hpe : i - 1 + 1 = i := by omega
              have hq := KO.out (i - 1) hip
              simp only [hpe, HXK.out] at hq
              have CEP := Lib.hid (fun V h => CEL.out V h (i - 1) (by omega))
              generalize R[i - 1]'(by omega) = y at *
              have s1 : Op.bytesLess key.toList y.key.toList = false := kl_asym hq
              have s3 : (key.toList == y.key.toList) = false := by rw [kbeq]; exact decide_eq_false (fun e => kl_ne hq e.symm)
              clear hq hip hpe
              go_wp2_with (first
                | (at_lookup; refine wpList_look10 _ rfl _ _ rfl B N D R key value rfl HO.out HM.out rfl HKZ.out HKH.out HKV.out ?_)
                | (go_at_call 21; refine (GE.out _ HH9.out).mono ?_; rintro e w5 ⟨rfl, h5, hb5⟩; have H5 := Lib.hid h5; have zb := (HB9.out.below hb5 HB9.out.lt).cell 1; obtain ⟨v0, v1⟩ := CEI.out _ h5; obtain ⟨p0, p1⟩ := CEP.out _ h5; clear h5))
              go_quiet (fail)
              go_wp2_with fail
              go_roundw
              case rel => exact ⟨i + 1, by omega, by go_num, Lib.hid (H5.out.drewN _)⟩
              case measure => simp [intOf]; omega
            · have h01 : ¬ (0 : Int) < (i : Int) := by omega
              go_wp2_with (first
                | (at_lookup; refine wpList_look10 _ rfl _ _ rfl B N D R key value rfl HO.out HM.out rfl HKZ.out HKH.out HKV.out ?_)
                | (go_at_call 21; refine (GE.out _ HH9.out).mono ?_; rintro e w5 ⟨rfl, h5, hb5⟩; have H5 := Lib.hid h5; have zb := (HB9.out.below hb5 HB9.out.lt).cell 1; obtain ⟨v0, v1⟩ := CEI.out _ h5; clear h5))
              go_quiet (fail)
              go_wp2_with fail
              go_roundw
              case rel => exact ⟨i + 1, by omega, by go_num, Lib.hid (H5.out.drewN _)⟩
              case measure => simp [intOf]; omega
          · obtain rfl : i = R.length := by omega
            go_wp2_with fail
            go_ret
            exact ⟨rfl, HH.out.bel⟩

end Go.Proofs.Ytgakkeeeadndkaa
