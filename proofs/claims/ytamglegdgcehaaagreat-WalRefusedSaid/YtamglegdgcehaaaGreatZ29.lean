/-
  Layer 8: WalRefused, walked.
-/
import Derived.Test.YtamglegdgcehaaaGreatZ27
import Derived.Test.YtamglegdgcehaaaGreatZ28
import Derived.Deep.CutBlock
import Derived.BigQuiet
import Derived.Deep.QuietTactic
set_option linter.unusedVariables false
namespace Go.Proofs.YtamglegdgcehaaaGreat
open Go.RowKit

theorem okOp_eq (k v : ByteArray) (d : Bool) : okOp ⟨k, v, d⟩ = (!k.toList.isEmpty && decide (k.size ≤ 4096) && decide (v.size ≤ 4096) && (!d || v.toList.isEmpty)) := by
  unfold okOp tooLong badOp
  rw [empty_size, empty_size]
  have e1 : decide (4096 < k.size) = !decide (k.size ≤ 4096) := by by_cases h : k.size ≤ 4096 <;> simp [h] <;> omega
  have e2 : decide (4096 < v.size) = !decide (v.size ≤ 4096) := by by_cases h : v.size ≤ 4096 <;> simp [h] <;> omega
  simp only [e1, e2]
  cases k.toList.isEmpty <;> cases decide (k.size ≤ 4096) <;> cases decide (v.size ≤ 4096) <;> cases d <;> cases v.toList.isEmpty <;> rfl
theorem ref_last {l : List Op_} {D1 : Dk} {s1 : Js} {m : Nat} {E : Int} {u1 : T3} {p1 : Pl} (h : RefAdd l D1 s1 m E u1 p1) : s1.last = m := by
  rw [h.st]
  show p1.n + p1.bats.length = m
  rw [h.n, h.len, Nat.zero_add]
theorem ref_max {l : List Op_} {D1 : Dk} {s1 : Js} {m : Nat} {E : Int} {u1 : T3} {p1 : Pl} (h : RefAdd l D1 s1 m E u1 p1) : ∀ x, s1.x = some x → x.turn < 9007199254740991 ∧ x.last ≤ 9007199254740991 := fun x e => by
  rw [h.st] at e
  injection e with e
  rw [← e]
  have := h.m1
  have e1 : (p1.lg 0).turn = p1.t := rfl
  have e2 : (p1.lg 0).last = p1.n + p1.bats.length := rfl
  rw [e1, e2, h.t, h.n, h.len]
  omega
theorem rows_long {rows : List Rw} (h : 10000 < rows.length) : rowsE rows ≠ 0 := by unfold rowsE; rw [if_pos (.inl h)]; omega
theorem rows_big {rows : List Rw} {k : Nat} (h : k < rows.length) (ht : tooLong (rows[k]'h).key (rows[k]'h).value = true) : rowsE rows ≠ 0 := by
  unfold rowsE
  rw [if_pos (.inr (any_of_get (fun r => tooLong r.key r.value) rows k h ht))]
  omega
theorem rows_fall {rows : List Rw} (h : rise ⟨#[]⟩ rows = false) : rowsE rows ≠ 0 := by
  unfold rowsE
  split
  · omega
  · omega
theorem rows_yes {rows : List Rw} (h1 : rows.length ≤ 10000) (h2 : rows.any (fun r => tooLong r.key r.value) = false) (h3 : rise ⟨#[]⟩ rows = true) : rowsE rows = 0 := by
  unfold rowsE
  rw [if_neg (by rintro (e | e); omega; rw [h2] at e; cases e), if_neg (by rw [h3]; simp)]
theorem nl_empty (a k : ByteArray) (h : k.toList = []) : nl a k = false := by
  unfold nl
  rw [h]
  cases a.toList <;> rfl
theorem nl_first (k : ByteArray) (h : ¬ k.toList = []) : nl ⟨#[]⟩ k = true := by
  unfold nl
  rw [show (⟨#[]⟩ : ByteArray).toList = [] from by rw [Lib.toList_data]]
  cases hk : k.toList with
  | nil => exact absurd hk h
  | cons a l => rfl
set_option maxRecDepth 100000 in
set_option maxHeartbeats 16000000 in
theorem walRefused_w {R : DRep} (hD : DiskOk R) (A0 : Option Addr) (n0 c0 : Nat) (A1 : Option Addr) (n1 c1 : Nat) (w : World) (l : List Op_) (rows : List Rw) (hl : OAt w A0 n0 l) (hr : WAt w A1 n1 rows) (hn0 : n0 ≤ 9223372036854775807) (hn1 : n1 ≤ 9223372036854775807) :
    Calls Tryz.prog 8 #[.slice A0 n0 c0, .slice A1 n1 c1] w fun e w' => e = .returned (.bool true) ∧ Below w.heap.size w w' := by
  have HD := Lib.hid hD
  have HL := Lib.hid hl
  have HR := Lib.hid hr
  have LL := Lib.hid hl.1
  have LR := Lib.hid hr.1
  clear hl hr
  obtain ⟨u0, hop, hg0⟩ := open_new
  have HO := Lib.hid hop
  obtain ⟨s1, m, E, u1, p1, hra⟩ := ref_add hg0 l
  have HA := Lib.hid hra
  have hE := hra.e64
  have hm1 := hra.m1
  clear hop hra hg0
  have MAYN := Lib.hid (fun (h : ¬ (1 ≤ n0 ∧ n0 ≤ 128)) => (show mayB l = false from by unfold mayB; rw [decide_eq_false (by rw [LL.out]; exact h), Bool.false_and]))
  go_enter Tryz.func8, Tryz.ntmps8
  go_upto_region 7 with (first
    | (go_at_call 14; refine (works_w HD.out w).mono ?_; rintro e1 w1 ⟨rfl, hb1⟩; have HB1 := Lib.hid hb1; clear hb1)
    | (go_at_call 10; refine (DW.new HD.out HB1.out).mono ?_; rintro e2 w2 ⟨g, rfl, h2⟩)
    | (go_at_call 19; refine (h2.openN HD.out HO.out).mono ?_; rintro e3 w3 ⟨q, B1, d1, B2, d2, rfl, h3⟩; have h4 := (h3.imp (P' := fun _ => True) (fun _ _ => trivial)).keep HD.out (nba w3 (.cells #[.slice B1 0 d1, .slice B2 0 d2] 49)); have H4 := Lib.hid h4; clear h2 h3 h4 HB1))
  generalize w3.alloc (.cells #[.slice B1 0 d1, .slice B2 0 d2] 49) = X at *
  go_cut [9] from 31 to 38 (fun v wx => v = .bool (decide (1 ≤ n0 ∧ n0 ≤ 128)) ∧ wx = X)
  case first =>
    by_cases h1 : 1 ≤ n0
    · by_cases h2 : n0 ≤ 128
      · go_wp2_with fail
        all_goals go_meet
        case rel => exact ⟨by simp [h1, h2]; omega, rfl⟩
      · go_wp2_with fail
        all_goals go_meet
        case rel => exact ⟨by simp [h1, h2]; omega, rfl⟩
    · go_wp2_with fail
      all_goals go_meet
      case rel => exact ⟨by simp [h1], rfl⟩
  case rest =>
    obtain ⟨rfl, rfl⟩ := hcut
    obtain ⟨b0, hb0⟩ : ∃ b0, decide (1 ≤ n0 ∧ n0 ≤ 128) = b0 := ⟨_, rfl⟩
    rw [hb0]
    have HB0 := Lib.hid hb0
    have HW := Lib.hid H4.out.bel
    clear hb0
    go_upto_block 0 with fail
    go_cut [9, 10, 11] from 39 to 103 (fun f a _ wx => ∃ (b : Bool) (t : Int), f = .bool b ∧ a = .int .i64 t ∧ Hid (mayB l = b) ∧ Hid (b = true → t = (sumOps l : Int)) ∧ Hid (Below wc.heap.size wc wx))
    case first =>
      go_wp2_with fail
      go_loopw [9, 10, 11] (fun f a i wr => ∃ (k : Nat) (t : Int) (b : Bool), k ≤ n0 ∧ i = .int .i64 k ∧ f = .bool b ∧ a = .int .i64 t ∧ Hid (b = true → (l.take k).all okOp = true ∧ t = (sumOps (l.take k) : Int) ∧ 1 ≤ n0 ∧ n0 ≤ 128 ∧ t ≤ k * 8200) ∧ Hid (b = false → mayB l = false) ∧ Hid (Below wc.heap.size wc wr)) (fun _ _ i _ => n0 - (intOf i).toNat)
      case atStart => exact ⟨0, 0, b0, Nat.zero_le _, rfl, rfl, rfl, Lib.hid (fun e => by rw [e] at HB0; have := of_decide_eq_true HB0.out; exact ⟨rfl, rfl, this.1, this.2, by omega⟩), Lib.hid (fun e => by rw [e] at HB0; exact MAYN.out (of_decide_eq_false HB0.out)), Lib.hid (Below.refl _ _)⟩
      case round =>
        obtain ⟨k, t, b, hk, rfl, rfl, rfl, HT, HN, HB⟩ := hrel
        by_cases hlt : k < n0
        · cases b with
          | false =>
            have HNO := Lib.hid (HN.out rfl)
            clear HN HT
            go_wp2_with fail
            all_goals go_meet
            case rel => exact ⟨false, t, rfl, rfl, HNO, Lib.hid (fun e => by cases e), HB⟩
          | true =>
            obtain ⟨hall, ht, h1, h2, h3⟩ := HT.out rfl
            have ht0 : 0 ≤ t := by omega
            have ht1 : t ≤ 1049600 := by omega
            have e1 : k < l.length := by rw [LL.out]; exact hlt
            have hsum := sumOps_take e1
            have hs := all_take_succ e1 hall
            have hbad := may_bad e1
            obtain ⟨bb, o, rfl, hc⟩ := (HL.out.below (jstep HW.out HB.out)).2 (by omega)
            obtain ⟨y0, y1, y2⟩ := hc k e1
            obtain ⟨⟨key, value, del⟩, hg⟩ : ∃ x, l[k]'e1 = x := ⟨_, rfl⟩
            rw [hg] at y0 y1 y2 hs hbad hsum
            rw [okOp_eq] at hs hbad
            have HS0 := Lib.hid hs
            have HBD := Lib.hid hbad
            have HSM := Lib.hid hsum
            have HTT := Lib.hid ht
            clear hs hbad hsum hall hc HT HN ht hg
            cases hk0 : key.toList.isEmpty with
            | true =>
              have hk' : key.toList = [] := by simpa using hk0
              have HBAD := Lib.hid (HBD.out (by rw [hk0]; rfl))
              clear HS0 HBD HSM HTT
              go_wp2_with fail
              go_region
              all_goals
                go_wp2_with fail
                go_roundw
                case rel => exact ⟨k + 1, _, false, by omega, by go_num, rfl, rfl, Lib.hid (fun e => by cases e), Lib.hid (fun _ => HBAD.out), Lib.hid (bdr' HB.out)⟩
                case measure => simp [intOf]; omega
            | false =>
              have hk' : ¬ key.toList = [] := by simpa using hk0
              by_cases hks : key.size ≤ 4096
              · by_cases hvs : value.size ≤ 4096
                · cases del with
                  | false =>
                    have HS := Lib.hid (show (l.take (k + 1)).all okOp = true from HS0.out.trans (by rw [hk0, decide_eq_true hks, decide_eq_true hvs]; rfl))
                    clear HS0 HBD
                    go_wp2_with fail
                    go_region
                    all_goals
                      go_wp2_with fail
                      go_roundw
                      case rel => exact ⟨k + 1, _, true, by omega, by go_num, rfl, rfl, Lib.hid (fun _ => ⟨HS.out, by have a := HSM.out; have c := HTT.out; omega, by omega, by omega, by omega⟩), Lib.hid (fun e => by cases e), Lib.hid (bdr' HB.out)⟩
                      case measure => simp [intOf]; omega
                  | true =>
                    cases hv0 : value.toList.isEmpty with
                    | true =>
                      have hv' : value.toList = [] := by simpa using hv0
                      have HS := Lib.hid (show (l.take (k + 1)).all okOp = true from HS0.out.trans (by rw [hk0, decide_eq_true hks, decide_eq_true hvs, hv0]; rfl))
                      clear HS0 HBD
                      go_wp2_with fail
                      go_region
                      all_goals
                        go_wp2_with fail
                        go_roundw
                        case rel => exact ⟨k + 1, _, true, by omega, by go_num, rfl, rfl, Lib.hid (fun _ => ⟨HS.out, by have a := HSM.out; have c := HTT.out; omega, by omega, by omega, by omega⟩), Lib.hid (fun e => by cases e), Lib.hid (bdr' HB.out)⟩
                        case measure => simp [intOf]; omega
                    | false =>
                      have hv' : ¬ value.toList = [] := by simpa using hv0
                      have HBAD := Lib.hid (HBD.out (by rw [hk0, decide_eq_true hks, decide_eq_true hvs, hv0]; rfl))
                      clear HS0 HBD HSM HTT
                      go_wp2_with fail
                      go_region
                      all_goals
                        go_wp2_with fail
                        go_roundw
                        case rel => exact ⟨k + 1, _, false, by omega, by go_num, rfl, rfl, Lib.hid (fun e => by cases e), Lib.hid (fun _ => HBAD.out), Lib.hid (bdr' HB.out)⟩
                        case measure => simp [intOf]; omega
                · skip
                  have HBAD := Lib.hid (HBD.out (by rw [hk0, decide_eq_true hks, decide_eq_false hvs]; rfl))
                  clear HS0 HBD HSM HTT
                  go_wp2_with fail
                  go_region
                  all_goals
                    go_wp2_with fail
                    go_roundw
                    case rel => exact ⟨k + 1, _, false, by omega, by go_num, rfl, rfl, Lib.hid (fun e => by cases e), Lib.hid (fun _ => HBAD.out), Lib.hid (bdr' HB.out)⟩
                    case measure => simp [intOf]; omega
              · skip
                have HBAD := Lib.hid (HBD.out (by rw [hk0, decide_eq_false hks]; rfl))
                clear HS0 HBD HSM HTT
                go_wp2_with fail
                go_region
                all_goals
                  go_wp2_with fail
                  go_roundw
                  case rel => exact ⟨k + 1, _, false, by omega, by go_num, rfl, rfl, Lib.hid (fun e => by cases e), Lib.hid (fun _ => HBAD.out), Lib.hid (bdr' HB.out)⟩
                  case measure => simp [intOf]; omega
        · obtain rfl : k = n0 := by omega
          cases b with
          | false =>
            have HNO := Lib.hid (HN.out rfl)
            clear HN HT
            go_wp2_with fail
            all_goals go_meet
            case rel => exact ⟨false, t, rfl, rfl, HNO, Lib.hid (fun e => by cases e), HB⟩
          | true =>
            obtain ⟨hall, ht, h1, h2, h3⟩ := HT.out rfl
            rw [List.take_of_length_le (by rw [LL.out]; omega)] at hall ht
            have HM := Lib.hid (show mayB l = true from by unfold mayB; rw [hall, decide_eq_true (by rw [LL.out]; exact ⟨h1, h2⟩)]; rfl)
            have HTT := Lib.hid ht
            clear hall ht HT HN
            go_wp2_with fail
            all_goals go_meet
            case rel => exact ⟨true, t, rfl, rfl, HM, Lib.hid (fun _ => HTT.out), HB⟩
    case rest =>
      obtain ⟨b, t, rfl, rfl, HM, HT, HBx⟩ := hcut
      have H5 := Lib.hid (H4.out.keep HD.out HBx.out)
      clear H4 HBx HW HB0
      go_upto_region 15 with (first
        | (go_at_call 21; refine (H5.out.addN HD.out c0 (HL.out.below H5.out.bel) hn0 (maxL (by decide)) HA.out.eq).mono ?_; rintro e5 w5 ⟨rfl, h6⟩; have H6 := Lib.hid h6; clear h6))
      have HLA := Lib.hid (H6.out.lastN (ref_last HA.out))
      go_cut [12, 13, 139] from 104 to 139 (fun x y v wx => x = .int .i64 (m : Int) ∧ y = .int .i64 E ∧ v = .bool false ∧ wx = w5)
      case first =>
        cases b with
        | false =>
          obtain ⟨hE0, hm0⟩ := HA.out.no HM.out
          have HMM := Lib.hid hm0
          rw [hm0] at HLA ⊢
          rcases hE with h | h | h
          · exact absurd h hE0
          · have HEE := Lib.hid h
            rw [h]
            clear HM HT HA H6 hE0 hm0 h
            go_wp2_with (first
              | (go_at_call 30; refine HLA.out.mono ?_; rintro e6 w6 ⟨rfl, rfl⟩))
            all_goals go_meet
            case rel => exact ⟨by first | rfl | (rw [HMM.out]; rfl) | rw [HMM.out], by first | rfl | (rw [HEE.out]; rfl) | rw [HEE.out], rfl, rfl⟩
          · have HEE := Lib.hid h
            rw [h]
            clear HM HT HA H6 hE0 hm0 h
            go_wp2_with (first
              | (go_at_call 30; refine HLA.out.mono ?_; rintro e6 w6 ⟨rfl, rfl⟩))
            all_goals go_meet
            case rel => exact ⟨by first | rfl | (rw [HMM.out]; rfl) | rw [HMM.out], by first | rfl | (rw [HEE.out]; rfl) | rw [HEE.out], rfl, rfl⟩
        | true =>
          rcases HA.out.yes HM.out with ⟨h, hm0⟩ | ⟨h, h60⟩
          · have HEE := Lib.hid h
            have HMM := Lib.hid hm0
            rw [h, hm0]
            clear HM HT HA H6 HLA h hm0 hE
            by_cases h60 : t < 60000
            · go_wp2_with fail
              all_goals go_meet
              case rel => exact ⟨by first | rfl | (rw [HMM.out]; rfl) | rw [HMM.out], by first | rfl | (rw [HEE.out]; rfl) | rw [HEE.out], rfl, rfl⟩
            · go_wp2_with fail
              all_goals go_meet
              case rel => exact ⟨by first | rfl | (rw [HMM.out]; rfl) | rw [HMM.out], by first | rfl | (rw [HEE.out]; rfl) | rw [HEE.out], rfl, rfl⟩
          · have ht := HT.out rfl
            have h60' : ¬ t < 60000 := by omega
            have HEE := Lib.hid h
            rw [h]
            clear HM HT HA H6 HLA h hE ht h60
            go_wp2_with fail
            all_goals go_meet
            case rel => exact ⟨by first | rfl | (rw [HMM.out]; rfl) | rw [HMM.out], by first | rfl | (rw [HEE.out]; rfl) | rw [HEE.out], rfl, rfl⟩
      case rest =>
        obtain ⟨rfl, rfl, rfl, rfl⟩ := hcut
        clear HM HT HLA H5 HL
        obtain ⟨b0, hb0⟩ : ∃ b0, decide (n1 ≤ 10000) = b0 := ⟨_, rfl⟩
        have hb1 : decide ((n1 : Int) ≤ 10000) = b0 := by rw [← hb0]; exact decide_eq_decide.2 (by omega)
        have HB0 := Lib.hid hb0
        have HW := Lib.hid H6.out.bel
        clear hb0
        go_upto_block 2 with fail
        go_cut [14, 15] from 143 to 193 (fun f _ wx => ∃ (b : Bool), f = .bool b ∧ Hid (b = true → rowsE rows = 0) ∧ Hid (b = false → rowsE rows ≠ 0) ∧ Hid (Below wc.heap.size wc wx))
        case first =>
          go_wp2_with fail
          go_loopw [14, 15] (fun f i wr => ∃ (k : Nat) (b : Bool) (a : ByteArray), k ≤ n1 ∧ i = .int .i64 k ∧ f = .bool b ∧ Hid (b = true → n1 ≤ 10000 ∧ (rows.take k).any (fun r => tooLong r.key r.value) = false ∧ rise ⟨#[]⟩ rows = rise a (rows.drop k) ∧ (k = 0 → a = ⟨#[]⟩) ∧ (∀ j (h : j < rows.length), j + 1 = k → (rows[j]'h).key = a)) ∧ Hid (b = false → rowsE rows ≠ 0) ∧ Hid (Below wc.heap.size wc wr)) (fun _ i _ => n1 - (intOf i).toNat)
          case atStart => exact ⟨0, b0, ⟨#[]⟩, Nat.zero_le _, rfl, by first | rfl | (rw [hb1]), Lib.hid (fun e => by rw [e] at HB0; exact ⟨of_decide_eq_true HB0.out, rfl, rfl, fun _ => rfl, fun j h e => by omega⟩), Lib.hid (fun e => by rw [e] at HB0; exact rows_long (by have := of_decide_eq_false HB0.out; rw [LR.out]; omega)), Lib.hid (Below.refl _ _)⟩
          case round =>
            obtain ⟨k, b, a, hk, rfl, rfl, HT, HN, HB⟩ := hrel
            clear hb1
            by_cases hlt : k < n1
            · cases b with
              | false =>
                have HNO := Lib.hid (HN.out rfl)
                clear HN HT
                go_wp2_with fail
                all_goals go_meet
                case rel => exact ⟨false, rfl, Lib.hid (fun e => by cases e), Lib.hid (fun _ => HNO.out), HB⟩
              | true =>
                obtain ⟨h10, hany, hrise, hz, hp⟩ := HT.out rfl
                have e1 : k < rows.length := by rw [LR.out]; exact hlt
                have hs := any_take_succ (fun r => tooLong r.key r.value) rows k e1 hany
                have hbig := rows_big e1
                have hdr : rows.drop k = (rows[k]'e1) :: rows.drop (k + 1) := List.drop_eq_getElem_cons e1
                rw [hdr] at hrise
                obtain ⟨bb, o, rfl, hc⟩ := (HR.out.below (jstep HW.out HB.out)).2 (by omega)
                obtain ⟨y0, y1⟩ := hc k e1
                have hlti : (k : Int) < (n1 : Int) := by omega
                have hprev : ∀ j, j + 1 = k → wr.cell? ⟨bb, o + j * 2, none⟩ = some (.string a) := fun j e => by
                  have h1 := (hc j (by omega)).1
                  rw [hp j (by omega) e] at h1
                  exact h1
                obtain ⟨⟨key, value⟩, hg⟩ : ∃ x, rows[k]'e1 = x := ⟨_, rfl⟩
                have HG := Lib.hid (show (rows[k]'e1).key = key from by rw [hg])
                rw [hg] at y0 y1 hs hbig hrise
                have hrise' : rise ⟨#[]⟩ rows = (nl a key && rise key (rows.drop (k + 1))) := hrise
                have HRI := Lib.hid hrise'
                have HSS := Lib.hid (show (rows.take (k + 1)).any (fun r => tooLong r.key r.value) = tooLong key value from hs)
                have HBIG := Lib.hid (show tooLong key value = true → rowsE rows ≠ 0 from hbig)
                have HPR := Lib.hid hprev
                have HZ := Lib.hid hz
                clear hs hbig hdr hrise hrise' hany hc HT HN hg hp hprev hz
                cases hk0 : key.toList.isEmpty with
                | true =>
                  have hk' : key.toList = [] := by simpa using hk0
                  have HBAD := Lib.hid (rows_fall (HRI.out.trans (by rw [nl_empty a key hk', Bool.false_and])))
                  clear HRI HSS HBIG HPR HZ
                  go_wp2_with fail
                  go_quiet (fail)
                  go_wp2_with fail
                  go_roundw
                  case rel => exact ⟨k + 1, false, key, by omega, by go_num, rfl, Lib.hid (fun e => by cases e), Lib.hid (fun _ => HBAD.out), Lib.hid (below_drewN HB.out _)⟩
                  case measure => simp [intOf]; omega
                | false =>
                  have hk' : ¬ key.toList = [] := by simpa using hk0
                  by_cases hks : key.size ≤ 4096
                  · have hksi : (key.size : Int) ≤ 4096 := by omega
                    by_cases hvs : value.size ≤ 4096
                    · have hvsi : (value.size : Int) ≤ 4096 := by omega
                      have HS := Lib.hid (HSS.out.trans (show tooLong key value = false from by unfold tooLong; rw [decide_eq_false (by omega), decide_eq_false (by omega)]; rfl))
                      clear HSS HBIG
                      by_cases hk1 : k = 0
                      · subst hk1
                        have ha := HZ.out rfl
                        have z0 : wr.cell? ⟨bb, o, none⟩ = some (.string key) := by simpa using y0
                        have z1 : wr.cell? ⟨bb, o + 1, none⟩ = some (.string value) := by simpa using y1
                        subst ha
                        have HRS := Lib.hid (HRI.out.trans (by rw [nl_first key hk', Bool.true_and]))
                        clear HRI HPR HZ
                        go_wp2_with fail
                        go_quiet (fail)
                        go_wp2_with fail
                        go_roundw
                        case rel => exact ⟨0 + 1, true, key, by omega, by go_num, rfl, Lib.hid (fun _ => ⟨h10, HS.out, HRS.out, fun e => by omega, fun j hj e => (by obtain rfl : j = 0 := (by omega); exact HG.out)⟩), Lib.hid (fun e => by cases e), Lib.hid (below_drewN HB.out _)⟩
                        case measure => simp [intOf]; omega
                      · obtain ⟨j, rfl⟩ : ∃ j, k = j + 1 := ⟨k - 1, by omega⟩
                        have hp := HPR.out j rfl
                        have hji : ((j : Int) + 1 == 0) = false := by simp; omega
                        have hjd : decide ((j : Int) + 1 = 0) = false := by simp; omega
                        have hjn : (j : Int) < (n1 : Int) := by omega
                        have hjm : (j : Int) + 1 < (n1 : Int) := by omega
                        cases hnl : Op.bytesLess a.toList key.toList with
                        | true =>
                          have n1k : Op.bytesLess key.toList a.toList = false := nl_asym hnl
                          have n2k : (key.toList == a.toList) = false := by rw [beq_nm]; exact decide_eq_false (fun e => nl_ne hnl e.symm)
                          have HRS := Lib.hid (HRI.out.trans (by unfold nl; rw [hnl, Bool.true_and]))
                          clear HRI HPR HZ
                          go_wp2_with fail
                          go_quiet (fail)
                          go_wp2_with fail
                          go_roundw
                          case rel => exact ⟨j + 1 + 1, true, key, by omega, by go_num, rfl, Lib.hid (fun _ => ⟨h10, HS.out, HRS.out, fun e => by omega, fun i hi e => (by obtain rfl : i = j + 1 := (by omega); exact HG.out)⟩), Lib.hid (fun e => by cases e), Lib.hid (below_drewN HB.out _)⟩
                          case measure => simp [intOf]; omega
                        | false =>
                          have HFL : (!Op.bytesLess key.toList a.toList && !key.toList == a.toList) = false := (by cases k1 : Op.bytesLess key.toList a.toList with | true => rfl | false => rw [show (key.toList == a.toList) = true from by rw [beq_nm]; exact decide_eq_true (nl_total k1 hnl)]; rfl)
                          have HFLH := Lib.hid HFL
                          clear HFL
                          have HBAD := Lib.hid (rows_fall (HRI.out.trans (by unfold nl; rw [hnl, Bool.false_and])))
                          clear HRI HPR HZ
                          go_wp2_with fail
                          go_quiet (fail)
                          go_wp2_with fail
                          go_roundw
                          case rel => exact ⟨j + 1 + 1, false, key, by omega, by go_num, by first | rfl | rw [HFLH.out] | (simp only [Value.bool.injEq]; exact HFLH.out), Lib.hid (fun e => by cases e), Lib.hid (fun _ => HBAD.out), Lib.hid (below_drewN HB.out _)⟩
                          case measure => simp [intOf]; omega
                    · skip
                      have hvd : decide ((value.size : Int) ≤ 4096) = false := decide_eq_false (by omega)
                      have HBAD := Lib.hid (HBIG.out (by unfold tooLong; rw [decide_eq_true (show 4096 < value.size by omega), Bool.or_true]))
                      clear HRI HSS HBIG HPR HZ
                      go_wp2_with fail
                      go_quiet (fail)
                      go_wp2_with fail
                      go_roundw
                      case rel => exact ⟨k + 1, false, key, by omega, by go_num, rfl, Lib.hid (fun e => by cases e), Lib.hid (fun _ => HBAD.out), Lib.hid (below_drewN HB.out _)⟩
                      case measure => simp [intOf]; omega
                  · skip
                    have hkd : decide ((key.size : Int) ≤ 4096) = false := decide_eq_false (by omega)
                    have HBAD := Lib.hid (HBIG.out (by unfold tooLong; rw [decide_eq_true (show 4096 < key.size by omega), Bool.true_or]))
                    clear HRI HSS HBIG HPR HZ
                    go_wp2_with fail
                    go_quiet (fail)
                    go_wp2_with fail
                    go_roundw
                    case rel => exact ⟨k + 1, false, key, by omega, by go_num, rfl, Lib.hid (fun e => by cases e), Lib.hid (fun _ => HBAD.out), Lib.hid (below_drewN HB.out _)⟩
                    case measure => simp [intOf]; omega
            · obtain rfl : k = n1 := by omega
              cases b with
              | false =>
                have HNO := Lib.hid (HN.out rfl)
                clear HN HT
                go_wp2_with fail
                all_goals go_meet
                case rel => exact ⟨false, rfl, Lib.hid (fun e => by cases e), Lib.hid (fun _ => HNO.out), HB⟩
              | true =>
                obtain ⟨h10, hany, hrise, _, _⟩ := HT.out rfl
                rw [List.take_of_length_le (by rw [LR.out]; omega)] at hany
                rw [List.drop_of_length_le (by rw [LR.out]; omega)] at hrise
                have HY := Lib.hid (rows_yes (by rw [LR.out]; exact h10) hany hrise)
                clear hany hrise HT HN
                go_wp2_with fail
                all_goals go_meet
                case rel => exact ⟨true, rfl, Lib.hid (fun _ => HY.out), Lib.hid (fun e => by cases e), HB⟩
        case rest =>
          obtain ⟨b, rfl, HY, HN, HBy⟩ := hcut
          have H7 := Lib.hid (H6.out.keep HD.out HBy.out)
          have HRR := Lib.hid (HR.out.below H7.out.bel)
          have HMX := Lib.hid (ref_max HA.out)
          clear H6 HBy HW HB0 hb1
          cases b with
          | true =>
            obtain ⟨s2, e2, hc, he⟩ := ref_ckp_yes HA.out (HY.out rfl)
            have HC := Lib.hid (H7.out.ckpN HD.out c1 HRR.out hn1 HMX.out hc)
            clear HY HN HA H7 hc
            rcases he with rfl | rfl
            · go_wp2_with (first
                | (go_at_call 23; refine HC.out.mono ?_; rintro e8 w8 ⟨rfl, h8⟩))
              go_ret
              exact ⟨rfl, h8.bel⟩
            · go_wp2_with (first
                | (go_at_call 23; refine HC.out.mono ?_; rintro e8 w8 ⟨rfl, h8⟩))
              go_ret
              exact ⟨rfl, h8.bel⟩
          | false =>
            obtain ⟨hc, h25, D, x, bats, hop, hlen⟩ := ref_ckp_no HA.out (HN.out rfl)
            have HOP := Lib.hid hop
            have HLEN := Lib.hid hlen
            have HC := Lib.hid (H7.out.ckpN HD.out c1 HRR.out hn1 HMX.out hc)
            clear HY HN HA H7 hc hop hlen
            rcases h25 with h | h
            · rw [h] at HC
              clear h
              go_wp2_with (first
                | (go_at_call 23; refine HC.out.mono ?_; rintro e8 w8 ⟨rfl, h8⟩)
                | (go_at_call 19; refine (h8.dw.openN HD.out HOP.out).mono ?_; rintro e9 w9 ⟨q9, C1, f1, C2, f2, rfl, h9⟩; rw [HLEN.out]))
              go_ret
              exact ⟨by simp, jstep h9.bel (nba _ _)⟩
            · rw [h] at HC
              clear h
              go_wp2_with (first
                | (go_at_call 23; refine HC.out.mono ?_; rintro e8 w8 ⟨rfl, h8⟩)
                | (go_at_call 19; refine (h8.dw.openN HD.out HOP.out).mono ?_; rintro e9 w9 ⟨q9, C1, f1, C2, f2, rfl, h9⟩; rw [HLEN.out]))
              go_ret
              exact ⟨by simp, jstep h9.bel (nba _ _)⟩
end Go.Proofs.YtamglegdgcehaaaGreat
