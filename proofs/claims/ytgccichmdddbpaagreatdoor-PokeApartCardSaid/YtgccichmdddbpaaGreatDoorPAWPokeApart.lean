/-
  PokeApart, walked (written by wip/genpoapart.py).
-/
import Derived.Test.YtgccichmdddbpaaGreatDoorPAPoPt
import Derived.Test.YtgccichmdddbpaaGreatDoorPAPoAwk
import Derived.Test.YtgccichmdddbpaaGreatDoorPA39
import Derived.Test.YtgccichmdddbpaaGreatDoorPA40
import Derived.Test.YtgccichmdddbpaaGreatDoorPA33
import Derived.Test.YtgccichmdddbpaaGreatDoorPA16
import Derived.Deep.MidRow
set_option linter.unusedVariables false
set_option linter.unusedSimpArgs false
set_option maxRecDepth 100000
namespace Go.Proofs.YtgccichmdddbpaaGreatDoor
open Go.RowKit
open List (setIfInBounds_toArray set_cons_zero set_cons_succ)

theorem run_eqSt3 (a b : Int) (V : World) : (binOp .eql 26 (.agg #[.int .i64 a, .int .i64 b]) (.agg #[.int .i64 a, .int .i64 b])).run Tryz.prog V = .ok (.bool true) V := by
  go_simp
theorem Has.tbGetJ {w V : World} {l : List As} {p : Nat} {r : List Rw} (h : Has w l V) (hm : tbA p r ∈ l) (key : ByteArray) : Calls Tryz.prog 25 #[pt p, .string key] V fun e w' => e = .returned (.tuple #[.string (rval r key), .bool (rhas r key)]) ∧ Has w l w' ∧ Below V.heap.size V w' := by
  obtain ⟨F, hA, _⟩ := h.at_ hm
  refine (tb_get hA key).mono ?_
  rintro e w' ⟨rfl, hb⟩
  exact ⟨rfl, h.keep hb, hb⟩
theorem cnt_succ (r R : List Rw) (j : Nat) (h : j < R.length) : (R.take (j + 1)).countP (chgd r) = (R.take j).countP (chgd r) + if chgd r (R[j]'h) = true then 1 else 0 := by
  rw [List.take_succ_eq_append_getElem h, List.countP_append, List.countP_cons, List.countP_nil]
  omega
set_option maxHeartbeats 3000000 in
theorem pokeApart_walk (A : Option Addr) (n c : Nat) (l : List Th) (key : ByteArray) (q : Int) (s : ByteArray) (d : Bool) (y : Tx) (m1 m2 : Int) (z : Tx) (w : World) (hx : ThAt w A n l) (hz : ∀ y ∈ l, TSz y) (hn : n ≤ 9223372036854775807) (hks : key.size ≤ 140737488351232) (hM : MaxL w) :
    Calls Tryz.prog 6 #[.slice A n c, .agg (askc key q s d y m1 m2), txv z] w fun e w' => e = .returned (.bool true) ∧ Below w.heap.size w w' := by
  have hmix : Tryz.prog.follows .mixedOrders = true := by kernel_rfl
  have h0 := ((Has.nil (Below.refl w.heap.size w)).newBlk 30 (askc key q s d y m1 m2)).newBlk 28 (txc z)
  simp only [World.size_alloc] at h0
  have H0 := Lib.hid h0
  have HX := Lib.hid hx
  have HZ := Lib.hid hz
  clear hx hz h0
  obtain ⟨r, hr⟩ : ∃ r, tabP l = r := ⟨_, rfl⟩
  have HRO := Lib.hid (show ROk 7680 r from hr ▸ tabP_ok HZ.out)
  have HTB := Lib.hid (fun (W : World) (hb : Below w.heap.size w W) => tables13_c A n c l W (HX.out.below hb) hn HZ.out)
  rw [hr] at HTB
  clear hr
  obtain ⟨o, hp⟩ : ∃ o, pputC r key ⟨q, s, d⟩ y (m1, m2) = o := ⟨_, rfl⟩
  obtain ⟨dd, kk⟩ := o
  have HP1 := Lib.hid (fun (T2 : List As) (p : Nat) {W : World} (hh : Has w (tbA p r :: T2) W) => put13_c hh HRO.out (by decide) hM key q s d y m1 m2 (dd, kk) hp)
  by_cases hk : kk = 0
  · subst hk
    obtain ⟨hcn, hle⟩ := pput_rows HRO.out.sor hp
    have HOK0 := Lib.hid (show ROk 7808 (rapp r (opsD key dd)) from (HRO.out.app (opsD_sz hp)).mono (by omega))
    have HAP0 := Lib.hid (fun h1 h2 => pget_apart HRO.out.sor hp (z := z) h1 h2 (0, 0))
    have HLS := Lib.hid (fun W => less_c (topX z).1 (topX z).2 dd.a dd.b W)
    obtain ⟨R0, hR0⟩ : ∃ R0, rapp r (opsD key dd) = R0 := ⟨_, rfl⟩
    rw [hR0] at HOK0 hcn hle HAP0
    have HR0 := Lib.hid hR0
    have HCN := Lib.hid hcn
    have HLE := Lib.hid hle
    have HG1 := Lib.hid (fun (T2 : List As) (p : Nat) (W : World) (hh : Has w (tbA p r :: T2) W) => pkGet hh HRO.out (by decide) hM key (by omega) z 0 0)
    have HG2 := Lib.hid (fun (T2 : List As) (p : Nat) (W : World) (hh : Has w (tbA p R0 :: T2) W) => pkGet hh HOK0.out (by decide) hM key (by omega) z 0 0)
    generalize pgetC r key z (0, 0) = o1 at *
    generalize pgetC R0 key z (0, 0) = o2 at *
    obtain ⟨F1, k1⟩ := o1
    obtain ⟨F2, k2⟩ := o2
    rw [show ((topX z).1, (topX z).2) = topX z from rfl] at HLS
    generalize lt (topX z) (dd.a, dd.b) = ltv at *
    have HOL := Lib.hid (opsD_len key dd)
    clear hR0 hcn hle hp
    go_enter Tryz.func6, Tryz.ntmps6
    go_wp2_with fail
    refine (HTB.out _ H0.out.bel).mono ?_
    rintro e w1 ⟨p, b, rfl, h1⟩
    have H1 := Lib.hid (show Has w (tbA p r :: rtA b r :: blkA (w.heap.size + 1) 28 (txc z) :: blkA w.heap.size 30 (askc key q s d y m1 m2) :: []) w1 from H0.out.join h1)
    clear h1
    have hla := Lib.hid (H1.out.blkAt (g := w.heap.size) (t := 30) (cs := (askc key q s d y m1 m2)) (by simp))
    go_wp2_with (refine wpList_load_row rfl 30 _ rfl (w.heap.size) rfl 30 (askc key q s d y m1 m2) (0, 0) _ hla.out Tryz.underlying30 rfl (by kernel_rfl) ?_)
    clear hla
    refine (HP1.out _ _ H1.out).mono ?_
    rintro e w2 ⟨qt, AL, nL, cL, A1, n1, c1, rfl, hnL, h2⟩
    rw [if_pos rfl] at h2
    simp only at h2 hnL
    rw [HR0.out] at h2
    have HNL := Lib.hid hnL
    have HN1 := Lib.hid (show nL ≤ 1 by have := HOL.out; omega)
    have H3 := Lib.hid (show Has w (blkA w2.heap.size 40 (dnc dd (.slice AL nL cL) (.slice A1 n1 c1)) :: tbA qt R0 :: tbA p r :: rtA b r :: blkA (w.heap.size + 1) 28 (txc z) :: blkA w.heap.size 30 (askc key q s d y m1 m2) :: []) _ from h2.newBlk 40 (dnc dd (.slice AL nL cL) (.slice A1 n1 c1)))
    clear h2 hnL H1
    go_wp2_with fail
    refine (Has.tbRowsM H3.out (p := p) (r := r) (by simp) HRO.out.szs (by have := HRO.out.len; omega)).mono ?_
    rintro e w3 ⟨A3, c3, rfl, -, -, hc3, hd3, hb3⟩
    have H4 := Lib.hid (H3.out.keep hb3)
    clear hb3 H3
    go_wp2_with fail
    refine (Has.tbRowsM H4.out (p := qt) (r := R0) (by simp) HOK0.out.szs (by have := HOK0.out.len; omega)).mono ?_
    rintro e w4 ⟨A4, c4, rfl, -, hw4, hc4, hd4, hb4⟩
    have H5 := Lib.hid (H4.out.keep hb4)
    have W5 := Lib.hid hw4
    clear hb4 hw4 H4
    have hR0L : R0.length ≤ 1000000 := by have := HOK0.out.len; omega
    go_wp2_with fail
    go_loopw [14, 15] (fun nn i wr => ∃ (j m : Nat), j ≤ R0.length ∧ i = .int .i64 j ∧ nn = .int .i64 m ∧ (R0.take j).countP (chgd r) = m ∧ Hid (Has w (blkA w2.heap.size 40 (dnc dd (.slice AL nL cL) (.slice A1 n1 c1)) :: tbA qt R0 :: tbA p r :: rtA b r :: blkA (w.heap.size + 1) 28 (txc z) :: blkA w.heap.size 30 (askc key q s d y m1 m2) :: []) wr) ∧ Hid (WAt wr A4 R0.length R0)) (fun _ i _ => R0.length - (intOf i).toNat)
    case atStart => exact ⟨0, 0, Nat.zero_le _, rfl, rfl, rfl, H5, W5⟩
    case round =>
      obtain ⟨j, m, hj, rfl, rfl, hcm, HH, HW⟩ := hrel
      clear H5 W5
      by_cases c1' : j < R0.length
      case neg =>
        obtain rfl : j = R0.length := by omega
        rw [List.take_length] at hcm
        have hmn : m = nL := by have h1 := HCN.out; have h2 := HNL.out; unfold cntC at h1; omega
        clear hcm
        have hge : ¬ R0.length < r.length := by have := HLE.out; omega
        have HHb := HH
        clear HH HW
        have zz := HHb.out.blkAt (g := w2.heap.size) (t := 40) (cs := (dnc dd (.slice AL nL cL) (.slice A1 n1 c1))) (by simp)
        have d0 := zz.cell 0
        simp at d0
        clear zz
        have hlt := Lib.hid (HHb.out.blkAt (g := w.heap.size + 1) (t := 28) (cs := (txc z)) (by simp))
        have hlen1 : (nL = 0 ∧ m = 0) ∨ (nL = 1 ∧ m = 1) := by have := HN1.out; omega
        clear hmn
        rcases hlen1 with ⟨rfl, rfl⟩ | ⟨rfl, rfl⟩
        · go_wp2_with fail
          clear hlt d0
          have HLS2 := HLS
          cases hlt2 : ltv with
          | false =>
            subst hlt2
            refine wp_region_held_drew (S := Has w (blkA w2.heap.size 40 (dnc dd (.slice AL 0 cL) (.slice A1 n1 c1)) :: tbA qt R0 :: tbA p r :: rtA b r :: blkA (w.heap.size + 1) 28 (txc z) :: blkA w.heap.size 30 (askc key q s d y m1 m2) :: [])) hmix (HHb.out.drew) (fun hS => ?_)
            simp only [List.size_toArray, List.length_cons, List.length_nil, Nat.reduceAdd, Array.replicate_succ, Array.replicate_zero]
            refine wpAnyH_take (i := 0) (oi := ⟨some 86, Op.load 28 (.tmp 5), 28, "outright.go:138", #[], none⟩) (v := ?v0ua) rfl (by kernel_rfl) (by kernel_rfl) (by kernel_rfl) (fun _ _ _ h => h) (Or.inl ⟨by rfl, ?hy0ua⟩) (by first | exact hS | assumption) ?rest0ua
            case hy0ua => (intro V2 hSw; (try dsimp only at hSw); have zk := hSw.blkAt (g := w.heap.size + 1) (t := 28) (cs := txc z) (by simp); have ck0 := zk.cell 0; have ck1 := zk.cell 1; have ck2 := zk.cell 2; have ck3 := zk.cell 3; have ck4 := zk.cell 4; have ck5 := zk.cell 5; have ck6 := zk.cell 6; have ck7 := zk.cell 7; have ck8 := zk.cell 8; have ck9 := zk.cell 9; have ck10 := zk.cell 10; have ck11 := zk.cell 11; simp at ck0 ck1 ck2 ck3 ck4 ck5 ck6 ck7 ck8 ck9 ck10 ck11; go_simp; all_goals (with_reducible rfl))
            try simp only [Act.put, setIfInBounds_toArray, set_cons_zero, set_cons_succ]
            refine wpAnyH_take (i := 2) (oi := ⟨some 88, Op.fieldAddr 40 (.tmp 10) 1, 0, "outright.go:138", #[], none⟩) (v := ?v2ua) rfl (by kernel_rfl) (by kernel_rfl) (by kernel_rfl) (fun _ _ _ h => h) (Or.inl ⟨by rfl, ?hy2ua⟩) (by first | exact hS | assumption) ?rest2ua
            case hy2ua => (intro V2 hSw; (try dsimp only at hSw); go_simp; all_goals (with_reducible rfl))
            try simp only [Act.put, setIfInBounds_toArray, set_cons_zero, set_cons_succ]
            refine wpAnyH_take (i := 3) (oi := ⟨some 89, Op.load 26 (.tmp 88), 26, "outright.go:138", #[⟨2, .data⟩], none⟩) (v := ?v3ua) rfl (by kernel_rfl) (by kernel_rfl) (by kernel_rfl) (fun _ _ _ h => h) (Or.inl ⟨by rfl, ?hy3ua⟩) (by first | exact hS | assumption) ?rest3ua
            case hy3ua => (intro V2 hSw; (try dsimp only at hSw); have zk := hSw.blkAt (g := w2.heap.size) (t := 40) (cs := (dnc dd (.slice AL 0 cL) (.slice A1 n1 c1))) (by simp); have ck1 := zk.cell 1; have ck2 := zk.cell 2; simp at ck1 ck2; go_simp; all_goals (with_reducible rfl))
            try simp only [Act.put, setIfInBounds_toArray, set_cons_zero, set_cons_succ]
            refine wpAnyH_ready (rs := [1]) (by kernel_rfl) (by simp) ?_
            refine AllReadyH.cons (o := ⟨some 87, Op.call { callee := Callee.value (.func 26), args := #[Operand.tmp 86], argTypes := #[28] }, 26, "outright.go:138", #[⟨0, .data⟩], none⟩) rfl (fun K hK => ?_) AllReadyH.nil
            go_simp
            refine (pkTop z _).mono ?_
            rintro e uT ⟨rfl, huT⟩
            refine hK.out _ _ (hS.keep huT) (fun hS => ?_)
            clear hK K
            try simp only [Act.put, setIfInBounds_toArray, set_cons_zero, set_cons_succ]
            clear huT
            refine wpAnyH_ready (rs := [4]) (by kernel_rfl) (by simp) ?_
            refine AllReadyH.cons (o := ⟨some 90, Op.call { callee := Callee.value (.func 22), args := #[Operand.tmp 87, Operand.tmp 89], argTypes := #[26, 26] }, 4, "outright.go:138", #[⟨1, .data⟩, ⟨3, .data⟩, ⟨1, .chain⟩], none⟩) rfl (fun K hK => ?_) AllReadyH.nil
            go_simp
            refine (HLS.out _).mono ?_
            rintro e uL ⟨rfl, huL⟩
            refine hK.out _ _ (hS.keep huL) (fun hS => ?_)
            clear hK K
            try simp only [Act.put, setIfInBounds_toArray, set_cons_zero, set_cons_succ]
            clear huL
            refine wpAnyH_take (i := 5) (oi := ⟨some 91, Op.unOp UnOp.not 4 (.tmp 90), 4, "outright.go:138", #[⟨4, .data⟩], none⟩) (v := ?v5ua) rfl (by kernel_rfl) (by kernel_rfl) (by kernel_rfl) (fun _ _ _ h => h) (Or.inl ⟨by rfl, ?hy5ua⟩) (by first | exact hS | assumption) ?rest5ua
            case hy5ua => (intro V2 hSw; (try dsimp only at hSw); go_simp; all_goals (with_reducible rfl))
            try simp only [Act.put, setIfInBounds_toArray, set_cons_zero, set_cons_succ]
            refine wpAnyH_take (i := 6) (oi := ⟨some 92, Op.move (.tmp 91), 4, "outright.go:138", #[⟨5, .data⟩, ⟨4, .chain⟩], none⟩) (v := ?v6ua) rfl (by kernel_rfl) (by kernel_rfl) (by kernel_rfl) (fun _ _ _ h => h) (Or.inl ⟨by rfl, ?hy6ua⟩) (by first | exact hS | assumption) ?rest6ua
            case hy6ua => (intro V2 hSw; (try dsimp only at hSw); go_simp; all_goals (with_reducible rfl))
            try simp only [Act.put, setIfInBounds_toArray, set_cons_zero, set_cons_succ]
            refine wpAnyH_take (i := 7) (oi := ⟨some 93, Op.fieldAddr 28 (.tmp 5) 0, 0, "outright.go:138", #[⟨6, .guard⟩], some (6, false)⟩) (v := undef) rfl (by kernel_rfl) (by kernel_rfl) (by kernel_rfl) (fun _ _ _ h => h) (Or.inr ⟨by rfl, rfl⟩) (by first | exact hS | assumption) ?rest7ua
            try simp only [Act.put, setIfInBounds_toArray, set_cons_zero, set_cons_succ]
            refine wpAnyH_take (i := 8) (oi := ⟨some 94, Op.load 3 (.tmp 93), 3, "outright.go:138", #[⟨7, .data⟩, ⟨6, .guard⟩], some (6, false)⟩) (v := undef) rfl (by kernel_rfl) (by kernel_rfl) (by kernel_rfl) (fun _ _ _ h => h) (Or.inr ⟨by rfl, rfl⟩) (by first | exact hS | assumption) ?rest8ua
            try simp only [Act.put, setIfInBounds_toArray, set_cons_zero, set_cons_succ]
            refine wpAnyH_take (i := 9) (oi := ⟨some 95, Op.fieldAddr 30 (.tmp 4) 2, 0, "outright.go:138", #[⟨6, .guard⟩], some (6, false)⟩) (v := undef) rfl (by kernel_rfl) (by kernel_rfl) (by kernel_rfl) (fun _ _ _ h => h) (Or.inr ⟨by rfl, rfl⟩) (by first | exact hS | assumption) ?rest9ua
            try simp only [Act.put, setIfInBounds_toArray, set_cons_zero, set_cons_succ]
            refine wpAnyH_take (i := 10) (oi := ⟨some 96, Op.fieldAddr 28 (.tmp 95) 0, 0, "outright.go:138", #[⟨9, .data⟩, ⟨6, .guard⟩], some (6, false)⟩) (v := undef) rfl (by kernel_rfl) (by kernel_rfl) (by kernel_rfl) (fun _ _ _ h => h) (Or.inr ⟨by rfl, rfl⟩) (by first | exact hS | assumption) ?rest10ua
            try simp only [Act.put, setIfInBounds_toArray, set_cons_zero, set_cons_succ]
            refine wpAnyH_take (i := 11) (oi := ⟨some 97, Op.load 3 (.tmp 96), 3, "outright.go:138", #[⟨10, .data⟩, ⟨6, .guard⟩], some (6, false)⟩) (v := undef) rfl (by kernel_rfl) (by kernel_rfl) (by kernel_rfl) (fun _ _ _ h => h) (Or.inr ⟨by rfl, rfl⟩) (by first | exact hS | assumption) ?rest11ua
            try simp only [Act.put, setIfInBounds_toArray, set_cons_zero, set_cons_succ]
            refine wpAnyH_take (i := 12) (oi := ⟨some 98, Op.binOp BinOp.eql 3 (.tmp 94) (.tmp 97) 3, 4, "outright.go:138", #[⟨8, .data⟩, ⟨11, .data⟩, ⟨6, .guard⟩], some (6, false)⟩) (v := undef) rfl (by kernel_rfl) (by kernel_rfl) (by kernel_rfl) (fun _ _ _ h => h) (Or.inr ⟨by rfl, rfl⟩) (by first | exact hS | assumption) ?rest12ua
            try simp only [Act.put, setIfInBounds_toArray, set_cons_zero, set_cons_succ]
            refine wpAnyH_take (i := 13) (oi := ⟨some 99, Op.pick (.tmp 92) (Operand.const (Value.bool true)) (.tmp 98), 4, "outright.go:138", #[⟨6, .data⟩, ⟨12, .data⟩], none⟩) (v := ?v13ua) rfl (by kernel_rfl) (by kernel_rfl) (by kernel_rfl) (fun _ _ _ h => h) (Or.inl ⟨by rfl, ?hy13ua⟩) (by first | exact hS | assumption) ?rest13ua
            case hy13ua => (intro V2 hSw; (try dsimp only at hSw); go_simp; all_goals (with_reducible rfl))
            try simp only [Act.put, setIfInBounds_toArray, set_cons_zero, set_cons_succ]
            refine wpAnyH_done (by kernel_rfl) ?_ _
            have HL := Lib.hid hS
            go_wp2_with fail
            refine (awake13 _ (hM.below HL.out.bel)).mono ?_
            rintro e w9 ⟨rfl, hb9⟩
            have hfin := (HL.out.keep hb9).bel
            clear hb9
            go_wp2_with fail
            go_ret
            exact ⟨rfl, hfin⟩
          | true =>
            subst hlt2
            by_cases hid : z.id = y.id
            · obtain ⟨z0, z1, z2, z3, z4, z5, z6, z7, z8, z9, z10, z11⟩ := z
              simp only at hid
              subst hid
              refine wp_region_held_drew (S := Has w (blkA w2.heap.size 40 (dnc dd (.slice AL 0 cL) (.slice A1 n1 c1)) :: tbA qt R0 :: tbA p r :: rtA b r :: blkA (w.heap.size + 1) 28 (txc ⟨y.id, z1, z2, z3, z4, z5, z6, z7, z8, z9, z10, z11⟩) :: blkA w.heap.size 30 (askc key q s d y m1 m2) :: [])) hmix (HHb.out.drew) (fun hS => ?_)
              simp only [List.size_toArray, List.length_cons, List.length_nil, Nat.reduceAdd, Array.replicate_succ, Array.replicate_zero]
              refine wpAnyH_take (i := 0) (oi := ⟨some 86, Op.load 28 (.tmp 5), 28, "outright.go:138", #[], none⟩) (v := ?v0va) rfl (by kernel_rfl) (by kernel_rfl) (by kernel_rfl) (fun _ _ _ h => h) (Or.inl ⟨by rfl, ?hy0va⟩) (by first | exact hS | assumption) ?rest0va
              case hy0va => (intro V2 hSw; (try dsimp only at hSw); have zk := hSw.blkAt (g := w.heap.size + 1) (t := 28) (cs := txc ⟨y.id, z1, z2, z3, z4, z5, z6, z7, z8, z9, z10, z11⟩) (by simp); have ck0 := zk.cell 0; have ck1 := zk.cell 1; have ck2 := zk.cell 2; have ck3 := zk.cell 3; have ck4 := zk.cell 4; have ck5 := zk.cell 5; have ck6 := zk.cell 6; have ck7 := zk.cell 7; have ck8 := zk.cell 8; have ck9 := zk.cell 9; have ck10 := zk.cell 10; have ck11 := zk.cell 11; simp at ck0 ck1 ck2 ck3 ck4 ck5 ck6 ck7 ck8 ck9 ck10 ck11; go_simp; all_goals (with_reducible rfl))
              try simp only [Act.put, setIfInBounds_toArray, set_cons_zero, set_cons_succ]
              refine wpAnyH_take (i := 2) (oi := ⟨some 88, Op.fieldAddr 40 (.tmp 10) 1, 0, "outright.go:138", #[], none⟩) (v := ?v2va) rfl (by kernel_rfl) (by kernel_rfl) (by kernel_rfl) (fun _ _ _ h => h) (Or.inl ⟨by rfl, ?hy2va⟩) (by first | exact hS | assumption) ?rest2va
              case hy2va => (intro V2 hSw; (try dsimp only at hSw); go_simp; all_goals (with_reducible rfl))
              try simp only [Act.put, setIfInBounds_toArray, set_cons_zero, set_cons_succ]
              refine wpAnyH_take (i := 3) (oi := ⟨some 89, Op.load 26 (.tmp 88), 26, "outright.go:138", #[⟨2, .data⟩], none⟩) (v := ?v3va) rfl (by kernel_rfl) (by kernel_rfl) (by kernel_rfl) (fun _ _ _ h => h) (Or.inl ⟨by rfl, ?hy3va⟩) (by first | exact hS | assumption) ?rest3va
              case hy3va => (intro V2 hSw; (try dsimp only at hSw); have zk := hSw.blkAt (g := w2.heap.size) (t := 40) (cs := (dnc dd (.slice AL 0 cL) (.slice A1 n1 c1))) (by simp); have ck1 := zk.cell 1; have ck2 := zk.cell 2; simp at ck1 ck2; go_simp; all_goals (with_reducible rfl))
              try simp only [Act.put, setIfInBounds_toArray, set_cons_zero, set_cons_succ]
              refine wpAnyH_ready (rs := [1]) (by kernel_rfl) (by simp) ?_
              refine AllReadyH.cons (o := ⟨some 87, Op.call { callee := Callee.value (.func 26), args := #[Operand.tmp 86], argTypes := #[28] }, 26, "outright.go:138", #[⟨0, .data⟩], none⟩) rfl (fun K hK => ?_) AllReadyH.nil
              go_simp
              refine (pkTop ⟨y.id, z1, z2, z3, z4, z5, z6, z7, z8, z9, z10, z11⟩ _).mono ?_
              rintro e uT ⟨rfl, huT⟩
              refine hK.out _ _ (hS.keep huT) (fun hS => ?_)
              clear hK K
              try simp only [Act.put, setIfInBounds_toArray, set_cons_zero, set_cons_succ]
              clear huT
              refine wpAnyH_ready (rs := [4]) (by kernel_rfl) (by simp) ?_
              refine AllReadyH.cons (o := ⟨some 90, Op.call { callee := Callee.value (.func 22), args := #[Operand.tmp 87, Operand.tmp 89], argTypes := #[26, 26] }, 4, "outright.go:138", #[⟨1, .data⟩, ⟨3, .data⟩, ⟨1, .chain⟩], none⟩) rfl (fun K hK => ?_) AllReadyH.nil
              go_simp
              refine (HLS.out _).mono ?_
              rintro e uL ⟨rfl, huL⟩
              refine hK.out _ _ (hS.keep huL) (fun hS => ?_)
              clear hK K
              try simp only [Act.put, setIfInBounds_toArray, set_cons_zero, set_cons_succ]
              clear huL
              refine wpAnyH_take (i := 5) (oi := ⟨some 91, Op.unOp UnOp.not 4 (.tmp 90), 4, "outright.go:138", #[⟨4, .data⟩], none⟩) (v := ?v5va) rfl (by kernel_rfl) (by kernel_rfl) (by kernel_rfl) (fun _ _ _ h => h) (Or.inl ⟨by rfl, ?hy5va⟩) (by first | exact hS | assumption) ?rest5va
              case hy5va => (intro V2 hSw; (try dsimp only at hSw); go_simp; all_goals (with_reducible rfl))
              try simp only [Act.put, setIfInBounds_toArray, set_cons_zero, set_cons_succ]
              refine wpAnyH_take (i := 6) (oi := ⟨some 92, Op.move (.tmp 91), 4, "outright.go:138", #[⟨5, .data⟩, ⟨4, .chain⟩], none⟩) (v := ?v6va) rfl (by kernel_rfl) (by kernel_rfl) (by kernel_rfl) (fun _ _ _ h => h) (Or.inl ⟨by rfl, ?hy6va⟩) (by first | exact hS | assumption) ?rest6va
              case hy6va => (intro V2 hSw; (try dsimp only at hSw); go_simp; all_goals (with_reducible rfl))
              try simp only [Act.put, setIfInBounds_toArray, set_cons_zero, set_cons_succ]
              refine wpAnyH_take (i := 7) (oi := ⟨some 93, Op.fieldAddr 28 (.tmp 5) 0, 0, "outright.go:138", #[⟨6, .guard⟩], some (6, false)⟩) (v := ?v7va) rfl (by kernel_rfl) (by kernel_rfl) (by kernel_rfl) (fun _ _ _ h => h) (Or.inl ⟨by rfl, ?hy7va⟩) (by first | exact hS | assumption) ?rest7va
              case hy7va => (intro V2 hSw; (try dsimp only at hSw); go_simp; all_goals (with_reducible rfl))
              try simp only [Act.put, setIfInBounds_toArray, set_cons_zero, set_cons_succ]
              refine wpAnyH_take (i := 8) (oi := ⟨some 94, Op.load 3 (.tmp 93), 3, "outright.go:138", #[⟨7, .data⟩, ⟨6, .guard⟩], some (6, false)⟩) (v := ?v8va) rfl (by kernel_rfl) (by kernel_rfl) (by kernel_rfl) (fun _ _ _ h => h) (Or.inl ⟨by rfl, ?hy8va⟩) (by first | exact hS | assumption) ?rest8va
              case hy8va => (intro V2 hSw; (try dsimp only at hSw); have zk := hSw.blkAt (g := w.heap.size + 1) (t := 28) (cs := txc ⟨y.id, z1, z2, z3, z4, z5, z6, z7, z8, z9, z10, z11⟩) (by simp); have ck0 := zk.cell 0; simp at ck0; go_simp; all_goals (with_reducible rfl))
              try simp only [Act.put, setIfInBounds_toArray, set_cons_zero, set_cons_succ]
              refine wpAnyH_take (i := 9) (oi := ⟨some 95, Op.fieldAddr 30 (.tmp 4) 2, 0, "outright.go:138", #[⟨6, .guard⟩], some (6, false)⟩) (v := ?v9va) rfl (by kernel_rfl) (by kernel_rfl) (by kernel_rfl) (fun _ _ _ h => h) (Or.inl ⟨by rfl, ?hy9va⟩) (by first | exact hS | assumption) ?rest9va
              case hy9va => (intro V2 hSw; (try dsimp only at hSw); go_simp; all_goals (with_reducible rfl))
              try simp only [Act.put, setIfInBounds_toArray, set_cons_zero, set_cons_succ]
              refine wpAnyH_take (i := 10) (oi := ⟨some 96, Op.fieldAddr 28 (.tmp 95) 0, 0, "outright.go:138", #[⟨9, .data⟩, ⟨6, .guard⟩], some (6, false)⟩) (v := ?v10va) rfl (by kernel_rfl) (by kernel_rfl) (by kernel_rfl) (fun _ _ _ h => h) (Or.inl ⟨by rfl, ?hy10va⟩) (by first | exact hS | assumption) ?rest10va
              case hy10va => (intro V2 hSw; (try dsimp only at hSw); go_simp; all_goals (with_reducible rfl))
              try simp only [Act.put, setIfInBounds_toArray, set_cons_zero, set_cons_succ]
              refine wpAnyH_take (i := 11) (oi := ⟨some 97, Op.load 3 (.tmp 96), 3, "outright.go:138", #[⟨10, .data⟩, ⟨6, .guard⟩], some (6, false)⟩) (v := ?v11va) rfl (by kernel_rfl) (by kernel_rfl) (by kernel_rfl) (fun _ _ _ h => h) (Or.inl ⟨by rfl, ?hy11va⟩) (by first | exact hS | assumption) ?rest11va
              case hy11va => (intro V2 hSw; (try dsimp only at hSw); have zk := hSw.blkAt (g := w.heap.size) (t := 30) (cs := (askc key q s d y m1 m2)) (by simp); have ck4 := zk.cell 4; simp at ck4; go_simp; all_goals (with_reducible rfl))
              try simp only [Act.put, setIfInBounds_toArray, set_cons_zero, set_cons_succ]
              refine wpAnyH_take (i := 12) (oi := ⟨some 98, Op.binOp BinOp.eql 3 (.tmp 94) (.tmp 97) 3, 4, "outright.go:138", #[⟨8, .data⟩, ⟨11, .data⟩, ⟨6, .guard⟩], some (6, false)⟩) (v := .bool true) rfl (by kernel_rfl) (by kernel_rfl) (by kernel_rfl) (fun _ _ _ h => h) (Or.inl ⟨by rfl, ?hy12va⟩) (by first | exact hS | assumption) ?rest12va
              case hy12va => (intro V2 hSw; (try dsimp only at hSw); go_simp; all_goals (with_reducible rfl))
              try simp only [Act.put, setIfInBounds_toArray, set_cons_zero, set_cons_succ]
              refine wpAnyH_take (i := 13) (oi := ⟨some 99, Op.pick (.tmp 92) (Operand.const (Value.bool true)) (.tmp 98), 4, "outright.go:138", #[⟨6, .data⟩, ⟨12, .data⟩], none⟩) (v := ?v13va) rfl (by kernel_rfl) (by kernel_rfl) (by kernel_rfl) (fun _ _ _ h => h) (Or.inl ⟨by rfl, ?hy13va⟩) (by first | exact hS | assumption) ?rest13va
              case hy13va => (intro V2 hSw; (try dsimp only at hSw); go_simp; all_goals (with_reducible rfl))
              try simp only [Act.put, setIfInBounds_toArray, set_cons_zero, set_cons_succ]
              refine wpAnyH_done (by kernel_rfl) ?_ _
              have HL := Lib.hid hS
              go_wp2_with fail
              refine (awake13 _ (hM.below HL.out.bel)).mono ?_
              rintro e w9 ⟨rfl, hb9⟩
              have hfin := (HL.out.keep hb9).bel
              clear hb9
              go_wp2_with fail
              go_ret
              exact ⟨rfl, hfin⟩
            have hid2 : (z.id == y.id) = false := by simpa using hid
            refine wp_region_held_drew (S := Has w (blkA w2.heap.size 40 (dnc dd (.slice AL 0 cL) (.slice A1 n1 c1)) :: tbA qt R0 :: tbA p r :: rtA b r :: blkA (w.heap.size + 1) 28 (txc z) :: blkA w.heap.size 30 (askc key q s d y m1 m2) :: [])) hmix (HHb.out.drew) (fun hS => ?_)
            simp only [List.size_toArray, List.length_cons, List.length_nil, Nat.reduceAdd, Array.replicate_succ, Array.replicate_zero]
            refine wpAnyH_take (i := 0) (oi := ⟨some 86, Op.load 28 (.tmp 5), 28, "outright.go:138", #[], none⟩) (v := ?v0xa) rfl (by kernel_rfl) (by kernel_rfl) (by kernel_rfl) (fun _ _ _ h => h) (Or.inl ⟨by rfl, ?hy0xa⟩) (by first | exact hS | assumption) ?rest0xa
            case hy0xa => (intro V2 hSw; (try dsimp only at hSw); have zk := hSw.blkAt (g := w.heap.size + 1) (t := 28) (cs := txc z) (by simp); have ck0 := zk.cell 0; have ck1 := zk.cell 1; have ck2 := zk.cell 2; have ck3 := zk.cell 3; have ck4 := zk.cell 4; have ck5 := zk.cell 5; have ck6 := zk.cell 6; have ck7 := zk.cell 7; have ck8 := zk.cell 8; have ck9 := zk.cell 9; have ck10 := zk.cell 10; have ck11 := zk.cell 11; simp at ck0 ck1 ck2 ck3 ck4 ck5 ck6 ck7 ck8 ck9 ck10 ck11; go_simp; all_goals (with_reducible rfl))
            try simp only [Act.put, setIfInBounds_toArray, set_cons_zero, set_cons_succ]
            refine wpAnyH_take (i := 2) (oi := ⟨some 88, Op.fieldAddr 40 (.tmp 10) 1, 0, "outright.go:138", #[], none⟩) (v := ?v2xa) rfl (by kernel_rfl) (by kernel_rfl) (by kernel_rfl) (fun _ _ _ h => h) (Or.inl ⟨by rfl, ?hy2xa⟩) (by first | exact hS | assumption) ?rest2xa
            case hy2xa => (intro V2 hSw; (try dsimp only at hSw); go_simp; all_goals (with_reducible rfl))
            try simp only [Act.put, setIfInBounds_toArray, set_cons_zero, set_cons_succ]
            refine wpAnyH_take (i := 3) (oi := ⟨some 89, Op.load 26 (.tmp 88), 26, "outright.go:138", #[⟨2, .data⟩], none⟩) (v := ?v3xa) rfl (by kernel_rfl) (by kernel_rfl) (by kernel_rfl) (fun _ _ _ h => h) (Or.inl ⟨by rfl, ?hy3xa⟩) (by first | exact hS | assumption) ?rest3xa
            case hy3xa => (intro V2 hSw; (try dsimp only at hSw); have zk := hSw.blkAt (g := w2.heap.size) (t := 40) (cs := (dnc dd (.slice AL 0 cL) (.slice A1 n1 c1))) (by simp); have ck1 := zk.cell 1; have ck2 := zk.cell 2; simp at ck1 ck2; go_simp; all_goals (with_reducible rfl))
            try simp only [Act.put, setIfInBounds_toArray, set_cons_zero, set_cons_succ]
            refine wpAnyH_ready (rs := [1]) (by kernel_rfl) (by simp) ?_
            refine AllReadyH.cons (o := ⟨some 87, Op.call { callee := Callee.value (.func 26), args := #[Operand.tmp 86], argTypes := #[28] }, 26, "outright.go:138", #[⟨0, .data⟩], none⟩) rfl (fun K hK => ?_) AllReadyH.nil
            go_simp
            refine (pkTop z _).mono ?_
            rintro e uT ⟨rfl, huT⟩
            refine hK.out _ _ (hS.keep huT) (fun hS => ?_)
            clear hK K
            try simp only [Act.put, setIfInBounds_toArray, set_cons_zero, set_cons_succ]
            clear huT
            refine wpAnyH_ready (rs := [4]) (by kernel_rfl) (by simp) ?_
            refine AllReadyH.cons (o := ⟨some 90, Op.call { callee := Callee.value (.func 22), args := #[Operand.tmp 87, Operand.tmp 89], argTypes := #[26, 26] }, 4, "outright.go:138", #[⟨1, .data⟩, ⟨3, .data⟩, ⟨1, .chain⟩], none⟩) rfl (fun K hK => ?_) AllReadyH.nil
            go_simp
            refine (HLS.out _).mono ?_
            rintro e uL ⟨rfl, huL⟩
            refine hK.out _ _ (hS.keep huL) (fun hS => ?_)
            clear hK K
            try simp only [Act.put, setIfInBounds_toArray, set_cons_zero, set_cons_succ]
            clear huL
            refine wpAnyH_take (i := 5) (oi := ⟨some 91, Op.unOp UnOp.not 4 (.tmp 90), 4, "outright.go:138", #[⟨4, .data⟩], none⟩) (v := ?v5xa) rfl (by kernel_rfl) (by kernel_rfl) (by kernel_rfl) (fun _ _ _ h => h) (Or.inl ⟨by rfl, ?hy5xa⟩) (by first | exact hS | assumption) ?rest5xa
            case hy5xa => (intro V2 hSw; (try dsimp only at hSw); go_simp; all_goals (with_reducible rfl))
            try simp only [Act.put, setIfInBounds_toArray, set_cons_zero, set_cons_succ]
            refine wpAnyH_take (i := 6) (oi := ⟨some 92, Op.move (.tmp 91), 4, "outright.go:138", #[⟨5, .data⟩, ⟨4, .chain⟩], none⟩) (v := ?v6xa) rfl (by kernel_rfl) (by kernel_rfl) (by kernel_rfl) (fun _ _ _ h => h) (Or.inl ⟨by rfl, ?hy6xa⟩) (by first | exact hS | assumption) ?rest6xa
            case hy6xa => (intro V2 hSw; (try dsimp only at hSw); go_simp; all_goals (with_reducible rfl))
            try simp only [Act.put, setIfInBounds_toArray, set_cons_zero, set_cons_succ]
            refine wpAnyH_take (i := 7) (oi := ⟨some 93, Op.fieldAddr 28 (.tmp 5) 0, 0, "outright.go:138", #[⟨6, .guard⟩], some (6, false)⟩) (v := ?v7xa) rfl (by kernel_rfl) (by kernel_rfl) (by kernel_rfl) (fun _ _ _ h => h) (Or.inl ⟨by rfl, ?hy7xa⟩) (by first | exact hS | assumption) ?rest7xa
            case hy7xa => (intro V2 hSw; (try dsimp only at hSw); go_simp; all_goals (with_reducible rfl))
            try simp only [Act.put, setIfInBounds_toArray, set_cons_zero, set_cons_succ]
            refine wpAnyH_take (i := 8) (oi := ⟨some 94, Op.load 3 (.tmp 93), 3, "outright.go:138", #[⟨7, .data⟩, ⟨6, .guard⟩], some (6, false)⟩) (v := ?v8xa) rfl (by kernel_rfl) (by kernel_rfl) (by kernel_rfl) (fun _ _ _ h => h) (Or.inl ⟨by rfl, ?hy8xa⟩) (by first | exact hS | assumption) ?rest8xa
            case hy8xa => (intro V2 hSw; (try dsimp only at hSw); have zk := hSw.blkAt (g := w.heap.size + 1) (t := 28) (cs := txc z) (by simp); have ck0 := zk.cell 0; simp at ck0; go_simp; all_goals (with_reducible rfl))
            try simp only [Act.put, setIfInBounds_toArray, set_cons_zero, set_cons_succ]
            refine wpAnyH_take (i := 9) (oi := ⟨some 95, Op.fieldAddr 30 (.tmp 4) 2, 0, "outright.go:138", #[⟨6, .guard⟩], some (6, false)⟩) (v := ?v9xa) rfl (by kernel_rfl) (by kernel_rfl) (by kernel_rfl) (fun _ _ _ h => h) (Or.inl ⟨by rfl, ?hy9xa⟩) (by first | exact hS | assumption) ?rest9xa
            case hy9xa => (intro V2 hSw; (try dsimp only at hSw); go_simp; all_goals (with_reducible rfl))
            try simp only [Act.put, setIfInBounds_toArray, set_cons_zero, set_cons_succ]
            refine wpAnyH_take (i := 10) (oi := ⟨some 96, Op.fieldAddr 28 (.tmp 95) 0, 0, "outright.go:138", #[⟨9, .data⟩, ⟨6, .guard⟩], some (6, false)⟩) (v := ?v10xa) rfl (by kernel_rfl) (by kernel_rfl) (by kernel_rfl) (fun _ _ _ h => h) (Or.inl ⟨by rfl, ?hy10xa⟩) (by first | exact hS | assumption) ?rest10xa
            case hy10xa => (intro V2 hSw; (try dsimp only at hSw); go_simp; all_goals (with_reducible rfl))
            try simp only [Act.put, setIfInBounds_toArray, set_cons_zero, set_cons_succ]
            refine wpAnyH_take (i := 11) (oi := ⟨some 97, Op.load 3 (.tmp 96), 3, "outright.go:138", #[⟨10, .data⟩, ⟨6, .guard⟩], some (6, false)⟩) (v := ?v11xa) rfl (by kernel_rfl) (by kernel_rfl) (by kernel_rfl) (fun _ _ _ h => h) (Or.inl ⟨by rfl, ?hy11xa⟩) (by first | exact hS | assumption) ?rest11xa
            case hy11xa => (intro V2 hSw; (try dsimp only at hSw); have zk := hSw.blkAt (g := w.heap.size) (t := 30) (cs := (askc key q s d y m1 m2)) (by simp); have ck4 := zk.cell 4; simp at ck4; go_simp; all_goals (with_reducible rfl))
            try simp only [Act.put, setIfInBounds_toArray, set_cons_zero, set_cons_succ]
            refine wpAnyH_take (i := 12) (oi := ⟨some 98, Op.binOp BinOp.eql 3 (.tmp 94) (.tmp 97) 3, 4, "outright.go:138", #[⟨8, .data⟩, ⟨11, .data⟩, ⟨6, .guard⟩], some (6, false)⟩) (v := .bool false) rfl (by kernel_rfl) (by kernel_rfl) (by kernel_rfl) (fun _ _ _ h => h) (Or.inl ⟨by rfl, ?hy12xa⟩) (by first | exact hS | assumption) ?rest12xa
            case hy12xa => (intro V2 hSw; (try dsimp only at hSw); go_simp; all_goals (with_reducible rfl))
            try simp only [Act.put, setIfInBounds_toArray, set_cons_zero, set_cons_succ]
            refine wpAnyH_take (i := 13) (oi := ⟨some 99, Op.pick (.tmp 92) (Operand.const (Value.bool true)) (.tmp 98), 4, "outright.go:138", #[⟨6, .data⟩, ⟨12, .data⟩], none⟩) (v := ?v13xa) rfl (by kernel_rfl) (by kernel_rfl) (by kernel_rfl) (fun _ _ _ h => h) (Or.inl ⟨by rfl, ?hy13xa⟩) (by first | exact hS | assumption) ?rest13xa
            case hy13xa => (intro V2 hSw; (try dsimp only at hSw); go_simp; all_goals (with_reducible rfl))
            try simp only [Act.put, setIfInBounds_toArray, set_cons_zero, set_cons_succ]
            refine wpAnyH_done (by kernel_rfl) ?_ _
            have HL := Lib.hid hS
            have zz := HL.out.blkAt (g := w.heap.size + 1) (t := 28) (cs := (txc z)) (by simp)
            have t0 := zz.cell 0
            simp at t0
            clear zz
            have zz := HL.out.blkAt (g := w.heap.size) (t := 30) (cs := (askc key q s d y m1 m2)) (by simp)
            have a0 := zz.cell 0
            have a4 := zz.cell 4
            simp at a0 a4
            clear zz
            have HAP := Lib.hid (HAP0.out hid rfl)
            have hlt := Lib.hid (HL.out.blkAt (g := w.heap.size + 1) (t := 28) (cs := (txc z)) (by simp))
            go_wp2_with (refine wpList_load_row rfl 28 _ rfl (w.heap.size + 1) rfl 28 (txc z) (0, 0) _ hlt.out Tryz.underlying28 rfl (by kernel_rfl) ?_)
            clear hlt t0 a0 a4 hid2
            refine (HG1.out _ _ _ (HL.out.perm (List.perm_middle (l₁ := [_, _])))).mono ?_
            rintro e w7 ⟨⟨A7, n7, c7, rfl, -, -⟩, h7⟩
            have H7 := Lib.hid (h7.newBlk 73 (fdc F1 (.slice A7 n7 c7)))
            clear h7 HL
            have zz := H7.out.blkAt (g := w.heap.size) (t := 30) (cs := (askc key q s d y m1 m2)) (by simp)
            have a0 := zz.cell 0
            simp at a0
            clear zz
            have hlt := Lib.hid (H7.out.blkAt (g := w.heap.size + 1) (t := 28) (cs := (txc z)) (by simp))
            go_wp2_with (refine wpList_load_row rfl 28 _ rfl (w.heap.size + 1) rfl 28 (txc z) (0, 0) _ hlt.out Tryz.underlying28 rfl (by kernel_rfl) ?_)
            clear hlt a0
            refine (HG2.out _ _ _ (H7.out.perm (List.perm_middle (l₁ := [_, _, _])))).mono ?_
            rintro e w8 ⟨⟨A8, n8, c8, rfl, -, -⟩, h8⟩
            have H8 := Lib.hid (h8.newBlk 73 (fdc F2 (.slice A8 n8 c8)))
            clear h8 H7
            rcases HAP.out with ⟨h120, hway⟩ | hsame
            · (try simp only at h120 hway)
              subst h120
              have zz := H8.out.blkAt (g := w.heap.size) (t := 30) (cs := (askc key q s d y m1 m2)) (by simp)
              have a4 := zz.cell 4
              simp at a4
              clear zz
              have zz := H8.out.blkAt (g := w7.heap.size) (t := 73) (cs := (fdc F1 (.slice A7 n7 c7))) (by simp)
              have p6 := zz.cell 6
              simp at p6
              clear zz
              have zz := H8.out.blkAt (g := w8.heap.size) (t := 73) (cs := (fdc F2 (.slice A8 n8 c8))) (by simp)
              have s6 := zz.cell 6
              simp at s6
              clear zz
              rw [hway] at p6
              clear hway HAP
              go_wp2_with fail
              refine (awake13 _ (hM.below H8.out.bel)).mono ?_
              rintro e w9 ⟨rfl, hb9⟩
              have hfin := (H8.out.keep hb9).bel
              clear hb9
              go_wp2_with fail
              go_ret
              exact ⟨rfl, hfin⟩
            · injection hsame with hs1 hs2
              clear HAP
              subst hs1 hs2
              by_cases h120 : k1 = 120
              · subst h120
                have zz := H8.out.blkAt (g := w.heap.size) (t := 30) (cs := (askc key q s d y m1 m2)) (by simp)
                have a4 := zz.cell 4
                simp at a4
                clear zz
                have zz := H8.out.blkAt (g := w7.heap.size) (t := 73) (cs := (fdc F1 (.slice A7 n7 c7))) (by simp)
                have p6 := zz.cell 6
                simp at p6
                clear zz
                have zz := H8.out.blkAt (g := w8.heap.size) (t := 73) (cs := (fdc F1 (.slice A8 n8 c8))) (by simp)
                have s6 := zz.cell 6
                simp at s6
                clear zz
                by_cases hw9 : F1.it.id = y.id
                · rw [hw9] at p6
                  clear hw9
                  go_wp2_with fail
                  refine (awake13 _ (hM.below H8.out.bel)).mono ?_
                  rintro e w9 ⟨rfl, hb9⟩
                  have hfin := (H8.out.keep hb9).bel
                  clear hb9
                  go_wp2_with fail
                  go_ret
                  exact ⟨rfl, hfin⟩
                · have hw8 : (F1.it.id == y.id) = false := by simpa using hw9
                  go_wp2_with fail
                  refine (awake13 _ (hM.below H8.out.bel)).mono ?_
                  rintro e w9 ⟨rfl, hb9⟩
                  have hfin := (H8.out.keep hb9).bel
                  clear hb9
                  go_wp2_with fail
                  go_ret
                  exact ⟨rfl, hfin⟩
              · have h121 : (k1 == 120) = false := by simpa using h120
                have zz := H8.out.blkAt (g := w7.heap.size) (t := 73) (cs := (fdc F1 (.slice A7 n7 c7))) (by simp)
                have p1 := zz.cell 1
                have p2 := zz.cell 2
                have p4 := zz.cell 4
                have p5 := zz.cell 5
                simp at p1 p2 p4 p5
                clear zz
                have zz := H8.out.blkAt (g := w8.heap.size) (t := 73) (cs := (fdc F1 (.slice A8 n8 c8))) (by simp)
                have s1 := zz.cell 1
                have s2 := zz.cell 2
                have s4 := zz.cell 4
                have s5 := zz.cell 5
                simp at s1 s2 s4 s5
                clear zz
                have HEQ := run_eqSt3 F1.sw F1.sl
                go_wp2_with fail
                refine (awake13 _ (hM.below H8.out.bel)).mono ?_
                rintro e w9 ⟨rfl, hb9⟩
                have hfin := (H8.out.keep hb9).bel
                clear hb9
                go_wp2_with fail
                go_ret
                exact ⟨rfl, hfin⟩
        · go_wp2_with fail
          clear hlt d0
          have HLS2 := HLS
          cases hlt2 : ltv with
          | false =>
            subst hlt2
            refine wp_region_held_drew (S := Has w (blkA w2.heap.size 40 (dnc dd (.slice AL 1 cL) (.slice A1 n1 c1)) :: tbA qt R0 :: tbA p r :: rtA b r :: blkA (w.heap.size + 1) 28 (txc z) :: blkA w.heap.size 30 (askc key q s d y m1 m2) :: [])) hmix (HHb.out.drew) (fun hS => ?_)
            simp only [List.size_toArray, List.length_cons, List.length_nil, Nat.reduceAdd, Array.replicate_succ, Array.replicate_zero]
            refine wpAnyH_take (i := 0) (oi := ⟨some 86, Op.load 28 (.tmp 5), 28, "outright.go:138", #[], none⟩) (v := ?v0ub) rfl (by kernel_rfl) (by kernel_rfl) (by kernel_rfl) (fun _ _ _ h => h) (Or.inl ⟨by rfl, ?hy0ub⟩) (by first | exact hS | assumption) ?rest0ub
            case hy0ub => (intro V2 hSw; (try dsimp only at hSw); have zk := hSw.blkAt (g := w.heap.size + 1) (t := 28) (cs := txc z) (by simp); have ck0 := zk.cell 0; have ck1 := zk.cell 1; have ck2 := zk.cell 2; have ck3 := zk.cell 3; have ck4 := zk.cell 4; have ck5 := zk.cell 5; have ck6 := zk.cell 6; have ck7 := zk.cell 7; have ck8 := zk.cell 8; have ck9 := zk.cell 9; have ck10 := zk.cell 10; have ck11 := zk.cell 11; simp at ck0 ck1 ck2 ck3 ck4 ck5 ck6 ck7 ck8 ck9 ck10 ck11; go_simp; all_goals (with_reducible rfl))
            try simp only [Act.put, setIfInBounds_toArray, set_cons_zero, set_cons_succ]
            refine wpAnyH_take (i := 2) (oi := ⟨some 88, Op.fieldAddr 40 (.tmp 10) 1, 0, "outright.go:138", #[], none⟩) (v := ?v2ub) rfl (by kernel_rfl) (by kernel_rfl) (by kernel_rfl) (fun _ _ _ h => h) (Or.inl ⟨by rfl, ?hy2ub⟩) (by first | exact hS | assumption) ?rest2ub
            case hy2ub => (intro V2 hSw; (try dsimp only at hSw); go_simp; all_goals (with_reducible rfl))
            try simp only [Act.put, setIfInBounds_toArray, set_cons_zero, set_cons_succ]
            refine wpAnyH_take (i := 3) (oi := ⟨some 89, Op.load 26 (.tmp 88), 26, "outright.go:138", #[⟨2, .data⟩], none⟩) (v := ?v3ub) rfl (by kernel_rfl) (by kernel_rfl) (by kernel_rfl) (fun _ _ _ h => h) (Or.inl ⟨by rfl, ?hy3ub⟩) (by first | exact hS | assumption) ?rest3ub
            case hy3ub => (intro V2 hSw; (try dsimp only at hSw); have zk := hSw.blkAt (g := w2.heap.size) (t := 40) (cs := (dnc dd (.slice AL 1 cL) (.slice A1 n1 c1))) (by simp); have ck1 := zk.cell 1; have ck2 := zk.cell 2; simp at ck1 ck2; go_simp; all_goals (with_reducible rfl))
            try simp only [Act.put, setIfInBounds_toArray, set_cons_zero, set_cons_succ]
            refine wpAnyH_ready (rs := [1]) (by kernel_rfl) (by simp) ?_
            refine AllReadyH.cons (o := ⟨some 87, Op.call { callee := Callee.value (.func 26), args := #[Operand.tmp 86], argTypes := #[28] }, 26, "outright.go:138", #[⟨0, .data⟩], none⟩) rfl (fun K hK => ?_) AllReadyH.nil
            go_simp
            refine (pkTop z _).mono ?_
            rintro e uT ⟨rfl, huT⟩
            refine hK.out _ _ (hS.keep huT) (fun hS => ?_)
            clear hK K
            try simp only [Act.put, setIfInBounds_toArray, set_cons_zero, set_cons_succ]
            clear huT
            refine wpAnyH_ready (rs := [4]) (by kernel_rfl) (by simp) ?_
            refine AllReadyH.cons (o := ⟨some 90, Op.call { callee := Callee.value (.func 22), args := #[Operand.tmp 87, Operand.tmp 89], argTypes := #[26, 26] }, 4, "outright.go:138", #[⟨1, .data⟩, ⟨3, .data⟩, ⟨1, .chain⟩], none⟩) rfl (fun K hK => ?_) AllReadyH.nil
            go_simp
            refine (HLS.out _).mono ?_
            rintro e uL ⟨rfl, huL⟩
            refine hK.out _ _ (hS.keep huL) (fun hS => ?_)
            clear hK K
            try simp only [Act.put, setIfInBounds_toArray, set_cons_zero, set_cons_succ]
            clear huL
            refine wpAnyH_take (i := 5) (oi := ⟨some 91, Op.unOp UnOp.not 4 (.tmp 90), 4, "outright.go:138", #[⟨4, .data⟩], none⟩) (v := ?v5ub) rfl (by kernel_rfl) (by kernel_rfl) (by kernel_rfl) (fun _ _ _ h => h) (Or.inl ⟨by rfl, ?hy5ub⟩) (by first | exact hS | assumption) ?rest5ub
            case hy5ub => (intro V2 hSw; (try dsimp only at hSw); go_simp; all_goals (with_reducible rfl))
            try simp only [Act.put, setIfInBounds_toArray, set_cons_zero, set_cons_succ]
            refine wpAnyH_take (i := 6) (oi := ⟨some 92, Op.move (.tmp 91), 4, "outright.go:138", #[⟨5, .data⟩, ⟨4, .chain⟩], none⟩) (v := ?v6ub) rfl (by kernel_rfl) (by kernel_rfl) (by kernel_rfl) (fun _ _ _ h => h) (Or.inl ⟨by rfl, ?hy6ub⟩) (by first | exact hS | assumption) ?rest6ub
            case hy6ub => (intro V2 hSw; (try dsimp only at hSw); go_simp; all_goals (with_reducible rfl))
            try simp only [Act.put, setIfInBounds_toArray, set_cons_zero, set_cons_succ]
            refine wpAnyH_take (i := 7) (oi := ⟨some 93, Op.fieldAddr 28 (.tmp 5) 0, 0, "outright.go:138", #[⟨6, .guard⟩], some (6, false)⟩) (v := undef) rfl (by kernel_rfl) (by kernel_rfl) (by kernel_rfl) (fun _ _ _ h => h) (Or.inr ⟨by rfl, rfl⟩) (by first | exact hS | assumption) ?rest7ub
            try simp only [Act.put, setIfInBounds_toArray, set_cons_zero, set_cons_succ]
            refine wpAnyH_take (i := 8) (oi := ⟨some 94, Op.load 3 (.tmp 93), 3, "outright.go:138", #[⟨7, .data⟩, ⟨6, .guard⟩], some (6, false)⟩) (v := undef) rfl (by kernel_rfl) (by kernel_rfl) (by kernel_rfl) (fun _ _ _ h => h) (Or.inr ⟨by rfl, rfl⟩) (by first | exact hS | assumption) ?rest8ub
            try simp only [Act.put, setIfInBounds_toArray, set_cons_zero, set_cons_succ]
            refine wpAnyH_take (i := 9) (oi := ⟨some 95, Op.fieldAddr 30 (.tmp 4) 2, 0, "outright.go:138", #[⟨6, .guard⟩], some (6, false)⟩) (v := undef) rfl (by kernel_rfl) (by kernel_rfl) (by kernel_rfl) (fun _ _ _ h => h) (Or.inr ⟨by rfl, rfl⟩) (by first | exact hS | assumption) ?rest9ub
            try simp only [Act.put, setIfInBounds_toArray, set_cons_zero, set_cons_succ]
            refine wpAnyH_take (i := 10) (oi := ⟨some 96, Op.fieldAddr 28 (.tmp 95) 0, 0, "outright.go:138", #[⟨9, .data⟩, ⟨6, .guard⟩], some (6, false)⟩) (v := undef) rfl (by kernel_rfl) (by kernel_rfl) (by kernel_rfl) (fun _ _ _ h => h) (Or.inr ⟨by rfl, rfl⟩) (by first | exact hS | assumption) ?rest10ub
            try simp only [Act.put, setIfInBounds_toArray, set_cons_zero, set_cons_succ]
            refine wpAnyH_take (i := 11) (oi := ⟨some 97, Op.load 3 (.tmp 96), 3, "outright.go:138", #[⟨10, .data⟩, ⟨6, .guard⟩], some (6, false)⟩) (v := undef) rfl (by kernel_rfl) (by kernel_rfl) (by kernel_rfl) (fun _ _ _ h => h) (Or.inr ⟨by rfl, rfl⟩) (by first | exact hS | assumption) ?rest11ub
            try simp only [Act.put, setIfInBounds_toArray, set_cons_zero, set_cons_succ]
            refine wpAnyH_take (i := 12) (oi := ⟨some 98, Op.binOp BinOp.eql 3 (.tmp 94) (.tmp 97) 3, 4, "outright.go:138", #[⟨8, .data⟩, ⟨11, .data⟩, ⟨6, .guard⟩], some (6, false)⟩) (v := undef) rfl (by kernel_rfl) (by kernel_rfl) (by kernel_rfl) (fun _ _ _ h => h) (Or.inr ⟨by rfl, rfl⟩) (by first | exact hS | assumption) ?rest12ub
            try simp only [Act.put, setIfInBounds_toArray, set_cons_zero, set_cons_succ]
            refine wpAnyH_take (i := 13) (oi := ⟨some 99, Op.pick (.tmp 92) (Operand.const (Value.bool true)) (.tmp 98), 4, "outright.go:138", #[⟨6, .data⟩, ⟨12, .data⟩], none⟩) (v := ?v13ub) rfl (by kernel_rfl) (by kernel_rfl) (by kernel_rfl) (fun _ _ _ h => h) (Or.inl ⟨by rfl, ?hy13ub⟩) (by first | exact hS | assumption) ?rest13ub
            case hy13ub => (intro V2 hSw; (try dsimp only at hSw); go_simp; all_goals (with_reducible rfl))
            try simp only [Act.put, setIfInBounds_toArray, set_cons_zero, set_cons_succ]
            refine wpAnyH_done (by kernel_rfl) ?_ _
            have HL := Lib.hid hS
            go_wp2_with fail
            refine (awake13 _ (hM.below HL.out.bel)).mono ?_
            rintro e w9 ⟨rfl, hb9⟩
            have hfin := (HL.out.keep hb9).bel
            clear hb9
            go_wp2_with fail
            go_ret
            exact ⟨rfl, hfin⟩
          | true =>
            subst hlt2
            by_cases hid : z.id = y.id
            · obtain ⟨z0, z1, z2, z3, z4, z5, z6, z7, z8, z9, z10, z11⟩ := z
              simp only at hid
              subst hid
              refine wp_region_held_drew (S := Has w (blkA w2.heap.size 40 (dnc dd (.slice AL 1 cL) (.slice A1 n1 c1)) :: tbA qt R0 :: tbA p r :: rtA b r :: blkA (w.heap.size + 1) 28 (txc ⟨y.id, z1, z2, z3, z4, z5, z6, z7, z8, z9, z10, z11⟩) :: blkA w.heap.size 30 (askc key q s d y m1 m2) :: [])) hmix (HHb.out.drew) (fun hS => ?_)
              simp only [List.size_toArray, List.length_cons, List.length_nil, Nat.reduceAdd, Array.replicate_succ, Array.replicate_zero]
              refine wpAnyH_take (i := 0) (oi := ⟨some 86, Op.load 28 (.tmp 5), 28, "outright.go:138", #[], none⟩) (v := ?v0vb) rfl (by kernel_rfl) (by kernel_rfl) (by kernel_rfl) (fun _ _ _ h => h) (Or.inl ⟨by rfl, ?hy0vb⟩) (by first | exact hS | assumption) ?rest0vb
              case hy0vb => (intro V2 hSw; (try dsimp only at hSw); have zk := hSw.blkAt (g := w.heap.size + 1) (t := 28) (cs := txc ⟨y.id, z1, z2, z3, z4, z5, z6, z7, z8, z9, z10, z11⟩) (by simp); have ck0 := zk.cell 0; have ck1 := zk.cell 1; have ck2 := zk.cell 2; have ck3 := zk.cell 3; have ck4 := zk.cell 4; have ck5 := zk.cell 5; have ck6 := zk.cell 6; have ck7 := zk.cell 7; have ck8 := zk.cell 8; have ck9 := zk.cell 9; have ck10 := zk.cell 10; have ck11 := zk.cell 11; simp at ck0 ck1 ck2 ck3 ck4 ck5 ck6 ck7 ck8 ck9 ck10 ck11; go_simp; all_goals (with_reducible rfl))
              try simp only [Act.put, setIfInBounds_toArray, set_cons_zero, set_cons_succ]
              refine wpAnyH_take (i := 2) (oi := ⟨some 88, Op.fieldAddr 40 (.tmp 10) 1, 0, "outright.go:138", #[], none⟩) (v := ?v2vb) rfl (by kernel_rfl) (by kernel_rfl) (by kernel_rfl) (fun _ _ _ h => h) (Or.inl ⟨by rfl, ?hy2vb⟩) (by first | exact hS | assumption) ?rest2vb
              case hy2vb => (intro V2 hSw; (try dsimp only at hSw); go_simp; all_goals (with_reducible rfl))
              try simp only [Act.put, setIfInBounds_toArray, set_cons_zero, set_cons_succ]
              refine wpAnyH_take (i := 3) (oi := ⟨some 89, Op.load 26 (.tmp 88), 26, "outright.go:138", #[⟨2, .data⟩], none⟩) (v := ?v3vb) rfl (by kernel_rfl) (by kernel_rfl) (by kernel_rfl) (fun _ _ _ h => h) (Or.inl ⟨by rfl, ?hy3vb⟩) (by first | exact hS | assumption) ?rest3vb
              case hy3vb => (intro V2 hSw; (try dsimp only at hSw); have zk := hSw.blkAt (g := w2.heap.size) (t := 40) (cs := (dnc dd (.slice AL 1 cL) (.slice A1 n1 c1))) (by simp); have ck1 := zk.cell 1; have ck2 := zk.cell 2; simp at ck1 ck2; go_simp; all_goals (with_reducible rfl))
              try simp only [Act.put, setIfInBounds_toArray, set_cons_zero, set_cons_succ]
              refine wpAnyH_ready (rs := [1]) (by kernel_rfl) (by simp) ?_
              refine AllReadyH.cons (o := ⟨some 87, Op.call { callee := Callee.value (.func 26), args := #[Operand.tmp 86], argTypes := #[28] }, 26, "outright.go:138", #[⟨0, .data⟩], none⟩) rfl (fun K hK => ?_) AllReadyH.nil
              go_simp
              refine (pkTop ⟨y.id, z1, z2, z3, z4, z5, z6, z7, z8, z9, z10, z11⟩ _).mono ?_
              rintro e uT ⟨rfl, huT⟩
              refine hK.out _ _ (hS.keep huT) (fun hS => ?_)
              clear hK K
              try simp only [Act.put, setIfInBounds_toArray, set_cons_zero, set_cons_succ]
              clear huT
              refine wpAnyH_ready (rs := [4]) (by kernel_rfl) (by simp) ?_
              refine AllReadyH.cons (o := ⟨some 90, Op.call { callee := Callee.value (.func 22), args := #[Operand.tmp 87, Operand.tmp 89], argTypes := #[26, 26] }, 4, "outright.go:138", #[⟨1, .data⟩, ⟨3, .data⟩, ⟨1, .chain⟩], none⟩) rfl (fun K hK => ?_) AllReadyH.nil
              go_simp
              refine (HLS.out _).mono ?_
              rintro e uL ⟨rfl, huL⟩
              refine hK.out _ _ (hS.keep huL) (fun hS => ?_)
              clear hK K
              try simp only [Act.put, setIfInBounds_toArray, set_cons_zero, set_cons_succ]
              clear huL
              refine wpAnyH_take (i := 5) (oi := ⟨some 91, Op.unOp UnOp.not 4 (.tmp 90), 4, "outright.go:138", #[⟨4, .data⟩], none⟩) (v := ?v5vb) rfl (by kernel_rfl) (by kernel_rfl) (by kernel_rfl) (fun _ _ _ h => h) (Or.inl ⟨by rfl, ?hy5vb⟩) (by first | exact hS | assumption) ?rest5vb
              case hy5vb => (intro V2 hSw; (try dsimp only at hSw); go_simp; all_goals (with_reducible rfl))
              try simp only [Act.put, setIfInBounds_toArray, set_cons_zero, set_cons_succ]
              refine wpAnyH_take (i := 6) (oi := ⟨some 92, Op.move (.tmp 91), 4, "outright.go:138", #[⟨5, .data⟩, ⟨4, .chain⟩], none⟩) (v := ?v6vb) rfl (by kernel_rfl) (by kernel_rfl) (by kernel_rfl) (fun _ _ _ h => h) (Or.inl ⟨by rfl, ?hy6vb⟩) (by first | exact hS | assumption) ?rest6vb
              case hy6vb => (intro V2 hSw; (try dsimp only at hSw); go_simp; all_goals (with_reducible rfl))
              try simp only [Act.put, setIfInBounds_toArray, set_cons_zero, set_cons_succ]
              refine wpAnyH_take (i := 7) (oi := ⟨some 93, Op.fieldAddr 28 (.tmp 5) 0, 0, "outright.go:138", #[⟨6, .guard⟩], some (6, false)⟩) (v := ?v7vb) rfl (by kernel_rfl) (by kernel_rfl) (by kernel_rfl) (fun _ _ _ h => h) (Or.inl ⟨by rfl, ?hy7vb⟩) (by first | exact hS | assumption) ?rest7vb
              case hy7vb => (intro V2 hSw; (try dsimp only at hSw); go_simp; all_goals (with_reducible rfl))
              try simp only [Act.put, setIfInBounds_toArray, set_cons_zero, set_cons_succ]
              refine wpAnyH_take (i := 8) (oi := ⟨some 94, Op.load 3 (.tmp 93), 3, "outright.go:138", #[⟨7, .data⟩, ⟨6, .guard⟩], some (6, false)⟩) (v := ?v8vb) rfl (by kernel_rfl) (by kernel_rfl) (by kernel_rfl) (fun _ _ _ h => h) (Or.inl ⟨by rfl, ?hy8vb⟩) (by first | exact hS | assumption) ?rest8vb
              case hy8vb => (intro V2 hSw; (try dsimp only at hSw); have zk := hSw.blkAt (g := w.heap.size + 1) (t := 28) (cs := txc ⟨y.id, z1, z2, z3, z4, z5, z6, z7, z8, z9, z10, z11⟩) (by simp); have ck0 := zk.cell 0; simp at ck0; go_simp; all_goals (with_reducible rfl))
              try simp only [Act.put, setIfInBounds_toArray, set_cons_zero, set_cons_succ]
              refine wpAnyH_take (i := 9) (oi := ⟨some 95, Op.fieldAddr 30 (.tmp 4) 2, 0, "outright.go:138", #[⟨6, .guard⟩], some (6, false)⟩) (v := ?v9vb) rfl (by kernel_rfl) (by kernel_rfl) (by kernel_rfl) (fun _ _ _ h => h) (Or.inl ⟨by rfl, ?hy9vb⟩) (by first | exact hS | assumption) ?rest9vb
              case hy9vb => (intro V2 hSw; (try dsimp only at hSw); go_simp; all_goals (with_reducible rfl))
              try simp only [Act.put, setIfInBounds_toArray, set_cons_zero, set_cons_succ]
              refine wpAnyH_take (i := 10) (oi := ⟨some 96, Op.fieldAddr 28 (.tmp 95) 0, 0, "outright.go:138", #[⟨9, .data⟩, ⟨6, .guard⟩], some (6, false)⟩) (v := ?v10vb) rfl (by kernel_rfl) (by kernel_rfl) (by kernel_rfl) (fun _ _ _ h => h) (Or.inl ⟨by rfl, ?hy10vb⟩) (by first | exact hS | assumption) ?rest10vb
              case hy10vb => (intro V2 hSw; (try dsimp only at hSw); go_simp; all_goals (with_reducible rfl))
              try simp only [Act.put, setIfInBounds_toArray, set_cons_zero, set_cons_succ]
              refine wpAnyH_take (i := 11) (oi := ⟨some 97, Op.load 3 (.tmp 96), 3, "outright.go:138", #[⟨10, .data⟩, ⟨6, .guard⟩], some (6, false)⟩) (v := ?v11vb) rfl (by kernel_rfl) (by kernel_rfl) (by kernel_rfl) (fun _ _ _ h => h) (Or.inl ⟨by rfl, ?hy11vb⟩) (by first | exact hS | assumption) ?rest11vb
              case hy11vb => (intro V2 hSw; (try dsimp only at hSw); have zk := hSw.blkAt (g := w.heap.size) (t := 30) (cs := (askc key q s d y m1 m2)) (by simp); have ck4 := zk.cell 4; simp at ck4; go_simp; all_goals (with_reducible rfl))
              try simp only [Act.put, setIfInBounds_toArray, set_cons_zero, set_cons_succ]
              refine wpAnyH_take (i := 12) (oi := ⟨some 98, Op.binOp BinOp.eql 3 (.tmp 94) (.tmp 97) 3, 4, "outright.go:138", #[⟨8, .data⟩, ⟨11, .data⟩, ⟨6, .guard⟩], some (6, false)⟩) (v := .bool true) rfl (by kernel_rfl) (by kernel_rfl) (by kernel_rfl) (fun _ _ _ h => h) (Or.inl ⟨by rfl, ?hy12vb⟩) (by first | exact hS | assumption) ?rest12vb
              case hy12vb => (intro V2 hSw; (try dsimp only at hSw); go_simp; all_goals (with_reducible rfl))
              try simp only [Act.put, setIfInBounds_toArray, set_cons_zero, set_cons_succ]
              refine wpAnyH_take (i := 13) (oi := ⟨some 99, Op.pick (.tmp 92) (Operand.const (Value.bool true)) (.tmp 98), 4, "outright.go:138", #[⟨6, .data⟩, ⟨12, .data⟩], none⟩) (v := ?v13vb) rfl (by kernel_rfl) (by kernel_rfl) (by kernel_rfl) (fun _ _ _ h => h) (Or.inl ⟨by rfl, ?hy13vb⟩) (by first | exact hS | assumption) ?rest13vb
              case hy13vb => (intro V2 hSw; (try dsimp only at hSw); go_simp; all_goals (with_reducible rfl))
              try simp only [Act.put, setIfInBounds_toArray, set_cons_zero, set_cons_succ]
              refine wpAnyH_done (by kernel_rfl) ?_ _
              have HL := Lib.hid hS
              go_wp2_with fail
              refine (awake13 _ (hM.below HL.out.bel)).mono ?_
              rintro e w9 ⟨rfl, hb9⟩
              have hfin := (HL.out.keep hb9).bel
              clear hb9
              go_wp2_with fail
              go_ret
              exact ⟨rfl, hfin⟩
            have hid2 : (z.id == y.id) = false := by simpa using hid
            refine wp_region_held_drew (S := Has w (blkA w2.heap.size 40 (dnc dd (.slice AL 1 cL) (.slice A1 n1 c1)) :: tbA qt R0 :: tbA p r :: rtA b r :: blkA (w.heap.size + 1) 28 (txc z) :: blkA w.heap.size 30 (askc key q s d y m1 m2) :: [])) hmix (HHb.out.drew) (fun hS => ?_)
            simp only [List.size_toArray, List.length_cons, List.length_nil, Nat.reduceAdd, Array.replicate_succ, Array.replicate_zero]
            refine wpAnyH_take (i := 0) (oi := ⟨some 86, Op.load 28 (.tmp 5), 28, "outright.go:138", #[], none⟩) (v := ?v0xb) rfl (by kernel_rfl) (by kernel_rfl) (by kernel_rfl) (fun _ _ _ h => h) (Or.inl ⟨by rfl, ?hy0xb⟩) (by first | exact hS | assumption) ?rest0xb
            case hy0xb => (intro V2 hSw; (try dsimp only at hSw); have zk := hSw.blkAt (g := w.heap.size + 1) (t := 28) (cs := txc z) (by simp); have ck0 := zk.cell 0; have ck1 := zk.cell 1; have ck2 := zk.cell 2; have ck3 := zk.cell 3; have ck4 := zk.cell 4; have ck5 := zk.cell 5; have ck6 := zk.cell 6; have ck7 := zk.cell 7; have ck8 := zk.cell 8; have ck9 := zk.cell 9; have ck10 := zk.cell 10; have ck11 := zk.cell 11; simp at ck0 ck1 ck2 ck3 ck4 ck5 ck6 ck7 ck8 ck9 ck10 ck11; go_simp; all_goals (with_reducible rfl))
            try simp only [Act.put, setIfInBounds_toArray, set_cons_zero, set_cons_succ]
            refine wpAnyH_take (i := 2) (oi := ⟨some 88, Op.fieldAddr 40 (.tmp 10) 1, 0, "outright.go:138", #[], none⟩) (v := ?v2xb) rfl (by kernel_rfl) (by kernel_rfl) (by kernel_rfl) (fun _ _ _ h => h) (Or.inl ⟨by rfl, ?hy2xb⟩) (by first | exact hS | assumption) ?rest2xb
            case hy2xb => (intro V2 hSw; (try dsimp only at hSw); go_simp; all_goals (with_reducible rfl))
            try simp only [Act.put, setIfInBounds_toArray, set_cons_zero, set_cons_succ]
            refine wpAnyH_take (i := 3) (oi := ⟨some 89, Op.load 26 (.tmp 88), 26, "outright.go:138", #[⟨2, .data⟩], none⟩) (v := ?v3xb) rfl (by kernel_rfl) (by kernel_rfl) (by kernel_rfl) (fun _ _ _ h => h) (Or.inl ⟨by rfl, ?hy3xb⟩) (by first | exact hS | assumption) ?rest3xb
            case hy3xb => (intro V2 hSw; (try dsimp only at hSw); have zk := hSw.blkAt (g := w2.heap.size) (t := 40) (cs := (dnc dd (.slice AL 1 cL) (.slice A1 n1 c1))) (by simp); have ck1 := zk.cell 1; have ck2 := zk.cell 2; simp at ck1 ck2; go_simp; all_goals (with_reducible rfl))
            try simp only [Act.put, setIfInBounds_toArray, set_cons_zero, set_cons_succ]
            refine wpAnyH_ready (rs := [1]) (by kernel_rfl) (by simp) ?_
            refine AllReadyH.cons (o := ⟨some 87, Op.call { callee := Callee.value (.func 26), args := #[Operand.tmp 86], argTypes := #[28] }, 26, "outright.go:138", #[⟨0, .data⟩], none⟩) rfl (fun K hK => ?_) AllReadyH.nil
            go_simp
            refine (pkTop z _).mono ?_
            rintro e uT ⟨rfl, huT⟩
            refine hK.out _ _ (hS.keep huT) (fun hS => ?_)
            clear hK K
            try simp only [Act.put, setIfInBounds_toArray, set_cons_zero, set_cons_succ]
            clear huT
            refine wpAnyH_ready (rs := [4]) (by kernel_rfl) (by simp) ?_
            refine AllReadyH.cons (o := ⟨some 90, Op.call { callee := Callee.value (.func 22), args := #[Operand.tmp 87, Operand.tmp 89], argTypes := #[26, 26] }, 4, "outright.go:138", #[⟨1, .data⟩, ⟨3, .data⟩, ⟨1, .chain⟩], none⟩) rfl (fun K hK => ?_) AllReadyH.nil
            go_simp
            refine (HLS.out _).mono ?_
            rintro e uL ⟨rfl, huL⟩
            refine hK.out _ _ (hS.keep huL) (fun hS => ?_)
            clear hK K
            try simp only [Act.put, setIfInBounds_toArray, set_cons_zero, set_cons_succ]
            clear huL
            refine wpAnyH_take (i := 5) (oi := ⟨some 91, Op.unOp UnOp.not 4 (.tmp 90), 4, "outright.go:138", #[⟨4, .data⟩], none⟩) (v := ?v5xb) rfl (by kernel_rfl) (by kernel_rfl) (by kernel_rfl) (fun _ _ _ h => h) (Or.inl ⟨by rfl, ?hy5xb⟩) (by first | exact hS | assumption) ?rest5xb
            case hy5xb => (intro V2 hSw; (try dsimp only at hSw); go_simp; all_goals (with_reducible rfl))
            try simp only [Act.put, setIfInBounds_toArray, set_cons_zero, set_cons_succ]
            refine wpAnyH_take (i := 6) (oi := ⟨some 92, Op.move (.tmp 91), 4, "outright.go:138", #[⟨5, .data⟩, ⟨4, .chain⟩], none⟩) (v := ?v6xb) rfl (by kernel_rfl) (by kernel_rfl) (by kernel_rfl) (fun _ _ _ h => h) (Or.inl ⟨by rfl, ?hy6xb⟩) (by first | exact hS | assumption) ?rest6xb
            case hy6xb => (intro V2 hSw; (try dsimp only at hSw); go_simp; all_goals (with_reducible rfl))
            try simp only [Act.put, setIfInBounds_toArray, set_cons_zero, set_cons_succ]
            refine wpAnyH_take (i := 7) (oi := ⟨some 93, Op.fieldAddr 28 (.tmp 5) 0, 0, "outright.go:138", #[⟨6, .guard⟩], some (6, false)⟩) (v := ?v7xb) rfl (by kernel_rfl) (by kernel_rfl) (by kernel_rfl) (fun _ _ _ h => h) (Or.inl ⟨by rfl, ?hy7xb⟩) (by first | exact hS | assumption) ?rest7xb
            case hy7xb => (intro V2 hSw; (try dsimp only at hSw); go_simp; all_goals (with_reducible rfl))
            try simp only [Act.put, setIfInBounds_toArray, set_cons_zero, set_cons_succ]
            refine wpAnyH_take (i := 8) (oi := ⟨some 94, Op.load 3 (.tmp 93), 3, "outright.go:138", #[⟨7, .data⟩, ⟨6, .guard⟩], some (6, false)⟩) (v := ?v8xb) rfl (by kernel_rfl) (by kernel_rfl) (by kernel_rfl) (fun _ _ _ h => h) (Or.inl ⟨by rfl, ?hy8xb⟩) (by first | exact hS | assumption) ?rest8xb
            case hy8xb => (intro V2 hSw; (try dsimp only at hSw); have zk := hSw.blkAt (g := w.heap.size + 1) (t := 28) (cs := txc z) (by simp); have ck0 := zk.cell 0; simp at ck0; go_simp; all_goals (with_reducible rfl))
            try simp only [Act.put, setIfInBounds_toArray, set_cons_zero, set_cons_succ]
            refine wpAnyH_take (i := 9) (oi := ⟨some 95, Op.fieldAddr 30 (.tmp 4) 2, 0, "outright.go:138", #[⟨6, .guard⟩], some (6, false)⟩) (v := ?v9xb) rfl (by kernel_rfl) (by kernel_rfl) (by kernel_rfl) (fun _ _ _ h => h) (Or.inl ⟨by rfl, ?hy9xb⟩) (by first | exact hS | assumption) ?rest9xb
            case hy9xb => (intro V2 hSw; (try dsimp only at hSw); go_simp; all_goals (with_reducible rfl))
            try simp only [Act.put, setIfInBounds_toArray, set_cons_zero, set_cons_succ]
            refine wpAnyH_take (i := 10) (oi := ⟨some 96, Op.fieldAddr 28 (.tmp 95) 0, 0, "outright.go:138", #[⟨9, .data⟩, ⟨6, .guard⟩], some (6, false)⟩) (v := ?v10xb) rfl (by kernel_rfl) (by kernel_rfl) (by kernel_rfl) (fun _ _ _ h => h) (Or.inl ⟨by rfl, ?hy10xb⟩) (by first | exact hS | assumption) ?rest10xb
            case hy10xb => (intro V2 hSw; (try dsimp only at hSw); go_simp; all_goals (with_reducible rfl))
            try simp only [Act.put, setIfInBounds_toArray, set_cons_zero, set_cons_succ]
            refine wpAnyH_take (i := 11) (oi := ⟨some 97, Op.load 3 (.tmp 96), 3, "outright.go:138", #[⟨10, .data⟩, ⟨6, .guard⟩], some (6, false)⟩) (v := ?v11xb) rfl (by kernel_rfl) (by kernel_rfl) (by kernel_rfl) (fun _ _ _ h => h) (Or.inl ⟨by rfl, ?hy11xb⟩) (by first | exact hS | assumption) ?rest11xb
            case hy11xb => (intro V2 hSw; (try dsimp only at hSw); have zk := hSw.blkAt (g := w.heap.size) (t := 30) (cs := (askc key q s d y m1 m2)) (by simp); have ck4 := zk.cell 4; simp at ck4; go_simp; all_goals (with_reducible rfl))
            try simp only [Act.put, setIfInBounds_toArray, set_cons_zero, set_cons_succ]
            refine wpAnyH_take (i := 12) (oi := ⟨some 98, Op.binOp BinOp.eql 3 (.tmp 94) (.tmp 97) 3, 4, "outright.go:138", #[⟨8, .data⟩, ⟨11, .data⟩, ⟨6, .guard⟩], some (6, false)⟩) (v := .bool false) rfl (by kernel_rfl) (by kernel_rfl) (by kernel_rfl) (fun _ _ _ h => h) (Or.inl ⟨by rfl, ?hy12xb⟩) (by first | exact hS | assumption) ?rest12xb
            case hy12xb => (intro V2 hSw; (try dsimp only at hSw); go_simp; all_goals (with_reducible rfl))
            try simp only [Act.put, setIfInBounds_toArray, set_cons_zero, set_cons_succ]
            refine wpAnyH_take (i := 13) (oi := ⟨some 99, Op.pick (.tmp 92) (Operand.const (Value.bool true)) (.tmp 98), 4, "outright.go:138", #[⟨6, .data⟩, ⟨12, .data⟩], none⟩) (v := ?v13xb) rfl (by kernel_rfl) (by kernel_rfl) (by kernel_rfl) (fun _ _ _ h => h) (Or.inl ⟨by rfl, ?hy13xb⟩) (by first | exact hS | assumption) ?rest13xb
            case hy13xb => (intro V2 hSw; (try dsimp only at hSw); go_simp; all_goals (with_reducible rfl))
            try simp only [Act.put, setIfInBounds_toArray, set_cons_zero, set_cons_succ]
            refine wpAnyH_done (by kernel_rfl) ?_ _
            have HL := Lib.hid hS
            have zz := HL.out.blkAt (g := w.heap.size + 1) (t := 28) (cs := (txc z)) (by simp)
            have t0 := zz.cell 0
            simp at t0
            clear zz
            have zz := HL.out.blkAt (g := w.heap.size) (t := 30) (cs := (askc key q s d y m1 m2)) (by simp)
            have a0 := zz.cell 0
            have a4 := zz.cell 4
            simp at a0 a4
            clear zz
            have HAP := Lib.hid (HAP0.out hid rfl)
            have hlt := Lib.hid (HL.out.blkAt (g := w.heap.size + 1) (t := 28) (cs := (txc z)) (by simp))
            go_wp2_with (refine wpList_load_row rfl 28 _ rfl (w.heap.size + 1) rfl 28 (txc z) (0, 0) _ hlt.out Tryz.underlying28 rfl (by kernel_rfl) ?_)
            clear hlt t0 a0 a4 hid2
            refine (HG1.out _ _ _ (HL.out.perm (List.perm_middle (l₁ := [_, _])))).mono ?_
            rintro e w7 ⟨⟨A7, n7, c7, rfl, -, -⟩, h7⟩
            have H7 := Lib.hid (h7.newBlk 73 (fdc F1 (.slice A7 n7 c7)))
            clear h7 HL
            have zz := H7.out.blkAt (g := w.heap.size) (t := 30) (cs := (askc key q s d y m1 m2)) (by simp)
            have a0 := zz.cell 0
            simp at a0
            clear zz
            have hlt := Lib.hid (H7.out.blkAt (g := w.heap.size + 1) (t := 28) (cs := (txc z)) (by simp))
            go_wp2_with (refine wpList_load_row rfl 28 _ rfl (w.heap.size + 1) rfl 28 (txc z) (0, 0) _ hlt.out Tryz.underlying28 rfl (by kernel_rfl) ?_)
            clear hlt a0
            refine (HG2.out _ _ _ (H7.out.perm (List.perm_middle (l₁ := [_, _, _])))).mono ?_
            rintro e w8 ⟨⟨A8, n8, c8, rfl, -, -⟩, h8⟩
            have H8 := Lib.hid (h8.newBlk 73 (fdc F2 (.slice A8 n8 c8)))
            clear h8 H7
            rcases HAP.out with ⟨h120, hway⟩ | hsame
            · (try simp only at h120 hway)
              subst h120
              have zz := H8.out.blkAt (g := w.heap.size) (t := 30) (cs := (askc key q s d y m1 m2)) (by simp)
              have a4 := zz.cell 4
              simp at a4
              clear zz
              have zz := H8.out.blkAt (g := w7.heap.size) (t := 73) (cs := (fdc F1 (.slice A7 n7 c7))) (by simp)
              have p6 := zz.cell 6
              simp at p6
              clear zz
              have zz := H8.out.blkAt (g := w8.heap.size) (t := 73) (cs := (fdc F2 (.slice A8 n8 c8))) (by simp)
              have s6 := zz.cell 6
              simp at s6
              clear zz
              rw [hway] at p6
              clear hway HAP
              go_wp2_with fail
              refine (awake13 _ (hM.below H8.out.bel)).mono ?_
              rintro e w9 ⟨rfl, hb9⟩
              have hfin := (H8.out.keep hb9).bel
              clear hb9
              go_wp2_with fail
              go_ret
              exact ⟨rfl, hfin⟩
            · injection hsame with hs1 hs2
              clear HAP
              subst hs1 hs2
              by_cases h120 : k1 = 120
              · subst h120
                have zz := H8.out.blkAt (g := w.heap.size) (t := 30) (cs := (askc key q s d y m1 m2)) (by simp)
                have a4 := zz.cell 4
                simp at a4
                clear zz
                have zz := H8.out.blkAt (g := w7.heap.size) (t := 73) (cs := (fdc F1 (.slice A7 n7 c7))) (by simp)
                have p6 := zz.cell 6
                simp at p6
                clear zz
                have zz := H8.out.blkAt (g := w8.heap.size) (t := 73) (cs := (fdc F1 (.slice A8 n8 c8))) (by simp)
                have s6 := zz.cell 6
                simp at s6
                clear zz
                by_cases hw9 : F1.it.id = y.id
                · rw [hw9] at p6
                  clear hw9
                  go_wp2_with fail
                  refine (awake13 _ (hM.below H8.out.bel)).mono ?_
                  rintro e w9 ⟨rfl, hb9⟩
                  have hfin := (H8.out.keep hb9).bel
                  clear hb9
                  go_wp2_with fail
                  go_ret
                  exact ⟨rfl, hfin⟩
                · have hw8 : (F1.it.id == y.id) = false := by simpa using hw9
                  go_wp2_with fail
                  refine (awake13 _ (hM.below H8.out.bel)).mono ?_
                  rintro e w9 ⟨rfl, hb9⟩
                  have hfin := (H8.out.keep hb9).bel
                  clear hb9
                  go_wp2_with fail
                  go_ret
                  exact ⟨rfl, hfin⟩
              · have h121 : (k1 == 120) = false := by simpa using h120
                have zz := H8.out.blkAt (g := w7.heap.size) (t := 73) (cs := (fdc F1 (.slice A7 n7 c7))) (by simp)
                have p1 := zz.cell 1
                have p2 := zz.cell 2
                have p4 := zz.cell 4
                have p5 := zz.cell 5
                simp at p1 p2 p4 p5
                clear zz
                have zz := H8.out.blkAt (g := w8.heap.size) (t := 73) (cs := (fdc F1 (.slice A8 n8 c8))) (by simp)
                have s1 := zz.cell 1
                have s2 := zz.cell 2
                have s4 := zz.cell 4
                have s5 := zz.cell 5
                simp at s1 s2 s4 s5
                clear zz
                have HEQ := run_eqSt3 F1.sw F1.sl
                go_wp2_with fail
                refine (awake13 _ (hM.below H8.out.bel)).mono ?_
                rintro e w9 ⟨rfl, hb9⟩
                have hfin := (H8.out.keep hb9).bel
                clear hb9
                go_wp2_with fail
                go_ret
                exact ⟨rfl, hfin⟩
      have hjl := c1'
      obtain ⟨B, o, hA4, hc⟩ := HW.out.2 (by omega)
      subst hA4
      obtain ⟨d0, d1⟩ := hc j hjl
      have hsu := Lib.hid (cnt_succ r R0 j hjl)
      rw [hcm] at hsu
      have hmj : m ≤ j := by rw [← hcm]; exact Nat.le_trans List.countP_le_length (by simp; omega)
      generalize R0[j]'hjl = x at *
      clear hc hcm
      go_wp2_with fail
      refine (Has.tbGetJ (p := p) (r := r) HH.out (by simp) _).mono ?_
      rintro e w5 ⟨rfl, h5, hb5⟩
      have e1 := (hb5.cell (World.block_lt_of_cell? _ _ d1)).trans d1
      have HW5 := Lib.hid (HW.out.below hb5)
      clear HW d0 d1 hb5 HH
      have HCG := Lib.hid (show chgd r x = !(rhas r x.key && decide (rval r x.key = x.value)) from rfl)
      generalize chgd r x = cg at *
      generalize rval r x.key = sv' at *
      generalize rhas r x.key = hv' at *
      cases hv' with
      | false =>
        have hsu := Lib.hid (show (R0.take (j + 1)).countP (chgd r) = m + 1 by have h1 := hsu.out; rw [HCG.out] at h1; simpa using h1)
        go_wp2_with fail
        go_roundw
        case rel => exact ⟨j + 1, m + 1, by omega, by go_num, by go_num, hsu.out, Lib.hid h5, HW5⟩
        case measure => simp [intOf]; omega
      | true =>
        by_cases hve : sv' = x.value
        · have hsu := Lib.hid (show (R0.take (j + 1)).countP (chgd r) = m by have h1 := hsu.out; rw [HCG.out] at h1; simpa [hve] using h1)
          subst hve
          go_wp2_with fail
          go_roundw
          case rel => exact ⟨j + 1, m, by omega, by go_num, rfl, hsu.out, Lib.hid h5, HW5⟩
          case measure => simp [intOf]; omega
        · have hsu := Lib.hid (show (R0.take (j + 1)).countP (chgd r) = m + 1 by have h1 := hsu.out; rw [HCG.out] at h1; simpa [hve] using h1)
          have hvl : (sv'.toList == x.value.toList) = false := by
            rw [beq_eq_false_iff_ne]
            intro e
            apply hve
            rw [Lib.toList_data, Lib.toList_data] at e
            have e2 := congrArg bs e
            rwa [show bs sv'.data.toList = sv' from bs_sb sv', show bs x.value.data.toList = x.value from bs_sb _] at e2
          go_wp2_with fail
          go_roundw
          case rel => exact ⟨j + 1, m + 1, by omega, by go_num, by go_num, hsu.out, Lib.hid h5, HW5⟩
          case measure => simp [intOf]; omega
  · have hk3 : (kk == 0) = false := by simpa using hk
    clear hp
    obtain ⟨x0, x1, x2, x3, x4, x5, x6, x7, x8, x9, x10, x11⟩ := y
    go_enter Tryz.func6, Tryz.ntmps6
    go_wp2_with fail
    refine (HTB.out _ H0.out.bel).mono ?_
    rintro e w1 ⟨p, b, rfl, h1⟩
    have H1 := Lib.hid (show Has w (tbA p r :: rtA b r :: blkA (w.heap.size + 1) 28 (txc z) :: blkA w.heap.size 30 (askc key q s d ⟨x0, x1, x2, x3, x4, x5, x6, x7, x8, x9, x10, x11⟩ m1 m2) :: []) w1 from H0.out.join h1)
    clear h1
    have hla := Lib.hid (H1.out.blkAt (g := w.heap.size) (t := 30) (cs := (askc key q s d ⟨x0, x1, x2, x3, x4, x5, x6, x7, x8, x9, x10, x11⟩ m1 m2)) (by simp))
    go_wp2_with (refine wpList_load_row rfl 30 _ rfl (w.heap.size) rfl 30 (askc key q s d ⟨x0, x1, x2, x3, x4, x5, x6, x7, x8, x9, x10, x11⟩ m1 m2) (0, 0) _ hla.out Tryz.underlying30 rfl (by kernel_rfl) ?_)
    clear hla
    refine (HP1.out _ _ H1.out).mono ?_
    rintro e w2 ⟨qt, AL, nL, cL, A1, n1, c1, rfl, hnL, h2⟩
    rw [if_neg hk] at h2
    have HF := Lib.hid (h2.newBlk 40 (dnc dd (.slice AL nL cL) (.slice A1 n1 c1)))
    clear h2 hnL
    go_wp2_with fail
    refine (awake13 _ (hM.below HF.out.bel)).mono ?_
    rintro e w9 ⟨rfl, hb9⟩
    have hfin := (HF.out.keep hb9).bel
    clear hb9
    go_wp2_with fail
    go_ret
    exact ⟨rfl, hfin⟩
end Go.Proofs.YtgccichmdddbpaaGreatDoor
