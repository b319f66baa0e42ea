/-
  Layer 10: TableDoes, walked (written by wip/genvtd.py).
-/
import Derived.Test.YtgakkeeeadndkaaTbOps
set_option linter.unusedVariables false
namespace Go.Proofs.Ytgakkeeeadndkaa
open Go.RowKit Go.Shelf

section
variable {w V V' : World} {p b m c : Nat} {A : Option Addr} {r : List Rw} {l : List Op_} {x y : Bool}
/-- Where the two tables stand, the batch in a row of its own beside them. -/
def TD (w : World) (p b : Nat) (v : Value) (r r' : List Rw) (l : List Op_) (x y : Bool) (V : World) : Prop := Has w [tbA p (if x then r' else r), rtA b (if y then r' else r), opA v l] V
theorem TD.bel {v : Value} {r' : List Rw} (h : TD w p b v r r' l x y V) : Below w.heap.size w V := Has.bel h
theorem TD.appA {N : Nat} {r' : List Rw} (h : TD w p b (.slice A m c) r r' l false y V) (hr' : rapp r l = r') (hr : ROk N r) (hN : N ≤ 999999000) (hm : m = l.length) (hn : m ≤ 9223372036854775807) (hs : OSz l) :
    Calls Try.prog 14 #[pt p, .slice A m c] V fun e w' => e = .returned (.int .i64 (chk l)) ∧ TD w p b (.slice A m c) r r' l true y w' ∧ Below w.heap.size w w' := by
  subst hr'
  have h2 := Has.perm (l' := [tbA p r, opA (.slice A m c) l, rtA b (if y then rapp r l else r)]) h (List.Perm.cons _ (List.Perm.swap _ _ _))
  refine (h2.tbApplyB hr hN A m c l (fun W F2 h3 => opA_at h3 hm) hn hs).mono ?_
  rintro e w' ⟨rfl, h3, _⟩
  exact ⟨rfl, h3.perm (List.Perm.cons _ (List.Perm.swap _ _ _)), h3.bel⟩
theorem TD.appB {v : Value} {r' : List Rw} (h : TD w p b v r r' l x false V) (hr' : rapp r l = r') (hr : r.length ≤ 999999000) (A' : Option Addr) (n c' : Nat) (ho : OAt w A' n l) (hn : n ≤ 9223372036854775807) :
    Calls Try.prog 15 #[pt b, .slice A' n c'] V fun e w' => e = .returned (.int .i64 (chk l)) ∧ TD w p b v r r' l x true w' ∧ Below w.heap.size w w' := by
  subst hr'
  refine (Has.rtApply (Has.swap h) hr A' n c' l ho hn).mono ?_
  rintro e w' ⟨rfl, h2, _⟩
  exact ⟨rfl, Has.swap h2, Has.bel h2⟩
theorem TD.lenA {v : Value} {r' : List Rw} (h : TD w p b v r r' l true true V) : Calls Try.prog 16 #[pt p] V fun e w' => e = .returned (.int .i64 (r'.length : Int)) ∧ TD w p b v r r' l true true w' ∧ Below w.heap.size w w' := by
  refine (Has.tbLenM (l := [tbA p r', rtA b r', opA v l]) (p := p) (r := r') h (by simp)).mono ?_
  rintro e w' ⟨rfl, rfl⟩
  exact ⟨rfl, h, Has.bel h⟩
theorem TD.lenB {v : Value} {r' : List Rw} (h : TD w p b v r r' l true true V) : Calls Try.prog 17 #[pt b] V fun e w' => e = .returned (.int .i64 (r'.length : Int)) ∧ TD w p b v r r' l true true w' ∧ Below w.heap.size w w' := by
  refine (Has.rtLenM (l := [tbA p r', rtA b r', opA v l]) (b := b) (r := r') h (by simp)).mono ?_
  rintro e w' ⟨rfl, rfl⟩
  exact ⟨rfl, h, Has.bel h⟩
end
theorem drop_get {α : Type} {L l : List α} {j : Nat} (h : L.drop j = l.drop j) (h1 : j < L.length) (h2 : j < l.length) : L[j]'h1 = l[j]'h2 := by
  rw [List.drop_eq_getElem_cons h1, List.drop_eq_getElem_cons h2] at h
  injection h
theorem drop_set {α : Type} {L l : List α} {j : Nat} (h : L.drop j = l.drop j) (x : α) : (L.set j x).drop (j + 1) = l.drop (j + 1) := by
  have e : ∀ X : List α, X.drop (j + 1) = (X.drop j).drop 1 := fun X => by rw [List.drop_drop]
  rw [List.drop_set_of_lt (by omega), e, e, h]
set_option maxRecDepth 100000 in
set_option maxHeartbeats 8000000 in
theorem tableDoes_w (seed : Int) (A : Option Addr) (n c : Nat) (w : World) (bs : List (List Op_)) (hb : BAt w A n bs) (hz : ∀ b ∈ bs, OSz b) (hbig : ∀ b ∈ bs, b.length * 40 ≤ 140737488351232) (hn : n ≤ 9223372036854775807) :
    Calls Try.prog 3 #[.int .i64 seed, .slice A n c] w fun e w' => e = .returned (.bool true) ∧ Below w.heap.size w w' := by
  have h0 : Has w [] w := Has.nil (Below.refl _ _)
  have HBAT := Lib.hid hb
  have HZ := Lib.hid hz
  have HBG := Lib.hid hbig
  have HLN := Lib.hid hb.1
  clear hb hz hbig
  go_enter Try.func3, Try.ntmps3
  go_wp2_with (first
    | (go_at_call 12; refine (h0.tbNew seed).mono ?_; rintro e w1 ⟨p, rfl, h1⟩)
    | (go_at_call 13; refine (h1.rtNew seed).mono ?_; rintro e w2 ⟨b, rfl, h2⟩; have H2 := Lib.hid h2.swap; clear h0 h1 h2))
  go_loopw [7] (fun i wr => ∃ k : Nat, k ≤ n ∧ k ≤ 30 ∧ i = .int .i64 k ∧ Hid (Has w [tbA p (tabs bs k), rtA b (tabs bs k)] wr)) (fun i _ => n - (intOf i).toNat)
  case atStart => exact ⟨0, Nat.zero_le _, Nat.zero_le _, rfl, H2⟩
  case round =>
    obtain ⟨k, hk, hk30, rfl, HH⟩ := hrel
    by_cases hlt : k < n ∧ k < 30
    · obtain ⟨hlt, hlt30⟩ := hlt
      have e1 : k < bs.length := by rw [HLN.out]; exact hlt
      obtain ⟨bb, o, rfl, hc⟩ := HBAT.out.2 (by omega)
      obtain ⟨Ai, ci, z0, hops, hci1, hci2⟩ := hc k e1
      have hok := tabs_ok HZ.out k
      have hlen := hok.len
      have hsz := HZ.out _ (List.getElem_mem e1)
      have hbg := HBG.out _ (List.getElem_mem e1)
      have hsc := tabs_succ e1
      have hok2 := tabs_ok HZ.out (k + 1)
      have hlen2 := hok2.len
      rw [hsc] at hok2 hlen2
      have HSZ2 := Lib.hid hok2.szs
      have HC := Lib.hid (fun V (hb : Below w.heap.size w V) => (show V.cell? ⟨bb, o + k, none⟩ = some (.slice Ai (bs[k]'e1).length ci) ∧ OAt V Ai (bs[k]'e1).length (bs[k]'e1) from ⟨(hb.cell (World.block_lt_of_cell? w _ z0)).trans z0, hops.below hb⟩))
      have HOP := Lib.hid hops
      obtain ⟨z1, hops1⟩ := HC.out wr HH.out.bel
      have HOP1 := Lib.hid hops1
      have hfin : ∀ W, Has w [tbA p (rapp (tabs bs k) (bs[k]'e1)), rtA b (rapp (tabs bs k) (bs[k]'e1))] W → Has w [tbA p (tabs bs (k + 1)), rtA b (tabs bs (k + 1))] W := fun W h => by rw [hsc]; exact h
      have HF := Lib.hid hfin
      have i1 : (0 : Int) ≤ (k : Int) := by omega
      have i2 : (k : Int) < (n : Int) := by omega
      have HOK := Lib.hid hok
      have HOS := Lib.hid hsz
      clear hc hops hops1 hok hsc hfin z0 hok2 hsz
      generalize bs[k]'e1 = l at *
      obtain ⟨m, hm⟩ : ∃ m, m = l.length := ⟨_, rfl⟩
      rw [← hm] at HC HOP HOP1 z1 hci1 hbg
      have HMM := Lib.hid hm
      generalize hR' : rapp (tabs bs k) l = R' at *
      have HR' := Lib.hid hR'
      generalize tabs bs k = R at *
      have b0 : ((((chk l) : Nat) : Int) != (((chk l) : Nat) : Int)) = false := by simp
      have b1 : ((R'.length : Int) != (R'.length : Int)) = false := by simp
      clear e1 hR' hm
      go_wp2_with (first
        | (at_builtin; refine wpList_appO rfl _ _ rfl rfl Ai m ci l rfl HOP1.out (by omega) ?_; intro v3 w3 hr3 hb3; have h3 := HH.out.newOp (L := l) (by rw [← HMM.out]; exact hr3) hb3; obtain ⟨A3, c3, hv3, hat3, hc3, hcm3, -, -⟩ := OAt.own hr3; subst hv3; have H3 := Lib.hid h3; clear hr3 hb3 h3 hat3))
      have hP : TD w p b (.slice A3 m c3) R R' l false false w3.drew := Has.drew (H3.out.perm (l' := [tbA p R, rtA b R, opA (.slice A3 m c3) l]) (List.perm_append_comm (l₁ := [_]) (l₂ := [_, _])))
      have hS : w3.drew.cell? ⟨bb, o + k, none⟩ = some (.slice Ai m ci) := (HC.out _ hP.bel).1
      have z3 : w3.cell? ⟨bb, o + k, none⟩ = some (.slice Ai m ci) := (HC.out _ H3.out.bel).1
      have HA1 := Lib.hid (fun W y (h : TD w p b (.slice A3 m c3) R R' l false y W) => h.appA HR'.out HOK.out (by omega) HMM.out (by omega) HOS.out)
      have HB1 := Lib.hid (fun W x (h : TD w p b (.slice A3 m c3) R R' l x false W) => h.appB HR'.out (by omega) Ai m ci HOP.out (by omega))
      clear H3
      clear HH HOP1 HOK HOP HR' HOS
      have HCK := Lib.hid (rfl : ((chk l : Nat) : Int) = ((chk l : Nat) : Int))
      generalize ((chk l : Nat) : Int) = ee at *
      clear HCK
      go_region_held3 (fun W => W.cell? ⟨bb, o + k, none⟩ = some (.slice Ai m ci))
        (first | with_reducible assumption | with_reducible exact hS)
        (first
          | (go_at_call 14; (with_reducible refine (HA1.out _ _ (by with_reducible assumption)).mono ?_); rintro e w8 ⟨rfl, hP8, hb8⟩; have hS8 := (HC.out _ hb8).1; clear hb8)
          | (go_at_call 15; (with_reducible refine (HB1.out _ _ (by with_reducible assumption)).mono ?_); rintro e w9 ⟨rfl, hP9, hb9⟩; have hS9 := (HC.out _ hb9).1; clear hb9)
          | (go_at_call 16; (with_reducible refine (TD.lenA (by with_reducible assumption)).mono ?_); rintro e w10 ⟨rfl, hP10, hb10⟩; have hS10 := (HC.out _ hb10).1; clear hb10)
          | (go_at_call 17; (with_reducible refine (TD.lenB (by with_reducible assumption)).mono ?_); rintro e w11 ⟨rfl, hP11, hb11⟩; have hS11 := (HC.out _ hb11).1; clear hb11))
      have H11 := Lib.hid (Has.perm (l' := [opA (.slice A3 m c3) l, tbA p R', rtA b R']) (show Has w [tbA p R', rtA b R', opA (.slice A3 m c3) l] w11 from hP11) (List.perm_append_comm (l₁ := [_, _]) (l₂ := [_])))
      clear hP hS z3 HA1 HB1 hP8 hS8 hP9 hS9 hP10 hS10 hP11 hS11 b0 b1
      go_wp2_with fail
      go_loopw [9] (fun i wr => ∃ (j : Nat) (L : List Op_), j ≤ m ∧ i = .int .i64 j ∧ Hid (L.length = m ∧ L.drop j = l.drop j) ∧ Hid (Has w [opA (.slice A3 m c3) L, tbA p R', rtA b R'] wr)) (fun i _ => m - (intOf i).toNat)
      case atStart => exact ⟨0, l, Nat.zero_le _, rfl, Lib.hid ⟨HMM.out.symm, rfl⟩, H11⟩
      case round =>
        obtain ⟨j, L, hj, rfl, HL, HH⟩ := hrel
        obtain ⟨z4, hat4⟩ := HC.out wr HH.out.bel
        by_cases hjm : j < m
        · have e1 : j < L.length := by rw [HL.out.1]; exact hjm
          have e2 : j < l.length := by rw [← HMM.out]; exact hjm
          have heq := drop_get HL.out.2 e1 e2
          obtain ⟨A5, c5, hv5, hat5, -, -, hq5, hf5⟩ := OAt.own (HH.out.opRow (v := .slice A3 m c3) (L := L) (by simp))
          rw [HL.out.1] at hv5 hat5 hq5
          injection hv5 with hv5 _ hv6
          subst hv5
          obtain ⟨q, rfl⟩ := hq5 (by omega)
          obtain ⟨b5, o5, he5, hc5⟩ := hat5.2 (by omega)
          injection he5 with he5
          injection he5 with he5 he6
          subst he5 he6
          obtain ⟨x0, x1, x2⟩ := hc5 j e1
          simp only [Nat.zero_add] at x0 x1 x2
          obtain ⟨b6, o6, rfl, hc6⟩ := hat4.2 (by omega)
          obtain ⟨y0, y1, y2⟩ := hc6 j e2
          have f0 := hf5 q rfl (j * 3)
          have f1 := hf5 q rfl (j * 3 + 1)
          have f2 := hf5 q rfl (j * 3 + 2)
          rw [heq] at x0 x1 x2
          have SO := Lib.hid (fun (V : World) (h : Has w [opA (.slice (some ⟨q, 0, none⟩) m c3) L, tbA p R', rtA b R'] V) (k u : ByteArray) (d : Bool) => h.setOp (q := q) (c := c3) (by rw [HL.out.1]) j e1 k u d)
          have HL2 := Lib.hid (fun (x : Op_) => (show (L.set j x).length = m ∧ (L.set j x).drop (j + 1) = l.drop (j + 1) from ⟨by rw [List.length_set]; exact HL.out.1, drop_set HL.out.2 x⟩))
          have NB := fun V => run_neOp (l[j]'e2).key (l[j]'e2).value (l[j]'e2).key (l[j]'e2).value (l[j]'e2).del (l[j]'e2).del V
          rw [decide_eq_false (fun h => h rfl)] at NB
          have j1 : (0 : Int) ≤ (j : Int) := by omega
          have j2 : (j : Int) < (m : Int) := by omega
          clear hc5 hc6 heq hat4 hat5 hq5 hf5 e1 hv6
          generalize l[j]'e2 = op at *
          obtain ⟨key, value, del⟩ := op
          simp only at x0 x1 x2 y0 y1 y2 NB
          go_wp2_with fail
          go_quiet (fail)
          have HW := Lib.hid (SO.out _ (HH.out.drewN nq) ⟨#[115, 112, 111, 105, 108, 116]⟩ ⟨#[]⟩ false)
          go_wp2_with fail
          go_roundw
          case rel => exact ⟨j + 1, _, by omega, by go_num, Lib.hid (HL2.out _), HW⟩
          case measure => simp [intOf]; omega
        · obtain rfl : j = m := by omega
          have HX := Lib.hid HH.out.tail
          have hl3 : R'.length ≤ 3840 := by omega
          clear HH HL hat4
          go_wp2_with (first
            | (go_at_call 18; refine (Has.tbRowsM (p := p) (r := R') HX.out (by simp) HSZ2.out (by omega)).mono ?_; rintro e w12 ⟨A12, c12, rfl, hh12, hw12, hc12, hd12, hb12⟩; have H12 := Lib.hid hh12; have HW12 := Lib.hid hw12; obtain ⟨A0, c0, y0, hat0, hc0, hcm0⟩ := hh12.rtRows (b := b) (r := R') (by simp); have HAT0 := Lib.hid hat0; clear hh12 hw12 hb12 hat0)
            | (go_at_call 19; (with_reducible refine (Has.sameM H12.out A12 A0 R'.length R'.length c12 c0 R' R' HW12.out HAT0.out (by omega) (by omega) rfl).mono ?_); rintro e w13 ⟨rfl, h13, hb13⟩; have H13 := Lib.hid h13; clear h13 hb13))
          go_loopw [11] (fun i wr => ∃ (j : Nat) (L : List Rw), j ≤ R'.length ∧ i = .int .i64 j ∧ Hid (L.length = R'.length) ∧ Hid (Has w [rwA (.slice A12 R'.length c12) L, tbA p R', rtA b R'] wr)) (fun i _ => R'.length - (intOf i).toNat)
          case atStart => exact ⟨0, R', Nat.zero_le _, rfl, Lib.hid rfl, H13⟩
          case round =>
            obtain ⟨i, L, hi, rfl, HL, HH⟩ := hrel
            by_cases hil : i < R'.length
            · have e1 : i < L.length := by rw [HL.out]; exact hil
              obtain ⟨g1, g2⟩ := WAt.own (HH.out.rwRow (v := .slice A12 R'.length c12) (L := L) (by simp))
              rw [HL.out] at g1 g2
              obtain ⟨q, cq, hv⟩ := g1 (by omega)
              injection hv with hv _ hv2
              subst hv hv2
              have f1 := g2 q c12 rfl (i * 2 + 1)
              obtain ⟨A7, c7, hv7, hat7, _, _⟩ := (HH.out.rwRow (v := .slice (some ⟨q, 0, none⟩) R'.length c12) (L := L) (by simp)).form
              rw [HL.out] at hv7 hat7
              injection hv7 with hv7
              subst hv7
              obtain ⟨b7, o7, he7, hc7⟩ := hat7.2 (by omega)
              injection he7 with he7
              injection he7 with he7 he8
              subst he7 he8
              obtain ⟨x0, x1⟩ := hc7 i e1
              simp only [Nat.zero_add] at x0 x1
              have HW := Lib.hid (HH.out.setRwV (q := q) (c := c12) (by rw [HL.out]) i e1 ⟨#[115, 112, 111, 105, 108, 116]⟩)
              have HL2 := Lib.hid (show (L.set i ⟨(L[i]'e1).key, ⟨#[115, 112, 111, 105, 108, 116]⟩⟩).length = R'.length from by rw [List.length_set]; exact HL.out)
              generalize (L[i]'e1).value = vv at *
              clear hc7 hat7 g1 g2 x0
              have j1 : (0 : Int) ≤ (i : Int) := by omega
              have j2 : (i : Int) < (R'.length : Int) := by omega
              go_wp2_with fail
              go_roundw
              case rel => exact ⟨i + 1, _, by omega, by go_num, HL2, HW⟩
              case measure => simp [intOf]; omega
            · obtain rfl : i = R'.length := by omega
              have HZ9 := Lib.hid (HF.out _ HH.out.tail)
              go_wp2_with fail
              go_roundw
              case rel => exact ⟨k + 1, by omega, by omega, by go_num, HZ9⟩
              case measure => simp [intOf]; omega
    · by_cases hkn : k < n
      · obtain rfl : k = 30 := by omega
        rw [show ((30 : Nat) : Int) = 30 from rfl]
        clear hlt hk30
        have hok := tabs_ok HZ.out 30
        have HE := Lib.hid (show Has w [tbA p (tabs bs 30), rtA b (tabs bs 30)] wr from HH.out)
        have hlen := hok.len
        obtain ⟨hsor, hszs, _⟩ := hok
        have HSZ := Lib.hid hszs
        have hl1 : (tabs bs 30).length ≤ 3840 := by omega
        generalize tabs bs 30 = R at *
        clear HH HZ hlen hsor hszs HBAT HLN HBG
        obtain ⟨A0, c0, y0, hat0, hc0, hcm0⟩ := HE.out.rtRows (b := b) (r := R) (by simp)
        have HAT := Lib.hid (fun V (hb : Below wr.heap.size wr V) => (show V.cell? ⟨b, 0, none⟩ = some (.slice A0 R.length c0) ∧ WAt V A0 R.length R from ⟨(hb.cell (World.block_lt_of_cell? wr _ y0)).trans y0, hat0.below hb⟩))
        have hS : wr.drew.cell? ⟨b, 0, none⟩ = some (.slice A0 R.length c0) := y0
        have hb0 : Below wr.heap.size wr wr.drew := below_drew wr
        have hh0 : Has w [tbA p R, rtA b R] wr.drew := HE.out.drew
        clear hat0
        go_wp2_with fail
        go_region_held3 (fun W => W.cell? ⟨b, 0, none⟩ = some (.slice A0 R.length c0))
          (first | with_reducible assumption | with_reducible exact hS)
          (first
            | (go_at_call 18; (with_reducible refine (Has.tbRowsM (l := [tbA p R, rtA b R]) (p := p) (r := R) (by with_reducible assumption) (List.mem_cons_self) HSZ.out (by omega)).mono ?_); rintro e w8 ⟨A8, c8, rfl, hh8, hw8, hc8, hd8, hbb8⟩; have hb8 := bst (by with_reducible assumption) hbb8; have hS8 := (HAT.out _ hb8).1; clear hbb8)
            | (go_at_call 19; (with_reducible refine (Has.sameM hh8 A8 A0 R.length R.length c8 c0 R R hw8 (HAT.out _ hb8).2 (by omega) (by omega) rfl).mono ?_); rintro e w9 ⟨rfl, hh9, hbb9⟩; have hb9 := bst hb8 hbb9; have hS9 := (HAT.out _ hb9).1; clear hbb9)
            | (go_at_call 20; refine (tb_works _).mono ?_; rintro e w10 ⟨rfl, hbb10⟩; have hh10 := Has.keep hh9 hbb10; have hb10 := bst hb9 hbb10; have hS10 := (HAT.out _ hb10).1; clear hbb10))
        all_goals
          go_wp2_with fail
          go_ret
          exact ⟨rfl, hh10.bel⟩

      · obtain rfl : k = n := by omega
        clear hlt hkn
        have hok := tabs_ok HZ.out k
        have HE := Lib.hid (show Has w [tbA p (tabs bs k), rtA b (tabs bs k)] wr from HH.out)
        have hlen := hok.len
        obtain ⟨hsor, hszs, _⟩ := hok
        have HSZ := Lib.hid hszs
        have hl1 : (tabs bs k).length ≤ 3840 := by omega
        generalize tabs bs k = R at *
        clear HH HZ hlen hsor hszs HBAT HLN HBG
        obtain ⟨A0, c0, y0, hat0, hc0, hcm0⟩ := HE.out.rtRows (b := b) (r := R) (by simp)
        have HAT := Lib.hid (fun V (hb : Below wr.heap.size wr V) => (show V.cell? ⟨b, 0, none⟩ = some (.slice A0 R.length c0) ∧ WAt V A0 R.length R from ⟨(hb.cell (World.block_lt_of_cell? wr _ y0)).trans y0, hat0.below hb⟩))
        have hS : wr.drew.cell? ⟨b, 0, none⟩ = some (.slice A0 R.length c0) := y0
        have hb0 : Below wr.heap.size wr wr.drew := below_drew wr
        have hh0 : Has w [tbA p R, rtA b R] wr.drew := HE.out.drew
        clear hat0
        go_wp2_with fail
        go_region_held3 (fun W => W.cell? ⟨b, 0, none⟩ = some (.slice A0 R.length c0))
          (first | with_reducible assumption | with_reducible exact hS)
          (first
            | (go_at_call 18; (with_reducible refine (Has.tbRowsM (l := [tbA p R, rtA b R]) (p := p) (r := R) (by with_reducible assumption) (List.mem_cons_self) HSZ.out (by omega)).mono ?_); rintro e w8 ⟨A8, c8, rfl, hh8, hw8, hc8, hd8, hbb8⟩; have hb8 := bst (by with_reducible assumption) hbb8; have hS8 := (HAT.out _ hb8).1; clear hbb8)
            | (go_at_call 19; (with_reducible refine (Has.sameM hh8 A8 A0 R.length R.length c8 c0 R R hw8 (HAT.out _ hb8).2 (by omega) (by omega) rfl).mono ?_); rintro e w9 ⟨rfl, hh9, hbb9⟩; have hb9 := bst hb8 hbb9; have hS9 := (HAT.out _ hb9).1; clear hbb9)
            | (go_at_call 20; refine (tb_works _).mono ?_; rintro e w10 ⟨rfl, hbb10⟩; have hh10 := Has.keep hh9 hbb10; have hb10 := bst hb9 hbb10; have hS10 := (HAT.out _ hb10).1; clear hbb10))
        all_goals
          go_wp2_with fail
          go_ret
          exact ⟨rfl, hh10.bel⟩

end Go.Proofs.Ytgakkeeeadndkaa
