/-
  Layer 14, the statements' helpers: tables (written by wip/genpotab.py).
  Layer 12, the statements' small helpers (written by wip/genpksm.py).
  Layer 14, the statements' small helpers (written by wip/gensesm.py).
  Plain: what stands between two keys, as a filter; versions' keys in their order; the greater of two texts.
  Layer 14, the code: a span's ends as keys; whether a key is in a span; what is asked of stamps and intents.
  Layer 14, the code: what Refresh asks of stamps and intents; a span's ends (written by wip/genser.py).
-/
import Derived.Test.YtldbmogondmgmaaGreatDoorSSSeOp
import Derived.Test.YtldbmogondmgmaaGreatDoorSS32
import Derived.Test.YtldbmogondmgmaaGreatDoorSS34
import Derived.Test.YtldbmogondmgmaaGreatDoorSS25
import Derived.Test.YtldbmogondmgmaaGreatDoorSS29
import Derived.Test.YtldbmogondmgmaaGreatDoorSS33
set_option linter.unusedVariables false
set_option linter.unusedSimpArgs false
set_option maxRecDepth 100000
namespace Go.Proofs.YtldbmogondmgmaaGreatDoor
open Go.RowKit

theorem setab_take {l : List Th} {j : Nat} (hj : j < l.length) (h60 : j < 60) : tabP (l.take (j + 1)) = match opOf (l[j]'hj) with | none => tabP (l.take j) | some o => rapp (tabP (l.take j)) [o] := by
  unfold tabP laidP
  rw [List.take_of_length_le (show (l.take (j + 1)).length ≤ 60 by rw [List.length_take]; omega), List.take_of_length_le (show (l.take j).length ≤ 60 by rw [List.length_take]; omega), List.take_succ_eq_append_getElem hj, List.filterMap_append, List.foldl_append]
  cases h : opOf (l[j]'hj) with
  | none => simp [h]
  | some o => simp [h]
theorem setab_60 (l : List Th) : tabP (l.take 60) = tabP l := by
  unfold tabP laidP
  rw [List.take_take, Nat.min_self]
theorem Has.sepick3 {w V : World} {R S P G H : As} (h : Has w (R :: S :: P :: G :: H :: []) V) : Has w (P :: R :: []) V := by
  have h1 := h.perm (show (R :: S :: P :: G :: H :: []).Perm (S :: G :: H :: P :: R :: []) from by
    refine List.Perm.trans (List.perm_append_comm (l₁ := [R]) (l₂ := [S, P, G, H])) ?_
    refine List.Perm.cons S ?_
    exact (List.Perm.swap G P _).trans (List.Perm.cons G (List.Perm.swap H P _)))
  exact h1.tail.tail.tail
set_option maxHeartbeats 8000000 in
theorem tables14_c (A : Option Addr) (n c : Nat) (l : List Th) (w : World) (hx : ThAt w A n l) (hn : n ≤ 9223372036854775807) (hz : ∀ x ∈ l, TSz x) :
    Calls Tryz.prog 19 #[.slice A n c] w fun e w' => ∃ p b, e = .returned (.tuple #[pt p, pt b]) ∧ Has w (tbA p (tabP l) :: rtA b (tabP l) :: []) w' := by
  have HX := Lib.hid hx
  have HZ := Lib.hid hz
  have HLN := Lib.hid hx.1
  clear hx hz
  go_enter Tryz.func19, Tryz.ntmps19
  go_wp2_with (first
    | (go_at_call 34; refine ((Has.nil (Below.refl w.heap.size w)).tbNew 1).mono ?_; rintro e w1 ⟨p, rfl, h1⟩
       have H1 := Lib.hid h1.newRt.swap
       clear h1))
  go_loopw [6] (fun i wr => ∃ (j : Nat), j ≤ n ∧ j ≤ 60 ∧ i = .int .i64 j ∧ Hid (Has w (tbA p (tabP (l.take j)) :: rtA w1.heap.size (tabP (l.take j)) :: []) wr)) (fun i _ => 60 - (intOf i).toNat)
  case atStart => exact ⟨0, Nat.zero_le _, Nat.zero_le _, rfl, H1⟩
  case round =>
    obtain ⟨j, hj, hj2, rfl, HH⟩ := hrel
    by_cases c1 : j < n
    case neg =>
      have hh := HH.out
      rw [List.take_of_length_le (show l.length ≤ j by have := HLN.out; omega)] at hh
      have HF := Lib.hid hh
      clear hh HH
      go_wp2_with fail
      go_ret2
      exact ⟨p, _, rfl, HF.out⟩
    by_cases c2 : j < 60
    case neg =>
      obtain rfl : j = 60 := by omega
      have hh := HH.out
      rw [setab_60] at hh
      have HF := Lib.hid hh
      clear hh HH
      go_wp2_with fail
      go_ret2
      exact ⟨p, _, rfl, HF.out⟩
    have hb := HH.out.bel
    have hjl : j < l.length := by rw [HLN.out]; exact c1
    obtain ⟨B, o, rfl, hc⟩ := (HX.out.below hb).2 (by omega)
    obtain ⟨Ai, ni, ci, q, hch, hni⟩ := hc j hjl
    have HTK := Lib.hid (setab_take hjl c2)
    have HOK := Lib.hid (tabP_ok (l := l.take j) (fun y hy => HZ.out y (List.mem_of_mem_take hy)))
    obtain ⟨x, hxx⟩ : ∃ x, l[j]'hjl = x := ⟨_, rfl⟩
    rw [hxx] at q hch HTK
    have HTS := Lib.hid (show TSz x from hxx ▸ HZ.out _ (List.getElem_mem hjl))
    have d0 := q 0 _ rfl
    have d1 := q 1 _ rfl
    have d2 := q 2 _ rfl
    have d3 := q 3 _ rfl
    have d4 := q 4 _ rfl
    have d5 := q 5 _ rfl
    have d6 := q 6 _ rfl
    have d7 := q 7 _ rfl
    have d8 := q 8 _ rfl
    have d9 := q 9 _ rfl
    have d10 := q 10 _ rfl
    have d11 := q 11 _ rfl
    have d12 := q 12 _ rfl
    have d13 := q 13 _ rfl
    have d14 := q 14 _ rfl
    simp only [Nat.add_zero] at d0
    have jz : (0 : Int) ≤ (j : Int) := by omega
    have jn : (j : Int) < (n : Int) := by omega
    have HCH := Lib.hid hch
    clear q hch hc hxx hb
    generalize tabP (l.take j) = R at *
    have HLR := Lib.hid (show R.length ≤ 999999000 by have := HOK.out.len; omega)
    cases hos : opOf x with
    | none =>
      have HOS := Lib.hid (show (opOf x).isSome = false by rw [hos]; rfl)
      rw [hos] at HTK
      have HT2 := Lib.hid (show tabP (l.take (j + 1)) = R from HTK.out)
      clear hos HTK
      go_wp2_with (first
      | (go_at_call 61; refine (thOp14 x Ai ni ci wr HCH.out hni HTS.out).mono ?_; rintro e w2 ⟨k, vv, rfl, ho, hb2⟩; rw [HOS.out]
         have H2 := Lib.hid ((HH.out.keep hb2).keep (nbl w2 (.cells #[.string k, .string vv, .bool false] 98)))
         clear ho hb2))
      go_roundw
      case rel => exact ⟨j + 1, by omega, by omega, by go_num, by rw [HT2.out]; exact H2.out⟩
      case measure => simp [intOf]; omega
    | some oo =>
      have HOS := Lib.hid (show (opOf x).isSome = true by rw [hos]; rfl)
      rw [hos] at HTK
      have HT2 := Lib.hid (show tabP (l.take (j + 1)) = rapp R [oo] from HTK.out)
      have HOO := Lib.hid hos
      clear hos HTK
      go_wp2_with (first
      | (go_at_call 61; refine (thOp14 x Ai ni ci wr HCH.out hni HTS.out).mono ?_; rintro e w2 ⟨k, vv, rfl, ho, hb2⟩; rw [HOS.out]
         have hoo := ho oo HOO.out
         subst hoo
         have h2 := (HH.out.keep hb2).newBlk 98 #[.string k, .string vv, .bool false]
         have b2 := h2.blk.1
         have e0 := b2.cell 0
         have e1 := b2.cell 1
         have e2 := b2.cell 2
         simp at e0 e1 e2
         have h3 := h2.newBlk 98 #[.string k, .string vv, .bool false]
         simp only [World.size_alloc] at h3
         have H3 := Lib.hid (show Has w (tbA p R :: blkA (w2.heap.size + 1) 98 #[.string k, .string vv, .bool false] :: blkA w2.heap.size 98 #[.string k, .string vv, .bool false] :: rtA w1.heap.size R :: []) _ from h3.perm (List.perm_middle (l₁ := [_, _])))
         have HOZ := Lib.hid (show OSz [⟨k, vv, false⟩] from fun y hy => by rw [List.mem_singleton.1 hy]; have := opOf_sz HTS.out HOO.out; exact ⟨this.1, this.2.1⟩)
         clear ho hb2 h2 b2 h3)
      | (go_at_call 27; refine (H3.out.tbApplyB HOK.out (by omega) (some ⟨w2.heap.size + 1, 0, none⟩) 1 1 [⟨k, vv, false⟩] (fun W F2 hb => (by
           refine ⟨rfl, fun _ => ⟨w2.heap.size + 1, 0, rfl, fun i hi => ?_⟩⟩
           have : i = 0 := by simp at hi; omega
           subst this
           exact ⟨hb.1.cell 0, hb.1.cell 1, hb.1.cell 2⟩)) (by omega) HOZ.out).mono ?_; rintro e w3 ⟨rfl, h4, -⟩
         have b3 := h4.blkAt (g := w2.heap.size) (t := 98) (cs := #[.string k, .string vv, .bool false]) (by simp)
         have u0 := b3.cell 0
         have u1 := b3.cell 1
         have u2 := b3.cell 2
         simp at u0 u1 u2
         have h5 := h4.newBlk 98 #[.string k, .string vv, .bool false]
         have H5 := Lib.hid (show Has w (rtA w1.heap.size R :: blkA w3.heap.size 98 #[.string k, .string vv, .bool false] :: tbA p (rapp R [⟨k, vv, false⟩]) :: blkA (w2.heap.size + 1) 98 #[.string k, .string vv, .bool false] :: blkA w2.heap.size 98 #[.string k, .string vv, .bool false] :: []) _ from h5.perm (List.perm_middle (l₁ := [_, _, _, _])))
         clear h4 b3 h5)
      | (go_at_call 36; refine (H5.out.rtApplyB HLR.out (some ⟨w3.heap.size, 0, none⟩) 1 1 [⟨k, vv, false⟩] (fun W F2 hb => (by
           refine ⟨rfl, fun _ => ⟨w3.heap.size, 0, rfl, fun i hi => ?_⟩⟩
           have : i = 0 := by simp at hi; omega
           subst this
           exact ⟨hb.1.cell 0, hb.1.cell 1, hb.1.cell 2⟩)) (by omega)).mono ?_; rintro e w4 ⟨rfl, h6⟩
         have H6 := Lib.hid (show Has w (tbA p (rapp R [⟨k, vv, false⟩]) :: rtA w1.heap.size (rapp R [⟨k, vv, false⟩]) :: []) w4 from Has.sepick3 h6)
         clear h6))
      go_roundw
      case rel => exact ⟨j + 1, by omega, by omega, by go_num, by rw [HT2.out]; exact H6.out⟩
      case measure => simp [intOf]; omega
end Go.Proofs.YtldbmogondmgmaaGreatDoor
set_option linter.unusedVariables false
set_option linter.unusedSimpArgs false
set_option maxRecDepth 100000
namespace Go.Proofs.YtldbmogondmgmaaGreatDoor
open Go.RowKit

theorem Blk.all12 {w : World} {g : Nat} {t : TypeId} {c0 c1 c2 c3 c4 c5 c6 c7 c8 c9 c10 c11 v0 v1 v2 v3 v4 v5 v6 v7 v8 v9 v10 v11 : Value} (h : Blk w g t #[c0, c1, c2, c3, c4, c5, c6, c7, c8, c9, c10, c11]) : Blk ((((((((((((w.setCell ⟨g, 0, none⟩ v0).setCell ⟨g, 1, none⟩ v1).setCell ⟨g, 2, none⟩ v2).setCell ⟨g, 3, none⟩ v3).setCell ⟨g, 4, none⟩ v4).setCell ⟨g, 5, none⟩ v5).setCell ⟨g, 6, none⟩ v6).setCell ⟨g, 7, none⟩ v7).setCell ⟨g, 8, none⟩ v8).setCell ⟨g, 9, none⟩ v9).setCell ⟨g, 10, none⟩ v10).setCell ⟨g, 11, none⟩ v11) g t #[v0, v1, v2, v3, v4, v5, v6, v7, v8, v9, v10, v11] := by
  have := ((((((((((((h.set_ 0 v0).set_ 1 v1).set_ 2 v2).set_ 3 v3).set_ 4 v4).set_ 5 v5).set_ 6 v6).set_ 7 v7).set_ 8 v8).set_ 9 v9).set_ 10 v10).set_ 11 v11)
  simpa using this
theorem ret_tx1 {fn : Func} {Q : Ending → World → Prop} {a : Act} {w : World} {p : Tmp} {g : Nat} {cs : Array Value} (hr : fn.results = #[.cell p 28]) (hp : a.tmps.getD p undef = .pointer (some ⟨g, 0, none⟩))
    (hB : Blk w g 28 cs) (hs : cs.size = 12) (hd : a.defers = []) (hR : Q (.returned (.agg cs)) w) : bodyPost Tryz.prog fn Q .ret a w := by
  refine bodyPost_ret ?_ hd hR
  have hp' : a.tmps[p]?.getD undef = .pointer (some ⟨g, 0, none⟩) := by simpa using hp
  simp [results, hr, hp', asAddr, run_loadVar_row w g 28 28 _ (0, 0) _ hB Tryz.underlying28 rfl (by rw [hs]; kernel_rfl)]
/-- Things in a row, with what their intents' changes are. -/
def tfl (L : List (Th × Value)) : List Value := L.flatMap fun q => (thc q.1 q.2).toList
theorem tfl_len : ∀ (L : List (Th × Value)), (tfl L).length = L.length * 15
  | [] => rfl
  | q :: L => by
    have := tfl_len L
    unfold tfl at *
    rw [List.flatMap_cons, List.length_append, this]
    simp
    omega
theorem tfl_get : ∀ (L : List (Th × Value)) (i : Nat) (h : i < L.length) (j : Nat) (u : Value), (thc (L[i]'h).1 (L[i]'h).2)[j]? = some u → (tfl L)[i * 15 + j]? = some u
  | q :: L, 0, _, j, u, hu => by
    unfold tfl
    rw [List.flatMap_cons, Nat.zero_mul, Nat.zero_add]
    have hj : j < (thc q.1 q.2).toList.length := by
      obtain ⟨h1, _⟩ := Array.getElem?_eq_some_iff.1 hu
      simpa using h1
    rw [List.getElem?_append_left hj]
    simpa using hu
  | q :: L, i + 1, h, j, u, hu => by
    have ih := tfl_get L i (by simpa using h) j u (by simpa using hu)
    unfold tfl at *
    rw [List.flatMap_cons, List.getElem?_append_right (by simp; omega)]
    rw [← ih]
    congr 1
    simp
    omega
end Go.Proofs.YtldbmogondmgmaaGreatDoor
set_option linter.unusedVariables false
set_option linter.unusedSimpArgs false
set_option maxRecDepth 100000
namespace Go.Proofs.YtldbmogondmgmaaGreatDoor
open Go.RowKit

theorem ret_rc1 {fn : Func} {Q : Ending → World → Prop} {a : Act} {w : World} {p : Tmp} {g : Nat} {cs : Array Value} (hr : fn.results = #[.cell p 69]) (hp : a.tmps.getD p undef = .pointer (some ⟨g, 0, none⟩))
    (hB : Blk w g 69 cs) (hs : cs.size = 10) (hd : a.defers = []) (hR : Q (.returned (.agg cs)) w) : bodyPost Tryz.prog fn Q .ret a w := by
  refine bodyPost_ret ?_ hd hR
  have hp' : a.tmps[p]?.getD undef = .pointer (some ⟨g, 0, none⟩) := by simpa using hp
  simp [results, hr, hp', asAddr, run_loadVar_row w g 69 69 _ (0, 0) _ hB Tryz.underlying69 rfl (by rw [hs]; kernel_rfl)]
theorem ret_sn1 {fn : Func} {Q : Ending → World → Prop} {a : Act} {w : World} {p : Tmp} {g : Nat} {cs : Array Value} (hr : fn.results = #[.cell p 66]) (hp : a.tmps.getD p undef = .pointer (some ⟨g, 0, none⟩))
    (hB : Blk w g 66 cs) (hs : cs.size = 2) (hd : a.defers = []) (hR : Q (.returned (.agg cs)) w) : bodyPost Tryz.prog fn Q .ret a w := by
  refine bodyPost_ret ?_ hd hR
  have hp' : a.tmps[p]?.getD undef = .pointer (some ⟨g, 0, none⟩) := by simpa using hp
  simp [results, hr, hp', asAddr, run_loadVar_row w g 66 66 _ (0, 0) _ hB Tryz.underlying66 rfl (by rw [hs]; kernel_rfl)]
theorem at14_c (n : Int) (w : World) : Calls Tryz.prog 72 #[.int .i64 n] w fun e w' => e = .returned (sv n 0) ∧ Below w.heap.size w w' := by
  have hB := Box.new w n 0
  go_enter Tryz.func72, Tryz.ntmps72
  go_wp2
  exact ret_one rfl rfl hB rfl ⟨rfl, nbl w _⟩
theorem whole_c (w : World) : Calls Tryz.prog 70 #[] w fun e w' => e = .returned (.agg #[.string bA, .string bB]) ∧ Below w.heap.size w w' := by
  have hB := Blk.new w 66 #[.string bA, .string bB]
  go_enter Tryz.func70, Tryz.ntmps70
  go_wp2
  exact ret_sn1 rfl rfl hB rfl rfl ⟨rfl, nbl w _⟩
set_option maxHeartbeats 2000000 in
theorem rec_c (id st n : Int) (w : World) : Calls Tryz.prog 69 #[.int .i64 id, .int .i64 st, .int .i64 n] w fun e w' => e = .returned (rcv (recP id st n) (.slice none 0 0)) ∧ Below w.heap.size w w' := by
  have K0 := Lib.hid (Blk.new w 69 #[.int .i64 0, .int .i64 0, .int .i64 0, .int .i64 0, .string ⟨#[]⟩, .int .i64 0, .int .i64 0, .int .i64 0, .int .i64 0, .slice none 0 0])
  have HG0 := Lib.hid (nbl w (.cells #[.int .i64 0, .int .i64 0, .int .i64 0, .int .i64 0, .string ⟨#[]⟩, .int .i64 0, .int .i64 0, .int .i64 0, .int .i64 0, .slice none 0 0] 69))
  have HA := Lib.hid (at14_c n)
  go_enter Tryz.func69, Tryz.ntmps69
  go_wp2_with fail
  refine (HA.out _).mono ?_
  rintro e w1 ⟨rfl, hb1⟩
  have G1 := Lib.hid (bst HG0.out hb1)
  have k1 := K0.out.below hb1 K0.out.lt
  have p0 := k1.cell 0
  have f0 := k1.frozen 0
  have p1 := k1.cell 1
  have f1 := k1.frozen 1
  have p2 := k1.cell 2
  have f2 := k1.frozen 2
  have p3 := k1.cell 3
  have f3 := k1.frozen 3
  have p4 := k1.cell 4
  have f4 := k1.frozen 4
  have p5 := k1.cell 5
  have f5 := k1.frozen 5
  have p6 := k1.cell 6
  have f6 := k1.frozen 6
  have p7 := k1.cell 7
  have f7 := k1.frozen 7
  have p8 := k1.cell 8
  have f8 := k1.frozen 8
  have p9 := k1.cell 9
  have f9 := k1.frozen 9
  simp at p0 p1 p2 p3 p4 p5 p6 p7 p8 p9
  have K1 := Lib.hid k1
  clear hb1 k1
  go_wp2_with fail
  exact ret_rc1 rfl rfl (Blk.all10 (v0 := .int .i64 id) (v1 := .int .i64 0) (v2 := .int .i64 st) (v3 := .int .i64 1) (v4 := .string bA) (v5 := .int .i64 n) (v6 := .int .i64 0) (v7 := .int .i64 0) (v8 := .int .i64 0) (v9 := .slice none 0 0) (by exact K1.out)) rfl rfl ⟨rfl, ((((((((((G1.out.setCell (by exact Nat.le_refl _) _).setCell (by exact Nat.le_refl _) _).setCell (by exact Nat.le_refl _) _).setCell (by exact Nat.le_refl _) _).setCell (by exact Nat.le_refl _) _).setCell (by exact Nat.le_refl _) _).setCell (by exact Nat.le_refl _) _).setCell (by exact Nat.le_refl _) _).setCell (by exact Nat.le_refl _) _).setCell (by exact Nat.le_refl _) _)⟩
set_option maxHeartbeats 2000000 in
theorem reader14_c (id n : Int) (w : World) : Calls Tryz.prog 71 #[.int .i64 id, .int .i64 n] w fun e w' => e = .returned (txv (rdrP id n)) ∧ Below w.heap.size w w' := by
  have K0 := Lib.hid (Blk.new w 28 #[.int .i64 0, .int .i64 0, .int .i64 0, .string ⟨#[]⟩, .int .i64 0, .int .i64 0, .int .i64 0, .int .i64 0, .int .i64 0, .int .i64 0, .int .i64 0, .int .i64 0])
  have HG0 := Lib.hid (nbl w (.cells #[.int .i64 0, .int .i64 0, .int .i64 0, .string ⟨#[]⟩, .int .i64 0, .int .i64 0, .int .i64 0, .int .i64 0, .int .i64 0, .int .i64 0, .int .i64 0, .int .i64 0] 28))
  have HA := Lib.hid (at14_c n)
  go_enter Tryz.func71, Tryz.ntmps71
  go_wp2_with fail
  refine (HA.out _).mono ?_
  rintro e w1 ⟨rfl, hb1⟩
  go_wp2_with fail
  refine (HA.out _).mono ?_
  rintro e w2 ⟨rfl, hb2⟩
  go_wp2_with fail
  refine (HA.out _).mono ?_
  rintro e w3 ⟨rfl, hb3⟩
  have G3 := Lib.hid (bst (bst (bst HG0.out hb1) hb2) hb3)
  have k1 := K0.out.below hb1 K0.out.lt
  have k2 := k1.below hb2 k1.lt
  have k3 := k2.below hb3 k2.lt
  have p0 := k3.cell 0
  have f0 := k3.frozen 0
  have p1 := k3.cell 1
  have f1 := k3.frozen 1
  have p2 := k3.cell 2
  have f2 := k3.frozen 2
  have p3 := k3.cell 3
  have f3 := k3.frozen 3
  have p4 := k3.cell 4
  have f4 := k3.frozen 4
  have p5 := k3.cell 5
  have f5 := k3.frozen 5
  have p6 := k3.cell 6
  have f6 := k3.frozen 6
  have p7 := k3.cell 7
  have f7 := k3.frozen 7
  have p8 := k3.cell 8
  have f8 := k3.frozen 8
  have p9 := k3.cell 9
  have f9 := k3.frozen 9
  have p10 := k3.cell 10
  have f10 := k3.frozen 10
  have p11 := k3.cell 11
  have f11 := k3.frozen 11
  simp at p0 p1 p2 p3 p4 p5 p6 p7 p8 p9 p10 p11
  have K3 := Lib.hid k3
  clear hb1 hb2 hb3 k1 k2 k3
  go_wp2_with fail
  exact ret_tx1 rfl rfl (Blk.all12 (v0 := .int .i64 id) (v1 := .int .i64 0) (v2 := .int .i64 1) (v3 := .string bA) (v4 := .int .i64 n) (v5 := .int .i64 0) (v6 := .int .i64 n) (v7 := .int .i64 0) (v8 := .int .i64 n) (v9 := .int .i64 0) (v10 := .int .i64 0) (v11 := .int .i64 0) (by exact K3.out)) rfl rfl ⟨rfl, ((((((((((((G3.out.setCell (by exact Nat.le_refl _) _).setCell (by exact Nat.le_refl _) _).setCell (by exact Nat.le_refl _) _).setCell (by exact Nat.le_refl _) _).setCell (by exact Nat.le_refl _) _).setCell (by exact Nat.le_refl _) _).setCell (by exact Nat.le_refl _) _).setCell (by exact Nat.le_refl _) _).setCell (by exact Nat.le_refl _) _).setCell (by exact Nat.le_refl _) _).setCell (by exact Nat.le_refl _) _).setCell (by exact Nat.le_refl _) _)⟩
theorem thRow14 {w : World} {B n : Nat} {v : Value} {L : List (Th × Value)} (h : w.ownsRow B 128 15 v n (tfl L)) (hc : ∀ q ∈ L, ∃ A m c, q.2 = .slice A m c ∧ ChAt w A m q.1.it.l ∧ m ≤ 9223372036854775807) :
    ∃ A c, v = .slice A n c ∧ ThAt w A n (L.map Prod.fst) := by
  have hl : L.length = n := by have := h.1; rw [tfl_len] at this; omega
  rcases h.2 with ⟨rfl, h0⟩ | ⟨g, cap, cur, rfl, hb, hg, hnc, hcm, _⟩
  · exact ⟨none, 0, by rw [h0], by rw [List.length_map]; exact hl, fun hm => by omega⟩
  · refine ⟨_, cap, rfl, by rw [List.length_map]; exact hl, fun hm => ⟨g, 0, rfl, fun i hi => ?_⟩⟩
    have hi' : i < L.length := by simpa using hi
    obtain ⟨A, m, c, e1, e2, e3⟩ := hc _ (List.getElem_mem hi')
    refine ⟨A, m, c, fun j u hu => ?_, by simpa using e2, e3⟩
    have := World.ownsRow.cells h (g := g) rfl (i * 15 + j) u (tfl_get L i hi' j u (by rw [e1]; simpa using hu))
    rw [Go.WideShapes.add_plain] at this
    rw [Nat.zero_add]
    simpa using this
set_option maxHeartbeats 8000000 in
theorem chapter_c (w : World) : Calls Tryz.prog 67 #[] w fun e w' => (∃ A c, e = .returned (.slice A 2 c) ∧ ThAt w' A 2 chapP) ∧ Below w.heap.size w w' := by
  have hmix : Tryz.prog.follows .mixedOrders = true := by kernel_rfl
  go_enter Tryz.func67, Tryz.ntmps67
  go_wp2_with fail
  refine (at14_c 15 _).mono ?_
  rintro e w1 ⟨rfl, hb1⟩
  have hz1 : (w1.alloc (.cells #[.int .i64 3, .string ⟨#[122]⟩, .bool false] 24)).heap.size = w1.heap.size + 1 := World.size_alloc _ _
  have kc := Blk.new w1 24 #[.int .i64 3, .string ⟨#[122]⟩, .bool false]
  have ki := Blk.new (w1.alloc (.cells #[.int .i64 3, .string ⟨#[122]⟩, .bool false] 24)) 39 (itc chZ (.slice (some ⟨w1.heap.size, 0, none⟩) 1 1))
  rw [hz1] at ki
  have hch : ChAt (w1.alloc (.cells #[.int .i64 3, .string ⟨#[122]⟩, .bool false] 24)) (some ⟨w1.heap.size, 0, none⟩) 1 chZ.l := by
    refine ⟨rfl, fun _ => ⟨w1.heap.size, 0, rfl, fun i hi => ?_⟩⟩
    have : i = 0 := by have : chZ.l.length = 1 := rfl; omega
    subst this
    exact ⟨kc.cell 0, kc.cell 1, kc.cell 2⟩
  have HS0 := Lib.hid (show Blk _ (w1.heap.size + 1) 39 (itc chZ (.slice (some ⟨w1.heap.size, 0, none⟩) 1 1)) ∧ ChAt _ (some ⟨w1.heap.size, 0, none⟩) 1 chZ.l ∧ Below w.heap.size w ((w1.alloc (.cells #[.int .i64 3, .string ⟨#[122]⟩, .bool false] 24)).alloc (.cells (itc chZ (.slice (some ⟨w1.heap.size, 0, none⟩) 1 1)) 39)).drew from
    ⟨ki, hch.below (nbl _ (.cells (itc chZ (.slice (some ⟨w1.heap.size, 0, none⟩) 1 1)) 39)), (bsa (bsa hb1 _) _).drew⟩)
  clear kc ki hch hb1 hz1
  go_upto_region 2 with fail
  refine wp_region_held_drew (S := fun V => Blk V (w1.heap.size + 1) 39 (itc chZ (.slice (some ⟨w1.heap.size, 0, none⟩) 1 1)) ∧ ChAt V (some ⟨w1.heap.size, 0, none⟩) 1 chZ.l ∧ Below w.heap.size w V) hmix (HS0.out) (fun hS => ?_)
  simp only [List.size_toArray, List.length_cons, List.length_nil, Nat.reduceAdd, Array.replicate_succ, Array.replicate_zero]
  refine wpAnyH_take (i := 2) (oi := { dst := some 8, op := Op.load 39 (Operand.tmp 1), type := 39, pos := "outright.go:28", after := #[], guard := none }) (v := ?v2z) rfl (by kernel_rfl) (by kernel_rfl) (by kernel_rfl) (fun _ _ _ h => h) (Or.inl ⟨by rfl, ?hy2z⟩) (by assumption) ?rest2z
  case hy2z => (intro V2 hSw; (try dsimp only at hSw); obtain ⟨hb, _, _⟩ := hSw; have t0 := hb.cell 0; have t1 := hb.cell 1; have t2 := hb.cell 2; have t3 := hb.cell 3; have t4 := hb.cell 4; have t5 := hb.cell 5; have t6 := hb.cell 6; have t7 := hb.cell 7; have t8 := hb.cell 8; simp at t0 t1 t2 t3 t4 t5 t6 t7 t8; go_simp; all_goals (with_reducible rfl))
  try simp only [Act.put, List.setIfInBounds_toArray, List.set_cons_zero, List.set_cons_succ]
  refine wpAnyH_take (i := 3) (oi := { dst := some 9, op := Op.build 128 #[(0, Operand.const (Value.int IntKind.i64 1)), (1, Operand.const (Value.string { data := #[97] })), (5, Operand.tmp 8)], type := 128, pos := "outright.go:28", after := #[{ on := 2, ground := Ground.data }], guard := none }) (v := ?v3z) rfl (by kernel_rfl) (by kernel_rfl) (by kernel_rfl) (fun _ _ _ h => h) (Or.inl ⟨by rfl, ?hy3z⟩) (by assumption) ?rest3z
  case hy3z => (intro V2 hSw; (try dsimp only at hSw); go_simp; all_goals (with_reducible rfl))
  try simp only [Act.put, List.setIfInBounds_toArray, List.set_cons_zero, List.set_cons_succ]
  refine wpAnyH_ready (rs := [0]) (by kernel_rfl) (by simp) ?_
  refine AllReadyH.cons (o := { dst := some 6, op := Op.call { callee := Callee.value (Operand.func 72), args := #[Operand.const (Value.int IntKind.i64 10)], argTypes := #[3] }, type := 26, pos := "outright.go:28", after := #[], guard := none }) rfl (fun K hK => ?_) AllReadyH.nil
  go_simp
  refine (at14_c 10 _).mono ?_
  rintro e w2 ⟨rfl, h2⟩
  refine hK.out _ _ (⟨hS.1.below h2 hS.1.lt, hS.2.1.below h2, bst hS.2.2 h2⟩) (fun hS => ?_)
  clear hK K
  try simp only [Act.put, List.setIfInBounds_toArray, List.set_cons_zero, List.set_cons_succ]
  have hb2 := hS.2.2.size
  refine wpAnyH_take (i := 1) (oi := { dst := some 7, op := Op.build 128 #[(1, Operand.const (Value.string { data := #[97] })), (2, Operand.const (Value.string { data := #[120] })), (4, Operand.tmp 6)], type := 128, pos := "outright.go:28", after := #[{ on := 0, ground := Ground.data }], guard := none }) (v := ?v1z) rfl (by kernel_rfl) (by kernel_rfl) (by kernel_rfl) (fun _ _ _ h => h) (Or.inl ⟨by rfl, ?hy1z⟩) (by assumption) ?rest1z
  case hy1z => (intro V2 hSw; (try dsimp only at hSw); go_simp; all_goals (with_reducible rfl))
  try simp only [Act.put, List.setIfInBounds_toArray, List.set_cons_zero, List.set_cons_succ]
  refine wpAnyH_ready (rs := [4]) (by kernel_rfl) (by simp) ?_
  refine AllReadyH.cons (o := { dst := some 10, op := Op.buildSlice 64 2 #[(0, Operand.tmp 7), (1, Operand.tmp 9)], type := 64, pos := "outright.go:28", after := #[{ on := 1, ground := Ground.data }, { on := 3, ground := Ground.data }], guard := none }) rfl (fun K hK => ?_) AllReadyH.nil
  go_simp
  have hSA := hS
  have hnb := nbl w2 (.cells #[.int .i64 0, .string bA, .string ⟨#[120]⟩, .bool false, .int .i64 10, .int .i64 0, .int .i64 0, .int .i64 0, .int .i64 0, .string ⟨#[]⟩, .int .i64 0, .int .i64 0, .int .i64 0, .int .i64 0, .slice none 0 0, .int .i64 1, .string bA, .string ⟨#[]⟩, .bool false, .int .i64 0, .int .i64 0, .int .i64 7, .int .i64 0, .int .i64 1, .string bA, .int .i64 15, .int .i64 0, .int .i64 0, .int .i64 0, .slice (some ⟨w1.heap.size, 0, none⟩) 1 1] 128)
  refine hK.out _ _ (⟨hS.1.below hnb hS.1.lt, hS.2.1.below hnb, bst hS.2.2 hnb⟩) (fun hS => ?_)
  clear hK K
  try simp only [Act.put, List.setIfInBounds_toArray, List.set_cons_zero, List.set_cons_succ]
  have HF := Lib.hid hSA
  refine wpAnyH_take (i := 5) (oi := { dst := some 0, op := Op.assign (Operand.tmp 10), type := 64, pos := "outright.go:28", after := #[{ on := 4, ground := Ground.data }, { on := 0, ground := Ground.chain }, { on := 0, ground := Ground.phase }, { on := 1, ground := Ground.phase }, { on := 2, ground := Ground.phase }, { on := 3, ground := Ground.phase }, { on := 4, ground := Ground.phase }], guard := none }) (v := ?v5z) rfl (by kernel_rfl) (by kernel_rfl) (by kernel_rfl) (fun _ _ _ h => h) (Or.inl ⟨by rfl, ?hy5z⟩) (by assumption) ?rest5z
  case hy5z => (intro V2 hSw; (try dsimp only at hSw); go_simp; all_goals (with_reducible rfl))
  try simp only [Act.put, List.setIfInBounds_toArray, List.set_cons_zero, List.set_cons_succ]
  refine wpAnyH_done (by kernel_rfl) ?_ _
  skip
  go_wp2_with fail
  go_ret
  obtain ⟨h1, h2, h3⟩ := hS
  refine ⟨?_, h3⟩
  have hr : World.ownsRow (w2.alloc (.cells #[.int .i64 0, .string bA, .string ⟨#[120]⟩, .bool false, .int .i64 10, .int .i64 0, .int .i64 0, .int .i64 0, .int .i64 0, .string ⟨#[]⟩, .int .i64 0, .int .i64 0, .int .i64 0, .int .i64 0, .slice none 0 0, .int .i64 1, .string bA, .string ⟨#[]⟩, .bool false, .int .i64 0, .int .i64 0, .int .i64 7, .int .i64 0, .int .i64 1, .string bA, .int .i64 15, .int .i64 0, .int .i64 0, .int .i64 0, .slice (some ⟨w1.heap.size, 0, none⟩) 1 1] 128)) 0 128 15 (.slice (some ⟨w2.heap.size, 0, none⟩) 2 2) 2 (tfl [(thV ⟨#[120]⟩ 10, .slice none 0 0), (thI chZ, .slice (some ⟨w1.heap.size, 0, none⟩) 1 1)]) := ⟨rfl, .inr ⟨w2.heap.size, 2, _, rfl, Nat.zero_le _, World.alloc_heap_new w2 (.cells #[.int .i64 0, .string bA, .string ⟨#[120]⟩, .bool false, .int .i64 10, .int .i64 0, .int .i64 0, .int .i64 0, .int .i64 0, .string ⟨#[]⟩, .int .i64 0, .int .i64 0, .int .i64 0, .int .i64 0, .slice none 0 0, .int .i64 1, .string bA, .string ⟨#[]⟩, .bool false, .int .i64 0, .int .i64 0, .int .i64 7, .int .i64 0, .int .i64 1, .string bA, .int .i64 15, .int .i64 0, .int .i64 0, .int .i64 0, .slice (some ⟨w1.heap.size, 0, none⟩) 1 1] 128), by omega, by decide, rfl, rfl⟩⟩
  obtain ⟨A, c, hv, ht⟩ := thRow14 hr (fun q hq => by
    simp only [List.mem_cons, List.not_mem_nil, or_false] at hq
    rcases hq with rfl | rfl
    · exact ⟨none, 0, 0, rfl, ChAt.nil _ _, by omega⟩
    · exact ⟨_, 1, 1, rfl, h2, by omega⟩)
  injection hv with hv1 hv2 hv3
  subst hv1 hv3
  exact ⟨_, _, rfl, ht⟩
end Go.Proofs.YtldbmogondmgmaaGreatDoor
set_option linter.unusedVariables false
set_option linter.unusedSimpArgs false
set_option maxRecDepth 100000
namespace Go.Proofs.YtldbmogondmgmaaGreatDoor
open Go.RowKit

theorem extract_size (s : ByteArray) (n : Nat) (h : n ≤ s.size) : (s.extract 0 n).size = n := by
  rw [ByteArray.size_extract]
  omega
def smax (x y : ByteArray) : ByteArray := if Op.bytesLess x.toList y.toList = true then y else x
theorem run_max_strs {P : Program} (w : World) (ts : Array TypeId) (t : TypeId) (x y : ByteArray) :
    (Builtin.max_ ts t #[.string x, .string y]).run P w = .ok (.string (smax x y)) w := by
  unfold smax
  cases h : Op.bytesLess x.toList y.toList <;> simp [Builtin.max_, Builtin.max2, Op.stringOp, asBool, h, go_sem]
theorem kl_nil (l : List UInt8) : Op.bytesLess l [] = false := by cases l <;> rfl
theorem st_rpos (x : Rw) (r : List Rw) (k : ByteArray) : rpos (x :: r) k = if kl x.key k = true then rpos r k + 1 else 0 := by
  unfold rpos
  rw [List.takeWhile_cons]
  split <;> simp
theorem st_btw (f t : ByteArray) : ∀ r : List Rw, RSor r → (r.take (rpos r t)).drop (rpos r f) = r.filter (fun x => !(kl x.key f) && kl x.key t)
  | [], _ => by simp [rpos]
  | x :: r, hs => by
    have hs' : RSor r := (List.pairwise_cons.1 hs).2
    have hx := (List.pairwise_cons.1 hs).1
    have ih := st_btw f t r hs'
    rw [st_rpos, st_rpos]
    cases ht : kl x.key t with
    | true =>
      cases hf : kl x.key f with
      | true => simp [ht, hf, ih]
      | false =>
        have h0 : rpos r f = 0 := by
          cases r with
          | nil => rfl
          | cons y r =>
            rw [st_rpos]
            have h1 := hx y (by simp)
            cases h2 : kl y.key f with
            | false => simp
            | true => rw [kl_trans h1 h2] at hf; cases hf
        rw [h0] at ih
        simp [ht, hf]
        simpa using ih
    | false =>
      have h1 : r.filter (fun x => !(kl x.key f) && kl x.key t) = [] := by
        rw [List.filter_eq_nil_iff]
        intro y hy h2
        simp only [Bool.and_eq_true] at h2
        rw [kl_trans (hx y hy) h2.2] at ht
        cases ht
      simp [ht, h1]
theorem btw_filter {r : List Rw} (hs : RSor r) (f t : ByteArray) (ht : t.toList ≠ []) : btw r f t = r.filter (fun x => !(kl x.key f) && kl x.key t) := by
  unfold btw rend
  rw [if_neg ht]
  exact st_btw f t r hs
theorem kl_cmp (a b : ByteArray) : kl a b = decide (Lib.compareBytes (sb a) (sb b) = -1) := by
  unfold kl
  rw [Lib.toList_data, Lib.toList_data]
  rcases cmp3 (sb a) (sb b) with ⟨h1, h2, _⟩ | ⟨h1, h2, _⟩ | ⟨h1, h2, _⟩
  · rw [h1]; exact h2
  · rw [h1]; exact h2
  · rw [h1]; exact h2
theorem cmp_anti {s t : List UInt8} (h1 : Lib.compareBytes s t ≠ -1) (h2 : Lib.compareBytes t s ≠ -1) : s = t := by
  rcases cmp3 s t with ⟨a, _, _⟩ | ⟨a, _, _⟩ | ⟨a, b, _⟩
  · exact absurd a h1
  · exact cmp_eq _ _ a
  · rcases cmp3 t s with ⟨c, _, _⟩ | ⟨c, _, _⟩ | ⟨c, d, _⟩
    · exact absurd c h2
    · exact (cmp_eq _ _ c).symm
    · exact kb_total b d
theorem rdVK_is {k s : List UInt8} {a b : Int} (h : rdVK k = some (s, a, b)) : may a b = true ∧ k = vkey s a b := by
  unfold rdVK at h
  split at h
  · cases h
  · rename_i s' r' hr
    split at h
    · rename_i a' b' hd
      injection h with h
      cases h
      obtain ⟨-, -, -, hk⟩ := rk_size hr
      obtain ⟨hm, ho⟩ := odown_tdown _ _ _ _ hd
      rw [List.append_nil] at ho
      refine ⟨hm, ?_⟩
      rw [hk, ← ho]
      rfl
    · cases h
theorem cmp_vkey (s t : List UInt8) (a b c d : Int) : Lib.compareBytes (vkey s a b) (vkey t c d) = if Lib.compareBytes s t = 0 then Lib.compareBytes (odown a b) (odown c d) else Lib.compareBytes s t := cmp_mark 118 s t (odown a b) (odown c d)
theorem bl_take : ∀ (n : Nat) (k f : List UInt8), Op.bytesLess k (f.take n) = true → Op.bytesLess k f = true
  | 0, k, f, h => by
    rw [List.take_zero] at h
    cases k <;> cases h
  | n + 1, k, [], h => by simpa using h
  | n + 1, [], y :: f, h => rfl
  | n + 1, x :: k, y :: f, h => by
    rw [List.take_succ_cons] at h
    rw [Op.bytesLess] at h ⊢
    simp only [Bool.or_eq_true, Bool.and_eq_true] at h ⊢
    rcases h with h | ⟨h1, h2⟩
    · exact .inl h
    · exact .inr ⟨h1, bl_take n k f h2⟩
theorem bl_take2 : ∀ (n : Nat) (k t : List UInt8), k.length ≤ n → Op.bytesLess (t.take n) k = true → Op.bytesLess k t = false
  | 0, k, t, hk, h => by
    have : k = [] := List.eq_nil_of_length_eq_zero (by omega)
    subst this
    cases t <;> cases h
  | n + 1, [], t, hk, h => by
    cases t <;> cases h
  | n + 1, x :: k, [], hk, h => rfl
  | n + 1, x :: k, y :: t, hk, h => by
    rw [List.take_succ_cons] at h
    rw [Op.bytesLess] at h ⊢
    simp only [Bool.or_eq_true, Bool.and_eq_true, decide_eq_true_eq] at h
    rcases h with h | ⟨h1, h2⟩
    · have e1 : ¬ x < y := fun e => UInt8.lt_irrefl _ (UInt8.lt_trans h e)
      have e2 : x ≠ y := fun e => by rw [e] at h; exact UInt8.lt_irrefl _ h
      simp [e1, e2]
    · have e := eq_of_beq h1
      subst e
      have ih := bl_take2 n k t (by simp at hk; omega) h2
      simp [ih, UInt8.lt_irrefl]
theorem zr_ne (s : ByteArray) : (s ++ zr).toList ≠ [] := by rw [ztoList]; simp
end Go.Proofs.YtldbmogondmgmaaGreatDoor
set_option linter.unusedVariables false
set_option linter.unusedSimpArgs false
set_option maxRecDepth 100000
namespace Go.Proofs.YtldbmogondmgmaaGreatDoor
open Go.RowKit

theorem endK_is (s : ByteArray) : isK (endK s) = true := by
  unfold endK
  split
  · decide
  · rename_i h
    rw [isK_iff, extract_size s _ (Nat.min_le_left _ _)]
    omega
attribute [local go_sem high] run_max_strs
theorem smax_end (s : ByteArray) : smax (s.extract 0 (min s.size 32)) ⟨#[0]⟩ = endK s := by
  unfold smax endK
  have hz : (⟨#[0]⟩ : ByteArray).toList = [0] := by rw [Lib.toList_data]
  rw [hz]
  by_cases h0 : s.size = 0
  · rw [if_pos h0]
    have e : (s.extract 0 (min s.size 32)).toList = [] := by
      refine List.eq_nil_of_length_eq_zero ?_
      rw [Lib.toList_data, Array.length_toList]
      have := extract_size s (min s.size 32) (Nat.min_le_left _ _)
      show (s.extract 0 (min s.size 32)).size = 0
      omega
    rw [e]
    rfl
  · rw [if_neg h0]
    have hsz : (s.extract 0 (min s.size 32)).toList.length = min s.size 32 := by
      rw [Lib.toList_data, Array.length_toList]
      exact extract_size s (min s.size 32) (Nat.min_le_left _ _)
    cases hl : (s.extract 0 (min s.size 32)).toList with
    | nil =>
      rw [hl] at hsz
      simp at hsz
      omega
    | cons a l =>
      rw [if_neg]
      have h2 := kl_nil l
      simp [Op.bytesLess, h2]
theorem seEnd (s : ByteArray) (hs : s.size ≤ 9223372036854775807) (w : World) :
    Calls Tryz.prog 189 #[.string s] w fun e w' => e = .returned (.string (endK s)) ∧ w = w' := by
  rw [← smax_end]
  have hmin : min (s.size : Int) 32 = ((min s.size 32 : Nat) : Int) := by omega
  have hlo : (0 : Int) ≤ ((min s.size 32 : Nat) : Int) := by omega
  have hhi : ((min s.size 32 : Nat) : Int) ≤ (s.size : Int) := by omega
  go_enter Tryz.func189, Tryz.ntmps189
  go_wp2
  go_ret
  exact ⟨rfl, rfl⟩
set_option maxHeartbeats 2000000 in
theorem seIsIn (f t k : ByteArray) (w : World) :
    Calls Tryz.prog 131 #[.agg #[.string f, .string t], .string k] w fun e w' => e = .returned (.bool (isInP f t k)) ∧ Below w.heap.size w w' := by
  have G := Lib.hid (nbl w (.cells #[.string f, .string t] 66))
  have hg := slt_gt k f
  by_cases hle : Op.bytesLess f.toList k.toList = true ∨ f.toList = k.toList
  · have hF := Lib.hid (show isInP f t k = Op.bytesLess k.toList t.toList by
      unfold isInP
      rw [← hg]
      rcases hle with h | h <;> simp [h, slt])
    rw [hF.out]
    clear hg
    go_enter Tryz.func131, Tryz.ntmps131
    go_wp2_with fail
    go_ret
    exact ⟨by simp; exact fun _ => hle, G.out⟩
  · have hF := Lib.hid (show isInP f t k = false by
      unfold isInP
      rw [← hg]
      have h1 : Op.bytesLess f.toList k.toList = false := by
        cases h : Op.bytesLess f.toList k.toList
        · rfl
        · exact absurd (.inl h) hle
      have h2 : (f.toList == k.toList) = false := by simpa using fun h => hle (.inr h)
      simp [h1, h2])
    rw [hF.out]
    clear hg
    go_enter Tryz.func131, Tryz.ntmps131
    go_wp2_with fail
    go_ret
    exact ⟨by simp, G.out⟩
end Go.Proofs.YtldbmogondmgmaaGreatDoor
set_option linter.unusedVariables false
set_option linter.unusedSimpArgs false
set_option maxRecDepth 100000
namespace Go.Proofs.YtldbmogondmgmaaGreatDoor
open Go.RowKit

theorem below_drw (W : World) (n : Nat) : Below W.heap.size W (W.drewN n) := ⟨rfl, rfl, rfl, Nat.le_refl _, fun _ _ => rfl⟩
set_option maxHeartbeats 1000000 in
theorem seEnds (f t : ByteArray) (hf : f.size ≤ 9223372036854775807) (ht : t.size ≤ 9223372036854775807) (w : World) :
    Calls Tryz.prog 129 #[.agg #[.string f, .string t]] w fun e w' => e = .returned (.tuple #[.string (endK f), .string (endK t)]) ∧ Below w.heap.size w w' := by
  have HE := Lib.hid (fun W => seEnd f hf W)
  have HT := Lib.hid (fun W => seEnd t ht W)
  have G := Lib.hid (nbl w (.cells #[.string f, .string t] 66))
  go_enter Tryz.func129, Tryz.ntmps129
  go_wp2_with fail
  go_quiet (first
    | (go_at_call 189; with_reducible exact Calls.quiet_of_same ((HE.out _).mono (fun _ _ hh => ⟨hh.1, hh.2.symm⟩)))
    | (go_at_call 189; with_reducible exact Calls.quiet_of_same ((HT.out _).mono (fun _ _ hh => ⟨hh.1, hh.2.symm⟩))))
  all_goals (try go_wp2_with fail)
  all_goals go_ret2
  all_goals exact ⟨rfl, bst G.out (below_drw _ _)⟩
set_option maxHeartbeats 1000000 in
theorem seLate (x : Tx) (t1 t2 : Int) (gx gt : Nat) (a b : Int) (W : World) (hX : Blk W gx 28 (txc x)) (hT : Blk W gt 26 #[.int .i64 t1, .int .i64 t2]) :
    Calls Tryz.prog 64 #[sv a b, pt gx, pt gt] W fun e w' => e = .returned (.bool (lateP x (t1, t2) (a, b))) ∧ Below W.heap.size W w' := by
  have G0 := Lib.hid (nbl W (.cells #[.int .i64 a, .int .i64 b] 26))
  have hB := Blk.new W 26 #[.int .i64 a, .int .i64 b]
  have hX0 := hX.below (nbl W (.cells #[.int .i64 a, .int .i64 b] 26)) hX.lt
  have hT0 := hT.below (nbl W (.cells #[.int .i64 a, .int .i64 b] 26)) hT.lt
  have cx4 := hX0.cell 4
  have cx5 := hX0.cell 5
  simp at cx4 cx5
  have HB := Lib.hid hB
  have HT := Lib.hid hT0
  have H1 := Lib.hid (less_c a b x.rw x.rl)
  have H2 := Lib.hid (less_c t1 t2 a b)
  clear hX hT hB hX0 hT0
  unfold lateP
  generalize lt (t1, t2) (a, b) = l2 at *
  cases hl : lt (a, b) (x.rw, x.rl) with
  | true =>
    rw [hl] at H1
    clear hl
    go_enter Tryz.func64, Tryz.ntmps64
    go_wp2_with (go_at_call 12; refine (H1.out _).mono ?_; rintro e w1 ⟨rfl, hb1⟩; have G1 := Lib.hid (bst G0.out hb1); clear hb1)
    go_ret
    exact ⟨by simp, G1.out⟩
  | false =>
    rw [hl] at H1
    clear hl
    go_enter Tryz.func64, Tryz.ntmps64
    go_wp2_with (first
      | (go_at_call 12; refine (H1.out _).mono ?_; rintro e w1 ⟨rfl, hb1⟩
         have b1 := HB.out.below hb1 HB.out.lt
         have k1 := HT.out.below hb1 HT.out.lt
         have bb0 := b1.cell 0
         have bb1 := b1.cell 1
         simp at bb0 bb1
         have kk0 := k1.cell 0
         have kk1 := k1.cell 1
         simp at kk0 kk1
         have G1 := Lib.hid (bst G0.out hb1)
         clear hb1 b1 k1)
      | (go_at_call 12; refine (H2.out _).mono ?_; rintro e w2 ⟨rfl, hb2⟩; have G2 := Lib.hid (bst G1.out hb2); clear hb2))
    go_ret
    exact ⟨by simp, G2.out⟩
set_option maxHeartbeats 1000000 in
theorem seWay (x : Tx) (t1 t2 : Int) (gx gt : Nat) (y : It) (v : Value) (W : World) (hX : Blk W gx 28 (txc x)) (hT : Blk W gt 26 #[.int .i64 t1, .int .i64 t2]) :
    Calls Tryz.prog 66 #[itv y v, pt gx, pt gt] W fun e w' => e = .returned (.bool (wayP x (t1, t2) y)) ∧ Below W.heap.size W w' := by
  have G0 := Lib.hid (nbl W (.cells (itc y v) 39))
  have hX0 := hX.below (nbl W (.cells (itc y v) 39)) hX.lt
  have hT0 := hT.below (nbl W (.cells (itc y v) 39)) hT.lt
  have cx0 := hX0.cell 0
  simp at cx0
  have k0 := hT0.cell 0
  have k1 := hT0.cell 1
  simp at k0 k1
  have H2 := Lib.hid (less_c t1 t2 y.sw y.sl)
  clear hX hT hX0 hT0
  unfold wayP
  generalize lt (t1, t2) (y.sw, y.sl) = l2 at *
  obtain ⟨y0, y1, y2, y3, y4, y5, y6, y7, y8⟩ := y
  obtain ⟨x0, x1, x2, x3, x4, x5, x6, x7, x8, x9, x10, x11⟩ := x
  simp only at *
  by_cases he : y0 = x0
  · subst he
    go_enter Tryz.func66, Tryz.ntmps66
    go_wp2_with fail
    go_ret
    exact ⟨by simp, G0.out⟩
  · have he2 : (y0 == x0) = false := by simpa using he
    have he3 : decide (y0 = x0) = false := by simpa using he
    rw [he3]
    clear he3
    go_enter Tryz.func66, Tryz.ntmps66
    go_wp2_with (go_at_call 12; refine (H2.out _).mono ?_; rintro e w2 ⟨rfl, hb2⟩; have G2 := Lib.hid (bst G0.out hb2); clear hb2)
    go_ret
    exact ⟨by simp [he], G2.out⟩
end Go.Proofs.YtldbmogondmgmaaGreatDoor
