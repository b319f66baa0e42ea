/-
  Layer 4, the statements' own 'put': lists as records, one behind the other.
-/
import Derived.Test.YthbegaknlhclpaaFOk
import Derived.Test.YthbegaknlhclpaaFSame
import Derived.Test.YthbegaknlhclpaaBlk
import Derived.Maps.AppendAt
import Derived.RangeFuncBox
import Derived.Handy
set_option linter.unusedVariables false
namespace Go.Proofs.Ythbegaknlhclpaa
open Go.RowKit

/-- A row of the call's own stays where a row of other cells is written. -/
theorem row_grown {W W' : World} {B1 B2 n1 n2 s1 s2 : Nat} {e1 e2 : TypeId} {v1 v2 : Value} {xs1 xs2 : List Value} (h1 : W.ownsRow B1 e1 s1 v1 n1 xs1) (h2 : W.ownsRow B2 e2 s2 v2 n2 xs2) (hg : W.grownBy W' v2.ownBlock) (he : e1 ≠ e2) :
    W'.ownsRow B1 e1 s1 v1 n1 xs1 := by
  refine World.ownsRow.kept h1 hg ?_
  rcases h1.2 with ⟨rfl, _⟩ | ⟨g, cap, cur, rfl, hb, hh, _⟩
  · exact .inl rfl
  · refine .inr fun h => ?_
    rcases h2.2 with ⟨rfl, _⟩ | ⟨g', cap', cur', rfl, hb', hh', _⟩
    · cases h
    · simp only [Value.ownBlock, Option.some.injEq] at h
      subst h
      rw [hh] at hh'
      simp only [Option.some.injEq, Obj.cells.injEq] at hh'
      exact he hh'.2.1

theorem infoS : (Try.prog.info? 22).map (fun i => (i.zero, i.size, i.bytes)) = some (some (.slice none 0 0), 1, 24) := by kernel_rfl
theorem infoI : (Try.prog.info? 3).map (fun i => (i.zero, i.size, i.bytes)) = some (some (.int .i64 0), 1, 8) := by kernel_rfl

/-- The lists, as 'put' takes them. -/
def cutL (ls : List (List UInt8)) (k : Nat) : List (List UInt8) := (ls.take k).map (·.take 1000)
def recs (us : List (List UInt8)) : List UInt8 := (us.map fr).flatten
def ends (us : List (List UInt8)) : List Nat := (List.range us.length).map fun i => (recs (us.take (i + 1))).length

theorem cutL_succ (ls : List (List UInt8)) (k : Nat) (h : k < ls.length) : cutL ls (k + 1) = cutL ls k ++ [ls[k].take 1000] := by
  unfold cutL
  rw [List.take_succ_eq_append_getElem h, List.map_append]
  rfl
theorem recs_snoc (us : List (List UInt8)) (u : List UInt8) : recs (us ++ [u]) = recs us ++ fr u := by
  unfold recs
  rw [List.map_append, List.flatten_append]
  simp
theorem ends_snoc (us : List (List UInt8)) (u : List UInt8) : ends (us ++ [u]) = ends us ++ [(recs us ++ fr u).length] := by
  unfold ends
  rw [List.length_append, List.length_singleton, List.range_succ, List.map_append]
  congr 1
  · apply List.map_congr_left
    intro i hi
    rw [List.take_append_of_le_length (by have := List.mem_range.1 hi; omega)]
  · rw [List.map_singleton, List.take_of_length_le (by simp), recs_snoc]
theorem cutL_len (ls : List (List UInt8)) (k : Nat) (h : k ≤ ls.length) : (cutL ls k).length = k := by
  unfold cutL
  rw [List.length_map, List.length_take]
  omega
theorem cutL_small (ls : List (List UInt8)) (k : Nat) : ∀ u ∈ cutL ls k, u.length ≤ 1000 := by
  intro u hu
  obtain ⟨l, _, rfl⟩ := List.mem_map.1 hu
  simp
  omega
theorem recs_len (us : List (List UInt8)) (h : ∀ u ∈ us, u.length ≤ 1000) : (recs us).length ≤ us.length * 1012 := by
  induction us with
  | nil => simp [recs]
  | cons u us ih =>
    have h1 := ih (fun x hx => h x (by simp [hx]))
    have h2 := h u (by simp)
    have h3 := enc_len u.length (by omega)
    have e : recs (u :: us) = fr u ++ recs us := by unfold recs; rw [List.map_cons, List.flatten_cons]
    rw [e, List.length_append, fr_len, List.length_cons]
    omega

set_option maxHeartbeats 4000000 in
theorem put (hF : FrameOk) (A : Option Addr) (m c : Nat) (ls : List (List UInt8)) (w : World) (hx : Lists w A m ls) (hm : m ≤ 9223372036854775807)
    (hcap : ∀ b o i (h : i < ls.length) Ai ci, A = some ⟨b, o, none⟩ → w.cell? ⟨b, o + i, none⟩ = some (.slice Ai ls[i].length ci) → ls[i].length ≤ ci ∧ ci ≤ 9223372036854775807) :
    Calls Try.prog 22 #[.slice A m c] w fun e w' => ∃ (vb vw ve : Value) (ps : List Piece), e = .returned (.tuple #[vb, vw, ve, .bool true]) ∧ ps.map (·.2) = cutL ls (min m 20) ∧
      Own w' w.heap.size vb (recs (cutL ls (min m 20))) ∧ w'.ownsRow w.heap.size 22 1 vw (min m 20) (ps.map (·.1)) ∧ (∀ x ∈ ps, Reads w x) ∧
      w'.ownsRow w.heap.size 3 1 ve (min m 20) ((ends (cutL ls (min m 20))).map fun (n : Nat) => Value.int .i64 (n : Int)) ∧ Below w.heap.size w w' := by
  have HML := Lib.hid hx.1
  obtain ⟨i2, hi2, hy0, hy1, hy2⟩ := info_parts infoS
  obtain ⟨i3, hi3, hz0, hz1, hz2⟩ := info_parts infoI
  go_enter Try.func22, Try.ntmps22
  go_wp2
  go_loopw [6, 7, 8, 9] (fun vb vw ve i wr => ∃ k : Nat, k ≤ m ∧ k ≤ 20 ∧ i = .int .i64 k ∧ ∃ ps : List Piece, Hid (ps.map (·.2) = cutL ls k) ∧ Hid (Own wr w.heap.size vb (recs (cutL ls k))) ∧ Hid (wr.ownsRow w.heap.size 22 1 vw k (ps.map (·.1))) ∧ Hid (∀ x ∈ ps, Reads w x) ∧
      Hid (wr.ownsRow w.heap.size 3 1 ve k ((ends (cutL ls k)).map fun (n : Nat) => Value.int .i64 (n : Int))) ∧ Hid (Below w.heap.size w wr)) (fun _ _ _ i _ => 20 - (intOf i).toNat)
  case atStart =>
    exact ⟨0, Nat.zero_le _, by omega, rfl, [], Lib.hid (by simp [cutL]), Lib.hid (World.ownsRow_nil _ _ _ _), Lib.hid (World.ownsRow_nil _ _ _ _), Lib.hid (fun x hx => absurd hx (by simp)), Lib.hid (World.ownsRow_nil _ _ _ _), Lib.hid (Below.refl _ _)⟩
  case round =>
    obtain ⟨k, hkm, hk20, rfl, ps, hps, hOb, hOw, hR, hOe, hB⟩ := hrel
    by_cases hlt : k < m
    · by_cases hlt2 : k < 20
      · obtain ⟨b, o, rfl, hc⟩ := hx.2 (by omega)
        have hkl : k < ls.length := by rw [HML.out]; exact hlt
        obtain ⟨Ai, ci, h1, h2⟩ := hc k hkl
        obtain ⟨hci1, hci2⟩ := hcap b o k hkl Ai ci rfl h1
        have hBs := hB.out.size
        have g1 : wr.cell? ⟨b, o + k, none⟩ = some (.slice Ai ls[k].length ci) := by rw [hB.out.cell (World.block_lt_of_cell? w _ h1), h1]
        have g2 := h2.below' hB.out
        obtain ⟨q, hq⟩ : ∃ q : Nat, q = min ls[k].length 1000 := ⟨_, rfl⟩
        have hcut0 := h2.cut (l := 0) (k := q) (m := ci) (by omega) (by omega) (by omega)
        have hcut := g2.cut (l := 0) (k := q) (m := ci) (by omega) (by omega) (by omega)
        simp only [cutA_zero, Nat.sub_zero, List.drop_zero] at hcut hcut0
        have htk : ls[k].take q = ls[k].take 1000 := by
          by_cases h : ls[k].length ≤ 1000
          · rw [List.take_of_length_le (by omega), List.take_of_length_le (by omega)]
          · rw [show q = 1000 by omega]
        rw [htk] at hcut hcut0
        have hsucc := cutL_succ ls k hkl
        generalize ls[k].take 1000 = u at hcut hcut0 hsucc
        generalize hlk : ls[k].length = lk at *
        have HQ := Lib.hid (show (min (lk : Int) 1000).toNat = q by omega)
        have b1 : (0 : Int) ≤ min (lk : Int) 1000 := by omega
        have b2 : min (lk : Int) 1000 ≤ ci := by omega
        have hq1 : q ≤ 1000 := by omega
        have hqc : q ≤ ci := by omega
        have HS := Lib.hid hsucc
        clear hsucc htk hc h2 hlk hq hcap g2
        go_wp2_with fail
        go_quiet (fail)
        all_goals go_wp2_with fail
        rw [HQ.out]
        have hul := hcut.1
        have hfl := fr_len u
        have hel := enc_len u.length (by omega)
        refine (hF Ai q ci u _ (hcut.drewN nq) hqc hci2 (by omega)).mono ?_
        rintro e2 w2 ⟨v2, rfl, hown2, hb2⟩
        rw [if_neg (by omega)] at hown2 ⊢
        have hOb2 := (hOb.out.drewN nq).below hb2
        have hOw2 : w2.ownsRow w.heap.size 22 1 u7 k (ps.map (·.1)) := row_below (w := wr.drewN nq) hOw.out hb2
        have hOe2 : w2.ownsRow w.heap.size 3 1 u8 k ((ends (cutL ls k)).map fun (n : Nat) => Value.int .i64 (n : Int)) := row_below (w := wr.drewN nq) hOe.out hb2
        have hB2 : Below w.heap.size w w2 := (below_drewN hB.out nq).trans (hb2.mono hBs)
        have hB2s := hB2.size
        obtain ⟨A2, c2, rfl, hA2, _, _, _⟩ := hown2.form
        have hrl := recs_len (cutL ls k) (cutL_small ls k)
        rw [cutL_len ls k (by omega)] at hrl
        have hesn := ends_snoc (cutL ls k) u
        have hrsn := recs_snoc (cutL ls k) u
        rw [← HS.out] at hesn hrsn
        generalize hF1 : fr u = f at *
        generalize recs (cutL ls k) = R at *
        obtain ⟨Q, hQ⟩ : ∃ Q, Q = R ++ f := ⟨_, rfl⟩
        rw [← hQ] at hrsn hesn
        have hQl : Q.length = R.length + f.length := by rw [hQ, List.length_append]
        have HR := Lib.hid hrsn
        have HE := Lib.hid hesn
        have HQ2 := Lib.hid hQ
        have hfb : f.length ≤ 1012 := by omega
        generalize hfL : f.length = fL at *
        have HFL := Lib.hid hfL
        have hQb : Q.length ≤ 30000 := by omega
        clear hown2 hb2 hOb hOw hOe hB hcut hrsn hesn hF1 hfl hel hul hfL g1 h1 hQ hQl
        go_wp2_with (first
          | (at_builtin; refine wpList_app rfl _ _ 22 rfl w.heap.size 5 Try.underlying22 info5 u6 R.length R f rfl hOb2 A2 fL c2 rfl hA2 (by omega) hB2s ?_; intro v3 w3 hown3 hg3 hat3
             have hO3 : Own w3 w.heap.size v3 Q := by
               unfold Own
               rw [HQ2.out, List.length_append, HFL.out]
               simpa using hown3
             have hOw3 := row_grown hOw2 hOb2 hg3 (by decide)
             have hOe3 := row_grown hOe2 hOb2 hg3 (by decide)
             have hB3 : Below w.heap.size w w3 := hB2.grown hg3 hB2s (fun j hj => (World.ownsRow.lt hOb2 j hj).1)
             have hB3s := hB3.size
             obtain ⟨A3, c3, rfl, hA3, _, _, _⟩ := hO3.form
             clear hown3 hg3 hat3 hOw2 hOe2 hOb2 hB2 hB2s hA2)
          | (at_builtin; refine wpList_append_own _ rfl _ _ 35 rfl w.heap.size 22 i2 (.slice none 0 0) 1 24 Try.underlying35 hi2 hy0 hy1 hy2 rfl (by decide) u7 k (ps.map (·.1)) rfl (hOw3.alloc _) ⟨w3.heap.size, 0, none⟩ 1 1 [.slice Ai q ci] rfl rfl (cell_one_new _ _ _) (fun u' hu' => by rw [List.mem_singleton.1 hu']; rfl) (by unfold maxLen; omega) (by omega) (by simp; omega) ?_; intro v4 w4 hown4 hg4 _
             have hO4 := row_grown (hO3.alloc _) (hOw3.alloc _) hg4 (by decide)
             have hOe4 := row_grown (hOe3.alloc _) (hOw3.alloc _) hg4 (by decide)
             have hB4 : Below w.heap.size w w4 := (hB3.alloc hB3s _).grown hg4 (by simp; omega) (fun j hj => (World.ownsRow.lt hOw3 j hj).1)
             have hB4s := hB4.size
             clear hg4 hOw3 hOe3 hO3 hB3 hB3s)
          | (at_builtin; refine wpList_append_own _ rfl _ _ 38 rfl w.heap.size 3 i3 (.int .i64 0) 1 8 Try.underlying38 hi3 hz0 hz1 hz2 rfl (by decide) u8 k _ rfl (hOe4.alloc _) ⟨w4.heap.size, 0, none⟩ 1 1 [.int .i64 (Q.length : Int)] rfl rfl (cell_one_new _ _ _) (fun u' hu' => by rw [List.mem_singleton.1 hu']; rfl) (by unfold maxLen; omega) (by omega) (by simp; omega) ?_; intro v5 w5 hown5 hg5 _
             have hO5 := row_grown (World.ownsRow.alloc hO4 _) (hOe4.alloc _) hg5 (by decide)
             have hOw5 := row_grown (World.ownsRow.alloc hown4 _) (hOe4.alloc _) hg5 (by decide)
             have hB5 : Below w.heap.size w w5 := (hB4.alloc hB4s _).grown hg5 (by simp; omega) (fun j hj => (World.ownsRow.lt hOe4 j hj).1)))
        have hul0 := hcut0.1
        go_roundw
        case rel =>
          refine ⟨k + 1, by omega, by omega, by go_num, ps ++ [(.slice Ai q ci, u)], Lib.hid ?_, Lib.hid (by rw [HR.out]; exact hO5), Lib.hid (by rw [List.map_append]; exact hOw5), Lib.hid ?_, Lib.hid (by rw [HE.out, List.map_append]; exact hown5), Lib.hid hB5⟩
          · rw [List.map_append, hps.out, HS.out]
            rfl
          · intro x hx'
            rcases List.mem_append.1 hx' with h | h
            · exact hR.out x h
            · obtain rfl : x = (.slice Ai q ci, u) := by simpa using h
              exact ⟨Ai, ci, by rw [hul0], by rw [hul0]; exact hcut0, by show u.length ≤ ci; omega, hci2⟩
        case measure => simp [intOf]; omega
      · have hmk : min m 20 = k := by omega
        have hge : 20 ≤ k := by omega
        have HMK := Lib.hid hmk
        clear hmk hlt2
        go_wp2
        go_returns
        exact ⟨u6, u7, u8, ps, rfl, by rw [HMK.out]; exact hps.out, by rw [HMK.out]; exact hOb.out, by rw [HMK.out]; exact hOw.out, hR.out, by rw [HMK.out]; exact hOe.out, hB.out⟩
    · have hmk : min m 20 = k := by omega
      have hge : m ≤ k := by omega
      have HMK := Lib.hid hmk
      clear hmk hlt
      go_wp2
      go_returns
      exact ⟨u6, u7, u8, ps, rfl, by rw [HMK.out]; exact hps.out, by rw [HMK.out]; exact hOb.out, by rw [HMK.out]; exact hOw.out, hR.out, by rw [HMK.out]; exact hOe.out, hB.out⟩
end Go.Proofs.Ythbegaknlhclpaa
