/-
  FrameCut: the walk, over what the code's functions promise.
-/
import Derived.Test.YthbegaknlhclpaaVFrameBack
set_option linter.unusedVariables false
namespace Go.Proofs.Ythbegaknlhclpaa
open Go.RowKit

theorem ends_get (us : List (List UInt8)) (i : Nat) (h : i < us.length) : (ends us)[i]? = some (recs (us.take (i + 1))).length := by
  unfold ends
  rw [List.getElem?_map, List.getElem?_range h]
  rfl
theorem ends_len (us : List (List UInt8)) : (ends us).length = us.length := by
  unfold ends
  simp
theorem recs_split (us : List (List UInt8)) (i : Nat) : recs us = recs (us.take i) ++ recs (us.drop i) := by
  conv => lhs; rw [← List.take_append_drop i us]
  unfold recs
  rw [List.map_append, List.flatten_append]
theorem recs_cons (us : List (List UInt8)) (i : Nat) (h : i < us.length) : recs (us.drop i) = fr us[i] ++ recs (us.drop (i + 1)) := by
  rw [List.drop_eq_getElem_cons h]
  rfl

/-- Cut anywhere: the whole ones are told, what is left is none. -/
theorem cut_anywhere (us : List (List UInt8)) (hus : ∀ u ∈ us, u.length ≤ 1000) (k many : Nat) (hk : k ≤ (recs us).length) (hm : many ≤ us.length) (h1 : (recs (us.take many)).length ≤ k)
    (h2 : many < us.length → k < (recs (us.take (many + 1))).length) :
    nx (((recs us).take k).drop (recs (us.take many)).length) = ([], 0, 3) ∧ alls ((recs us).take k) = us.take many := by
  have hsmall : ∀ l ∈ us.take many, l.length ≤ 65536 := fun l hl => by have := hus l (List.mem_of_mem_take hl); omega
  have hsplit := recs_split us many
  have htk : (recs us).take k = recs (us.take many) ++ (recs (us.drop many)).take (k - (recs (us.take many)).length) := by
    rw [hsplit, List.take_append, List.take_of_length_le h1]
  have htail : nx ((recs (us.drop many)).take (k - (recs (us.take many)).length)) = ([], 0, 3) := by
    by_cases hlt : many < us.length
    · have hu := hus _ (List.getElem_mem hlt)
      have hc := recs_cons us many hlt
      have h2' := h2 hlt
      have e : recs (us.take (many + 1)) = recs (us.take many) ++ fr us[many] := by
        rw [List.take_succ_eq_append_getElem hlt, recs_snoc]
      rw [e, List.length_append] at h2'
      rw [hc, List.take_append_of_le_length (by omega)]
      exact nx_cut _ _ (by omega) (by omega)
    · have hd : us.drop many = [] := List.drop_eq_nil_of_le (by omega)
      rw [hd]
      show nx (([] : List UInt8).take _) = _
      rw [List.take_nil]
      decide +kernel
  constructor
  · rw [htk, List.drop_left]
    exact htail
  · rw [htk]
    have := alls_recs (us.take many) ((recs (us.drop many)).take (k - (recs (us.take many)).length)) hsmall
    rw [alls_no htail (by decide), List.append_nil] at this
    exact this

theorem sll_size (w : World) : (sizeOf 22).run Try.prog w = .ok 1 w := by kernel_rfl
theorem sll_elem : Try.prog.elem 35 = 22 := by kernel_rfl
theorem sll_under : Try.prog.underlying 35 = some (.slice (Try.prog.elem 35)) := by rw [sll_elem]; exact Try.underlying35
theorem sll_h (A : Option Addr) (n c : Nat) (kh : IntKind) (h : Int) (w : World) (h0 : 0 ≤ h) (h2 : h ≤ c) :
    (Instr.slice 35 (.slice A n c) none (some (.int kh h)) none).run Try.prog w = .ok (.slice A h.toNat c) w := by
  rw [run_slice_h w 35 A n c sll_under kh h h0 h2, sll_elem, sll_size]
  simp only [Result.andThen, sliced_cutA, cutA_zero, Nat.sub_zero]
theorem Lists.take {w : World} {A : Option Addr} {n : Nat} {ls : List (List UInt8)} (h : Lists w A n ls) (k : Nat) (hk : k ≤ n) : Lists w A k (ls.take k) := by
  have hl := h.1
  refine ⟨by rw [List.length_take]; omega, fun h0 => ?_⟩
  obtain ⟨b, o, hA, hc⟩ := h.2 (by omega)
  refine ⟨b, o, hA, fun i hi => ?_⟩
  have hi' : i < ls.length := by rw [List.length_take] at hi; omega
  rw [List.getElem_take]
  exact hc i hi'

theorem row_cells {w : World} {B n : Nat} {e : TypeId} {v : Value} {xs : List Value} (h : w.ownsRow B e 1 v n xs) : ∃ A c, v = .slice A n c ∧ (0 < n → ∃ g, A = some ⟨g, 0, none⟩ ∧ ∀ i u, xs[i]? = some u → w.cell? ⟨g, i, none⟩ = some u) := by
  rcases h.2 with ⟨rfl, h0⟩ | ⟨g, cap, cur, rfl, hb, hg, hnc, hcm, _⟩
  · exact ⟨none, 0, by rw [h0], fun hn => by omega⟩
  · refine ⟨_, cap, rfl, fun _ => ⟨g, rfl, fun i u hi => ?_⟩⟩
    have := World.ownsRow.cells h (g := g) rfl i u hi
    rw [Go.WideShapes.add_plain] at this
    simpa using this

set_option maxHeartbeats 2000000 in
theorem frameCut_w (hF : FrameOk) (hN : NextOk) (hall : AllOk) (A : Option Addr) (m c : Nat) (ls : List (List UInt8)) (at_ : Int) (w : World) (hx : Lists w A m ls) (hm : m ≤ 9223372036854775807)
    (hcap : ∀ b o i (h : i < ls.length) Ai ci, A = some ⟨b, o, none⟩ → w.cell? ⟨b, o + i, none⟩ = some (.slice Ai ls[i].length ci) → ls[i].length ≤ ci ∧ ci ≤ 9223372036854775807)
    (hi : -9223372036854775808 ≤ at_ ∧ at_ ≤ 9223372036854775807) :
    Calls Try.prog 6 #[.slice A m c, .int .i64 at_] w fun e w' => e = .returned (.bool true) ∧ Below w.heap.size w w' := by
  have HW := Lib.hid (works hF hN)
  have hus := cutL_small ls (min m 20)
  have hul := cutL_len ls (min m 20) (by have := hx.1; omega)
  have hrl := recs_len _ hus
  have HP := Lib.hid (fun V h1 h2 => put hF A m c ls V h1 hm h2)
  go_enter Try.func6, Try.ntmps6
  go_wp2_with fail
  refine (HW.out _).mono ?_
  rintro e1 w1 ⟨rfl, hb1⟩
  have hcap1 : ∀ b o i (h : i < ls.length) Ai ci, A = some ⟨b, o, none⟩ → w1.cell? ⟨b, o + i, none⟩ = some (.slice Ai ls[i].length ci) → ls[i].length ≤ ci ∧ ci ≤ 9223372036854775807 := by
    intro b o i h Ai ci hA hc
    have hm0 : 0 < m := by have := hx.1; omega
    obtain ⟨b', o', hA', hcc⟩ := hx.2 hm0
    rw [hA] at hA'
    cases hA'
    obtain ⟨Ai', ci', h1, _⟩ := hcc i h
    have h1' := (hb1.cell (World.block_lt_of_cell? w _ h1)).trans h1
    rw [hc] at h1'
    cases h1'
    exact hcap b o i h Ai ci hA h1
  have HC1 := Lib.hid hcap1
  clear hcap hcap1
  go_wp2_with fail
  refine (HP.out _ (hx.below' hb1) HC1.out).mono ?_
  rintro e2 w2 ⟨vb, vw, ve, ps, rfl, hps, hOb, hOw, hR, hOe, hb2⟩
  have hB2 := hb1.trans (hb2.mono hb1.size)
  obtain ⟨A2, c2, rfl, hA2, h21, h22, _⟩ := hOb.form
  obtain ⟨A3, c3, rfl, hL3, h31, h32⟩ := lists_row hOw (fun x hx' => (hR x hx').below hb2)
  rw [hps] at hL3
  generalize cutL ls (min m 20) = us at *
  generalize hmm : min m 20 = mm at *
  have hul2 : mm ≤ 20 := by omega
  have hmm0 : us.length = mm := hul
  have HUL := Lib.hid hmm0
  have HUS := Lib.hid hus
  obtain ⟨L, hL⟩ : ∃ L, (recs us).length = L := ⟨_, rfl⟩
  have HLL := Lib.hid hL
  rw [hL] at hA2 h21 hrl ⊢
  have hLb : L ≤ 30000 := by omega
  have hO2 := Lib.hid hOe
  clear hus hul hrl hps hOb hOw hR hOe hb1 hb2 hx hmm hmm0 hL HP HC1 HW
  go_wp2_with fail
  refine (bring at_ ((L : Int) + 1) _ (by omega) (by omega)).mono ?_
  rintro e3 w3 ⟨rfl, rfl⟩
  have m1 := Int.emod_nonneg at_ (b := (L : Int) + 1) (by omega)
  have m2 := Int.emod_lt_of_pos at_ (b := (L : Int) + 1) (by omega)
  obtain ⟨k, hkk⟩ := Int.eq_ofNat_of_zero_le m1
  rw [hkk] at m2 ⊢
  have hkL : k ≤ L := by omega
  clear hkk m1 m2
  obtain ⟨A4, c4, rfl, hcells⟩ := row_cells hO2.out
  have HCE := Lib.hid (fun (hn : 0 < mm) => hcells hn)
  clear hcells hO2
  go_wp2_with fail
  go_loopw [10, 11, 12] (fun um ul ui wr => ∃ i mn : Nat, i ≤ mm ∧ mn ≤ i ∧ ui = .int .i64 i ∧ um = .int .i64 mn ∧ (∃ la : Nat, Hid ((recs (us.take mn)).length = la) ∧ la ≤ k ∧ ul = .int .i64 la) ∧ Hid (mn < i → k < (recs (us.take (mn + 1))).length) ∧ wr = w2) (fun _ _ ui _ => mm - (intOf ui).toNat)
  case atStart => exact ⟨0, 0, Nat.zero_le _, Nat.le_refl _, rfl, rfl, ⟨0, by simp [recs, Hid], Nat.zero_le _, rfl⟩, fun h => absurd h (by omega), rfl⟩
  case round =>
    obtain ⟨i, mn, him, hmn, rfl, rfl, ⟨la, hla, hlk, rfl⟩, hnext, rfl⟩ := hrel
    by_cases hlt : i < mm
    · obtain ⟨g, rfl, hcl⟩ := HCE.out (by omega)
      have hge := ends_get us i (by rw [HUL.out]; exact hlt)
      have hcell := hcl i (.int .i64 ((recs (us.take (i + 1))).length : Int)) (by rw [List.getElem?_map, hge]; rfl)
      obtain ⟨E, hE⟩ : ∃ E, (recs (us.take (i + 1))).length = E := ⟨_, rfl⟩
      rw [hE] at hcell
      have HE := Lib.hid hE
      clear hcl hge hE
      by_cases hle : E ≤ k
      · clear hnext
        go_wp2
        go_roundw
        case rel => exact ⟨i + 1, i + 1, by omega, Nat.le_refl _, by go_num, by go_num, ⟨E, HE, hle, rfl⟩, fun h => absurd h (by omega), trivial⟩
        case measure => simp [intOf]; omega
      · have hn2 : Hid (mn < i + 1 → k < (recs (us.take (mn + 1))).length) := by
          intro h
          by_cases e : mn = i
          · rw [e, HE.out]
            omega
          · exact hnext.out (by omega)
        go_wp2
        go_roundw
        case rel => exact ⟨i + 1, mn, by omega, by omega, by go_num, rfl, ⟨la, hla, hlk, rfl⟩, hn2, trivial⟩
        case measure => simp [intOf]; omega
    · obtain rfl : i = mm := by omega
      obtain ⟨hnx, hal⟩ := cut_anywhere us HUS.out k mn (by rw [HLL.out]; exact hkL) (by rw [HUL.out]; exact hmn) (by rw [hla.out]; exact hlk) (fun h => hnext.out (by rw [HUL.out] at h; exact h))
      rw [hla.out] at hnx
      have hD := hA2.cut (l := la) (k := k) (m := c2) hlk hkL (by omega)
      have hT := hA2.cut (l := 0) (k := k) (m := c2) (by omega) hkL (by omega)
      simp only [cutA_zero, Nat.sub_zero, List.drop_zero] at hT
      have hLt := hL3.take mn hmn
      have HN := Lib.hid (show ∀ V : World, At V (cutA A2 c2 la) (k - la) (((recs us).take k).drop la) → Calls Try.prog 17 #[.slice (cutA A2 c2 la) (k - la) (c2 - la)] V fun x W' => ∃ v, x = .returned (.tuple #[v, .int .i64 0, .int .i64 3]) ∧ Own W' V.heap.size v [] ∧ Below V.heap.size V W' from
        fun V h => hN (cutA A2 c2 la) (k - la) (c2 - la) _ [] 0 3 V h (by omega) (by omega) (by omega) hnx)
      have hall2 : (alls ((recs us).take k)).length ≤ 1000000 := by rw [hal, List.length_take]; omega
      have HA := Lib.hid (fun V h => out_all hall A2 k c2 ((recs us).take k) V h (by omega) h22 (by omega) hall2)
      rw [hal] at HA
      have k0 : ∀ W : World, (Instr.slice 22 (.slice A2 L c2) (some (.int .i64 (la : Int))) (some (.int .i64 (k : Int))) none).run Try.prog W = .ok (.slice (cutA A2 c2 la) (k - la) (c2 - la)) W := fun W => by
        have := slb_lh A2 L c2 .i64 .i64 (la : Int) (k : Int) W (by omega) (by omega) (by omega)
        simpa using this
      have k1 : ∀ W : World, (Instr.slice 22 (.slice A2 L c2) none (some (.int .i64 (k : Int))) none).run Try.prog W = .ok (.slice A2 k c2) W := fun W => by
        simpa using slb_h A2 L c2 .i64 (k : Int) W (by omega) (by omega)
      have k2 : ∀ W : World, (Instr.slice 35 (.slice A3 i c3) none (some (.int .i64 (mn : Int))) none).run Try.prog W = .ok (.slice A3 mn c3) W := fun W => by
        simpa using sll_h A3 i c3 .i64 (mn : Int) W (by omega) (by omega)
      have HSM := Lib.hid (fun l (hl : l ∈ us.take mn) => HUS.out l (List.mem_of_mem_take hl))
      have hq : (us.take mn == us.take mn) = true := beq_self_eq_true _
      generalize us.take mn = ts at hLt HA HSM hq
      generalize (recs us).take k = tk' at hT HA
      clear hnx hal hall2 hnext hla hA2 hL3 HCE hN hall hF
      go_wp2_with fail
      refine (HN.out _ hD).mono ?_
      rintro e5 w5 ⟨v5, rfl, hown5, hb5⟩
      have hT5 : At w5.drew A2 k tk' := hT.below' hb5.drew
      have hL5 : Lists w5.drew A3 mn ts := hLt.below' hb5.drew
      have hB5 : Below w.heap.size w w5.drew := (hB2.trans (hb5.mono hB2.size)).drew
      clear hown5 hb5 hT hLt hB2 hD HN k0
      go_wp2_with fail
      go_region_with (first
        | (go_at_call 23; refine (HA.out _ ?_).mono ?_; exact hT5; rintro e6 w6 ⟨v6, qs, rfl, hqs, hOq, hOo, hb6⟩
           obtain ⟨A7, c7, rfl, hL7, h71, h72⟩ := lists_row hOq (fun x hx' => (hOo x hx').reads)
           rw [hqs] at hL7
           have hL6 := hL5.below' hb6
           have hB6 := hB5.trans (hb6.mono hB5.size)
           clear hqs hOq hOo hb6)
        | (go_at_call 20; refine (same A7 qs.length c7 ts A3 mn c3 ts _ hL7 hL6 (by omega) (fun l hl => by have := HSM.out l hl; omega)).mono ?_; rintro e8 w8 ⟨rfl, j, rfl⟩; rw [hq]))
      all_goals go_wp2
      all_goals go_ret
      all_goals refine ⟨?_, below_drewN hB6 j⟩
      all_goals kernel_rfl
end Go.Proofs.Ythbegaknlhclpaa
