/-
  Layer 9, the statements' words: made: a list, and the map that it should be.
-/
import Derived.Test.YtcpbcoeccplliaaSkMap
import Derived.Test.YtcpbcoeccplliaaVSkipAsks
import Derived.Test.YtcpbcoeccplliaaSepJoin
import Derived.StringKeys
import Derived.Carry
set_option linter.unusedVariables false
namespace Go.Proofs.Ytcpbcoeccplliaa
open Go.RowKit Go.Maps Go.MapKept

theorem mapK9 : Keyed Try.prog 9 := string_keyed Try.underlying9
section
variable {w V V' : World} {T : List As} {b c c' : Nat} {l l' : List Kv}
theorem Has.map (h : Has w (mapA b c l :: T) V) : ∃ D, V.ownsMap Try.prog 9 (plainElem Try.prog 3) b c D ∧ MpIs D l ∧ ∀ (V' : World) (c' : Nat) (l' : List Kv) (D' : DataW Empty), V.grownBy V' (some b) → V'.ownsMap Try.prog 9 (plainElem Try.prog 3) b c' D' → MpIs D' l' → Has w (mapA b c' l' :: T) V' := by
  obtain ⟨F, ⟨⟨D, hO, hM⟩, hF⟩, _, h2⟩ := h.step
  refine ⟨D, hO, hM, fun V' c' l' D' hg hO' hM' => h2 V' (mapA b c' l') F (Grow.by_ hg (fun k e => (hF k).2 (by injection e with e; exact e.symm))) ⟨⟨D', hO', hM'⟩, hF⟩ (fun k e => .inl e)⟩
theorem Has.mapMono (h : Has w (mapA b c l :: T) V) (hc : c ≤ c') : Has w (mapA b c' l :: T) V :=
  h.imp (fun F ⟨⟨D, hO, hM⟩, hF⟩ => ⟨⟨D, hO.mono hc, hM⟩, hF⟩)
theorem Has.mapNew (h : Has w T V) : Has w (mapA V.heap.size 0 [] :: T) (V.alloc (.map #[] 0)) :=
  h.new (F := fun k => k = V.heap.size) (nbl V _) ⟨⟨.map [], World.ownsMap_made V Try.prog 9 _, MpIs.nil⟩, fun k => Iff.rfl⟩ (fun k e => Nat.le_of_eq e.symm)
end
/-- What a deed of known steps makes of a list. -/
def doM (l : List Kv) (d : Sd9) : List Kv := if d.kind % 3 = 2 then kdrop l d.key else kput l d.key (.int .i64 d.val) (1 + d.st % 16).toNat
def listM (ds : List Sd9) (k : Nat) : List Kv := (ds.take k).foldl doM []
theorem listM_succ {ds : List Sd9} {k : Nat} (h : k < ds.length) : listM ds (k + 1) = doM (listM ds k) (ds[k]'h) := by
  unfold listM
  rw [List.take_succ_eq_append_getElem h, List.foldl_append]
  rfl
theorem doM_len (l : List Kv) (d : Sd9) : (doM l d).length ≤ l.length + 1 := by
  unfold doM
  split
  · have := kdrop_len2 l d.key; omega
  · have := kput_len l d.key (.int .i64 d.val) (1 + d.st % 16).toNat
    split at this <;> omega
theorem listM_len (ds : List Sd9) (k : Nat) : (listM ds k).length ≤ k := by
  induction k with
  | zero => exact Nat.le_refl _
  | succ k ih =>
    by_cases h : k < ds.length
    · rw [listM_succ h]
      have := doM_len (listM ds k) (ds[k]'h)
      omega
    · unfold listM at ih ⊢
      rw [List.take_of_length_le (by omega)] at ih ⊢
      omega
set_option maxRecDepth 100000 in
set_option maxHeartbeats 8000000 in
theorem sk_made (A0 : Option Addr) (n0 c0 : Nat) (w : World) (ds : List Sd9) (hds : SdAt w A0 n0 ds) (hok : ∀ i (h : i < ds.length), (ds[i]'h).ok) (hn : n0 ≤ 9223372036854775807) :
    Calls Try.prog 28 #[.slice A0 n0 c0] w fun e w' => ∃ q b, e = .returned (.tuple #[pt q, .map (some b)]) ∧ Has w (skA q (listM ds (min n0 80)) :: mapA b 80 (listM ds (min n0 80)) :: []) w' := by
  have h0 : Has w [] w := Has.nil (Below.refl _ _)
  have HDS := Lib.hid hds
  have HLN := Lib.hid hds.1
  have HOK := Lib.hid hok
  have hmm := @run_makeMap Try.prog
  have hmx : (80 : Nat) < maxLen := by decide
  clear hds hok
  go_enter Try.func28, Try.ntmps28
  go_wp2_with (first
    | (go_at_call 11; refine h0.skNew.mono ?_; rintro e w1 ⟨q, rfl, h1⟩; have H1 := Lib.hid h1.mapNew.swap; clear h1 h0))
  clear hmm
  generalize hB : w1.heap.size = B at *
  generalize w1.alloc (.map #[] 0) = X at *
  go_loopw [6] (fun i wr => ∃ k : Nat, k ≤ n0 ∧ k ≤ 80 ∧ i = .int .i64 k ∧ Hid (Has w (skA q (listM ds k) :: mapA B k (listM ds k) :: []) wr)) (fun i _ => n0 - (intOf i).toNat)
  case atStart => exact ⟨0, Nat.zero_le _, Nat.zero_le _, rfl, H1⟩
  case round =>
    obtain ⟨k, hk, hk80, rfl, HH⟩ := hrel
    have hlen := listM_len ds k
    by_cases hlt : k < n0 ∧ k < 80
    · obtain ⟨hlt, hlt80⟩ := hlt
      have e1 : k < ds.length := by rw [HLN.out]; exact hlt
      obtain ⟨bb, o, rfl, hc⟩ := HDS.out.2 (by omega)
      obtain ⟨z0, z1, z2, z3⟩ := hc k e1
      have hokk := HOK.out k e1
      have hs := listM_succ e1
      obtain ⟨⟨kind, dk, val, st⟩, hg⟩ : ∃ x, ds[k]'e1 = x := ⟨_, rfl⟩
      rw [hg] at z0 z1 z2 z3 hokk hs
      obtain ⟨o1, o2, o3, o4⟩ := hokk
      simp only at z0 z1 z2 z3 o1 o2 o3 o4
      have HC := Lib.hid (fun V (hb : Below w.heap.size w V) => (show V.cell? ⟨bb, o + k * 4, none⟩ = some (.int .i64 kind) ∧ V.cell? ⟨bb, o + k * 4 + 1, none⟩ = some (.string dk) ∧ V.cell? ⟨bb, o + k * 4 + 2, none⟩ = some (.int .i64 val) ∧ V.cell? ⟨bb, o + k * 4 + 3, none⟩ = some (.int .i64 st) from
        ⟨(hb.cell (World.block_lt_of_cell? w _ z0)).trans z0, (hb.cell (World.block_lt_of_cell? w _ z1)).trans z1, (hb.cell (World.block_lt_of_cell? w _ z2)).trans z2, (hb.cell (World.block_lt_of_cell? w _ z3)).trans z3⟩))
      have BR := Lib.hid (fun W => bring kind 3 W (by omega) (by omega))
      have HKEY := Lib.hid (Go.WideMaps.keyOf_string_mk (P := Try.prog) Try.underlying9 (s := dk) (by unfold maxLen; omega))
      have HVAL := Lib.hid (plainElem_int (H := Empty) (P := Try.prog) Try.underlying3 o4)
      have HS := Lib.hid hs
      have O1 := Lib.hid o1
      obtain ⟨y0, y1, y2, y3⟩ := HC.out wr HH.out.bel
      clear hc hs hg e1 z0 z1 z2 z3 o1 o2 o3
      by_cases hk2 : kind % 3 = 2
      · have hdo : doM (listM ds k) ⟨kind, dk, val, st⟩ = kdrop (listM ds k) dk := by unfold doM; rw [if_pos hk2]
        rw [hdo] at HS
        have DR := Lib.hid (HH.out.skDrop dk (by omega))
        rw [hk2] at BR
        clear hk2 hdo y2 y3 o4
        go_wp2_with (first
          | (go_at_call 29; refine (BR.out _).mono ?_; rintro e w3 ⟨rfl, rfl⟩)
          | (go_at_call 31; refine DR.out.mono ?_; rintro e w4 ⟨rfl, h4⟩; obtain ⟨x0, x1, x2, x3⟩ := HC.out w4 h4.bel; obtain ⟨D, hO, hM, hT⟩ := h4.swap.map; have HO := Lib.hid hO; have HM := Lib.hid hM; have HT := Lib.hid hT; clear hO hM hT h4 x0 x2 x3)
          | (at_delete; refine wpList_delete_own _ rfl _ _ 42 9 rfl 3 mapK9 Try.underlying42 _ B k D rfl HO.out _ _ rfl HKEY.out ?_; intro w5 hO5 ht5; have H5 := Lib.hid (HT.out w5 k _ _ ht5.grown hO5 (HM.out.del dk)).swap; clear hO5 ht5 HO HM HT x1))
        go_roundw
        case rel => exact ⟨k + 1, by omega, by omega, by go_num, Lib.hid (by rw [HS.out]; exact (H5.out.swap.mapMono (Nat.le_succ k)).swap)⟩
        case measure => simp [intOf]; omega
      · have hdo : doM (listM ds k) ⟨kind, dk, val, st⟩ = kput (listM ds k) dk (.int .i64 val) (1 + st % 16).toNat := by unfold doM; rw [if_neg hk2]
        have hk3 : (kind % 3 == 2) = false := by simpa using hk2
        have BS := Lib.hid (fun W => bring st 16 W (by omega) (by omega))
        have hm1 := Int.emod_nonneg st (b := 16) (by omega)
        have hm2 := Int.emod_lt_of_pos st (b := 16) (by omega)
        have hput : kputI (listM ds k) dk (.int .i64 val) (1 + st % 16) = listM ds (k + 1) := by rw [HS.out, hdo]; unfold kputI; rw [if_pos (by omega)]
        have hdec : decide (1 ≤ 1 + st % 16 ∧ 1 + st % 16 ≤ 16) = true := by rw [decide_eq_true_eq]; omega
        have p1 := HH.out.drew.skPut (key := dk) val (1 + st % 16) (by omega) (by omega) (by omega) (by have := O1.out; omega)
        rw [hput, hdec] at p1
        have hwr : IntKind.i64.wrap (1 + st % 16) = 1 + st % 16 := IntWalk.i64_in _ (by omega)
        have PU := Lib.hid (show Calls Try.prog 30 #[pt q, .string dk, .int .i64 val, .int .i64 (IntKind.i64.wrap (1 + st % 16))] wr.drew _ from by rw [hwr]; exact p1)
        clear hk2 hput hdec p1 hwr hm1 hm2
        have HDO := Lib.hid hdo
        clear hdo
        go_wp2_with (first
          | (go_at_call 29; refine (BR.out _).mono ?_; rintro e w3 ⟨rfl, rfl⟩))
        have hSd : wr.drew.cell? ⟨bb, o + k * 4 + 1, none⟩ = some (.string dk) ∧ wr.drew.cell? ⟨bb, o + k * 4 + 2, none⟩ = some (.int .i64 val) ∧ wr.drew.cell? ⟨bb, o + k * 4 + 3, none⟩ = some (.int .i64 st) := ⟨y1, y2, y3⟩
        clear y0 y1 y2 y3
        go_region_held3 (fun W => W.cell? ⟨bb, o + k * 4 + 1, none⟩ = some (.string dk) ∧ W.cell? ⟨bb, o + k * 4 + 2, none⟩ = some (.int .i64 val) ∧ W.cell? ⟨bb, o + k * 4 + 3, none⟩ = some (.int .i64 st))
          (first | with_reducible assumption | with_reducible exact hSd)
          (first
            | (go_at_call 29; (with_reducible refine (BS.out _).mono ?_); rintro e w8 ⟨rfl, rfl⟩)
            | (go_at_call 30; (with_reducible refine PU.out.mono ?_); rintro e w9 ⟨rfl, h9⟩; obtain ⟨_, hS9⟩ := HC.out w9 h9.bel))
        obtain ⟨D, hO, hM, hT⟩ := (Has.drew h9).swap.map
        have HO := Lib.hid hO
        have HM := Lib.hid hM
        have HT := Lib.hid hT
        have HD := Lib.hid (show doM (listM ds k) ⟨kind, dk, val, st⟩ = kput (listM ds k) dk (.int .i64 val) (1 + st % 16).toNat from HDO.out)
        have hSe := hS9
        have hSf : w9.drew.cell? ⟨bb, o + k * 4 + 1, none⟩ = some (.string dk) ∧ w9.drew.cell? ⟨bb, o + k * 4 + 2, none⟩ = some (.int .i64 val) := ⟨hS9.1, hS9.2.1⟩
        clear hO hM hT h9 hSe hSd
        obtain ⟨v1, v2, v3⟩ := hS9
        go_wp2_with fail
        go_still_tail 11, (by kernel_rfl)
        change wpList _ _ _ _ _ w9.drew
        go_wp2_with (first
          | (at_mapUpdate; refine wpList_mapUpdate_own _ rfl _ _ _ 42 rfl 9 3 mapK9 Try.underlying42 _ B k D rfl HO.out (by omega) _ _ _ rfl rfl HKEY.out _ [] HVAL.out ?_; intro w5 hO5 ht5; have H5 := Lib.hid (HT.out w5 (k + 1) _ _ ht5 hO5 (HM.out.put dk val (1 + st % 16).toNat)).swap; clear hO5 ht5 HO HM HT))
        go_roundw
        case rel => exact ⟨k + 1, by omega, by omega, by go_num, Lib.hid (by rw [HS.out, HD.out] at H5 ⊢; exact H5.out)⟩
        case measure => simp [intOf]; omega
    · obtain rfl : k = min n0 80 := by omega
      have HE := Lib.hid (HH.out.swap.mapMono (c' := 80) (by omega)).swap
      by_cases h80 : n0 < 80
      · go_wp2_with fail
        go_ret2; exact ⟨_, _, rfl, HE.out⟩
      · go_wp2_with fail
        all_goals (go_ret2; exact ⟨_, _, rfl, HE.out⟩)
end Go.Proofs.Ytcpbcoeccplliaa
