/-
  Layer 7: the landed disk: names; a file's fall.
-/
import Derived.Test.YtkhalpajomammaaGSum
import Derived.Test.YtkhalpajomammaaBring
import Derived.Sort.KeysCollected
set_option linter.unusedVariables false
namespace Go.Proofs.Ytkhalpajomammaa
open Go.RowKit Go.Maps

/-! ### the names, in order -/
theorem bl_lt : ∀ {x y : List UInt8}, Op.bytesLess x y = true → x < y
  | [], [], h => by simp [Op.bytesLess] at h
  | [], _ :: _, _ => List.nil_lt_cons _ _
  | _ :: _, [], h => by simp [Op.bytesLess] at h
  | a :: x, b :: y, h => by
    simp only [Op.bytesLess, Bool.or_eq_true, decide_eq_true_eq, Bool.and_eq_true, beq_iff_eq] at h
    rw [List.cons_lt_cons_iff]
    rcases h with h | ⟨h1, h2⟩
    · exact .inl h
    · exact .inr ⟨h1, bl_lt h2⟩
theorem names_sorted {l : List Fl} (hs : l.Pairwise (fun a b => nl a.name b.name = true)) {ss : List (List UInt8)} (h : ss.Perm (l.map (fun f => f.name.data.toList))) :
    (ss.mergeSort (fun x y => decide (x ≤ y))).map encStr = (l.map Fl.name).map Value.string := by
  have e1 : ss.mergeSort (fun x y => decide (x ≤ y)) = (l.map (fun f => f.name.data.toList)).mergeSort (fun x y => decide (x ≤ y)) := mergeSort_of_perm h
  have e2 : (l.map (fun f => f.name.data.toList)).mergeSort (fun x y => decide (x ≤ y)) = l.map (fun f => f.name.data.toList) := by
    refine List.mergeSort_of_pairwise (List.pairwise_map.2 (hs.imp (fun {a b} hh => ?_)))
    unfold nl at hh
    rw [Lib.toList_data, Lib.toList_data] at hh
    exact decide_eq_true (List.le_of_lt (bl_lt hh))
  rw [e1, e2, List.map_map, List.map_map]
  refine List.map_congr_left (fun f _ => ?_)
  simp [encStr]
section
variable {w : World} {g : Nat} {D : Dk} {F : Nat → Prop} {mb : Nat} {fp : Option Addr} {es : List (Lit × DataW Empty)} {qs : List Cf}
theorem RC.keys (h : RC w g D F mb fp es qs) : (strKeys (DataW.map es)).Perm (D.l.map (fun f => f.name.data.toList)) := by
  have e : D.l.map (fun f => f.name.data.toList) = (qs.map Cf.ent).map (fun p => strOf p.1) := by
    rw [← h.eq, List.map_map, List.map_map]
    rfl
  rw [e]
  exact h.perm.map _
theorem RC.size_ (h : RC w g D F mb fp es qs) : Maps.size (DataW.map es) ≤ 20 := by
  have h1 := h.perm.length_eq
  rw [List.length_map, h.len] at h1
  have := h.ok.few
  show es.length ≤ 20
  omega
end
set_option maxHeartbeats 1000000 in
theorem gNames (w : World) (g : Nat) (D : Dk) (F : Nat → Prop) (mb : Nat) (fp : Option Addr) (es : List (Lit × DataW Empty)) (qs : List Cf) (h : RC w g D F mb fp es qs) :
    Calls Try.prog 57 #[pt g] w fun e w' => ∃ A c, e = .returned (.slice A D.l.length c) ∧ TAt w' A D.l.length (D.l.map Fl.name) ∧ D.l.length ≤ c ∧ c ≤ 9223372036854775807 ∧ InF (fun k => w.heap.size ≤ k ∧ k < w'.heap.size) A ∧ Below w.heap.size w w' := by
  have c0 := h.c0
  have hown := h.map
  have hmax : Maps.size (DataW.map es) ≤ maxLen := Nat.le_trans h.size_ (by decide)
  have hbytes : Maps.size (DataW.map es) * 16 ≤ 140737488355328 := by have := h.size_; omega
  have hkeys := h.keys
  have hsorted := h.ok.sorted
  clear h
  refine (callsIn_wide (n := 6)).1 ?_
  have hfK : Fence.wide.fn 76 := trivial
  have hfS : Fence.wide.fn 75 := trivial
  refine callsIn_of_wp Try.func57 rfl trivial ?_ rfl
  simp only [Try.ntmps57, List.size_toArray, List.length_cons, List.length_nil, Nat.reduceAdd, Nat.reduceSub, Array.replicate_succ, Array.replicate_zero, List.push_toArray, List.append_toArray, List.nil_append, List.cons_append]
  gi_wp2_with (first
    | (gi_at_call 76; refine (Try.maps_Keys_76 _ _).mono ?_; rintro e w' ⟨rfl, rfl⟩)
    | (gi_at_call 75; refine (Try.slices_Sorted_keys_75_76 mb 20 _ fE w hown hmax hbytes).mono ?_; rintro e w' ⟨v, ss, rfl, hS, hrow, hnil, hb⟩))
  go_ret
  have hp : ss.Perm (D.l.map (fun f => f.name.data.toList)) := hS.trans hkeys
  have hl : ss.length = D.l.length := by rw [hp.length_eq, List.length_map]
  rw [names_sorted hsorted hp, hl] at hrow
  have hrow' := rowBase hrow (show w.heap.size ≤ _ by simp)
  obtain ⟨A, c, rfl, h1, h2, h3, h4⟩ := rowTexts (by rw [List.length_map]) hrow'
  exact ⟨A, c, rfl, h1, h2, h3, h4, ((Below.refl _ w).alloc (Nat.le_refl _) _).trans (hb.mono (by simp))⟩

/-! ### a file's fall -/
set_option maxHeartbeats 400000 in
theorem gRem (i n : Int) (w : World) (hn : 1 ≤ n) (hn' : n ≤ 9223372036854775807) :
    Calls Try.prog 82 #[.int .i64 i, .int .i64 n] w fun e w' => e = .returned (.int .i64 (i % n)) ∧ w' = w := by
  have h := emod_tmod i n hn
  have h1 := Int.emod_nonneg i (b := n) (by omega)
  have h2 := Int.emod_lt_of_pos i (b := n) (by omega)
  by_cases hp : 0 ≤ i.tmod n
  · rw [if_pos hp] at h
    have H := Lib.hid h
    have hp' : ¬ i.tmod n < 0 := by omega
    clear h h1 h2
    go_enter Try.func82, Try.ntmps82
    go_wp2
    go_ret
    exact ⟨by rw [H.out]; rfl, rfl⟩
  · rw [if_neg hp] at h
    have h3 : i.tmod n + n ≤ 9223372036854775807 := by omega
    have h4 : 0 ≤ i.tmod n + n := by omega
    have hp' : i.tmod n < 0 := by omega
    have H := Lib.hid h
    clear h h1 h2
    go_enter Try.func82, Try.ntmps82
    go_wp2
    go_ret
    exact ⟨by rw [H.out]; rfl, rfl⟩

set_option maxRecDepth 100000 in
set_option maxHeartbeats 4000000 in
theorem gLose (w : World) (q : Nat) (A : Option Addr) (L cap mk : Nat) (count : Int) (c0 : w.cell? ⟨q, 0, none⟩ = some (.slice A L cap)) (c1 : w.cell? ⟨q, 1, none⟩ = some (.int .i64 (mk : Int))) (z : ∀ i, w.frozen? ⟨q, i, none⟩ = false)
    (hm : mk ≤ L) (hL : L ≤ 4194304) (hc : L ≤ cap) :
    Calls Try.prog 74 #[pt q, .int .i64 count] w fun e w' => e = .returned (.tuple #[]) ∧ ∃ n, w' = ((w.setCell ⟨q, 1, none⟩ (.int .i64 ((mk + brn count (L - mk + 1) : Nat) : Int))).setCell ⟨q, 0, none⟩ (.slice A (mk + brn count (L - mk + 1)) cap)).drewN n := by
  have hb : (brn count (L - mk + 1) : Int) = count % ((L : Int) - (mk : Int) + 1) := by
    unfold brn
    rw [if_neg (by omega)]
    have h1 := Int.emod_nonneg count (b := ((L - mk + 1 : Nat) : Int)) (by omega)
    have e : ((L - mk + 1 : Nat) : Int) = (L : Int) - (mk : Int) + 1 := by omega
    rw [e] at h1 ⊢
    omega
  have hlt := brn_lt count (L - mk + 1) (by omega)
  obtain ⟨k, hk⟩ : ∃ k, brn count (L - mk + 1) = k := ⟨_, rfl⟩
  rw [hk] at hb hlt ⊢
  have RM := Lib.hid (gRem count ((L : Int) - (mk : Int) + 1))
  rw [← hb] at RM
  have HK := Lib.hid hk
  clear hb hk
  have z0 := z 0
  have z1 := z 1
  have hw1 : IntKind.i64.wrap ((L : Int) - (mk : Int)) = (L : Int) - (mk : Int) := IntWalk.i64_in _ (by omega)
  have hw2 : IntKind.i64.wrap ((L : Int) - (mk : Int) + 1) = (L : Int) - (mk : Int) + 1 := IntWalk.i64_in _ (by omega)
  have hw3 : IntKind.i64.wrap ((mk : Int) + (k : Int)) = (mk : Int) + (k : Int) := IntWalk.i64_in _ (by omega)
  have hsl : ∀ V : World, (Instr.slice 27 (.slice A L cap) none (some (.int .i64 ((mk : Int) + (k : Int)))) none).run Try.prog V = .ok (.slice A (mk + k) cap) V := fun V => by
    rw [slb_h A L cap .i64 ((mk : Int) + (k : Int)) V (by omega) (by omega)]
    have e : ((mk : Int) + (k : Int)).toNat = mk + k := by omega
    rw [e]
  have e0 := set_off w (g := q) (i := 1) (j := 0) (.int .i64 ((mk : Int) + (k : Int))) (by decide)
  rw [c0] at e0
  go_enter Try.func74, Try.ntmps74
  go_wp2_with fail
  go_quiet (fail)
  go_wp2_with fail
  go_region_with (first
    | (go_at_call 82; refine (RM.out _ (by omega) (by omega)).mono ?_; rintro e w1 ⟨rfl, rfl⟩))
  all_goals
    go_wp2_with fail
    go_region_with (fail)
    all_goals
      go_wp2_with fail
      first | go_end0 | (refine bodyPost_ret (results_none rfl _ _ _) rfl ?_)
      exact ⟨rfl, nq + 2, rfl⟩
end Go.Proofs.Ytkhalpajomammaa
