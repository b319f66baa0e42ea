/-
  Layer 10, the code: All and Back: iterators over rows; the table may turn in each round.
-/
import Derived.Test.YtgakkeeeadndkaaTbBatch
import Derived.Shelf.Abstract
import Derived.Shelf.RegionOpen
import Derived.OwnWalkIn
import Derived.TacticsInMore
import Derived.LoopNIn
import Derived.LoopIn
import Derived.Stop.RegionWithIn
set_option linter.unusedVariables false
namespace Go.Proofs.Ytgakkeeeadndkaa
open Go.RowKit Go.Shelf
attribute [local go_sem] Oper.semAt_some

/-- An iterator over a table that each round may turn: 'J a r n' is what the loop carries on: what is asked next, the rows as they are, how many rounds there were. -/
def Tours (P : Program) (gf : Nat) (lb : Array Value) (nx : List Rw → ByteArray → Option Rw) (aft : ByteArray → ByteArray) (a0 : ByteArray) (RD : List Rw → World → Prop) : Prop :=
  ∀ (l N : Nat) (J : ByteArray → List Rw → Nat → World → Prop) (Jx : World → Prop) (r0 : List Rw) (W : World),
    (∀ a r n X Y, J a r n X → Below X.heap.size X Y → J a r n Y) →
    (∀ a r n X, J a r n X → RD r X ∧ n ≤ N) →
    (∀ a r n x W1, J a r n W1 → nx r a = some x → YieldAt Fence.wide 2 P l #[.string x.key, .string x.value] W1 fun e W' =>
      (e = .returned (.bool true) ∧ ∃ r', J (aft x.key) r' (n + 1) W') ∨ (e = .returned (.bool false) ∧ Jx W')) →
    J a0 r0 0 W →
    CallsIn Fence.wide 3 P gf (#[.func (.yield l) #[] #[]] ++ lb) W fun e W' => (∃ v, e = .returned v) ∧ ((∃ a r n, nx r a = none ∧ J a r n W') ∨ Jx W')
/-- What Last tells. -/
def lk (r : List Rw) (a : ByteArray) : ByteArray := if rend r a = 0 then ⟨#[]⟩ else rkey r (rend r a - 1)
/-- What an iterator reads: the table, and its three boxes. -/
structure TRD (p g1 g2 g3 : Nat) (f t : ByteArray) (r : List Rw) (X : World) : Prop where
  tb : ∃ F, (tbA p r).p X F
  szs : Szs r
  b1 : Blk X g1 23 #[pt p]
  b2 : Blk X g2 9 #[.string f]
  b3 : Blk X g3 9 #[.string t]
section
variable {p g1 g2 g3 : Nat} {f t : ByteArray} {r : List Rw} {X Y : World}
theorem TRD.below (h : TRD p g1 g2 g3 f t r X) (hb : Below X.heap.size X Y) : TRD p g1 g2 g3 f t r Y := by
  obtain ⟨F, h1⟩ := h.tb
  exact ⟨⟨F, tbA_below h1 hb⟩, h.szs, h.b1.below hb h.b1.lt, h.b2.below hb h.b2.lt, h.b3.below hb h.b3.lt⟩
theorem TRD.list (h : TRD p g1 g2 g3 f t r X) : ∃ q l, tab l = r ∧ (∀ Y, Below X.heap.size X Y → Calls Try.prog 40 #[pt p] Y fun e w' => e = .returned (pt q) ∧ w' = Y) ∧
    (∀ k Y, Below X.heap.size X Y → Calls Try.prog 45 #[pt q, .string k] Y fun e w' => e = .returned (.tuple #[.string (rkey r (rpos r k)), .bool (decide (rpos r k < r.length))]) ∧ Below Y.heap.size Y w') ∧
    (∀ k Y, Below X.heap.size X Y → Calls Try.prog 48 #[pt q, .string k] Y fun e w' => e = .returned (.tuple #[.string (lk r k), .bool (decide (0 < rend r k))]) ∧ Below Y.heap.size Y w') ∧
    (∀ k Y, Below X.heap.size X Y → Calls Try.prog 42 #[pt q, .string k] Y fun e w' => e = .returned (.tuple #[.string (rval r k), .bool (rhas r k)]) ∧ Below Y.heap.size Y w') := by
  obtain ⟨F, q, s, m, l, F2, h1, rfl, hF⟩ := h.tb
  refine ⟨q, l, rfl, fun Y hb => tb_list p q Y ((h1.below hb).obj.cell 0), fun k Y hb => ?_, fun k Y hb => ?_, fun k Y hb => ?_⟩
  · have := skA_first (h1.below hb).sk k
    unfold firstV at this
    rw [← tab_key, ← tab_pos, ← tab_len] at this
    exact this
  · have := skA_last (h1.below hb).sk k
    unfold lastV at this
    rw [← tab_key, ← tab_end] at this
    unfold lk
    exact this
  · have := skA_get (h1.below hb).sk k
    rw [tab_val h1.strs, ← tab_has] at this
    exact this
end
/-- The least of what may be. -/
theorem least_ {P : Nat → Prop} (h : ∃ m, P m) : ∃ m, P m ∧ ∀ k, P k → m ≤ k := by
  obtain ⟨m, hm⟩ := h
  induction m using Nat.strongRecOn with
  | ind m ih =>
    by_cases h2 : ∃ k, k < m ∧ P k
    · obtain ⟨k, hk, hp⟩ := h2
      exact ih k hk hp
    · exact ⟨m, hm, fun k hk => by
        rcases Nat.lt_or_ge k m with h3 | h3
        · exact absurd ⟨k, h3, hk⟩ h2
        · exact h3⟩
theorem least_fn {S : Type} (P : S → Nat → Prop) : ∃ μ : S → Nat, ∀ s, (∃ m, P s m) → P s (μ s) ∧ ∀ k, P s k → μ s ≤ k := by
  have h : ∀ s, ∃ m, (∃ m, P s m) → P s m ∧ ∀ k, P s k → m ≤ k := fun s => by
    by_cases h : ∃ m, P s m
    · obtain ⟨m, hm⟩ := least_ h
      exact ⟨m, fun _ => hm⟩
    · exact ⟨0, fun h2 => absurd h2 h⟩
  obtain ⟨μ, hμ⟩ := Classical.axiomOfChoice h
  exact ⟨μ, hμ⟩
theorem below_drew (W : World) : Below W.heap.size W W.drew := ⟨rfl, rfl, rfl, Nat.le_refl _, fun _ _ => rfl⟩

set_option maxRecDepth 100000 in
set_option maxHeartbeats 4000000 in
theorem tb_all_tours (p g1 g2 g3 : Nat) (f t : ByteArray) : Tours Try.prog 44 #[pt g1, pt g2, pt g3] (nxU t) (fun k => k ++ zr) f (TRD p g1 g2 g3 f t) := by
  intro l N J Jx r0 W hJ hR hY h0
  obtain ⟨μ, hμ⟩ := least_fn (fun (s : Value × Value × World) (m : Nat) => ∃ a r n, s.1 = .string (rkey r (rpos r a)) ∧ s.2.1 = .bool (decide (rpos r a < r.length)) ∧ J a r n s.2.2 ∧ m = N - n)
  have HMU := Lib.hid hμ
  have HJ := Lib.hid hJ
  have HR := Lib.hid hR
  have HY := Lib.hid hY
  have H0 := Lib.hid h0
  have hr0 := (hR _ _ _ _ h0).1
  obtain ⟨q0, l0, hl0, hli, hfi, hx1, hx2⟩ := hr0.list
  clear hx1 hx2
  have LI := Lib.hid hli
  have FI := Lib.hid (fun Y hb => (hfi f Y hb).mono (fun x W2 h => (show x = _ ∧ Below W.heap.size W W2 ∧ (W2.cell? ⟨g1, 0, none⟩ = some (pt p) ∧ W2.cell? ⟨g2, 0, none⟩ = some (.string f)) from ⟨h.1, bst hb h.2, (hr0.below (bst hb h.2)).b1.cell 0, (hr0.below (bst hb h.2)).b2.cell 0⟩)))
  have c1 : W.cell? ⟨g1, 0, none⟩ = some (pt p) := hr0.b1.cell 0
  have c2 : W.cell? ⟨g2, 0, none⟩ = some (.string f) := hr0.b2.cell 0
  clear hμ hJ hR hY h0 hr0 hli hfi hl0
  refine callsIn_of_wp Try.func44 rfl trivial ?_ rfl
  simp only [Try.ntmps44, List.size_toArray, List.length_cons, List.length_nil, Nat.reduceAdd, Nat.reduceSub, Array.replicate_succ, Array.replicate_zero, List.push_toArray, List.append_toArray, List.nil_append, List.cons_append]
  gi_wp2_with fail
  refine (wpIn_wide (n := 3)).2 ?_
  have hP : Below W.heap.size W W.drew := below_drew W
  have hS : W.drew.cell? ⟨g1, 0, none⟩ = some (pt p) ∧ W.drew.cell? ⟨g2, 0, none⟩ = some (.string f) := ⟨c1, c2⟩
  go_region_held3 (fun V => V.cell? ⟨g1, 0, none⟩ = some (pt p) ∧ V.cell? ⟨g2, 0, none⟩ = some (.string f))
    (first | with_reducible assumption | with_reducible exact hS)
    (first
      | (go_at_call 40; (with_reducible refine (LI.out _ (by with_reducible assumption)).mono ?_); rintro x W2 ⟨rfl, rfl⟩)
      | (go_at_call 45; (with_reducible refine (FI.out _ (by with_reducible assumption)).mono ?_); rintro x W2 ⟨rfl, hb2, hS2⟩))
  gi_wp2_with fail
  have HB2 := Lib.hid (HJ.out _ _ _ _ _ H0.out hb2)
  clear LI FI c1 c2 hP hS hS2 hb2 H0
  gi_loopw [5, 6] (fun u v wr => ∃ (a : ByteArray) (r : List Rw) (n : Nat), u = .string (rkey r (rpos r a)) ∧ v = .bool (decide (rpos r a < r.length)) ∧ J a r n wr) (fun u v wr => μ (u, v, wr))
  case atStart => exact ⟨f, r0, 0, rfl, rfl, HB2.out⟩
  case round =>
    obtain ⟨a0, r1, n0, hu0, hv0, hj0⟩ := hrel
    obtain ⟨⟨a, r, n, hu, hv, hj, hm⟩, hmin⟩ := HMU.out (_, _, wr) ⟨_, a0, r1, n0, hu0, hv0, hj0, rfl⟩
    simp only at hu hv hj
    rw [hu, hv] at hm
    subst hu0 hv0
    injection hu with hu
    injection hv with hv
    rw [hu, hv]
    clear hmin hj0
    have hrd := (HR.out _ _ _ _ hj).1
    obtain ⟨F, hA⟩ := hrd.tb
    have hsor := tbA_sor hA
    obtain ⟨q0, l0, hl0, hli, hfi, _, hge⟩ := hrd.list
    have c1 : wr.cell? ⟨g1, 0, none⟩ = some (pt p) := hrd.b1.cell 0
    have c3 : wr.cell? ⟨g3, 0, none⟩ = some (.string t) := hrd.b3.cell 0
    have LI := Lib.hid hli
    rcases nxU_first hsor t a with ⟨x, hx, hmem, hp, hk, ht, hh, hval⟩ | ⟨hx, hno⟩
    · have hsz := hrd.szs x hmem
      have hszk : x.key.size ≤ 140737488351232 := hsz.2.1
      have HYX := Lib.hid (fun W1 hb => HY.out a r n x W1 (HJ.out _ _ _ _ _ hj hb) hx)
      have GE := Lib.hid (hge x.key)
      rw [hh, hval] at GE
      have hmu : ∀ (r' : List Rw) (W5 : World), J (x.key ++ zr) r' (n + 1) W5 → ∀ u v, u = .string (rkey r' (rpos r' (x.key ++ zr))) → v = .bool (decide (rpos r' (x.key ++ zr) < r'.length)) → μ (u, v, W5) < μ (.string x.key, .bool true, wr) := by
        intro r' W5 hj5 u v hu5 hv5
        have h1 := (HMU.out (u, v, W5) ⟨_, _, r', n + 1, hu5, hv5, hj5, rfl⟩).2 (N - (n + 1)) ⟨_, r', n + 1, hu5, hv5, hj5, rfl⟩
        have h2 := (HR.out _ _ _ _ hj5).2
        rw [hk, decide_eq_true hp] at hm
        rw [hm]
        omega
      have HM := Lib.hid hmu
      have hcase : t.toList = [] ∨ (¬ t.toList = [] ∧ Op.bytesLess x.key.toList t.toList = true) := by
        rcases ht with h | h
        · exact .inl h
        · by_cases h2 : t.toList = []
          · exact .inl h2
          · exact .inr ⟨h2, h⟩
      rw [hk, decide_eq_true hp]
      obtain ⟨key, value⟩ := x
      simp only at hcase HM HYX GE hszk ⊢
      clear hrd hA hsor hli hfi hge hj hm hmem hp hk ht hh hval hsz hmu hu hv hx
      rcases hcase with h0 | ⟨h0, hlt⟩
      · have h1 : t.toList.isEmpty = true := by rw [h0]; rfl
        gi_wp2_with (first
          | (refine ⟨trivial, ?_⟩; gi_at_call 40; refine (callsIn_wide.2 (LI.out _ (Below.refl _ _))).mono ?_; rintro x W3 ⟨rfl, rfl⟩)
          | (refine ⟨trivial, ?_⟩; gi_at_call 42; refine (callsIn_wide.2 (GE.out _ (Below.refl _ _))).mono ?_; rintro x W4 ⟨rfl, hb4⟩; obtain ⟨fn, tmps, assign, body, hy, hR⟩ := HYX.out _ hb4; (try dsimp only at hy)))

        refine hR.mono ?_
        rintro x W5 (⟨rfl, r', hJ5⟩ | ⟨rfl, hJx5⟩)
        · have hrd5 := (HR.out _ _ _ _ hJ5).1
          obtain ⟨q5, l5, hl5, hli5, hfi5, _, hge5⟩ := hrd5.list
          have c15 : W5.cell? ⟨g1, 0, none⟩ = some (pt p) := hrd5.b1.cell 0
          have LI5 := Lib.hid hli5
          have FI5 := Lib.hid (hfi5 (key ++ ⟨#[0]⟩))
          have HJ5 := Lib.hid hJ5
          clear hrd5 hli5 hfi5 hge5 hJ5 hl5
          gi_wp2_with (first
            | (refine ⟨trivial, ?_⟩; gi_at_call 40; refine (callsIn_wide.2 (LI5.out _ (Below.refl _ _))).mono ?_; rintro x W6 ⟨rfl, rfl⟩)
            | (refine ⟨trivial, ?_⟩; gi_at_call 45; refine (callsIn_wide.2 (FI5.out _ (Below.refl _ _))).mono ?_; rintro x W7 ⟨rfl, hb7⟩))
          go_roundw
          case rel => exact ⟨key ++ zr, r', n + 1, rfl, rfl, HJ.out _ _ _ _ _ HJ5.out hb7⟩
          case measure => exact HM.out r' W7 (HJ.out _ _ _ _ _ HJ5.out hb7) _ _ rfl rfl
        · gi_wp2
          refine bodyPost_ret (results_none rfl _ _ _) rfl ?_
          exact ⟨⟨_, rfl⟩, .inr hJx5⟩
      · have h1 : t.toList.isEmpty = false := by simpa using h0
        gi_wp2_with (first
          | (refine ⟨trivial, ?_⟩; gi_at_call 40; refine (callsIn_wide.2 (LI.out _ (Below.refl _ _))).mono ?_; rintro x W3 ⟨rfl, rfl⟩)
          | (refine ⟨trivial, ?_⟩; gi_at_call 42; refine (callsIn_wide.2 (GE.out _ (Below.refl _ _))).mono ?_; rintro x W4 ⟨rfl, hb4⟩; obtain ⟨fn, tmps, assign, body, hy, hR⟩ := HYX.out _ hb4; (try dsimp only at hy)))
        refine hR.mono ?_
        rintro x W5 (⟨rfl, r', hJ5⟩ | ⟨rfl, hJx5⟩)
        · have hrd5 := (HR.out _ _ _ _ hJ5).1
          obtain ⟨q5, l5, hl5, hli5, hfi5, _, hge5⟩ := hrd5.list
          have c15 : W5.cell? ⟨g1, 0, none⟩ = some (pt p) := hrd5.b1.cell 0
          have LI5 := Lib.hid hli5
          have FI5 := Lib.hid (hfi5 (key ++ ⟨#[0]⟩))
          have HJ5 := Lib.hid hJ5
          clear hrd5 hli5 hfi5 hge5 hJ5 hl5
          gi_wp2_with (first
            | (refine ⟨trivial, ?_⟩; gi_at_call 40; refine (callsIn_wide.2 (LI5.out _ (Below.refl _ _))).mono ?_; rintro x W6 ⟨rfl, rfl⟩)
            | (refine ⟨trivial, ?_⟩; gi_at_call 45; refine (callsIn_wide.2 (FI5.out _ (Below.refl _ _))).mono ?_; rintro x W7 ⟨rfl, hb7⟩))
          go_roundw
          case rel => exact ⟨key ++ zr, r', n + 1, rfl, rfl, HJ.out _ _ _ _ _ HJ5.out hb7⟩
          case measure => exact HM.out r' W7 (HJ.out _ _ _ _ _ HJ5.out hb7) _ _ rfl rfl
        · gi_wp2
          refine bodyPost_ret (results_none rfl _ _ _) rfl ?_
          exact ⟨⟨_, rfl⟩, .inr hJx5⟩
    · have hend : ∀ W5, Below wr.heap.size wr W5 → ∃ a r n, nxU t r a = none ∧ J a r n W5 := fun W5 hb => ⟨a, r, n, hx, HJ.out _ _ _ _ _ hj hb⟩
      have HE := Lib.hid hend
      clear hrd hA hsor hli hfi hge hj hm hend hx HMU HR HY LI hu hv
      rcases hno with hp | ⟨h0, hp, hlt⟩
      · rw [decide_eq_false hp]
        gi_wp2_with fail
        first | refine bodyPost_end (results_none rfl _ _ _) rfl ?_ | refine bodyPost_ret (results_none rfl _ _ _) rfl ?_
        exact ⟨⟨_, rfl⟩, .inl (HE.out _ (Below.refl _ _))⟩
      · rw [decide_eq_true hp]
        have h1 : t.toList.isEmpty = false := by simpa using h0
        unfold kl at hlt
        generalize rkey r (rpos r a) = key at *
        gi_wp2_with fail
        first | refine bodyPost_end (results_none rfl _ _ _) rfl ?_ | refine bodyPost_ret (results_none rfl _ _ _) rfl ?_
        exact ⟨⟨_, rfl⟩, .inl (HE.out _ (Below.refl _ _))⟩
end Go.Proofs.Ytgakkeeeadndkaa
