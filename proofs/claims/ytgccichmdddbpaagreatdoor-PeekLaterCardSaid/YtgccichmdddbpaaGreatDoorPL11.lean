/-
  Layer 10, the code: All and Back: iterators over rows; the table may turn in each round.
  Layer 10, the code: Back; what All and Back make.
  A range over an iterator whose rounds may turn what it tells of: the caller's law, in the plain walk (as Range).
-/
import Derived.Test.YtgccichmdddbpaaGreatDoorPL10
import Derived.Shelf.Abstract
import Derived.Shelf.RegionOpen
import Derived.OwnWalkIn
import Derived.TacticsInMore
import Derived.LoopNIn
import Derived.LoopIn
import Derived.Stop.RegionWithIn
set_option linter.unusedVariables false
namespace Go.Proofs.YtgccichmdddbpaaGreatDoor
open Go.RowKit Go.Shelf
attribute [local go_sem] Oper.semAt_some

/-- An iterator over a table that each round may turn: 'J a r n' is what the loop carries on: what is asked next, the rows as they are, how many rounds there were. -/
def Tours (P : Program) (gf : Nat) (lb : Array Value) (nx : List Rw → ByteArray → Option Rw) (aft : ByteArray → ByteArray) (a0 : ByteArray) (RD : List Rw → World → Prop) : Prop :=
  ∀ (l N : Nat) (J : ByteArray → List Rw → Nat → World → Prop) (Jx : World → Prop) (r0 : List Rw) (W : World),
    (∀ a r n X Y, J a r n X → Below X.heap.size X Y → J a r n Y) →
    (∀ a r n X, J a r n X → RD r X ∧ n ≤ N) →
    (∀ a r n x W1, J a r n W1 → nx r a = some x → YieldAt Fence.wide 2 P l #[.string x.key, .string x.value] W1 fun e W' =>
      (e = .returned (.bool true) ∧ ∃ r', J (aft x.key) r' (n + 1) W') ∨ (e = .returned (.bool false) ∧ Jx W')) →
    J a0 r0 0 W →
    CallsIn Fence.wide 3 P gf (#[.func (.yield l) #[] #[]] ++ lb) W fun e W' => (∃ v, e = .returned v) ∧ ((∃ a r n, nx r a = none ∧ J a r n W') ∨ Jx W')
/-- What an iterator reads: the table, and its three boxes. -/
structure TRD (p g1 g2 g3 : Nat) (f t : ByteArray) (r : List Rw) (X : World) : Prop where
  tb : ∃ F, (tbA p r).p X F
  szs : Szs r
  b1 : Blk X g1 31 #[pt p]
  b2 : Blk X g2 9 #[.string f]
  b3 : Blk X g3 9 #[.string t]
section
variable {p g1 g2 g3 : Nat} {f t : ByteArray} {r : List Rw} {X Y : World}
theorem TRD.below (h : TRD p g1 g2 g3 f t r X) (hb : Below X.heap.size X Y) : TRD p g1 g2 g3 f t r Y := by
  obtain ⟨F, h1⟩ := h.tb
  exact ⟨⟨F, tbA_below h1 hb⟩, h.szs, h.b1.below hb h.b1.lt, h.b2.below hb h.b2.lt, h.b3.below hb h.b3.lt⟩
theorem TRD.list (h : TRD p g1 g2 g3 f t r X) : ∃ q l, tab l = r ∧ (∀ Y, Below X.heap.size X Y → Calls Tryz.prog 69 #[pt p] Y fun e w' => e = .returned (pt q) ∧ w' = Y) ∧
    (∀ k Y, Below X.heap.size X Y → Calls Tryz.prog 108 #[pt q, .string k] Y fun e w' => e = .returned (.tuple #[.string (rkey r (rpos r k)), .bool (decide (rpos r k < r.length))]) ∧ Below Y.heap.size Y w') ∧
    True ∧
    (∀ k Y, Below X.heap.size X Y → Calls Tryz.prog 70 #[pt q, .string k] Y fun e w' => e = .returned (.tuple #[.string (rval r k), .bool (rhas r k)]) ∧ Below Y.heap.size Y w') := by
  obtain ⟨F, q, s, m, l, F2, h1, rfl, hF⟩ := h.tb
  refine ⟨q, l, rfl, fun Y hb => tb_list p q Y ((h1.below hb).obj.cell 0), fun k Y hb => ?_, trivial, fun k Y hb => ?_⟩
  · have := skA_first (h1.below hb).sk k
    unfold firstV at this
    rw [← tab_key, ← tab_pos, ← tab_len] at this
    exact this
  · have := skA_get (h1.below hb).sk k
    rw [tab_val h1.strs, ← tab_has] at this
    exact this
end
/-- The least of what may be. -/
theorem least_ {P : Nat → Prop} (h : ∃ m, P m) : ∃ m, P m ∧ ∀ k, P k → m ≤ k := by
  obtain ⟨m, hm⟩ := h
  induction m using Nat.strongRecOn with
  | ind m ih =>
    by_cases h2 : ∃ k, k < m ∧ P k
    · obtain ⟨k, hk, hp⟩ := h2
      exact ih k hk hp
    · exact ⟨m, hm, fun k hk => by
        rcases Nat.lt_or_ge k m with h3 | h3
        · exact absurd ⟨k, h3, hk⟩ h2
        · exact h3⟩
theorem least_fn {S : Type} (P : S → Nat → Prop) : ∃ μ : S → Nat, ∀ s, (∃ m, P s m) → P s (μ s) ∧ ∀ k, P s k → μ s ≤ k := by
  have h : ∀ s, ∃ m, (∃ m, P s m) → P s m ∧ ∀ k, P s k → m ≤ k := fun s => by
    by_cases h : ∃ m, P s m
    · obtain ⟨m, hm⟩ := least_ h
      exact ⟨m, fun _ => hm⟩
    · exact ⟨0, fun h2 => absurd h2 h⟩
  obtain ⟨μ, hμ⟩ := Classical.axiomOfChoice h
  exact ⟨μ, hμ⟩
theorem below_drew (W : World) : Below W.heap.size W W.drew := ⟨rfl, rfl, rfl, Nat.le_refl _, fun _ _ => rfl⟩

set_option maxRecDepth 100000 in
set_option maxHeartbeats 4000000 in
theorem tb_all_tours (p g1 g2 g3 : Nat) (f t : ByteArray) : Tours Tryz.prog 107 #[pt g1, pt g2, pt g3] (nxU t) (fun k => k ++ zr) f (TRD p g1 g2 g3 f t) := by
  intro l N J Jx r0 W hJ hR hY h0
  obtain ⟨μ, hμ⟩ := least_fn (fun (s : Value × Value × World) (m : Nat) => ∃ a r n, s.1 = .string (rkey r (rpos r a)) ∧ s.2.1 = .bool (decide (rpos r a < r.length)) ∧ J a r n s.2.2 ∧ m = N - n)
  have HMU := Lib.hid hμ
  have HJ := Lib.hid hJ
  have HR := Lib.hid hR
  have HY := Lib.hid hY
  have H0 := Lib.hid h0
  have hr0 := (hR _ _ _ _ h0).1
  obtain ⟨q0, l0, hl0, hli, hfi, hx1, hx2⟩ := hr0.list
  clear hx1 hx2
  have LI := Lib.hid hli
  have FI := Lib.hid (fun Y hb => (hfi f Y hb).mono (fun x W2 h => (show x = _ ∧ Below W.heap.size W W2 ∧ (W2.cell? ⟨g1, 0, none⟩ = some (pt p) ∧ W2.cell? ⟨g2, 0, none⟩ = some (.string f)) from ⟨h.1, bst hb h.2, (hr0.below (bst hb h.2)).b1.cell 0, (hr0.below (bst hb h.2)).b2.cell 0⟩)))
  have c1 : W.cell? ⟨g1, 0, none⟩ = some (pt p) := hr0.b1.cell 0
  have c2 : W.cell? ⟨g2, 0, none⟩ = some (.string f) := hr0.b2.cell 0
  clear hμ hJ hR hY h0 hr0 hli hfi hl0
  refine callsIn_of_wp Tryz.func107 rfl trivial ?_ rfl
  simp only [Tryz.ntmps107, List.size_toArray, List.length_cons, List.length_nil, Nat.reduceAdd, Nat.reduceSub, Array.replicate_succ, Array.replicate_zero, List.push_toArray, List.append_toArray, List.nil_append, List.cons_append]
  gi_wp2_with fail
  refine (wpIn_wide (n := 3)).2 ?_
  have hP : Below W.heap.size W W.drew := below_drew W
  have hS : W.drew.cell? ⟨g1, 0, none⟩ = some (pt p) ∧ W.drew.cell? ⟨g2, 0, none⟩ = some (.string f) := ⟨c1, c2⟩
  go_region_held3 (fun V => V.cell? ⟨g1, 0, none⟩ = some (pt p) ∧ V.cell? ⟨g2, 0, none⟩ = some (.string f))
    (first | with_reducible assumption | with_reducible exact hS)
    (first
      | (go_at_call 69; (with_reducible refine (LI.out _ (by with_reducible assumption)).mono ?_); rintro x W2 ⟨rfl, rfl⟩)
      | (go_at_call 108; (with_reducible refine (FI.out _ (by with_reducible assumption)).mono ?_); rintro x W2 ⟨rfl, hb2, hS2⟩))
  gi_wp2_with fail
  have HB2 := Lib.hid (HJ.out _ _ _ _ _ H0.out hb2)
  clear LI FI c1 c2 hP hS hS2 hb2 H0
  gi_loopw [5, 6] (fun u v wr => ∃ (a : ByteArray) (r : List Rw) (n : Nat), u = .string (rkey r (rpos r a)) ∧ v = .bool (decide (rpos r a < r.length)) ∧ J a r n wr) (fun u v wr => μ (u, v, wr))
  case atStart => exact ⟨f, r0, 0, rfl, rfl, HB2.out⟩
  case round =>
    obtain ⟨a0, r1, n0, hu0, hv0, hj0⟩ := hrel
    obtain ⟨⟨a, r, n, hu, hv, hj, hm⟩, hmin⟩ := HMU.out (_, _, wr) ⟨_, a0, r1, n0, hu0, hv0, hj0, rfl⟩
    simp only at hu hv hj
    rw [hu, hv] at hm
    subst hu0 hv0
    injection hu with hu
    injection hv with hv
    rw [hu, hv]
    clear hmin hj0
    have hrd := (HR.out _ _ _ _ hj).1
    obtain ⟨F, hA⟩ := hrd.tb
    have hsor := tbA_sor hA
    obtain ⟨q0, l0, hl0, hli, hfi, _, hge⟩ := hrd.list
    have c1 : wr.cell? ⟨g1, 0, none⟩ = some (pt p) := hrd.b1.cell 0
    have c3 : wr.cell? ⟨g3, 0, none⟩ = some (.string t) := hrd.b3.cell 0
    have LI := Lib.hid hli
    rcases nxU_first hsor t a with ⟨x, hx, hmem, hp, hk, ht, hh, hval⟩ | ⟨hx, hno⟩
    · have hsz := hrd.szs x hmem
      have hszk : x.key.size ≤ 140737488351233 := hsz.2.1
      have HYX := Lib.hid (fun W1 hb => HY.out a r n x W1 (HJ.out _ _ _ _ _ hj hb) hx)
      have GE := Lib.hid (hge x.key)
      rw [hh, hval] at GE
      have hmu : ∀ (r' : List Rw) (W5 : World), J (x.key ++ zr) r' (n + 1) W5 → ∀ u v, u = .string (rkey r' (rpos r' (x.key ++ zr))) → v = .bool (decide (rpos r' (x.key ++ zr) < r'.length)) → μ (u, v, W5) < μ (.string x.key, .bool true, wr) := by
        intro r' W5 hj5 u v hu5 hv5
        have h1 := (HMU.out (u, v, W5) ⟨_, _, r', n + 1, hu5, hv5, hj5, rfl⟩).2 (N - (n + 1)) ⟨_, r', n + 1, hu5, hv5, hj5, rfl⟩
        have h2 := (HR.out _ _ _ _ hj5).2
        rw [hk, decide_eq_true hp] at hm
        rw [hm]
        omega
      have HM := Lib.hid hmu
      have hcase : t.toList = [] ∨ (¬ t.toList = [] ∧ Op.bytesLess x.key.toList t.toList = true) := by
        rcases ht with h | h
        · exact .inl h
        · by_cases h2 : t.toList = []
          · exact .inl h2
          · exact .inr ⟨h2, h⟩
      rw [hk, decide_eq_true hp]
      obtain ⟨key, value⟩ := x
      simp only at hcase HM HYX GE hszk ⊢
      clear hrd hA hsor hli hfi hge hj hm hmem hp hk ht hh hval hsz hmu hu hv hx
      rcases hcase with h0 | ⟨h0, hlt⟩
      · have h1 : t.toList.isEmpty = true := by rw [h0]; rfl
        gi_wp2_with (first
          | (refine ⟨trivial, ?_⟩; gi_at_call 69; refine (callsIn_wide.2 (LI.out _ (Below.refl _ _))).mono ?_; rintro x W3 ⟨rfl, rfl⟩)
          | (refine ⟨trivial, ?_⟩; gi_at_call 70; refine (callsIn_wide.2 (GE.out _ (Below.refl _ _))).mono ?_; rintro x W4 ⟨rfl, hb4⟩; obtain ⟨fn, tmps, assign, body, hy, hR⟩ := HYX.out _ hb4; (try dsimp only at hy)))

        refine hR.mono ?_
        rintro x W5 (⟨rfl, r', hJ5⟩ | ⟨rfl, hJx5⟩)
        · have hrd5 := (HR.out _ _ _ _ hJ5).1
          obtain ⟨q5, l5, hl5, hli5, hfi5, _, hge5⟩ := hrd5.list
          have c15 : W5.cell? ⟨g1, 0, none⟩ = some (pt p) := hrd5.b1.cell 0
          have LI5 := Lib.hid hli5
          have FI5 := Lib.hid (hfi5 (key ++ ⟨#[0]⟩))
          have HJ5 := Lib.hid hJ5
          clear hrd5 hli5 hfi5 hge5 hJ5 hl5
          gi_wp2_with (first
            | (refine ⟨trivial, ?_⟩; gi_at_call 69; refine (callsIn_wide.2 (LI5.out _ (Below.refl _ _))).mono ?_; rintro x W6 ⟨rfl, rfl⟩)
            | (refine ⟨trivial, ?_⟩; gi_at_call 108; refine (callsIn_wide.2 (FI5.out _ (Below.refl _ _))).mono ?_; rintro x W7 ⟨rfl, hb7⟩))
          go_roundw
          case rel => exact ⟨key ++ zr, r', n + 1, rfl, rfl, HJ.out _ _ _ _ _ HJ5.out hb7⟩
          case measure => exact HM.out r' W7 (HJ.out _ _ _ _ _ HJ5.out hb7) _ _ rfl rfl
        · gi_wp2
          refine bodyPost_ret (results_none rfl _ _ _) rfl ?_
          exact ⟨⟨_, rfl⟩, .inr hJx5⟩
      · have h1 : t.toList.isEmpty = false := by simpa using h0
        gi_wp2_with (first
          | (refine ⟨trivial, ?_⟩; gi_at_call 69; refine (callsIn_wide.2 (LI.out _ (Below.refl _ _))).mono ?_; rintro x W3 ⟨rfl, rfl⟩)
          | (refine ⟨trivial, ?_⟩; gi_at_call 70; refine (callsIn_wide.2 (GE.out _ (Below.refl _ _))).mono ?_; rintro x W4 ⟨rfl, hb4⟩; obtain ⟨fn, tmps, assign, body, hy, hR⟩ := HYX.out _ hb4; (try dsimp only at hy)))
        refine hR.mono ?_
        rintro x W5 (⟨rfl, r', hJ5⟩ | ⟨rfl, hJx5⟩)
        · have hrd5 := (HR.out _ _ _ _ hJ5).1
          obtain ⟨q5, l5, hl5, hli5, hfi5, _, hge5⟩ := hrd5.list
          have c15 : W5.cell? ⟨g1, 0, none⟩ = some (pt p) := hrd5.b1.cell 0
          have LI5 := Lib.hid hli5
          have FI5 := Lib.hid (hfi5 (key ++ ⟨#[0]⟩))
          have HJ5 := Lib.hid hJ5
          clear hrd5 hli5 hfi5 hge5 hJ5 hl5
          gi_wp2_with (first
            | (refine ⟨trivial, ?_⟩; gi_at_call 69; refine (callsIn_wide.2 (LI5.out _ (Below.refl _ _))).mono ?_; rintro x W6 ⟨rfl, rfl⟩)
            | (refine ⟨trivial, ?_⟩; gi_at_call 108; refine (callsIn_wide.2 (FI5.out _ (Below.refl _ _))).mono ?_; rintro x W7 ⟨rfl, hb7⟩))
          go_roundw
          case rel => exact ⟨key ++ zr, r', n + 1, rfl, rfl, HJ.out _ _ _ _ _ HJ5.out hb7⟩
          case measure => exact HM.out r' W7 (HJ.out _ _ _ _ _ HJ5.out hb7) _ _ rfl rfl
        · gi_wp2
          refine bodyPost_ret (results_none rfl _ _ _) rfl ?_
          exact ⟨⟨_, rfl⟩, .inr hJx5⟩
    · have hend : ∀ W5, Below wr.heap.size wr W5 → ∃ a r n, nxU t r a = none ∧ J a r n W5 := fun W5 hb => ⟨a, r, n, hx, HJ.out _ _ _ _ _ hj hb⟩
      have HE := Lib.hid hend
      clear hrd hA hsor hli hfi hge hj hm hend hx HMU HR HY LI hu hv
      rcases hno with hp | ⟨h0, hp, hlt⟩
      · rw [decide_eq_false hp]
        gi_wp2_with fail
        first | refine bodyPost_end (results_none rfl _ _ _) rfl ?_ | refine bodyPost_ret (results_none rfl _ _ _) rfl ?_
        exact ⟨⟨_, rfl⟩, .inl (HE.out _ (Below.refl _ _))⟩
      · rw [decide_eq_true hp]
        have h1 : t.toList.isEmpty = false := by simpa using h0
        unfold kl at hlt
        generalize rkey r (rpos r a) = key at *
        gi_wp2_with fail
        first | refine bodyPost_end (results_none rfl _ _ _) rfl ?_ | refine bodyPost_ret (results_none rfl _ _ _) rfl ?_
        exact ⟨⟨_, rfl⟩, .inl (HE.out _ (Below.refl _ _))⟩
end Go.Proofs.YtgccichmdddbpaaGreatDoor
set_option linter.unusedVariables false
namespace Go.Proofs.YtgccichmdddbpaaGreatDoor
open Go.RowKit Go.Shelf
attribute [local go_sem] Oper.semAt_some



theorem tb_all (p : Nat) (f t : ByteArray) (w : World) :
    Calls Tryz.prog 56 #[pt p, .string f, .string t] w fun e w' => ∃ g1 g2 g3, e = .returned (.func (.func 107) #[] #[pt g1, pt g2, pt g3]) ∧ (w.heap.size ≤ g1 ∧ w.heap.size ≤ g2 ∧ w.heap.size ≤ g3 ∧ g1 < g2 ∧ g2 < g3) ∧ (Blk w' g1 31 #[pt p] ∧ Blk w' g2 9 #[.string f] ∧ Blk w' g3 9 #[.string t]) ∧ Below w.heap.size w w' := by
  have b1 := nbl w (.cells #[pt p] 31)
  have k1 := Blk.new w 31 #[pt p]
  have s1 : (w.alloc (.cells #[pt p] 31)).heap.size = w.heap.size + 1 := by simp
  have b2 := nbl (w.alloc (.cells #[pt p] 31)) (.cells #[.string f] 9)
  have k2 := Blk.new (w.alloc (.cells #[pt p] 31)) 9 #[.string f]
  have s2 : ((w.alloc (.cells #[pt p] 31)).alloc (.cells #[.string f] 9)).heap.size = w.heap.size + 2 := by simp
  have b3 := nbl ((w.alloc (.cells #[pt p] 31)).alloc (.cells #[.string f] 9)) (.cells #[.string t] 9)
  have k3 := Blk.new ((w.alloc (.cells #[pt p] 31)).alloc (.cells #[.string f] 9)) 9 #[.string t]
  have K1 := Lib.hid ((k1.below b2 k1.lt).below b3 (by rw [s2]; omega))
  have K2 := Lib.hid (k2.below b3 k2.lt)
  have K3 := Lib.hid k3
  have HB := Lib.hid (bst (bst b1 b2) b3)
  rw [s1] at K2
  rw [s2] at K3
  clear b1 k1 s1 b2 k2 s2 b3 k3
  go_enter Tryz.func56, Tryz.ntmps56
  go_wp2_with fail
  go_ret
  exact ⟨w.heap.size, w.heap.size + 1, w.heap.size + 2, rfl, by omega, ⟨K1.out, K2.out, K3.out⟩, HB.out⟩
end Go.Proofs.YtgccichmdddbpaaGreatDoor
set_option linter.unusedVariables false
namespace Go.Proofs.YtgccichmdddbpaaGreatDoor
open Go.RowKit Go.Shelf

/-- How a round may be left. -/
def tourEnd (B : Nat) (Nx : World → Prop) (Ix : Code → World → Prop) (W : World) : Exit → Act → World → Prop
  | .normal, _, W' => KeepsFrom B W W' ∧ Nx W'
  | .ret, _, W' => KeepsFrom B W W' ∧ Ix .ret W'
  | .exit id, _, W' => KeepsFrom B W W' ∧ Ix (.exit id) W'
  | .goto t, _, W' => KeepsFrom B W W' ∧ Ix (.goto t) W'
  | _, _, _ => False
section
variable {P : Program} {ps : Array Tmp} {assign body : Code} {w : World}
theorem wp_tours {g : Operand} {Q : Exit → Act → World → Prop} {a : Act} {gf : Nat} {lb : Array Value} (hg : a.eval g = .func (.func gf) #[] lb) (eg : ∀ args w, (callFunc gf args).run P w = .ok (.enter gf args) w)
    {nx : List Rw → ByteArray → Option Rw} {aft : ByteArray → ByteArray} {a0 : ByteArray} {RD : List Rw → World → Prop} (hseq : Tours P gf lb nx aft a0 RD) (hps : 2 = ps.size) (N : Nat)
    (I : ByteArray → List Rw → Nat → World → Prop) (Ix : Code → World → Prop)
    (hI : ∀ b r n X Y, I b r n X → w.heap.size ≤ X.heap.size → Firm w.heap.size X Y → I b r n Y) (hIx : ∀ c X Y, Ix c X → w.heap.size ≤ X.heap.size → Firm w.heap.size X Y → Ix c Y)
    (hRD : ∀ b r n X, I b r n X → RD r X ∧ n ≤ N) (r0 : List Rw) (h0 : I a0 r0 0 w) (a₁ : Rw → Act)
    (hassign : ∀ (l : Nat) (x : Rw) (W : World) (K : Act → World → Prop), K (a₁ x) W →
      assign.wpIn (Fence.wide.inRound l) 2 P (Exit.then K (fun _ _ _ => False)) { tmps := (ps.zip #[.string x.key, .string x.value]).foldl (fun t (p, v) => t.setIfInBounds p v) a.tmps, defers := [] } W)
    (hbody : ∀ (l : Nat) (b : ByteArray) (r : List Rw) (n : Nat) (x : Rw) (W : World), w.heap.size ≤ W.heap.size → I b r n W → nx r b = some x → body.wpIn (Fence.wide.inRound l) 2 P (tourEnd w.heap.size (fun W' => ∃ r', I (aft x.key) r' (n + 1) W') Ix W) (a₁ x) W)
    (hdone : ∀ (D : Nat) (b : ByteArray) (r : List Rw) (n : Nat) (W : World), w.heap.size ≤ D → w.heap.size ≤ W.heap.size → nx r b = none → I b r n W → W.heap[D]? = some (.deferred (some [])) → Q .normal { a with defers := { target := .collected D, args := #[] } :: a.defers } W)
    (hstop : ∀ (D : Nat) (c : Code) (W : World), w.heap.size ≤ D → w.heap.size ≤ W.heap.size → Ix c W → W.heap[D]? = some (.deferred (some [])) → c.wp P Q { a with defers := { target := .collected D, args := #[] } :: a.defers } W) :
    (Code.rangeFunc g ps assign body).wp P Q a w := by
  refine (wpIn_wide (n := 4)).1 (wpIn_rangeFunc fun fn _ => ?_)
  obtain ⟨r, hr⟩ : ∃ r : Loop, r = { state := .ready, pending := none, fn, tmps := a.tmps, params := ps, assign, body, defers := w.heap.size } := ⟨_, rfl⟩
  have hr0 : ({ r with state := .ready, pending := none } : Loop) = r := by rw [hr]
  obtain ⟨w1, hw1⟩ : ∃ w1, w1 = (w.alloc (.deferred (some []))).alloc (.loop r) := ⟨_, rfl⟩
  have hbk : Book r (w.heap.size + 1) w.heap.size .ready none w1 := by
    constructor
    · rw [hr0, hw1]
      have := World.alloc_heap_new (w.alloc (.deferred (some []))) (.loop r)
      rwa [World.size_alloc] at this
    · rw [hw1]
      exact (Below.heap_alloc _ _ _ (by simp)).trans (World.alloc_heap_new w _)
  have hb1 : Below w.heap.size w w1 := by
    rw [hw1]
    exact ((Below.refl _ w).alloc (Nat.le_refl _) _).alloc (by simp) _
  refine ⟨w.heap.size + 1, [{ target := .collected w.heap.size, args := #[] }], w1, { target := .fn (.func gf) lb, args := #[.func (.yield (w.heap.size + 1)) #[] #[]] }, w1, gf,
    #[.func (.yield (w.heap.size + 1)) #[] #[]] ++ lb, w1, ?_, ?_, fun _ _ => trivial, ?_, (fun _ => by omega), ?_⟩
  · rw [hw1, hr]
    exact run_enterLoop_outer _ _ _ _ _
  · simp only [resolve, hg]
    simp [go_sem]
  · simp [invoke, go_sem, eg]
  · refine (hseq (w.heap.size + 1) N (fun b s n W => w.heap.size ≤ W.heap.size ∧ I b s n W ∧ Book r (w.heap.size + 1) w.heap.size .ready none W)
      (fun W => w.heap.size ≤ W.heap.size ∧ ∃ c, Ix c W ∧ Book r (w.heap.size + 1) w.heap.size .done (some c) W) r0 w1
      (fun b s n X Y h hb => ⟨Nat.le_trans h.1 hb.size, hI b s n X Y h.2.1 h.1 (.of_below hb), h.2.2.below hb⟩)
      (fun b s n X h => hRD b s n X h.2.1)
      ?_ ⟨hb1.size, hI a0 r0 0 w w1 h0 (Nat.le_refl _) (.of_below hb1), hbk⟩).mono ?_
    · rintro b s n x W ⟨hs, hi, hbo⟩ hx
      have hl := hbo.1
      have hy := run_yield (P := P) (args := #[.string x.key, .string x.value]) hl (by rw [hr]; exact hps)
      rw [hr] at hy
      refine ⟨fn, _, assign, body, hy, roundIn_of_wpIn trivial (hassign _ x W _ ⟨_, run_beginRound hl rfl, ?_⟩)⟩
      have hf : Firm w.heap.size W (W.putObj (w.heap.size + 1) (.loop { r with state := .busy, pending := none })) := .put _ _ (Nat.le_succ _) hl rfl
      have hbu := hbo.turn (by omega) .busy none
      have hs2 := Nat.le_trans hs hf.size
      refine wpIn_mono (hbody _ b s n x _ hs2 (hI _ _ _ _ _ hi hs hf) hx) ?_
      intro e a3 W3 hp
      have fin := fun (hk : KeepsFrom w.heap.size (W.putObj (w.heap.size + 1) (.loop { r with state := .busy, pending := none })) W3) (j : Option Code) =>
        hbu.ends (P := P) hk (Nat.le_succ _) (Nat.le_refl _) (by omega) j
      cases e with
      | normal =>
        obtain ⟨hk, s', hi3⟩ := hp
        obtain ⟨W4, h1, h2, h3⟩ := fin hk none
        have hs3 := Nat.le_trans hs2 hk.size
        exact ⟨_, W4, h1, .inl ⟨rfl, s', Nat.le_trans hs3 h2.size, hI _ _ _ _ _ hi3 hs3 h2, h3⟩⟩
      | ret =>
        obtain ⟨hk, hi3⟩ := hp
        obtain ⟨W4, h1, h2, h3⟩ := fin hk (some .ret)
        have hs3 := Nat.le_trans hs2 hk.size
        exact ⟨_, W4, h1, .inr ⟨rfl, Nat.le_trans hs3 h2.size, _, hIx _ _ _ hi3 hs3 h2, h3⟩⟩
      | exit id =>
        obtain ⟨hk, hi3⟩ := hp
        obtain ⟨W4, h1, h2, h3⟩ := fin hk (some (.exit id))
        have hs3 := Nat.le_trans hs2 hk.size
        exact ⟨_, W4, h1, .inr ⟨rfl, Nat.le_trans hs3 h2.size, _, hIx _ _ _ hi3 hs3 h2, h3⟩⟩
      | goto t =>
        obtain ⟨hk, hi3⟩ := hp
        obtain ⟨W4, h1, h2, h3⟩ := fin hk (some (.goto t))
        have hs3 := Nat.le_trans hs2 hk.size
        exact ⟨_, W4, h1, .inr ⟨rfl, Nat.le_trans hs3 h2.size, _, hIx _ _ _ hi3 hs3 h2, h3⟩⟩
      | panic ch => exact hp.elim
      | outgrown => exact hp.elim
    · rintro e W2 ⟨⟨v, rfl⟩, (⟨b, s, n, hS, hs, hi, hbo⟩ | ⟨hs, c, hi, hbo⟩)⟩
      · refine ⟨none, _, run_endLoop hbo.1 (by simp), hdone _ b s n _ (Nat.le_refl _) (Nat.le_trans hs (Nat.le_of_eq World.putObj_size.symm)) hS (hI _ _ _ _ _ hi hs (.put _ _ (Nat.le_succ _) hbo.1 rfl)) ((World.putObj_heap_other (by omega)).trans hbo.2)⟩
      · refine ⟨some c, _, run_endLoop hbo.1 (by simp), (wpIn_wide (n := 4)).2 (hstop _ c _ (Nat.le_refl _) (Nat.le_trans hs (Nat.le_of_eq World.putObj_size.symm)) (hIx _ _ _ hi hs (.put _ _ (Nat.le_succ _) hbo.1 rfl)) ((World.putObj_heap_other (by omega)).trans hbo.2))⟩
end
end Go.Proofs.YtgccichmdddbpaaGreatDoor
