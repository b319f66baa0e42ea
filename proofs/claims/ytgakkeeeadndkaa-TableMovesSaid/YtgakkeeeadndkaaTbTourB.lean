/-
  Layer 10, the code: Back; what All and Back make.
-/
import Derived.Test.YtgakkeeeadndkaaTbTour
set_option linter.unusedVariables false
namespace Go.Proofs.Ytgakkeeeadndkaa
open Go.RowKit Go.Shelf
attribute [local go_sem] Oper.semAt_some

set_option maxRecDepth 100000 in
set_option maxHeartbeats 4000000 in
theorem tb_back_tours (p g1 g2 g3 : Nat) (f t : ByteArray) : Tours Try.prog 47 #[pt g1, pt g3, pt g2] (nxD f) (fun k => k) t (TRD p g1 g2 g3 f t) := by
  intro l N J Jx r0 W hJ hR hY h0
  obtain ⟨μ, hμ⟩ := least_fn (fun (s : Value × Value × World) (m : Nat) => ∃ a r n, s.1 = .string (lk r a) ∧ s.2.1 = .bool (decide (0 < rend r a)) ∧ J a r n s.2.2 ∧ m = N - n)
  have HMU := Lib.hid hμ
  have HJ := Lib.hid hJ
  have HR := Lib.hid hR
  have HY := Lib.hid hY
  have H0 := Lib.hid h0
  have hr0 := (hR _ _ _ _ h0).1
  obtain ⟨q0, l0, hl0, hli, hx1, hfi, hx2⟩ := hr0.list
  clear hx1 hx2
  have LI := Lib.hid hli
  have FI := Lib.hid (fun Y hb => (hfi t Y hb).mono (fun x W2 h => (show x = _ ∧ Below W.heap.size W W2 ∧ (W2.cell? ⟨g1, 0, none⟩ = some (pt p) ∧ W2.cell? ⟨g3, 0, none⟩ = some (.string t)) from ⟨h.1, bst hb h.2, (hr0.below (bst hb h.2)).b1.cell 0, (hr0.below (bst hb h.2)).b3.cell 0⟩)))
  have c1 : W.cell? ⟨g1, 0, none⟩ = some (pt p) := hr0.b1.cell 0
  have c2 : W.cell? ⟨g3, 0, none⟩ = some (.string t) := hr0.b3.cell 0
  clear hμ hJ hR hY h0 hr0 hli hfi hl0
  refine callsIn_of_wp Try.func47 rfl trivial ?_ rfl
  simp only [Try.ntmps47, List.size_toArray, List.length_cons, List.length_nil, Nat.reduceAdd, Nat.reduceSub, Array.replicate_succ, Array.replicate_zero, List.push_toArray, List.append_toArray, List.nil_append, List.cons_append]
  gi_wp2_with fail
  refine (wpIn_wide (n := 3)).2 ?_
  have hP : Below W.heap.size W W.drew := below_drew W
  have hS : W.drew.cell? ⟨g1, 0, none⟩ = some (pt p) ∧ W.drew.cell? ⟨g3, 0, none⟩ = some (.string t) := ⟨c1, c2⟩
  go_region_held3 (fun V => V.cell? ⟨g1, 0, none⟩ = some (pt p) ∧ V.cell? ⟨g3, 0, none⟩ = some (.string t))
    (first | with_reducible assumption | with_reducible exact hS)
    (first
      | (go_at_call 40; (with_reducible refine (LI.out _ (by with_reducible assumption)).mono ?_); rintro x W2 ⟨rfl, rfl⟩)
      | (go_at_call 48; (with_reducible refine (FI.out _ (by with_reducible assumption)).mono ?_); rintro x W2 ⟨rfl, hb2, hS2⟩))
  gi_wp2_with fail
  have HB2 := Lib.hid (HJ.out _ _ _ _ _ H0.out hb2)
  clear LI FI c1 c2 hP hS hS2 hb2 H0
  gi_loopw [5, 6] (fun u v wr => ∃ (a : ByteArray) (r : List Rw) (n : Nat), u = .string (lk r a) ∧ v = .bool (decide (0 < rend r a)) ∧ J a r n wr) (fun u v wr => μ (u, v, wr))
  case atStart => exact ⟨t, r0, 0, rfl, rfl, HB2.out⟩
  case round =>
    obtain ⟨a0, r1, n0, hu0, hv0, hj0⟩ := hrel
    obtain ⟨⟨a, r, n, hu, hv, hj, hm⟩, hmin⟩ := HMU.out (_, _, wr) ⟨_, a0, r1, n0, hu0, hv0, hj0, rfl⟩
    simp only at hu hv hj
    rw [hu, hv] at hm
    subst hu0 hv0
    injection hu with hu
    injection hv with hv
    rw [hu, hv]
    clear hmin hj0
    have hrd := (HR.out _ _ _ _ hj).1
    obtain ⟨F, hA⟩ := hrd.tb
    have hsor := tbA_sor hA
    obtain ⟨q0, l0, hl0, hli, _, hfi, hge⟩ := hrd.list
    have c1 : wr.cell? ⟨g1, 0, none⟩ = some (pt p) := hrd.b1.cell 0
    have c3 : wr.cell? ⟨g2, 0, none⟩ = some (.string f) := hrd.b2.cell 0
    have LI := Lib.hid hli
    rcases nxD_last hsor f a with ⟨x, hx, hmem, hp, hk0, ht, hh, hval⟩ | ⟨hx, hno⟩
    · have hsz := hrd.szs x hmem
      have hk : lk r a = x.key := by unfold lk; rw [if_neg (by omega)]; exact hk0
      have hszk : x.key.size ≤ 140737488351232 := hsz.2.1
      have HYX := Lib.hid (fun W1 hb => HY.out a r n x W1 (HJ.out _ _ _ _ _ hj hb) hx)
      have GE := Lib.hid (hge x.key)
      rw [hh, hval] at GE
      have hmu : ∀ (r' : List Rw) (W5 : World), J x.key r' (n + 1) W5 → ∀ u v, u = .string (lk r' x.key) → v = .bool (decide (0 < rend r' x.key)) → μ (u, v, W5) < μ (.string x.key, .bool true, wr) := by
        intro r' W5 hj5 u v hu5 hv5
        have h1 := (HMU.out (u, v, W5) ⟨_, _, r', n + 1, hu5, hv5, hj5, rfl⟩).2 (N - (n + 1)) ⟨_, r', n + 1, hu5, hv5, hj5, rfl⟩
        have h2 := (HR.out _ _ _ _ hj5).2
        rw [hk, decide_eq_true hp] at hm
        rw [hm]
        omega
      have HM := Lib.hid hmu
      have hcase : Op.bytesLess x.key.toList f.toList = false := ht
      rw [hk, decide_eq_true hp]
      obtain ⟨key, value⟩ := x
      simp only at hcase HM HYX GE hszk ⊢
      clear hrd hA hsor hli hfi hge hj hm hmem hp hk hk0 ht hh hval hsz hmu hu hv hx
      gi_wp2_with (first
        | (refine ⟨trivial, ?_⟩; gi_at_call 40; refine (callsIn_wide.2 (LI.out _ (Below.refl _ _))).mono ?_; rintro x W3 ⟨rfl, rfl⟩)
        | (refine ⟨trivial, ?_⟩; gi_at_call 42; refine (callsIn_wide.2 (GE.out _ (Below.refl _ _))).mono ?_; rintro x W4 ⟨rfl, hb4⟩; obtain ⟨fn, tmps, assign, body, hy, hR⟩ := HYX.out _ hb4; (try dsimp only at hy)))

      refine hR.mono ?_
      rintro x W5 (⟨rfl, r', hJ5⟩ | ⟨rfl, hJx5⟩)
      · have hrd5 := (HR.out _ _ _ _ hJ5).1
        obtain ⟨q5, l5, hl5, hli5, _, hfi5, hge5⟩ := hrd5.list
        have c15 : W5.cell? ⟨g1, 0, none⟩ = some (pt p) := hrd5.b1.cell 0
        have LI5 := Lib.hid hli5
        have FI5 := Lib.hid (hfi5 key)
        have HJ5 := Lib.hid hJ5
        clear hrd5 hli5 hfi5 hge5 hJ5 hl5
        gi_wp2_with (first
          | (refine ⟨trivial, ?_⟩; gi_at_call 40; refine (callsIn_wide.2 (LI5.out _ (Below.refl _ _))).mono ?_; rintro x W6 ⟨rfl, rfl⟩)
          | (refine ⟨trivial, ?_⟩; gi_at_call 48; refine (callsIn_wide.2 (FI5.out _ (Below.refl _ _))).mono ?_; rintro x W7 ⟨rfl, hb7⟩))
        go_roundw
        case rel => exact ⟨key, r', n + 1, rfl, rfl, HJ.out _ _ _ _ _ HJ5.out hb7⟩
        case measure => exact HM.out r' W7 (HJ.out _ _ _ _ _ HJ5.out hb7) _ _ rfl rfl
      · gi_wp2
        refine bodyPost_ret (results_none rfl _ _ _) rfl ?_
        exact ⟨⟨_, rfl⟩, .inr hJx5⟩
    · have hend : ∀ W5, Below wr.heap.size wr W5 → ∃ a r n, nxD f r a = none ∧ J a r n W5 := fun W5 hb => ⟨a, r, n, hx, HJ.out _ _ _ _ _ hj hb⟩
      have HE := Lib.hid hend
      clear hrd hA hsor hli hfi hge hj hm hend hx HMU HR HY LI hu hv
      rcases hno with hp | ⟨hp, hlt⟩
      · rw [decide_eq_false (show ¬ 0 < rend r a by omega)]
        gi_wp2_with fail
        first | refine bodyPost_end (results_none rfl _ _ _) rfl ?_ | refine bodyPost_ret (results_none rfl _ _ _) rfl ?_
        exact ⟨⟨_, rfl⟩, .inl (HE.out _ (Below.refl _ _))⟩
      · rw [decide_eq_true hp]
        have hk : lk r a = rkey r (rend r a - 1) := by unfold lk; rw [if_neg (by omega)]
        rw [hk]
        unfold kl at hlt
        clear hk hp
        generalize rkey r (rend r a - 1) = key at *
        gi_wp2_with fail
        first | refine bodyPost_end (results_none rfl _ _ _) rfl ?_ | refine bodyPost_ret (results_none rfl _ _ _) rfl ?_
        exact ⟨⟨_, rfl⟩, .inl (HE.out _ (Below.refl _ _))⟩

theorem tb_all (p : Nat) (f t : ByteArray) (w : World) :
    Calls Try.prog 26 #[pt p, .string f, .string t] w fun e w' => ∃ g1 g2 g3, e = .returned (.func (.func 44) #[] #[pt g1, pt g2, pt g3]) ∧ (w.heap.size ≤ g1 ∧ w.heap.size ≤ g2 ∧ w.heap.size ≤ g3 ∧ g1 < g2 ∧ g2 < g3) ∧ (Blk w' g1 23 #[pt p] ∧ Blk w' g2 9 #[.string f] ∧ Blk w' g3 9 #[.string t]) ∧ Below w.heap.size w w' := by
  have b1 := nbl w (.cells #[pt p] 23)
  have k1 := Blk.new w 23 #[pt p]
  have s1 : (w.alloc (.cells #[pt p] 23)).heap.size = w.heap.size + 1 := by simp
  have b2 := nbl (w.alloc (.cells #[pt p] 23)) (.cells #[.string f] 9)
  have k2 := Blk.new (w.alloc (.cells #[pt p] 23)) 9 #[.string f]
  have s2 : ((w.alloc (.cells #[pt p] 23)).alloc (.cells #[.string f] 9)).heap.size = w.heap.size + 2 := by simp
  have b3 := nbl ((w.alloc (.cells #[pt p] 23)).alloc (.cells #[.string f] 9)) (.cells #[.string t] 9)
  have k3 := Blk.new ((w.alloc (.cells #[pt p] 23)).alloc (.cells #[.string f] 9)) 9 #[.string t]
  have K1 := Lib.hid ((k1.below b2 k1.lt).below b3 (by rw [s2]; omega))
  have K2 := Lib.hid (k2.below b3 k2.lt)
  have K3 := Lib.hid k3
  have HB := Lib.hid (bst (bst b1 b2) b3)
  rw [s1] at K2
  rw [s2] at K3
  clear b1 k1 s1 b2 k2 s2 b3 k3
  go_enter Try.func26, Try.ntmps26
  go_wp2_with fail
  go_ret
  exact ⟨w.heap.size, w.heap.size + 1, w.heap.size + 2, rfl, by omega, ⟨K1.out, K2.out, K3.out⟩, HB.out⟩
theorem tb_back (p : Nat) (f t : ByteArray) (w : World) :
    Calls Try.prog 30 #[pt p, .string f, .string t] w fun e w' => ∃ g1 g2 g3, e = .returned (.func (.func 47) #[] #[pt g1, pt g3, pt g2]) ∧ (w.heap.size ≤ g1 ∧ w.heap.size ≤ g2 ∧ w.heap.size ≤ g3 ∧ g1 < g2 ∧ g2 < g3) ∧ (Blk w' g1 23 #[pt p] ∧ Blk w' g2 9 #[.string f] ∧ Blk w' g3 9 #[.string t]) ∧ Below w.heap.size w w' := by
  have b1 := nbl w (.cells #[pt p] 23)
  have k1 := Blk.new w 23 #[pt p]
  have s1 : (w.alloc (.cells #[pt p] 23)).heap.size = w.heap.size + 1 := by simp
  have b2 := nbl (w.alloc (.cells #[pt p] 23)) (.cells #[.string f] 9)
  have k2 := Blk.new (w.alloc (.cells #[pt p] 23)) 9 #[.string f]
  have s2 : ((w.alloc (.cells #[pt p] 23)).alloc (.cells #[.string f] 9)).heap.size = w.heap.size + 2 := by simp
  have b3 := nbl ((w.alloc (.cells #[pt p] 23)).alloc (.cells #[.string f] 9)) (.cells #[.string t] 9)
  have k3 := Blk.new ((w.alloc (.cells #[pt p] 23)).alloc (.cells #[.string f] 9)) 9 #[.string t]
  have K1 := Lib.hid ((k1.below b2 k1.lt).below b3 (by rw [s2]; omega))
  have K2 := Lib.hid (k2.below b3 k2.lt)
  have K3 := Lib.hid k3
  have HB := Lib.hid (bst (bst b1 b2) b3)
  rw [s1] at K2
  rw [s2] at K3
  clear b1 k1 s1 b2 k2 s2 b3 k3
  go_enter Try.func30, Try.ntmps30
  go_wp2_with fail
  go_ret
  exact ⟨w.heap.size, w.heap.size + 1, w.heap.size + 2, rfl, by omega, ⟨K1.out, K2.out, K3.out⟩, HB.out⟩
end Go.Proofs.Ytgakkeeeadndkaa
