/-
  Layer 7: the document's disk: Crash.
-/
import Derived.Test.YtkhalpajomammaaDFall
import Derived.Deep.CutRange
set_option linter.unusedVariables false
namespace Go.Proofs.Ytkhalpajomammaa
open Go.RowKit

theorem set_blk (V : World) (g i : Nat) (u : Value) {x : Nat} (hx : x ≠ g) : (V.setCell ⟨g, i, none⟩ u).heap[x]? = V.heap[x]? := by
  simp only [World.setCell, Array.getElem?_modify]
  rw [if_neg (fun e => hx e.symm)]
theorem set_size (V : World) (p : Addr) (u : Value) : (V.setCell p u).heap.size = V.heap.size := by
  rw [World.setCell]
  simp only [Array.size_modify]
theorem set_cell (V : World) {g i x j : Nat} (u : Value) (hx : x ≠ g) : (V.setCell ⟨g, i, none⟩ u).cell? ⟨x, j, none⟩ = V.cell? ⟨x, j, none⟩ := World.cell?_of_block (a := ⟨x, j, none⟩) (set_blk V g i u hx)

section
variable {V V' : World} {g : Nat} {D : Dk} {F Fb G : Nat → Prop} {v : Value} {A : Option Addr} {n c : Nat} {qs : List Fv}
/-- A field is written. -/
theorem RDkB.field (h : RDkB V g D F Fb v A n c qs) (i : Nat) (u : Value) {D' : Dk} {v' : Value} {A' : Option Addr} {n' c' : Nat} {qs' : List Fv}
    (hc : (#[v, .bool D.dead, .int .i64 D.left, .slice A n c] : Array Value).setIfInBounds i u = #[v', .bool D'.dead, .int .i64 D'.left, .slice A' n' c'])
    (he : qs'.map Fv.f = D'.l) (hl : RL V F Fb v' qs') (hk : IAt V A' n' D'.keep) (hkF : InF Fb A') (hkc : n' ≤ c' ∧ c' ≤ 9223372036854775807) (hv : v'.ownBlock ≠ some g) (ho : D'.ok) :
    RDkB (V.setCell ⟨g, i, none⟩ u) g D' F Fb v' A' n' c' qs' := by
  have hb : ∀ x, Fb x → (V.setCell ⟨g, i, none⟩ u).heap[x]? = V.heap[x]? := fun x hx => set_blk V g i u (fun e => h.fg.2.1 (e ▸ hx))
  refine ⟨?_, he, ⟨⟨hl.row.1, ?_⟩, hl.own, fun q hq => (hl.each q hq).on hb (fun _ e => e)⟩, hk.on hkF hb, hkF, hkc, ⟨h.fg.1, h.fg.2.1, hv⟩, h.sub, fun k e => by rw [set_size]; exact h.lt k e, ho⟩
  · have h1 := h.obj
    simp only [World.setCell, Array.getElem?_modify, if_true, h1, Option.map_some]
    rw [← hc]
    rfl
  · rcases hl.row.2 with hn | ⟨b, cap, cur, e, hb0, hg, r⟩
    · exact .inl hn
    · exact .inr ⟨b, cap, cur, e, hb0, (set_blk V g i u (fun e2 => hv (by rw [e, ← e2]; rfl))).trans hg, r⟩
theorem RDkB.setDead (h : RDkB V g D F Fb v A n c qs) (b : Bool) : RDkB (V.setCell ⟨g, 1, none⟩ (.bool b)) g { D with dead := b } F Fb v A n c qs :=
  h.field 1 _ rfl h.eq h.list h.keep h.keepF h.kcap h.fg.2.2 ⟨h.ok.sorted, h.ok.marks, h.ok.few, h.ok.sum, h.ok.low, h.ok.high⟩
theorem RDkB.setLeft (h : RDkB V g D F Fb v A n c qs) (x : Int) (h1 : -1 ≤ x) (h2 : x ≤ 9223372036854775807) : RDkB (V.setCell ⟨g, 2, none⟩ (.int .i64 x)) g { D with left := x } F Fb v A n c qs :=
  h.field 2 _ rfl h.eq h.list h.keep h.keepF h.kcap h.fg.2.2 ⟨h.ok.sorted, h.ok.marks, h.ok.few, h.ok.sum, h1, h2⟩
end

theorem RDkB.wr {V : World} {g : Nat} {D : Dk} {F Fb : Nat → Prop} {A : Option Addr} {n c : Nat} {qs : List Fv} {b m cap : Nat} (h : RDkB V g D F Fb (.slice (some ⟨b, 0, none⟩) m cap) A n c qs) {i j : Nat} (hi : i < qs.length) (hj : j < 3) :
    (∃ u, V.cell? ⟨b, i * 3 + j, none⟩ = some u) ∧ V.frozen? ⟨b, i * 3 + j, none⟩ = false := by
  have hm : m = qs.length := by
    obtain ⟨_, _, e, _⟩ := h.list.form
    injection e
  subst hm
  refine ⟨?_, h.list.row.frozenAt _⟩
  rw [h.list.row.cellAt _ (by omega), rows_get qs i j hi hj]
  exact ⟨_, List.getElem?_eq_getElem (by simp [Fv.vals]; omega)⟩
theorem copyB (A : Option Addr) (n c : Nat) (xs : List UInt8) (w : World) (hx : At w A n xs) (hn : n ≤ 225000000000000) :
    Calls Try.prog 11 #[.slice A n c] w fun e w' => ∃ A' c', e = .returned (.slice A' n c') ∧ At w' A' n xs ∧ n ≤ c' ∧ c' ≤ 9223372036854775807 ∧ InF (fun k => w.heap.size ≤ k ∧ k < w'.heap.size) A' ∧ Below w.heap.size w w' := by
  refine (copyBytes A n c xs w hx hn).mono ?_
  rintro e w' ⟨v, rfl, ho, hb⟩
  obtain ⟨A', c', rfl, hat, h1, h2, _⟩ := ho.form
  have hl := hx.1
  rw [hl] at hat h1 ⊢
  refine ⟨A', c', rfl, hat, h1, h2, fun a e => ?_, hb⟩
  subst e
  rcases ho.2 with ⟨e, _⟩ | ⟨g, cap, cur, e, hg, hh, _⟩
  · cases e
  · injection e with e _ _
    injection e with e
    subst e
    exact ⟨hg, (Array.getElem?_eq_some_iff.1 hh).1⟩
theorem nF_set (F : Nat → Prop) (w V : World) (p : Addr) (u : Value) : nF F w (V.setCell p u).drew = nF F w V := by
  show nF F w (V.setCell p u) = _
  unfold nF
  rw [set_size]
/-- The three cells that a region reads of a list's element that was copied out. -/
abbrev S3 (g q : Nat) (v x y : Value) (V : World) : Prop := V.cell? ⟨g, 0, none⟩ = some v ∧ V.cell? ⟨q, 1, none⟩ = some x ∧ V.cell? ⟨q, 2, none⟩ = some y
theorem S3.far {g q b j : Nat} {v x y u : Value} {V : World} (h : S3 g q v x y V) (hg : g ≠ b) (hq : q ≠ b) : S3 g q v x y (V.setCell ⟨b, j, none⟩ u) :=
  ⟨(set_cell V u hg).trans h.1, (set_cell V u hq).trans h.2.1, (set_cell V u hq).trans h.2.2⟩
theorem S3.below {g q : Nat} {v x y : Value} {V V' : World} (h : S3 g q v x y V) (hb : Below V.heap.size V V') : S3 g q v x y V' :=
  ⟨(hb.cell (World.block_lt_of_cell? V _ h.1)).trans h.1, (hb.cell (World.block_lt_of_cell? V _ h.2.1)).trans h.2.1, (hb.cell (World.block_lt_of_cell? V _ h.2.2)).trans h.2.2⟩

set_option maxRecDepth 100000 in
set_option maxHeartbeats 8000000 in
/-- Crash, of a disk whose parts are known; the numbers lie in no block that it writes. -/
theorem crash_b (w : World) (g : Nat) (D : Dk) (F Fb : Nat → Prop) (v : Value) (KA : Option Addr) (kn kc : Nat) (qs : List Fv) (A : Option Addr) (n c : Nat) (keep : List Int)
    (h : RDkB w g D F Fb v KA kn kc qs) (hK : IAt w A n keep) (hKF : InF (fun k => k < w.heap.size ∧ k ≠ g ∧ v.ownBlock ≠ some k) A) (hnc : n ≤ c) (hc : c ≤ 9223372036854775807) :
    Calls Try.prog 40 #[pt g, .slice A n c] w fun e w' => e = .returned (.tuple #[]) ∧ Turns RDk w g F (crash D keep) w' := by
  have c1 := h.c1
  cases hd : D.dead
  · rw [hd] at c1
    have hlen := h.len
    have hkl := hK.1
    have hlq := h.lt g h.fg.1
    have HO := Lib.hid h.ok
    have HK := Lib.hid hK
    have HKF := Lib.hid hKF
    have HF := Lib.hid h.lt
    have H0 := Lib.hid h
    go_enter Try.func40, Try.ntmps40
    go_wp2_with fail
    go_loopw [4, 5] (fun iv _ V => ∃ (i : Nat) (qs' : List Fv) (Fb' : Nat → Prop), i ≤ qs.length ∧ iv = .int .i64 i ∧ Hid (RDkB V g { D with l := fallTo keep i D.l } (nF F w V) Fb' v KA kn kc qs') ∧ Hid (Grow (fun k => v.ownBlock = some k) w V)) (fun iv _ _ => qs.length - (intOf iv).toNat)
    case atStart => exact ⟨0, qs, Fb, Nat.zero_le _, rfl, Lib.hid (by rw [fallTo_zero]; exact h.mono (fun k e => .inl e) (fun k e => e.elim (h.lt k) (fun e => e.2))), Lib.hid (Grow.refl _ _)⟩
    case round =>
      clear h hK hKF c1
      obtain ⟨i, qs', Fb', hi, rfl, hR, hG⟩ := hrel
      have hR' := hR.out
      have HL := Lib.hid (show qs'.length = qs.length by rw [hR'.len, fallTo_len, hlen])
      have c0 := hR'.c0
      by_cases hlt : i < qs.length
      · obtain ⟨VA, vc, rfl, hc1, hc2, _, hcell⟩ := hR'.list.form
        have hlt' : i < qs'.length := by rw [HL.out]; exact hlt
        obtain ⟨b, rfl, hFb, hnb, hcl⟩ := hcell (by omega)
        obtain ⟨d0, d1, d2⟩ := hcl i hlt'
        have hil : i < D.l.length := by omega
        have hqf : qs'[i].f = D.l[i] := by rw [← hR'.get hlt']; exact fallTo_get keep i D.l hil
        obtain ⟨nm, bs, mk, qA, qc, hq⟩ : ∃ a b c d e, qs'[i] = ⟨⟨a, b, c⟩, d, e⟩ := ⟨_, _, _, _, _, rfl⟩
        have hRF := hR'.list.each _ (List.getElem_mem hlt')
        rw [hq] at d0 d1 d2 hqf hRF
        have hmk : mk ≤ bs.length := by have h1 := HO.out.marks _ (List.getElem_mem hil); rw [← hqf] at h1; exact h1
        have hql : bs.length ≤ 4194304 := by
          have h1 := sum_take_succ D.l i hil
          have h2 := sum_take_le D.l (i + 1)
          have h3 := HO.out.sum
          rw [← hqf] at h1
          simp only at h1
          omega
        have hcap : bs.length ≤ qc := hRF.cap
        have hat : At wr qA bs.length bs := hRF.at_
        have HQ := Lib.hid hq
        have HQF := Lib.hid hqf
        have hgb : g ≠ b := fun e => hR'.fg.2.2 (by rw [e]; rfl)
        have hRh := Lib.hid hR'
        have hbl := hR'.lt b hFb
        have hgl := hR'.lt g hR'.fg.1
        obtain ⟨L, hL⟩ : ∃ L, bs.length = L := ⟨_, rfl⟩
        obtain ⟨m, hm⟩ : ∃ m, qs'.length = m := ⟨_, rfl⟩
        have HLL := Lib.hid hL
        have HM := Lib.hid hm
        rw [hL] at d1 hmk hql hcap hat
        rw [hm] at c0 hlt' hc1 hR hG H0 HKF
        obtain ⟨kk, hkk⟩ : ∃ k : Nat, (if i < keep.length then brn (keep.getD i 0) (L - mk + 1) else 0) = k := ⟨_, rfl⟩
        have hkb : kk ≤ L - mk := by
          have h1 := brn_lt (keep.getD i 0) (L - mk + 1) (by omega)
          split at hkk <;> omega
        have HKK := Lib.hid hkk
        clear hcell hcl hi hq hqf hL hm hkk hRF hR'
        have hb0 := (Below.refl wr.heap.size wr).alloc (Nat.le_refl _) (.cells #[.string nm, .slice qA L qc, .int .i64 (mk : Int)] 97)
        have hx := heap_alloc_new wr (.cells #[.string nm, .slice qA L qc, .int .i64 (mk : Int)] 97)
        have x1 : (wr.alloc (.cells #[.string nm, .slice qA L qc, .int .i64 (mk : Int)] 97)).cell? ⟨wr.heap.size, 1, none⟩ = some (.slice qA L qc) := cell_of_row _ wr.heap.size 1 _ _ (0, 0) hx
        have x2 : (wr.alloc (.cells #[.string nm, .slice qA L qc, .int .i64 (mk : Int)] 97)).cell? ⟨wr.heap.size, 2, none⟩ = some (.int .i64 (mk : Int)) := cell_of_row _ wr.heap.size 2 _ _ (0, 0) hx
        by_cases hin : i < n
        · have hki : i < keep.length := by omega
          obtain ⟨kb, ko, rfl, hkc⟩ := HK.out.2 (by omega)
          have hke := hkc i hki
          have hkF := HKF.out _ rfl
          have hke2 := (World.cell?_of_block (a := ⟨kb, ko + i, none⟩) (hG.out.block kb hkF.1 hkF.2.2)).trans hke
          have hke3 := (hb0.cell (p := ⟨kb, ko + i, none⟩) (World.block_lt_of_cell? _ _ hke2)).trans hke2
          obtain ⟨z, hz⟩ : ∃ z, keep[i] = z := ⟨_, rfl⟩
          rw [hz] at hke3
          have hkz : (kk : Int) = z % ((L : Int) - (mk : Int) + 1) := by
            have h1 := HKK.out
            rw [if_pos hki, List.getD_eq_getElem?_getD, List.getElem?_eq_getElem hki, Option.getD_some, hz] at h1
            unfold brn at h1
            rw [if_neg (by omega)] at h1
            have h3 := Int.emod_nonneg z (b := ((L - mk + 1 : Nat) : Int)) (by omega)
            rw [show (L : Int) - (mk : Int) + 1 = ((L - mk + 1 : Nat) : Int) by omega]
            omega
          have hw1 : IntKind.i64.wrap ((L : Int) - (mk : Int)) = (L : Int) - (mk : Int) := IntWalk.i64_in _ (by omega)
          have hw2 : IntKind.i64.wrap ((L : Int) - (mk : Int) + 1) = (L : Int) - (mk : Int) + 1 := IntWalk.i64_in _ (by omega)
          have BR := Lib.hid (fun V => by have h := bring z ((L : Int) - (mk : Int) + 1) V (by omega) (by omega); rw [← hkz] at h; exact h)
          obtain ⟨m2, hm2⟩ : ∃ x, mk + kk = x := ⟨_, rfl⟩
          have hw3 : IntKind.i64.wrap ((mk : Int) + (kk : Int)) = (m2 : Int) := by rw [← hm2]; exact IntWalk.i64_in _ (by omega)
          have HM2 := Lib.hid hm2
          have hm2b : m2 ≤ L := by omega
          have hinI : (i : Int) < (n : Int) := by omega
          clear hke hke2 hkF hkc hz hkz hm2
          go_wp2_with fail
          go_quiet ((go_at_call 22; exact Calls.quiet_of_same ((BR.out _).mono (fun _ _ hh => ⟨hh.1, hh.2.symm⟩))))
          have hMb : m2 ≤ L := by omega
          have hM0 : (0 : Int) ≤ (m2 : Int) := by omega
          have hRx := hR.out.grow ((Below.refl wr.heap.size wr).alloc (Nat.le_refl _) (.cells #[.string nm, .slice qA L qc, .int .i64 (mk : Int)] 97))
          rw [nF_trans hG.out.size (by simp)] at hRx
          have hR0 : RDkB ((wr.alloc (.cells #[.string nm, .slice qA L qc, .int .i64 (mk : Int)] 97)).drewN nq) g { D with l := fallTo keep i D.l } (nF F w ((wr.alloc (.cells #[.string nm, .slice qA L qc, .int .i64 (mk : Int)] 97)).drewN nq)) (nF Fb' wr ((wr.alloc (.cells #[.string nm, .slice qA L qc, .int .i64 (mk : Int)] 97)).drewN nq)) (.slice (some ⟨b, 0, none⟩) m vc) KA kn kc qs' := hRx.below (by first | exact Below.refl _ _ | exact below_drewN (Below.refl _ _) _)
          have hG0 : Grow (fun k => (Value.slice (some ⟨b, 0, none⟩) m vc).ownBlock = some k) w ((wr.alloc (.cells #[.string nm, .slice qA L qc, .int .i64 (mk : Int)] 97)).drewN nq) := hG.out.trans (Grow.of_below (by first | exact hb0 | exact below_drewN hb0 _))
          have hat0 : At ((wr.alloc (.cells #[.string nm, .slice qA L qc, .int .i64 (mk : Int)] 97)).drewN nq) qA L bs := hat.alloc _
          have hS0 : S3 g wr.heap.size (.slice (some ⟨b, 0, none⟩) m vc) (.slice qA L qc) (.int .i64 (mk : Int)) ((wr.alloc (.cells #[.string nm, .slice qA L qc, .int .i64 (mk : Int)] 97)).drewN nq) := ⟨hR0.c0, x1, x2⟩
          have hqg : wr.heap.size ≠ g := by omega
          have hqb : wr.heap.size ≠ b := by omega
          have hNB := Lib.hid hnb
          clear hRx x1 x2 hx hb0 hG hR hat d0 d1 d2 c0 hRh hnb hFb
          generalize wr.heap.size = q at hS0 hqg hqb ⊢
          generalize (wr.alloc (.cells #[.string nm, .slice qA L qc, .int .i64 (mk : Int)] 97)).drewN nq = W1 at hR0 hG0 hat0 hS0 ⊢
          have hSL := fun W : World => by simpa using slb_h qA L qc .i64 (m2 : Int) W (by omega) (by omega)
          have hSd : S3 g q (.slice (some ⟨b, 0, none⟩) m vc) (.slice qA L qc) (.int .i64 (mk : Int)) W1.drew := hS0
          obtain ⟨bt, hbt⟩ : ∃ x, bs.take m2 = x := ⟨_, rfl⟩
          have hTL : bt.length = m2 := by rw [← hbt, List.length_take, HLL.out]; omega
          have HTL := Lib.hid hTL
          have HBT := Lib.hid hbt
          have CB := Lib.hid (copyB qA m2 qc bt W1.drew (by have h := hat0.cut (l := 0) (k := m2) (m := qc) (by omega) hMb (by omega); rw [cutA_zero] at h; simp at h; rw [hbt] at h; exact h) (by omega))
          clear hTL hbt
          have hw5 : IntKind.i64.wrap (mk : Int) = (mk : Int) := IntWalk.i64_in _ (by omega)
          have HMM := Lib.hid (show mk ≤ m2 by first | exact Nat.le_refl _ | (have := HM2.out; omega))
          have hw6 : IntKind.i64.wrap ((mk : Int) + 0) = (mk : Int) := by rw [Int.add_zero]; exact hw5
          have HR0 := Lib.hid hR0
          have HG0 := Lib.hid hG0
          clear hR0 hG0 hat0 hS0
          have hiI : (i : Int) < (m : Int) := by omega
          have hiI0 : (0 : Int) ≤ (i : Int) := by omega
          go_wp2_with fail
          go_region_held3 (fun V => S3 g q (.slice (some ⟨b, 0, none⟩) m vc) (.slice qA L qc) (.int .i64 (mk : Int)) V)
            (first | with_reducible assumption | with_reducible exact hSd | (with_reducible refine S3.far ?_ ?_ ?_ <;> with_reducible assumption))
            (first
              | (go_at_call 11; refine CB.out.mono ?_; rintro e w3 ⟨A1, c1, rfl, hat1, hc1b, hc1m, hin1, hb3⟩; have hS3 := hSd.below hb3; have hR3 := HR0.out.grow ((Below.refl _ _).drew.trans hb3); obtain ⟨⟨ou, hou⟩, hofz⟩ := hR3.wr (i := i) (j := 1) (by have := HM.out; omega) (by omega)))
          all_goals
            have hi' : i < qs'.length := by rw [HM.out]; exact hlt'
            have hfl : i < (fallTo keep i D.l).length := by rw [fallTo_len]; exact hil
            have hfe : (fallTo keep i D.l)[i] = ⟨nm, bs, mk⟩ := by rw [fallTo_get keep i D.l hil, ← HQF.out]
            have hok1 : ({ D with l := (fallTo keep i D.l).set i ⟨nm, bt, mk⟩ } : Dk).ok := ok_set (D := { D with l := fallTo keep i D.l }) hR3.ok hfl (by show nm = (fallTo keep i D.l)[i].name; rw [hfe]) (by show mk ≤ bt.length; rw [HTL.out]; exact HMM.out) (by have h := hR3.ok.sum; show sum (fallTo keep i D.l) + bt.length ≤ _ + ((fallTo keep i D.l)[i]).bs.length; rw [hfe, HTL.out]; show _ ≤ _ + bs.length; rw [HLL.out]; have h : sum (fallTo keep i D.l) ≤ 4194304 := h; omega)
            have hR4 := hR3.store (i := i) (j := 1) hi' (by omega) (u := .slice A1 m2 c1) (q := ⟨⟨nm, bt, mk⟩, A1, c1⟩) (by rw [HQ.out]; simp only [Fv.vals]; rw [HTL.out]; rfl) ⟨by show At w3 A1 bt.length bt; rw [HTL.out]; exact hat1, by show bt.length ≤ c1; rw [HTL.out]; exact hc1b, hc1m, fun a e => .inr (hin1 a e)⟩ hok1
            have hS4 := S3.far (j := i * 3 + 1) (u := .slice A1 m2 c1) hS3 hgb hqb
            have hG4 : Grow (fun k => (Value.slice (some ⟨b, 0, none⟩) m vc).ownBlock = some k) w (w3.setCell ⟨b, i * 3 + 1, none⟩ (.slice A1 m2 c1)) := (HG0.out.trans (Grow.of_below ((Below.refl _ _).drew.trans hb3))).set (p := ⟨b, i * 3 + 1, none⟩) (.inl rfl) _
            have hz4 : nF (nF F w W1) W1 w3 = nF F w (w3.setCell ⟨b, i * 3 + 1, none⟩ (.slice A1 m2 c1)) := by
              rw [nF_trans HG0.out.size (Nat.le_trans ((Below.refl W1.heap.size W1).drew).size hb3.size)]
              unfold nF
              rw [set_size]
            rw [hz4] at hR4
            have hok2 : ({ D with l := ((fallTo keep i D.l).set i ⟨nm, bt, mk⟩).set i ⟨nm, bt, m2⟩ } : Dk).ok := ok_set (D := { D with l := (fallTo keep i D.l).set i ⟨nm, bt, mk⟩ }) hok1 (by simpa using hfl) (by show nm = (((fallTo keep i D.l).set i ⟨nm, bt, mk⟩)[i]'(by simpa using hfl)).name; rw [List.getElem_set_self]) (by show m2 ≤ bt.length; rw [HTL.out]; omega) (by have h : sum ((fallTo keep i D.l).set i ⟨nm, bt, mk⟩) ≤ 4194304 := hok1.sum; show sum ((fallTo keep i D.l).set i ⟨nm, bt, mk⟩) + bt.length ≤ _ + (((fallTo keep i D.l).set i ⟨nm, bt, mk⟩)[i]'(by simpa using hfl)).bs.length; rw [List.getElem_set_self]; show _ ≤ _ + bt.length; omega)
            have hfin : ((fallTo keep i D.l).set i ⟨nm, bt, mk⟩).set i ⟨nm, bt, m2⟩ = fallTo keep (i + 1) D.l := by
              rw [List.set_set, fallTo_succ keep i D.l hil, ← HQF.out]
              congr 1
              unfold fallF
              have h1 := HKK.out
              rw [← HLL.out] at h1
              simp only
              rw [h1, HM2.out, HBT.out]
            rw [hfin] at hok2
            have H4 := Lib.hid hR4
            have HG4 := Lib.hid hG4
            have HFIN := Lib.hid hfin
            have HOK2 := Lib.hid hok2
            obtain ⟨⟨ou2, hou2⟩, hofz2⟩ := hR4.wr (i := i) (j := 2) (by rw [List.length_set]; exact hi') (by omega)
            have hi2 : i < (qs'.set i ⟨⟨nm, bt, mk⟩, A1, c1⟩).length := by rw [List.length_set]; exact hi'
            have HI2 := Lib.hid hi2
            clear hR4 hG4 hok1 hok2 hfin hfe hfl hi' hz4 hS3 hR3 hou hofz hat1 hc1b hc1m hin1 hb3 hSd hi2
            generalize w3.setCell ⟨b, i * 3 + 1, none⟩ (.slice A1 m2 c1) = W4 at hS4 H4 HG4 hou2 hofz2 ⊢
            have hSe : S3 g q (.slice (some ⟨b, 0, none⟩) m vc) (.slice qA L qc) (.int .i64 (mk : Int)) W4.drew := hS4
            have hSf : S3 g q (.slice (some ⟨b, 0, none⟩) m vc) (.slice qA L qc) (.int .i64 (mk : Int)) (W4.setCell ⟨b, i * 3 + 2, none⟩ (.int .i64 (m2 : Int))).drew := S3.far (V := W4) hS4 hgb hqb
            go_wp2_with fail
            go_region_held3 (fun V => S3 g q (.slice (some ⟨b, 0, none⟩) m vc) (.slice qA L qc) (.int .i64 (mk : Int)) V)
              (first | with_reducible assumption | with_reducible exact hSe | with_reducible exact hSf) (fail)
            all_goals
              have hR5 := H4.out.store (i := i) (j := 2) HI2.out (by omega) (u := .int .i64 (m2 : Int)) (q := ⟨⟨nm, bt, m2⟩, A1, c1⟩) (by rw [List.getElem_set_self]; rfl) (by have h := H4.out.list.each _ (List.getElem_mem HI2.out); rw [List.getElem_set_self] at h; exact ⟨h.at_, h.cap, h.capm, h.inF⟩) (by show ({ D with l := ((fallTo keep i D.l).set i ⟨nm, bt, mk⟩).set i ⟨nm, bt, m2⟩ } : Dk).ok; rw [HFIN.out]; exact HOK2.out)
              rw [HFIN.out] at hR5
              have hR6 := hR5.below (Below.refl _ _).drew
              rw [← nF_set F w W4 ⟨b, i * 3 + 2, none⟩ (.int .i64 (m2 : Int))] at hR6
              have hG5 := (HG4.out.set (p := ⟨b, i * 3 + 2, none⟩) (.inl rfl) (.int .i64 (m2 : Int))).drewN 1
              rw [← HM.out] at hR6 hG5
              go_wp2_with fail
              go_roundw
              case rel => exact ⟨i + 1, _, _, by omega, by go_num, Lib.hid hR6, Lib.hid hG5⟩
              case measure => simp [intOf]; omega
        · have hkz : kk = 0 := by rw [← HKK.out, if_neg (by omega)]
          clear hkb
          go_wp2_with fail
          have hMb : mk ≤ L := by omega
          have hM0 : (0 : Int) ≤ (mk : Int) := by omega
          have hRx := hR.out.grow ((Below.refl wr.heap.size wr).alloc (Nat.le_refl _) (.cells #[.string nm, .slice qA L qc, .int .i64 (mk : Int)] 97))
          rw [nF_trans hG.out.size (by simp)] at hRx
          have hR0 : RDkB (wr.alloc (.cells #[.string nm, .slice qA L qc, .int .i64 (mk : Int)] 97)) g { D with l := fallTo keep i D.l } (nF F w (wr.alloc (.cells #[.string nm, .slice qA L qc, .int .i64 (mk : Int)] 97))) (nF Fb' wr (wr.alloc (.cells #[.string nm, .slice qA L qc, .int .i64 (mk : Int)] 97))) (.slice (some ⟨b, 0, none⟩) m vc) KA kn kc qs' := hRx.below (by first | exact Below.refl _ _ | exact below_drewN (Below.refl _ _) _)
          have hG0 : Grow (fun k => (Value.slice (some ⟨b, 0, none⟩) m vc).ownBlock = some k) w (wr.alloc (.cells #[.string nm, .slice qA L qc, .int .i64 (mk : Int)] 97)) := hG.out.trans (Grow.of_below (by first | exact hb0 | exact below_drewN hb0 _))
          have hat0 : At (wr.alloc (.cells #[.string nm, .slice qA L qc, .int .i64 (mk : Int)] 97)) qA L bs := hat.alloc _
          have hS0 : S3 g wr.heap.size (.slice (some ⟨b, 0, none⟩) m vc) (.slice qA L qc) (.int .i64 (mk : Int)) (wr.alloc (.cells #[.string nm, .slice qA L qc, .int .i64 (mk : Int)] 97)) := ⟨hR0.c0, x1, x2⟩
          have hqg : wr.heap.size ≠ g := by omega
          have hqb : wr.heap.size ≠ b := by omega
          have hNB := Lib.hid hnb
          clear hRx x1 x2 hx hb0 hG hR hat d0 d1 d2 c0 hRh hnb hFb
          generalize wr.heap.size = q at hS0 hqg hqb ⊢
          generalize wr.alloc (.cells #[.string nm, .slice qA L qc, .int .i64 (mk : Int)] 97) = W1 at hR0 hG0 hat0 hS0 ⊢
          have hSL := fun W : World => by simpa using slb_h qA L qc .i64 (mk : Int) W (by omega) (by omega)
          have hSd : S3 g q (.slice (some ⟨b, 0, none⟩) m vc) (.slice qA L qc) (.int .i64 (mk : Int)) W1.drew := hS0
          obtain ⟨bt, hbt⟩ : ∃ x, bs.take mk = x := ⟨_, rfl⟩
          have hTL : bt.length = mk := by rw [← hbt, List.length_take, HLL.out]; omega
          have HTL := Lib.hid hTL
          have HBT := Lib.hid hbt
          have CB := Lib.hid (copyB qA mk qc bt W1.drew (by have h := hat0.cut (l := 0) (k := mk) (m := qc) (by omega) hMb (by omega); rw [cutA_zero] at h; simp at h; rw [hbt] at h; exact h) (by omega))
          clear hTL hbt
          have hw5 : IntKind.i64.wrap (mk : Int) = (mk : Int) := IntWalk.i64_in _ (by omega)
          have HMM := Lib.hid (show mk ≤ mk by first | exact Nat.le_refl _ | (have := HM2.out; omega))
          have hw6 : IntKind.i64.wrap ((mk : Int) + 0) = (mk : Int) := by rw [Int.add_zero]; exact hw5
          have HR0 := Lib.hid hR0
          have HG0 := Lib.hid hG0
          clear hR0 hG0 hat0 hS0
          have hiI : (i : Int) < (m : Int) := by omega
          have hiI0 : (0 : Int) ≤ (i : Int) := by omega
          go_wp2_with fail
          go_region_held3 (fun V => S3 g q (.slice (some ⟨b, 0, none⟩) m vc) (.slice qA L qc) (.int .i64 (mk : Int)) V)
            (first | with_reducible assumption | with_reducible exact hSd | (with_reducible refine S3.far ?_ ?_ ?_ <;> with_reducible assumption))
            (first
              | (go_at_call 11; refine CB.out.mono ?_; rintro e w3 ⟨A1, c1, rfl, hat1, hc1b, hc1m, hin1, hb3⟩; have hS3 := hSd.below hb3; have hR3 := HR0.out.grow ((Below.refl _ _).drew.trans hb3); obtain ⟨⟨ou, hou⟩, hofz⟩ := hR3.wr (i := i) (j := 1) (by have := HM.out; omega) (by omega)))
          all_goals
            have hi' : i < qs'.length := by rw [HM.out]; exact hlt'
            have hfl : i < (fallTo keep i D.l).length := by rw [fallTo_len]; exact hil
            have hfe : (fallTo keep i D.l)[i] = ⟨nm, bs, mk⟩ := by rw [fallTo_get keep i D.l hil, ← HQF.out]
            have hok1 : ({ D with l := (fallTo keep i D.l).set i ⟨nm, bt, mk⟩ } : Dk).ok := ok_set (D := { D with l := fallTo keep i D.l }) hR3.ok hfl (by show nm = (fallTo keep i D.l)[i].name; rw [hfe]) (by show mk ≤ bt.length; rw [HTL.out]; exact HMM.out) (by have h := hR3.ok.sum; show sum (fallTo keep i D.l) + bt.length ≤ _ + ((fallTo keep i D.l)[i]).bs.length; rw [hfe, HTL.out]; show _ ≤ _ + bs.length; rw [HLL.out]; have h : sum (fallTo keep i D.l) ≤ 4194304 := h; omega)
            have hR4 := hR3.store (i := i) (j := 1) hi' (by omega) (u := .slice A1 mk c1) (q := ⟨⟨nm, bt, mk⟩, A1, c1⟩) (by rw [HQ.out]; simp only [Fv.vals]; rw [HTL.out]; rfl) ⟨by show At w3 A1 bt.length bt; rw [HTL.out]; exact hat1, by show bt.length ≤ c1; rw [HTL.out]; exact hc1b, hc1m, fun a e => .inr (hin1 a e)⟩ hok1
            have hS4 := S3.far (j := i * 3 + 1) (u := .slice A1 mk c1) hS3 hgb hqb
            have hG4 : Grow (fun k => (Value.slice (some ⟨b, 0, none⟩) m vc).ownBlock = some k) w (w3.setCell ⟨b, i * 3 + 1, none⟩ (.slice A1 mk c1)) := (HG0.out.trans (Grow.of_below ((Below.refl _ _).drew.trans hb3))).set (p := ⟨b, i * 3 + 1, none⟩) (.inl rfl) _
            have hz4 : nF (nF F w W1) W1 w3 = nF F w (w3.setCell ⟨b, i * 3 + 1, none⟩ (.slice A1 mk c1)) := by
              rw [nF_trans HG0.out.size (Nat.le_trans ((Below.refl W1.heap.size W1).drew).size hb3.size)]
              unfold nF
              rw [set_size]
            rw [hz4] at hR4
            have hok2 : ({ D with l := ((fallTo keep i D.l).set i ⟨nm, bt, mk⟩).set i ⟨nm, bt, mk⟩ } : Dk).ok := ok_set (D := { D with l := (fallTo keep i D.l).set i ⟨nm, bt, mk⟩ }) hok1 (by simpa using hfl) (by show nm = (((fallTo keep i D.l).set i ⟨nm, bt, mk⟩)[i]'(by simpa using hfl)).name; rw [List.getElem_set_self]) (by show mk ≤ bt.length; rw [HTL.out]; omega) (by have h : sum ((fallTo keep i D.l).set i ⟨nm, bt, mk⟩) ≤ 4194304 := hok1.sum; show sum ((fallTo keep i D.l).set i ⟨nm, bt, mk⟩) + bt.length ≤ _ + (((fallTo keep i D.l).set i ⟨nm, bt, mk⟩)[i]'(by simpa using hfl)).bs.length; rw [List.getElem_set_self]; show _ ≤ _ + bt.length; omega)
            have hfin : ((fallTo keep i D.l).set i ⟨nm, bt, mk⟩).set i ⟨nm, bt, mk⟩ = fallTo keep (i + 1) D.l := by
              rw [List.set_set, fallTo_succ keep i D.l hil, ← HQF.out]
              congr 1
              unfold fallF
              have h1 := HKK.out
              rw [← HLL.out] at h1
              simp only
              rw [h1, hkz, Nat.add_zero, HBT.out]
            rw [hfin] at hok2
            have H4 := Lib.hid hR4
            have HG4 := Lib.hid hG4
            have HFIN := Lib.hid hfin
            have HOK2 := Lib.hid hok2
            obtain ⟨⟨ou2, hou2⟩, hofz2⟩ := hR4.wr (i := i) (j := 2) (by rw [List.length_set]; exact hi') (by omega)
            have hi2 : i < (qs'.set i ⟨⟨nm, bt, mk⟩, A1, c1⟩).length := by rw [List.length_set]; exact hi'
            have HI2 := Lib.hid hi2
            clear hR4 hG4 hok1 hok2 hfin hfe hfl hi' hz4 hS3 hR3 hou hofz hat1 hc1b hc1m hin1 hb3 hSd hi2
            generalize w3.setCell ⟨b, i * 3 + 1, none⟩ (.slice A1 mk c1) = W4 at hS4 H4 HG4 hou2 hofz2 ⊢
            have hSe : S3 g q (.slice (some ⟨b, 0, none⟩) m vc) (.slice qA L qc) (.int .i64 (mk : Int)) W4.drew := hS4
            have hSf : S3 g q (.slice (some ⟨b, 0, none⟩) m vc) (.slice qA L qc) (.int .i64 (mk : Int)) (W4.setCell ⟨b, i * 3 + 2, none⟩ (.int .i64 (mk : Int))).drew := S3.far (V := W4) hS4 hgb hqb
            go_wp2_with fail
            go_region_held3 (fun V => S3 g q (.slice (some ⟨b, 0, none⟩) m vc) (.slice qA L qc) (.int .i64 (mk : Int)) V)
              (first | with_reducible assumption | with_reducible exact hSe | with_reducible exact hSf) (fail)
            all_goals
              have hR5 := H4.out.store (i := i) (j := 2) HI2.out (by omega) (u := .int .i64 (mk : Int)) (q := ⟨⟨nm, bt, mk⟩, A1, c1⟩) (by rw [List.getElem_set_self]; rfl) (by have h := H4.out.list.each _ (List.getElem_mem HI2.out); rw [List.getElem_set_self] at h; exact ⟨h.at_, h.cap, h.capm, h.inF⟩) (by show ({ D with l := ((fallTo keep i D.l).set i ⟨nm, bt, mk⟩).set i ⟨nm, bt, mk⟩ } : Dk).ok; rw [HFIN.out]; exact HOK2.out)
              rw [HFIN.out] at hR5
              have hR6 := hR5.below (Below.refl _ _).drew
              rw [← nF_set F w W4 ⟨b, i * 3 + 2, none⟩ (.int .i64 (mk : Int))] at hR6
              have hG5 := (HG4.out.set (p := ⟨b, i * 3 + 2, none⟩) (.inl rfl) (.int .i64 (mk : Int))).drewN 1
              rw [← HM.out] at hR6 hG5
              go_wp2_with fail
              go_roundw
              case rel => exact ⟨i + 1, _, _, by omega, by go_num, Lib.hid hR6, Lib.hid hG5⟩
              case measure => simp [intOf]; omega
      · have hii : i = qs.length := by omega
        have ef : fallTo keep i D.l = fall keep D.l := by rw [show i = D.l.length by omega]; exact fallTo_all _ _
        rw [ef] at hR'
        have hR2 := Lib.hid hR'
        obtain ⟨VA, vc, rfl, _, _, _, _⟩ := hR'.list.form
        have hge : qs'.length ≤ i := by have := HL.out; omega
        have y1 := hR'.c1
        have y2 := hR'.c2
        have z1 := hR'.fz 1
        have z2 := hR'.fz 2
        have HG := hG
        have hcr : crash D keep = ⟨fall keep D.l, true, -1, D.keep⟩ := by unfold crash; rw [hd]; rfl
        have HCR := Lib.hid hcr
        clear ef hii hR' hlt hR hG hcr
        go_wp2_with fail
        first | go_end0 | (refine bodyPost_ret (results_none rfl _ _ _) rfl ?_)
        refine ⟨rfl, ?_, ?_⟩
        · rw [HCR.out]
          have h1 := (hR2.out.setDead true).setLeft (-1) (by omega) (by omega)
          refine ⟨_, _, _, _, _, _, h1.mono (fun k e => ?_) (fun k e => h1.lt k ?_)⟩
          · unfold nF at *; rw [set_size, set_size]; exact e
          · unfold nF at *; rw [set_size, set_size] at e; exact e
        · have hF1 : F g := H0.out.fg.1
          exact ((HG.out.mono (G := F) (fun k e => (H0.out.list.own k e).1)).set (p := ⟨g, 1, none⟩) (.inl hF1) _).set (p := ⟨g, 2, none⟩) (.inl hF1) _
  · rw [hd] at c1
    have e : crash D keep = D := by unfold crash; rw [hd]; rfl
    go_enter Try.func40, Try.ntmps40
    go_wp2
    refine bodyPost_ret (results_none rfl _ _ _) rfl ?_
    exact ⟨rfl, by rw [e]; exact RDk.turn ⟨Fb, v, KA, kn, kc, qs, h⟩ (Below.refl _ _)⟩
end Go.Proofs.Ytkhalpajomammaa
