/-
  Layer 7: the document's disk: Crash.
  Layer 7: append of rows of files, parts of lists of files.
  Layer 7: the document's disk: with, without.
  Layer 7: the document's disk: without; what keeps a disk a disk.
  Layer 7: the document's disk: fails, New, Boot, Fail, Sync.
-/
import Derived.Test.YtamglegdgcehaaaGreatZ06
import Derived.Deep.CutRange
import Derived.Maps.AppendAt
set_option linter.unusedVariables false
namespace Go.Proofs.YtamglegdgcehaaaGreat
open Go.RowKit

theorem set_blk (V : World) (g i : Nat) (u : Value) {x : Nat} (hx : x ≠ g) : (V.setCell ⟨g, i, none⟩ u).heap[x]? = V.heap[x]? := by
  simp only [World.setCell, Array.getElem?_modify]
  rw [if_neg (fun e => hx e.symm)]
theorem set_size (V : World) (p : Addr) (u : Value) : (V.setCell p u).heap.size = V.heap.size := by
  rw [World.setCell]
  simp only [Array.size_modify]
theorem set_cell (V : World) {g i x j : Nat} (u : Value) (hx : x ≠ g) : (V.setCell ⟨g, i, none⟩ u).cell? ⟨x, j, none⟩ = V.cell? ⟨x, j, none⟩ := World.cell?_of_block (a := ⟨x, j, none⟩) (set_blk V g i u hx)

section
variable {V V' : World} {g : Nat} {D : Dk} {F Fb G : Nat → Prop} {v : Value} {A : Option Addr} {n c : Nat} {qs : List Fv}
/-- A field is written. -/
theorem RDkB.field (h : RDkB V g D F Fb v A n c qs) (i : Nat) (u : Value) {D' : Dk} {v' : Value} {A' : Option Addr} {n' c' : Nat} {qs' : List Fv}
    (hc : (#[v, .bool D.dead, .int .i64 D.left, .slice A n c] : Array Value).setIfInBounds i u = #[v', .bool D'.dead, .int .i64 D'.left, .slice A' n' c'])
    (he : qs'.map Fv.f = D'.l) (hl : RL V F Fb v' qs') (hk : IAt V A' n' D'.keep) (hkF : InF Fb A') (hkc : n' ≤ c' ∧ c' ≤ 9223372036854775807) (hv : v'.ownBlock ≠ some g) (ho : D'.ok) :
    RDkB (V.setCell ⟨g, i, none⟩ u) g D' F Fb v' A' n' c' qs' := by
  have hb : ∀ x, Fb x → (V.setCell ⟨g, i, none⟩ u).heap[x]? = V.heap[x]? := fun x hx => set_blk V g i u (fun e => h.fg.2.1 (e ▸ hx))
  refine ⟨?_, he, ⟨⟨hl.row.1, ?_⟩, hl.own, fun q hq => (hl.each q hq).on hb (fun _ e => e)⟩, hk.on hkF hb, hkF, hkc, ⟨h.fg.1, h.fg.2.1, hv⟩, h.sub, fun k e => by rw [set_size]; exact h.lt k e, ho⟩
  · have h1 := h.obj
    simp only [World.setCell, Array.getElem?_modify, if_true, h1, Option.map_some]
    rw [← hc]
    rfl
  · rcases hl.row.2 with hn | ⟨b, cap, cur, e, hb0, hg, r⟩
    · exact .inl hn
    · exact .inr ⟨b, cap, cur, e, hb0, (set_blk V g i u (fun e2 => hv (by rw [e, ← e2]; rfl))).trans hg, r⟩
theorem RDkB.setDead (h : RDkB V g D F Fb v A n c qs) (b : Bool) : RDkB (V.setCell ⟨g, 1, none⟩ (.bool b)) g { D with dead := b } F Fb v A n c qs :=
  h.field 1 _ rfl h.eq h.list h.keep h.keepF h.kcap h.fg.2.2 ⟨h.ok.sorted, h.ok.marks, h.ok.few, h.ok.sum, h.ok.low, h.ok.high⟩
theorem RDkB.setLeft (h : RDkB V g D F Fb v A n c qs) (x : Int) (h1 : -1 ≤ x) (h2 : x ≤ 9223372036854775807) : RDkB (V.setCell ⟨g, 2, none⟩ (.int .i64 x)) g { D with left := x } F Fb v A n c qs :=
  h.field 2 _ rfl h.eq h.list h.keep h.keepF h.kcap h.fg.2.2 ⟨h.ok.sorted, h.ok.marks, h.ok.few, h.ok.sum, h1, h2⟩
end

theorem RDkB.wr {V : World} {g : Nat} {D : Dk} {F Fb : Nat → Prop} {A : Option Addr} {n c : Nat} {qs : List Fv} {b m cap : Nat} (h : RDkB V g D F Fb (.slice (some ⟨b, 0, none⟩) m cap) A n c qs) {i j : Nat} (hi : i < qs.length) (hj : j < 3) :
    (∃ u, V.cell? ⟨b, i * 3 + j, none⟩ = some u) ∧ V.frozen? ⟨b, i * 3 + j, none⟩ = false := by
  have hm : m = qs.length := by
    obtain ⟨_, _, e, _⟩ := h.list.form
    injection e
  subst hm
  refine ⟨?_, h.list.row.frozenAt _⟩
  rw [h.list.row.cellAt _ (by omega), rows_get qs i j hi hj]
  exact ⟨_, List.getElem?_eq_getElem (by simp [Fv.vals]; omega)⟩
theorem copyB (A : Option Addr) (n c : Nat) (xs : List UInt8) (w : World) (hx : At w A n xs) (hn : n ≤ 225000000000000) :
    Calls Tryz.prog 62 #[.slice A n c] w fun e w' => ∃ A' c', e = .returned (.slice A' n c') ∧ At w' A' n xs ∧ n ≤ c' ∧ c' ≤ 9223372036854775807 ∧ InF (fun k => w.heap.size ≤ k ∧ k < w'.heap.size) A' ∧ Below w.heap.size w w' := by
  refine (copyBytes A n c xs w hx hn).mono ?_
  rintro e w' ⟨v, rfl, ho, hb⟩
  obtain ⟨A', c', rfl, hat, h1, h2, _⟩ := ho.form
  have hl := hx.1
  rw [hl] at hat h1 ⊢
  refine ⟨A', c', rfl, hat, h1, h2, fun a e => ?_, hb⟩
  subst e
  rcases ho.2 with ⟨e, _⟩ | ⟨g, cap, cur, e, hg, hh, _⟩
  · cases e
  · injection e with e _ _
    injection e with e
    subst e
    exact ⟨hg, (Array.getElem?_eq_some_iff.1 hh).1⟩
theorem nF_set (F : Nat → Prop) (w V : World) (p : Addr) (u : Value) : nF F w (V.setCell p u).drew = nF F w V := by
  show nF F w (V.setCell p u) = _
  unfold nF
  rw [set_size]
/-- The three cells that a region reads of a list's element that was copied out. -/
abbrev S3 (g q : Nat) (v x y : Value) (V : World) : Prop := V.cell? ⟨g, 0, none⟩ = some v ∧ V.cell? ⟨q, 1, none⟩ = some x ∧ V.cell? ⟨q, 2, none⟩ = some y
theorem S3.far {g q b j : Nat} {v x y u : Value} {V : World} (h : S3 g q v x y V) (hg : g ≠ b) (hq : q ≠ b) : S3 g q v x y (V.setCell ⟨b, j, none⟩ u) :=
  ⟨(set_cell V u hg).trans h.1, (set_cell V u hq).trans h.2.1, (set_cell V u hq).trans h.2.2⟩
theorem S3.below {g q : Nat} {v x y : Value} {V V' : World} (h : S3 g q v x y V) (hb : Below V.heap.size V V') : S3 g q v x y V' :=
  ⟨(hb.cell (World.block_lt_of_cell? V _ h.1)).trans h.1, (hb.cell (World.block_lt_of_cell? V _ h.2.1)).trans h.2.1, (hb.cell (World.block_lt_of_cell? V _ h.2.2)).trans h.2.2⟩

set_option maxRecDepth 100000 in
set_option maxHeartbeats 8000000 in
/-- Crash, of a disk whose parts are known; the numbers lie in no block that it writes. -/
theorem crash_b (w : World) (g : Nat) (D : Dk) (F Fb : Nat → Prop) (v : Value) (KA : Option Addr) (kn kc : Nat) (qs : List Fv) (A : Option Addr) (n c : Nat) (keep : List Int)
    (h : RDkB w g D F Fb v KA kn kc qs) (hK : IAt w A n keep) (hKF : InF (fun k => k < w.heap.size ∧ k ≠ g ∧ v.ownBlock ≠ some k) A) (hnc : n ≤ c) (hc : c ≤ 9223372036854775807) :
    Calls Tryz.prog 110 #[pt g, .slice A n c] w fun e w' => e = .returned (.tuple #[]) ∧ Turns RDk w g F (crash D keep) w' := by
  have c1 := h.c1
  cases hd : D.dead
  · rw [hd] at c1
    have hlen := h.len
    have hkl := hK.1
    have hlq := h.lt g h.fg.1
    have HO := Lib.hid h.ok
    have HK := Lib.hid hK
    have HKF := Lib.hid hKF
    have HF := Lib.hid h.lt
    have H0 := Lib.hid h
    go_enter Tryz.func110, Tryz.ntmps110
    go_wp2_with fail
    go_loopw [4, 5] (fun iv _ V => ∃ (i : Nat) (qs' : List Fv) (Fb' : Nat → Prop), i ≤ qs.length ∧ iv = .int .i64 i ∧ Hid (RDkB V g { D with l := fallTo keep i D.l } (nF F w V) Fb' v KA kn kc qs') ∧ Hid (Grow (fun k => v.ownBlock = some k) w V)) (fun iv _ _ => qs.length - (intOf iv).toNat)
    case atStart => exact ⟨0, qs, Fb, Nat.zero_le _, rfl, Lib.hid (by rw [fallTo_zero]; exact h.mono (fun k e => .inl e) (fun k e => e.elim (h.lt k) (fun e => e.2))), Lib.hid (Grow.refl _ _)⟩
    case round =>
      clear h hK hKF c1
      obtain ⟨i, qs', Fb', hi, rfl, hR, hG⟩ := hrel
      have hR' := hR.out
      have HL := Lib.hid (show qs'.length = qs.length by rw [hR'.len, fallTo_len, hlen])
      have c0 := hR'.c0
      by_cases hlt : i < qs.length
      · obtain ⟨VA, vc, rfl, hc1, hc2, _, hcell⟩ := hR'.list.form
        have hlt' : i < qs'.length := by rw [HL.out]; exact hlt
        obtain ⟨b, rfl, hFb, hnb, hcl⟩ := hcell (by omega)
        obtain ⟨d0, d1, d2⟩ := hcl i hlt'
        have hil : i < D.l.length := by omega
        have hqf : qs'[i].f = D.l[i] := by rw [← hR'.get hlt']; exact fallTo_get keep i D.l hil
        obtain ⟨nm, bs, mk, qA, qc, hq⟩ : ∃ a b c d e, qs'[i] = ⟨⟨a, b, c⟩, d, e⟩ := ⟨_, _, _, _, _, rfl⟩
        have hRF := hR'.list.each _ (List.getElem_mem hlt')
        rw [hq] at d0 d1 d2 hqf hRF
        have hmk : mk ≤ bs.length := by have h1 := HO.out.marks _ (List.getElem_mem hil); rw [← hqf] at h1; exact h1
        have hql : bs.length ≤ 4194304 := by
          have h1 := sum_take_succ D.l i hil
          have h2 := sum_take_le D.l (i + 1)
          have h3 := HO.out.sum
          rw [← hqf] at h1
          simp only at h1
          omega
        have hcap : bs.length ≤ qc := hRF.cap
        have hat : At wr qA bs.length bs := hRF.at_
        have HQ := Lib.hid hq
        have HQF := Lib.hid hqf
        have hgb : g ≠ b := fun e => hR'.fg.2.2 (by rw [e]; rfl)
        have hRh := Lib.hid hR'
        have hbl := hR'.lt b hFb
        have hgl := hR'.lt g hR'.fg.1
        obtain ⟨L, hL⟩ : ∃ L, bs.length = L := ⟨_, rfl⟩
        obtain ⟨m, hm⟩ : ∃ m, qs'.length = m := ⟨_, rfl⟩
        have HLL := Lib.hid hL
        have HM := Lib.hid hm
        rw [hL] at d1 hmk hql hcap hat
        rw [hm] at c0 hlt' hc1 hR hG H0 HKF
        obtain ⟨kk, hkk⟩ : ∃ k : Nat, (if i < keep.length then brn (keep.getD i 0) (L - mk + 1) else 0) = k := ⟨_, rfl⟩
        have hkb : kk ≤ L - mk := by
          have h1 := brn_lt (keep.getD i 0) (L - mk + 1) (by omega)
          split at hkk <;> omega
        have HKK := Lib.hid hkk
        clear hcell hcl hi hq hqf hL hm hkk hRF hR'
        have hb0 := (Below.refl wr.heap.size wr).alloc (Nat.le_refl _) (.cells #[.string nm, .slice qA L qc, .int .i64 (mk : Int)] 106)
        have hx := heap_alloc_new wr (.cells #[.string nm, .slice qA L qc, .int .i64 (mk : Int)] 106)
        have x1 : (wr.alloc (.cells #[.string nm, .slice qA L qc, .int .i64 (mk : Int)] 106)).cell? ⟨wr.heap.size, 1, none⟩ = some (.slice qA L qc) := cell_of_row _ wr.heap.size 1 _ _ (0, 0) hx
        have x2 : (wr.alloc (.cells #[.string nm, .slice qA L qc, .int .i64 (mk : Int)] 106)).cell? ⟨wr.heap.size, 2, none⟩ = some (.int .i64 (mk : Int)) := cell_of_row _ wr.heap.size 2 _ _ (0, 0) hx
        by_cases hin : i < n
        · have hki : i < keep.length := by omega
          obtain ⟨kb, ko, rfl, hkc⟩ := HK.out.2 (by omega)
          have hke := hkc i hki
          have hkF := HKF.out _ rfl
          have hke2 := (World.cell?_of_block (a := ⟨kb, ko + i, none⟩) (hG.out.block kb hkF.1 hkF.2.2)).trans hke
          have hke3 := (hb0.cell (p := ⟨kb, ko + i, none⟩) (World.block_lt_of_cell? _ _ hke2)).trans hke2
          obtain ⟨z, hz⟩ : ∃ z, keep[i] = z := ⟨_, rfl⟩
          rw [hz] at hke3
          have hkz : (kk : Int) = z % ((L : Int) - (mk : Int) + 1) := by
            have h1 := HKK.out
            rw [if_pos hki, List.getD_eq_getElem?_getD, List.getElem?_eq_getElem hki, Option.getD_some, hz] at h1
            unfold brn at h1
            rw [if_neg (by omega)] at h1
            have h3 := Int.emod_nonneg z (b := ((L - mk + 1 : Nat) : Int)) (by omega)
            rw [show (L : Int) - (mk : Int) + 1 = ((L - mk + 1 : Nat) : Int) by omega]
            omega
          have hw1 : IntKind.i64.wrap ((L : Int) - (mk : Int)) = (L : Int) - (mk : Int) := IntWalk.i64_in _ (by omega)
          have hw2 : IntKind.i64.wrap ((L : Int) - (mk : Int) + 1) = (L : Int) - (mk : Int) + 1 := IntWalk.i64_in _ (by omega)
          have BR := Lib.hid (fun V => by have h := bring z ((L : Int) - (mk : Int) + 1) V (by omega) (by omega); rw [← hkz] at h; exact h)
          obtain ⟨m2, hm2⟩ : ∃ x, mk + kk = x := ⟨_, rfl⟩
          have hw3 : IntKind.i64.wrap ((mk : Int) + (kk : Int)) = (m2 : Int) := by rw [← hm2]; exact IntWalk.i64_in _ (by omega)
          have HM2 := Lib.hid hm2
          have hm2b : m2 ≤ L := by omega
          have hinI : (i : Int) < (n : Int) := by omega
          clear hke hke2 hkF hkc hz hkz hm2
          go_wp2_with fail
          go_quiet ((go_at_call 20; exact Calls.quiet_of_same ((BR.out _).mono (fun _ _ hh => ⟨hh.1, hh.2.symm⟩))))
          have hMb : m2 ≤ L := by omega
          have hM0 : (0 : Int) ≤ (m2 : Int) := by omega
          have hRx := hR.out.grow ((Below.refl wr.heap.size wr).alloc (Nat.le_refl _) (.cells #[.string nm, .slice qA L qc, .int .i64 (mk : Int)] 106))
          rw [nF_trans hG.out.size (by simp)] at hRx
          have hR0 : RDkB ((wr.alloc (.cells #[.string nm, .slice qA L qc, .int .i64 (mk : Int)] 106)).drewN nq) g { D with l := fallTo keep i D.l } (nF F w ((wr.alloc (.cells #[.string nm, .slice qA L qc, .int .i64 (mk : Int)] 106)).drewN nq)) (nF Fb' wr ((wr.alloc (.cells #[.string nm, .slice qA L qc, .int .i64 (mk : Int)] 106)).drewN nq)) (.slice (some ⟨b, 0, none⟩) m vc) KA kn kc qs' := hRx.below (by first | exact Below.refl _ _ | exact below_drewN (Below.refl _ _) _)
          have hG0 : Grow (fun k => (Value.slice (some ⟨b, 0, none⟩) m vc).ownBlock = some k) w ((wr.alloc (.cells #[.string nm, .slice qA L qc, .int .i64 (mk : Int)] 106)).drewN nq) := hG.out.trans (Grow.of_below (by first | exact hb0 | exact below_drewN hb0 _))
          have hat0 : At ((wr.alloc (.cells #[.string nm, .slice qA L qc, .int .i64 (mk : Int)] 106)).drewN nq) qA L bs := hat.alloc _
          have hS0 : S3 g wr.heap.size (.slice (some ⟨b, 0, none⟩) m vc) (.slice qA L qc) (.int .i64 (mk : Int)) ((wr.alloc (.cells #[.string nm, .slice qA L qc, .int .i64 (mk : Int)] 106)).drewN nq) := ⟨hR0.c0, x1, x2⟩
          have hqg : wr.heap.size ≠ g := by omega
          have hqb : wr.heap.size ≠ b := by omega
          have hNB := Lib.hid hnb
          clear hRx x1 x2 hx hb0 hG hR hat d0 d1 d2 c0 hRh hnb hFb
          generalize wr.heap.size = q at hS0 hqg hqb ⊢
          generalize (wr.alloc (.cells #[.string nm, .slice qA L qc, .int .i64 (mk : Int)] 106)).drewN nq = W1 at hR0 hG0 hat0 hS0 ⊢
          have hSL := fun W : World => by simpa using slb_h qA L qc .i64 (m2 : Int) W (by omega) (by omega)
          have hSd : S3 g q (.slice (some ⟨b, 0, none⟩) m vc) (.slice qA L qc) (.int .i64 (mk : Int)) W1.drew := hS0
          obtain ⟨bt, hbt⟩ : ∃ x, bs.take m2 = x := ⟨_, rfl⟩
          have hTL : bt.length = m2 := by rw [← hbt, List.length_take, HLL.out]; omega
          have HTL := Lib.hid hTL
          have HBT := Lib.hid hbt
          have CB := Lib.hid (copyB qA m2 qc bt W1.drew (by have h := hat0.cut (l := 0) (k := m2) (m := qc) (by omega) hMb (by omega); rw [cutA_zero] at h; simp at h; rw [hbt] at h; exact h) (by omega))
          clear hTL hbt
          have hw5 : IntKind.i64.wrap (mk : Int) = (mk : Int) := IntWalk.i64_in _ (by omega)
          have HMM := Lib.hid (show mk ≤ m2 by first | exact Nat.le_refl _ | (have := HM2.out; omega))
          have hw6 : IntKind.i64.wrap ((mk : Int) + 0) = (mk : Int) := by rw [Int.add_zero]; exact hw5
          have HR0 := Lib.hid hR0
          have HG0 := Lib.hid hG0
          clear hR0 hG0 hat0 hS0
          have hiI : (i : Int) < (m : Int) := by omega
          have hiI0 : (0 : Int) ≤ (i : Int) := by omega
          go_wp2_with fail
          go_region_held3 (fun V => S3 g q (.slice (some ⟨b, 0, none⟩) m vc) (.slice qA L qc) (.int .i64 (mk : Int)) V)
            (first | with_reducible assumption | with_reducible exact hSd | (with_reducible refine S3.far ?_ ?_ ?_ <;> with_reducible assumption))
            (first
              | (go_at_call 62; refine CB.out.mono ?_; rintro e w3 ⟨A1, c1, rfl, hat1, hc1b, hc1m, hin1, hb3⟩; have hS3 := hSd.below hb3; have hR3 := HR0.out.grow ((Below.refl _ _).drew.trans hb3); obtain ⟨⟨ou, hou⟩, hofz⟩ := hR3.wr (i := i) (j := 1) (by have := HM.out; omega) (by omega)))
          all_goals
            have hi' : i < qs'.length := by rw [HM.out]; exact hlt'
            have hfl : i < (fallTo keep i D.l).length := by rw [fallTo_len]; exact hil
            have hfe : (fallTo keep i D.l)[i] = ⟨nm, bs, mk⟩ := by rw [fallTo_get keep i D.l hil, ← HQF.out]
            have hok1 : ({ D with l := (fallTo keep i D.l).set i ⟨nm, bt, mk⟩ } : Dk).ok := ok_set (D := { D with l := fallTo keep i D.l }) hR3.ok hfl (by show nm = (fallTo keep i D.l)[i].name; rw [hfe]) (by show mk ≤ bt.length; rw [HTL.out]; exact HMM.out) (by have h := hR3.ok.sum; show sum (fallTo keep i D.l) + bt.length ≤ _ + ((fallTo keep i D.l)[i]).bs.length; rw [hfe, HTL.out]; show _ ≤ _ + bs.length; rw [HLL.out]; have h : sum (fallTo keep i D.l) ≤ 4194304 := h; omega)
            have hR4 := hR3.store (i := i) (j := 1) hi' (by omega) (u := .slice A1 m2 c1) (q := ⟨⟨nm, bt, mk⟩, A1, c1⟩) (by rw [HQ.out]; simp only [Fv.vals]; rw [HTL.out]; rfl) ⟨by show At w3 A1 bt.length bt; rw [HTL.out]; exact hat1, by show bt.length ≤ c1; rw [HTL.out]; exact hc1b, hc1m, fun a e => .inr (hin1 a e)⟩ hok1
            have hS4 := S3.far (j := i * 3 + 1) (u := .slice A1 m2 c1) hS3 hgb hqb
            have hG4 : Grow (fun k => (Value.slice (some ⟨b, 0, none⟩) m vc).ownBlock = some k) w (w3.setCell ⟨b, i * 3 + 1, none⟩ (.slice A1 m2 c1)) := (HG0.out.trans (Grow.of_below ((Below.refl _ _).drew.trans hb3))).set (p := ⟨b, i * 3 + 1, none⟩) (.inl rfl) _
            have hz4 : nF (nF F w W1) W1 w3 = nF F w (w3.setCell ⟨b, i * 3 + 1, none⟩ (.slice A1 m2 c1)) := by
              rw [nF_trans HG0.out.size (Nat.le_trans ((Below.refl W1.heap.size W1).drew).size hb3.size)]
              unfold nF
              rw [set_size]
            rw [hz4] at hR4
            have hok2 : ({ D with l := ((fallTo keep i D.l).set i ⟨nm, bt, mk⟩).set i ⟨nm, bt, m2⟩ } : Dk).ok := ok_set (D := { D with l := (fallTo keep i D.l).set i ⟨nm, bt, mk⟩ }) hok1 (by simpa using hfl) (by show nm = (((fallTo keep i D.l).set i ⟨nm, bt, mk⟩)[i]'(by simpa using hfl)).name; rw [List.getElem_set_self]) (by show m2 ≤ bt.length; rw [HTL.out]; omega) (by have h : sum ((fallTo keep i D.l).set i ⟨nm, bt, mk⟩) ≤ 4194304 := hok1.sum; show sum ((fallTo keep i D.l).set i ⟨nm, bt, mk⟩) + bt.length ≤ _ + (((fallTo keep i D.l).set i ⟨nm, bt, mk⟩)[i]'(by simpa using hfl)).bs.length; rw [List.getElem_set_self]; show _ ≤ _ + bt.length; omega)
            have hfin : ((fallTo keep i D.l).set i ⟨nm, bt, mk⟩).set i ⟨nm, bt, m2⟩ = fallTo keep (i + 1) D.l := by
              rw [List.set_set, fallTo_succ keep i D.l hil, ← HQF.out]
              congr 1
              unfold fallF
              have h1 := HKK.out
              rw [← HLL.out] at h1
              simp only
              rw [h1, HM2.out, HBT.out]
            rw [hfin] at hok2
            have H4 := Lib.hid hR4
            have HG4 := Lib.hid hG4
            have HFIN := Lib.hid hfin
            have HOK2 := Lib.hid hok2
            obtain ⟨⟨ou2, hou2⟩, hofz2⟩ := hR4.wr (i := i) (j := 2) (by rw [List.length_set]; exact hi') (by omega)
            have hi2 : i < (qs'.set i ⟨⟨nm, bt, mk⟩, A1, c1⟩).length := by rw [List.length_set]; exact hi'
            have HI2 := Lib.hid hi2
            clear hR4 hG4 hok1 hok2 hfin hfe hfl hi' hz4 hS3 hR3 hou hofz hat1 hc1b hc1m hin1 hb3 hSd hi2
            generalize w3.setCell ⟨b, i * 3 + 1, none⟩ (.slice A1 m2 c1) = W4 at hS4 H4 HG4 hou2 hofz2 ⊢
            have hSe : S3 g q (.slice (some ⟨b, 0, none⟩) m vc) (.slice qA L qc) (.int .i64 (mk : Int)) W4.drew := hS4
            have hSf : S3 g q (.slice (some ⟨b, 0, none⟩) m vc) (.slice qA L qc) (.int .i64 (mk : Int)) (W4.setCell ⟨b, i * 3 + 2, none⟩ (.int .i64 (m2 : Int))).drew := S3.far (V := W4) hS4 hgb hqb
            go_wp2_with fail
            go_region_held3 (fun V => S3 g q (.slice (some ⟨b, 0, none⟩) m vc) (.slice qA L qc) (.int .i64 (mk : Int)) V)
              (first | with_reducible assumption | with_reducible exact hSe | with_reducible exact hSf) (fail)
            all_goals
              have hR5 := H4.out.store (i := i) (j := 2) HI2.out (by omega) (u := .int .i64 (m2 : Int)) (q := ⟨⟨nm, bt, m2⟩, A1, c1⟩) (by rw [List.getElem_set_self]; rfl) (by have h := H4.out.list.each _ (List.getElem_mem HI2.out); rw [List.getElem_set_self] at h; exact ⟨h.at_, h.cap, h.capm, h.inF⟩) (by show ({ D with l := ((fallTo keep i D.l).set i ⟨nm, bt, mk⟩).set i ⟨nm, bt, m2⟩ } : Dk).ok; rw [HFIN.out]; exact HOK2.out)
              rw [HFIN.out] at hR5
              have hR6 := hR5.below (Below.refl _ _).drew
              rw [← nF_set F w W4 ⟨b, i * 3 + 2, none⟩ (.int .i64 (m2 : Int))] at hR6
              have hG5 := (HG4.out.set (p := ⟨b, i * 3 + 2, none⟩) (.inl rfl) (.int .i64 (m2 : Int))).drewN 1
              rw [← HM.out] at hR6 hG5
              go_wp2_with fail
              go_roundw
              case rel => exact ⟨i + 1, _, _, by omega, by go_num, Lib.hid hR6, Lib.hid hG5⟩
              case measure => simp [intOf]; omega
        · have hkz : kk = 0 := by rw [← HKK.out, if_neg (by omega)]
          clear hkb
          go_wp2_with fail
          have hMb : mk ≤ L := by omega
          have hM0 : (0 : Int) ≤ (mk : Int) := by omega
          have hRx := hR.out.grow ((Below.refl wr.heap.size wr).alloc (Nat.le_refl _) (.cells #[.string nm, .slice qA L qc, .int .i64 (mk : Int)] 106))
          rw [nF_trans hG.out.size (by simp)] at hRx
          have hR0 : RDkB (wr.alloc (.cells #[.string nm, .slice qA L qc, .int .i64 (mk : Int)] 106)) g { D with l := fallTo keep i D.l } (nF F w (wr.alloc (.cells #[.string nm, .slice qA L qc, .int .i64 (mk : Int)] 106))) (nF Fb' wr (wr.alloc (.cells #[.string nm, .slice qA L qc, .int .i64 (mk : Int)] 106))) (.slice (some ⟨b, 0, none⟩) m vc) KA kn kc qs' := hRx.below (by first | exact Below.refl _ _ | exact below_drewN (Below.refl _ _) _)
          have hG0 : Grow (fun k => (Value.slice (some ⟨b, 0, none⟩) m vc).ownBlock = some k) w (wr.alloc (.cells #[.string nm, .slice qA L qc, .int .i64 (mk : Int)] 106)) := hG.out.trans (Grow.of_below (by first | exact hb0 | exact below_drewN hb0 _))
          have hat0 : At (wr.alloc (.cells #[.string nm, .slice qA L qc, .int .i64 (mk : Int)] 106)) qA L bs := hat.alloc _
          have hS0 : S3 g wr.heap.size (.slice (some ⟨b, 0, none⟩) m vc) (.slice qA L qc) (.int .i64 (mk : Int)) (wr.alloc (.cells #[.string nm, .slice qA L qc, .int .i64 (mk : Int)] 106)) := ⟨hR0.c0, x1, x2⟩
          have hqg : wr.heap.size ≠ g := by omega
          have hqb : wr.heap.size ≠ b := by omega
          have hNB := Lib.hid hnb
          clear hRx x1 x2 hx hb0 hG hR hat d0 d1 d2 c0 hRh hnb hFb
          generalize wr.heap.size = q at hS0 hqg hqb ⊢
          generalize wr.alloc (.cells #[.string nm, .slice qA L qc, .int .i64 (mk : Int)] 106) = W1 at hR0 hG0 hat0 hS0 ⊢
          have hSL := fun W : World => by simpa using slb_h qA L qc .i64 (mk : Int) W (by omega) (by omega)
          have hSd : S3 g q (.slice (some ⟨b, 0, none⟩) m vc) (.slice qA L qc) (.int .i64 (mk : Int)) W1.drew := hS0
          obtain ⟨bt, hbt⟩ : ∃ x, bs.take mk = x := ⟨_, rfl⟩
          have hTL : bt.length = mk := by rw [← hbt, List.length_take, HLL.out]; omega
          have HTL := Lib.hid hTL
          have HBT := Lib.hid hbt
          have CB := Lib.hid (copyB qA mk qc bt W1.drew (by have h := hat0.cut (l := 0) (k := mk) (m := qc) (by omega) hMb (by omega); rw [cutA_zero] at h; simp at h; rw [hbt] at h; exact h) (by omega))
          clear hTL hbt
          have hw5 : IntKind.i64.wrap (mk : Int) = (mk : Int) := IntWalk.i64_in _ (by omega)
          have HMM := Lib.hid (show mk ≤ mk by first | exact Nat.le_refl _ | (have := HM2.out; omega))
          have hw6 : IntKind.i64.wrap ((mk : Int) + 0) = (mk : Int) := by rw [Int.add_zero]; exact hw5
          have HR0 := Lib.hid hR0
          have HG0 := Lib.hid hG0
          clear hR0 hG0 hat0 hS0
          have hiI : (i : Int) < (m : Int) := by omega
          have hiI0 : (0 : Int) ≤ (i : Int) := by omega
          go_wp2_with fail
          go_region_held3 (fun V => S3 g q (.slice (some ⟨b, 0, none⟩) m vc) (.slice qA L qc) (.int .i64 (mk : Int)) V)
            (first | with_reducible assumption | with_reducible exact hSd | (with_reducible refine S3.far ?_ ?_ ?_ <;> with_reducible assumption))
            (first
              | (go_at_call 62; refine CB.out.mono ?_; rintro e w3 ⟨A1, c1, rfl, hat1, hc1b, hc1m, hin1, hb3⟩; have hS3 := hSd.below hb3; have hR3 := HR0.out.grow ((Below.refl _ _).drew.trans hb3); obtain ⟨⟨ou, hou⟩, hofz⟩ := hR3.wr (i := i) (j := 1) (by have := HM.out; omega) (by omega)))
          all_goals
            have hi' : i < qs'.length := by rw [HM.out]; exact hlt'
            have hfl : i < (fallTo keep i D.l).length := by rw [fallTo_len]; exact hil
            have hfe : (fallTo keep i D.l)[i] = ⟨nm, bs, mk⟩ := by rw [fallTo_get keep i D.l hil, ← HQF.out]
            have hok1 : ({ D with l := (fallTo keep i D.l).set i ⟨nm, bt, mk⟩ } : Dk).ok := ok_set (D := { D with l := fallTo keep i D.l }) hR3.ok hfl (by show nm = (fallTo keep i D.l)[i].name; rw [hfe]) (by show mk ≤ bt.length; rw [HTL.out]; exact HMM.out) (by have h := hR3.ok.sum; show sum (fallTo keep i D.l) + bt.length ≤ _ + ((fallTo keep i D.l)[i]).bs.length; rw [hfe, HTL.out]; show _ ≤ _ + bs.length; rw [HLL.out]; have h : sum (fallTo keep i D.l) ≤ 4194304 := h; omega)
            have hR4 := hR3.store (i := i) (j := 1) hi' (by omega) (u := .slice A1 mk c1) (q := ⟨⟨nm, bt, mk⟩, A1, c1⟩) (by rw [HQ.out]; simp only [Fv.vals]; rw [HTL.out]; rfl) ⟨by show At w3 A1 bt.length bt; rw [HTL.out]; exact hat1, by show bt.length ≤ c1; rw [HTL.out]; exact hc1b, hc1m, fun a e => .inr (hin1 a e)⟩ hok1
            have hS4 := S3.far (j := i * 3 + 1) (u := .slice A1 mk c1) hS3 hgb hqb
            have hG4 : Grow (fun k => (Value.slice (some ⟨b, 0, none⟩) m vc).ownBlock = some k) w (w3.setCell ⟨b, i * 3 + 1, none⟩ (.slice A1 mk c1)) := (HG0.out.trans (Grow.of_below ((Below.refl _ _).drew.trans hb3))).set (p := ⟨b, i * 3 + 1, none⟩) (.inl rfl) _
            have hz4 : nF (nF F w W1) W1 w3 = nF F w (w3.setCell ⟨b, i * 3 + 1, none⟩ (.slice A1 mk c1)) := by
              rw [nF_trans HG0.out.size (Nat.le_trans ((Below.refl W1.heap.size W1).drew).size hb3.size)]
              unfold nF
              rw [set_size]
            rw [hz4] at hR4
            have hok2 : ({ D with l := ((fallTo keep i D.l).set i ⟨nm, bt, mk⟩).set i ⟨nm, bt, mk⟩ } : Dk).ok := ok_set (D := { D with l := (fallTo keep i D.l).set i ⟨nm, bt, mk⟩ }) hok1 (by simpa using hfl) (by show nm = (((fallTo keep i D.l).set i ⟨nm, bt, mk⟩)[i]'(by simpa using hfl)).name; rw [List.getElem_set_self]) (by show mk ≤ bt.length; rw [HTL.out]; omega) (by have h : sum ((fallTo keep i D.l).set i ⟨nm, bt, mk⟩) ≤ 4194304 := hok1.sum; show sum ((fallTo keep i D.l).set i ⟨nm, bt, mk⟩) + bt.length ≤ _ + (((fallTo keep i D.l).set i ⟨nm, bt, mk⟩)[i]'(by simpa using hfl)).bs.length; rw [List.getElem_set_self]; show _ ≤ _ + bt.length; omega)
            have hfin : ((fallTo keep i D.l).set i ⟨nm, bt, mk⟩).set i ⟨nm, bt, mk⟩ = fallTo keep (i + 1) D.l := by
              rw [List.set_set, fallTo_succ keep i D.l hil, ← HQF.out]
              congr 1
              unfold fallF
              have h1 := HKK.out
              rw [← HLL.out] at h1
              simp only
              rw [h1, hkz, Nat.add_zero, HBT.out]
            rw [hfin] at hok2
            have H4 := Lib.hid hR4
            have HG4 := Lib.hid hG4
            have HFIN := Lib.hid hfin
            have HOK2 := Lib.hid hok2
            obtain ⟨⟨ou2, hou2⟩, hofz2⟩ := hR4.wr (i := i) (j := 2) (by rw [List.length_set]; exact hi') (by omega)
            have hi2 : i < (qs'.set i ⟨⟨nm, bt, mk⟩, A1, c1⟩).length := by rw [List.length_set]; exact hi'
            have HI2 := Lib.hid hi2
            clear hR4 hG4 hok1 hok2 hfin hfe hfl hi' hz4 hS3 hR3 hou hofz hat1 hc1b hc1m hin1 hb3 hSd hi2
            generalize w3.setCell ⟨b, i * 3 + 1, none⟩ (.slice A1 mk c1) = W4 at hS4 H4 HG4 hou2 hofz2 ⊢
            have hSe : S3 g q (.slice (some ⟨b, 0, none⟩) m vc) (.slice qA L qc) (.int .i64 (mk : Int)) W4.drew := hS4
            have hSf : S3 g q (.slice (some ⟨b, 0, none⟩) m vc) (.slice qA L qc) (.int .i64 (mk : Int)) (W4.setCell ⟨b, i * 3 + 2, none⟩ (.int .i64 (mk : Int))).drew := S3.far (V := W4) hS4 hgb hqb
            go_wp2_with fail
            go_region_held3 (fun V => S3 g q (.slice (some ⟨b, 0, none⟩) m vc) (.slice qA L qc) (.int .i64 (mk : Int)) V)
              (first | with_reducible assumption | with_reducible exact hSe | with_reducible exact hSf) (fail)
            all_goals
              have hR5 := H4.out.store (i := i) (j := 2) HI2.out (by omega) (u := .int .i64 (mk : Int)) (q := ⟨⟨nm, bt, mk⟩, A1, c1⟩) (by rw [List.getElem_set_self]; rfl) (by have h := H4.out.list.each _ (List.getElem_mem HI2.out); rw [List.getElem_set_self] at h; exact ⟨h.at_, h.cap, h.capm, h.inF⟩) (by show ({ D with l := ((fallTo keep i D.l).set i ⟨nm, bt, mk⟩).set i ⟨nm, bt, mk⟩ } : Dk).ok; rw [HFIN.out]; exact HOK2.out)
              rw [HFIN.out] at hR5
              have hR6 := hR5.below (Below.refl _ _).drew
              rw [← nF_set F w W4 ⟨b, i * 3 + 2, none⟩ (.int .i64 (mk : Int))] at hR6
              have hG5 := (HG4.out.set (p := ⟨b, i * 3 + 2, none⟩) (.inl rfl) (.int .i64 (mk : Int))).drewN 1
              rw [← HM.out] at hR6 hG5
              go_wp2_with fail
              go_roundw
              case rel => exact ⟨i + 1, _, _, by omega, by go_num, Lib.hid hR6, Lib.hid hG5⟩
              case measure => simp [intOf]; omega
      · have hii : i = qs.length := by omega
        have ef : fallTo keep i D.l = fall keep D.l := by rw [show i = D.l.length by omega]; exact fallTo_all _ _
        rw [ef] at hR'
        have hR2 := Lib.hid hR'
        obtain ⟨VA, vc, rfl, _, _, _, _⟩ := hR'.list.form
        have hge : qs'.length ≤ i := by have := HL.out; omega
        have y1 := hR'.c1
        have y2 := hR'.c2
        have z1 := hR'.fz 1
        have z2 := hR'.fz 2
        have HG := hG
        have hcr : crash D keep = ⟨fall keep D.l, true, -1, D.keep⟩ := by unfold crash; rw [hd]; rfl
        have HCR := Lib.hid hcr
        clear ef hii hR' hlt hR hG hcr
        go_wp2_with fail
        first | go_end0 | (refine bodyPost_ret (results_none rfl _ _ _) rfl ?_)
        refine ⟨rfl, ?_, ?_⟩
        · rw [HCR.out]
          have h1 := (hR2.out.setDead true).setLeft (-1) (by omega) (by omega)
          refine ⟨_, _, _, _, _, _, h1.mono (fun k e => ?_) (fun k e => h1.lt k ?_)⟩
          · unfold nF at *; rw [set_size, set_size]; exact e
          · unfold nF at *; rw [set_size, set_size] at e; exact e
        · have hF1 : F g := H0.out.fg.1
          exact ((HG.out.mono (G := F) (fun k e => (H0.out.list.own k e).1)).set (p := ⟨g, 1, none⟩) (.inl hF1) _).set (p := ⟨g, 2, none⟩) (.inl hF1) _
  · rw [hd] at c1
    have e : crash D keep = D := by unfold crash; rw [hd]; rfl
    go_enter Tryz.func110, Tryz.ntmps110
    go_wp2
    refine bodyPost_ret (results_none rfl _ _ _) rfl ?_
    exact ⟨rfl, by rw [e]; exact RDk.turn ⟨Fb, v, KA, kn, kc, qs, h⟩ (Below.refl _ _)⟩
end Go.Proofs.YtamglegdgcehaaaGreat
set_option linter.unusedVariables false
namespace Go.Proofs.YtamglegdgcehaaaGreat
open Go.RowKit

/-- 'append(v, x...)', v the call's own, what is appended lies anywhere, or is nothing. -/
theorem wpList_appV {P : Program} {w : World} {ops : Array Oper} {rest : List Oper} {o : Oper} {a : Act} {Q : Exit → Act → World → Prop} (hgd : o.guard = none) (s x : Operand) (t : TypeId)
    (ho : o.op = .call { callee := .builtin .append, args := #[s, x], argTypes := #[t, t] })
    (base : Nat) (e : TypeId) (i : TypeInfo) (z : Value) (size bytes : Nat) (ht : P.underlying t = some (.slice e)) (hi : P.info? e = some i) (hz : i.zero = some z)
    (hsize : i.size = size) (hby : i.bytes = bytes) (hzs : z.cells.size = size) (hsz : 0 < size)
    (v : Value) (n : Nat) (xs : List Value) (hs : a.eval s = v) (hown : w.ownsRow base e size v n xs)
    (A : Option Addr) (m c : Nat) (news : List Value) (hx : a.eval x = .slice A m c) (hl : news.length = m * size)
    (hnews : 0 < m → ∃ b o, A = some ⟨b, o, none⟩ ∧ ∀ j u, news[j]? = some u → w.cell? ⟨b, o + j, none⟩ = some u) (h1 : ∀ u ∈ news, u.oneCell' = true)
    (h63 : n + m ≤ maxLen) (hbytes : (n + m) * bytes ≤ 140737488355328) (hbase : base ≤ w.heap.size)
    (h : ∀ v' w', w'.ownsRow base e size v' (n + m) (xs ++ news) → w.grownBy w' v.ownBlock → wpList P ops Q rest (a.put o.dst v') w') :
    wpList P ops Q (o :: rest) a w := by
  rcases Nat.eq_zero_or_pos m with hm | hm
  · subst hm
    obtain rfl : news = [] := List.eq_nil_of_length_eq_zero (by simpa using hl)
    cases A with
    | none =>
      refine wpList_plain hgd fun K hK => ?_
      have hrun := run_append_none (P := P) w base t o.type e i size ht hi v n _ hown c
      unfold Oper.wp execOp
      simp only [ho, resolve, invoke, builtin, Sem.run_bind, Sem.run_pure, Result.andThen_ok, List.map_toArray, List.map_cons, List.map_nil, hs, hx, hrun]
      exact hK _ _ (h v w (by simpa using hown) (World.grownBy.refl w _))
    | some ad =>
      exact wpList_append_own w hgd s x t ho base e i z size bytes ht hi hz hsize hby hzs hsz v n xs hs hown ad 0 c [] hx (by simp) (fun j u hj => by simp at hj) h1 h63 hbytes hbase (fun v' w' g1 g2 _ => h v' w' g1 g2)
  · obtain ⟨b, o', rfl, hc⟩ := hnews hm
    exact wpList_append_own w hgd s x t ho base e i z size bytes ht hi hz hsize hby hzs hsz v n xs hs hown ⟨b, o', none⟩ m c news hx hl (fun j u hj => by rw [Go.WideShapes.add_plain]; exact hc j u hj) h1 h63 hbytes hbase (fun v' w' g1 g2 _ => h v' w' g1 g2)

theorem infoF : ∃ z, (Tryz.prog.info? 106).map (fun i => (i.zero, i.size, i.bytes)) = some (some z, 3, 48) ∧ z.cells.size = 3 := ⟨.agg #[.string ByteArray.empty, .slice none 0 0, .int .i64 0], by kernel_rfl, by kernel_rfl⟩
theorem rows_one (qs : List Fv) : ∀ u ∈ rows qs, u.oneCell' = true := by
  intro u hu
  unfold rows at hu
  obtain ⟨q, _, hq⟩ := List.mem_flatMap.1 hu
  simp only [Fv.vals, List.mem_cons, List.not_mem_nil, or_false] at hq
  rcases hq with rfl | rfl | rfl <;> rfl

/-- A part of a list of files: it reads as a part of the rows. -/
def RowsAt (w : World) (A : Option Addr) (n : Nat) (ps : List Fv) : Prop := ps.length = n ∧ (0 < n → ∃ b o, A = some ⟨b, o, none⟩ ∧ ∀ j u, (rows ps)[j]? = some u → w.cell? ⟨b, o + j, none⟩ = some u)
theorem RowsAt.below {w w' : World} {A : Option Addr} {n : Nat} {ps : List Fv} (h : RowsAt w A n ps) (hb : Below w.heap.size w w') : RowsAt w' A n ps := by
  refine ⟨h.1, fun hn => ?_⟩
  obtain ⟨b, o, e, hc⟩ := h.2 hn
  exact ⟨b, o, e, fun j u hj => (hb.cell (World.block_lt_of_cell? w _ (hc j u hj))).trans (hc j u hj)⟩
theorem RL.part {V : World} {F Fb : Nat → Prop} {A : Option Addr} {m c : Nat} {qs : List Fv} (h : RL V F Fb (.slice A m c) qs) : RowsAt V A m qs ∧ m = qs.length ∧ m ≤ c ∧ c ≤ 9223372036854775807 := by
  obtain ⟨A', c', e, h1, h2, _, h3⟩ := h.form
  injection e with e1 e2 e3
  subst e1 e2 e3
  refine ⟨⟨rfl, fun hn => ?_⟩, rfl, h1, h2⟩
  obtain ⟨b, rfl, _⟩ := h3 hn
  refine ⟨b, 0, rfl, fun j u hj => ?_⟩
  have hl := rows_len qs
  rw [Nat.zero_add, h.row.cellAt j (by have := (List.getElem?_eq_some_iff.1 hj).1; omega)]
  exact hj
def cutF (A : Option Addr) (m l : Nat) : Option Addr := if m = l then A else A.map (·.add (l * 3))
theorem RowsAt.head {w : World} {A : Option Addr} {n : Nat} {ps : List Fv} (h : RowsAt w A n ps) (k : Nat) (hk : k ≤ n) : RowsAt w A k (ps.take k) := by
  refine ⟨by rw [List.length_take, h.1]; omega, fun h0 => ?_⟩
  obtain ⟨b, o, e, hc⟩ := h.2 (by omega)
  refine ⟨b, o, e, fun j u hj => hc j u ?_⟩
  rw [rows_take, List.getElem?_take] at hj
  split at hj
  · exact hj
  · cases hj
theorem RowsAt.tail {w : World} {A : Option Addr} {n m : Nat} {ps : List Fv} (h : RowsAt w A n ps) (k : Nat) (hk : k ≤ n) (hm : n ≤ m) : RowsAt w (cutF A m k) (n - k) (ps.drop k) := by
  refine ⟨by rw [List.length_drop, h.1], fun h0 => ?_⟩
  obtain ⟨b, o, rfl, hc⟩ := h.2 (by omega)
  refine ⟨b, o + k * 3, ?_, fun j u hj => ?_⟩
  · unfold cutF
    rw [if_neg (by omega)]
    simp only [Option.map_some]
    rw [Go.WideShapes.add_plain]
  · rw [rows_drop, List.getElem?_drop] at hj
    rw [Nat.add_assoc]
    exact hc _ u hj

theorem slf_size (w : World) : (sizeOf 106).run Tryz.prog w = .ok 3 w := by kernel_rfl
theorem slf_elem : Tryz.prog.elem 85 = 106 := by kernel_rfl
theorem slf_under : Tryz.prog.underlying 85 = some (.slice (Tryz.prog.elem 85)) := by rw [slf_elem]; exact Tryz.underlying85
theorem slf_l (A : Option Addr) (n c : Nat) (kl : IntKind) (l : Int) (w : World) (h0 : 0 ≤ l) (h1 : l ≤ n) :
    (Instr.slice 85 (.slice A n c) (some (.int kl l)) none none).run Tryz.prog w = .ok (.slice (cutF A c l.toNat) (n - l.toNat) (c - l.toNat)) w := by
  rw [run_slice_l w 85 A n c slf_under kl l h0 h1, slf_elem, slf_size]
  rfl
theorem slf_h (A : Option Addr) (n c : Nat) (kh : IntKind) (h : Int) (w : World) (h0 : 0 ≤ h) (h2 : h ≤ c) :
    (Instr.slice 85 (.slice A n c) none (some (.int kh h)) none).run Tryz.prog w = .ok (.slice A h.toNat c) w := by
  rw [run_slice_h w 85 A n c slf_under kh h h0 h2, slf_elem, slf_size]
  simp only [Result.andThen, sliced, Nat.sub_zero, Nat.zero_mul]
  congr 2
  split
  · rfl
  · cases A with
    | none => rfl
    | some a => simp [Addr.add]
theorem rowBase {w : World} {B B' n : Nat} {e : TypeId} {s : Nat} {v : Value} {xs : List Value} (h : w.ownsRow B e s v n xs) (hB : B' ≤ B) : w.ownsRow B' e s v n xs := by
  refine ⟨h.1, ?_⟩
  rcases h.2 with hn | ⟨g, cap, cur, hv, hb, rest⟩
  · exact .inl hn
  · exact .inr ⟨g, cap, cur, hv, by omega, rest⟩
theorem rowOwn {w : World} {B n : Nat} {e : TypeId} {s : Nat} {v : Value} {xs : List Value} (h : w.ownsRow B e s v n xs) : ∀ k, v.ownBlock = some k → B ≤ k ∧ k < w.heap.size := World.ownsRow.lt h

/-- An append of files, as the walks take it. -/
theorem wpList_appF {w : World} {ops : Array Oper} {rest : List Oper} {o : Oper} {a : Act} {Q : Exit → Act → World → Prop} (hgd : o.guard = none) (s x : Operand)
    (ho : o.op = .call { callee := .builtin .append, args := #[s, x], argTypes := #[85, 85] })
    (B : Nat) (v : Value) (qs ps : List Fv) (hs : a.eval s = v) (hown : w.ownsRow B 106 3 v qs.length (rows qs)) (A : Option Addr) (m c : Nat) (hx : a.eval x = .slice A m c) (hr : RowsAt w A m ps)
    (hn : qs.length + m ≤ 1000) (hbase : B ≤ w.heap.size)
    (h : ∀ v' w', w'.ownsRow B 106 3 v' (qs ++ ps).length (rows (qs ++ ps)) → Below B w w' → wpList Tryz.prog ops Q rest (a.put o.dst v') w') :
    wpList Tryz.prog ops Q (o :: rest) a w := by
  obtain ⟨z, hz0, hzc⟩ := infoF
  obtain ⟨i, hi, hz, hsz, hby⟩ := info_parts hz0
  refine wpList_appV hgd s x 85 ho B 106 i z 3 48 Tryz.underlying85 hi hz hsz hby hzc (by omega) v qs.length (rows qs) hs hown A m c (rows ps) hx (by rw [rows_len, hr.1]) hr.2 (rows_one ps) (by unfold maxLen; omega) (by omega) hbase ?_
  intro v' w' h1 h2
  refine h v' w' (by rw [List.length_append, hr.1, rows_app]; exact h1) ⟨h2.os, h2.tape, h2.output, h2.size, fun k hk => h2.block k (by omega) (fun e => ?_)⟩
  have := (rowOwn hown k e.symm).1
  omega
end Go.Proofs.YtamglegdgcehaaaGreat
set_option linter.unusedVariables false
namespace Go.Proofs.YtamglegdgcehaaaGreat
open Go.RowKit

section
variable {V V' : World} {g : Nat} {D : Dk} {F Fb G : Nat → Prop} {v : Value} {A : Option Addr} {n c : Nat} {qs : List Fv}
/-- A new list of files takes the old one's place. -/
theorem RDkB.list_ (h : RDkB V g D F Fb v A n c qs) (hb : Below V.heap.size V V') {v' : Value} {qs' : List Fv} {l' : List Fl} (hrow : V'.ownsRow V.heap.size 106 3 v' qs'.length (rows qs')) (he : qs'.map Fv.f = l')
    (hr : ∀ q ∈ qs', RFl V Fb q) (ho : ({ D with l := l' } : Dk).ok) :
    RDkB (V'.setCell ⟨g, 0, none⟩ v') g { D with l := l' } (nF F V (V'.setCell ⟨g, 0, none⟩ v')) Fb v' A n c qs' ∧ Grow (fun k => k = g) V (V'.setCell ⟨g, 0, none⟩ v') := by
  have hgl := h.lt g h.fg.1
  have hG : Grow (fun k => k = g) V (V'.setCell ⟨g, 0, none⟩ v') := Grow.set (F := fun k => k = g) (Grow.of_below hb) (p := ⟨g, 0, none⟩) (.inl rfl) _
  have hFl : ∀ k, Fb k → k < V.heap.size := fun k e => h.lt k (h.sub k e)
  have h1 := (h.below hb).mono (G := nF F V V') (fun k e => .inl e) (fun k e => by rcases e with e | e; exact Nat.lt_of_lt_of_le (h.lt k e) hb.size; exact e.2)
  have hz : nF F V (V'.setCell ⟨g, 0, none⟩ v') = nF F V V' := by unfold nF; rw [set_size]
  rw [hz]
  refine ⟨h1.field 0 v' (D' := { D with l := l' }) rfl he ⟨rowBase hrow (Nat.zero_le _), fun k e => ?_, fun q hq => (hr q hq).on (fun k e => hb.block k (hFl k e)) (fun _ e => e)⟩ h1.keep h1.keepF h1.kcap (fun e => ?_) ho, hG⟩
  · have := rowOwn hrow k e
    exact ⟨.inr this, fun e2 => by have := hFl k e2; omega⟩
  · have := (rowOwn hrow g e).1
    omega
end
theorem map_take_drop (qs : List Fv) (l : List Fl) (h : qs.map Fv.f = l) (a b : Nat) (q : Fv) : (qs.take a ++ q :: qs.drop b).map Fv.f = l.take a ++ q.f :: l.drop b := by
  rw [← h]
  simp [List.map_take, List.map_drop]
theorem map_take_drop' (qs : List Fv) (l : List Fl) (h : qs.map Fv.f = l) (a b : Nat) : (qs.take a ++ qs.drop b).map Fv.f = l.take a ++ l.drop b := by
  rw [← h]
  simp [List.map_take, List.map_drop]

theorem rowSlice {w : World} {B n : Nat} {e : TypeId} {s : Nat} {v : Value} {xs : List Value} (h : w.ownsRow B e s v n xs) : ∃ A c, v = .slice A n c := by
  rcases h.2 with ⟨rfl, rfl⟩ | ⟨g, cap, cur, rfl, _⟩
  · exact ⟨_, _, rfl⟩
  · exact ⟨_, _, rfl⟩
theorem one_row (w : World) (nm : ByteArray) (qA : Option Addr) (bs : List UInt8) (qc mk : Nat) :
    RowsAt (w.alloc (.cells #[.string nm, .slice qA bs.length qc, .int .i64 (mk : Int)] 106)) (some ⟨w.heap.size, 0, none⟩) 1 [⟨⟨nm, bs, mk⟩, qA, qc⟩] := by
  refine ⟨rfl, fun _ => ⟨_, 0, rfl, fun j u hj => ?_⟩⟩
  rw [Nat.zero_add, cell_of_row _ w.heap.size j _ _ (0, 0) (heap_alloc_new w _)]
  simpa [rows, Fv.vals] using hj

set_option maxRecDepth 100000 in
set_option maxHeartbeats 8000000 in
theorem with_b (w : World) (g : Nat) (D : Dk) (F Fb : Nat → Prop) (v : Value) (KA : Option Addr) (kn kc : Nat) (qs : List Fv) (q : Fv)
    (h : RDkB w g D F Fb v KA kn kc qs) (hq : RFl w Fb q) (ho : ({ D with l := withF D.l q.f } : Dk).ok) :
    Calls Tryz.prog 63 #[pt g, .agg #[.string q.f.name, .slice q.A q.f.bs.length q.c, .int .i64 (q.f.mark : Int)]] w fun e w' => e = .returned (.tuple #[]) ∧
      ∃ v' qs', RDkB w' g { D with l := withF D.l q.f } (nF F w w') Fb v' KA kn kc qs' ∧ Grow (fun k => k = g) w w' := by
  obtain ⟨A, c, rfl, hc1, hc2, _, _⟩ := h.list.form
  have hpart := h.list.part.1
  have hlen := h.len
  have hfew := h.ok.few
  have hgl := h.lt g h.fg.1
  obtain ⟨⟨nm, bs, mk⟩, qA, qc⟩ := q
  simp only at *
  obtain ⟨m, hm⟩ : ∃ m, qs.length = m := ⟨_, rfl⟩
  have hb0 := (Below.refl w.heap.size w).alloc (Nat.le_refl _) (.cells #[.string nm, .slice qA bs.length qc, .int .i64 (mk : Int)] 106)
  have hx := heap_alloc_new w (.cells #[.string nm, .slice qA bs.length qc, .int .i64 (mk : Int)] 106)
  have X0 := Lib.hid (cell_of_row _ w.heap.size 0 _ _ (0, 0) hx)
  have X1 := Lib.hid (cell_of_row _ w.heap.size 1 _ _ (0, 0) hx)
  have X2 := Lib.hid (cell_of_row _ w.heap.size 2 _ _ (0, 0) hx)
  have FI := Lib.hid (fun V (hb : Below w.heap.size w V) => find_ok V g D F nm ⟨Fb, _, KA, kn, kc, qs, h.below hb⟩)
  have hpl := pos_le D.l nm
  obtain ⟨p, hp⟩ : ∃ p, pos D.l nm = p := ⟨_, rfl⟩
  obtain ⟨is, his⟩ : ∃ b, isAt D.l nm = b := ⟨_, rfl⟩
  have his2 : is = true → p < D.l.length := fun e => by rw [← hp]; exact isAt_lt (his.trans e)
  have hwl : withF D.l ⟨nm, bs, mk⟩ = D.l.take p ++ ⟨nm, bs, mk⟩ :: D.l.drop (p + if is = true then 1 else 0) := by unfold withF; rw [hp, his]
  rw [hp] at FI hpl
  rw [his] at FI
  have HWL := Lib.hid hwl
  have H := Lib.hid h
  have HQ := Lib.hid hq
  have HO := Lib.hid ho
  have HM := Lib.hid hm
  have HPART := Lib.hid hpart
  have hpm : p ≤ m := by omega
  have hm20 : m ≤ 20 := by omega
  have hmc : m ≤ c := by omega
  have his3 : is = true → p < m := fun e => by have := his2 e; omega
  rw [hm] at H HPART
  clear hp his h hq ho hwl hx hpart hc1 his2 hpl hlen hfew
  cases is with
  | false =>
    have hSL1 := fun W : World => by simpa using slf_h A m c .i64 (p : Int) W (by omega) (by omega)
    have hSL2 := fun W : World => slf_l A m c .i64 (p : Int) W (by omega) (by omega)
    rw [show (p : Int).toNat = p by omega] at hSL2
    go_enter Tryz.func63, Tryz.ntmps63
    go_wp2_with (first
      | (go_at_call 59; refine (FI.out _ hb0).mono ?_; rintro e w1 ⟨rfl, hb1⟩; have hB1 := hb0.trans (hb1.mono hb0.size); have x0 := (hb1.cell (p := ⟨w.heap.size, 0, none⟩) (by simp)).trans X0.out; have x1 := (hb1.cell (p := ⟨w.heap.size, 1, none⟩) (by simp)).trans X1.out; have x2 := (hb1.cell (p := ⟨w.heap.size, 2, none⟩) (by simp)).trans X2.out; have c0 := (H.out.below hB1).c0; have hsz1 : w.heap.size < w1.heap.size := World.block_lt_of_cell? _ _ x0; have hp1 := Lib.hid ((HPART.out.below hB1).head p hpm); have hp3 := Lib.hid ((HPART.out.below hB1).tail p (by omega) hmc); have hn1 := Lib.hid (World.ownsRow_nil w1 w1.heap.size 106 3); simp at x0 x1 x2)
      | (at_builtin; refine wpList_appF rfl _ _ rfl w1.heap.size (.slice none 0 0) [] (qs.take p) rfl hn1.out A p c rfl hp1.out ?_ (Nat.le_refl _) ?_; · simp; omega
         intro v1 w2 hr1 hb2; have hr1' := Lib.hid hr1; clear hr1; have y0 := (hb2.cell (p := ⟨w.heap.size, 0, none⟩) hsz1).trans x0; have y1 := (hb2.cell (p := ⟨w.heap.size, 1, none⟩) hsz1).trans x1; have y2 := (hb2.cell (p := ⟨w.heap.size, 2, none⟩) hsz1).trans x2; clear hn1 hp1; have hBx := Lib.hid ((hb2.alloc hb2.size (.cells #[.string nm, .slice qA bs.length qc, .int .i64 (mk : Int)] 106))); have hr1a := Lib.hid (hr1'.out.alloc (.cells #[.string nm, .slice qA bs.length qc, .int .i64 (mk : Int)] 106)); simp only [List.nil_append] at hr1a; have hf1 := Lib.hid (one_row w2 nm qA bs qc mk); have hbs2 := Lib.hid hBx.out.size; clear hr1')
      | (at_builtin; refine wpList_appF rfl _ _ rfl w1.heap.size v1 (qs.take p) [⟨⟨nm, bs, mk⟩, qA, qc⟩] rfl hr1a.out (some ⟨w2.heap.size, 0, none⟩) 1 1 rfl hf1.out ?_ hbs2.out ?_; · simp; omega
         intro v2 w3 hr2 hb3; have hr2' := Lib.hid hr2; clear hr2; have hB3 := hBx.out.trans hb3; have c3 := (hB3.cell (p := ⟨g, 0, none⟩) (by simp; omega)).trans c0; have hp3' := Lib.hid (hp3.out.below hB3); have hbs3 := Lib.hid hB3.size; clear hr1a hf1 hp3)
      | (at_builtin; refine wpList_appF rfl _ _ rfl w1.heap.size v2 (qs.take p ++ [⟨⟨nm, bs, mk⟩, qA, qc⟩]) (qs.drop p) rfl hr2'.out (cutF A c p) (m - p) (c - p) rfl hp3'.out ?_ hbs3.out ?_; · simp; omega
         intro v3 w4 hr3 hb4; have hr3' := Lib.hid hr3; clear hr3; have hB4 := hB1.trans ((hB3.trans hb4).mono hB1.size); have hR4 := H.out.below hB4; have c4 := hR4.c0; have z4 := hR4.fz 0; clear hr2' hp3'; obtain ⟨qn, hqn⟩ : ∃ x, qs.take p ++ [⟨⟨nm, bs, mk⟩, qA, qc⟩] ++ qs.drop p = x := ⟨_, rfl⟩; rw [hqn] at hr3'; obtain ⟨ln, hln⟩ : ∃ n, qn.length = n := ⟨_, rfl⟩; rw [hln] at hr3'; obtain ⟨A3, cc3, rfl⟩ := rowSlice hr3'.out; have HQN := Lib.hid hqn; have HLN := Lib.hid hln; clear hqn hln))
    first | go_end0 | (refine bodyPost_ret (results_none rfl _ _ _) rfl ?_)
    have hrow := rowBase hr3'.out hB1.size
    have ee : qn = qs.take p ++ ⟨⟨nm, bs, mk⟩, qA, qc⟩ :: qs.drop p := by rw [← HQN.out, List.append_assoc, List.singleton_append]
    have hwl := HWL.out
    rw [← HLN.out] at hrow ⊢
    have hl := fun hh => H.out.list_ hB4 hrow (l' := withF D.l ⟨nm, bs, mk⟩) (by rw [ee, map_take_drop qs D.l H.out.eq, hwl]; rfl) hh HO.out
    refine ⟨rfl, _, _, hl ?_⟩
    · intro q hq
      rw [ee] at hq
      rcases List.mem_append.1 hq with h1 | h1
      · exact H.out.list.each q (List.mem_of_mem_take h1)
      · rcases List.mem_cons.1 h1 with rfl | h1
        · exact HQ.out
        · exact H.out.list.each q (List.mem_of_mem_drop h1)
  | true =>
    have hpm2 : p < m := his3 rfl
    have hwp : IntKind.i64.wrap ((p : Int) + 1) = (p : Int) + 1 := IntWalk.i64_in _ (by omega)
    have hSL1 := fun W : World => by simpa using slf_h A m c .i64 (p : Int) W (by omega) (by omega)
    have hSL2 := fun W : World => slf_l A m c .i64 ((p : Int) + 1) W (by omega) (by omega)
    rw [show ((p : Int) + 1).toNat = (p + 1) by omega] at hSL2
    go_enter Tryz.func63, Tryz.ntmps63
    go_wp2_with (first
      | (go_at_call 59; refine (FI.out _ hb0).mono ?_; rintro e w1 ⟨rfl, hb1⟩; have hB1 := hb0.trans (hb1.mono hb0.size); have x0 := (hb1.cell (p := ⟨w.heap.size, 0, none⟩) (by simp)).trans X0.out; have x1 := (hb1.cell (p := ⟨w.heap.size, 1, none⟩) (by simp)).trans X1.out; have x2 := (hb1.cell (p := ⟨w.heap.size, 2, none⟩) (by simp)).trans X2.out; have c0 := (H.out.below hB1).c0; have hsz1 : w.heap.size < w1.heap.size := World.block_lt_of_cell? _ _ x0; have hp1 := Lib.hid ((HPART.out.below hB1).head p hpm); have hp3 := Lib.hid ((HPART.out.below hB1).tail (p + 1) (by omega) hmc); have hn1 := Lib.hid (World.ownsRow_nil w1 w1.heap.size 106 3); simp at x0 x1 x2)
      | (at_builtin; refine wpList_appF rfl _ _ rfl w1.heap.size (.slice none 0 0) [] (qs.take p) rfl hn1.out A p c rfl hp1.out ?_ (Nat.le_refl _) ?_; · simp; omega
         intro v1 w2 hr1 hb2; have hr1' := Lib.hid hr1; clear hr1; have y0 := (hb2.cell (p := ⟨w.heap.size, 0, none⟩) hsz1).trans x0; have y1 := (hb2.cell (p := ⟨w.heap.size, 1, none⟩) hsz1).trans x1; have y2 := (hb2.cell (p := ⟨w.heap.size, 2, none⟩) hsz1).trans x2; clear hn1 hp1; have hBx := Lib.hid ((hb2.alloc hb2.size (.cells #[.string nm, .slice qA bs.length qc, .int .i64 (mk : Int)] 106))); have hr1a := Lib.hid (hr1'.out.alloc (.cells #[.string nm, .slice qA bs.length qc, .int .i64 (mk : Int)] 106)); simp only [List.nil_append] at hr1a; have hf1 := Lib.hid (one_row w2 nm qA bs qc mk); have hbs2 := Lib.hid hBx.out.size; clear hr1')
      | (at_builtin; refine wpList_appF rfl _ _ rfl w1.heap.size v1 (qs.take p) [⟨⟨nm, bs, mk⟩, qA, qc⟩] rfl hr1a.out (some ⟨w2.heap.size, 0, none⟩) 1 1 rfl hf1.out ?_ hbs2.out ?_; · simp; omega
         intro v2 w3 hr2 hb3; have hr2' := Lib.hid hr2; clear hr2; have hB3 := hBx.out.trans hb3; have c3 := (hB3.cell (p := ⟨g, 0, none⟩) (by simp; omega)).trans c0; have hp3' := Lib.hid (hp3.out.below hB3); have hbs3 := Lib.hid hB3.size; clear hr1a hf1 hp3)
      | (at_builtin; refine wpList_appF rfl _ _ rfl w1.heap.size v2 (qs.take p ++ [⟨⟨nm, bs, mk⟩, qA, qc⟩]) (qs.drop (p + 1)) rfl hr2'.out (cutF A c (p + 1)) (m - (p + 1)) (c - (p + 1)) rfl hp3'.out ?_ hbs3.out ?_; · simp; omega
         intro v3 w4 hr3 hb4; have hr3' := Lib.hid hr3; clear hr3; have hB4 := hB1.trans ((hB3.trans hb4).mono hB1.size); have hR4 := H.out.below hB4; have c4 := hR4.c0; have z4 := hR4.fz 0; clear hr2' hp3'; obtain ⟨qn, hqn⟩ : ∃ x, qs.take p ++ [⟨⟨nm, bs, mk⟩, qA, qc⟩] ++ qs.drop (p + 1) = x := ⟨_, rfl⟩; rw [hqn] at hr3'; obtain ⟨ln, hln⟩ : ∃ n, qn.length = n := ⟨_, rfl⟩; rw [hln] at hr3'; obtain ⟨A3, cc3, rfl⟩ := rowSlice hr3'.out; have HQN := Lib.hid hqn; have HLN := Lib.hid hln; clear hqn hln))
    first | go_end0 | (refine bodyPost_ret (results_none rfl _ _ _) rfl ?_)
    have hrow := rowBase hr3'.out hB1.size
    have ee : qn = qs.take p ++ ⟨⟨nm, bs, mk⟩, qA, qc⟩ :: qs.drop (p + 1) := by rw [← HQN.out, List.append_assoc, List.singleton_append]
    have hwl := HWL.out
    rw [← HLN.out] at hrow ⊢
    have hl := fun hh => H.out.list_ hB4 hrow (l' := withF D.l ⟨nm, bs, mk⟩) (by rw [ee, map_take_drop qs D.l H.out.eq, hwl]; rfl) hh HO.out
    refine ⟨rfl, _, _, hl ?_⟩
    · intro q hq
      rw [ee] at hq
      rcases List.mem_append.1 hq with h1 | h1
      · exact H.out.list.each q (List.mem_of_mem_take h1)
      · rcases List.mem_cons.1 h1 with rfl | h1
        · exact HQ.out
        · exact H.out.list.each q (List.mem_of_mem_drop h1)
end Go.Proofs.YtamglegdgcehaaaGreat

namespace Go.Proofs.YtamglegdgcehaaaGreat
open Go.RowKit

/-! ### plain -/
theorem without_sub (l : List Fl) (s : ByteArray) : (without l s).Sublist l := by
  unfold without
  split
  · have h : l.take (pos l s) ++ l.drop (pos l s + 1) = l.eraseIdx (pos l s) := (List.eraseIdx_eq_take_drop_succ l (pos l s)).symm
    rw [h]
    exact List.eraseIdx_sublist _ _
  · exact List.Sublist.refl _
theorem sum_sub {a b : List Fl} (h : a.Sublist b) : sum a ≤ sum b := by
  induction h with
  | slnil => exact Nat.le_refl _
  | cons x _ ih =>
    unfold sum at *
    rw [List.map_cons, List.sum_cons]
    omega
  | cons_cons x _ ih =>
    unfold sum at *
    rw [List.map_cons, List.sum_cons, List.map_cons, List.sum_cons]
    omega
theorem ok_sub {D : Dk} (h : D.ok) {l : List Fl} (hs : l.Sublist D.l) : ({ D with l := l } : Dk).ok :=
  ⟨h.sorted.sublist hs, fun f hf => h.marks f (hs.mem hf), Nat.le_trans hs.length_le h.few, Nat.le_trans (sum_sub hs) h.sum, h.low, h.high⟩
theorem ok_without {D : Dk} (h : D.ok) (s : ByteArray) : ({ D with l := without D.l s } : Dk).ok := ok_sub h (without_sub _ _)
theorem ok_left {D : Dk} (h : D.ok) (x : Int) (h1 : -1 ≤ x) (h2 : x ≤ 9223372036854775807) : ({ D with left := x } : Dk).ok := ⟨h.sorted, h.marks, h.few, h.sum, h1, h2⟩

set_option maxRecDepth 100000 in
set_option maxHeartbeats 8000000 in
theorem without_b (w : World) (g : Nat) (D : Dk) (F Fb : Nat → Prop) (v : Value) (KA : Option Addr) (kn kc : Nat) (qs : List Fv) (nm : ByteArray)
    (h : RDkB w g D F Fb v KA kn kc qs) :
    Calls Tryz.prog 146 #[pt g, .string nm] w fun e w' => e = .returned (.tuple #[]) ∧
      ∃ v' qs', RDkB w' g { D with l := without D.l nm } (nF F w w') Fb v' KA kn kc qs' ∧ Grow (fun k => k = g) w w' := by
  obtain ⟨A, c, rfl, hc1, hc2, _, _⟩ := h.list.form
  have hpart := h.list.part.1
  have hlen := h.len
  have hfew := h.ok.few
  have hgl := h.lt g h.fg.1
  have ho := ok_without h.ok nm
  obtain ⟨m, hm⟩ : ∃ m, qs.length = m := ⟨_, rfl⟩
  have FI := Lib.hid (find_ok w g D F nm ⟨Fb, _, KA, kn, kc, qs, h⟩)
  obtain ⟨p, hp⟩ : ∃ p, pos D.l nm = p := ⟨_, rfl⟩
  obtain ⟨is, his⟩ : ∃ b, isAt D.l nm = b := ⟨_, rfl⟩
  have his2 : is = true → p < D.l.length := fun e => by rw [← hp]; exact isAt_lt (his.trans e)
  have hwl : without D.l nm = if is = true then D.l.take p ++ D.l.drop (p + 1) else D.l := by unfold without; rw [hp, his]
  rw [hp, his] at FI
  have HWL := Lib.hid hwl
  have H := Lib.hid h
  have HO := Lib.hid ho
  have HPART := Lib.hid hpart
  have hm20 : m ≤ 20 := by omega
  have hmc : m ≤ c := by omega
  have his3 : is = true → p < m := fun e => by have := his2 e; omega
  rw [hm] at H HPART
  clear hp his h ho hwl hpart hc1 his2 hlen hfew
  cases is with
  | false =>
    go_enter Tryz.func146, Tryz.ntmps146
    go_wp2_with (first
      | (go_at_call 59; refine FI.out.mono ?_; rintro e w1 ⟨rfl, hb1⟩))
    first | go_end0 | (refine bodyPost_ret (results_none rfl _ _ _) rfl ?_)
    rw [HWL.out]
    have h1 := (H.out.below hb1).mono (G := nF F w w1) (fun k e => .inl e) (fun k e => by rcases e with e | e; exact Nat.lt_of_lt_of_le (H.out.lt k e) hb1.size; exact e.2)
    exact ⟨rfl, _, _, h1, Grow.of_below hb1⟩
  | true =>
    have hpm2 : p < m := his3 rfl
    have hwp : IntKind.i64.wrap ((p : Int) + 1) = (p : Int) + 1 := IntWalk.i64_in _ (by omega)
    have hSL1 := fun W : World => by simpa using slf_h A m c .i64 (p : Int) W (by omega) (by omega)
    have hSL2 := fun W : World => slf_l A m c .i64 ((p : Int) + 1) W (by omega) (by omega)
    rw [show ((p : Int) + 1).toNat = p + 1 by omega] at hSL2
    go_enter Tryz.func146, Tryz.ntmps146
    go_wp2_with (first
      | (go_at_call 59; refine FI.out.mono ?_; rintro e w1 ⟨rfl, hb1⟩; have c0 := (H.out.below hb1).c0; have hp1 := Lib.hid ((HPART.out.below hb1).head p (by omega)); have hp3 := Lib.hid ((HPART.out.below hb1).tail (p + 1) (by omega) hmc); have hn1 := Lib.hid (World.ownsRow_nil w1 w1.heap.size 106 3))
      | (at_builtin; refine wpList_appF rfl _ _ rfl w1.heap.size (.slice none 0 0) [] (qs.take p) rfl hn1.out A p c rfl hp1.out ?_ (Nat.le_refl _) ?_; · simp; omega
         intro v1 w2 hr1 hb2; have hr1' := Lib.hid hr1; clear hr1; simp only [List.nil_append] at hr1'; have c3 := (hb2.cell (p := ⟨g, 0, none⟩) (by have := hb1.size; simp; omega)).trans c0; have hp3' := Lib.hid (hp3.out.below hb2); have hbs2 := Lib.hid hb2.size; clear hn1 hp1 hp3)
      | (at_builtin; refine wpList_appF rfl _ _ rfl w1.heap.size v1 (qs.take p) (qs.drop (p + 1)) rfl hr1'.out (cutF A c (p + 1)) (m - (p + 1)) (c - (p + 1)) rfl hp3'.out ?_ hbs2.out ?_; · simp; omega
         intro v3 w4 hr3 hb4; have hr3' := Lib.hid hr3; clear hr3; have hB4 := hb1.trans ((hb2.trans hb4).mono hb1.size); have hR4 := H.out.below hB4; have c4 := hR4.c0; have z4 := hR4.fz 0; clear hr1' hp3'; obtain ⟨qn, hqn⟩ : ∃ x, qs.take p ++ qs.drop (p + 1) = x := ⟨_, rfl⟩; rw [hqn] at hr3'; obtain ⟨ln, hln⟩ : ∃ n, qn.length = n := ⟨_, rfl⟩; rw [hln] at hr3'; obtain ⟨A3, cc3, rfl⟩ := rowSlice hr3'.out; have HQN := Lib.hid hqn; have HLN := Lib.hid hln; clear hqn hln))
    first | go_end0 | (refine bodyPost_ret (results_none rfl _ _ _) rfl ?_)
    have hrow := rowBase hr3'.out hb1.size
    have hwl := HWL.out
    simp only [if_true] at hwl
    rw [← HLN.out] at hrow ⊢
    have hl := fun hh => H.out.list_ hB4 hrow (l' := without D.l nm) (by rw [← HQN.out, map_take_drop' qs D.l H.out.eq, hwl]) hh HO.out
    refine ⟨rfl, _, _, hl ?_⟩
    intro q hq
    rw [← HQN.out] at hq
    rcases List.mem_append.1 hq with h1 | h1
    · exact H.out.list.each q (List.mem_of_mem_take h1)
    · exact H.out.list.each q (List.mem_of_mem_drop h1)
end Go.Proofs.YtamglegdgcehaaaGreat
set_option linter.unusedVariables false
namespace Go.Proofs.YtamglegdgcehaaaGreat
open Go.RowKit

theorem nF_same {F : Nat → Prop} {V V' : World} (h : V'.heap.size = V.heap.size) : ∀ k, nF F V V' k ↔ F k := fun k => by
  unfold nF
  rw [h]
  exact ⟨fun e => e.elim id (fun e => by omega), .inl⟩
section
variable {V V' : World} {g : Nat} {D : Dk} {F Fb G : Nat → Prop} {v : Value} {A : Option Addr} {n c : Nat} {qs : List Fv}
/-- What a call's end wants, of a disk whose parts are known. -/
theorem RDkB.ends {w : World} (h : RDkB V g D G Fb v A n c qs) (hG : ∀ k, G k → nF F w V k) (hg : Grow F w V) (hl : ∀ k, F k → k < w.heap.size) : Turns RDk w g F D V :=
  ⟨⟨Fb, v, A, n, c, qs, h.mono hG (fun k e => by rcases e with e | e; exact Nat.lt_of_lt_of_le (hl k e) hg.size; exact e.2)⟩, hg⟩
theorem RDkB.keepIn (h : RDkB V g D F Fb v A n c qs) : InF (fun k => k < V.heap.size ∧ k ≠ g ∧ v.ownBlock ≠ some k) A := fun a e => by
  have h1 := h.keepF a e
  exact ⟨h.lt _ (h.sub _ h1), fun e2 => h.fg.2.1 (e2 ▸ h1), fun e2 => (h.list.own _ e2).2 h1⟩
end

set_option maxHeartbeats 4000000 in
theorem fails_no (w : World) (g : Nat) (D : Dk) (F Fb : Nat → Prop) (v : Value) (KA : Option Addr) (kn kc : Nat) (qs : List Fv) (h : RDkB w g D F Fb v KA kn kc qs) (hl : D.left ≠ 0) :
    Calls Tryz.prog 61 #[pt g] w fun e w' => e = .returned (.bool false) ∧ RDkB w' g { D with left := if 0 < D.left then D.left - 1 else D.left } F Fb v KA kn kc qs ∧ Grow F w w' := by
  have c2 := h.c2
  have z2 := h.fz 2
  have hlo := h.ok.low
  have hhi := h.ok.high
  have H := Lib.hid h
  obtain ⟨x, hx⟩ : ∃ x, D.left = x := ⟨_, rfl⟩
  rw [hx] at c2 hlo hhi hl
  have HX := Lib.hid hx
  rw [hx]
  clear h hx
  by_cases h0 : 0 < x
  · have hw : IntKind.i64.wrap (x - 1) = x - 1 := IntWalk.i64_in _ (by omega)
    rw [if_pos h0]
    go_enter Tryz.func61, Tryz.ntmps61
    go_wp2_with fail
    go_ret
    exact ⟨rfl, H.out.setLeft (x - 1) (by omega) (by omega), (Grow.refl _ _).set (p := ⟨g, 2, none⟩) (.inl H.out.fg.1) _⟩
  · rw [if_neg h0]
    go_enter Tryz.func61, Tryz.ntmps61
    go_wp2_with fail
    go_ret
    refine ⟨rfl, ?_, Grow.refl _ _⟩
    rw [← HX.out]
    exact H.out
set_option maxHeartbeats 4000000 in
theorem fails_yes (w : World) (g : Nat) (D : Dk) (F Fb : Nat → Prop) (v : Value) (KA : Option Addr) (kn kc : Nat) (qs : List Fv) (h : RDkB w g D F Fb v KA kn kc qs) (hl : D.left = 0) :
    Calls Tryz.prog 61 #[pt g] w fun e w' => e = .returned (.bool true) ∧ Turns RDk w g F (crash D D.keep) w' := by
  have c2 := h.c2
  have c3 := h.c3
  rw [hl] at c2
  have CR := Lib.hid (crash_b w g D F Fb v KA kn kc qs KA kn kc D.keep h h.keep h.keepIn h.kcap.1 h.kcap.2)
  clear h hl
  go_enter Tryz.func61, Tryz.ntmps61
  go_wp2_with (first | (go_at_call 110; refine CR.out.mono ?_; rintro e w1 ⟨rfl, ht⟩))
  go_ret
  exact ⟨rfl, ht⟩

theorem new_ok (w : World) : Calls Tryz.prog 11 #[] w fun e w' => ∃ g, e = .returned (pt g) ∧ w.heap.size ≤ g ∧ RDk w' g dk0 (fun k => w.heap.size ≤ k ∧ k < w'.heap.size) ∧ Below w.heap.size w w' := by
  go_enter Tryz.func11, Tryz.ntmps11
  go_wp2_with fail
  go_ret
  have hx := heap_alloc_new w (.cells #[.slice none 0 0, .bool false, .int .i64 (-1), .slice none 0 0] 87)
  refine ⟨w.heap.size, rfl, Nat.le_refl _, ⟨fun _ => False, .slice none 0 0, none, 0, 0, [], hx, rfl, ⟨World.ownsRow_nil _ _ _ _, fun k e => (nomatch e), fun q hq => (nomatch hq)⟩, IAt.nil _ _, fun a e => (nomatch e), ⟨by omega, by omega⟩,
    ⟨⟨Nat.le_refl _, by simp⟩, fun e => e, fun e => (nomatch e)⟩, fun k e => e.elim, fun k e => e.2, ⟨List.Pairwise.nil, fun f hf => (by cases hf), by simp [dk0], by simp [dk0, sum], by simp [dk0], by simp [dk0]⟩⟩, (Below.refl _ _).alloc (Nat.le_refl _) _⟩

theorem boot_ok (w : World) (g : Nat) (D : Dk) (F : Nat → Prop) (h : RDk w g D F) :
    Calls Tryz.prog 111 #[pt g] w fun e w' => e = .returned (.tuple #[]) ∧ Turns RDk w g F (boot D) w' := by
  obtain ⟨Fb, v, KA, kn, kc, qs, h⟩ := h
  have c1 := h.c1
  have c2 := h.c2
  have z1 := h.fz 1
  have z2 := h.fz 2
  have H := Lib.hid h
  clear h
  go_enter Tryz.func111, Tryz.ntmps111
  go_wp2_with fail
  first | go_end0 | (refine bodyPost_ret (results_none rfl _ _ _) rfl ?_)
  have h1 := (H.out.setDead false).setLeft (-1) (by omega) (by omega)
  exact ⟨rfl, h1.ends (fun k e => .inl e) (((Grow.refl _ _).set (p := ⟨g, 1, none⟩) (.inl H.out.fg.1) _).set (p := ⟨g, 2, none⟩) (.inl H.out.fg.1) _) H.out.lt⟩

theorem turns_below {w V V' : World} {g : Nat} {F : Nat → Prop} {D : Dk} (hb : Below w.heap.size w V) (h : Turns RDk V g F D V') (hl : ∀ k, F k → k < w.heap.size) : Turns RDk w g F D V' :=
  ⟨h.1.mono (fun k e => by rcases e with e | e; exact .inl e; exact .inr ⟨by have := hb.size; omega, e.2⟩) (fun k e => by rcases e with e | e; exact Nat.lt_of_lt_of_le (hl k e) (Nat.le_trans hb.size h.2.size); exact e.2), (Grow.of_below hb).trans (h.2.mono (fun k e => .inl e))⟩
/-! ### plain: the file of a name -/
theorem fileAt_eq {l : List Fl} {s : ByteArray} {p : Nat} (hp : pos l s = p) (hi : isAt l s = true) : ∃ h : p < l.length, fileAt l s = l[p] ∧ l[p].name = s := by
  have h := isAt_lt hi
  rw [hp] at h
  refine ⟨h, ?_, ?_⟩
  · unfold fileAt
    rw [if_pos hi, hp, List.getD_eq_getElem?_getD, List.getElem?_eq_getElem h]
    rfl
  · rw [isAt_eq hp h] at hi
    exact of_decide_eq_true hi
theorem work_no {D : Dk} (h : D.left ≠ 0) (f : List Fl → List Fl) : work D f = { D with l := f D.l, left := if 0 < D.left then D.left - 1 else D.left } := by unfold work; rw [if_neg h]
theorem work_yes {D : Dk} (h : D.left = 0) (f : List Fl → List Fl) : work D f = crash D D.keep := by unfold work; rw [if_pos h]

theorem RDkB.cells {V : World} {g : Nat} {D : Dk} {F Fb : Nat → Prop} {A : Option Addr} {n c : Nat} {qs : List Fv} {b m cap : Nat} (h : RDkB V g D F Fb (.slice (some ⟨b, 0, none⟩) m cap) A n c qs) {i : Nat} (hi : i < qs.length) {nm : ByteArray} {bs : List UInt8} {mk : Nat} {qA : Option Addr} {qc : Nat} (hq : qs[i] = ⟨⟨nm, bs, mk⟩, qA, qc⟩) :
    V.cell? ⟨b, i * 3, none⟩ = some (.string nm) ∧ V.cell? ⟨b, i * 3 + 1, none⟩ = some (.slice qA bs.length qc) ∧ V.cell? ⟨b, i * 3 + 2, none⟩ = some (.int .i64 (mk : Int)) := by
  obtain ⟨_, _, e, _, _, _, hc⟩ := h.list.form
  injection e with e1 e2 e3
  obtain ⟨b', e4, _, _, hcl⟩ := hc (by omega)
  rw [e4] at e1
  injection e1 with e1
  injection e1 with e1
  subst e1
  have h1 := hcl i hi
  rw [hq] at h1
  exact h1
theorem set_off (V : World) {g i j : Nat} (u : Value) (h : i ≠ j) : (V.setCell ⟨g, i, none⟩ u).cell? ⟨g, j, none⟩ = V.cell? ⟨g, j, none⟩ := by
  simp only [World.cell?, World.setCell, Array.getElem?_modify]
  cases hv : V.heap[g]? with
  | none => simp
  | some o => cases o <;> simp [h]
theorem RDkB.store2 {V : World} {g : Nat} {D : Dk} {F Fb : Nat → Prop} {A : Option Addr} {n c : Nat} {qs : List Fv} {b m cap : Nat} (h : RDkB V g D F Fb (.slice (some ⟨b, 0, none⟩) m cap) A n c qs) {i : Nat} (hi : i < qs.length) {nm : ByteArray} {bs bt : List UInt8} {mk K M : Nat} {qA A1 : Option Addr} {qc c1 : Nat}
    (hq : qs[i] = ⟨⟨nm, bs, mk⟩, qA, qc⟩) (hK : bt.length = K) (hr : RFl V Fb ⟨⟨nm, bt, M⟩, A1, c1⟩) (ho : ({ D with l := D.l.set i ⟨nm, bt, M⟩ } : Dk).ok) :
    RDkB ((V.setCell ⟨b, i * 3 + 1, none⟩ (.slice A1 K c1)).setCell ⟨b, i * 3 + 2, none⟩ (.int .i64 (M : Int))) g { D with l := D.l.set i ⟨nm, bt, M⟩ } F Fb (.slice (some ⟨b, 0, none⟩) m cap) A n c (qs.set i ⟨⟨nm, bt, M⟩, A1, c1⟩) := by
  have hob := h.list.own b rfl
  have hgb : g ≠ b := fun e => h.fg.2.2 (by rw [e]; rfl)
  have hm : m = qs.length := by
    obtain ⟨_, _, e, _⟩ := h.list.form
    injection e
  subst hm
  have k : ∀ x, x ≠ b → ((V.setCell ⟨b, i * 3 + 1, none⟩ (.slice A1 K c1)).setCell ⟨b, i * 3 + 2, none⟩ (.int .i64 (M : Int))).heap[x]? = V.heap[x]? := fun x hx => by
    rw [set_blk _ _ _ _ hx, set_blk _ _ _ _ hx]
  have hFb : ∀ x, Fb x → ((V.setCell ⟨b, i * 3 + 1, none⟩ (.slice A1 K c1)).setCell ⟨b, i * 3 + 2, none⟩ (.int .i64 (M : Int))).heap[x]? = V.heap[x]? := fun x hx => k x (fun e => hob.2 (e ▸ hx))
  have hrow1 := (h.list.row.stored (i * 3 + 1) (.slice A1 K c1)).1
  rw [rows_set qs i 1 _ ⟨⟨nm, bt, mk⟩, A1, c1⟩ hi (by omega) (by rw [hq]; simp only [Fv.vals]; rw [hK]; rfl)] at hrow1
  have hrow := (hrow1.stored (i * 3 + 2) (.int .i64 (M : Int))).1
  rw [rows_set (qs.set i ⟨⟨nm, bt, mk⟩, A1, c1⟩) i 2 _ ⟨⟨nm, bt, M⟩, A1, c1⟩ (by rw [List.length_set]; exact hi) (by omega) (by rw [List.getElem_set_self]; rfl), List.set_set] at hrow
  refine ⟨(k g hgb).trans h.obj, by rw [List.map_set, h.eq], ⟨by rw [List.length_set]; exact hrow, h.list.own, fun x hx => ?_⟩, h.keep.on h.keepF hFb, h.keepF, h.kcap, h.fg, h.sub, fun x e => ?_, ho⟩
  · rcases List.mem_or_eq_of_mem_set hx with h1 | rfl
    · exact (h.list.each x h1).on hFb (fun _ e => e)
    · exact hr.on hFb (fun _ e => e)
  · rw [set_size, set_size]
    exact h.lt x e
theorem RDkB.bytes {V : World} {g : Nat} {D : Dk} {F Fb : Nat → Prop} {v : Value} {A : Option Addr} {n c : Nat} {qs : List Fv} (h : RDkB V g D F Fb v A n c qs) {i : Nat} (hi : i < qs.length) {nm : ByteArray} {bs : List UInt8} {mk : Nat} {qA : Option Addr} {qc : Nat} (hq : qs[i] = ⟨⟨nm, bs, mk⟩, qA, qc⟩) :
    At V qA bs.length bs ∧ bs.length ≤ qc ∧ qc ≤ 9223372036854775807 ∧ InF Fb qA := by
  have h1 := h.list.each _ (List.getElem_mem hi)
  rw [hq] at h1
  exact ⟨h1.at_, h1.cap, h1.capm, h1.inF⟩
/-- The parts of the file of a name. -/
theorem RDkB.file {V : World} {g : Nat} {D : Dk} {F Fb : Nat → Prop} {v : Value} {A : Option Addr} {n c : Nat} {qs : List Fv} (h : RDkB V g D F Fb v A n c qs) {s : ByteArray} {p : Nat} (hp : pos D.l s = p) (hi : isAt D.l s = true) :
    ∃ b m cap bs mk qA qc, ∃ hq : p < qs.length, v = .slice (some ⟨b, 0, none⟩) m cap ∧ g ≠ b ∧ m = qs.length ∧ m ≤ cap ∧ qs[p] = ⟨⟨s, bs, mk⟩, qA, qc⟩ ∧ fileAt D.l s = ⟨s, bs, mk⟩ ∧ RFl V Fb ⟨⟨s, bs, mk⟩, qA, qc⟩ ∧ mk ≤ bs.length ∧ bs.length ≤ 4194304 ∧
      (∃ hl : p < D.l.length, D.l[p] = ⟨s, bs, mk⟩) ∧ m ≤ 20 := by
  obtain ⟨hl, hf, hn⟩ := fileAt_eq hp hi
  have hq : p < qs.length := by rw [h.len]; exact hl
  obtain ⟨A', c', rfl, h1, h2, _, hc⟩ := h.list.form
  obtain ⟨b, rfl, hb1, hb2, _⟩ := hc (by omega)
  have he := h.get hq
  obtain ⟨nm, bs, mk, qA, qc, e⟩ : ∃ a b c d e, qs[p] = ⟨⟨a, b, c⟩, d, e⟩ := ⟨_, _, _, _, _, rfl⟩
  rw [e] at he
  simp only at he
  rw [he] at hn hf
  simp only at hn
  subst hn
  have hm := h.ok.marks _ (List.getElem_mem hl)
  rw [he] at hm
  have hs : bs.length ≤ 4194304 := by
    have h1 := sum_take_succ D.l p hl
    have h2 := sum_take_le D.l (p + 1)
    have h3 := h.ok.sum
    rw [he] at h1
    simp only at h1
    omega
  exact ⟨b, _, c', bs, mk, qA, qc, hq, rfl, fun e => h.fg.2.2 (by rw [e]; rfl), rfl, h1, e, hf, by rw [← e]; exact h.list.each _ (List.getElem_mem hq), hm, hs, ⟨hl, he⟩, by rw [h.len]; exact h.ok.few⟩
set_option maxHeartbeats 8000000 in
theorem sync_ok (w : World) (g : Nat) (D : Dk) (F : Nat → Prop) (nm : ByteArray) (h : RDk w g D F) :
    Calls Tryz.prog 18 #[pt g, .string nm] w fun e w' => e = .returned (.int .i64 (synE D nm)) ∧ Turns RDk w g F (syn D nm) w' := by
  obtain ⟨Fb, v, KA, kn, kc, qs, h⟩ := h
  have FI := Lib.hid (find_ok w g D F nm ⟨Fb, v, KA, kn, kc, qs, h⟩)
  obtain ⟨p, hp⟩ : ∃ p, pos D.l nm = p := ⟨_, rfl⟩
  obtain ⟨is, his⟩ : ∃ b, isAt D.l nm = b := ⟨_, rfl⟩
  obtain ⟨dd, hd⟩ : ∃ b, D.dead = b := ⟨_, rfl⟩
  have c1 := h.c1
  rw [hp, his] at FI
  rw [hd] at c1
  have HP := Lib.hid hp
  have HI := Lib.hid his
  have HD := Lib.hid hd
  have H := Lib.hid h
  clear h hp his hd
  cases dd with
  | true =>
    have hE : synE D nm = 71 := by unfold synE nmE; rw [HD.out]; rfl
    have hC : syn D nm = D := by unfold syn nmE; rw [HD.out]; rfl
    rw [hE, hC]
    go_enter Tryz.func18, Tryz.ntmps18
    go_wp2_with fail
    go_ret
    exact ⟨rfl, H.out.ends (fun k e => .inl e) (Grow.refl _ _) H.out.lt⟩
  | false =>
    cases is with
    | false =>
      have hE : synE D nm = 70 := by unfold synE nmE; rw [HD.out, HI.out]; rfl
      have hC : syn D nm = D := by unfold syn nmE; rw [HD.out, HI.out]; rfl
      rw [hE, hC]
      go_enter Tryz.func18, Tryz.ntmps18
      go_wp2_with (first | (go_at_call 59; refine FI.out.mono ?_; rintro e w1 ⟨rfl, hb1⟩))
      go_ret
      exact ⟨rfl, (H.out.below hb1).ends (fun k e => .inl e) (Grow.of_below hb1) H.out.lt⟩
    | true =>
      have hN : nmE D nm = 0 := by unfold nmE; rw [HD.out, HI.out]; rfl
      by_cases hl : D.left = 0
      · have hE : synE D nm = 71 := by unfold synE workE; rw [hN, if_pos rfl, if_pos hl]
        have hC : syn D nm = crash D D.keep := by unfold syn; rw [hN, if_pos rfl, work_yes hl]
        rw [hE, hC]
        have FA := Lib.hid (fun V (hb : Below w.heap.size w V) => fails_yes V g D F Fb v KA kn kc qs (H.out.below hb) hl)
        clear hl hN hE hC
        go_enter Tryz.func18, Tryz.ntmps18
        go_wp2_with (first
          | (go_at_call 59; refine FI.out.mono ?_; rintro e w1 ⟨rfl, hb1⟩)
          | (go_at_call 61; refine (FA.out _ hb1).mono ?_; rintro e w2 ⟨rfl, ht2⟩))
        go_ret
        exact ⟨rfl, turns_below hb1 ht2 H.out.lt⟩
      · have hE : synE D nm = 0 := by unfold synE workE; rw [hN, if_pos rfl, if_neg hl]
        obtain ⟨b, m, cap, bs, mk, qA, qc, hq, rfl, hgb, hm, hmc, hqe, hfa, hrf, hmk, hbl, ⟨hdl, hde⟩, hm20⟩ := H.out.file HP.out HI.out
        have hC : syn D nm = { D with l := D.l.set p ⟨nm, bs, bs.length⟩, left := if 0 < D.left then D.left - 1 else D.left } := by unfold syn; rw [hN, if_pos rfl, work_no hl]; unfold setAt; rw [HP.out, hfa]
        obtain ⟨D', hD'⟩ : ∃ x, syn D nm = x := ⟨_, rfl⟩
        rw [hE, hD']
        have HC := Lib.hid (hD'.symm.trans hC)
        have FA := Lib.hid (fun V (hb : Below w.heap.size w V) => fails_no V g D F Fb _ KA kn kc qs (H.out.below hb) hl)
        have HRF := Lib.hid hrf
        have HQE := Lib.hid hqe
        have HDE := Lib.hid hde
        have HM := Lib.hid hm
        obtain ⟨L, hL⟩ : ∃ L, bs.length = L := ⟨_, rfl⟩
        have hpm : p < m := by omega
        have hpI : (p : Int) < (m : Int) := by omega
        have hFb := (H.out.list.own b rfl).1
        have hok : ({ D with l := D.l.set p ⟨nm, bs, bs.length⟩, left := if 0 < D.left then D.left - 1 else D.left } : Dk).ok := ok_left (ok_set H.out.ok hdl (by rw [hde]) (Nat.le_refl _) (by rw [hde]; have := H.out.ok.sum; show _ + bs.length ≤ _ + bs.length; omega)) _ (by have := H.out.ok.low; split <;> omega) (by have := H.out.ok.high; split <;> omega)
        have HOK := Lib.hid hok
        clear hl hN hE hC hqe hfa hrf hde hm hok hD'
        go_enter Tryz.func18, Tryz.ntmps18
        go_wp2_with (first
          | (go_at_call 59; refine FI.out.mono ?_; rintro e w1 ⟨rfl, hb1⟩)
          | (go_at_call 61; refine (FA.out _ hb1).mono ?_; rintro e w2 ⟨rfl, hR2, hG2⟩; have c0 := hR2.c0; obtain ⟨d0, d1, d2⟩ := hR2.cells hq HQE.out; have hofz := (hR2.wr (i := p) (j := 2) hq (by omega)).2; rw [hL] at d1; have hR3 := hR2.store (i := p) (j := 2) hq (by omega) (u := .int .i64 (bs.length : Int)) (q := ⟨⟨nm, bs, bs.length⟩, qA, qc⟩) (by rw [HQE.out]; rfl) (by have h := hR2.list.each _ (List.getElem_mem hq); rw [HQE.out] at h; exact ⟨h.at_, h.cap, h.capm, h.inF⟩) HOK.out; have e3 := hR3.cells (i := p) (by rw [List.length_set]; exact hq) (by rw [List.getElem_set_self]); have hSd : w2.drew.cell? ⟨g, 0, none⟩ = some (.slice (some ⟨b, 0, none⟩) m cap) ∧ w2.drew.cell? ⟨b, p * 3 + 1, none⟩ = some (.slice qA L qc) := ⟨c0, d1⟩; have hSf : (w2.setCell ⟨b, p * 3 + 2, none⟩ (.int .i64 (bs.length : Int))).drew.cell? ⟨g, 0, none⟩ = some (.slice (some ⟨b, 0, none⟩) m cap) ∧ (w2.setCell ⟨b, p * 3 + 2, none⟩ (.int .i64 (bs.length : Int))).drew.cell? ⟨b, p * 3 + 1, none⟩ = some (.slice qA bs.length qc) := ⟨hR3.c0, e3.2.1⟩; rw [hL] at hSf; have HR3 := Lib.hid hR3; have HL := Lib.hid hL; clear hR3 e3 hL))
        go_region_held3 (fun V => V.cell? ⟨g, 0, none⟩ = some (.slice (some ⟨b, 0, none⟩) m cap) ∧ V.cell? ⟨b, p * 3 + 1, none⟩ = some (.slice qA L qc))
          (first | with_reducible assumption | with_reducible exact hSd | with_reducible exact hSf) (fail)
        all_goals
          go_wp2_with fail
          go_ret
          have hG := (((Grow.of_below (F := F) hb1).trans (hG2.mono (fun k e => .inl e))).set (p := ⟨b, p * 3 + 2, none⟩) (.inl hFb) (.int .i64 (bs.length : Int))).drewN 1
          rw [HC.out, ← HL.out]
          exact ⟨rfl, (HR3.out.below (Below.refl _ _).drew).ends (fun k e => .inl e) hG H.out.lt⟩
end Go.Proofs.YtamglegdgcehaaaGreat
