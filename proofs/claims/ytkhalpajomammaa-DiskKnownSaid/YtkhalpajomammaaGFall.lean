/-
  Layer 7: the landed disk: the power goes.
-/
import Derived.Test.YtkhalpajomammaaGLose
set_option linter.unusedVariables false
namespace Go.Proofs.Ytkhalpajomammaa
open Go.RowKit Go.Maps

theorem Own.take {V : World} {B : Nat} {A : Option Addr} {L cap : Nat} {bs : List UInt8} (h : Own V B (.slice A L cap) bs) {n : Nat} (hn : n ≤ L) : Own V B (.slice A n cap) (bs.take n) := by
  have hl := h.len
  have hn' : (bs.take n).length = n := by rw [List.length_take]; omega
  unfold Own at h ⊢
  rw [hn']
  refine ⟨by simp; omega, ?_⟩
  rcases h.2 with ⟨e, h0⟩ | ⟨q, c, cur, e, hq, hh, h1, h2, h3, h4⟩
  · injection e with e1 e2 e3
    subst e1 e3
    exact .inl ⟨by rw [show n = 0 by omega], by omega⟩
  · injection e with e1 e2 e3
    subst e1 e3
    refine .inr ⟨q, cap, cur, rfl, hq, hh, by omega, h2, h3, ?_⟩
    rw [List.map_take, ← h4, List.take_take]
    congr 1
    omega
theorem brn_zero (n : Nat) : brn 0 n = 0 := by unfold brn; split <;> simp
theorem fall_gone {keep : List Int} {l : List Fl} (h : ∀ f ∈ l, f.mark = f.bs.length) : fall keep l = l := by
  unfold fall
  apply List.ext_getElem
  · simp
  · intro i h1 h2
    have hm := h _ (List.getElem_mem h2)
    simp only [List.getElem_mapIdx]
    obtain ⟨nm, bs, mk, e⟩ : ∃ a b c, l[i] = ⟨a, b, c⟩ := ⟨_, _, _, rfl⟩
    rw [e] at hm ⊢
    simp only at hm
    subst hm
    unfold fallF
    have hb : ∀ z, brn z 1 = 0 := fun z => by
      have := brn_lt z 1 (by omega)
      omega
    simp [hb]
section
variable {V V' : World} {g : Nat} {D : Dk} {F : Nat → Prop} {mb : Nat} {fp : Option Addr} {es : List (Lit × DataW Empty)} {qs : List Cf}
theorem fallTo_done {keep : List Int} {i : Nat} {l : List Fl} {j : Nat} (hj : j < l.length) (hji : j < i) : (fallTo keep i l)[j]'(by rw [fallTo_len]; exact hj) = fallF keep j l[j] := by simp [fallTo, hji]
theorem fallF_full {keep : List Int} {j : Nat} {f : Fl} (hm : f.mark ≤ f.bs.length) : (fallF keep j f).mark = (fallF keep j f).bs.length ∧ (fallF keep j f).bs.length ≤ f.bs.length := by
  unfold fallF
  simp only [List.length_take]
  split
  · have := brn_lt (keep.getD j 0) (f.bs.length - f.mark + 1) (by omega)
    omega
  · omega
theorem fallF_name {keep : List Int} {j : Nat} {f : Fl} : (fallF keep j f).name = f.name := rfl
/-- A file has fallen. -/
theorem RC.fell {keep : List Int} {i : Nat} (h : RC V g { D with l := fallTo keep i D.l } F mb fp es qs) (hi : i < qs.length) {A : Option Addr} {L cap mk k : Nat} (hv : qs[i].v = .slice A L cap) (hL : qs[i].f.bs.length = L) (hmk : qs[i].f.mark = mk)
    (hk : k = if i < keep.length then brn (keep.getD i 0) (L - mk + 1) else 0) (hm : mk ≤ L) (n : Nat) {f0 : Fl} (hf0 : D.l[i]? = some f0) (hof : qs[i].f = f0) :
    RC (((V.setCell ⟨qs[i].q, 1, none⟩ (.int .i64 ((mk + k : Nat) : Int))).setCell ⟨qs[i].q, 0, none⟩ (.slice A (mk + k) cap)).drewN n) g { D with l := fallTo keep (i + 1) D.l } F mb fp es (qs.set i ⟨fallF keep i qs[i].f, qs[i].q, .slice A (mk + k) cap⟩) := by
  have hlt : mk + k ≤ L := by
    rw [hk]
    split
    · have := brn_lt (keep.getD i 0) (L - mk + 1) (by omega)
      omega
    · omega
  have hfe : fallF keep i qs[i].f = ⟨qs[i].f.name, qs[i].f.bs.take (mk + k), mk + k⟩ := by
    unfold fallF
    simp only [hL, hmk, ← hk]
  have hil : i < D.l.length := (List.getElem?_eq_some_iff.1 hf0).1
  have hfl : D.l[i] = f0 := (List.getElem?_eq_some_iff.1 hf0).2
  have hr := h.each _ (List.getElem_mem hi)
  have hk' : ∀ x, x ≠ qs[i].q → (((V.setCell ⟨qs[i].q, 1, none⟩ (.int .i64 ((mk + k : Nat) : Int))).setCell ⟨qs[i].q, 0, none⟩ (.slice A (mk + k) cap)).drewN n).heap[x]? = V.heap[x]? := fun x hx => by
    show ((V.setCell ⟨qs[i].q, 1, none⟩ (.int .i64 ((mk + k : Nat) : Int))).setCell ⟨qs[i].q, 0, none⟩ (.slice A (mk + k) cap)).heap[x]? = _
    rw [set_blk _ _ _ _ hx, set_blk _ _ _ _ hx]
  have hsz : (((V.setCell ⟨qs[i].q, 1, none⟩ (.int .i64 ((mk + k : Nat) : Int))).setCell ⟨qs[i].q, 0, none⟩ (.slice A (mk + k) cap)).drewN n).heap.size = V.heap.size := by
    show ((V.setCell ⟨qs[i].q, 1, none⟩ (.int .i64 ((mk + k : Nat) : Int))).setCell ⟨qs[i].q, 0, none⟩ (.slice A (mk + k) cap)).heap.size = _
    rw [set_size, set_size]
  have hownq : ∀ x, qs[i].v.ownBlock = some x → x ≠ qs[i].q := fun x e ex => by
    rcases hr.own.2 with ⟨e2, _⟩ | ⟨y, c2, cur, e2, _, hh, _⟩
    · rw [e2] at e
      cases e
    · rw [e2] at e
      have e' : some y = some x := e
      injection e' with e'
      subst e'
      rw [ex, hr.obj] at hh
      injection hh with hh
      injection hh with _ hh _
      exact absurd hh (by decide)
  have hob : ∀ x, (Value.slice A (mk + k) cap).ownBlock = some x → qs[i].v.ownBlock = some x := fun x e => by
    rw [hv]
    cases A with
    | none => cases e
    | some a => exact e
  have hobj : (((V.setCell ⟨qs[i].q, 1, none⟩ (.int .i64 ((mk + k : Nat) : Int))).setCell ⟨qs[i].q, 0, none⟩ (.slice A (mk + k) cap)).drewN n).heap[qs[i].q]? = some (.cells #[.slice A (mk + k) cap, .int .i64 ((mk + k : Nat) : Int)] 76 (0, 0)) := by
    show ((V.setCell ⟨qs[i].q, 1, none⟩ (.int .i64 ((mk + k : Nat) : Int))).setCell ⟨qs[i].q, 0, none⟩ (.slice A (mk + k) cap)).heap[qs[i].q]? = _
    have ho := hr.obj
    simp [World.setCell, Array.getElem?_modify, ho]
  have hown := hr.own
  rw [hv] at hown
  have hown2 := hown.take hlt
  have hlen : D.l.length = qs.length := by rw [h.len]; simp [fallTo_len]
  have h2 := h.put (V' := ((V.setCell ⟨qs[i].q, 1, none⟩ (.int .i64 ((mk + k : Nat) : Int))).setCell ⟨qs[i].q, 0, none⟩ (.slice A (mk + k) cap)).drewN n) (G := F) hi (c := ⟨fallF keep i qs[i].f, qs[i].q, .slice A (mk + k) cap⟩) rfl rfl (fun _ e => e) (fun x e => by rw [hsz]; exact h.lt x e)
    (fun x _ hx => hk' x (fun e => hx (.inl e)))
    ⟨by rw [hfe]; exact hobj, by rw [hfe]; exact hown2.onS (fun x e => hk' x (hownq x (hob x e))), fun x e => hr.sub x (by rcases e with e | e; exact .inl e; exact .inr (hob x e))⟩
    (fun x e => .inl (hob x e))
    (fun _ => (fallF_full (by rw [hL, hmk]; exact hm)).1)
    (ok_set h.ok (by rw [← h.len]; exact hi) (by rw [h.get hi]; rfl) (by rw [(fallF_full (by rw [hL, hmk]; exact hm)).1]; exact Nat.le_refl _) (by
      have h1 := (fallF_full (keep := keep) (j := i) (f := qs[i].f) (by rw [hL, hmk]; exact hm)).2
      have h3 := h.ok.sum
      rw [h.get hi]
      show _ + (fallF keep i qs[i].f).bs.length ≤ 4194304 + qs[i].f.bs.length
      omega))
  have e : (fallTo keep i D.l).set i (fallF keep i qs[i].f) = fallTo keep (i + 1) D.l := by
    rw [fallTo_succ keep i D.l hil, hfl, hof]
  rw [show ({ ({ D with l := fallTo keep i D.l } : Dk) with l := ({ D with l := fallTo keep i D.l } : Dk).l.set i (fallF keep i qs[i].f) } : Dk) = { D with l := fallTo keep (i + 1) D.l } by simp only [e]] at h2
  exact h2
end

set_option maxRecDepth 100000 in
set_option maxHeartbeats 8000000 in
theorem gFall (w : World) (g : Nat) (D : Dk) (F : Nat → Prop) (mb : Nat) (fp : Option Addr) (es : List (Lit × DataW Empty)) (qs : List Cf) (h : RC w g D F mb fp es qs) (A : Option Addr) (n c : Nat) (keep : List Int) (hx : IAt w A n keep)
    (hA : 0 < n → InF (fun k => k < w.heap.size ∧ k ≠ g ∧ ∀ c ∈ qs, k ≠ c.q) A) :
    Calls Try.prog 55 #[pt g, .slice A n c] w fun e w' => e = .returned (.tuple #[]) ∧ Grow F w w' ∧ ∃ qs', RC w' g { D with l := fall keep D.l, dead := true } F mb fp es qs' ∧ ∀ p, p < w.heap.size → p ≠ g → (∀ c ∈ qs, p ≠ c.q) → w'.heap[p]? = w.heap[p]? := by
  have NM := Lib.hid (gNames w g D F mb fp es qs h)
  have H := Lib.hid h
  have hlen := h.len
  have hfew := h.ok.few
  have c0 := h.c0
  have HX := Lib.hid hx
  have hxl := hx.1
  obtain ⟨N, hN⟩ : ∃ N, D.l.length = N := ⟨_, rfl⟩
  rw [hN] at NM
  clear h hx
  go_enter Try.func55, Try.ntmps55
  go_wp2_with (first
    | (go_at_call 57; refine NM.out.mono ?_; rintro e w1 ⟨NA, nc, rfl, hT, hnc, hncm, hin, hb1⟩))
  go_loopw [10] (fun iv wr => ∃ (k : Nat) (ps : List Cf), k ≤ N ∧ iv = .int .i64 k ∧ Hid (RC wr g { D with l := fallTo keep k D.l } F mb fp es ps ∧ Grow F w1 wr ∧ (∃ hl : ps.length = qs.length, ∀ j, (hj : j < qs.length) → (ps[j]'(hl ▸ hj)).q = qs[j].q ∧ (k ≤ j → (ps[j]'(hl ▸ hj)).f = qs[j].f)) ∧ ∀ p, p < w.heap.size → p ≠ g → (∀ c ∈ qs, p ≠ c.q) → wr.heap[p]? = w.heap[p]?)) (fun iv _ => N - (intOf iv).toNat)
  case atStart => exact ⟨0, qs, Nat.zero_le _, rfl, Lib.hid ⟨by rw [fallTo_zero]; exact H.out.below hb1, Grow.refl _ _, ⟨rfl, fun j hj => ⟨rfl, fun _ => rfl⟩⟩, fun p hp _ _ => hb1.block p hp⟩⟩
  case round =>
    obtain ⟨k, ps, hk, rfl, HR⟩ := hrel
    obtain ⟨hR, hG, ⟨hpl, hps⟩, hkp⟩ := HR.out
    by_cases hlt : k < N
    · obtain ⟨nb, no, rfl, hcell⟩ := hT.2 (by omega)
      have hkl : k < D.l.length := by omega
      have hkq : k < qs.length := by omega
      have hkps : k < ps.length := by omega
      have hnm := hcell k (by rw [List.length_map]; omega)
      rw [List.getElem_map] at hnm
      obtain ⟨nm, hnmE⟩ : ∃ x, D.l[k].name = x := ⟨_, rfl⟩
      rw [hnmE] at hnm
      have hnb : nb < w1.heap.size ∧ ¬ F nb := by
        have := hin _ rfl
        exact ⟨this.2, fun e => by have h := H.out.lt nb e; have h2 := this.1; simp only at h2; omega⟩
      have hnmr : wr.cell? ⟨nb, no + k, none⟩ = some (.string nm) := (World.cell?_of_block (a := ⟨nb, no + k, none⟩) (hG.block nb hnb.1 hnb.2)).trans hnm
      have hlk : (fallTo keep k D.l).length = D.l.length := fallTo_len _ _ _
      have hgk : (fallTo keep k D.l)[k]'(by omega) = D.l[k] := fallTo_get keep k D.l hkl
      have hof : ps[k].f = D.l[k] := by rw [(hps k hkq).2 (Nat.le_refl _), H.out.get hkq]
      have hat := isAt_of (l := fallTo keep k D.l) hR.ok.sorted (i := k) (by omega)
      rw [hgk, hnmE] at hat
      have hL := hR.look_yes hat.1 hat.2 false hkps
      simp only [Bool.false_eq_true, if_false] at hL
      have c0r := hR.c0
      obtain ⟨FA, fc, hv, d0, d1, hfat, hfc, hfcm, _⟩ := hR.file hkps
      have hfz : ∀ i, wr.frozen? ⟨ps[k].q, i, none⟩ = false := fun i => by
        have ho := (hR.each _ (List.getElem_mem hkps)).obj
        simp [World.frozen?, ho]
      have hmk := hR.ok.marks _ (List.getElem_mem (show k < (fallTo keep k D.l).length by omega))
      rw [hgk, ← hof] at hmk
      have hsz : ps[k].f.bs.length ≤ 4194304 := by
        have h1 := sum_take_succ (fallTo keep k D.l) k (by omega)
        have h2 := sum_take_le (fallTo keep k D.l) (k + 1)
        have h3 := hR.ok.sum
        simp only at h3
        rw [hgk, ← hof] at h1
        omega
      obtain ⟨count, hcount⟩ : ∃ z : Int, z = if k < keep.length then keep.getD k 0 else 0 := ⟨_, rfl⟩
      obtain ⟨K, hK⟩ : ∃ K, brn count (ps[k].f.bs.length - ps[k].f.mark + 1) = K := ⟨_, rfl⟩
      have hKe : K = if k < keep.length then brn (keep.getD k 0) (ps[k].f.bs.length - ps[k].f.mark + 1) else 0 := by
        rw [← hK, hcount]
        split
        · rfl
        · exact brn_zero _
      have LO := Lib.hid (gLose wr ps[k].q FA ps[k].f.bs.length fc ps[k].f.mark count d0 d1 hfz hmk hsz hfc)
      have FE := Lib.hid (fun (m : Nat) => hR.fell hkps hv rfl rfl hKe hmk m (List.getElem?_eq_getElem hkl) hof)
      rw [hK] at LO
      have HPS := Lib.hid hps
      have HG := Lib.hid hG
      have HKP := Lib.hid hkp
      have hqF : F ps[k].q := (hR.each _ (List.getElem_mem hkps)).sub _ (.inl rfl)
      have HQ := Lib.hid (show F ps[k].q ∧ ps[k].q = qs[k].q from ⟨hqF, (hps k hkq).1⟩)
      generalize hLL : ps[k].f.bs.length = L at *
      generalize hMM : ps[k].f.mark = M at *
      generalize hQQ : ps[k].q = q at *
      have hrel2 : ∀ V, (∃ m, V = ((wr.setCell ⟨q, 1, none⟩ (.int .i64 ((M + K : Nat) : Int))).setCell ⟨q, 0, none⟩ (.slice FA (M + K) fc)).drewN m) → ∃ ps' : List Cf, Hid (RC V g { D with l := fallTo keep (k + 1) D.l } F mb fp es ps' ∧ Grow F w1 V ∧ (∃ hl : ps'.length = qs.length, ∀ j, (hj : j < qs.length) → (ps'[j]'(hl ▸ hj)).q = qs[j].q ∧ (k + 1 ≤ j → (ps'[j]'(hl ▸ hj)).f = qs[j].f)) ∧ ∀ p, p < w.heap.size → p ≠ g → (∀ c ∈ qs, p ≠ c.q) → V.heap[p]? = w.heap[p]?) := by
        rintro V ⟨m, rfl⟩
        refine ⟨_, Lib.hid ⟨FE.out m, ((HG.out.set (p := ⟨q, 1, none⟩) (.inl HQ.out.1) _).set (p := ⟨q, 0, none⟩) (.inl HQ.out.1) _).drewN m, ⟨by rw [List.length_set]; exact hpl, fun j hj => ?_⟩, fun p hp hpg hpq => ?_⟩⟩
        · rw [List.getElem_set]
          by_cases e : k = j
          · subst e
            rw [if_pos rfl]
            exact ⟨HQ.out.2, fun h => by omega⟩
          · rw [if_neg e]
            exact ⟨(HPS.out j hj).1, fun h => (HPS.out j hj).2 (by omega)⟩
        · have hne : p ≠ q := by rw [HQ.out.2]; exact hpq _ (List.getElem_mem hkq)
          show ((wr.setCell ⟨q, 1, none⟩ (.int .i64 ((M + K : Nat) : Int))).setCell ⟨q, 0, none⟩ (.slice FA (M + K) fc)).heap[p]? = _
          rw [set_blk _ _ _ _ hne, set_blk _ _ _ _ hne]
          exact HKP.out p hp hpg hpq
      have HR2 := Lib.hid hrel2
      clear hrel2 HR hR hG hps hkp hcell FE hat hof hgk hfat hv hKe hK hmk hsz hqF
      by_cases hkn : k < n
      · have hkl2 : k < keep.length := by omega
        obtain ⟨kb, ko, rfl, hkc⟩ := HX.out.2 (by omega)
        have hkA := hA (by omega) _ rfl
        have hkc2 : wr.cell? ⟨kb, ko + k, none⟩ = some (.int .i64 count) := by
          rw [World.cell?_of_block (a := ⟨kb, ko + k, none⟩) (HKP.out kb hkA.1 hkA.2.1 hkA.2.2), hkc k hkl2, hcount, if_pos hkl2, List.getD_eq_getElem?_getD, List.getElem?_eq_getElem hkl2]
          rfl
        have hg1 : decide ((k : Int) < (N : Int)) = true := decide_eq_true (by omega)
        have hg2 : decide ((k : Int) < (n : Int)) = true := decide_eq_true (by omega)
        clear hkc hcount
        go_wp2_with (first
          | (go_at_call 74; refine LO.out.mono ?_; rintro e w2 ⟨rfl, hw2⟩; obtain ⟨ps', HN⟩ := HR2.out _ hw2))
        go_roundw
        case rel => exact ⟨k + 1, ps', by omega, by go_num, HN⟩
        case measure => simp [intOf]; omega
      · have hcz : count = 0 := by rw [hcount, if_neg (by omega)]
        subst hcz
        have hg1 : decide ((k : Int) < (N : Int)) = true := decide_eq_true (by omega)
        have hg2 : decide ((k : Int) < (n : Int)) = false := decide_eq_false (by omega)
        clear hcount
        go_wp2_with (first
          | (go_at_call 74; refine LO.out.mono ?_; rintro e w2 ⟨rfl, hw2⟩; obtain ⟨ps', HN⟩ := HR2.out _ hw2))
        go_roundw
        case rel => exact ⟨k + 1, ps', by omega, by go_num, HN⟩
        case measure => simp [intOf]; omega
    · have hkk : k = N := by omega
      subst hkk
      have hg1 : decide ((k : Int) < (k : Int)) = false := decide_eq_false (by omega)
      have hzz := hR.fz 1
      have hc1 := hR.c1
      have HG := Lib.hid hG
      have HKP := Lib.hid hkp
      have HRR := Lib.hid hR
      clear HR hR hG hps hkp hT
      go_wp2_with fail
      first | go_end0 | (refine bodyPost_ret (results_none rfl _ _ _) rfl ?_)
      have e : fallTo keep k D.l = fall keep D.l := by rw [← hN]; exact fallTo_all _ _
      have hR2 := HRR.out
      rw [e] at hR2
      have hO := hR2.ok
      have ho := hR2.obj
      have hgl := H.out.lt g H.out.fg
      refine ⟨rfl, (Grow.of_below (F := F) hb1).trans ((HG.out.set (p := ⟨g, 1, none⟩) (.inl H.out.fg) (.bool true)).mono (fun _ e => .inl e)), ⟨ps, hR2.obj' (D' := { D with l := fall keep D.l, dead := true }) rfl (by simp [World.setCell, Array.getElem?_modify, ho]) (fun x _ hx _ => set_blk _ _ _ _ hx) (fun _ e => e) (fun x e => by rw [set_size]; exact hR2.lt x e) (fun h => by cases h) (fun _ f hf => ?_) ⟨hO.sorted, hO.marks, hO.few, hO.sum, hO.low, hO.high⟩⟩, fun p hp hpg hpq => (set_blk _ _ _ _ hpg).trans (HKP.out p hp hpg hpq)⟩
      obtain ⟨j, hj, rfl⟩ := List.mem_iff_getElem.1 hf
      have hj' : j < D.l.length := by simpa [fall] using hj
      have e2 : (fall keep D.l)[j] = fallF keep j D.l[j] := by simp [fall]
      rw [e2]
      exact (fallF_full (H.out.ok.marks _ (List.getElem_mem hj'))).1
end Go.Proofs.Ytkhalpajomammaa
