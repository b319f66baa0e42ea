/-
  Layer 7: the landed disk: how many bytes are stored.
-/
import Derived.Test.YtmjoaeljfhgojaaGLow
set_option linter.unusedVariables false
namespace Go.Proofs.Ytmjoaeljfhgojaa
open Go.RowKit Go.Maps

/-- The bytes of those that are no longer to come. -/
def sumL (left : Lit → Bool) (qs : List Cf) : Nat := ((qs.filter (fun c => !left (sk c.f.name))).map (fun c => c.f.bs.length)).sum
theorem sumL_none {left : Lit → Bool} : ∀ {qs : List Cf}, (∀ c ∈ qs, left (sk c.f.name) = true) → sumL left qs = 0
  | [], _ => rfl
  | c :: qs, h => by
    have h1 := h c (by simp)
    have h2 := sumL_none (qs := qs) (fun x hx => h x (by simp [hx]))
    unfold sumL at *
    simp [h1, h2]
theorem sumL_le (left : Lit → Bool) : ∀ qs : List Cf, sumL left qs ≤ sum (qs.map Cf.f)
  | [] => Nat.le_refl _
  | c :: qs => by
    have ih := sumL_le left qs
    unfold sumL sum at *
    cases h : left (sk c.f.name)
    · rw [List.filter_cons_of_pos (by simp [h])]
      simp at ih ⊢
      omega
    · rw [List.filter_cons_of_neg (by simp [h])]
      simp at ih ⊢
      omega
theorem sumL_all {left : Lit → Bool} (h : ∀ kl, left kl = false) (qs : List Cf) : sumL left qs = sum (qs.map Cf.f) := by
  unfold sumL sum
  rw [List.filter_eq_self.2 (fun c _ => by rw [h]; rfl), List.map_map]
  rfl
theorem sumL_same {left : Lit → Bool} {kl : Lit} : ∀ {qs : List Cf}, (∀ c ∈ qs, sk c.f.name ≠ kl) → sumL (fun z => left z && !z.sameKey kl) qs = sumL left qs
  | [], _ => rfl
  | c :: qs, h => by
    have h1 := Maps.sameKey_ne (h c (by simp))
    have h2 := sumL_same (left := left) (kl := kl) (qs := qs) (fun x hx => h x (by simp [hx]))
    unfold sumL at *
    cases hl : left (sk c.f.name) <;> simp [hl, h1] at h2 ⊢ <;> simp [h2]
theorem sumL_step {left : Lit → Bool} : ∀ {qs : List Cf} {j : Nat} (hj : j < qs.length), qs.Pairwise (fun a b => a.f.name ≠ b.f.name) → left (sk qs[j].f.name) = true →
    sumL (fun z => left z && !z.sameKey (sk qs[j].f.name)) qs = sumL left qs + qs[j].f.bs.length
  | c :: qs, 0, _, hp, hl => by
    obtain ⟨h1, h2⟩ := List.pairwise_cons.1 hp
    have e := sumL_same (left := left) (kl := sk c.f.name) (qs := qs) (fun x hx e => h1 x hx (sk_inj e).symm)
    have hs : (sk c.f.name).sameKey (sk c.f.name) = true := WideAt.sameKey_self trivial
    have hl' : left (sk c.f.name) = true := hl
    unfold sumL at *
    simp only [List.getElem_cons_zero]
    rw [List.filter_cons_of_pos (by simp [hs]), List.filter_cons_of_neg (by simp [hl']), List.map_cons, List.sum_cons, e]
    omega
  | c :: qs, j + 1, hj, hp, hl => by
    obtain ⟨h1, h2⟩ := List.pairwise_cons.1 hp
    have hj' : j < qs.length := by simpa using hj
    have ih := sumL_step hj' h2 hl
    have hs : (sk c.f.name).sameKey (sk qs[j].f.name) = false := Maps.sameKey_ne (fun e => h1 _ (List.getElem_mem hj') (sk_inj e))
    unfold sumL at *
    simp only [List.getElem_cons_succ]
    cases hl' : left (sk c.f.name)
    · rw [List.filter_cons_of_pos (by simp [hl']), List.filter_cons_of_pos (by simp [hl']), List.map_cons, List.sum_cons, List.map_cons, List.sum_cons, ih]
      omega
    · rw [List.filter_cons_of_neg (by simp [hl', hs]), List.filter_cons_of_neg (by simp [hl']), ih]
section
variable {w : World} {g : Nat} {D : Dk} {F : Nat → Prop} {mb : Nat} {fp : Option Addr} {es : List (Lit × DataW Empty)} {qs : List Cf}
theorem RC.names_ne (h : RC w g D F mb fp es qs) : qs.Pairwise (fun a b => a.f.name ≠ b.f.name) := by
  have h1 := h.ok.sorted
  rw [← h.eq] at h1
  exact (List.pairwise_map.1 h1).imp (fun hh => nl_ne hh)
/-- What the map says at a key is a file's block. -/
theorem RC.entry (h : RC w g D F mb fp es qs) {kl : Lit} {y : DataW Empty} (hat : ∀ zd, (DataW.map es).atKey kl zd = y) : ∃ j, ∃ hj : j < qs.length, kl = sk qs[j].f.name ∧ y = .lit (.int .i64 (qs[j].q : Int)) := by
  have hh := Maps.has_true_of_atKey hat
  obtain ⟨p, hp, hpk⟩ := List.any_eq_true.1 hh
  have e1 := WideAt.sameKey_eq hpk
  obtain ⟨c, hc, hce⟩ := List.mem_map.1 (h.perm.mem_iff.1 hp)
  obtain ⟨j, hj, rfl⟩ := List.mem_iff_getElem.1 hc
  obtain ⟨es', e, hap, hkk⟩ := h.map.entries lawK
  injection e with e
  subst e
  have e2 := WideAt.atKey_mem (entries := es) (k := p.1) (d := p.2) .nil (hkk p hp) hap hp
  rw [e1, hat] at e2
  refine ⟨j, hj, ?_, ?_⟩
  · rw [← e1, ← hce]
    rfl
  · rw [e2, ← hce]
    rfl
/-- A file's cells and bytes. -/
theorem RC.file (h : RC w g D F mb fp es qs) {j : Nat} (hj : j < qs.length) : ∃ A c, qs[j].v = .slice A qs[j].f.bs.length c ∧ w.cell? ⟨qs[j].q, 0, none⟩ = some (.slice A qs[j].f.bs.length c) ∧ w.cell? ⟨qs[j].q, 1, none⟩ = some (.int .i64 (qs[j].f.mark : Int)) ∧ At w A qs[j].f.bs.length qs[j].f.bs ∧ qs[j].f.bs.length ≤ c ∧ c ≤ 9223372036854775807 ∧ (A = none → c = 0) := by
  have hr := h.each _ (List.getElem_mem hj)
  obtain ⟨A, c, hv, h1, h2, h3, h4⟩ := hr.own.form
  refine ⟨A, c, hv, ?_, ?_, h1, h2, h3, h4⟩
  · rw [← hv]
    exact cell_of_row w _ 0 _ _ (0, 0) hr.obj
  · exact cell_of_row w _ 1 _ _ (0, 0) hr.obj
end
set_option maxRecDepth 100000 in
set_option maxHeartbeats 4000000 in
theorem gStored (w : World) (g : Nat) (D : Dk) (F : Nat → Prop) (mb : Nat) (fp : Option Addr) (es : List (Lit × DataW Empty)) (qs : List Cf) (h : RC w g D F mb fp es qs) :
    Calls Try.prog 50 #[pt g] w fun e w' => e = .returned (.int .i64 (sum D.l : Nat)) ∧ Below w.heap.size w w' := by
  have c0 := h.c0
  have hown := h.map
  have hgl := h.lt g h.fg
  have H := Lib.hid h
  have hsum := h.ok.sum
  clear h
  go_enter Try.func50, Try.ntmps50
  go_wp2_with (first
    | (at_range; refine wpList_range_own _ rfl _ 65 rfl 9 71 lawK Try.underlying65 _ mb 20 _ rfl hown ?_; intro w0 hrg0 hg0 hs0))
  go_frame
  go_loopw [3] (fun nv wr => ∃ (left : Lit → Bool) (cnt m : Nat), wr.ranges Try.prog 9 fE mb w.heap.size 20 (.map es) left cnt ∧ Below w.heap.size w wr ∧ nv = .int .i64 m ∧ m = sumL left qs)
    (fun _ wr => wr.rangeLeft mb w.heap.size)
  case atStart =>
    refine ⟨_, _, 0, hrg0, ⟨hg0.os, hg0.tape, hg0.output, hg0.size, fun k hk => hg0.block k hk (by simp)⟩, rfl, ?_⟩
    refine (sumL_none (fun c hc => ?_)).symm
    exact List.any_eq_true.2 ⟨c.ent, H.out.perm.mem_iff.2 (List.mem_map.2 ⟨c, hc, rfl⟩), WideAt.sameKey_self trivial⟩
  case round =>
    obtain ⟨left, cnt, m, hrg, hbl, rfl, hm⟩ := hrel
    have HM := Lib.hid hm
    clear hm
    go_wp2_with (first
      | (at_next; refine wpList_next_ranges _ rfl _ rfl 9 lawK fE Value.string Value.pointer (fun key kl hk => by obtain ⟨s, e, _⟩ := WideMaps.string_of_keyOf Try.underlying9 hk; exact ⟨s, e⟩) (fun v y hv => by rcases fE_shape hv with ⟨q, e, _⟩ | ⟨e, _⟩ <;> exact ⟨_, e⟩) mb w.heap.size 20 _ _ _ rfl hrg ?_ ?_))
    · intro _ hl0
      have e : (m : Int) = (sum D.l : Nat) := by rw [HM.out, sumL_all hl0, H.out.eq]
      go_wp2
      go_ret
      exact ⟨by rw [e]; rfl, hbl⟩
    · intro x c kl y yp w1 cnt1 hkx hlk hRv hat hrg1 hlt hg1 hs1 hen
      obtain ⟨j, hj, rfl, hy⟩ := H.out.entry hat
      have hc : c = some ⟨qs[j].q, 0, none⟩ := by
        rcases fE_shape hRv with ⟨q, e, e2⟩ | ⟨e, e2⟩
        · have e3 : (DataW.lit (.int .i64 (qs[j].q : Int)) : DataW Empty) = .lit (.int .i64 (q : Int)) := hy.symm.trans (congrArg Prod.fst e2)
          have e4 : qs[j].q = q := Int.ofNat_inj.1 (Lit.int.inj (DataW.lit.inj e3)).2
          rw [e4]
          injection e
        · have e3 : (DataW.lit (.int .i64 (qs[j].q : Int)) : DataW Empty) = .nil := hy.symm.trans (congrArg Prod.fst e2)
          cases e3
      subst hc
      have hbl1 : Below w.heap.size w w1 := ⟨hg1.os.trans hbl.os, hg1.tape.trans hbl.tape, hg1.output.trans hbl.output, by rw [hs1]; exact hbl.size, fun k hk => (hg1.block k (by have := hbl.size; omega) (by intro e; injection e with e; omega)).trans (hbl.block k hk)⟩
      obtain ⟨A, cc, _, hd0, _, _, _⟩ := (H.out.below hbl1).file hj
      have hst := sumL_step (left := left) hj H.out.names_ne hlk
      have hle : m + qs[j].f.bs.length ≤ 4194304 := by
        have h1 := sumL_le (fun z => left z && !z.sameKey (sk qs[j].f.name)) qs
        rw [H.out.eq, hst, ← HM.out] at h1
        omega
      have hw : IntKind.i64.wrap ((m : Int) + (qs[j].f.bs.length : Int)) = (m : Int) + (qs[j].f.bs.length : Int) := IntWalk.i64_in _ (by omega)
      have HS := Lib.hid (show m + qs[j].f.bs.length = sumL (fun z => left z && !z.sameKey (sk qs[j].f.name)) qs by rw [hst, HM.out])
      generalize hL : qs[j].f.bs.length = L at *
      generalize hQ : qs[j].q = q at *
      clear hst hat hRv hy
      go_wp2_with fail
      go_roundw
      case rel => exact ⟨_, cnt1, m + L, hrg1, hbl1, by go_num, HS.out⟩
      case measure => rw [hrg1.left_eq, hrg.left_eq]; exact hlt
end Go.Proofs.Ytmjoaeljfhgojaa
