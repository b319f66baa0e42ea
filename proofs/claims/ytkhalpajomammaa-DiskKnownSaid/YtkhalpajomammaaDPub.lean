/-
  Layer 7: the document's disk: fails, New, Boot, Fail, Sync.
-/
import Derived.Test.YtkhalpajomammaaDWout
set_option linter.unusedVariables false
namespace Go.Proofs.Ytkhalpajomammaa
open Go.RowKit

theorem nF_same {F : Nat → Prop} {V V' : World} (h : V'.heap.size = V.heap.size) : ∀ k, nF F V V' k ↔ F k := fun k => by
  unfold nF
  rw [h]
  exact ⟨fun e => e.elim id (fun e => by omega), .inl⟩
section
variable {V V' : World} {g : Nat} {D : Dk} {F Fb G : Nat → Prop} {v : Value} {A : Option Addr} {n c : Nat} {qs : List Fv}
/-- What a call's end wants, of a disk whose parts are known. -/
theorem RDkB.ends {w : World} (h : RDkB V g D G Fb v A n c qs) (hG : ∀ k, G k → nF F w V k) (hg : Grow F w V) (hl : ∀ k, F k → k < w.heap.size) : Turns RDk w g F D V :=
  ⟨⟨Fb, v, A, n, c, qs, h.mono hG (fun k e => by rcases e with e | e; exact Nat.lt_of_lt_of_le (hl k e) hg.size; exact e.2)⟩, hg⟩
theorem RDkB.keepIn (h : RDkB V g D F Fb v A n c qs) : InF (fun k => k < V.heap.size ∧ k ≠ g ∧ v.ownBlock ≠ some k) A := fun a e => by
  have h1 := h.keepF a e
  exact ⟨h.lt _ (h.sub _ h1), fun e2 => h.fg.2.1 (e2 ▸ h1), fun e2 => (h.list.own _ e2).2 h1⟩
end

set_option maxHeartbeats 4000000 in
theorem fails_no (w : World) (g : Nat) (D : Dk) (F Fb : Nat → Prop) (v : Value) (KA : Option Addr) (kn kc : Nat) (qs : List Fv) (h : RDkB w g D F Fb v KA kn kc qs) (hl : D.left ≠ 0) :
    Calls Try.prog 71 #[pt g] w fun e w' => e = .returned (.bool false) ∧ RDkB w' g { D with left := if 0 < D.left then D.left - 1 else D.left } F Fb v KA kn kc qs ∧ Grow F w w' := by
  have c2 := h.c2
  have z2 := h.fz 2
  have hlo := h.ok.low
  have hhi := h.ok.high
  have H := Lib.hid h
  obtain ⟨x, hx⟩ : ∃ x, D.left = x := ⟨_, rfl⟩
  rw [hx] at c2 hlo hhi hl
  have HX := Lib.hid hx
  rw [hx]
  clear h hx
  by_cases h0 : 0 < x
  · have hw : IntKind.i64.wrap (x - 1) = x - 1 := IntWalk.i64_in _ (by omega)
    rw [if_pos h0]
    go_enter Try.func71, Try.ntmps71
    go_wp2_with fail
    go_ret
    exact ⟨rfl, H.out.setLeft (x - 1) (by omega) (by omega), (Grow.refl _ _).set (p := ⟨g, 2, none⟩) (.inl H.out.fg.1) _⟩
  · rw [if_neg h0]
    go_enter Try.func71, Try.ntmps71
    go_wp2_with fail
    go_ret
    refine ⟨rfl, ?_, Grow.refl _ _⟩
    rw [← HX.out]
    exact H.out
set_option maxHeartbeats 4000000 in
theorem fails_yes (w : World) (g : Nat) (D : Dk) (F Fb : Nat → Prop) (v : Value) (KA : Option Addr) (kn kc : Nat) (qs : List Fv) (h : RDkB w g D F Fb v KA kn kc qs) (hl : D.left = 0) :
    Calls Try.prog 71 #[pt g] w fun e w' => e = .returned (.bool true) ∧ Turns RDk w g F (crash D D.keep) w' := by
  have c2 := h.c2
  have c3 := h.c3
  rw [hl] at c2
  have CR := Lib.hid (crash_b w g D F Fb v KA kn kc qs KA kn kc D.keep h h.keep h.keepIn h.kcap.1 h.kcap.2)
  clear h hl
  go_enter Try.func71, Try.ntmps71
  go_wp2_with (first | (go_at_call 40; refine CR.out.mono ?_; rintro e w1 ⟨rfl, ht⟩))
  go_ret
  exact ⟨rfl, ht⟩

theorem new_ok (w : World) : Calls Try.prog 10 #[] w fun e w' => ∃ g, e = .returned (pt g) ∧ w.heap.size ≤ g ∧ RDk w' g dk0 (fun k => w.heap.size ≤ k ∧ k < w'.heap.size) ∧ Below w.heap.size w w' := by
  go_enter Try.func10, Try.ntmps10
  go_wp2_with fail
  go_ret
  have hx := heap_alloc_new w (.cells #[.slice none 0 0, .bool false, .int .i64 (-1), .slice none 0 0] 39)
  refine ⟨w.heap.size, rfl, Nat.le_refl _, ⟨fun _ => False, .slice none 0 0, none, 0, 0, [], hx, rfl, ⟨World.ownsRow_nil _ _ _ _, fun k e => (nomatch e), fun q hq => (nomatch hq)⟩, IAt.nil _ _, fun a e => (nomatch e), ⟨by omega, by omega⟩,
    ⟨⟨Nat.le_refl _, by simp⟩, fun e => e, fun e => (nomatch e)⟩, fun k e => e.elim, fun k e => e.2, ⟨List.Pairwise.nil, fun f hf => (by cases hf), by simp [dk0], by simp [dk0, sum], by simp [dk0], by simp [dk0]⟩⟩, (Below.refl _ _).alloc (Nat.le_refl _) _⟩

theorem boot_ok (w : World) (g : Nat) (D : Dk) (F : Nat → Prop) (h : RDk w g D F) :
    Calls Try.prog 42 #[pt g] w fun e w' => e = .returned (.tuple #[]) ∧ Turns RDk w g F (boot D) w' := by
  obtain ⟨Fb, v, KA, kn, kc, qs, h⟩ := h
  have c1 := h.c1
  have c2 := h.c2
  have z1 := h.fz 1
  have z2 := h.fz 2
  have H := Lib.hid h
  clear h
  go_enter Try.func42, Try.ntmps42
  go_wp2_with fail
  first | go_end0 | (refine bodyPost_ret (results_none rfl _ _ _) rfl ?_)
  have h1 := (H.out.setDead false).setLeft (-1) (by omega) (by omega)
  exact ⟨rfl, h1.ends (fun k e => .inl e) (((Grow.refl _ _).set (p := ⟨g, 1, none⟩) (.inl H.out.fg.1) _).set (p := ⟨g, 2, none⟩) (.inl H.out.fg.1) _) H.out.lt⟩

theorem turns_below {w V V' : World} {g : Nat} {F : Nat → Prop} {D : Dk} (hb : Below w.heap.size w V) (h : Turns RDk V g F D V') (hl : ∀ k, F k → k < w.heap.size) : Turns RDk w g F D V' :=
  ⟨h.1.mono (fun k e => by rcases e with e | e; exact .inl e; exact .inr ⟨by have := hb.size; omega, e.2⟩) (fun k e => by rcases e with e | e; exact Nat.lt_of_lt_of_le (hl k e) (Nat.le_trans hb.size h.2.size); exact e.2), (Grow.of_below hb).trans (h.2.mono (fun k e => .inl e))⟩
/-! ### plain: the file of a name -/
theorem fileAt_eq {l : List Fl} {s : ByteArray} {p : Nat} (hp : pos l s = p) (hi : isAt l s = true) : ∃ h : p < l.length, fileAt l s = l[p] ∧ l[p].name = s := by
  have h := isAt_lt hi
  rw [hp] at h
  refine ⟨h, ?_, ?_⟩
  · unfold fileAt
    rw [if_pos hi, hp, List.getD_eq_getElem?_getD, List.getElem?_eq_getElem h]
    rfl
  · rw [isAt_eq hp h] at hi
    exact of_decide_eq_true hi
theorem work_no {D : Dk} (h : D.left ≠ 0) (f : List Fl → List Fl) : work D f = { D with l := f D.l, left := if 0 < D.left then D.left - 1 else D.left } := by unfold work; rw [if_neg h]
theorem work_yes {D : Dk} (h : D.left = 0) (f : List Fl → List Fl) : work D f = crash D D.keep := by unfold work; rw [if_pos h]

theorem RDkB.cells {V : World} {g : Nat} {D : Dk} {F Fb : Nat → Prop} {A : Option Addr} {n c : Nat} {qs : List Fv} {b m cap : Nat} (h : RDkB V g D F Fb (.slice (some ⟨b, 0, none⟩) m cap) A n c qs) {i : Nat} (hi : i < qs.length) {nm : ByteArray} {bs : List UInt8} {mk : Nat} {qA : Option Addr} {qc : Nat} (hq : qs[i] = ⟨⟨nm, bs, mk⟩, qA, qc⟩) :
    V.cell? ⟨b, i * 3, none⟩ = some (.string nm) ∧ V.cell? ⟨b, i * 3 + 1, none⟩ = some (.slice qA bs.length qc) ∧ V.cell? ⟨b, i * 3 + 2, none⟩ = some (.int .i64 (mk : Int)) := by
  obtain ⟨_, _, e, _, _, _, hc⟩ := h.list.form
  injection e with e1 e2 e3
  obtain ⟨b', e4, _, _, hcl⟩ := hc (by omega)
  rw [e4] at e1
  injection e1 with e1
  injection e1 with e1
  subst e1
  have h1 := hcl i hi
  rw [hq] at h1
  exact h1
theorem set_off (V : World) {g i j : Nat} (u : Value) (h : i ≠ j) : (V.setCell ⟨g, i, none⟩ u).cell? ⟨g, j, none⟩ = V.cell? ⟨g, j, none⟩ := by
  simp only [World.cell?, World.setCell, Array.getElem?_modify]
  cases hv : V.heap[g]? with
  | none => simp
  | some o => cases o <;> simp [h]
theorem RDkB.store2 {V : World} {g : Nat} {D : Dk} {F Fb : Nat → Prop} {A : Option Addr} {n c : Nat} {qs : List Fv} {b m cap : Nat} (h : RDkB V g D F Fb (.slice (some ⟨b, 0, none⟩) m cap) A n c qs) {i : Nat} (hi : i < qs.length) {nm : ByteArray} {bs bt : List UInt8} {mk K M : Nat} {qA A1 : Option Addr} {qc c1 : Nat}
    (hq : qs[i] = ⟨⟨nm, bs, mk⟩, qA, qc⟩) (hK : bt.length = K) (hr : RFl V Fb ⟨⟨nm, bt, M⟩, A1, c1⟩) (ho : ({ D with l := D.l.set i ⟨nm, bt, M⟩ } : Dk).ok) :
    RDkB ((V.setCell ⟨b, i * 3 + 1, none⟩ (.slice A1 K c1)).setCell ⟨b, i * 3 + 2, none⟩ (.int .i64 (M : Int))) g { D with l := D.l.set i ⟨nm, bt, M⟩ } F Fb (.slice (some ⟨b, 0, none⟩) m cap) A n c (qs.set i ⟨⟨nm, bt, M⟩, A1, c1⟩) := by
  have hob := h.list.own b rfl
  have hgb : g ≠ b := fun e => h.fg.2.2 (by rw [e]; rfl)
  have hm : m = qs.length := by
    obtain ⟨_, _, e, _⟩ := h.list.form
    injection e
  subst hm
  have k : ∀ x, x ≠ b → ((V.setCell ⟨b, i * 3 + 1, none⟩ (.slice A1 K c1)).setCell ⟨b, i * 3 + 2, none⟩ (.int .i64 (M : Int))).heap[x]? = V.heap[x]? := fun x hx => by
    rw [set_blk _ _ _ _ hx, set_blk _ _ _ _ hx]
  have hFb : ∀ x, Fb x → ((V.setCell ⟨b, i * 3 + 1, none⟩ (.slice A1 K c1)).setCell ⟨b, i * 3 + 2, none⟩ (.int .i64 (M : Int))).heap[x]? = V.heap[x]? := fun x hx => k x (fun e => hob.2 (e ▸ hx))
  have hrow1 := (h.list.row.stored (i * 3 + 1) (.slice A1 K c1)).1
  rw [rows_set qs i 1 _ ⟨⟨nm, bt, mk⟩, A1, c1⟩ hi (by omega) (by rw [hq]; simp only [Fv.vals]; rw [hK]; rfl)] at hrow1
  have hrow := (hrow1.stored (i * 3 + 2) (.int .i64 (M : Int))).1
  rw [rows_set (qs.set i ⟨⟨nm, bt, mk⟩, A1, c1⟩) i 2 _ ⟨⟨nm, bt, M⟩, A1, c1⟩ (by rw [List.length_set]; exact hi) (by omega) (by rw [List.getElem_set_self]; rfl), List.set_set] at hrow
  refine ⟨(k g hgb).trans h.obj, by rw [List.map_set, h.eq], ⟨by rw [List.length_set]; exact hrow, h.list.own, fun x hx => ?_⟩, h.keep.on h.keepF hFb, h.keepF, h.kcap, h.fg, h.sub, fun x e => ?_, ho⟩
  · rcases List.mem_or_eq_of_mem_set hx with h1 | rfl
    · exact (h.list.each x h1).on hFb (fun _ e => e)
    · exact hr.on hFb (fun _ e => e)
  · rw [set_size, set_size]
    exact h.lt x e
theorem RDkB.bytes {V : World} {g : Nat} {D : Dk} {F Fb : Nat → Prop} {v : Value} {A : Option Addr} {n c : Nat} {qs : List Fv} (h : RDkB V g D F Fb v A n c qs) {i : Nat} (hi : i < qs.length) {nm : ByteArray} {bs : List UInt8} {mk : Nat} {qA : Option Addr} {qc : Nat} (hq : qs[i] = ⟨⟨nm, bs, mk⟩, qA, qc⟩) :
    At V qA bs.length bs ∧ bs.length ≤ qc ∧ qc ≤ 9223372036854775807 ∧ InF Fb qA := by
  have h1 := h.list.each _ (List.getElem_mem hi)
  rw [hq] at h1
  exact ⟨h1.at_, h1.cap, h1.capm, h1.inF⟩
/-- The parts of the file of a name. -/
theorem RDkB.file {V : World} {g : Nat} {D : Dk} {F Fb : Nat → Prop} {v : Value} {A : Option Addr} {n c : Nat} {qs : List Fv} (h : RDkB V g D F Fb v A n c qs) {s : ByteArray} {p : Nat} (hp : pos D.l s = p) (hi : isAt D.l s = true) :
    ∃ b m cap bs mk qA qc, ∃ hq : p < qs.length, v = .slice (some ⟨b, 0, none⟩) m cap ∧ g ≠ b ∧ m = qs.length ∧ m ≤ cap ∧ qs[p] = ⟨⟨s, bs, mk⟩, qA, qc⟩ ∧ fileAt D.l s = ⟨s, bs, mk⟩ ∧ RFl V Fb ⟨⟨s, bs, mk⟩, qA, qc⟩ ∧ mk ≤ bs.length ∧ bs.length ≤ 4194304 ∧
      (∃ hl : p < D.l.length, D.l[p] = ⟨s, bs, mk⟩) ∧ m ≤ 20 := by
  obtain ⟨hl, hf, hn⟩ := fileAt_eq hp hi
  have hq : p < qs.length := by rw [h.len]; exact hl
  obtain ⟨A', c', rfl, h1, h2, _, hc⟩ := h.list.form
  obtain ⟨b, rfl, hb1, hb2, _⟩ := hc (by omega)
  have he := h.get hq
  obtain ⟨nm, bs, mk, qA, qc, e⟩ : ∃ a b c d e, qs[p] = ⟨⟨a, b, c⟩, d, e⟩ := ⟨_, _, _, _, _, rfl⟩
  rw [e] at he
  simp only at he
  rw [he] at hn hf
  simp only at hn
  subst hn
  have hm := h.ok.marks _ (List.getElem_mem hl)
  rw [he] at hm
  have hs : bs.length ≤ 4194304 := by
    have h1 := sum_take_succ D.l p hl
    have h2 := sum_take_le D.l (p + 1)
    have h3 := h.ok.sum
    rw [he] at h1
    simp only at h1
    omega
  exact ⟨b, _, c', bs, mk, qA, qc, hq, rfl, fun e => h.fg.2.2 (by rw [e]; rfl), rfl, h1, e, hf, by rw [← e]; exact h.list.each _ (List.getElem_mem hq), hm, hs, ⟨hl, he⟩, by rw [h.len]; exact h.ok.few⟩
set_option maxHeartbeats 8000000 in
theorem sync_ok (w : World) (g : Nat) (D : Dk) (F : Nat → Prop) (nm : ByteArray) (h : RDk w g D F) :
    Calls Try.prog 36 #[pt g, .string nm] w fun e w' => e = .returned (.int .i64 (synE D nm)) ∧ Turns RDk w g F (syn D nm) w' := by
  obtain ⟨Fb, v, KA, kn, kc, qs, h⟩ := h
  have FI := Lib.hid (find_ok w g D F nm ⟨Fb, v, KA, kn, kc, qs, h⟩)
  obtain ⟨p, hp⟩ : ∃ p, pos D.l nm = p := ⟨_, rfl⟩
  obtain ⟨is, his⟩ : ∃ b, isAt D.l nm = b := ⟨_, rfl⟩
  obtain ⟨dd, hd⟩ : ∃ b, D.dead = b := ⟨_, rfl⟩
  have c1 := h.c1
  rw [hp, his] at FI
  rw [hd] at c1
  have HP := Lib.hid hp
  have HI := Lib.hid his
  have HD := Lib.hid hd
  have H := Lib.hid h
  clear h hp his hd
  cases dd with
  | true =>
    have hE : synE D nm = 71 := by unfold synE nmE; rw [HD.out]; rfl
    have hC : syn D nm = D := by unfold syn nmE; rw [HD.out]; rfl
    rw [hE, hC]
    go_enter Try.func36, Try.ntmps36
    go_wp2_with fail
    go_ret
    exact ⟨rfl, H.out.ends (fun k e => .inl e) (Grow.refl _ _) H.out.lt⟩
  | false =>
    cases is with
    | false =>
      have hE : synE D nm = 70 := by unfold synE nmE; rw [HD.out, HI.out]; rfl
      have hC : syn D nm = D := by unfold syn nmE; rw [HD.out, HI.out]; rfl
      rw [hE, hC]
      go_enter Try.func36, Try.ntmps36
      go_wp2_with (first | (go_at_call 69; refine FI.out.mono ?_; rintro e w1 ⟨rfl, hb1⟩))
      go_ret
      exact ⟨rfl, (H.out.below hb1).ends (fun k e => .inl e) (Grow.of_below hb1) H.out.lt⟩
    | true =>
      have hN : nmE D nm = 0 := by unfold nmE; rw [HD.out, HI.out]; rfl
      by_cases hl : D.left = 0
      · have hE : synE D nm = 71 := by unfold synE workE; rw [hN, if_pos rfl, if_pos hl]
        have hC : syn D nm = crash D D.keep := by unfold syn; rw [hN, if_pos rfl, work_yes hl]
        rw [hE, hC]
        have FA := Lib.hid (fun V (hb : Below w.heap.size w V) => fails_yes V g D F Fb v KA kn kc qs (H.out.below hb) hl)
        clear hl hN hE hC
        go_enter Try.func36, Try.ntmps36
        go_wp2_with (first
          | (go_at_call 69; refine FI.out.mono ?_; rintro e w1 ⟨rfl, hb1⟩)
          | (go_at_call 71; refine (FA.out _ hb1).mono ?_; rintro e w2 ⟨rfl, ht2⟩))
        go_ret
        exact ⟨rfl, turns_below hb1 ht2 H.out.lt⟩
      · have hE : synE D nm = 0 := by unfold synE workE; rw [hN, if_pos rfl, if_neg hl]
        obtain ⟨b, m, cap, bs, mk, qA, qc, hq, rfl, hgb, hm, hmc, hqe, hfa, hrf, hmk, hbl, ⟨hdl, hde⟩, hm20⟩ := H.out.file HP.out HI.out
        have hC : syn D nm = { D with l := D.l.set p ⟨nm, bs, bs.length⟩, left := if 0 < D.left then D.left - 1 else D.left } := by unfold syn; rw [hN, if_pos rfl, work_no hl]; unfold setAt; rw [HP.out, hfa]
        obtain ⟨D', hD'⟩ : ∃ x, syn D nm = x := ⟨_, rfl⟩
        rw [hE, hD']
        have HC := Lib.hid (hD'.symm.trans hC)
        have FA := Lib.hid (fun V (hb : Below w.heap.size w V) => fails_no V g D F Fb _ KA kn kc qs (H.out.below hb) hl)
        have HRF := Lib.hid hrf
        have HQE := Lib.hid hqe
        have HDE := Lib.hid hde
        have HM := Lib.hid hm
        obtain ⟨L, hL⟩ : ∃ L, bs.length = L := ⟨_, rfl⟩
        have hpm : p < m := by omega
        have hpI : (p : Int) < (m : Int) := by omega
        have hFb := (H.out.list.own b rfl).1
        have hok : ({ D with l := D.l.set p ⟨nm, bs, bs.length⟩, left := if 0 < D.left then D.left - 1 else D.left } : Dk).ok := ok_left (ok_set H.out.ok hdl (by rw [hde]) (Nat.le_refl _) (by rw [hde]; have := H.out.ok.sum; show _ + bs.length ≤ _ + bs.length; omega)) _ (by have := H.out.ok.low; split <;> omega) (by have := H.out.ok.high; split <;> omega)
        have HOK := Lib.hid hok
        clear hl hN hE hC hqe hfa hrf hde hm hok hD'
        go_enter Try.func36, Try.ntmps36
        go_wp2_with (first
          | (go_at_call 69; refine FI.out.mono ?_; rintro e w1 ⟨rfl, hb1⟩)
          | (go_at_call 71; refine (FA.out _ hb1).mono ?_; rintro e w2 ⟨rfl, hR2, hG2⟩; have c0 := hR2.c0; obtain ⟨d0, d1, d2⟩ := hR2.cells hq HQE.out; have hofz := (hR2.wr (i := p) (j := 2) hq (by omega)).2; rw [hL] at d1; have hR3 := hR2.store (i := p) (j := 2) hq (by omega) (u := .int .i64 (bs.length : Int)) (q := ⟨⟨nm, bs, bs.length⟩, qA, qc⟩) (by rw [HQE.out]; rfl) (by have h := hR2.list.each _ (List.getElem_mem hq); rw [HQE.out] at h; exact ⟨h.at_, h.cap, h.capm, h.inF⟩) HOK.out; have e3 := hR3.cells (i := p) (by rw [List.length_set]; exact hq) (by rw [List.getElem_set_self]); have hSd : w2.drew.cell? ⟨g, 0, none⟩ = some (.slice (some ⟨b, 0, none⟩) m cap) ∧ w2.drew.cell? ⟨b, p * 3 + 1, none⟩ = some (.slice qA L qc) := ⟨c0, d1⟩; have hSf : (w2.setCell ⟨b, p * 3 + 2, none⟩ (.int .i64 (bs.length : Int))).drew.cell? ⟨g, 0, none⟩ = some (.slice (some ⟨b, 0, none⟩) m cap) ∧ (w2.setCell ⟨b, p * 3 + 2, none⟩ (.int .i64 (bs.length : Int))).drew.cell? ⟨b, p * 3 + 1, none⟩ = some (.slice qA bs.length qc) := ⟨hR3.c0, e3.2.1⟩; rw [hL] at hSf; have HR3 := Lib.hid hR3; have HL := Lib.hid hL; clear hR3 e3 hL))
        go_region_held3 (fun V => V.cell? ⟨g, 0, none⟩ = some (.slice (some ⟨b, 0, none⟩) m cap) ∧ V.cell? ⟨b, p * 3 + 1, none⟩ = some (.slice qA L qc))
          (first | with_reducible assumption | with_reducible exact hSd | with_reducible exact hSf) (fail)
        all_goals
          go_wp2_with fail
          go_ret
          have hG := (((Grow.of_below (F := F) hb1).trans (hG2.mono (fun k e => .inl e))).set (p := ⟨b, p * 3 + 2, none⟩) (.inl hFb) (.int .i64 (bs.length : Int))).drewN 1
          rw [HC.out, ← HL.out]
          exact ⟨rfl, (HR3.out.below (Below.refl _ _).drew).ends (fun k e => .inl e) hG H.out.lt⟩
end Go.Proofs.Ytkhalpajomammaa
