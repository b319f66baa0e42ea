/-
  Layer 8, the code: opening: the base.
  Layer 8, the code: opening: the log.
-/
import Derived.Test.YtamglegdgcehaaaGreatZ23
import Derived.Test.YtamglegdgcehaaaGreatZ25
set_option linter.unusedVariables false
namespace Go.Proofs.YtamglegdgcehaaaGreat
open Go.RowKit

theorem len_le_sum : ∀ (l : List Fl) (f : Fl), f ∈ l → f.bs.length ≤ sum l
  | g :: l, f, h => by
    have e : sum (g :: l) = g.bs.length + sum l := by unfold sum; simp
    rcases List.mem_cons.1 h with rfl | h
    · omega
    · have := len_le_sum l f h; omega
theorem rdB_le {D : Dk} (h : D.ok) (nm : ByteArray) : (rdB D nm).length ≤ 4194304 := by
  unfold rdB
  split
  · unfold fileAt
    split
    · rw [List.getD_eq_getElem?_getD]
      cases hi : D.l[pos D.l nm]? with
      | none => simp
      | some f =>
        have := len_le_sum _ _ (List.mem_of_getElem? hi)
        have := h.sum
        simp only [Option.getD_some]
        omega
    · simp
  · simp
theorem rdE_alive {D : Dk} (h : D.dead = false) (nm : ByteArray) : rdE D nm = 0 ∨ rdE D nm = 70 := by
  unfold rdE nmE
  rw [h]
  simp only [Bool.false_eq_true, if_false]
  split <;> simp
section
variable {R : DRep}
theorem ws_only {w V : World} {q : Nat} (hO : Grow (fun k => k = q) w V) (i : Nat) (u : Value) : Grow (fun k => k = q) w (V.setCell ⟨q, i, none⟩ u) := hO.set (p := ⟨q, i, none⟩) (.inl rfl) u
set_option maxRecDepth 100000 in
set_option maxHeartbeats 4000000 in
theorem wOpenBase (hD : DiskOk R) (w : World) (q g : Nat) (D : Dk) (F : Nat → Prop) (hR : R w g D F) (hq : WObj w q g 1 0 0 false) (hqF : ¬ F q) (hd : D.dead = false) :
    Calls Tryz.prog 65 #[pt q] w fun e w' => (opnBase D = none → e = .returned (.tuple #[.slice none 0 0, .int .i64 80])) ∧
      (∀ t n rows, opnBase D = some (t, n, rows) → ∃ v, e = .returned (.tuple #[v, .int .i64 0]) ∧ RO w' w.heap.size v rows ∧ WObj w' q g t n 0 false) ∧ Grow (fun k => k = q) w w' := by
  have RD := Lib.hid (hD.read w g D F nBase hR)
  have hlen := rdB_le (hD.ok hR) nBase
  have HQ := Lib.hid hq
  have hql := hq.lt
  have c0 := hq.c0
  have hob : opnBase D = if rdE D nBase = 0 then rdBase (rdB D nBase) else some (1, 0, []) := rfl
  rcases rdE_alive hd nBase with h0 | h0
  · rw [if_pos h0] at hob
    rw [h0] at RD
    rw [hob]
    generalize rdB D nBase = bs at *
    have BR := Lib.hid (fun (A : Option Addr) (c : Nat) V (h : At V A bs.length bs) h1 h2 => wBaseR V A bs.length c bs h h1 h2 (by omega))
    clear hob h0 hR hq
    go_enter Tryz.func65, Tryz.ntmps65
    go_wp2_with fail
    refine RD.out.mono ?_
    rintro e w1 ⟨v1, rfl, ho1, hb1⟩
    obtain ⟨A1, c1, rfl, hat1, hle1, hcm1, _⟩ := Own.form ho1
    have HB1 := Lib.hid hb1
    clear RD ho1 c0
    go_wp2_with fail
    refine (BR.out A1 c1 w1 hat1 hle1 hcm1).mono ?_
    rintro e w2 ⟨t, n, v2, is, rfl, i1, i2, ⟨A2, n2, c2, rfl⟩, hb2⟩
    have HB2 := Lib.hid (jstep HB1.out hb2)
    cases is with
    | false =>
      have h1 := i1 rfl
      go_wp2_with fail
      go_ret2
      exact ⟨(fun _ => rfl), (fun t n rows h => by rw [h1] at h; cases h), Grow.of_below HB2.out⟩
    | true =>
      obtain ⟨rows, h1, hro⟩ := i2 rfl
      have hq2 := HQ.out.below HB2.out
      have z1 := hq2.fz 1
      have k1 := hq2.c1
      have hq3 := hq2.set1 t
      have z2 := hq3.fz 2
      have k2 := hq3.c2
      have HH := Lib.hid (show RO ((w2.setCell ⟨q, 1, none⟩ (.int .i64 (t : Int))).setCell ⟨q, 2, none⟩ (.int .i64 (n : Int))) w.heap.size (.slice A2 n2 c2) rows ∧ WObj ((w2.setCell ⟨q, 1, none⟩ (.int .i64 (t : Int))).setCell ⟨q, 2, none⟩ (.int .i64 (n : Int))) q g t n 0 false ∧ Grow (fun k => k = q) w ((w2.setCell ⟨q, 1, none⟩ (.int .i64 (t : Int))).setCell ⟨q, 2, none⟩ (.int .i64 (n : Int))) from by
        have hG : Grow (fun k => k = q) w w2 := Grow.of_below HB2.out
        have hne : (Value.slice A2 n2 c2).ownBlock ≠ some q := fun e => by have := (hro.lt _ e).1; have := HB1.out.size; omega
        have r0 := hro.base (B' := w.heap.size) HB1.out.size
        have o1 : Only q w2 (w2.setCell ⟨q, 1, none⟩ (.int .i64 (t : Int))) := (Only.refl q w2).set 1 _
        have o2 : Only q (w2.setCell ⟨q, 1, none⟩ (.int .i64 (t : Int))) ((w2.setCell ⟨q, 1, none⟩ (.int .i64 (t : Int))).setCell ⟨q, 2, none⟩ (.int .i64 (n : Int))) := (Only.refl q _).set 2 _
        exact ⟨(r0.only o1 hne).only o2 hne, hq3.set2 n, ws_only (ws_only hG 1 _) 2 _⟩)
      clear i1 i2 hro hq2 hq3
      go_wp2_with fail
      go_ret2
      exact ⟨(fun h => by rw [h1] at h; cases h), fun t' n' rows' h => (by rw [h1] at h; injection h with h; injection h with e1 e2; injection e2 with e2 e3; subst e1; subst e2; subst e3; exact ⟨_, rfl, HH.out.1, HH.out.2.1⟩), HH.out.2.2⟩
  · rw [if_neg (by rw [h0]; decide)] at hob
    rw [h0] at RD
    rw [hob]
    clear hob h0 hR
    go_enter Tryz.func65, Tryz.ntmps65
    go_wp2_with fail
    refine RD.out.mono ?_
    rintro e w1 ⟨v1, rfl, ho1, hb1⟩
    obtain ⟨A1, c1, rfl, _⟩ := Own.form ho1
    have HB1 := Lib.hid hb1
    go_wp2_with fail
    go_ret2
    exact ⟨fun h => (by cases h), fun t n rows h => (by injection h with h; injection h with e1 e2; injection e2 with e2 e3; subst e1; subst e2; subst e3; exact ⟨_, rfl, RO.nil _ _, HQ.out.below HB1.out⟩), Grow.of_below HB1.out⟩
end
end Go.Proofs.YtamglegdgcehaaaGreat
set_option linter.unusedVariables false
namespace Go.Proofs.YtamglegdgcehaaaGreat
open Go.RowKit

def Found.does (D : Dk) (t n : Nat) (rows : List Rw) (all : Nat) : Found → Dk × Int × Option (Lg × Kp)
  | .wrong => (D, 80, none)
  | .anew => ((renewA t n D).1, (renewA t n D).2, if (renewA t n D).2 = 0 then some (⟨t, n, n⟩, ⟨rows, []⟩) else none)
  | .goes bs size => ((keepA size all D).1, (keepA size all D).2, if (keepA size all D).2 = 0 then some (⟨t, n + bs.length, n + bs.length⟩, ⟨rows, bs⟩) else none)
theorem opnLog_eq (D : Dk) (t n : Nat) (rows : List Rw) : opnLog D t n rows = (rdLog t n (rdB D nLog)).does D t n rows (rdB D nLog).length := by
  unfold opnLog
  cases rdLog t n (rdB D nLog) <;> rfl
def rdLogL (t n : Nat) (e : Nat) : List (List UInt8) → Found
  | [] => if e = 3 then .anew else .wrong
  | p :: ps => if (rDone (hdR p) && decide (1 ≤ hdA p)) = true then (if hdA p < t then .anew else if t < hdA p ∨ hdB p ≠ n ∨ e ≠ 3 then .wrong else match rdBatches n ps with
      | none => .wrong
      | some bs => .goes bs (rsize (p :: ps))) else .wrong
theorem rdLogL_eq (t n : Nat) (b : List UInt8) : rdLog t n b = rdLogL t n (nx (b.drop (rsize (alls b)))).2.2 (alls b) := by
  unfold rdLog rdLogL
  cases alls b with
  | nil => rfl
  | cons p ps =>
    simp only [rdHead_eq]
    by_cases h : (rDone (hdR p) && decide (1 ≤ hdA p)) = true
    · rw [if_pos h, if_pos h]
      rfl
    · rw [if_neg h, if_neg h]
theorem rdBatches_len : ∀ {n : Nat} {ps : List (List UInt8)} {bs : List (List Op_)}, rdBatches n ps = some bs → bs.length = ps.length
  | n, [], bs, h => by
    injection h with h
    subst h
    rfl
  | n, p :: ps, bs, h => by
    rw [rdBatches_cons] at h
    cases hb : rdBatch p (n + 1) with
    | none => rw [hb] at h; cases h
    | some b =>
      rw [hb] at h
      cases hr : rdBatches (n + 1) ps with
      | none => rw [hr] at h; cases h
      | some r =>
        rw [hr] at h
        injection h with h
        subst h
        simp [rdBatches_len hr]
/-- Batches that lie between two marks, as in a world that was. -/
def LBm (w : World) (B m : Nat) (v : Value) (bs : List (List Op_)) : Prop := ∃ V : World, LB V B v bs ∧ V.heap.size ≤ m ∧ V.heap.size ≤ w.heap.size ∧ (∀ k, B ≤ k → k < V.heap.size → w.heap[k]? = V.heap[k]?)
/-- What the walk is to show: behind the mark m the disk has what is new. -/
def LogPost (R : DRep) (w : World) (q g t : Nat) (rows : List Rw) (F : Nat → Prop) (O : Dk × Int × Option (Lg × Kp)) (v : Value) (w' : World) : Prop :=
  ∃ m, w.heap.size ≤ m ∧ m ≤ w'.heap.size ∧ R w' g O.1 (fun k => F k ∨ (m ≤ k ∧ k < w'.heap.size)) ∧ Grow (fun k => F k ∨ k = q) w w' ∧ (∃ A' n' c', v = .slice A' n' c') ∧
    (∀ x k, O.2.2 = some (x, k) → LBm w' w.heap.size m v k.bats ∧ WObj w' q g t x.last 0 false ∧ x.turn = t ∧ x.safe = x.last ∧ k.rows = rows)
section
variable {R : DRep}
theorem logPost_no (hD : DiskOk R) {w w' : World} {q g t : Nat} {rows : List Rw} {F : Nat → Prop} {D : Dk} {E : Int} {A : Option Addr} {n c : Nat} (hb : Below w.heap.size w w') (hR : R w g D F) : LogPost R w q g t rows F (D, E, none) (.slice A n c) w' :=
  ⟨w'.heap.size, hb.size, Nat.le_refl _, hD.mono (hD.below hR hb) (fun k e => .inl e) (fun k e => by rcases e with e | e; exact hD.lt (hD.below hR hb) k e; exact e.2), Grow.of_below hb, ⟨_, _, _, rfl⟩, fun x k h => by cases h⟩
theorem logPost_anew {w w' : World} {q g t n : Nat} {rows : List Rw} {F : Nat → Prop} {D : Dk} {E : Int} (ht : Turns R w g F D w') (hq : WObj w q g t n 0 false) (hqF : ¬ F q) : LogPost R w q g t rows F (D, E, if E = 0 then some (⟨t, n, n⟩, ⟨rows, []⟩) else none) (.slice none 0 0) w' := by
  refine ⟨w.heap.size, Nat.le_refl _, ht.2.size, ht.1, ht.2.mono (fun k e => .inl e), ⟨_, _, _, rfl⟩, fun x k h => ?_⟩
  simp only at h
  split at h
  · injection h with h
    injection h with h1 h2
    subst h1
    subst h2
    exact ⟨⟨w, LB.nil _ _, Nat.le_refl _, ht.2.size, fun k h1 h2 => by omega⟩, hq.grow ht.2 hqF, rfl, rfl, rfl⟩
  · cases h
theorem row_onS {w V : World} {B n sz : Nat} {e : TypeId} {v : Value} {xs : List Value} (h : w.ownsRow B e sz v n xs) (hk : ∀ k, v.ownBlock = some k → V.heap[k]? = w.heap[k]?) : V.ownsRow B e sz v n xs := by
  refine ⟨h.1, ?_⟩
  rcases h.2 with ⟨e, h0⟩ | ⟨q, cap, cur, e, hq, hh, r⟩
  · exact .inl ⟨e, h0⟩
  · subst e
    exact .inr ⟨q, cap, cur, rfl, hq, (hk q rfl).trans hh, r⟩
theorem LB.onB {w V : World} {B : Nat} {v : Value} {bs : List (List Op_)} (h : LB w B v bs) (hk : ∀ k, B ≤ k → k < w.heap.size → V.heap[k]? = w.heap[k]?) : LB V B v bs := by
  obtain ⟨us, h1, h2, h3⟩ := h
  exact ⟨us, row_onS h1 (fun k e => hk k (World.ownsRow.lt h1 k e).1 (World.ownsRow.lt h1 k e).2), h2, fun i u l e1 e2 => (h3 i u l e1 e2).onS (fun k e => hk k ((h3 i u l e1 e2).lt k e).1 ((h3 i u l e1 e2).lt k e).2)⟩
theorem LB.base {w : World} {B B' : Nat} {v : Value} {bs : List (List Op_)} (h : LB w B v bs) (hB : B' ≤ B) : LB w B' v bs := by
  obtain ⟨us, h1, h2, h3⟩ := h
  refine ⟨us, ⟨h1.1, ?_⟩, h2, fun i u l e1 e2 => (h3 i u l e1 e2).base hB⟩
  rcases h1.2 with e | ⟨q, cap, cur, e, hq, r⟩
  · exact .inl e
  · exact .inr ⟨q, cap, cur, e, Nat.le_trans hB hq, r⟩
theorem logPost_goes (hD : DiskOk R) {w V w' : World} {q g t n : Nat} {rows : List Rw} {F : Nat → Prop} {D : Dk} {E : Int} {v : Value} {bs : List (List Op_)} (hb : Below w.heap.size w V) (hq : WObj V q g t n 0 false) (hqF : ¬ F q) (hql : q < w.heap.size) (hl : ∀ k, F k → k < w.heap.size) (hlb : LB V w.heap.size v bs)
    (ht : Turns R (V.setCell ⟨q, 2, none⟩ (.int .i64 ((n + bs.length : Nat) : Int))) g F D w') : LogPost R w q g t rows F (D, E, if E = 0 then some (⟨t, n + bs.length, n + bs.length⟩, ⟨rows, bs⟩) else none) v w' := by
  have hsz : (V.setCell ⟨q, 2, none⟩ (.int .i64 ((n + bs.length : Nat) : Int))).heap.size = V.heap.size := set_size _ _ _
  have hbs := hb.size
  have hws := ht.2.size
  refine ⟨V.heap.size, hbs, by omega, ?_, ?_, ?_, fun x k h => ?_⟩
  · have h := ht.1
    unfold nF at h
    rw [hsz] at h
    exact h
  · have h1 : Grow (fun k => F k ∨ k = q) w (V.setCell ⟨q, 2, none⟩ (.int .i64 ((n + bs.length : Nat) : Int))) := (Grow.of_below hb).set (p := ⟨q, 2, none⟩) (.inl (.inr rfl)) _
    exact h1.trans (ht.2.mono (fun k e => .inl (.inl e)))
  · obtain ⟨A, c, h, _⟩ := hlb.form
    exact ⟨A, _, c, h⟩
  · simp only at h
    split at h
    · injection h with h
      injection h with h1 h2
      subst h1
      subst h2
      refine ⟨⟨V, hlb, Nat.le_refl _, by omega, fun k hk1 hk2 => ?_⟩, (hq.set2 (n + bs.length)).grow ht.2 hqF, rfl, rfl, rfl⟩
      rw [ht.2.block k (by omega) (fun e => by have := hl k e; omega)]
      exact set_blk _ _ _ _ (by omega)
    · cases h
set_option maxRecDepth 100000 in
set_option maxHeartbeats 16000000 in
theorem wOpenLog (hD : DiskOk R) (w : World) (q g t n : Nat) (rows : List Rw) (D : Dk) (F : Nat → Prop) (hR : R w g D F) (hq : WObj w q g t n 0 false) (hqF : ¬ F q) (hd : D.dead = false) (ht : t ≤ 9007199254740991) (hn : n ≤ 9007199254740991) :
    Calls Tryz.prog 66 #[pt q] w fun e w' => ∃ v, e = .returned (.tuple #[v, .int .i64 (opnLog D t n rows).2.1]) ∧ LogPost R w q g t rows F (opnLog D t n rows) v w' := by
  have RD := Lib.hid (hD.read w g D F nLog hR)
  have hlen := rdB_le (hD.ok hR) nLog
  have HQ := Lib.hid hq
  have hql := hq.lt
  have c0 := hq.c0
  have HR := Lib.hid hR
  have hFl := Lib.hid (hD.lt hR)
  rw [opnLog_eq, rdLogL_eq]
  have he := rdE_alive hd nLog
  obtain ⟨x0, hx0⟩ : ∃ x, rdE D nLog = x := ⟨_, rfl⟩
  rw [hx0] at RD he
  generalize rdB D nLog = bs at *
  have hsz := alls_size bs
  have hal := alls_len bs
  obtain ⟨pn, zn, en, hnx⟩ : ∃ p z e, nx (bs.drop (rsize (alls bs))) = (p, z, e) := ⟨_, _, _, rfl⟩
  have hne : (nx (bs.drop (rsize (alls bs)))).2.2 = en := by rw [hnx]
  rw [hne]
  have NX := Lib.hid (fun (A : Option Addr) (c : Nat) V h h1 h2 => next_ok A (bs.length - rsize (alls bs)) c (bs.drop (rsize (alls bs))) pn zn en V h h1 h2 (by omega) hnx)
  have RC := Lib.hid (fun (A : Option Addr) (c : Nat) V h h1 h2 => wRecs A bs.length c bs V h h1 h2 (by omega))
  have hS2 : rsize (alls bs) = rsize (alls bs) := rfl
  obtain ⟨ls, hls⟩ : ∃ ls, alls bs = ls := ⟨_, rfl⟩
  rw [hls] at NX RC hsz hal ⊢
  obtain ⟨S, hS⟩ : ∃ S, rsize ls = S := ⟨_, rfl⟩
  rw [hS] at NX RC hsz
  have HS := Lib.hid hS
  have hll : ls.length ≤ 1000000000 := by omega
  clear hS hls hnx hne hx0 hal hS2 hq hR
  suffices H : ∀ O, (rdLogL t n en ls).does D t n rows bs.length = O → Calls Tryz.prog 66 #[pt q] w fun e w' => ∃ v, e = .returned (.tuple #[v, .int .i64 O.2.1]) ∧ LogPost R w q g t rows F O v w' from H _ rfl
  intro O hO
  have HOO := Lib.hid hO
  clear hO
  rcases he with rfl | rfl
  all_goals
    go_enter Tryz.func66, Tryz.ntmps66
    go_wp2_with fail
    refine RD.out.mono ?_
    rintro e w1 ⟨v1, rfl, ho1, hb1⟩
    obtain ⟨A1, c1, rfl, hat1, hle1, hcm1, _⟩ := Own.form ho1
    have hs := fun W => slb_l A1 bs.length c1 .i64 (S : Int) W (by omega) (by omega)
    rw [Int.toNat_natCast] at hs
    go_wp2_with fail
    refine (RC.out A1 c1 w1 hat1 hle1 hcm1).mono ?_
    rintro e w2 ⟨v2, rfl, hlo2, hb2⟩
    obtain ⟨A2, c2, rfl, _⟩ := hlo2.form
    go_wp2_with fail
    refine (NX.out (cutA A1 c1 S) (c1 - S) w2 (by have h := (hat1.below' hb2).cut (l := S) (k := bs.length) (m := c1) (by omega) (by omega) hle1; rw [List.take_of_length_le (by omega)] at h; exact h) (by omega) (by omega)).mono ?_
    rintro e w3 ⟨v3, rfl, ho3, hb3⟩
    obtain ⟨A3, c3, rfl, _⟩ := ho3.form
    have HB3 := Lib.hid (jstep (jstep hb1 hb2) hb3)
    have HQ3 := Lib.hid (HQ.out.below HB3.out)
    have k0 := HQ3.out.c0
    have k1 := HQ3.out.c1
    have k2 := HQ3.out.c2
    have HLO := Lib.hid (hlo2.below hb3)
    have HR3 := Lib.hid (hD.below HR.out HB3.out)
    clear hs hat1 ho1 hb1 hlo2 hb2 ho3 hb3 c0 RD RC NX
    cases ls with
    | nil =>
      by_cases he3 : en = 3
      · subst he3
        have RN := Lib.hid (wRenew hD w3 g q t n 0 false D F HR3.out HQ3.out hqF ht hn)
        have hOc : O = ((renewA t n D).1, (renewA t n D).2, if (renewA t n D).2 = 0 then some (⟨t, n, n⟩, ⟨rows, []⟩) else none) := by rw [← HOO.out]; rfl
        have HOc := Lib.hid hOc
        clear hOc
        clear HOO
        go_wp2_with (first
          | (go_at_call 123; refine RN.out.mono ?_; rintro e w4 ⟨rfl, ht4⟩))
        go_ret2
        exact ⟨_, by rw [HOc.out]; rfl, by rw [HOc.out]; exact logPost_anew (hD.under1 HB3.out ht4 hFl.out) HQ.out hqF⟩
      · have hz : ((en : Int) == 3) = false := by simp; omega
        have HH := Lib.hid ((wHead w3 w1.heap.size A2 _ c2 [] HLO.out).mono fun e w' h => And.intro (h.1 rfl) h.2.2)
        have hOc : O = (D, 80, none) := by rw [← HOO.out]; show (if en = 3 then Found.anew else Found.wrong).does D t n rows bs.length = _; rw [if_neg he3]; rfl
        obtain rfl := hOc
        clear HOO
        go_wp2_with (first
          | (go_at_call 124; refine HH.out.mono ?_; rintro e w4 ⟨rfl, hb4⟩))
        go_ret2
        exact ⟨_, rfl, logPost_no hD (jstep HB3.out hb4) HR.out⟩
    | cons p ps =>
      have HH := Lib.hid ((wHead w3 w1.heap.size A2 _ c2 (p :: ps) HLO.out).mono fun e w' h => And.intro (h.2.1 p ps rfl) h.2.2)
      have hOO := HOO.out
      have hrd : rdLogL t n en (p :: ps) = if (rDone (hdR p) && decide (1 ≤ hdA p)) = true then (if hdA p < t then .anew else if t < hdA p ∨ hdB p ≠ n ∨ en ≠ 3 then .wrong else match rdBatches n ps with
        | none => .wrong
        | some bs => .goes bs S) else .wrong := by rw [← HS.out]; rfl
      rw [hrd] at hOO
      generalize (rDone (hdR p) && decide (1 ≤ hdA p)) = is at *
      generalize hdA p = a at *
      generalize hdB p = b at *
      have HOO := Lib.hid hOO
      have HTL := Lib.hid HLO.out.tail
      have hcl : (p :: ps).length = ps.length + 1 := rfl
      rw [hcl] at HTL HH HLO hll ⊢
      clear hOO hrd HS hcl
      cases is with
      | false =>
        by_cases he3 : en = 3
        · subst he3
          have hOc : O = (D, 80, none) := by rw [← HOO.out]; rfl
          obtain rfl := hOc
          clear HOO
          go_wp2_with (first
            | (go_at_call 124; refine HH.out.mono ?_; rintro e w4 ⟨rfl, hb4⟩))
          go_ret2
          exact ⟨_, rfl, logPost_no hD (jstep HB3.out hb4) HR.out⟩
        · have hz : ((en : Int) == 3) = false := by simp; omega
          have hOc : O = (D, 80, none) := by rw [← HOO.out]; rfl
          obtain rfl := hOc
          clear HOO
          go_wp2_with (first
            | (go_at_call 124; refine HH.out.mono ?_; rintro e w4 ⟨rfl, hb4⟩))
          go_ret2
          exact ⟨_, rfl, logPost_no hD (jstep HB3.out hb4) HR.out⟩
      | true =>
        by_cases hat : a < t
        · have RN := Lib.hid (fun V (hb : Below w3.heap.size w3 V) => wRenew hD V g q t n 0 false D F (hD.below HR3.out hb) (HQ3.out.below hb) hqF ht hn)
          have hOc : O = ((renewA t n D).1, (renewA t n D).2, if (renewA t n D).2 = 0 then some (⟨t, n, n⟩, ⟨rows, []⟩) else none) := by rw [← HOO.out, if_pos rfl, if_pos hat]; rfl
          have HOc := Lib.hid hOc
          clear hOc
          clear HOO
          by_cases he3 : en = 3
          · subst he3
            go_wp2_with (first
              | (go_at_call 124; refine HH.out.mono ?_; rintro e w4 ⟨rfl, hb4⟩; have k4 := (HQ3.out.below hb4).c1)
              | (go_at_call 123; refine (RN.out _ hb4).mono ?_; rintro e w5 ⟨rfl, ht5⟩))
            go_ret2
            exact ⟨_, by rw [HOc.out]; rfl, by rw [HOc.out]; exact logPost_anew (hD.under1 (jstep HB3.out hb4) ht5 hFl.out) HQ.out hqF⟩
          · have hz : ((en : Int) == 3) = false := by simp; omega
            go_wp2_with (first
              | (go_at_call 124; refine HH.out.mono ?_; rintro e w4 ⟨rfl, hb4⟩; have k4 := (HQ3.out.below hb4).c1)
              | (go_at_call 123; refine (RN.out _ hb4).mono ?_; rintro e w5 ⟨rfl, ht5⟩))
            go_ret2
            exact ⟨_, by rw [HOc.out]; rfl, by rw [HOc.out]; exact logPost_anew (hD.under1 (jstep HB3.out hb4) ht5 hFl.out) HQ.out hqF⟩
        · by_cases hbad : t < a ∨ b ≠ n ∨ en ≠ 3
          · have hOc : O = (D, 80, none) := by rw [← HOO.out, if_pos rfl, if_neg hat, if_pos hbad]; rfl
            obtain rfl := hOc
            clear HOO
            by_cases hta : t < a
            · by_cases he3 : en = 3
              · subst he3
                go_wp2_with (first
                  | (go_at_call 124; refine HH.out.mono ?_; rintro e w4 ⟨rfl, hb4⟩; have k4 := (HQ3.out.below hb4).c1; have k5 := (HQ3.out.below hb4).c2))
                go_ret2
                exact ⟨_, rfl, logPost_no hD (jstep HB3.out hb4) HR.out⟩
              · have hz : ((en : Int) == 3) = false := by simp; omega
                go_wp2_with (first
                  | (go_at_call 124; refine HH.out.mono ?_; rintro e w4 ⟨rfl, hb4⟩; have k4 := (HQ3.out.below hb4).c1; have k5 := (HQ3.out.below hb4).c2))
                go_ret2
                exact ⟨_, rfl, logPost_no hD (jstep HB3.out hb4) HR.out⟩
            · by_cases hbn : b = n
              · have hz : ((en : Int) == 3) = false := by simp; omega
                have hz2 : ((b : Int) != (n : Int)) = false := by simp; omega
                go_wp2_with (first
                  | (go_at_call 124; refine HH.out.mono ?_; rintro e w4 ⟨rfl, hb4⟩; have k4 := (HQ3.out.below hb4).c1; have k5 := (HQ3.out.below hb4).c2))
                go_ret2
                exact ⟨_, rfl, logPost_no hD (jstep HB3.out hb4) HR.out⟩
              · have hz2 : ((b : Int) != (n : Int)) = true := by simp; omega
                by_cases he3 : en = 3
                · subst he3
                  go_wp2_with (first
                    | (go_at_call 124; refine HH.out.mono ?_; rintro e w4 ⟨rfl, hb4⟩; have k4 := (HQ3.out.below hb4).c1; have k5 := (HQ3.out.below hb4).c2))
                  go_ret2
                  exact ⟨_, rfl, logPost_no hD (jstep HB3.out hb4) HR.out⟩
                · have hz : ((en : Int) == 3) = false := by simp; omega
                  go_wp2_with (first
                    | (go_at_call 124; refine HH.out.mono ?_; rintro e w4 ⟨rfl, hb4⟩; have k4 := (HQ3.out.below hb4).c1; have k5 := (HQ3.out.below hb4).c2))
                  go_ret2
                  exact ⟨_, rfl, logPost_no hD (jstep HB3.out hb4) HR.out⟩
          · have hOc : O = (match rdBatches n ps with | none => Found.wrong | some bs2 => Found.goes bs2 S).does D t n rows bs.length := by rw [← HOO.out, if_pos rfl, if_neg hat, if_neg hbad]
            have HOc := Lib.hid hOc
            have hz2 : ((b : Int) != (n : Int)) = false := by simp; omega
            obtain rfl : en = 3 := by omega
            obtain rfl : b = n := by omega
            clear HOO hOc
            obtain ⟨A9, c9, e9, _, hle9, hcm9⟩ := HLO.out.form
            injection e9 with e91 e92 e93
            subst e93
            clear e91 e92
            have hs2 := fun W => sll_l A2 (ps.length + 1) c2 .i64 1 W (by omega) (by omega)
            rw [show (1 : Int).toNat = 1 from rfl, Nat.add_sub_cancel] at hs2
            rw [Nat.add_sub_cancel] at HTL
            have hpl : ps.length ≤ 1000000000 := by omega
            have HN2 := Lib.hid (fun (bs2 : List (List Op_)) (h : rdBatches b ps = some bs2) => rdBatches_len h)
            have BT := Lib.hid (fun V (hb : Below w3.heap.size w3 V) => wBatches V w1.heap.size (cutA A2 c2 1) ps.length (c2 - 1) b ps (HTL.out.below hb) hpl hn)
            go_wp2_with (first
              | (go_at_call 124; refine HH.out.mono ?_; rintro e w4 ⟨rfl, hb4⟩; have k4 := (HQ3.out.below hb4).c1; have k5 := (HQ3.out.below hb4).c2))
            refine (BT.out _ hb4).mono ?_
            rintro e w5 ⟨v5, is2, rfl, i1, i2, ⟨A5, n5, c5, rfl⟩, hb5⟩
            have HB5 := Lib.hid (jstep (jstep HB3.out hb4) hb5)
            cases is2 with
            | false =>
              have h0 := i1 rfl
              have hOc2 : O = (D, 80, none) := by rw [HOc.out, h0]; rfl
              have HO2 := Lib.hid hOc2
              clear HOc hOc2 i1 i2 BT
              go_wp2_with fail
              go_ret2
              exact ⟨_, by rw [HO2.out]; rfl, by rw [HO2.out]; exact logPost_no hD HB5.out HR.out⟩
            | true =>
              obtain ⟨bs2, h0, hlb⟩ := i2 rfl
              have hOc2 : O = ((keepA S bs.length D).1, (keepA S bs.length D).2, if (keepA S bs.length D).2 = 0 then some (⟨t, b + bs2.length, b + bs2.length⟩, ⟨rows, bs2⟩) else none) := by rw [HOc.out, h0]; rfl
              have HO2 := Lib.hid hOc2
              obtain ⟨_, _, e5, hbat, hle5, hcm5, _⟩ := hlb.form
              injection e5 with e51 e52 e53
              subst e51
              subst e52
              subst e53
              have hq5 := HQ3.out.below (jstep hb4 hb5)
              have hbl : bs2.length ≤ 1000000000 := by
                have h6 := HN2.out _ h0
                omega
              have HLB := Lib.hid (hlb.base (B' := w.heap.size) (Nat.le_trans HB3.out.size hb4.size))
              have HQ5 := Lib.hid hq5
              have z2 := hq5.fz 2
              have m2 := hq5.c2
              have m0 := (hq5.set2 (b + bs2.length)).c0
              rw [show ((b + bs2.length : Nat) : Int) = (b : Int) + (bs2.length : Int) from rfl] at m0
              have KP := Lib.hid (wKeep hD (w5.setCell ⟨q, 2, none⟩ (.int .i64 ((b : Int) + (bs2.length : Int)))) g D F S bs.length (by omega) (by omega) (hD.far (hD.below HR.out HB5.out) hqF _))
              clear HOc hOc2 i1 i2 BT hlb hq5 hbat
              go_wp2_with (first
                | (go_at_call 126; refine KP.out.mono ?_; rintro e w6 ⟨rfl, ht6⟩))
              go_ret2
              exact ⟨_, by rw [HO2.out]; rfl, by rw [HO2.out]; exact logPost_goes hD HB5.out HQ5.out hqF hql hFl.out HLB.out ht6⟩
end
end Go.Proofs.YtamglegdgcehaaaGreat
