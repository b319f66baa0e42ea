/-
  Layer 8, the code: the records that bytes begin with.
  Layer 8, the code: what records say: a base.
  Layer 8, the statements' words: whether what two logs have is the same.
-/
import Derived.Test.YtamglegdgcehaaaGreatZ17
import Derived.Test.YtamglegdgcehaaaGreatZ20
import Derived.Test.YtamglegdgcehaaaGreatZ22
import Derived.Stop.RegionWithIn
import Derived.IntWalk
import Derived.Test.YtamglegdgcehaaaGreatZ19
import Derived.Test.YtamglegdgcehaaaGreatZ10
import Derived.StillTailTactics
set_option linter.unusedVariables false
namespace Go.Proofs.YtamglegdgcehaaaGreat
open Go.RowKit Go.Shelf
attribute [local go_sem] Oper.semAt_some

theorem nx_plen {b p : List UInt8} {n e : Nat} (h : nx b = (p, n, e)) : p.length ≤ 65536 := by
  by_cases he : e = 0
  · subst he
    exact (nx_ok h).1
  · rw [(nx_err h he).1]
    simp
theorem alls_len (b : List UInt8) : 5 * (alls b).length ≤ b.length := by
  obtain ⟨p, n, e, h⟩ : ∃ p n e, nx b = (p, n, e) := ⟨_, _, _, rfl⟩
  by_cases he : e = 0
  · subst he
    have hs := nx_size h
    have h5 : 5 ≤ n := by
      obtain ⟨_, h1, _⟩ := nx_ok h
      rw [h1, fr_len]
      have : 0 < (enc p.length).length := by simp [enc]
      omega
    rw [alls_ok h, List.length_cons]
    have := alls_len (b.drop n)
    rw [List.length_drop] at this
    omega
  · rw [alls_no h he]
    simp
termination_by b.length
decreasing_by
  rw [List.length_drop]
  omega
theorem alls_small (b p : List UInt8) (hp : p ∈ alls b) : p.length ≤ 65536 := by
  obtain ⟨q, n, e, h⟩ : ∃ q n e, nx b = (q, n, e) := ⟨_, _, _, rfl⟩
  by_cases he : e = 0
  · subst he
    have hs := nx_size h
    rw [alls_ok h] at hp
    rcases List.mem_cons.1 hp with rfl | hp
    · exact nx_plen h
    · exact alls_small (b.drop n) p hp
  · rw [alls_no h he] at hp
    simp at hp
termination_by b.length
decreasing_by
  rw [List.length_drop]
  omega
theorem alls_size (b : List UInt8) : rsize (alls b) ≤ b.length := by
  obtain ⟨q, n, e, h⟩ : ∃ q n e, nx b = (q, n, e) := ⟨_, _, _, rfl⟩
  by_cases he : e = 0
  · subst he
    have hs := nx_size h
    obtain ⟨_, h1, _⟩ := nx_ok h
    rw [alls_ok h]
    have := alls_size (b.drop n)
    rw [List.length_drop] at this
    simp only [rsize, List.map_cons, List.sum_cons] at *
    omega
  · rw [alls_no h he]
    simp [rsize]
termination_by b.length
decreasing_by
  rw [List.length_drop]
  omega
theorem rsize_snoc (ps : List (List UInt8)) (p : List UInt8) : rsize (ps ++ [p]) = rsize ps + ((enc p.length).length + p.length + 4) := by
  simp [rsize, fr_len]
theorem boxed_firm {X Y : World} {n B : Nat} {t : TypeId} {v : Value} (h : Boxed X B t v) (hf : Firm n X Y) : Boxed Y B t v := hf.cells (cs := #[v]) h
theorem boxed_bel {X Y : World} {n B : Nat} {t : TypeId} {v : Value} (h : Boxed X B t v) (hb : Below n X Y) (hB : B < n) : Boxed Y B t v := (hb.block B hB).trans h
theorem keepsOthers_of_below {X Y : World} (hb : Below X.heap.size X Y) : KeepsOthers X Y := ⟨hb.size, fun k o h _ => (hb.block k (lt_of_some h)).trans h⟩
theorem rowBelow {w w' : World} {B n sz : Nat} {e : TypeId} {v : Value} {xs : List Value} (h : w.ownsRow B e sz v n xs) (hb : Below w.heap.size w w') : w'.ownsRow B e sz v n xs :=
  World.ownsRow.kept h (row := none) ⟨hb.os, hb.tape, hb.output, hb.size, fun k hk _ => hb.block k hk⟩ (by
    cases hv : v.ownBlock with
    | none => exact .inl rfl
    | some q => exact .inr (by simp))
/-- What a round leaves. -/
theorem recs_close {w W0 W X1 w2 : World} {pre : List Piece} {xs : List UInt8} {Ax : Option Addr} {cx S el : Nat} {u' : Value} (h0 : w.heap.size + 1 < W0.heap.size) (hB : Below w.heap.size w W) (hW : W0.heap.size ≤ W.heap.size)
    (hK2 : KeepsOthers W X1) (hb2 : Below w.heap.size W X1) (hv2 : Boxed X1 w.heap.size 42 u') (hR2 : X1.ownsRow w.heap.size 40 1 u' (pre.length + 1) (pre.map (·.1) ++ [.slice Ax xs.length cx])) (hall : ∀ x ∈ pre ++ [((.slice Ax xs.length cx, xs) : Piece)], Own X1 W0.heap.size x.1 x.2)
    (hu3 : Boxed X1 (w.heap.size + 1) 3 (.int .i64 (S : Int))) (hB2 : Below X1.heap.size X1 w2) (hS : S = rsize (pre.map (·.2))) (hel : el = (enc xs.length).length) :
    KeepsFrom W0.heap.size W (w2.setCell ⟨w.heap.size + 1, 0, none⟩ (.int .i64 ((S + (el + xs.length + 4) : Nat) : Int))) ∧ Below w.heap.size W (w2.setCell ⟨w.heap.size + 1, 0, none⟩ (.int .i64 ((S + (el + xs.length + 4) : Nat) : Int))) ∧
      (∃ v, Boxed (w2.setCell ⟨w.heap.size + 1, 0, none⟩ (.int .i64 ((S + (el + xs.length + 4) : Nat) : Int))) w.heap.size 42 v ∧ (w2.setCell ⟨w.heap.size + 1, 0, none⟩ (.int .i64 ((S + (el + xs.length + 4) : Nat) : Int))).ownsRow w.heap.size 40 1 v (pre ++ [((.slice Ax xs.length cx, xs) : Piece)]).length ((pre ++ [((.slice Ax xs.length cx, xs) : Piece)]).map (·.1))) ∧
      Boxed (w2.setCell ⟨w.heap.size + 1, 0, none⟩ (.int .i64 ((S + (el + xs.length + 4) : Nat) : Int))) (w.heap.size + 1) 3 (.int .i64 ((rsize ((pre ++ [((.slice Ax xs.length cx, xs) : Piece)]).map (·.2)) : Nat) : Int)) ∧
      (∀ x ∈ pre ++ [((.slice Ax xs.length cx, xs) : Piece)], Own (w2.setCell ⟨w.heap.size + 1, 0, none⟩ (.int .i64 ((S + (el + xs.length + 4) : Nat) : Int))) W0.heap.size x.1 x.2) ∧ Below w.heap.size w (w2.setCell ⟨w.heap.size + 1, 0, none⟩ (.int .i64 ((S + (el + xs.length + 4) : Nat) : Int))) := by
  have hs := hB.size
  have hs2 := hb2.size
  have n2 := hv2.lt
  have n3 := hu3.lt
  have u3 := boxed_bel hu3 hB2 n3
  have u2 := boxed_bel hv2 hB2 n2
  have hwx : Below w.heap.size W w2 := hb2.trans (hB2.mono (Nat.le_trans hs hs2))
  have hws : Below w.heap.size W (w2.setCell ⟨w.heap.size + 1, 0, none⟩ (.int .i64 ((S + (el + xs.length + 4) : Nat) : Int))) := hwx.setCell (p := ⟨w.heap.size + 1, 0, none⟩) (Nat.le_succ _) _
  refine ⟨((hK2.trans (keepsOthers_of_below hB2)).trans (KeepsOthers.setCell _ _ _)).from _, hws, ⟨u', u2.other (by omega) _, ?_⟩, ?_, fun x hx => ((hall x hx).below hB2).box (by omega) _, hB.trans hws⟩
  · have h1 := rowBelow hR2 hB2
    have h2 := h1.kept (grownBy_setCell' w2 (w.heap.size + 1) (.int .i64 ((S + (el + xs.length + 4) : Nat) : Int))) (.inr (u3.not_row (by decide) h1).symm)
    simpa using h2
  · have := u3.set (.int .i64 ((S + (el + xs.length + 4) : Nat) : Int))
    rw [List.map_append, List.map_singleton, rsize_snoc, ← hS, ← hel]
    exact this
theorem recs_end {w W0 W : World} {va vb : Value} {ps : List Piece} {D : Nat} {ls : List (List UInt8)} (hv : Boxed W w.heap.size 42 va) (hv3 : Boxed W (w.heap.size + 1) 3 vb) (h0 : w.heap.size + 1 < W0.heap.size) (hrow : W.ownsRow w.heap.size 40 1 va ps.length (ps.map (·.1))) (hold : ∀ x ∈ ps, Own W W0.heap.size x.1 x.2)
    (hD : W0.heap.size ≤ D) (hsW : w.heap.size ≤ W.heap.size) (hB : Below w.heap.size w W) (hK : W.heap[D]? = some (.deferred (some []))) (n2 : D ≠ w.heap.size) (n3 : D ≠ w.heap.size + 1) (hS : ps.map (·.2) = ls) :
    (((W.setCell ⟨w.heap.size, 0, none⟩ va).setCell ⟨w.heap.size + 1, 0, none⟩ vb).drew.putObj D (.deferred none)).cell? ⟨w.heap.size, 0, none⟩ = some va ∧ (((W.setCell ⟨w.heap.size, 0, none⟩ va).setCell ⟨w.heap.size + 1, 0, none⟩ vb).drew.putObj D (.deferred none)).cell? ⟨w.heap.size + 1, 0, none⟩ = some vb ∧
      LO (((W.setCell ⟨w.heap.size, 0, none⟩ va).setCell ⟨w.heap.size + 1, 0, none⟩ vb).drew.putObj D (.deferred none)) w.heap.size va ls ∧ Below w.heap.size w (((W.setCell ⟨w.heap.size, 0, none⟩ va).setCell ⟨w.heap.size + 1, 0, none⟩ vb).drew.putObj D (.deferred none)) := by
  have b2 : Boxed ((W.setCell ⟨w.heap.size, 0, none⟩ va).setCell ⟨w.heap.size + 1, 0, none⟩ vb) w.heap.size 42 va := (hv.set va).other (by omega) _
  have b3 : Boxed ((W.setCell ⟨w.heap.size, 0, none⟩ va).setCell ⟨w.heap.size + 1, 0, none⟩ vb) (w.heap.size + 1) 3 vb := ((hv3.other (by omega) va).set vb)
  have r1 := hrow.kept (grownBy_setCell' W w.heap.size va) (.inr (hv.not_row (by decide) hrow).symm)
  have r2 := r1.kept (grownBy_setCell' _ (w.heap.size + 1) vb) (.inr ((hv3.other (show w.heap.size + 1 ≠ w.heap.size by omega) va).not_row (by decide) r1).symm)
  have o2 : ∀ x ∈ ps, Own ((W.setCell ⟨w.heap.size, 0, none⟩ va).setCell ⟨w.heap.size + 1, 0, none⟩ vb) W0.heap.size x.1 x.2 := fun x hx => ((hold x hx).box (by omega) va).box (by omega) vb
  have hKD : ((W.setCell ⟨w.heap.size, 0, none⟩ va).setCell ⟨w.heap.size + 1, 0, none⟩ vb).drew.heap[D]? = some (.deferred (some [])) := by
    simp only [World.drew, World.setCell, Array.getElem?_modify]
    rw [if_neg n3.symm, if_neg n2.symm]
    exact hK
  have hB2 : Below w.heap.size w ((W.setCell ⟨w.heap.size, 0, none⟩ va).setCell ⟨w.heap.size + 1, 0, none⟩ vb) := (hB.setCell (p := ⟨w.heap.size, 0, none⟩) (Nat.le_refl _) va).setCell (p := ⟨w.heap.size + 1, 0, none⟩) (Nat.le_succ _) vb
  generalize (W.setCell ⟨w.heap.size, 0, none⟩ va).setCell ⟨w.heap.size + 1, 0, none⟩ vb = Z at *
  have hF : Firm w.heap.size Z (Z.drew.putObj D (.deferred none)) := (Firm.of_below (Below.refl Z.heap.size Z).drew).trans (.put D _ (by omega) hKD rfl)
  have hsz : w.heap.size ≤ Z.heap.size := hB2.size
  refine ⟨(boxed_firm b2 hF).cell, (boxed_firm b3 hF).cell, ⟨ps.map (·.1), ?_, ?_⟩, hB2.trans (hF.below (Nat.le_refl _) hsz)⟩
  · rw [← hS, List.length_map]
    exact ownsRow_firm r2 hF
  · rw [← hS]
    refine ⟨by simp, fun i u l h1 h2 => ?_⟩
    rw [List.getElem?_map] at h1 h2
    cases hi : ps[i]? with
    | none => rw [hi] at h1; cases h1
    | some x =>
      rw [hi] at h1 h2
      injection h1 with h1
      injection h2 with h2
      subst h1
      subst h2
      exact ((o2 x (List.mem_of_getElem? hi)).firm hF).base (by omega)
set_option maxHeartbeats 4000000 in
theorem wRecs (A : Option Addr) (n c : Nat) (bs : List UInt8) (w : World) (hx : At w A n bs) (hnc : n ≤ c) (hc : c ≤ 9223372036854775807) (hn2 : n ≤ 1000000000) :
    Calls Tryz.prog 122 #[.slice A n c] w fun e w' => ∃ v, e = .returned (.tuple #[v, .int .i64 ((rsize (alls bs) : Nat) : Int)]) ∧ LO w' w.heap.size v (alls bs) ∧ Below w.heap.size w w' := by
  have hal := alls_len bs
  have has := alls_size bs
  have hxl := hx.1
  have HSM := Lib.hid (alls_small bs)
  refine (callsIn_wide (n := 3)).1 (callsIn_of_wp_marks Tryz.func122 rfl trivial (wpIn_wide.2 ?_) rfl)
  simp only [Tryz.ntmps122, List.size_toArray, List.length_cons, List.length_nil, Nat.reduceAdd, Nat.reduceSub, Array.replicate_succ, Array.replicate_zero, List.push_toArray, List.append_toArray, List.nil_append, List.cons_append]
  have hcmp : ∀ (fn : Fn) (f cs : Array Value) (W : World), (binOp .eql 185 (.func fn f cs) .nilFunc).run Tryz.prog W = .ok (.bool false) W := fun fn f cs W => by kernel_rfl
  go_wp2_with fail
  have hB1 : Below w.heap.size w ((w.alloc (.cells #[.slice none 0 0] 42)).alloc (.cells #[.int .i64 0] 3)) := ((Below.refl _ _).alloc (Nat.le_refl _) _).alloc (by simp) _
  have hbx2 : Boxed ((w.alloc (.cells #[.slice none 0 0] 42)).alloc (.cells #[.int .i64 0] 3)) w.heap.size 42 (.slice none 0 0) := (Boxed.new w _ _).alloc _
  have hbx3 : Boxed ((w.alloc (.cells #[.slice none 0 0] 42)).alloc (.cells #[.int .i64 0] 3)) (w.heap.size + 1) 3 (.int .i64 0) := by
    have := Boxed.new (w.alloc (.cells #[.slice none 0 0] 42)) 3 (.int .i64 0)
    simpa using this
  refine (all_okN next_ok A n c bs w _ hx hnc hc (by omega) hB1).mono ?_
  rintro e W0 ⟨g, lb, rfl, hgo, hb2, htell⟩
  go_wp2_with fail
  have hs1 : ((w.alloc (.cells #[.slice none 0 0] 42)).alloc (.cells #[.int .i64 0] 3)).heap.size = w.heap.size + 2 := by simp
  have hB0 : Below w.heap.size w W0 := hB1.trans (hb2.mono hB1.size)
  have hbox : Boxed W0 w.heap.size 42 (.slice none 0 0) := (hb2.block _ (by omega)).trans hbx2
  have hbox3 : Boxed W0 (w.heap.size + 1) 3 (.int .i64 0) := (hb2.block _ (by omega)).trans hbx3
  have hT := htell W0 (Below.refl _ _)
  have hlt := hbox3.lt
  have hge := hB0.size
  clear hbx2 hbx3 htell hB1
  obtain ⟨i0, hi0, hz0, hz1, hz2⟩ := info_parts info40
  refine wp_rangeN (P := Tryz.prog) rfl hgo hT (fun _ => rfl)
    (fun hX h => h.below (by omega) (by omega)) (fun h k => h.trans k) (fun _ _ _ _ h k => h.firm k)
    (fun pre W => (∃ v, Boxed W w.heap.size 42 v ∧ W.ownsRow w.heap.size 40 1 v pre.length (pre.map (·.1))) ∧ Boxed W (w.heap.size + 1) 3 (.int .i64 ((rsize (pre.map (·.2)) : Nat) : Int)) ∧ (∀ x ∈ pre, Own W W0.heap.size x.1 x.2) ∧ Below w.heap.size w W)
    (fun _ _ _ => False)
    (fun s X Y h hX hf => ⟨by obtain ⟨v, h1, h2⟩ := h.1; exact ⟨v, boxed_firm h1 hf, ownsRow_firm h2 hf⟩, boxed_firm h.2.1 hf, fun x hx => (h.2.2.1 x hx).firm hf, h.2.2.2.trans (hf.below (by omega) (by omega))⟩)
    (fun _ _ _ _ h _ _ => h)
    ⟨⟨_, hbox, World.ownsRow_nil _ _ _ _⟩, hbox3, fun x hx => absurd hx (by simp), hB0⟩
    (fun x => { tmps := #[.slice A n c, undef, .pointer (some ⟨w.heap.size, 0, none⟩), .pointer (some ⟨w.heap.size + 1, 0, none⟩), x.1, .slice A n c, .func (.func g) #[] lb, x.1, undef, undef, undef, undef, undef, undef, undef, undef, undef, undef, undef, undef, undef, undef, undef, undef, undef], defers := [] }) ?assign ?body ?done ?stop
  case assign =>
    intro l x W K hK
    gi_wp2
    exact hK
  case body =>
    rintro l pre ⟨v, xs⟩ V W hsV ⟨⟨u, huV, hrowV⟩, hu3V, holdV, hBV⟩ hf hxV hS
    have hu : Boxed W w.heap.size 42 u := boxed_firm huV hf
    have hu3 : Boxed W (w.heap.size + 1) 3 (.int .i64 ((rsize (pre.map (·.2)) : Nat) : Int)) := boxed_firm hu3V hf
    have hrow := ownsRow_firm hrowV hf
    have hold := fun x hx => (holdV x hx).firm hf
    have hB := hBV.trans (hf.below (by omega) (by omega))
    have hsW := Nat.le_trans hsV hf.size
    dsimp only at hxV
    have hxW : Own W W0.heap.size v xs := hxV.base hsV
    obtain ⟨Ax, cx, hv, _⟩ := hxW.form
    subst hv
    obtain ⟨r, hr⟩ := hS
    have hk : pre.length + 1 ≤ 1000000000 := by
      have := congrArg List.length hr
      simp only [List.length_map, List.length_append, List.length_singleton] at this
      omega
    have hmem : xs ∈ alls bs := by rw [hr]; simp
    have hyl := HSM.out xs hmem
    have hsum : rsize (pre.map (·.2)) + ((enc xs.length).length + xs.length + 4) ≤ 1000000000 := by
      have h1 : rsize (pre.map (·.2) ++ [xs]) ≤ rsize (alls bs) := by
        rw [hr, List.map_append, List.map_singleton]
        simp only [rsize, List.map_append, List.sum_append, List.map_cons, List.map_nil, List.sum_cons, List.sum_nil]
        omega
      rw [rsize_snoc] at h1
      omega
    obtain ⟨S, hSS⟩ : ∃ S, S = rsize (pre.map (·.2)) := ⟨_, rfl⟩
    have HSS := Lib.hid hSS
    rw [← hSS] at hsum hu3
    have c1 := hu.cell
    have f1 := hu.frozen
    have hsB := hB.size
    obtain ⟨el, hel⟩ : ∃ el, el = (enc xs.length).length := ⟨_, rfl⟩
    rw [← hel] at hsum
    have he8 : el ≤ 8 := by rw [hel]; exact enc_len _ (by omega)
    obtain ⟨LN, hLN⟩ : ∃ L, L = ([xs.length].map enc).flatten := ⟨_, rfl⟩
    have hln : LN.length = el := by rw [hLN, hel]; simp
    have HLN := Lib.hid hLN
    have HEL := Lib.hid hel
    clear huV hu3V hrowV holdV hBV hxV hr hmem hSS hLN hel
    gi_wp2_with (gi_at_builtin; (refine wpListIn_append_own _ rfl _ _ 42 rfl w.heap.size 40 i0 (.slice none 0 0) 1 24 Tryz.underlying42 hi0 hz0 hz1 hz2 rfl (by decide) u pre.length _ rfl (hrow.alloc _) ⟨W.heap.size, 0, none⟩ 1 1 [.slice Ax xs.length cx] rfl rfl (cell_one_new _ _ _) (fun u' hu' => by rw [List.mem_singleton.1 hu']; rfl) (by unfold maxLen; omega) (by omega) (by simp; omega) ?_; intro v' w1 hown' hgrow _; obtain ⟨g', cap', rfl⟩ := ownsRow_succ hown'; obtain ⟨hv1, hv2, hr2, hk2, hb2⟩ := Boxed.appended (t := 42) hu (by decide) hrow hsB (Nat.le_refl _) hown' hgrow; have hc1 := hv1.cell; have hf1 := hv1.frozen))
    have hu3' : Boxed (w1.setCell ⟨w.heap.size, 0, none⟩ (.slice (some ⟨g', 0, none⟩) (pre.length + 1) cap')) (w.heap.size + 1) 3 (.int .i64 (S : Int)) :=
      (((Boxed.alloc hu3 (.cells #[.slice Ax xs.length cx] 40)).kept hgrow ((Boxed.alloc hu3 (.cells #[.slice Ax xs.length cx] 40)).not_row (by decide) (hrow.alloc (.cells #[.slice Ax xs.length cx] 40)))).other (by omega) _)
    have step : ∀ (q : Nat) (a : Value) (b : List UInt8), w.heap.size < q → Own W q a b → Own (w1.setCell ⟨w.heap.size, 0, none⟩ (.slice (some ⟨g', 0, none⟩) (pre.length + 1) cap')) q a b := fun q a b hq h =>
      ((h.below ((Below.refl _ W).alloc (Nat.le_refl _) _)).grown (hrow.alloc _) hgrow (by decide)).box hq _
    have hall : ∀ x ∈ pre ++ [((.slice Ax xs.length cx, xs) : Piece)], Own (w1.setCell ⟨w.heap.size, 0, none⟩ (.slice (some ⟨g', 0, none⟩) (pre.length + 1) cap')) W0.heap.size x.1 x.2 := by
      intro x hxm
      rcases List.mem_append.1 hxm with h | h
      · exact step _ _ _ (by omega) (hold x h)
      · rw [List.mem_singleton] at h
        subst h
        exact step _ _ _ (by omega) hxW
    have HALL := Lib.hid hall
    have HK2 := Lib.hid hk2
    have HR2 := Lib.hid hr2
    clear hall step hv1 hown' hgrow hc1 hf1 c1 f1 hu hu3 hrow hold hk2 hr2
    generalize w1.setCell ⟨w.heap.size, 0, none⟩ (.slice (some ⟨g', 0, none⟩) (pre.length + 1) cap') = X1 at *
    have c3 := hu3'.cell
    have f3 := hu3'.frozen
    have n3 := hu3'.lt
    have WN := Lib.hid (fun (V : World) (q : Nat) (h : IAt V (some ⟨q, 0, none⟩) 1 ([xs.length].map Int.ofNat)) => wNums (some ⟨q, 0, none⟩) 1 1 [xs.length] V h (by omega) (by intro x hx; simp at hx; omega))
    have HWR := Lib.hid (show IntKind.i64.wrap ((S : Int) + IntKind.i64.wrap (IntKind.i64.wrap ((el : Int) + (xs.length : Int)) + 4)) = ((S + (el + xs.length + 4) : Nat) : Int) from by rw [IntWalk.i64_in ((el : Int) + (xs.length : Int)) (by omega), IntWalk.i64_in ((el : Int) + (xs.length : Int) + 4) (by omega), IntWalk.i64_in _ (by omega)]; omega)
    gi_region_with (refine And.intro trivial ?_; gi_at_call 129; refine ((callsIn_wide.2 (WN.out _ _ (idr (lit_i X1 _ xs.length 3 rfl)))).inRound l).mono ?_; rintro e2 w2 ⟨v2, rfl, ho2, hb2'⟩; rw [← HLN.out] at ho2; obtain ⟨A2, c2, rfl, _⟩ := ho2.form; rw [hln]; have HB2 := Lib.hid (jstep (X := X1) (by repeat (first | assumption | exact Below.refl _ _ | with_reducible refine bal ?_ _ | with_reducible refine bdr ?_ | with_reducible refine bdrN ?_ _)) hb2'); have u3 := boxed_bel hu3' HB2.out n3; have c3' := u3.cell; have f3' := u3.frozen)
    all_goals
      have CL := recs_close (w2 := w2) hlt hB hsW HK2.out hb2 hv2 HR2.out HALL.out hu3' HB2.out HSS.out HEL.out
      clear HALL HK2 HR2 hu3' hv2 hb2 HB2
      gi_wp2_with fail
      (first | rw [HWR.out] | skip)
      exact CL
  case done =>
    rintro D ps W hD hS ⟨⟨v, hv, hrow⟩, hv3, hold, hB⟩ hK
    have c1 := hv.cell
    have c3 := hv3.cell
    have f1 := hv.frozen
    have f3 := hv3.frozen
    have hLO : LO W w.heap.size v (alls bs) := by
      refine ⟨ps.map (·.1), ?_, ?_⟩
      · rw [← hS, List.length_map]; exact hrow
      · rw [← hS]
        refine ⟨by simp, fun i u l h1 h2 => ?_⟩
        rw [List.getElem?_map] at h1 h2
        cases hi : ps[i]? with
        | none => rw [hi] at h1; cases h1
        | some x =>
          rw [hi] at h1 h2
          injection h1 with h1
          injection h2 with h2
          subst h1
          subst h2
          exact (hold x (List.mem_of_getElem? hi)).base (by omega)
    obtain ⟨A', c', rfl, _⟩ := hLO.form
    have hF : Firm w.heap.size W (W.putObj D (.deferred none)) := .put D _ (by omega) hK rfl
    rw [hS] at hv3 c3
    have hnD : ∀ k, k < W0.heap.size → D ≠ k := fun k hk => by omega
    go_wp2_with fail
    go_region
    all_goals
      have hl2 := hv.lt
      have hl3 := hv3.lt
      have hsW := hB.size
      have hlD := lt_of_some hK
      have nD2 := hnD _ (show w.heap.size < W0.heap.size by omega)
      have nD3 := hnD _ (show w.heap.size + 1 < W0.heap.size by omega)
      obtain ⟨va, hva⟩ : ∃ va, va = Value.slice A' (alls bs).length c' := ⟨_, rfl⟩
      obtain ⟨vb, hvb⟩ : ∃ vb, vb = Value.int .i64 ((rsize (alls bs) : Nat) : Int) := ⟨_, rfl⟩
      rw [← hva, ← hvb]
      rw [← hva] at hv hrow
      rw [← hvb] at hv3
      have hz := recs_end hv hv3 (by omega) hrow hold (by omega) (by omega) hB hK nD2 nD3 hS
      have HD : ((W.setCell ⟨w.heap.size, 0, none⟩ va).setCell ⟨w.heap.size + 1, 0, none⟩ vb).drew.heap[D]? = some (.deferred (some [])) := by
        simp only [World.drew, World.setCell, Array.getElem?_modify]
        rw [if_neg nD3.symm, if_neg nD2.symm]
        exact hK
      clear hv hv3 hrow hold hB hLO hF hK c1 c3 f1 f3
      generalize ((W.setCell ⟨w.heap.size, 0, none⟩ va).setCell ⟨w.heap.size + 1, 0, none⟩ vb).drew = Z at *
      obtain ⟨z1, z2, z3, z4⟩ := hz
      go_wp2_with fail
      refine ⟨by simp, .inl ⟨_, _, rfl, run_takeDeferred HD, ?_⟩⟩
      refine ⟨.tuple #[va, vb], ?_, va, by rw [hvb], z3, z4⟩
      generalize Z.putObj D (.deferred none) = Y at *
      subst hva
      subst hvb
      simp [results, Tryz.results122, go_sem, asAddr, loadVar, z1, z2]
  case stop =>
    intro D c pre W _ _ h _
    exact h.elim
end Go.Proofs.YtamglegdgcehaaaGreat
set_option linter.unusedVariables false
namespace Go.Proofs.YtamglegdgcehaaaGreat
open Go.RowKit

theorem infoRw : ∃ z, (Tryz.prog.info? 75).map (fun i => (i.zero, i.size, i.bytes)) = some (some z, 2, 32) ∧ z.cells.size = 2 := ⟨.agg #[.string ⟨#[]⟩, .string ⟨#[]⟩], by kernel_rfl, by kernel_rfl⟩
def rowVals (o : Rw) : List Value := [.string o.key, .string o.value]
/-- Changes of one's own. -/
def RO (w : World) (B : Nat) (v : Value) (l : List Rw) : Prop := w.ownsRow B 75 2 v l.length (l.flatMap rowVals)
section
variable {w V : World} {B : Nat} {v : Value} {l : List Rw}
theorem RO.nil (w : World) (B : Nat) : RO w B (.slice none 0 0) [] := World.ownsRow_nil _ _ _ _
theorem RO.below (h : RO w B v l) (hb : Below w.heap.size w V) : RO V B v l :=
  World.ownsRow.kept h (row := none) ⟨hb.os, hb.tape, hb.output, hb.size, fun k hk _ => hb.block k hk⟩ (by
    cases hv : v.ownBlock with
    | none => exact .inl rfl
    | some q => exact .inr (by simp))
theorem RO.only {q : Nat} (h : RO w B v l) (hO : Only q w V) (hq : v.ownBlock ≠ some q) : RO V B v l :=
  World.ownsRow.kept h (row := some q) ⟨hO.os, hO.tape, hO.output, hO.size, fun k hk hn => hO.block k hk (fun e => hn (by rw [e]))⟩ (.inr hq)
theorem flatMapR_len (l : List Rw) : (l.flatMap rowVals).length = l.length * 2 := by
  induction l with
  | nil => rfl
  | cons o l ih =>
    rw [List.flatMap_cons, List.length_append, ih, List.length_cons]
    show 2 + l.length * 2 = _
    omega
theorem flatMapR_get : ∀ (l : List Rw) (i : Nat) (h : i < l.length), (l.flatMap rowVals)[i * 2]? = some (.string (l[i]'h).key) ∧ (l.flatMap rowVals)[i * 2 + 1]? = some (.string (l[i]'h).value)
  | o :: l, 0, _ => ⟨rfl, rfl⟩
  | o :: l, i + 1, h => by
    have hi : i < l.length := by simpa using h
    obtain ⟨h1, h2⟩ := flatMapR_get l i hi
    have e : ∀ j, ((o :: l).flatMap rowVals)[j + 2]? = (l.flatMap rowVals)[j]? := fun j => by
      rw [List.flatMap_cons, List.getElem?_append_right (by show 2 ≤ j + 2; omega)]
      rfl
    refine ⟨?_, ?_⟩
    · rw [show (i + 1) * 2 = i * 2 + 2 from by omega, e, h1]; rfl
    · rw [show (i + 1) * 2 + 1 = (i * 2 + 1) + 2 from by omega, e, h2]; rfl
theorem RO.form (h : RO w B v l) : ∃ A c, v = .slice A l.length c ∧ WAt w A l.length l ∧ l.length ≤ c ∧ c ≤ 9223372036854775807 ∧ (0 < l.length → InF (fun k => B ≤ k ∧ k < w.heap.size) A) := by
  unfold RO at h
  rcases h.2 with ⟨rfl, hn0⟩ | ⟨q, cap, cur, rfl, hq, hh, hnc, hcm, hcs, htk⟩
  · obtain rfl : l = [] := List.eq_nil_of_length_eq_zero hn0
    exact ⟨none, 0, rfl, ⟨rfl, fun h => absurd h (by simp)⟩, by simp, by omega, fun h => absurd h (by simp)⟩
  · refine ⟨_, cap, rfl, ⟨rfl, fun _ => ⟨q, 0, rfl, fun j hj => ?_⟩⟩, hnc, hcm, fun _ a e => ?_⟩
    · obtain ⟨h1, h2⟩ := flatMapR_get l j hj
      refine ⟨?_, ?_⟩
      · rw [Nat.zero_add, h.cellAt (j * 2) (by omega), h1]
      · rw [Nat.zero_add, h.cellAt (j * 2 + 1) (by omega), h2]
    · injection e with e
      subst e
      exact ⟨hq, lt_of_some hh⟩
theorem RO.base {B' : Nat} (h : RO w B v l) (hB : B' ≤ B) : RO w B' v l := by
  unfold RO at *
  refine ⟨h.1, ?_⟩
  rcases h.2 with e | ⟨q, cap, cur, e, hq, r⟩
  · exact .inl e
  · exact .inr ⟨q, cap, cur, e, Nat.le_trans hB hq, r⟩
theorem RO.lt (h : RO w B v l) : ∀ k, v.ownBlock = some k → B ≤ k ∧ k < w.heap.size := World.ownsRow.lt h
end

theorem flatMapR_snoc (l : List Rw) (o : Rw) : (l ++ [o]).flatMap rowVals = l.flatMap rowVals ++ rowVals o := by simp
theorem wpList_appR {w : World} {ops : Array Oper} {rest : List Oper} {o : Oper} {a : Act} {Q : Exit → Act → World → Prop} (hgd : o.guard = none) (s x : Operand)
    (ho : o.op = .call { callee := .builtin .append, args := #[s, x], argTypes := #[35, 35] })
    (B : Nat) (v : Value) (l : List Rw) (hs : a.eval s = v) (hown : RO w B v l) (g c : Nat) (op : Rw) (hx : a.eval x = .slice (some ⟨g, 0, none⟩) 1 c) (hn : ∀ j u, (rowVals op)[j]? = some u → w.cell? ⟨g, j, none⟩ = some u)
    (hsz : l.length ≤ 1000000000) (hbase : B ≤ w.heap.size)
    (h : ∀ v' w', RO w' B v' (l ++ [op]) → w.grownBy w' v.ownBlock → wpList Tryz.prog ops Q rest (a.put o.dst v') w') :
    wpList Tryz.prog ops Q (o :: rest) a w := by
  obtain ⟨z, hinfo, hzc⟩ := infoRw
  obtain ⟨i, hi, hz, hsz1, hby⟩ := info_parts hinfo
  refine wpList_appV hgd s x 35 ho B 75 i z 2 32 Tryz.underlying35 hi hz hsz1 hby hzc (by omega) v l.length _ hs hown (some ⟨g, 0, none⟩) 1 c (rowVals op) hx rfl
    (fun _ => ⟨g, 0, rfl, fun j u hj => by rw [Nat.zero_add]; exact hn j u hj⟩) (fun u hu => by simp only [rowVals, List.mem_cons, List.not_mem_nil, or_false] at hu; rcases hu with rfl | rfl <;> rfl) (by unfold maxLen; omega) (by omega) hbase (fun v' w' hr hg => h v' w' ?_ hg)
  unfold RO
  rw [flatMapR_snoc, List.length_append]
  exact hr
theorem ro_grown {w0 w w' : World} {B : Nat} {v : Value} {l : List Rw} (h : RO w B v l) (hb : Below B w0 w) (hB : B ≤ w.heap.size) (hg : w.grownBy w' v.ownBlock) : Below B w0 w' :=
  hb.trans ⟨hg.os, hg.tape, hg.output, hg.size, fun k hk => hg.block k (by omega) (fun e => by have := (h.lt k e.symm).1; omega)⟩

/-! ### a base's head, its rows -/
def baA (p : List UInt8) : Nat := (rNum ⟨p, false⟩).1
def baB (p : List UInt8) : Nat := (rNum (rNum ⟨p, false⟩).2).1
def baC (p : List UInt8) : Nat := (rNum (rNum (rNum ⟨p, false⟩).2).2).1
def baR (p : List UInt8) : Rd := (rNum (rNum (rNum ⟨p, false⟩).2).2).2
theorem rdBaseH_eq (p : List UInt8) : rdBaseH p = if rDone (baR p) = true ∧ 1 ≤ baA p then some (baA p, baB p, baC p) else none := rfl
def AheadR (ps : List (List UInt8)) (k : Nat) (rs : List Rw) : Prop := rdRows ps = match rdRows (ps.drop k) with
  | none => none
  | some r2 => some (rs ++ r2)
theorem AheadR.start (ps : List (List UInt8)) : AheadR ps 0 [] := by
  unfold AheadR
  rw [List.drop_zero]
  cases rdRows ps with
  | none => rfl
  | some x => rfl
theorem rdRows_cons (p : List UInt8) (ps : List (List UInt8)) : rdRows (p :: ps) = match rdRow p with
    | none => none
    | some r => match rdRows ps with
      | none => none
      | some rs => some (r :: rs) := rfl
theorem AheadR.next {ps : List (List UInt8)} {k : Nat} {rs : List Rw} (h : AheadR ps k rs) (hk : k < ps.length) {r : Rw} (hb : rdRow (ps[k]'hk) = some r) : AheadR ps (k + 1) (rs ++ [r]) := by
  unfold AheadR at *
  rw [h, List.drop_eq_getElem_cons hk, rdRows_cons, hb]
  cases rdRows (ps.drop (k + 1)) with
  | none => rfl
  | some x => simp
theorem AheadR.bad {ps : List (List UInt8)} {k : Nat} {rs : List Rw} (h : AheadR ps k rs) (hk : k < ps.length) (hb : rdRow (ps[k]'hk) = none) : rdRows ps = none := by
  unfold AheadR at h
  rw [h, List.drop_eq_getElem_cons hk, rdRows_cons, hb]
theorem AheadR.ends {ps : List (List UInt8)} {rs : List Rw} (h : AheadR ps ps.length rs) : rdRows ps = some rs := by
  unfold AheadR at h
  rw [h, List.drop_length]
  simp [rdRows]
theorem rdRow_eq (p : List UInt8) : rdRow p = if rDone (rStr (rStr ⟨p, false⟩).2).2 = true then some ⟨(rStr ⟨p, false⟩).1, (rStr (rStr ⟨p, false⟩).2).1⟩ else none := rfl
def rdBaseL (b : List UInt8) (ls : List (List UInt8)) : Option (Nat × Nat × List Rw) :=
  match ls with
  | [] => none
  | p :: ps => if rsize (p :: ps) < b.length then none else match rdBaseH p with
    | none => none
    | some (t, n, c) => if c ≠ ps.length then none else match rdRows ps with
      | none => none
      | some rows => if rowsE rows = 0 then some (t, n, rows) else none
theorem rdBaseL_eq (b : List UInt8) : rdBase b = rdBaseL b (alls b) := rfl
theorem rdBaseL_cons (b p : List UInt8) (ps : List (List UInt8)) : rdBaseL b (p :: ps) = if rsize (p :: ps) < b.length then none else match rdBaseH p with
    | none => none
    | some (t, n, c) => if c ≠ ps.length then none else match rdRows ps with
      | none => none
      | some rows => if rowsE rows = 0 then some (t, n, rows) else none := rfl
set_option maxRecDepth 100000 in
set_option maxHeartbeats 8000000 in
theorem wBaseR (w : World) (A : Option Addr) (n c : Nat) (bs : List UInt8) (hx : At w A n bs) (hnc : n ≤ c) (hc : c ≤ 9223372036854775807) (hn : n ≤ 1000000000) :
    Calls Tryz.prog 121 #[.slice A n c] w fun e w' => ∃ t m v is, e = .returned (.tuple #[.int .i64 (t : Nat), .int .i64 (m : Nat), v, .bool is]) ∧ (is = false → rdBase bs = none) ∧ (is = true → ∃ rows, rdBase bs = some (t, m, rows) ∧ RO w' w.heap.size v rows) ∧ (∃ A' n' c', v = .slice A' n' c') ∧ Below w.heap.size w w' := by
  have hxl := hx.1
  have HX := Lib.hid hxl
  have RC := Lib.hid (wRecs A n c bs w hx hnc hc hn)
  have hal := alls_len bs
  rw [rdBaseL_eq]
  obtain ⟨ls, hls⟩ : ∃ ls, alls bs = ls := ⟨_, rfl⟩
  rw [hls] at RC hal ⊢
  have hll : ls.length ≤ 1000000000 := by omega
  clear hx hls hal hxl
  cases ls with
  | nil =>
    go_enter Tryz.func121, Tryz.ntmps121
    go_wp2_with (first
      | (go_at_call 122; go_loud (refine RC.out.mono ?_; rintro e w1 ⟨v1, rfl, hlo, hb1⟩; obtain ⟨A1, c1, rfl, _⟩ := hlo.form)))
    (try simp only [Exit.inBlock, Exit.then])
    refine bodyPost_ret (results_tmp4 rfl _ _ _) rfl ?_
    exact ⟨0, 0, _, false, rfl, (fun _ => rfl), (fun e => nomatch e), ⟨none, 0, 0, rfl⟩, hb1⟩
  | cons p ps =>
    obtain ⟨S, hS⟩ : ∃ S, rsize (p :: ps) = S := ⟨_, rfl⟩
    have hcons := rdBaseL_cons bs p ps
    rw [hS] at RC hcons
    rw [HX.out] at hcons
    have HC := Lib.hid hcons
    clear hcons hS
    by_cases hsz : S < n
    · have H0 := Lib.hid (show rdBaseL bs (p :: ps) = none from by rw [HC.out, if_pos hsz])
      go_enter Tryz.func121, Tryz.ntmps121
      go_wp2_with (first
        | (go_at_call 122; go_loud (refine RC.out.mono ?_; rintro e w1 ⟨v1, rfl, hlo, hb1⟩; obtain ⟨A1, c1, rfl, _⟩ := hlo.form)))
      (try simp only [Exit.inBlock, Exit.then])
      refine bodyPost_ret (results_tmp4 rfl _ _ _) rfl ?_
      exact ⟨0, 0, _, false, rfl, (fun _ => H0.out), (fun e => nomatch e), ⟨none, 0, 0, rfl⟩, hb1⟩
    · have hcons := HC.out
      rw [if_neg hsz, rdBaseH_eq] at hcons
      have HC2 := Lib.hid hcons
      clear hcons HC
      go_enter Tryz.func121, Tryz.ntmps121
      go_wp2_with fail
      refine RC.out.mono ?_
      rintro e w1 ⟨v1, rfl, hlo, hb1⟩
      obtain ⟨A1, c1, rfl, _⟩ := hlo.form
      have HLO := Lib.hid hlo
      have HB1 := Lib.hid hb1
      obtain ⟨g, A', c', rfl, hcell, ho⟩ := hlo.get 0 (by simp)
      simp only [List.getElem_cons_zero] at hcell ho
      have HR := Lib.hid (rd_new ho)
      have HTL := Lib.hid hlo.tail
      have N1 := Lib.hid (fun V (h : RdAt V w1.heap.size ⟨p, false⟩) => wNumber V _ _ h)
      have N2 := Lib.hid (fun V (h : RdAt V w1.heap.size (rNum ⟨p, false⟩).2) => wNumber V _ _ h)
      have N3 := Lib.hid (fun V (h : RdAt V w1.heap.size (rNum (rNum ⟨p, false⟩).2).2) => wNumber V _ _ h)
      have ND := Lib.hid (fun V (h : RdAt V w1.heap.size (baR p)) => wDone V _ _ h)
      have hnl : (p :: ps).length = ps.length + 1 := rfl
      rw [hnl] at HTL ⊢
      rw [show (rNum (rNum (rNum ⟨p, false⟩).2).2).2 = baR p from rfl, show (rNum (rNum (rNum ⟨p, false⟩).2).2).1 = baC p from rfl] at N3
      rw [show (rNum (rNum ⟨p, false⟩).2).1 = baB p from rfl] at N2
      rw [show (rNum ⟨p, false⟩).1 = baA p from rfl] at N1
      have hpl : ps.length ≤ 1000000000 := by simp only [List.length_cons] at hll; omega
      obtain ⟨a, ha⟩ : ∃ a, baA p = a := ⟨_, rfl⟩
      obtain ⟨b, hb⟩ : ∃ a, baB p = a := ⟨_, rfl⟩
      obtain ⟨q, hq⟩ : ∃ a, baC p = a := ⟨_, rfl⟩
      obtain ⟨dn, hdn⟩ : ∃ a, rDone (baR p) = a := ⟨_, rfl⟩
      rw [ha] at N1
      rw [hb] at N2
      rw [hq] at N3
      rw [hdn] at ND
      rw [ha, hb, hq, hdn] at HC2
      clear ha hb hq hdn hlo hb1 ho RC hll hnl
      cases dn with
      | false =>
        have H0 := Lib.hid (show rdBaseL bs (p :: ps) = none from HC2.out)
        go_wp2_with (first
          | (go_at_call 156; refine (N1.out _ HR.out).mono ?_; rintro e w2 ⟨rfl, r2, o2⟩)
          | (go_at_call 156; refine (N2.out _ r2).mono ?_; rintro e w3 ⟨rfl, r3, o3⟩)
          | (go_at_call 156; refine (N3.out _ r3).mono ?_; rintro e w4 ⟨rfl, r4, o4⟩)
          | (go_at_call 157; refine (ND.out _ r4).mono ?_; rintro e w5 ⟨rfl, b5⟩))
        (try simp only [Exit.inBlock, Exit.then])
        refine bodyPost_ret (results_tmp4 rfl _ _ _) rfl ?_
        first | exact ⟨0, 0, _, false, rfl, (fun _ => H0.out), (fun e => nomatch e), ⟨none, 0, 0, rfl⟩, jstep (only_below o4 HB1.out.size (only_below o3 HB1.out.size (only_below o2 HB1.out.size (bal' HB1.out _)))) b5⟩ | exact ⟨0, 0, _, .inl ⟨rfl, H0.out, ⟨none, 0, 0, rfl⟩, jstep (only_below o4 HB1.out.size (only_below o3 HB1.out.size (only_below o2 HB1.out.size (bal' HB1.out _)))) b5⟩⟩
      | true =>
        by_cases ha1 : 1 ≤ a
        · have hcons := HC2.out
          rw [if_pos ⟨rfl, ha1⟩] at hcons
          simp only at hcons
          by_cases hq : q = ps.length
          · rw [if_neg (by simp [hq])] at hcons
            have HC3 := Lib.hid hcons
            have hqz : ((q : Int) != (ps.length : Int)) = false := by simp [hq]
            obtain ⟨A2, c2, e2, _, hle2, hcm2⟩ := HLO.out.form
            injection e2 with e21 e22 e23
            subst e23
            have HTT : (c1 = 1 ∧ PAt w1 w.heap.size (some ⟨g, 0, none⟩) ps.length ps) ∨ (c1 ≠ 1 ∧ PAt w1 w.heap.size (some ⟨g, 1, none⟩) ps.length ps) := by
              have h := HTL.out
              rw [Nat.add_sub_cancel] at h
              unfold cutA at h
              by_cases h1 : c1 = 1
              · rw [if_pos h1] at h; exact .inl ⟨h1, h⟩
              · rw [if_neg h1] at h; exact .inr ⟨h1, h⟩
            clear hcons HC2 HTL hq e21 e22 hcm2
            rcases HTT with ⟨hc1, hT⟩ | ⟨hc1, hT⟩
            all_goals
              have HT := Lib.hid hT
              clear hT
              go_wp2_with (first
                | (go_at_call 156; refine (N1.out _ HR.out).mono ?_; rintro e w2 ⟨rfl, r2, o2⟩)
                | (go_at_call 156; refine (N2.out _ r2).mono ?_; rintro e w3 ⟨rfl, r3, o3⟩)
                | (go_at_call 156; refine (N3.out _ r3).mono ?_; rintro e w4 ⟨rfl, r4, o4⟩)
                | (go_at_call 157; refine (ND.out _ r4).mono ?_; rintro e w5 ⟨rfl, b5⟩))
              have HB5 := Lib.hid (jstep (only_below o4 HB1.out.size (only_below o3 HB1.out.size (only_below o2 HB1.out.size (bal' HB1.out _)))) b5)
              have HX5 := Lib.hid (jstep (X := w1) (only_below (w := w1) o4 (Nat.le_refl _) (only_below o3 (Nat.le_refl _) (only_below o2 (Nat.le_refl _) (nba w1 _)))) b5)
              have HT5 := Lib.hid (HT.out.below HX5.out)
              clear r2 r3 r4 o2 o3 o4 b5 HT HX5 N1 N2 N3 ND HR HLO hcell HB1
              have HPS := Lib.hid (rfl : ps.length = ps.length)
              obtain ⟨m, hm⟩ : ∃ m, ps.length = m := ⟨_, rfl⟩
              rw [hm] at HT5 hpl ⊢
              have hle3 : m + 1 ≤ c1 := by rw [← hm]; exact hle2
              have HM := Lib.hid hm
              clear hm
              have A0 := Lib.hid (AheadR.start ps)
              have B0 := Lib.hid (Below.refl w5.heap.size w5)
              have R0 := Lib.hid (RO.nil w5 w5.heap.size)
              go_loopw [2, 3, 4, 12, 52] (fun t2 t3 v _ i wr => ∃ (j : Nat) (rs : List Rw), t2 = .int .i64 (a : Int) ∧ t3 = .int .i64 (b : Int) ∧ j ≤ m ∧ i = .int .i64 j ∧ Hid (rs.length = j) ∧ Hid (AheadR ps j rs) ∧ Hid (RO wr w5.heap.size v rs) ∧ Hid (Below w5.heap.size w5 wr)) (fun _ _ _ _ i _ => m - (intOf i).toNat)
              case atStart => exact ⟨0, [], rfl, rfl, Nat.zero_le _, rfl, Lib.hid rfl, A0, R0, B0⟩
              case round =>
                clear A0 B0 R0
                obtain ⟨j, rs, rfl, rfl, hj, rfl, HLL, HA, HO, HBr⟩ := hrel
                have hbs := HBr.out.size
                have hlb : rs.length ≤ 1000000000 := by rw [HLL.out]; omega
                obtain ⟨Al, cl, rfl⟩ : ∃ A c, u4 = .slice A rs.length c := by obtain ⟨A, c, h, _⟩ := HO.out.form; exact ⟨A, c, h⟩
                by_cases hlt : j < m
                · (try (exfalso; omega))
                  all_goals
                    obtain ⟨b0, o0, e0, hc0⟩ := (HT5.out.below HBr.out).2 (by omega)
                    injection e0 with e0
                    injection e0 with e01 e02
                    subst e01
                    subst e02
                    have hjp : j < ps.length := by rw [HM.out]; exact hlt
                    obtain ⟨Ai, ci, hcell, hown⟩ := hc0 j hjp
                    have AN := Lib.hid (fun r h => HA.out.next (r := r) hjp h)
                    have AB := Lib.hid (fun h => HA.out.bad hjp h)
                    have hbe := rdRow_eq (ps[j]'hjp)
                    generalize ps[j]'hjp = p2 at *
                    have HR2 := Lib.hid (rd_new hown)
                    have C1 := Lib.hid (fun V (h : RdAt V wr.heap.size ⟨p2, false⟩) => wText V _ _ h)
                    have C2 := Lib.hid (fun V (h : RdAt V wr.heap.size (rStr ⟨p2, false⟩).2) => wText V _ _ h)
                    have CD := Lib.hid (fun V (h : RdAt V wr.heap.size (rStr (rStr ⟨p2, false⟩).2).2) => wDone V _ _ h)
                    have hne : (Value.slice Al rs.length cl).ownBlock ≠ some wr.heap.size := fun e => absurd (HO.out.lt _ e).2 (by omega)
                    have HOX := Lib.hid (HO.out.below (nba wr (.cells #[.slice Ai p2.length ci, .bool false] 183)))
                    have HBX := Lib.hid (bal' HBr.out (.cells #[.slice Ai p2.length ci, .bool false] 183))
                    generalize (rStr (rStr ⟨p2, false⟩).2).2 = x3 at *
                    generalize (rStr (rStr ⟨p2, false⟩).2).1 = value at *
                    generalize (rStr ⟨p2, false⟩).2 = x2 at *
                    generalize (rStr ⟨p2, false⟩).1 = key at *
                    have HBE := Lib.hid hbe
                    clear hbe hown hc0 HA HO
                    go_wp2_with (first
                      | (go_at_call 158; refine (C1.out _ HR2.out).mono ?_; rintro e z1 ⟨rfl, r1, o1⟩)
                      | (go_at_call 158; refine (C2.out _ r1).mono ?_; rintro e z2 ⟨rfl, r2, o2⟩))
                    refine (CD.out _ r2).mono ?_
                    rintro e z3 ⟨rfl, b3⟩
                    have HB3 := Lib.hid (jstep (only_below o2 hbs (only_below o1 hbs HBX.out)) b3)
                    have HO3 := Lib.hid (((HOX.out.only o1 hne).only o2 hne).below b3)
                    have hs3 := HB3.out.size
                    cases hd : rDone x3 with
                    | true =>
                      have AN2 := Lib.hid (AN.out ⟨key, value⟩ (by rw [HBE.out, hd]; rfl))
                      clear AN AB HBE C1 C2 CD HR2 HOX HBX r1 r2 o1 o2 b3
                      go_wp2_with (first
                        | (at_builtin; go_loud (refine wpList_appR rfl _ _ rfl w5.heap.size (.slice Al rs.length cl) rs rfl (HO3.out.below (nba z3 _)) z3.heap.size 1 ⟨key, value⟩ rfl (fun i u hi => by match i with | 0 => simp [rowVals] at hi; subst hi; simp | 1 => simp [rowVals] at hi; subst hi; simp | (i + 2) => simp [rowVals] at hi) (by omega) (by simp; omega) ?_; intro v6 w6 h6 hg6; have H6 := Lib.hid h6; have HB6 := Lib.hid (ro_grown (HO3.out.below (nba z3 (.cells #[.string key, .string value] 75))) (bal' HB3.out _) (by simp; omega) hg6); clear h6 hg6)))
                      go_roundw
                      case rel => exact ⟨j + 1, rs ++ [⟨key, value⟩], rfl, rfl, by omega, by go_num, Lib.hid (by simp [HLL.out]), AN2, H6, HB6⟩
                      case measure => simp [intOf]; omega
                    | false =>
                      have H0 := Lib.hid (show rdBaseL bs (p :: ps) = none from by rw [HC3.out, AB.out (by rw [HBE.out, hd]; rfl)])
                      clear AN AB HBE C1 C2 CD HR2 HOX HBX r1 r2 o1 o2 b3
                      go_wp2_with fail
                      (try simp only [Exit.inBlock, Exit.then])
                      refine bodyPost_ret (results_tmp4 rfl _ _ _) rfl ?_
                      have hBB := HB5.out.trans (HB3.out.mono HB5.out.size)
                      first | exact ⟨0, 0, _, false, rfl, (fun _ => H0.out), (fun e => nomatch e), ⟨none, 0, 0, rfl⟩, hBB⟩ | exact ⟨0, 0, _, .inl ⟨rfl, H0.out, ⟨none, 0, 0, rfl⟩, hBB⟩⟩
                · obtain rfl : j = m := by omega
                  have hA := HA.out
                  rw [← HM.out] at hA
                  have hE := hA.ends
                  obtain ⟨_, _, hv, hwat, hle, hcm, _⟩ := HO.out.form
                  injection hv with hv1 hv2 hv3
                  subst hv1
                  subst hv3
                  have CB := Lib.hid (wCheckRows Al rs.length cl rs wr hwat (by omega))
                  have hE2 := HC3.out
                  rw [hE] at hE2
                  simp only at hE2
                  have HE := Lib.hid hE2
                  have HBB := Lib.hid (HB5.out.trans (HBr.out.mono HB5.out.size))
                  have HOB := Lib.hid (HO.out.base HB5.out.size)
                  obtain ⟨E, hEq⟩ : ∃ E, rowsE rs = E := ⟨_, rfl⟩
                  rw [hEq] at CB HE
                  clear hA HA hE hwat hv2 HC3 HT5 hE2 HM hEq
                  by_cases hz : E = 0
                  · subst hz
                    have H0 := Lib.hid (show rdBaseL bs (p :: ps) = some (a, b, rs) from by rw [HE.out]; rfl)
                    go_wp2_with (first
                      | (go_at_call 74; refine CB.out.mono ?_; rintro e w8 ⟨rfl, b8⟩))
                    (try simp only [Exit.inBlock, Exit.then])
                    refine bodyPost_ret (results_tmp4 rfl _ _ _) rfl ?_
                    first | exact ⟨a, b, _, true, rfl, (fun e => nomatch e), (fun _ => ⟨rs, H0.out, HOB.out.below b8⟩), ⟨_, _, _, rfl⟩, jstep HBB.out b8⟩ | exact ⟨a, b, _, .inr ⟨rfl, ⟨rs, H0.out, HOB.out.below b8⟩, ⟨_, _, _, rfl⟩, jstep HBB.out b8⟩⟩
                  · have H0 := Lib.hid (show rdBaseL bs (p :: ps) = none from by rw [HE.out, if_neg hz])
                    have hz' : (E == 0) = false := by simpa using hz
                    go_wp2_with (first
                      | (go_at_call 74; refine CB.out.mono ?_; rintro e w8 ⟨rfl, b8⟩))
                    (try simp only [Exit.inBlock, Exit.then])
                    refine bodyPost_ret (results_tmp4 rfl _ _ _) rfl ?_
                    first | exact ⟨a, b, _, false, rfl, (fun _ => H0.out), (fun e => nomatch e), ⟨_, _, _, rfl⟩, jstep HBB.out b8⟩ | exact ⟨a, b, _, .inl ⟨rfl, H0.out, ⟨_, _, _, rfl⟩, jstep HBB.out b8⟩⟩
          · rw [if_pos hq] at hcons
            have H0 := Lib.hid hcons
            have hqz : ((q : Int) != (ps.length : Int)) = true := by simp; omega
            clear hcons HC2
            go_wp2_with (first
              | (go_at_call 156; refine (N1.out _ HR.out).mono ?_; rintro e w2 ⟨rfl, r2, o2⟩)
              | (go_at_call 156; refine (N2.out _ r2).mono ?_; rintro e w3 ⟨rfl, r3, o3⟩)
              | (go_at_call 156; refine (N3.out _ r3).mono ?_; rintro e w4 ⟨rfl, r4, o4⟩)
              | (go_at_call 157; refine (ND.out _ r4).mono ?_; rintro e w5 ⟨rfl, b5⟩))
            (try simp only [Exit.inBlock, Exit.then])
            refine bodyPost_ret (results_tmp4 rfl _ _ _) rfl ?_
            first | exact ⟨0, 0, _, false, rfl, (fun _ => H0.out), (fun e => nomatch e), ⟨none, 0, 0, rfl⟩, jstep (only_below o4 HB1.out.size (only_below o3 HB1.out.size (only_below o2 HB1.out.size (bal' HB1.out _)))) b5⟩ | exact ⟨0, 0, _, .inl ⟨rfl, H0.out, ⟨none, 0, 0, rfl⟩, jstep (only_below o4 HB1.out.size (only_below o3 HB1.out.size (only_below o2 HB1.out.size (bal' HB1.out _)))) b5⟩⟩
        · have H0 := Lib.hid (show rdBaseL bs (p :: ps) = none from by rw [HC2.out, if_neg (fun h => ha1 h.2)])
          clear HC2
          go_wp2_with (first
            | (go_at_call 156; refine (N1.out _ HR.out).mono ?_; rintro e w2 ⟨rfl, r2, o2⟩)
            | (go_at_call 156; refine (N2.out _ r2).mono ?_; rintro e w3 ⟨rfl, r3, o3⟩)
            | (go_at_call 156; refine (N3.out _ r3).mono ?_; rintro e w4 ⟨rfl, r4, o4⟩)
            | (go_at_call 157; refine (ND.out _ r4).mono ?_; rintro e w5 ⟨rfl, b5⟩))
          (try simp only [Exit.inBlock, Exit.then])
          refine bodyPost_ret (results_tmp4 rfl _ _ _) rfl ?_
          first | exact ⟨0, 0, _, false, rfl, (fun _ => H0.out), (fun e => nomatch e), ⟨none, 0, 0, rfl⟩, jstep (only_below o4 HB1.out.size (only_below o3 HB1.out.size (only_below o2 HB1.out.size (bal' HB1.out _)))) b5⟩ | exact ⟨0, 0, _, .inl ⟨rfl, H0.out, ⟨none, 0, 0, rfl⟩, jstep (only_below o4 HB1.out.size (only_below o3 HB1.out.size (only_below o2 HB1.out.size (bal' HB1.out _)))) b5⟩⟩
end Go.Proofs.YtamglegdgcehaaaGreat
set_option linter.unusedVariables false
namespace Go.Proofs.YtamglegdgcehaaaGreat
open Go.RowKit

theorem BAt.below {w V : World} {A : Option Addr} {n : Nat} {bs : List (List Op_)} (h : BAt w A n bs) (hb : Below w.heap.size w V) : BAt V A n bs := by
  refine ⟨h.1, fun h0 => ?_⟩
  obtain ⟨b, o, e, hc⟩ := h.2 h0
  refine ⟨b, o, e, fun i hi => ?_⟩
  obtain ⟨Ai, ci, h1, h2, h3, h4⟩ := hc i hi
  exact ⟨Ai, ci, bcell hb h1, h2.below hb, h3, h4⟩
set_option maxRecDepth 100000 in
set_option maxHeartbeats 8000000 in
theorem wSame (A1 A2 B1 B2 : Option Addr) (n1 n2 m1 m2 c1 c2 d1 d2 : Nat) (r1 r2 : List Rw) (b1 b2 : List (List Op_)) (w : World) (hr1 : WAt w A1 n1 r1) (hr2 : WAt w B1 m1 r2) (hb1 : BAt w A2 n2 b1) (hb2 : BAt w B2 m2 b2)
    (hn1 : n1 ≤ 9223372036854775807) (hn2 : n2 ≤ 9223372036854775807) (hm1 : m1 ≤ 9223372036854775807) (hm2 : m2 ≤ 9223372036854775807) :
    Calls Tryz.prog 40 #[.agg #[.slice A1 n1 c1, .slice A2 n2 c2], .agg #[.slice B1 m1 d1, .slice B2 m2 d2]] w fun e w' => e = .returned (.bool (decide (r1 = r2 ∧ b1 = b2))) ∧ Below w.heap.size w w' := by
  have HR1 := Lib.hid hr1
  have HR2 := Lib.hid hr2
  have HB1 := Lib.hid hb1
  have HB2 := Lib.hid hb2
  have L1 := Lib.hid hr1.1
  have L2 := Lib.hid hr2.1
  have L3 := Lib.hid hb1.1
  have L4 := Lib.hid hb2.1
  clear hr1 hr2 hb1 hb2
  by_cases hnm : n1 = m1
  · subst hnm
    by_cases hnm : n2 = m2
    · subst hnm
      go_enter Tryz.func40, Tryz.ntmps40
      go_wp2
      have hB0 := jstep (bal (Below.refl w.heap.size w) (.cells #[.slice A1 n1 c1, .slice A2 n2 c2] 88)) (nba (w.alloc (.cells #[.slice A1 n1 c1, .slice A2 n2 c2] 88)) (.cells #[.slice B1 n1 d1, .slice B2 n2 d2] 88))
      have p0 : ((w.alloc (.cells #[.slice A1 n1 c1, .slice A2 n2 c2] 88)).alloc (.cells #[.slice B1 n1 d1, .slice B2 n2 d2] 88)).cell? ⟨w.heap.size, 0, none⟩ = some (.slice A1 n1 c1) := bcell (X := w.alloc _) (nba _ _) (by simp)
      have p1 : ((w.alloc (.cells #[.slice A1 n1 c1, .slice A2 n2 c2] 88)).alloc (.cells #[.slice B1 n1 d1, .slice B2 n2 d2] 88)).cell? ⟨w.heap.size, 1, none⟩ = some (.slice A2 n2 c2) := bcell (X := w.alloc _) (nba _ _) (by simp)
      have q0 : ((w.alloc (.cells #[.slice A1 n1 c1, .slice A2 n2 c2] 88)).alloc (.cells #[.slice B1 n1 d1, .slice B2 n2 d2] 88)).cell? ⟨w.heap.size + 1, 0, none⟩ = some (.slice B1 n1 d1) := by simp
      have q1 : ((w.alloc (.cells #[.slice A1 n1 c1, .slice A2 n2 c2] 88)).alloc (.cells #[.slice B1 n1 d1, .slice B2 n2 d2] 88)).cell? ⟨w.heap.size + 1, 1, none⟩ = some (.slice B2 n2 d2) := by simp
      have HB0 := Lib.hid hB0
      clear hB0
      generalize (w.alloc (.cells #[.slice A1 n1 c1, .slice A2 n2 c2] 88)).alloc (.cells #[.slice B1 n1 d1, .slice B2 n2 d2] 88) = X at *
      go_loopw [5] (fun i wr => ∃ k : Nat, k ≤ n1 ∧ i = .int .i64 k ∧ Hid (r1.take k = r2.take k) ∧ Hid (Below X.heap.size X wr)) (fun i _ => n1 - (intOf i).toNat)
      case atStart => exact ⟨0, Nat.zero_le _, rfl, Lib.hid rfl, Lib.hid (Below.refl _ _)⟩
      case round =>
        obtain ⟨k, hk, rfl, HT, HB⟩ := hrel
        have k0 := bcell HB.out p0
        have k1 := bcell HB.out p1
        have j0 := bcell HB.out q0
        have j1 := bcell HB.out q1
        have hwb := jstep HB0.out HB.out
        by_cases hlt : k < n1
        · obtain ⟨x1, o1, rfl, hc1⟩ := (HR1.out.below hwb).2 (by omega)
          obtain ⟨x2, o2, rfl, hc2⟩ := (HR2.out.below hwb).2 (by omega)
          have e1 : k < r1.length := by rw [L1.out]; exact hlt
          have e2 : k < r2.length := by rw [L2.out]; exact hlt
          obtain ⟨y0, y1⟩ := hc1 k e1
          obtain ⟨z0, z1⟩ := hc2 k e2
          have TS := Lib.hid (fun h => takeSuccEq e1 e2 HT.out h)
          have NE := Lib.hid (fun (h : r1[k]'e1 ≠ r2[k]'e2) (h2 : r1 = r2) => h (by subst h2; rfl))
          generalize r1[k]'e1 = a at *
          generalize r2[k]'e2 = b at *
          obtain ⟨ka, va⟩ := a
          obtain ⟨kb, vb⟩ := b
          have NB := fun V => run_neRw ka va kb vb V
          clear hc1 hc2
          by_cases hab : (⟨ka, va⟩ : Rw) = ⟨kb, vb⟩
          · have HT2 := Lib.hid (TS.out hab)
            rw [decide_eq_false (fun h => h hab)] at NB
            clear TS NE hab
            go_wp2_with fail
            go_region
            all_goals
              go_wp2_with fail
              go_roundw
              case rel => exact ⟨k + 1, by omega, by go_num, HT2, Lib.hid (bdr' HB.out)⟩
              case measure => simp [intOf]; omega
          · have hd : decide (r1 = r2 ∧ b1 = b2) = false := decide_eq_false (fun e => NE.out hab e.1)
            rw [decide_eq_true hab] at NB
            have HD := Lib.hid hd
            clear TS NE hab hd
            go_wp2_with fail
            go_region
            all_goals
              go_wp2_with fail
              go_ret
              exact ⟨by rw [HD.out]; rfl, bdr' hwb⟩
        · obtain rfl : k = n1 := by omega
          have ht := HT.out
          rw [List.take_of_length_le (by rw [L1.out]; omega), List.take_of_length_le (by rw [L2.out]; omega)] at ht
          have HRR := Lib.hid ht
          clear ht HT
          go_wp2_with fail
          generalize wr = wq at *
          go_loopw [6] (fun i wz => ∃ j : Nat, j ≤ n2 ∧ i = .int .i64 j ∧ Hid (b1.take j = b2.take j) ∧ Hid (Below wq.heap.size wq wz)) (fun i _ => n2 - (intOf i).toNat)
          case atStart => exact ⟨0, Nat.zero_le _, rfl, Lib.hid rfl, Lib.hid (Below.refl _ _)⟩
          case round =>
            obtain ⟨j, hj, rfl, HT, HBz⟩ := hrel
            have hk1 := bcell HBz.out k1
            have hj1 := bcell HBz.out j1
            have hwz := jstep hwb HBz.out
            by_cases hlt : j < n2
            · obtain ⟨x1, o1, rfl, hc1⟩ := (HB1.out.below hwz).2 (by omega)
              obtain ⟨x2, o2, rfl, hc2⟩ := (HB2.out.below hwz).2 (by omega)
              have e1 : j < b1.length := by rw [L3.out]; exact hlt
              have e2 : j < b2.length := by rw [L4.out]; exact hlt
              obtain ⟨P1, f1, y0, ho1, hle1, hcm1⟩ := hc1 j e1
              obtain ⟨P2, f2, z0, ho2, hle2, hcm2⟩ := hc2 j e2
              have TS := Lib.hid (fun h => takeSuccEq e1 e2 HT.out h)
              have NE := Lib.hid (fun (h : b1[j]'e1 ≠ b2[j]'e2) (h2 : b1 = b2) => h (by subst h2; rfl))
              generalize b1[j]'e1 = a at *
              generalize b2[j]'e2 = b at *
              have SO := Lib.hid (fun V (hb : Below wr.heap.size wr V) => wSameOps P1 P2 a.length b.length f1 f2 a b V (ho1.below hb) (ho2.below hb) (by omega) (by omega))
              obtain ⟨dd, hdd⟩ : ∃ x, decide (a = b) = x := ⟨_, rfl⟩
              rw [hdd] at SO
              have m1 : (⟨wr.heap, wr.tape, wr.drawn + 1, wr.os, wr.output⟩ : World).cell? ⟨w.heap.size, 1, none⟩ = some (.slice (some ⟨x1, o1, none⟩) n2 c2) := hk1
              have m2 : (⟨wr.heap, wr.tape, wr.drawn + 1, wr.os, wr.output⟩ : World).cell? ⟨w.heap.size + 1, 1, none⟩ = some (.slice (some ⟨x2, o2, none⟩) n2 d2) := hj1
              have m3 : (⟨wr.heap, wr.tape, wr.drawn + 1, wr.os, wr.output⟩ : World).cell? ⟨x1, o1 + j, none⟩ = some (.slice P1 a.length f1) := y0
              have m4 : (⟨wr.heap, wr.tape, wr.drawn + 1, wr.os, wr.output⟩ : World).cell? ⟨x2, o2 + j, none⟩ = some (.slice P2 b.length f2) := z0
              have HDR := Lib.hid ((Below.refl wr.heap.size wr).drew)
              clear hc1 hc2 ho1 ho2
              cases dd with
              | true =>
                have HT2 := Lib.hid (TS.out (of_decide_eq_true hdd))
                clear TS NE hdd
                go_wp2_with fail
                go_still_tail 10, (by kernel_rfl)
                change wpList _ _ _ _ _ wr.drew
                generalize wr.drew = V at *
                go_wp2_with (first
                  | (go_at_call 106; refine (SO.out _ HDR.out).mono ?_; rintro e w5 ⟨rfl, hb5⟩))
                go_roundw
                case rel => exact ⟨j + 1, by omega, by go_num, HT2, Lib.hid (jstep HBz.out (jstep HDR.out hb5))⟩
                case measure => simp [intOf]; omega
              | false =>
                have hd : decide (r1 = r2 ∧ b1 = b2) = false := decide_eq_false (fun e => NE.out (of_decide_eq_false hdd) e.2)
                have HD := Lib.hid hd
                clear TS NE hdd hd
                go_wp2_with fail
                go_still_tail 10, (by kernel_rfl)
                change wpList _ _ _ _ _ wr.drew
                generalize wr.drew = V at *
                go_wp2_with (first
                  | (go_at_call 106; refine (SO.out _ HDR.out).mono ?_; rintro e w5 ⟨rfl, hb5⟩))
                go_ret
                exact ⟨by rw [HD.out]; rfl, jstep hwz (jstep HDR.out hb5)⟩
            · obtain rfl : j = n2 := by omega
              have ht := HT.out
              rw [List.take_of_length_le (by rw [L3.out]; omega), List.take_of_length_le (by rw [L4.out]; omega)] at ht
              have HD := Lib.hid (decide_eq_true (And.intro HRR.out ht))
              clear ht HT
              go_wp2_with fail
              go_ret
              exact ⟨by rw [HD.out]; rfl, hwz⟩
    · have hd : decide (r1 = r2 ∧ b1 = b2) = false := decide_eq_false (fun e => hnm (by rw [← L3.out, ← L4.out, e.2]))
      have hz : ((n2 : Int) != (m2 : Int)) = true := by simp; omega
      rw [hd]
      go_enter Tryz.func40, Tryz.ntmps40
      go_wp2_with fail
      go_ret
      exact ⟨rfl, bal (bal (Below.refl _ _) _) _⟩
  · have hd : decide (r1 = r2 ∧ b1 = b2) = false := decide_eq_false (fun e => hnm (by rw [← L1.out, ← L2.out, e.1]))
    have hz : ((n1 : Int) != (m1 : Int)) = true := by simp; omega
    rw [hd]
    go_enter Tryz.func40, Tryz.ntmps40
    go_wp2_with fail
    go_ret
    exact ⟨rfl, bal (bal (Below.refl _ _) _) _⟩
end Go.Proofs.YtamglegdgcehaaaGreat
