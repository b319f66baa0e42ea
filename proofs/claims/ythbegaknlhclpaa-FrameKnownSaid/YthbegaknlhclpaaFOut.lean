/-
  Layer 4, the statements' own 'all': what All tells, in a list.
-/
import Derived.Test.YthbegaknlhclpaaFOk
import Derived.Test.YthbegaknlhclpaaBlk
import Derived.RangeFuncBox
import Derived.Shelf.Abstract
import Derived.Shelf.RegionOpen
import Derived.OwnWalkIn
import Derived.TacticsInMore
import Derived.LoopNIn
import Derived.LoopIn
import Derived.Maps.AppendAt
set_option linter.unusedVariables false
namespace Go.Proofs.Ythbegaknlhclpaa
open Go.RowKit Go.Shelf
attribute [local go_sem] Oper.semAt_some

theorem info22 : (Try.prog.info? 22).map (fun i => (i.zero, i.size, i.bytes)) = some (some (.slice none 0 0), 1, 24) := by kernel_rfl

/-- Bytes of the call's own stay where a row of other cells is written. -/
theorem Own.grown {W W' : World} {B B' n : Nat} {x v : Value} {xs : List UInt8} {e : TypeId} {size : Nat} {ys : List Value} (ho : Own W B x xs) (hr : W.ownsRow B' e size v n ys) (hg : W.grownBy W' v.ownBlock) (he : e ≠ 5) : Own W' B x xs := by
  refine World.ownsRow.kept ho hg ?_
  rcases ho.2 with ⟨rfl, _⟩ | ⟨g, cap, cur, rfl, hb, hh, _⟩
  · exact .inl rfl
  · refine .inr fun h => ?_
    rcases hr.2 with ⟨rfl, _⟩ | ⟨g', cap', cur', rfl, hb', hh', _⟩
    · cases h
    · simp only [Value.ownBlock, Option.some.injEq] at h
      subst h
      rw [hh] at hh'
      simp only [Option.some.injEq, Obj.cells.injEq] at hh'
      exact he hh'.2.1.symm
theorem Own.box {W : World} {B g : Nat} {x : Value} {xs : List UInt8} (ho : Own W B x xs) (hg : g < B) (u : Value) : Own (W.setCell ⟨g, 0, none⟩ u) B x xs := ho.far hg u

set_option maxHeartbeats 1000000 in
theorem out_all (hall : AllOk) (A : Option Addr) (n c : Nat) (bs : List UInt8) (w : World) (hx : At w A n bs) (hnc : n ≤ c) (hc : c ≤ 9223372036854775807) (hn2 : n ≤ 200000000000000) (hmany : (alls bs).length ≤ 1000000) :
    Calls Try.prog 23 #[.slice A n c] w fun e w' => ∃ (v : Value) (ps : List Piece), e = .returned v ∧ ps.map (·.2) = alls bs ∧ w'.ownsRow w.heap.size 22 1 v ps.length (ps.map (·.1)) ∧
      (∀ x ∈ ps, Own w' w.heap.size x.1 x.2) ∧ Below w.heap.size w w' := by
  refine (callsIn_wide (n := 3)).1 (callsIn_of_wp_marks Try.func23 rfl trivial (wpIn_wide.2 ?_) rfl)
  simp only [Try.ntmps23, List.size_toArray, List.length_cons, List.length_nil, Nat.reduceAdd, Nat.reduceSub, Array.replicate_succ, Array.replicate_zero, List.push_toArray, List.append_toArray, List.nil_append, List.cons_append]
  have hcmp : ∀ (fn : Fn) (f cs : Array Value) (W : World), (binOp .eql 33 (.func fn f cs) .nilFunc).run Try.prog W = .ok (.bool false) W := fun fn f cs W => by kernel_rfl
  go_wp2_with fail
  refine (hall A n c bs w _ hx hnc hc hn2 (Below.refl _ _)).mono ?_
  rintro e wa ⟨g1, lb1, rfl, -, hb1, -⟩
  have hB1 : Below w.heap.size w (wa.alloc (.cells #[.slice none 0 0] 35)) := hb1.alloc hb1.size _
  have hbox1 := Blk.new wa 35 #[.slice none 0 0]
  go_wp2_with fail
  refine (hall A n c bs w _ hx hnc hc hn2 hB1).mono ?_
  rintro e W0 ⟨g, lb, rfl, hgo, hb2, htell⟩
  go_wp2_with fail
  have hB0 : Below w.heap.size w W0 := hB1.trans (hb2.mono hB1.size)
  have hbox : Blk W0 wa.heap.size 35 #[.slice none 0 0] := hbox1.below hb2 (by simp)
  have hT := htell W0 (Below.refl _ _)
  have hlt := hbox.lt
  have hge := hb1.size
  clear hbox1 htell hb2 hB1
  obtain ⟨i0, hi0, hz0, hz1, hz2⟩ := info_parts info22
  refine wp_range (P := Try.prog) rfl hgo hT (fun _ => rfl)
    (fun hX h => h.below (by omega) (by omega)) (fun h k => h.trans k) (fun _ _ _ h k => h.firm k)
    (fun pre W => (∃ v, Blk W wa.heap.size 35 #[v] ∧ W.ownsRow w.heap.size 22 1 v pre.length (pre.map (·.1))) ∧ (∀ x ∈ pre, Own W W0.heap.size x.1 x.2) ∧ Below w.heap.size w W)
    (fun _ _ _ => False)
    (fun s X Y h hX hf => ⟨by obtain ⟨v, h1, h2⟩ := h.1; exact ⟨v, hf.cells h1, ownsRow_firm h2 hf⟩, fun x hx => (h.2.1 x hx).firm hf, h.2.2.trans (hf.below (by omega) (by omega))⟩)
    (fun _ _ _ _ h _ _ => h)
    ⟨⟨_, hbox, World.ownsRow_nil _ _ _ _⟩, fun x hx => absurd hx (by simp), hB0⟩
    (fun x => { tmps := #[.slice A n c, undef, .slice none 0 0, .pointer (some ⟨wa.heap.size, 0, none⟩), x.1, .slice A n c, .func (.func g1) #[] lb1, .bool false, .slice A n c, .func (.func g) #[] lb, x.1, undef, undef, undef, undef, undef], defers := [] }) ?assign ?body ?done ?stop
  case assign =>
    intro l x W K hK
    gi_wp2
    exact hK
  case body =>
    rintro l pre ⟨v, xs⟩ W hsW ⟨⟨u, hu, hrow⟩, hold, hB⟩ hx hS
    obtain ⟨Ax, cx, hv, _⟩ := hx.form
    dsimp only at hv hx
    subst hv
    have hk : pre.length + 1 ≤ 1000000 := by
      obtain ⟨r, hr⟩ := hS
      have := congrArg List.length hr
      simp only [List.length_map, List.length_append, List.length_singleton] at this
      omega
    have c1 : W.cell? ⟨wa.heap.size, 0, none⟩ = some u := by rw [hu.cell]; rfl
    have f1 := hu.frozen 0
    have hsB := hB.size
    gi_wp2_with (gi_at_builtin; (refine wpListIn_append_own _ rfl _ _ 35 rfl w.heap.size 22 i0 (.slice none 0 0) 1 24 Try.underlying35 hi0 hz0 hz1 hz2 rfl (by decide) u pre.length _ rfl (hrow.alloc _) ⟨W.heap.size, 0, none⟩ 1 1 [.slice Ax xs.length cx] rfl rfl (cell_one_new _ _ _) (fun u' hu' => by rw [List.mem_singleton.1 hu']; rfl) (by unfold maxLen; omega) (by omega) (by simp; omega) ?_; intro v' w1 hown' hgrow _; obtain ⟨g', cap', rfl⟩ := ownsRow_succ hown'; obtain ⟨hv1, hv2, hr2, hk2, hb2⟩ := Boxed.appended (t := 35) hu (by decide) hrow hsB hge hown' hgrow; have hc1 := hv1.cell; have hf1 := hv1.frozen))
    have step : ∀ (a : Value) (b : List UInt8), Own W W0.heap.size a b → Own (w1.setCell ⟨wa.heap.size, 0, none⟩ (.slice (some ⟨g', 0, none⟩) (pre.length + 1) cap')) W0.heap.size a b := fun a b h =>
      ((h.below ((Below.refl _ W).alloc (Nat.le_refl _) _)).grown (hrow.alloc _) hgrow (by decide)).box (by omega) _
    refine ⟨hk2.from _, hb2, ⟨_, hv2, by simpa using hr2⟩, ?_, hB.trans hb2⟩
    intro a b h
    rcases List.mem_append.1 h with h | h
    · exact step _ _ (hold (a, b) h)
    · obtain ⟨rfl, rfl⟩ : a = .slice Ax xs.length cx ∧ b = xs := by simpa using h
      exact step _ _ hx
  case done =>
    rintro D ps W hD hS ⟨⟨v, hv, hrow⟩, hold, hB⟩ hK
    have c1 : W.cell? ⟨wa.heap.size, 0, none⟩ = some v := by rw [hv.cell]; rfl
    have hf : Firm w.heap.size W (W.putObj D (.deferred none)) := .put D _ (by omega) hK rfl
    go_wp2
    refine ⟨by simp, .inl ⟨_, _, rfl, run_takeDeferred hK, ?_⟩⟩
    exact ⟨_, results_tmp rfl _ _ _, v, ps, rfl, hS, ownsRow_firm hrow hf, fun x hx => ((hold x hx).firm hf).base (by omega), hB.trans (hf.below (Nat.le_refl _) hB.size)⟩
  case stop =>
    intro D c pre W _ _ h _
    exact h.elim
end Go.Proofs.Ythbegaknlhclpaa
