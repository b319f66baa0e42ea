/-
  Layer 7: the landed disk: Fail.
-/
import Derived.Test.YtmjoaeljfhgojaaGMore
set_option linter.unusedVariables false
namespace Go.Proofs.Ytmjoaeljfhgojaa
open Go.RowKit Go.Maps

theorem sli_size (w : World) : (sizeOf 3).run Try.prog w = .ok 1 w := by kernel_rfl
theorem sli_elem : Try.prog.elem 28 = 3 := by kernel_rfl
theorem sli_under : Try.prog.underlying 28 = some (.slice (Try.prog.elem 28)) := by rw [sli_elem]; exact Try.underlying28
theorem sli_h (A : Option Addr) (n c : Nat) (kh : IntKind) (h : Int) (w : World) (h0 : 0 ≤ h) (h2 : h ≤ c) :
    (Instr.slice 28 (.slice A n c) none (some (.int kh h)) none).run Try.prog w = .ok (.slice A h.toNat c) w := by
  rw [run_slice_h w 28 A n c sli_under kh h h0 h2, sli_elem, sli_size]
  simp only [Result.andThen, sliced, Nat.sub_zero, Nat.zero_mul]
  congr 2
  split
  · rfl
  · cases A with
    | none => rfl
    | some a => simp [Addr.add]
theorem IAt.take {w : World} {A : Option Addr} {n m : Nat} {xs : List Int} (h : IAt w A n xs) (hm : m ≤ n) : IAt w A m (xs.take m) := by
  refine ⟨by rw [List.length_take, h.1]; omega, fun h0 => ?_⟩
  obtain ⟨b, o, e, hc⟩ := h.2 (by omega)
  refine ⟨b, o, e, fun i hi => ?_⟩
  rw [List.getElem_take]
  exact hc i (by rw [List.length_take] at hi; omega)
theorem take_min {xs : List Int} {n : Nat} (h : xs.length = n) : xs.take (min n 20) = xs.take 20 := by
  rcases Nat.le_total n 20 with h1 | h1
  · rw [Nat.min_eq_left h1, List.take_of_length_le (by omega), List.take_of_length_le (by omega)]
  · rw [Nat.min_eq_right h1]
set_option maxRecDepth 100000 in
set_option maxHeartbeats 4000000 in
theorem gFail (w : World) (g : Nat) (D : Dk) (F : Nat → Prop) (k : Int) (A : Option Addr) (n c : Nat) (keep : List Int) (hk0 : -9223372036854775808 ≤ k) (hk1 : k ≤ 9223372036854775807) (h : RCk w g D F) (hx : IAt w A n keep) (hn : n ≤ 17592186044416) (hnc : n ≤ c) :
    Calls Try.prog 30 #[pt g, .int .i64 k, .slice A n c] w fun e w' => e = .returned (.tuple #[]) ∧ Turns RCk w g F (fal D k keep) w' := by
  obtain ⟨mb, fp, es, qs, h⟩ := h
  have N := Lib.hid (gNone w g D F mb fp es qs h)
  have c2 := h.c2
  have z2 := h.fz 2
  have H := Lib.hid h
  have hgl := h.lt g h.fg
  have hO := Lib.hid h.ok
  by_cases hk : k < 0
  · clear h
    go_enter Try.func30, Try.ntmps30
    go_wp2_with (first
      | (go_at_call 44; refine N.out.mono ?_; rintro e w1 ⟨rfl, rfl⟩))
    first | go_end0 | (refine bodyPost_ret (results_none rfl _ _ _) rfl ?_)
    have ho := H.out.obj
    refine ⟨rfl, ?_⟩
    cases hd : D.dead with
    | true =>
      have hF : fal D k keep = D := by unfold fal; rw [hd]; rfl
      rw [hF]
      have hR := H.out.obj' (V' := w1.setCell ⟨g, 2, none⟩ (.pointer none)) (D' := D) (fp' := none) rfl (by simp [World.setCell, Array.getElem?_modify, ho]) (fun x _ hx _ => set_blk _ _ _ _ hx) (fun _ e => e) (fun x e => by rw [set_size]; exact H.out.lt x e) (fun e => by rw [hd] at e; cases e) H.out.gone hO.out
      exact hR.ends (fun k e => .inl e) ((Grow.refl _ _).set (p := ⟨g, 2, none⟩) (.inl H.out.fg) _) H.out.lt
    | false =>
      have hF : fal D k keep = { D with left := -1, keep := keep } := by unfold fal; rw [hd, if_neg (by decide), Int.max_eq_right (by omega)]
      rw [hF]
      have hR := H.out.obj' (V' := w1.setCell ⟨g, 2, none⟩ (.pointer none)) (D' := { D with left := -1, keep := keep }) (fp' := none) rfl (by simp [World.setCell, Array.getElem?_modify, ho]) (fun x _ hx _ => set_blk _ _ _ _ hx) (fun _ e => e) (fun x e => by rw [set_size]; exact H.out.lt x e) (fun _ => .inl ⟨by show (-1 : Int) < 0; omega, rfl⟩) (fun e => by have e' : D.dead = true := e; rw [hd] at e'; cases e') ⟨hO.out.sorted, hO.out.marks, hO.out.few, hO.out.sum, by show (-1 : Int) ≤ -1; omega, by show (-1 : Int) ≤ _; omega⟩
      exact hR.ends (fun k e => .inl e) ((Grow.refl _ _).set (p := ⟨g, 2, none⟩) (.inl H.out.fg) _) H.out.lt
  · obtain ⟨m, hm⟩ : ∃ m, min n 20 = m := ⟨_, rfl⟩
    have hmi : min (n : Int) 20 = (m : Int) := by omega
    have hsl : ∀ V : World, (Instr.slice 28 (.slice A n c) none (some (.int .i64 (m : Int))) none).run Try.prog V = .ok (.slice A m c) V := fun V => by
      rw [sli_h A n c .i64 (m : Int) V (by omega) (by omega)]
      rfl
    have hcut := hx.take (m := m) (by omega)
    have e20 : keep.take m = keep.take 20 := by rw [← hm]; exact take_min hx.1
    rw [e20] at hcut
    have hl20 := hcut.1
    have CL := Lib.hid (fun V (hb : Below w.heap.size w V) => (show Calls Try.prog 59 #[.slice A m c] V fun e w' => ∃ A1 c1, e = .returned (.slice A1 m c1) ∧ OwnI w' V.heap.size (.slice A1 m c1) (keep.take 20) ∧ Below V.heap.size V w' from (cloneI A m c (keep.take 20) V (by
      refine ⟨hcut.1, fun h0 => ?_⟩
      obtain ⟨b, o, e, hc⟩ := hcut.2 h0
      exact ⟨b, o, e, fun i hi => (hb.cell (World.block_lt_of_cell? w _ (hc i hi))).trans (hc i hi)⟩) (by omega)).mono (by
      rintro e w' ⟨v, rfl, hv, hb⟩
      obtain ⟨A1, c1, rfl, _⟩ := hv.form
      rw [hl20] at hv ⊢
      exact ⟨A1, c1, rfl, hv, hb⟩)))
    clear h hx hcut
    go_enter Try.func30, Try.ntmps30
    go_wp2_with (first
      | (go_at_call 44; refine N.out.mono ?_; rintro e w1 ⟨rfl, rfl⟩)
      | (go_at_call 59; refine (CL.out _ (Below.refl _ _)).mono ?_; rintro e w2 ⟨A1, c1, rfl, hv, hb⟩; have hR2 := H.out.below hb; have y2 : ∀ o, (w2.alloc o).cell? ⟨g, 2, none⟩ = some (.pointer fp) := fun o => (hR2.below ((Below.refl _ _).alloc (Nat.le_refl _) o)).c2; have y3 : ∀ o, (w2.alloc o).frozen? ⟨g, 2, none⟩ = false := fun o => (hR2.below ((Below.refl _ _).alloc (Nat.le_refl _) o)).fz 2; have HV := Lib.hid (And.intro hv hb); have HR := Lib.hid hR2; clear hv hb hR2))
    first | go_end0 | (refine bodyPost_ret (results_none rfl _ _ _) rfl ?_)
    refine ⟨rfl, ?_⟩
    obtain ⟨hv, hb⟩ := HV.out
    have h3 := HR.out.below ((Below.refl w2.heap.size w2).alloc (Nat.le_refl _) (.cells #[.int .i64 k, .slice A1 m c1] 80))
    have ho := h3.obj
    have hgl2 : g < w2.heap.size := HR.out.lt g HR.out.fg
    have hsz : ((w2.alloc (.cells #[.int .i64 k, .slice A1 m c1] 80)).setCell ⟨g, 2, none⟩ (.pointer (some ⟨w2.heap.size, 0, none⟩))).heap.size = w2.heap.size + 1 := by rw [set_size]; simp
    have hGr : Grow F w1 ((w2.alloc (.cells #[.int .i64 k, .slice A1 m c1] 80)).setCell ⟨g, 2, none⟩ (.pointer (some ⟨w2.heap.size, 0, none⟩))) := (Grow.of_below (hb.alloc hb.size _)).set (p := ⟨g, 2, none⟩) (.inl H.out.fg) _
    have hG1 : ∀ x, F x → nF F w1 ((w2.alloc (.cells #[.int .i64 k, .slice A1 m c1] 80)).setCell ⟨g, 2, none⟩ (.pointer (some ⟨w2.heap.size, 0, none⟩))) x := fun x e => .inl e
    have hG2 : ∀ x, nF F w1 ((w2.alloc (.cells #[.int .i64 k, .slice A1 m c1] 80)).setCell ⟨g, 2, none⟩ (.pointer (some ⟨w2.heap.size, 0, none⟩))) x → x < ((w2.alloc (.cells #[.int .i64 k, .slice A1 m c1] 80)).setCell ⟨g, 2, none⟩ (.pointer (some ⟨w2.heap.size, 0, none⟩))).heap.size := fun x e => by
      rcases e with e | e
      · rw [hsz]
        have := HR.out.lt x e
        omega
      · exact e.2
    have hob : ((w2.alloc (.cells #[.int .i64 k, .slice A1 m c1] 80)).setCell ⟨g, 2, none⟩ (.pointer (some ⟨w2.heap.size, 0, none⟩))).heap[g]? = some (.cells #[.map (some mb), .bool D.dead, .pointer (some ⟨w2.heap.size, 0, none⟩)] 68 (0, 0)) := by
      have e : (w2.alloc (.cells #[.int .i64 k, .slice A1 m c1] 80)).heap[g]? = some (.cells #[.map (some mb), .bool D.dead, .pointer fp] 68 (0, 0)) := ho
      simp only [World.setCell, Array.getElem?_modify, if_true, e, Option.map_some]
      rfl
    cases hd : D.dead with
    | true =>
      have hF : fal D k keep = D := by unfold fal; rw [hd]; rfl
      rw [hF]
      exact (h3.obj' (D' := D) (fp' := some ⟨w2.heap.size, 0, none⟩) rfl hob (fun x _ hx _ => set_blk _ _ _ _ hx) hG1 hG2 (fun e => by rw [hd] at e; cases e) H.out.gone hO.out).ends (fun _ e => e) hGr H.out.lt
    | false =>
      have hF : fal D k keep = { D with left := k, keep := keep } := by unfold fal; rw [hd, if_neg (by decide), Int.max_eq_left (by omega)]
      rw [hF]
      refine (h3.obj' (D' := { D with left := k, keep := keep }) (fp' := some ⟨w2.heap.size, 0, none⟩) rfl hob (fun x _ hx _ => set_blk _ _ _ _ hx) hG1 hG2 (fun _ => .inr ⟨by show (0 : Int) ≤ k; omega, w2.heap.size, .slice A1 m c1, rfl, (set_blk _ _ _ _ (by omega)).trans (heap_alloc_new w2 _), ?_, .inr ⟨hb.size, by rw [hsz]; omega⟩, fun x e => ?_⟩) (fun e => by have e' : D.dead = true := e; rw [hd] at e'; cases e') ⟨hO.out.sorted, hO.out.marks, hO.out.few, hO.out.sum, by show (-1 : Int) ≤ k; omega, hk1⟩).ends (fun _ e => e) hGr H.out.lt
      · refine (hv.base_ (Nat.zero_le _)).onS (fun x e => ?_)
        have hl := (rowOwn hv x e)
        refine (set_blk _ _ _ _ (fun e2 => ?_)).trans (((Below.refl w2.heap.size w2).alloc (Nat.le_refl _) _).block x hl.2)
        omega
      · have hl := (rowOwn hv x e)
        exact .inr ⟨hl.1, by rw [hsz]; omega⟩
end Go.Proofs.Ytmjoaeljfhgojaa
