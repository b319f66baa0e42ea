/-
  Layer 10, the code: change, checkBatch, Apply, Get, Len.
-/
import Derived.Test.YtgakkeeeadndkaaTbCode
set_option linter.unusedVariables false
namespace Go.Proofs.Ytgakkeeeadndkaa
open Go.RowKit

/-- A list of changes in memory. -/
def OAt (w : World) (A : Option Addr) (n : Nat) (l : List Op_) : Prop :=
  l.length = n ∧ (0 < n → ∃ b o, A = some ⟨b, o, none⟩ ∧ ∀ i (h : i < l.length), w.cell? ⟨b, o + i * 3, none⟩ = some (.string (l[i]'h).key) ∧ w.cell? ⟨b, o + i * 3 + 1, none⟩ = some (.string (l[i]'h).value) ∧ w.cell? ⟨b, o + i * 3 + 2, none⟩ = some (.bool (l[i]'h).del))
theorem OAt.keep {w w' : World} {A : Option Addr} {n : Nat} {l : List Op_} (h : OAt w A n l) (hk : ∀ a v, w.cell? a = some v → InF (fun k => k = a.block) A → w'.cell? a = some v) : OAt w' A n l := by
  refine ⟨h.1, fun h0 => ?_⟩
  obtain ⟨b, o, rfl, hc⟩ := h.2 h0
  have hin : ∀ j, InF (fun k => k = (⟨b, j, none⟩ : Addr).block) (some ⟨b, o, none⟩) := fun j a e => by injection e with e; subst e; rfl
  exact ⟨b, o, rfl, fun i hi => ⟨hk _ _ (hc i hi).1 (hin _), hk _ _ (hc i hi).2.1 (hin _), hk _ _ (hc i hi).2.2 (hin _)⟩⟩
theorem OAt.below {w w' : World} {A : Option Addr} {n : Nat} {l : List Op_} (h : OAt w A n l) (hb : Below w.heap.size w w') : OAt w' A n l := h.keep fun a v e _ => by rw [hb.cell (World.block_lt_of_cell? w _ e), e]
theorem OAt.nil (w : World) (A : Option Addr) : OAt w A 0 [] := ⟨rfl, fun h => absurd h (Nat.lt_irrefl _)⟩
theorem empty_isE (s : ByteArray) : s.toList.isEmpty = decide (s.toList = []) := by cases s.toList <;> simp
theorem any_take_succ {α : Type} (p : α → Bool) (l : List α) (k : Nat) (h : k < l.length) (h0 : (l.take k).any p = false) : (l.take (k + 1)).any p = p (l[k]'h) := by
  rw [List.take_succ_eq_append_getElem h, List.any_append, h0]; simp
theorem any_of_get {α : Type} (p : α → Bool) (l : List α) (k : Nat) (h : k < l.length) (hp : p (l[k]'h) = true) : l.any p = true := List.any_eq_true.2 ⟨_, List.getElem_mem h, hp⟩

/-- Where change stands: the table, the change in its box. -/
structure CS (V0 : World) (p q s : Nat) (F2 : Nat → Prop) (l : List Kv) (g : Nat) (k v : ByteArray) (d : Bool) (V : World) : Prop where
  tb : ∃ m, TbP V p q s m l F2
  gr : Grow (tbF p s F2) V0 V
  bx : Blk V g 32 #[.string k, .string v, .bool d]
  ge : V0.heap.size ≤ g
  lt : ∀ k, tbF p s F2 k → k < V0.heap.size
abbrev CC (p q g : Nat) (k v : ByteArray) (V : World) : Prop := V.cell? ⟨p, 0, none⟩ = some (pt q) ∧ V.cell? ⟨g, 0, none⟩ = some (.string k) ∧ V.cell? ⟨g, 1, none⟩ = some (.string v)
section
variable {V V' V0 w : World} {p q s g : Nat} {m : Int} {l l' : List Kv} {F F2 F2' : Nat → Prop} {k v : ByteArray} {d : Bool}
theorem CS.cells (h : CS V0 p q s F2 l g k v d V) : CC p q g k v V := by
  obtain ⟨m, h1⟩ := h.tb
  exact ⟨h1.obj.cell 0, h.bx.cell 0, h.bx.cell 1⟩
theorem CS.below (h : CS V0 p q s F2 l g k v d V) (hb : Below V.heap.size V V') : CS V0 p q s F2 l g k v d V' := by
  obtain ⟨m, h1⟩ := h.tb
  exact ⟨⟨m, h1.below hb⟩, h.gr.trans (Grow.of_below hb), h.bx.below hb h.bx.lt, h.ge, h.lt⟩
theorem CS.apart (h : CS V0 p q s F2 l g k v d V) : ¬ tbF p s F2 g := fun e => by
  have := h.lt g e
  have := h.ge
  omega
theorem CS.clone (h : CS V0 p q s F2 l g k v d V) (hv : v.size ≤ 281474976710656) : Calls Try.prog 60 #[.string v] V fun e w' => e = .returned (.string v) ∧ CS V0 p q s F2 l g k v d w' ∧ CC p q g k v w' := by
  refine (Try.stringslite_Clone v V hv).mono ?_
  rintro e w' ⟨rfl, hb⟩
  have h2 := h.below hb
  exact ⟨rfl, h2, h2.cells⟩
theorem CS.done (h : CS V0 p q s F2 l g k v d V) {r : List Rw} (ht : TbTurns p r (tbF p s F2) V V') (hp : V'.cell? ⟨p, 0, none⟩ = some (pt q)) : TbTurns p r (tbF p s F2) V0 V' ∧ CC p q g k v V' := by
  obtain ⟨F', a, gr, n⟩ := ht
  have hb := (gr.block g h.bx.lt h.apart).trans h.bx
  refine ⟨⟨F', a, h.gr.trans (gr.mono (fun k e => .inl e)), fun k e => ?_⟩, hp, Blk.cell hb 0, Blk.cell hb 1⟩
  rcases n k e with e | e
  · exact .inl e
  · exact .inr ⟨Nat.le_trans h.gr.size e.1, e.2⟩
theorem CS.drop (h : CS V0 p q s F2 l g k v d V) (hl : l.length ≤ 1000000000) : Calls Try.prog 51 #[pt q, .string k] V fun e w' => (∃ u, e = .returned u) ∧ TbTurns p (rone (tab l) ⟨k, v, true⟩) (tbF p s F2) V0 w' ∧ CC p q g k v w' := by
  obtain ⟨m, h1⟩ := h.tb
  refine (skA_drop h1.sk k hl).mono ?_
  rintro e w' ⟨hu, F', hp, hg, hN⟩
  obtain ⟨h3, h4, h5⟩ := h1.turn hg hp hN (h1.strs.drop k)
  exact ⟨hu, h.done ⟨tbF p s F', ⟨q, s, m, _, F', h3, by rw [tab_drop _ _ v], fun k => Iff.rfl⟩, h4, h5⟩ (h3.obj.cell 0)⟩
theorem CS.put (h : CS V0 p q s F2 l g k v d V) (hl : l.length ≤ 1000000000) (hks : k.size ≤ 281474976710656) : Calls Try.prog 46 #[pt p, .string k, .string v] V fun e w' => (∃ u, e = .returned u) ∧ TbTurns p (rone (tab l) ⟨k, v, false⟩) (tbF p s F2) V0 w' ∧ CC p q g k v w' := by
  obtain ⟨m, h1⟩ := h.tb
  refine (tb_put h1 k v hl hks).mono ?_
  rintro e w' ⟨hu, ht, hc⟩
  exact ⟨hu, h.done ht hc⟩
set_option maxRecDepth 100000 in
theorem str_clone (h : CS V0 p q s F2 l g k v d V) (hv : v.size ≤ 281474976710656) : Calls Try.prog 52 #[.string v] V fun e w' => e = .returned (.string v) ∧ CS V0 p q s F2 l g k v d w' ∧ CC p q g k v w' := by
  have CL := Lib.hid (h.clone hv)
  clear h
  go_enter Try.func52, Try.ntmps52
  go_wp2_with (first | (go_at_call 60; refine CL.out.mono ?_; rintro e w2 ⟨rfl, h2, h3⟩))
  go_ret
  exact ⟨rfl, h2, h3⟩
set_option maxRecDepth 100000 in
set_option maxHeartbeats 4000000 in
theorem tb_change (h : TbP V p q s m l F2) (k v : ByteArray) (d : Bool) (hl : l.length ≤ 1000000000) (hks : k.size ≤ 281474976710656) (hvs : v.size ≤ 281474976710656) :
    Calls Try.prog 37 #[pt p, .agg #[.string k, .string v, .bool d]] V fun e w' => (∃ u, e = .returned u) ∧ TbTurns p (rone (tab l) ⟨k, v, d⟩) (tbF p s F2) V w' := by
  have hb1 := nbl V (.cells #[.string k, .string v, .bool d] 32)
  have hC : CS V p q s F2 l V.heap.size k v d (V.alloc (.cells #[.string k, .string v, .bool d] 32)).drew :=
    CS.below (V := V.alloc (.cells #[.string k, .string v, .bool d] 32)) ⟨⟨m, h.below hb1⟩, Grow.of_below hb1, Blk.new _ _ _, Nat.le_refl _, fun k e => h.lt e⟩ ⟨rfl, rfl, rfl, Nat.le_refl _, fun _ _ => rfl⟩
  have hS : CC p q V.heap.size k v (V.alloc (.cells #[.string k, .string v, .bool d] 32)).drew := hC.cells
  have hS0 : CC p q V.heap.size k v (V.alloc (.cells #[.string k, .string v, .bool d] 32)) := hC.cells
  have hd : (V.alloc (.cells #[.string k, .string v, .bool d] 32)).cell? ⟨V.heap.size, 2, none⟩ = some (.bool d) := (Blk.new V _ _).cell 2
  have HL := Lib.hid hl
  have HK := Lib.hid hks
  have HV := Lib.hid hvs
  clear h hb1 hl hks hvs
  cases d with
  | true =>
    go_enter Try.func37, Try.ntmps37
    go_wp2_with fail
    obtain ⟨s0, s1, s2⟩ := hS0
    generalize V.alloc (.cells #[.string k, .string v, .bool true] 32) = X at *
    generalize V.heap.size = g at *
    go_region_held3 (fun W => W.cell? ⟨p, 0, none⟩ = some (pt q) ∧ W.cell? ⟨g, 0, none⟩ = some (.string k) ∧ W.cell? ⟨g, 1, none⟩ = some (.string v))
      (first | with_reducible assumption | with_reducible exact hS)
      (first
        | (go_at_call 51; (with_reducible refine (CS.drop (by with_reducible assumption) HL.out).mono ?_); rintro e w9 ⟨⟨u9, rfl⟩, hT9, hS9⟩))
    all_goals
      go_wp2_with fail
      refine bodyPost_ret (results_none rfl _ _ _) rfl ?_
      exact ⟨⟨_, rfl⟩, hT9⟩
  | false =>
    go_enter Try.func37, Try.ntmps37
    go_wp2_with fail
    obtain ⟨s0, s1, s2⟩ := hS0
    generalize V.alloc (.cells #[.string k, .string v, .bool false] 32) = X at *
    generalize V.heap.size = g at *
    go_region_held3 (fun W => W.cell? ⟨p, 0, none⟩ = some (pt q) ∧ W.cell? ⟨g, 0, none⟩ = some (.string k) ∧ W.cell? ⟨g, 1, none⟩ = some (.string v))
      (first | with_reducible assumption | with_reducible exact hS)
      (first
        | (go_at_call 52; (with_reducible refine (str_clone (by with_reducible assumption) HV.out).mono ?_); rintro e w8 ⟨rfl, hC8, hS8⟩)
        | (go_at_call 46; (with_reducible refine (CS.put (by with_reducible assumption) HL.out HK.out).mono ?_); rintro e w9 ⟨⟨u9, rfl⟩, hT9, hS9⟩))
    all_goals
      go_wp2_with fail
      go_end0
      exact ⟨⟨_, rfl⟩, hT9⟩
end
end Go.Proofs.Ytgakkeeeadndkaa
