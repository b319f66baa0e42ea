/-
  Layer 6: lists of calls of the call's own, as ClockNames makes them.
-/
import Derived.Test.YtmjniibeomjkkaaKList
import Derived.Maps.AppendAt
import Derived.Deep.AppendLies
set_option linter.unusedVariables false
namespace Go.Proofs.Ytmjniibeomjkkaa
open Go.RowKit

/-! ### a list of calls of the call's own -/
def AllInt (xs : List Value) : Prop := ∀ u ∈ xs, ∃ z : Int, u = .int .i64 z ∧ I64 z
theorem AllInt.app {xs ys : List Value} (h1 : AllInt xs) (h2 : AllInt ys) : AllInt (xs ++ ys) := fun u hu => by
  rcases List.mem_append.1 hu with h | h
  · exact h1 u h
  · exact h2 u h
theorem AllInt.ints (l : List Int) (h : ∀ z ∈ l, I64 z) : AllInt (l.map (Value.int .i64)) := fun u hu => by
  obtain ⟨z, hz, rfl⟩ := List.mem_map.1 hu
  exact ⟨z, rfl, h z hz⟩
theorem infoD : (Try.prog.info? 34).map (fun i => (i.zero, i.size, i.bytes)) = some (some (.agg #[.int .i64 0, .int .i64 0, .int .i64 0, .int .i64 0]), 4, 32) := by kernel_rfl
def OwnD (w : World) (B : Nat) (v : Value) (n : Nat) : Prop := ∃ xs : List Value, w.ownsRow B 34 4 v n xs ∧ AllInt xs
theorem OwnD.nil (w : World) (B : Nat) : OwnD w B (.slice none 0 0) 0 := ⟨[], World.ownsRow_nil _ _ _ _, fun u hu => by cases hu⟩
theorem OwnD.keep {w w' : World} {B n : Nat} {v : Value} (h : OwnD w B v n) (hb : Below w.heap.size w w') : OwnD w' B v n := by
  obtain ⟨xs, h1, h2⟩ := h
  exact ⟨xs, World.ownsRow.kept h1 (row := none) ⟨hb.os, hb.tape, hb.output, hb.size, fun k hk _ => hb.block k hk⟩ (by
    cases hv : v.ownBlock with
    | none => exact .inl rfl
    | some q => exact .inr (by simp)), h2⟩
theorem OwnD.lt {w : World} {B n : Nat} {v : Value} (h : OwnD w B v n) : ∀ k, v.ownBlock = some k → B ≤ k := by
  obtain ⟨xs, h1, _⟩ := h
  exact fun k hk => (World.ownsRow.lt h1 k hk).1
theorem OwnD.form {w : World} {B n : Nat} {v : Value} (h : OwnD w B v n) : ∃ A c, v = .slice A n c ∧ Dos w A n ∧ n ≤ c ∧ c ≤ 9223372036854775807 := by
  obtain ⟨xs, h, ha⟩ := h
  rcases h.2 with ⟨rfl, h0⟩ | ⟨g, cap, cur, rfl, hb, hg, hnc, hcm, _⟩
  · exact ⟨none, 0, by rw [h0], fun hm => by omega, by omega, by omega⟩
  · refine ⟨_, cap, rfl, fun hm => ⟨g, 0, rfl, fun i hi => ?_⟩, hnc, hcm⟩
    have hl := h.1
    have e : ∀ j, j < 4 → ∃ z : Int, w.cell? ⟨g, 0 + i * 4 + j, none⟩ = some (.int .i64 z) ∧ I64 z := by
      intro j hj
      have hj2 : i * 4 + j < xs.length := by omega
      obtain ⟨z, hz, hz2⟩ := ha _ (List.getElem_mem hj2)
      have c1 := World.ownsRow.cells h (g := g) rfl (i * 4 + j) _ (List.getElem?_eq_getElem hj2)
      rw [Go.WideShapes.add_plain] at c1
      refine ⟨z, ?_, hz2⟩
      rw [show 0 + i * 4 + j = 0 + (i * 4 + j) by omega, c1, hz]
    obtain ⟨k, h1, g1⟩ := e 0 (by omega)
    obtain ⟨a, h2, g2⟩ := e 1 (by omega)
    obtain ⟨x, h3, g3⟩ := e 2 (by omega)
    obtain ⟨y, h4, g4⟩ := e 3 (by omega)
    exact ⟨k, a, x, y, ⟨h1, h2, h3, h4⟩, g1, g2, g3, g4⟩
theorem wpList_appD {w : World} {ops : Array Oper} {rest : List Oper} {o : Oper} {a : Act} {Q : Exit → Act → World → Prop} (hgd : o.guard = none) (s x : Operand)
    (ho : o.op = .call { callee := .builtin .append, args := #[s, x], argTypes := #[22, 22] })
    (B : Nat) (v : Value) (k : Nat) (hs : a.eval s = v) (hown : OwnD w B v k) (g n c : Nat) (ns : List Value) (hx : a.eval x = .slice (some ⟨g, 0, none⟩) n c)
    (hlen : ns.length = n * 4) (hcell : ∀ j u, ns[j]? = some u → w.cell? ⟨g, j, none⟩ = some u) (hall : AllInt ns) (hbytes : (k + n) * 32 ≤ 140737488355328) (hbase : B ≤ w.heap.size)
    (h : ∀ v' w', OwnD w' B v' (k + n) → w.grownBy w' v.ownBlock → wpList Try.prog ops Q rest (a.put o.dst v') w') :
    wpList Try.prog ops Q (o :: rest) a w := by
  obtain ⟨i, hi, hz, hsz, hby⟩ := info_parts infoD
  obtain ⟨xs, h1, h2⟩ := hown
  refine wpList_append_own w hgd s x 22 ho B 34 i _ 4 32 Try.underlying22 hi hz hsz hby rfl (by decide) v k xs hs h1 ⟨g, 0, none⟩ n c ns hx hlen
    (fun j u hj => by rw [Go.WideShapes.add_plain, Nat.zero_add]; exact hcell j u hj) (fun u hu => by obtain ⟨z, rfl, _⟩ := hall u hu; rfl) (by unfold maxLen; omega) hbytes hbase ?_
  intro v' w' g1 g2 _
  exact h v' w' ⟨_, g1, h2.app hall⟩ g2

theorem OwnD.drew {w : World} {B n : Nat} {v : Value} (h : OwnD w B v n) : OwnD w.drew B v n := h
/-- The same in a region that draws. -/
theorem step_appendD {w : World} {ops : Array Oper} {o : Oper} {a : Act} {K : Act → World → Prop} {Q : Exit → Act → World → Prop} {E : Prop} (hgd : o.guard = none) (s x : Operand)
    (ho : o.op = .call { callee := .builtin .append, args := #[s, x], argTypes := #[22, 22] })
    (B : Nat) (v : Value) (k : Nat) (hs : a.eval s = v) (hown : OwnD w B v k) (g n c : Nat) (ns : List Value) (hx : a.eval x = .slice (some ⟨g, 0, none⟩) n c)
    (hlen : ns.length = n * 4) (hcell : ∀ j u, ns[j]? = some u → w.cell? ⟨g, j, none⟩ = some u) (hall : AllInt ns) (hn : 0 < n) (hbytes : (k + n) * 32 ≤ 140737488355328) (hbase : B ≤ w.heap.size)
    (h : ∀ v' w', OwnD w' B v' (k + n) → w.grownBy w' v.ownBlock → K (a.put o.dst v') w') :
    if Region.wanted o (yielded ops a.tmps) = true then Oper.wp Try.prog o a w K Q else E := by
  obtain ⟨i, hi, hz, hsz, hby⟩ := info_parts infoD
  obtain ⟨xs, h1, h2⟩ := hown
  exact step_append_lies w hgd s x 22 ho B 34 i _ 4 32 Try.underlying22 hi hz hsz hby rfl (by decide) v k xs hs h1 ⟨g, 0, none⟩ n c ns hx hlen
    (fun j u hj => by rw [Go.WideShapes.add_plain, Nat.zero_add]; exact hcell j u hj) (fun u hu => by obtain ⟨z, rfl, _⟩ := hall u hu; rfl) hn (by unfold maxLen; omega) hbytes hbase _ rfl
    (fun g' cap w' r1 r2 _ _ => h _ w' ⟨_, r1, h2.app hall⟩ r2)
theorem list_cells (V : World) (l : List Value) (T : TypeId) : ∀ j u, l[j]? = some u → (V.alloc (.cells l.toArray T)).cell? ⟨V.heap.size, j, none⟩ = some u := by
  intro j u hu
  rw [cell_of_row _ _ j _ _ (0, 0) (heap_alloc_new V (.cells l.toArray T))]
  simpa using hu
/-- The numbers of the statement, and what a round of it appends. -/
def ends : List Int := [-1, 0, 1, 1099511627775, 1099511627776, 1099511627777]
def nine (e : Int) : List Int := [2, 0, 0, 0, 3, 0, e, 1048575, 2, 0, 0, 0, 0, e, 0, 0, 1, e, 0, 0, 2, 0, 0, 0, 3, 0, e, 0, 3, 0, 0, -1, 2, 0, 0, 0]
theorem ends_ok : ∀ x ∈ ends, I64 x := by unfold ends I64; decide
theorem nine_ok (e : Int) (h : I64 e) : ∀ z ∈ nine e, I64 z := by
  unfold nine
  intro z hz
  unfold I64 at *
  simp at hz
  omega

end Go.Proofs.Ytmjniibeomjkkaa
