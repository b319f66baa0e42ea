/-
  Layer 9: how the code's list lies in memory: a block for the list, one for the head, one for each key.
-/
import Derived.Test.YtgakkeeeadndkaaSkM
import Derived.Test.YtgakkeeeadndkaaSep
set_option linter.unusedVariables false
namespace Go.Proofs.Ytgakkeeeadndkaa
open Go.RowKit

abbrev Nd := Nat × Kv
def pp : Option Nat → Value
  | none => .pointer none
  | some a => pt a
def nodeC (k : ByteArray) (v : Value) (s : Int) (f : Nat → Option Nat) : Array Value :=
  #[.string k, v, .int .i64 s, pp (f 0), pp (f 1), pp (f 2), pp (f 3), pp (f 4), pp (f 5), pp (f 6), pp (f 7), pp (f 8), pp (f 9), pp (f 10), pp (f 11), pp (f 12), pp (f 13), pp (f 14), pp (f 15)]
/-- The sixteen ways as one value, as an array's cells. -/
def waysC (f : Nat → Value) : Array Value := #[f 0, f 1, f 2, f 3, f 4, f 5, f 6, f 7, f 8, f 9, f 10, f 11, f 12, f 13, f 14, f 15]
theorem six16 {i : Nat} (h : i < 16) : i = 0 ∨ i = 1 ∨ i = 2 ∨ i = 3 ∨ i = 4 ∨ i = 5 ∨ i = 6 ∨ i = 7 ∨ i = 8 ∨ i = 9 ∨ i = 10 ∨ i = 11 ∨ i = 12 ∨ i = 13 ∨ i = 14 ∨ i = 15 := by omega
theorem nodeC_get (k : ByteArray) (v : Value) (s : Int) (f : Nat → Option Nat) {i : Nat} (h : i < 16) : (nodeC k v s f)[3 + i]? = some (pp (f i)) := by
  rcases six16 h with rfl | rfl | rfl | rfl | rfl | rfl | rfl | rfl | rfl | rfl | rfl | rfl | rfl | rfl | rfl | rfl <;> rfl
theorem nodeC_set (k : ByteArray) (v : Value) (s : Int) (f : Nat → Option Nat) {i : Nat} (h : i < 16) (x : Option Nat) : (nodeC k v s f).setIfInBounds (3 + i) (pp x) = nodeC k v s (fun m => if m = i then x else f m) := by
  rcases six16 h with rfl | rfl | rfl | rfl | rfl | rfl | rfl | rfl | rfl | rfl | rfl | rfl | rfl | rfl | rfl | rfl <;> rfl
theorem waysC_get (f : Nat → Value) {i : Nat} (h : i < 16) : (waysC f)[i]? = some (f i) := by
  rcases six16 h with rfl | rfl | rfl | rfl | rfl | rfl | rfl | rfl | rfl | rfl | rfl | rfl | rfl | rfl | rfl | rfl <;> rfl
theorem waysC_set (f : Nat → Value) {i : Nat} (h : i < 16) (x : Value) : (waysC f).setIfInBounds i x = waysC (fun m => if m = i then x else f m) := by
  rcases six16 h with rfl | rfl | rfl | rfl | rfl | rfl | rfl | rfl | rfl | rfl | rfl | rfl | rfl | rfl | rfl | rfl <;> rfl
theorem nodeC_congr (k : ByteArray) (v : Value) (s : Int) {f g : Nat → Option Nat} (h : ∀ m, m < 16 → f m = g m) : nodeC k v s f = nodeC k v s g := by
  unfold nodeC
  rw [h 0 (by omega), h 1 (by omega), h 2 (by omega), h 3 (by omega), h 4 (by omega), h 5 (by omega), h 6 (by omega), h 7 (by omega), h 8 (by omega), h 9 (by omega), h 10 (by omega), h 11 (by omega), h 12 (by omega), h 13 (by omega), h 14 (by omega), h 15 (by omega)]
theorem waysC_congr {f g : Nat → Value} (h : ∀ m, m < 16 → f m = g m) : waysC f = waysC g := by
  unfold waysC
  rw [h 0 (by omega), h 1 (by omega), h 2 (by omega), h 3 (by omega), h 4 (by omega), h 5 (by omega), h 6 (by omega), h 7 (by omega), h 8 (by omega), h 9 (by omega), h 10 (by omega), h 11 (by omega), h 12 (by omega), h 13 (by omega), h 14 (by omega), h 15 (by omega)]

def sh (h : Nat) (L : List Nd) : Sh := (h, 16) :: L.map (fun x => (x.1, x.2.st))
theorem sh_len (h : Nat) (L : List Nd) : (sh h L).length = L.length + 1 := by simp [sh]
theorem sh_get (h : Nat) (L : List Nd) {i : Nat} (hi : i < L.length) : (sh h L)[i + 1]'(by rw [sh_len]; omega) = ((L[i]'hi).1, (L[i]'hi).2.st) := by simp [sh]
theorem sh_take (h : Nat) (L : List Nd) (p : Nat) : (sh h L).take (p + 1) = sh h (L.take p) := by simp [sh, List.map_take]
theorem sh_drop (h : Nat) (L : List Nd) (p : Nat) : (sh h L).drop (p + 1) = (L.drop p).map (fun x => (x.1, x.2.st)) := by simp [sh, List.map_drop]
theorem sh_on {m : Nat} (hm : m < 16) (h : Nat) (L : List Nd) : on m (sh h L) = true := by
  unfold on sh
  rw [List.any_cons, decide_eq_true hm]
  rfl

/-- The blocks. -/
structure SkW (TL TI : TypeId) (z : Value) (V : World) (q h : Nat) (cnt : Nat) (L : List Nd) (g : Nat → Nat → Option Nat) : Prop where
  obj : Blk V q TL #[pt h, .int .i64 (cnt : Int)]
  head : Blk V h TI (nodeC ⟨#[]⟩ z 0 (fun m => g m h))
  node : ∀ x ∈ L, Blk V x.1 TI (nodeC x.2.key x.2.val (x.2.st : Int) (fun m => g m x.1))
  ne : (q :: h :: L.map (·.1)).Nodup
/-- The whole. -/
structure SkR (TL TI : TypeId) (z : Value) (V : World) (q h : Nat) (L : List Nd) (g : Nat → Nat → Option Nat) : Prop where
  mem : SkW TL TI z V q h L.length L g
  ck : ∀ m, m < 16 → Ck m (sh h L) (g m)
  st : ∀ x ∈ L, 1 ≤ x.2.st ∧ x.2.st ≤ 16
  sor : Sor (L.map (·.2))
def skF (q h : Nat) (L : List Nd) : Nat → Prop := fun k => k = q ∨ k = h ∨ k ∈ L.map (·.1)
section
variable {TL TI : TypeId} {z : Value} {V V' : World} {q h cnt : Nat} {L : List Nd} {g : Nat → Nat → Option Nat}
theorem SkW.on (hM : SkW TL TI z V q h cnt L g) (hk : ∀ k, skF q h L k → V'.heap[k]? = V.heap[k]?) : SkW TL TI z V' q h cnt L g :=
  ⟨(hk q (.inl rfl)).trans hM.obj, (hk h (.inr (.inl rfl))).trans hM.head, fun x hx => (hk x.1 (.inr (.inr (List.mem_map.2 ⟨x, hx, rfl⟩)))).trans (hM.node x hx), hM.ne⟩
theorem SkW.lt (hM : SkW TL TI z V q h cnt L g) {k : Nat} (e : skF q h L k) : k < V.heap.size := by
  rcases e with rfl | rfl | e
  · exact hM.obj.lt
  · exact hM.head.lt
  · obtain ⟨x, hx, rfl⟩ := List.mem_map.1 e
    exact (hM.node x hx).lt
theorem SkW.qh (hM : SkW TL TI z V q h cnt L g) : q ≠ h := fun e => by
  have := hM.ne
  rw [List.nodup_cons] at this
  exact this.1 (by rw [e]; simp)
theorem SkW.qL (hM : SkW TL TI z V q h cnt L g) {a : Nat} (ha : a ∈ L.map (·.1)) : a ≠ q := fun e => by
  have := hM.ne
  rw [List.nodup_cons] at this
  exact this.1 (by rw [← e]; exact List.mem_cons_of_mem _ ha)
theorem SkW.hL (hM : SkW TL TI z V q h cnt L g) {a : Nat} (ha : a ∈ L.map (·.1)) : a ≠ h := fun e => by
  have := hM.ne
  rw [List.nodup_cons, List.nodup_cons] at this
  exact this.2.1 (by rw [← e]; exact ha)
theorem SkW.nd (hM : SkW TL TI z V q h cnt L g) : ((sh h L).map (·.1)).Nodup := by
  have := hM.ne
  rw [List.nodup_cons] at this
  have e : (sh h L).map (·.1) = h :: L.map (·.1) := by simp [sh]
  rw [e]
  exact this.2
theorem SkW.next (hM : SkW TL TI z V q h cnt L g) {a : Nat} (ha : a = h ∨ a ∈ L.map (·.1)) {i : Nat} (hi : i < 16) : V.cell? ⟨a, 3 + i, none⟩ = some (pp (g i a)) := by
  rcases ha with rfl | ha
  · rw [hM.head.cell, nodeC_get _ _ _ _ hi]
  · obtain ⟨x, hx, rfl⟩ := List.mem_map.1 ha
    rw [(hM.node x hx).cell, nodeC_get _ _ _ _ hi]
theorem SkW.free (hM : SkW TL TI z V q h cnt L g) {a : Nat} (ha : a = h ∨ a ∈ L.map (·.1)) (i : Nat) : V.frozen? ⟨a, i, none⟩ = false := by
  rcases ha with rfl | ha
  · exact hM.head.frozen i
  · obtain ⟨x, hx, rfl⟩ := List.mem_map.1 ha
    exact (hM.node x hx).frozen i
theorem SkW.key (hM : SkW TL TI z V q h cnt L g) {x : Nd} (hx : x ∈ L) : V.cell? ⟨x.1, 0, none⟩ = some (.string x.2.key) := (hM.node x hx).cell 0
theorem SkW.val (hM : SkW TL TI z V q h cnt L g) {x : Nd} (hx : x ∈ L) : V.cell? ⟨x.1, 1, none⟩ = some x.2.val := (hM.node x hx).cell 1
theorem SkW.stc (hM : SkW TL TI z V q h cnt L g) {x : Nd} (hx : x ∈ L) : V.cell? ⟨x.1, 2, none⟩ = some (.int .i64 (x.2.st : Int)) := (hM.node x hx).cell 2
theorem heap_setNe {V : World} {k : Nat} {p : Addr} (hk : k ≠ p.block) (u : Value) : (V.setCell p u).heap[k]? = V.heap[k]? := Below.heap_setCell V p u k hk
/-- A way is set. -/
theorem SkW.setNext (hM : SkW TL TI z V q h cnt L g) {a : Nat} (ha : a = h ∨ a ∈ L.map (·.1)) {i : Nat} (hi : i < 16) (x : Option Nat) : SkW TL TI z (V.setCell ⟨a, 3 + i, none⟩ (pp x)) q h cnt L (fun m b => if m = i ∧ b = a then x else g m b) := by
  have haq : a ≠ q := by rcases ha with rfl | ha; exact (hM.qh).symm; exact hM.qL ha
  refine ⟨(heap_setNe (fun e => haq e.symm) _).trans hM.obj, ?_, fun y hy => ?_, hM.ne⟩
  · by_cases e : h = a
    · subst e
      have := hM.head.set_ (3 + i) (pp x)
      rw [nodeC_set _ _ _ _ hi] at this
      have e2 : nodeC ⟨#[]⟩ z 0 (fun m => if m = i then x else g m h) = nodeC ⟨#[]⟩ z 0 (fun m => if m = i ∧ h = h then x else g m h) := nodeC_congr _ _ _ (fun m _ => by simp)
      rw [e2] at this
      exact this
    · have e2 : nodeC ⟨#[]⟩ z 0 (fun m => g m h) = nodeC ⟨#[]⟩ z 0 (fun m => if m = i ∧ h = a then x else g m h) := nodeC_congr _ _ _ (fun m _ => by rw [if_neg (fun e3 => e e3.2)])
      have := (heap_setNe (p := ⟨a, 3 + i, none⟩) e (pp x)).trans hM.head
      rw [e2] at this
      exact this
  · by_cases e : y.1 = a
    · have := (hM.node y hy).set_ (3 + i) (pp x)
      rw [nodeC_set _ _ _ _ hi] at this
      have e2 : nodeC y.2.key y.2.val y.2.st (fun m => if m = i then x else g m y.1) = nodeC y.2.key y.2.val y.2.st (fun m => if m = i ∧ y.1 = a then x else g m y.1) := nodeC_congr _ _ _ (fun m _ => by simp [e])
      rw [e2, e] at this
      rw [e]
      exact this
    · have e2 : nodeC y.2.key y.2.val y.2.st (fun m => g m y.1) = nodeC y.2.key y.2.val y.2.st (fun m => if m = i ∧ y.1 = a then x else g m y.1) := nodeC_congr _ _ _ (fun m _ => by rw [if_neg (fun e3 => e e3.2)])
      have := (heap_setNe (p := ⟨a, 3 + i, none⟩) e (pp x)).trans (hM.node y hy)
      rw [e2] at this
      exact this
theorem SkW.setCnt (hM : SkW TL TI z V q h cnt L g) (c : Nat) : SkW TL TI z (V.setCell ⟨q, 1, none⟩ (.int .i64 (c : Int))) q h c L g :=
  ⟨hM.obj.set_ 1 _, (heap_setNe (Ne.symm hM.qh) _).trans hM.head, fun y hy => (heap_setNe (hM.qL (List.mem_map.2 ⟨y, hy, rfl⟩)) _).trans (hM.node y hy), hM.ne⟩
/-- Another order, or fewer. -/
theorem SkW.sub (hM : SkW TL TI z V q h cnt L g) {L' : List Nd} (hs : ∀ x ∈ L', x ∈ L) (hn : (q :: h :: L'.map (·.1)).Nodup) : SkW TL TI z V q h cnt L' g := ⟨hM.obj, hM.head, fun x hx => hM.node x (hs x hx), hn⟩
end
end Go.Proofs.Ytgakkeeeadndkaa
