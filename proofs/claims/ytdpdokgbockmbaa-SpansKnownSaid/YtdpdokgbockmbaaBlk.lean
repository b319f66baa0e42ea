/-
  Blocks known whole; bytes that a literal lays; 'make([]byte, n)'.
-/
import Derived.Test.YtdpdokgbockmbaaOwn
import Derived.Laws.MakeOwn
import Derived.Laws.OwnMore
set_option linter.unusedVariables false
namespace Go.Proofs.Ytdpdokgbockmbaa
open Go.RowKit

/-- A block that is known whole. -/
def Blk (w : World) (g : Nat) (t : TypeId) (cs : Array Value) : Prop := w.heap[g]? = some (.cells cs t (0, 0))

section
variable {w w' : World} {g : Nat} {t : TypeId} {cs : Array Value}
theorem Blk.cell (h : Blk w g t cs) (i : Nat) : w.cell? ⟨g, i, none⟩ = cs[i]? := cell_of_row w g i cs t (0, 0) h
theorem Blk.frozen (h : Blk w g t cs) (i : Nat) : w.frozen? ⟨g, i, none⟩ = false := by
  unfold Blk at h
  simp [World.frozen?, h]
theorem Blk.lt (h : Blk w g t cs) : g < w.heap.size := by
  rcases Nat.lt_or_ge g w.heap.size with hlt | hge
  · exact hlt
  · unfold Blk at h; rw [Array.getElem?_eq_none hge] at h; cases h
theorem Blk.new (w : World) (t : TypeId) (cs : Array Value) : Blk (w.alloc (.cells cs t)) w.heap.size t cs := heap_alloc_new w _
theorem Blk.set_ (h : Blk w g t cs) (i : Nat) (u : Value) : Blk (w.setCell ⟨g, i, none⟩ u) g t (cs.setIfInBounds i u) := by
  unfold Blk at h ⊢
  simp [World.setCell, Array.getElem?_modify, h]
theorem Blk.below {B : Nat} (h : Blk w g t cs) (hb : Below B w w') (hg : g < B) : Blk w' g t cs := (hb.block g hg).trans h
end

theorem at_list (w : World) (t : TypeId) (l : List UInt8) : At (w.alloc (.cells (l.map bv).toArray t)) (some ⟨w.heap.size, 0, none⟩) l.length l := by
  refine ⟨rfl, fun _ => ⟨_, _, rfl, fun i hi => ?_⟩⟩
  simp [bv, hi]

theorem at_list' (t : TypeId) (l : List UInt8) (w : World) (g : Nat) (hg : g = w.heap.size) : At (w.alloc (.cells (l.map bv).toArray t)) (some ⟨g, 0, none⟩) l.length l := by
  subst hg
  exact at_list w t l

theorem at_listF (t : TypeId) (l : List UInt8) (f : Nat × Nat) (w : World) (g : Nat) (hg : g = w.heap.size) : At (w.alloc (.cells (l.map bv).toArray t f)) (some ⟨g, 0, none⟩) l.length l := by
  subst hg
  refine ⟨rfl, fun _ => ⟨_, _, rfl, fun i hi => ?_⟩⟩
  simp only [World.cell?, World.alloc, Array.getElem?_push]
  simp [bv, hi]

/-- 'make([]byte, n)'. -/
theorem make_ (n : Nat) (h : n ≤ 281474976710656) : ∃ M : Array Value, M.size = n ∧ ∀ W : World, (Instr.makeSlice 53 (.int .i64 (n : Int)) (.int .i64 (n : Int))).run Try.prog W = .ok (.slice (some ⟨W.heap.size, 0, none⟩) n n) (W.alloc (.cells M 5)) := by
  obtain ⟨i0, hi, hz0, hz1, hz2⟩ := info_parts info5
  refine ⟨madeCells (Value.int .u8 0).cells (((n : Nat) : Int).toNat * i0.size), by rw [size_madeCells, hz1]; simp, fun W => ?_⟩
  have h := run_make (P := Try.prog) W 53 5 i0 (.int .u8 0) Try.underlying53 hi hz0 .i64 .i64 (n : Int) (n : Int) (by omega) (by omega) (by rw [hz2]; omega) (by omega)
  simpa using h

/-- The same, with what it holds. -/
theorem make_z (n : Nat) (h : n ≤ 281474976710656) : ∃ M : Array Value, (∀ W : World, (Instr.makeSlice 53 (.int .i64 (n : Int)) (.int .i64 (n : Int))).run Try.prog W = .ok (.slice (some ⟨W.heap.size, 0, none⟩) n n) (W.alloc (.cells M 5))) ∧
    ∀ (W : World) (B : Nat), B ≤ W.heap.size → Own (W.alloc (.cells M 5)) B (.slice (some ⟨W.heap.size, 0, none⟩) n n) (List.replicate n 0) := by
  obtain ⟨i0, hi, hz0, hz1, hz2⟩ := info_parts info5
  refine ⟨madeCells #[Value.int .u8 0] n, fun W => ?_, fun W B hB => ?_⟩
  · have h := run_make (P := Try.prog) W 53 5 i0 (.int .u8 0) Try.underlying53 hi hz0 .i64 .i64 (n : Int) (n : Int) (by omega) (by omega) (by rw [hz2]; omega) (by omega)
    rw [hz1] at h
    have e : ((n : Nat) : Int).toNat = n := by omega
    rw [e, Nat.mul_one] at h
    exact h
  · have := World.ownsRow_lit (base := B) (e := 5) (size := 1) W (madeCells #[Value.int .u8 0] n) n hB (by unfold maxLen; omega) (by rw [size_madeCells, Nat.mul_one])
    rw [toList_madeCells_one] at this
    unfold Own
    rw [List.length_replicate, List.map_replicate]
    exact this

theorem Blk.at_ {w : World} {g : Nat} {t : TypeId} {cs : Array Value} {l : List UInt8} (h : Blk w g t cs) (o : Nat) (hc : ∀ i, i < l.length → cs[o + i]? = (l[i]?).map bv) : At w (some ⟨g, o, none⟩) l.length l := by
  refine ⟨rfl, fun _ => ⟨g, o, rfl, fun i hi => ?_⟩⟩
  rw [h.cell, hc i hi, List.getElem?_eq_getElem hi]
  rfl

theorem u8_ofNat (m : Nat) : (((UInt8.ofNat m).toNat : Nat) : Int) = (m : Int) % 256 := by rw [UInt8.toNat_ofNat']; omega
end Go.Proofs.Ytdpdokgbockmbaa
