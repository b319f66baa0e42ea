/-
  Layer 2, the code: put; the document's answer: bytes.
-/
import Derived.Test.YtcphhambckohbaaDoorONum
import Derived.Laws.MakeOwn
set_option linter.unusedVariables false
namespace Go.Proofs.YtcphhambckohbaaDoor
open Go.RowKit

/-- A block that is known whole. -/
def Blk (w : World) (g : Nat) (t : TypeId) (cs : Array Value) : Prop := w.heap[g]? = some (.cells cs t (0, 0))

section
variable {w w' : World} {g : Nat} {t : TypeId} {cs : Array Value}
theorem Blk.cell (h : Blk w g t cs) (i : Nat) : w.cell? ⟨g, i, none⟩ = cs[i]? := cell_of_row w g i cs t (0, 0) h
theorem Blk.frozen (h : Blk w g t cs) (i : Nat) : w.frozen? ⟨g, i, none⟩ = false := by
  unfold Blk at h
  simp [World.frozen?, h]
theorem Blk.lt (h : Blk w g t cs) : g < w.heap.size := by
  rcases Nat.lt_or_ge g w.heap.size with hlt | hge
  · exact hlt
  · unfold Blk at h; rw [Array.getElem?_eq_none hge] at h; cases h
theorem Blk.new (w : World) (t : TypeId) (cs : Array Value) : Blk (w.alloc (.cells cs t)) w.heap.size t cs := heap_alloc_new w _
theorem Blk.set_ (h : Blk w g t cs) (i : Nat) (u : Value) : Blk (w.setCell ⟨g, i, none⟩ u) g t (cs.setIfInBounds i u) := by
  unfold Blk at h ⊢
  simp [World.setCell, Array.getElem?_modify, h]
theorem Blk.below {B : Nat} (h : Blk w g t cs) (hb : Below B w w') (hg : g < B) : Blk w' g t cs := (hb.block g hg).trans h
end

theorem wide_get : ∀ (m n i : Nat), i < m → (wide m n)[i]? = some (UInt8.ofNat (n / 256 ^ (m - 1 - i)))
  | 0, n, i, h => absurd h (Nat.not_lt_zero _)
  | m + 1, n, i, h => by
    rw [wide]
    rcases Nat.lt_or_ge i m with h1 | h1
    · rw [List.getElem?_append_left (by rw [wide_len]; exact h1), wide_get m (n / 256) i h1, Nat.div_div_eq_div_mul]
      congr 3
      rw [show m + 1 - 1 - i = (m - 1 - i) + 1 from by omega, Nat.pow_succ, Nat.mul_comm]
    · have : i = m := by omega
      subst this
      rw [List.getElem?_append_right (by rw [wide_len]; exact Nat.le_refl _), wide_len]
      simp

theorem u8_ofNat (m : Nat) : (((UInt8.ofNat m).toNat : Nat) : Int) = (m : Int) % 256 := by rw [UInt8.toNat_ofNat']; omega
theorem pow_bytes (k : Nat) : (2 : Int) ^ (8 * k) = ((256 ^ k : Nat) : Int) := by
  rw [Int.pow_mul]
  norm_cast

set_option maxHeartbeats 1000000 in
theorem put (g o m c n : Nat) (cs : Array Value) (w : World) (hB : Blk w g 5 cs) (hm : o + m ≤ cs.size) (hm6 : m ≤ 6) (hn : n ≤ 281474976710656) :
    Calls Tryd.prog 32 #[.slice (some ⟨g, o, none⟩) m c, .int .i64 n] w fun e w' => e = .returned (.tuple #[]) ∧ ∃ cs' : Array Value, Blk w' g 5 cs' ∧ cs'.size = cs.size ∧
      (∀ i, i < m → cs'[o + i]? = ((wide m n)[i]?).map bv) ∧ (∀ j, j < o ∨ o + m ≤ j → cs'[j]? = cs[j]?) ∧ Below g w w' := by
  go_enter Tryd.func32, Tryd.ntmps32
  go_wp2
  go_loopw [7] (fun x wr => ∃ (k : Nat) (cs' : Array Value), x = .int .i64 k ∧ k ≤ m ∧ Blk wr g 5 cs' ∧ cs'.size = cs.size ∧
      Hid (∀ i, i < k → cs'[o + i]? = ((wide m n)[i]?).map bv) ∧ Hid (∀ j, j < o ∨ o + m ≤ j → cs'[j]? = cs[j]?) ∧ Below g w wr) (fun x _ => m - (intOf x).toNat)
  case atStart => exact ⟨0, cs, rfl, Nat.zero_le _, hB, rfl, fun i hi => absurd hi (Nat.not_lt_zero _), fun _ _ => rfl, Below.refl _ _⟩
  case round =>
    obtain ⟨k, cs', rfl, hk, hB', hsz, h1, h2, hbw⟩ := hrel
    by_cases hlt : k < m
    · have hi : o + k < cs'.size := by omega
      have hc1 : wr.cell? ⟨g, o + k, none⟩ = some (cs'[o + k]'hi) := by rw [hB'.cell, Array.getElem?_eq_getElem]
      have hc2 : wr.frozen? ⟨g, o + k, none⟩ = false := hB'.frozen _
      have hv : Hid ((wide m n)[k]? = some (UInt8.ofNat (n / 256 ^ (m - 1 - k)))) := wide_get m n k hlt
      clear hc1 hc2
      have hc1 : ∃ u, wr.cell? ⟨g, o + k, none⟩ = some u := ⟨_, by rw [hB'.cell, Array.getElem?_eq_getElem hi]⟩
      obtain ⟨u0, hc1⟩ := hc1
      have hc2 : wr.frozen? ⟨g, o + k, none⟩ = false := hB'.frozen _
      go_wp2
      go_roundw
      case rel =>
        refine ⟨k + 1, cs'.setIfInBounds (o + k) (.int .u8 ((n : Int) / 2 ^ (8 * (m - 1 - k)) % 256)), by go_num, by omega, hB'.set_ _ _, by rw [Array.size_setIfInBounds]; exact hsz, fun i hi' => ?_, fun j hj => ?_, hbw.setCell (Nat.le_refl _) _⟩
        · rw [Array.getElem?_setIfInBounds]
          by_cases hik : i = k
          · subst hik
            rw [if_pos rfl, if_pos hi, hv.out]
            simp only [Option.map_some, bv]
            rw [u8_ofNat, pow_bytes]
            simp
          · rw [if_neg (by omega)]
            exact h1.out i (by omega)
        · rw [Array.getElem?_setIfInBounds, if_neg (by omega)]
          exact h2.out j hj
      case measure => simp [intOf]; omega
    · have hkk : k = m := by omega
      subst hkk
      clear hlt
      go_wp2
      go_end0
      exact ⟨rfl, cs', hB', hsz, h1.out, h2.out, hbw⟩

/-- 'make([]byte, n)'. -/
theorem make_ (n : Nat) (h : n ≤ 281474976710656) : ∃ M : Array Value, M.size = n ∧ ∀ W : World, (Instr.makeSlice 48 (.int .i64 (n : Int)) (.int .i64 (n : Int))).run Tryd.prog W = .ok (.slice (some ⟨W.heap.size, 0, none⟩) n n) (W.alloc (.cells M 5)) := by
  obtain ⟨i0, hi, hz0, hz1, hz2⟩ := info_parts info5
  refine ⟨madeCells (Value.int .u8 0).cells (((n : Nat) : Int).toNat * i0.size), by rw [size_madeCells, hz1]; simp, fun W => ?_⟩
  have h := run_make (P := Tryd.prog) W 48 5 i0 (.int .u8 0) Tryd.underlying48 hi hz0 .i64 .i64 (n : Int) (n : Int) (by omega) (by omega) (by rw [hz2]; omega) (by omega)
  simpa using h

theorem Blk.at_ {w : World} {g : Nat} {t : TypeId} {cs : Array Value} {l : List UInt8} (h : Blk w g t cs) (o : Nat) (hc : ∀ i, i < l.length → cs[o + i]? = (l[i]?).map bv) : At w (some ⟨g, o, none⟩) l.length l := by
  refine ⟨rfl, fun _ => ⟨g, o, rfl, fun i hi => ?_⟩⟩
  rw [h.cell, hc i hi, List.getElem?_eq_getElem hi]
  rfl

set_option maxHeartbeats 2000000 in
theorem refBytes (n m : Nat) (w : World) (hm : 1 ≤ m) (hm6 : m ≤ 6) (hn : n ≤ 281474976710656) :
    Calls Tryd.prog 34 #[.int .i64 n, .int .i64 m] w fun e w' => e = .returned (.string ⟨(wide m n).toArray⟩) ∧ Below w.heap.size w w' := by
  obtain ⟨M, hM, mk⟩ := make_ m (by omega)
  go_enter Tryd.func34, Tryd.ntmps34
  go_wp2
  go_loopw [0, 6] (fun x y wr => ∃ (j v : Nat) (cs : Array Value), x = .int .i64 v ∧ y = .int .i64 ((m : Int) - 1 - (j : Int)) ∧ j ≤ m ∧ v ≤ n ∧ Hid (v = n / 256 ^ j) ∧ Blk wr w.heap.size 5 cs ∧ cs.size = m ∧
      Hid (∀ i, m - j ≤ i → i < m → cs[i]? = ((wide m n)[i]?).map bv) ∧ Below w.heap.size w wr) (fun _ y _ => (intOf y + 1).toNat)
  case atStart => exact ⟨0, n, M, rfl, by go_num, Nat.zero_le _, Nat.le_refl _, by simp [Hid], Blk.new _ _ _, hM, fun i h1 h2 => by omega, (Below.refl _ _).alloc (Nat.le_refl _) _⟩
  case round =>
    obtain ⟨j, v, cs, rfl, rfl, hj, hvn, hv, hB, hsz, hcs, hbw⟩ := hrel
    by_cases hlt : j < m
    · have hc1 : ∃ u, wr.cell? ⟨w.heap.size, m - 1 - j, none⟩ = some u := ⟨_, by rw [hB.cell, Array.getElem?_eq_getElem (by omega)]⟩
      obtain ⟨u0, hc1⟩ := hc1
      have hc2 : wr.frozen? ⟨w.heap.size, m - 1 - j, none⟩ = false := hB.frozen _
      have hg : Hid ((wide m n)[m - 1 - j]? = some (UInt8.ofNat (n / 256 ^ j))) := by
        have := wide_get m n (m - 1 - j) (by omega)
        rw [show m - 1 - (m - 1 - j) = j from by omega] at this
        exact this
      have hv' : Hid (v / 256 = n / 256 ^ (j + 1)) := by
        show v / 256 = _
        rw [hv.out, Nat.div_div_eq_div_mul, Nat.pow_succ]
      go_wp2
      go_roundw
      case rel =>
        refine ⟨j + 1, v / 256, cs.setIfInBounds (m - 1 - j) (.int .u8 ((v : Int) % 256)), by go_num, by go_num, by omega, by omega, hv'.out, hB.set_ _ _, by rw [Array.size_setIfInBounds]; exact hsz, fun i h1 h2 => ?_, hbw.setCell (Nat.le_refl _) _⟩
        rw [Array.getElem?_setIfInBounds]
        by_cases hik : m - 1 - j = i
        · subst hik
          rw [if_pos rfl, if_pos (by omega), hg.out]
          simp only [Option.map_some, bv]
          rw [u8_ofNat, ← hv.out]
        · rw [if_neg hik]
          exact hcs.out i (by omega) h2
      case measure => simp [intOf]; omega
    · have hjj : j = m := by omega
      subst hjj
      clear hlt
      have hat : At wr (some ⟨w.heap.size, 0, none⟩) (wide j n).length (wide j n) := hB.at_ 0 (fun i hi => by rw [Nat.zero_add]; exact hcs.out i (by omega) (by rw [wide_len] at hi; exact hi))
      rw [wide_len] at hat
      have kc := hat.conv (P := Tryd.prog) j 48 5 9 Tryd.underlying48 Tryd.underlying5 Tryd.underlying9
      clear hat
      go_wp2
      go_ret
      exact ⟨rfl, hbw⟩

end Go.Proofs.YtcphhambckohbaaDoor
