/-
  Layer 3, plain: bits by their places; bits that are turned.
-/
import Derived.Test.YthbegaknlhclpaaCMath
set_option linter.unusedVariables false
namespace Go.Proofs.Ythbegaknlhclpaa

/-- The bit at a place, in each byte the highest one first. -/
def bitAt (l : List UInt8) (j : Nat) : Bool := (l.getD (j / 8) 0).toNat.testBit (7 - j % 8)

theorem bitAt_head (c : UInt8) (l : List UInt8) (j : Nat) (h : j < 8) : bitAt (c :: l) j = c.toNat.testBit (7 - j) := by
  unfold bitAt
  rw [Nat.div_eq_of_lt h, Nat.mod_eq_of_lt h]
  rfl
theorem bitAt_tail (c : UInt8) (l : List UInt8) (j : Nat) : bitAt (c :: l) (8 + j) = bitAt l j := by
  unfold bitAt
  rw [show (8 + j) / 8 = j / 8 + 1 from by omega, show (8 + j) % 8 = j % 8 from by omega]
  rfl

theorem bits_range : ∀ l : List UInt8, bits l = (List.range (8 * l.length)).map (bitAt l)
  | [] => rfl
  | c :: l => by
    have ih := bits_range l
    have e : bits (c :: l) = bitsOf c ++ bits l := by unfold bits; rw [List.flatMap_cons]
    rw [e, ih, List.length_cons, show 8 * (l.length + 1) = 8 + 8 * l.length from by omega, List.range_add, List.map_append, List.map_map]
    congr 1
    apply List.map_congr_left
    intro j _
    exact (bitAt_tail c l j).symm

theorem xorL_len : ∀ l m : List UInt8, l.length = m.length → (xorL l m).length = l.length
  | [], [], _ => rfl
  | [], _ :: _, h => by simp at h
  | _ :: _, [], h => by simp at h
  | a :: l, b :: m, h => by rw [xorL, List.length_cons, List.length_cons, xorL_len l m (by simpa using h)]

theorem xorL_getD : ∀ (l m : List UInt8) (i : Nat), l.length = m.length → (xorL l m).getD i 0 = l.getD i 0 ^^^ m.getD i 0
  | [], [], i, _ => by simp [xorL]
  | [], _ :: _, i, h => by simp at h
  | _ :: _, [], i, h => by simp at h
  | a :: l, b :: m, 0, h => by simp [xorL]
  | a :: l, b :: m, i + 1, h => by
    have := xorL_getD l m i (by simpa using h)
    simpa [xorL] using this

theorem bitAt_xorL (l m : List UInt8) (j : Nat) (h : l.length = m.length) : bitAt (xorL l m) j = (bitAt l j ^^ bitAt m j) := by
  unfold bitAt
  rw [xorL_getD l m _ h, UInt8.toNat_xor, Nat.testBit_xor]

/-- The byte with the bit r of a byte (the highest one: 0). -/
def bitByte (r : Nat) : UInt8 := UInt8.ofNat (128 / 2 ^ r)
theorem bitByte_test (r k : Nat) (hr : r < 8) (hk : k < 8) : (bitByte r).toNat.testBit (7 - k) = decide (k = r) := by
  have h : ∀ r k : Fin 8, (bitByte r.val).toNat.testBit (7 - k.val) = decide (k.val = r.val) := by decide +kernel
  exact h ⟨r, hr⟩ ⟨k, hk⟩

/-- A bit is turned. -/
theorem bitAt_set (l : List UInt8) (p r j : Nat) (x : UInt8) (hp : p < l.length) (hx : l[p]? = some x) (hr : r < 8) : bitAt (l.set p (x ^^^ bitByte r)) j = (bitAt l j ^^ decide (j = 8 * p + r)) := by
  unfold bitAt
  have hj : j % 8 < 8 := Nat.mod_lt _ (by decide)
  by_cases h : j / 8 = p
  · subst h
    have e1 : (l.set (j / 8) (x ^^^ bitByte r)).getD (j / 8) 0 = x ^^^ bitByte r := by
      rw [List.getD_eq_getElem?_getD, List.getElem?_set_self hp]
      rfl
    have e2 : l.getD (j / 8) 0 = x := by rw [List.getD_eq_getElem?_getD, hx]; rfl
    rw [e1, e2, UInt8.toNat_xor, Nat.testBit_xor, bitByte_test r (j % 8) hr hj]
    congr 1
    apply decide_eq_decide.2
    omega
  · have e1 : (l.set p (x ^^^ bitByte r)).getD (j / 8) 0 = l.getD (j / 8) 0 := by
      rw [List.getD_eq_getElem?_getD, List.getD_eq_getElem?_getD, List.getElem?_set_ne (fun e => h e.symm)]
    rw [e1, decide_eq_false (by omega)]
    simp

/-- If some bits are turned, all within 32 that stand one behind the other, the sum is another one. -/
theorem turned (b c : List UInt8) (a m w : Nat) (hl : b.length = c.length) (hat : a + m ≤ 8 * b.length) (hm : m ≤ 32)
    (h : ∀ j, j < 8 * b.length → (bitAt b j ^^ bitAt c j) = (decide (a ≤ j ∧ j < a + m) && w.testBit (j - a))) :
    crcOf b = crcOf c ↔ ∀ i, i < m → w.testBit i = false := by
  rw [crcOf_eq_iff b c hl, fold_bytes, bits_range, xorL_len b c hl]
  have e : (List.range (8 * b.length)).map (bitAt (xorL b c)) = List.replicate a false ++ (List.range m).map (fun i => w.testBit i) ++ List.replicate (8 * b.length - a - m) false := by
    apply List.ext_getElem?
    intro j
    by_cases hj : j < 8 * b.length
    · rw [List.getElem?_map, List.getElem?_range hj, Option.map_some, bitAt_xorL b c j hl, h j hj]
      by_cases h1 : j < a
      · rw [List.append_assoc, List.getElem?_append_left (by simpa using h1), List.getElem?_replicate, if_pos h1, decide_eq_false (by omega)]
        rfl
      · by_cases h2 : j < a + m
        · rw [List.getElem?_append_left (by simp; omega), List.getElem?_append_right (by simp; omega), List.length_replicate, List.getElem?_map, List.getElem?_range (by omega), decide_eq_true (by omega)]
          rfl
        · rw [List.getElem?_append_right (by simp; omega), List.getElem?_replicate, if_pos (by simp; omega), decide_eq_false (by omega)]
          rfl
    · rw [List.getElem?_eq_none (by simp; omega), List.getElem?_eq_none (by simp; omega)]
  rw [e, burst a _ _ (by simpa using hm)]
  constructor
  · intro hb i hi
    exact hb _ (List.mem_map.2 ⟨i, List.mem_range.2 hi, rfl⟩)
  · intro hb x hx
    obtain ⟨i, hi, rfl⟩ := List.mem_map.1 hx
    exact hb i (List.mem_range.1 hi)

end Go.Proofs.Ythbegaknlhclpaa
