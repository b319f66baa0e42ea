/-
  Layer 3, plain: sums of 32 bits: bytes taken in, bit by bit; linear, injective; a burst of up to 32 bits is told: no program.
  Layer 3, plain: bits by their places; bits that are turned.
-/

set_option linter.unusedVariables false
namespace Go.Proofs.YtamglegdgcehaaaGreat

def poly : BitVec 32 := 0x04C11DB7#32
def top : BitVec 32 := 0x80000000#32

/-- Doubled; the polynomial where a bit fell out. -/
def stp (s : BitVec 32) : BitVec 32 := if s.msb then (s <<< 1) ^^^ poly else s <<< 1

theorem xor_self' (a : BitVec 32) : a ^^^ a = 0#32 := by simp
theorem xor_zero' (a : BitVec 32) : a ^^^ 0#32 = a := by simp
theorem xor_eq_zero' {a b : BitVec 32} (h : a ^^^ b = 0#32) : a = b := by
  have : a ^^^ b ^^^ b = 0#32 ^^^ b := by rw [h]
  rw [BitVec.xor_assoc, xor_self', xor_zero'] at this
  simpa using this
theorem xor_mix (a b c d : BitVec 32) : (a ^^^ b) ^^^ (c ^^^ d) = (a ^^^ c) ^^^ (b ^^^ d) := by
  rw [BitVec.xor_assoc, BitVec.xor_assoc]
  congr 1
  rw [← BitVec.xor_assoc, ← BitVec.xor_assoc, BitVec.xor_comm b c]

theorem stp_zero : stp 0#32 = 0#32 := by decide
theorem stp_xor (a b : BitVec 32) : stp (a ^^^ b) = stp a ^^^ stp b := by
  unfold stp
  rw [BitVec.msb_xor, BitVec.shiftLeft_xor_distrib]
  cases ha : a.msb <;> cases hb : b.msb
  · rfl
  · show (a <<< 1 ^^^ b <<< 1) ^^^ poly = a <<< 1 ^^^ (b <<< 1 ^^^ poly)
    rw [BitVec.xor_assoc]
  · show (a <<< 1 ^^^ b <<< 1) ^^^ poly = (a <<< 1 ^^^ poly) ^^^ b <<< 1
    rw [BitVec.xor_assoc, BitVec.xor_assoc, BitVec.xor_comm poly]
  · show a <<< 1 ^^^ b <<< 1 = (a <<< 1 ^^^ poly) ^^^ (b <<< 1 ^^^ poly)
    rw [xor_mix, xor_self', xor_zero']

theorem low_shl (a : BitVec 32) : (a <<< 1).getLsbD 0 = false := by simp
theorem shl_zero {a : BitVec 32} (hm : a.msb = false) (h : a <<< 1 = 0#32) : a = 0#32 := by
  apply BitVec.eq_of_getLsbD_eq
  intro i hi
  rw [BitVec.getLsbD_zero]
  by_cases h31 : i = 31
  · subst h31
    rw [BitVec.msb_eq_getLsbD_last] at hm
    simpa using hm
  · have := congrArg (fun x => BitVec.getLsbD x (i + 1)) h
    simp only [BitVec.getLsbD_shiftLeft, BitVec.getLsbD_zero] at this
    simpa [show i + 1 < 32 from by omega] using this

theorem stp_eq_zero {a : BitVec 32} (h : stp a = 0#32) : a = 0#32 := by
  unfold stp at h
  cases hm : a.msb with
  | false =>
    rw [hm] at h
    exact shl_zero hm h
  | true =>
    rw [hm] at h
    exfalso
    have h1 : a <<< 1 = poly := xor_eq_zero' h
    have h2 := low_shl a
    rw [h1] at h2
    revert h2
    decide
theorem stp_inj {a b : BitVec 32} (h : stp a = stp b) : a = b :=
  xor_eq_zero' (stp_eq_zero (by rw [stp_xor, h, xor_self']))

def stps : Nat → BitVec 32 → BitVec 32
  | 0, s => s
  | n + 1, s => stps n (stp s)
theorem stps_xor : ∀ (n : Nat) (a b : BitVec 32), stps n (a ^^^ b) = stps n a ^^^ stps n b
  | 0, a, b => rfl
  | n + 1, a, b => by rw [stps, stps, stps, stp_xor, stps_xor n]
theorem stps_zero : ∀ n : Nat, stps n 0#32 = 0#32
  | 0 => rfl
  | n + 1 => by rw [stps, stp_zero, stps_zero n]
theorem stps_inj : ∀ (n : Nat) {a b : BitVec 32}, stps n a = stps n b → a = b
  | 0, a, b, h => h
  | n + 1, a, b, h => stp_inj (stps_inj n h)
theorem stps_eq_zero {n : Nat} {a : BitVec 32} (h : stps n a = 0#32) : a = 0#32 := stps_inj n (h.trans (stps_zero n).symm)
theorem stps_succ : ∀ (n : Nat) (s : BitVec 32), stps (n + 1) s = stp (stps n s)
  | 0, s => rfl
  | n + 1, s => by rw [stps, stps_succ n (stp s), stps]

/-! ### bit by bit -/

def tb (b : Bool) : BitVec 32 := if b then top else 0#32
def bstep (s : BitVec 32) (b : Bool) : BitVec 32 := stp (s ^^^ tb b)

/-- Bits, the first one highest. -/
def word : List Bool → BitVec 32
  | [] => 0#32
  | b :: bs => tb b ^^^ (word bs >>> 1)

theorem tb_low (b : Bool) (i : Nat) (h : i < 31) : (tb b).getLsbD i = false := by
  cases b
  · simp [tb]
  · show top.getLsbD i = false
    unfold top
    rw [BitVec.getLsbD_ofNat]
    have : Nat.testBit 2147483648 i = false := by
      rw [show 2147483648 = 2 ^ 31 from by decide, Nat.testBit_two_pow]
      simp
      omega
    rw [this, Bool.and_false]

theorem word_low : ∀ (bs : List Bool) (i : Nat), i < 32 - bs.length → (word bs).getLsbD i = false
  | [], i, h => by simp [word]
  | b :: bs, i, h => by
    simp only [List.length_cons] at h
    rw [word, BitVec.getLsbD_xor, tb_low b i (by omega), BitVec.getLsbD_ushiftRight, word_low bs (1 + i) (by omega)]
    rfl

theorem shr_msb (w : BitVec 32) : (w >>> 1).msb = false := by
  rw [BitVec.msb_eq_getLsbD_last, BitVec.getLsbD_ushiftRight]
  simp

theorem stp_shr {w : BitVec 32} (h : w.getLsbD 0 = false) : stp (w >>> 1) = w := by
  unfold stp
  rw [shr_msb]
  show (w >>> 1) <<< 1 = w
  apply BitVec.eq_of_getLsbD_eq
  intro i hi
  rw [BitVec.getLsbD_shiftLeft, BitVec.getLsbD_ushiftRight]
  cases i with
  | zero => rw [h]; simp
  | succ i => simp [hi, Nat.add_comm]

theorem fold_bits : ∀ (bs : List Bool) (s : BitVec 32), bs.length ≤ 32 → bs.foldl bstep s = stps bs.length (s ^^^ word bs)
  | [], s, _ => by simp [word, stps]
  | b :: bs, s, h => by
    simp only [List.length_cons] at h
    have hw : (word bs).getLsbD 0 = false := word_low bs 0 (by omega)
    rw [List.foldl_cons, fold_bits bs _ (by omega), List.length_cons, stps, word, bstep]
    congr 1
    rw [← BitVec.xor_assoc, stp_xor (s ^^^ tb b), stp_shr hw]

theorem word_msb (b : Bool) (bs : List Bool) : (word (b :: bs)).msb = b := by
  rw [word, BitVec.msb_xor, shr_msb]
  cases b <;> decide

theorem word_eq_zero : ∀ (bs : List Bool), bs.length ≤ 32 → word bs = 0#32 → ∀ b ∈ bs, b = false
  | [], _, _ => fun b hb => absurd hb (by simp)
  | b :: bs, h, hz => by
    simp only [List.length_cons] at h
    have hb : b = false := by
      rw [← word_msb b bs, hz]
      decide
    have hw : (word bs).getLsbD 0 = false := word_low bs 0 (by omega)
    have hr : word bs >>> 1 = 0#32 := by
      rw [word, hb] at hz
      simpa [tb] using hz
    have h0 : word bs = 0#32 := by rw [← stp_shr hw, hr, stp_zero]
    intro x hx
    rcases List.mem_cons.1 hx with rfl | hx
    · exact hb
    · exact word_eq_zero bs (by omega) h0 x hx
theorem word_false : ∀ (bs : List Bool), (∀ b ∈ bs, b = false) → word bs = 0#32
  | [], _ => rfl
  | b :: bs, h => by
    rw [word, h b (by simp), word_false bs (fun x hx => h x (by simp [hx]))]
    simp [tb]

theorem fold_noughts (m : Nat) (s : BitVec 32) : (List.replicate m false).foldl bstep s = stps m s := by
  induction m generalizing s with
  | zero => rfl
  | succ m ih => rw [List.replicate_succ, List.foldl_cons, ih, stps, bstep]; simp [tb]

/-- Noughts, up to 32 bits, noughts: it comes to 0 only if all of them are 0. -/
theorem burst (k m : Nat) (ws : List Bool) (hw : ws.length ≤ 32) : (List.replicate k false ++ ws ++ List.replicate m false).foldl bstep 0#32 = 0#32 ↔ ∀ b ∈ ws, b = false := by
  rw [List.foldl_append, List.foldl_append, fold_noughts, fold_noughts, stps_zero, fold_bits ws _ hw]
  constructor
  · intro h
    have h1 := stps_eq_zero (stps_eq_zero h)
    exact word_eq_zero ws hw (by simpa using h1)
  · intro h
    rw [word_false ws h]
    simp [stps_zero]

/-! ### bytes -/

def wb (c : UInt8) : BitVec 32 := (BitVec.ofNat 32 c.toNat) <<< 24
/-- A byte is taken in. -/
def takeB (s : BitVec 32) (c : UInt8) : BitVec 32 := stps 8 (s ^^^ wb c)
/-- A byte's bits, the highest one first. -/
def bitsOf (c : UInt8) : List Bool := [7, 6, 5, 4, 3, 2, 1, 0].map fun i => c.toNat.testBit i
theorem bitsOf_len (c : UInt8) : (bitsOf c).length = 8 := rfl
theorem word_bitsOf (c : UInt8) : word (bitsOf c) = wb c := by
  have h : ∀ n : Fin 256, word ([7, 6, 5, 4, 3, 2, 1, 0].map fun i => n.val.testBit i) = (BitVec.ofNat 32 n.val) <<< 24 := by decide +kernel
  exact h ⟨c.toNat, c.toNat_lt⟩
theorem takeB_bits (s : BitVec 32) (c : UInt8) : takeB s c = (bitsOf c).foldl bstep s := by
  rw [fold_bits _ _ (by rw [bitsOf_len]; decide), word_bitsOf]
  rfl
def bits (l : List UInt8) : List Bool := l.flatMap bitsOf
theorem fold_bytes : ∀ (l : List UInt8) (s : BitVec 32), l.foldl takeB s = (bits l).foldl bstep s
  | [], s => rfl
  | c :: l, s => by rw [List.foldl_cons, takeB_bits, fold_bytes l, bits, bits, List.flatMap_cons, List.foldl_append]

theorem wb_xor (a b : UInt8) : wb (a ^^^ b) = wb a ^^^ wb b := by
  unfold wb
  rw [← BitVec.shiftLeft_xor_distrib, UInt8.toNat_xor, ← BitVec.ofNat_xor]
theorem wb_zero : wb 0 = 0#32 := by decide
theorem wb_inj {a b : UInt8} (h : wb a = wb b) : a = b := by
  have h1 := congrArg BitVec.toNat h
  unfold wb at h1
  rw [BitVec.toNat_shiftLeft, BitVec.toNat_shiftLeft, BitVec.toNat_ofNat, BitVec.toNat_ofNat] at h1
  have ha := a.toNat_lt
  have hb := b.toNat_lt
  rw [Nat.shiftLeft_eq, Nat.shiftLeft_eq, Nat.mod_eq_of_lt (show a.toNat < 2 ^ 32 from by omega), Nat.mod_eq_of_lt (show b.toNat < 2 ^ 32 from by omega)] at h1
  apply UInt8.toNat_inj.1
  omega

theorem takeB_xor (s t : BitVec 32) (a b : UInt8) : takeB (s ^^^ t) (a ^^^ b) = takeB s a ^^^ takeB t b := by
  unfold takeB
  rw [wb_xor, xor_mix, stps_xor]
theorem takeB_inj {s t : BitVec 32} {a : UInt8} (h : takeB s a = takeB t a) : s = t := by
  have := stps_inj 8 h
  apply xor_eq_zero'
  have h2 : (s ^^^ wb a) ^^^ (t ^^^ wb a) = 0#32 := by rw [this, xor_self']
  rw [xor_mix, xor_self', xor_zero'] at h2
  exact h2
theorem takeB_byte {s : BitVec 32} {a b : UInt8} (h : takeB s a = takeB s b) : a = b := by
  have := stps_inj 8 h
  apply wb_inj
  apply xor_eq_zero'
  have h2 : (s ^^^ wb a) ^^^ (s ^^^ wb b) = 0#32 := by rw [this, xor_self']
  rw [xor_mix, xor_self'] at h2
  simpa using h2

theorem fold_inj : ∀ (l : List UInt8) {s t : BitVec 32}, l.foldl takeB s = l.foldl takeB t → s = t
  | [], s, t, h => h
  | c :: l, s, t, h => takeB_inj (fold_inj l h)

/-- Lists of one length, byte by byte. -/
def xorL : List UInt8 → List UInt8 → List UInt8
  | a :: l, b :: m => (a ^^^ b) :: xorL l m
  | _, _ => []
theorem fold_xor : ∀ (l m : List UInt8) (s t : BitVec 32), l.length = m.length → (xorL l m).foldl takeB (s ^^^ t) = l.foldl takeB s ^^^ m.foldl takeB t
  | [], [], s, t, _ => rfl
  | [], _ :: _, s, t, h => by simp at h
  | _ :: _, [], s, t, h => by simp at h
  | a :: l, b :: m, s, t, h => by
    rw [xorL, List.foldl_cons, List.foldl_cons, List.foldl_cons, takeB_xor, fold_xor l m _ _ (by simpa using h)]

/-- The sums. -/
def crcAdd (sum : BitVec 32) (l : List UInt8) : BitVec 32 := ~~~ (l.foldl takeB (~~~ sum))
def crcOf (l : List UInt8) : BitVec 32 := crcAdd 0#32 l
theorem not_inj {a b : BitVec 32} (h : ~~~ a = ~~~ b) : a = b := by
  have := congrArg (fun x => ~~~ x) h
  simpa using this
theorem crcAdd_app (sum : BitVec 32) (a b : List UInt8) : crcAdd (crcAdd sum a) b = crcAdd sum (a ++ b) := by
  unfold crcAdd
  rw [List.foldl_append, BitVec.not_not]
theorem crcAdd_nil (sum : BitVec 32) : crcAdd sum [] = sum := by simp [crcAdd]
theorem crcAdd_inj {s t : BitVec 32} {l : List UInt8} (h : crcAdd s l = crcAdd t l) : s = t := not_inj (fold_inj l (not_inj h))
theorem not_xor_not (a b : BitVec 32) : ~~~ a ^^^ ~~~ b = a ^^^ b := by
  apply BitVec.eq_of_getLsbD_eq
  intro i hi
  simp [hi]
theorem crcOf_diff (l m : List UInt8) (h : l.length = m.length) : crcOf l ^^^ crcOf m = (xorL l m).foldl takeB 0#32 := by
  unfold crcOf crcAdd
  rw [not_xor_not, ← fold_xor l m _ _ h, xor_self']
theorem crcOf_eq_iff (l m : List UInt8) (h : l.length = m.length) : crcOf l = crcOf m ↔ (xorL l m).foldl takeB 0#32 = 0#32 := by
  rw [← crcOf_diff l m h]
  constructor
  · intro e; rw [e, xor_self']
  · exact xor_eq_zero'
theorem xorL_zero : ∀ l : List UInt8, xorL l (List.replicate l.length 0) = l
  | [] => rfl
  | a :: l => by rw [List.length_cons, List.replicate_succ, xorL, xorL_zero l]; simp
/-- P3.5. -/
theorem crcOf_xor (l m : List UInt8) (h : l.length = m.length) : crcOf l ^^^ crcOf m = crcOf (xorL l m) ^^^ crcOf (List.replicate (xorL l m).length 0) := by
  rw [crcOf_diff l m h, crcOf_diff _ _ (by simp), xorL_zero]
/-- One byte that is another one. -/
theorem crcOf_byte (p q : List UInt8) (a b : UInt8) : crcOf (p ++ a :: q) = crcOf (p ++ b :: q) ↔ a = b := by
  constructor
  · intro h
    have h1 := not_inj h
    rw [List.foldl_append, List.foldl_append, List.foldl_cons, List.foldl_cons] at h1
    exact takeB_byte (fold_inj q h1)
  · rintro rfl; rfl

end Go.Proofs.YtamglegdgcehaaaGreat
set_option linter.unusedVariables false
namespace Go.Proofs.YtamglegdgcehaaaGreat

/-- The bit at a place, in each byte the highest one first. -/
def bitAt (l : List UInt8) (j : Nat) : Bool := (l.getD (j / 8) 0).toNat.testBit (7 - j % 8)

theorem bitAt_head (c : UInt8) (l : List UInt8) (j : Nat) (h : j < 8) : bitAt (c :: l) j = c.toNat.testBit (7 - j) := by
  unfold bitAt
  rw [Nat.div_eq_of_lt h, Nat.mod_eq_of_lt h]
  rfl
theorem bitAt_tail (c : UInt8) (l : List UInt8) (j : Nat) : bitAt (c :: l) (8 + j) = bitAt l j := by
  unfold bitAt
  rw [show (8 + j) / 8 = j / 8 + 1 from by omega, show (8 + j) % 8 = j % 8 from by omega]
  rfl

theorem bits_range : ∀ l : List UInt8, bits l = (List.range (8 * l.length)).map (bitAt l)
  | [] => rfl
  | c :: l => by
    have ih := bits_range l
    have e : bits (c :: l) = bitsOf c ++ bits l := by unfold bits; rw [List.flatMap_cons]
    rw [e, ih, List.length_cons, show 8 * (l.length + 1) = 8 + 8 * l.length from by omega, List.range_add, List.map_append, List.map_map]
    congr 1
    apply List.map_congr_left
    intro j _
    exact (bitAt_tail c l j).symm

theorem xorL_len : ∀ l m : List UInt8, l.length = m.length → (xorL l m).length = l.length
  | [], [], _ => rfl
  | [], _ :: _, h => by simp at h
  | _ :: _, [], h => by simp at h
  | a :: l, b :: m, h => by rw [xorL, List.length_cons, List.length_cons, xorL_len l m (by simpa using h)]

theorem xorL_getD : ∀ (l m : List UInt8) (i : Nat), l.length = m.length → (xorL l m).getD i 0 = l.getD i 0 ^^^ m.getD i 0
  | [], [], i, _ => by simp [xorL]
  | [], _ :: _, i, h => by simp at h
  | _ :: _, [], i, h => by simp at h
  | a :: l, b :: m, 0, h => by simp [xorL]
  | a :: l, b :: m, i + 1, h => by
    have := xorL_getD l m i (by simpa using h)
    simpa [xorL] using this

theorem bitAt_xorL (l m : List UInt8) (j : Nat) (h : l.length = m.length) : bitAt (xorL l m) j = (bitAt l j ^^ bitAt m j) := by
  unfold bitAt
  rw [xorL_getD l m _ h, UInt8.toNat_xor, Nat.testBit_xor]

/-- The byte with the bit r of a byte (the highest one: 0). -/
def bitByte (r : Nat) : UInt8 := UInt8.ofNat (128 / 2 ^ r)
theorem bitByte_test (r k : Nat) (hr : r < 8) (hk : k < 8) : (bitByte r).toNat.testBit (7 - k) = decide (k = r) := by
  have h : ∀ r k : Fin 8, (bitByte r.val).toNat.testBit (7 - k.val) = decide (k.val = r.val) := by decide +kernel
  exact h ⟨r, hr⟩ ⟨k, hk⟩

/-- A bit is turned. -/
theorem bitAt_set (l : List UInt8) (p r j : Nat) (x : UInt8) (hp : p < l.length) (hx : l[p]? = some x) (hr : r < 8) : bitAt (l.set p (x ^^^ bitByte r)) j = (bitAt l j ^^ decide (j = 8 * p + r)) := by
  unfold bitAt
  have hj : j % 8 < 8 := Nat.mod_lt _ (by decide)
  by_cases h : j / 8 = p
  · subst h
    have e1 : (l.set (j / 8) (x ^^^ bitByte r)).getD (j / 8) 0 = x ^^^ bitByte r := by
      rw [List.getD_eq_getElem?_getD, List.getElem?_set_self hp]
      rfl
    have e2 : l.getD (j / 8) 0 = x := by rw [List.getD_eq_getElem?_getD, hx]; rfl
    rw [e1, e2, UInt8.toNat_xor, Nat.testBit_xor, bitByte_test r (j % 8) hr hj]
    congr 1
    apply decide_eq_decide.2
    omega
  · have e1 : (l.set p (x ^^^ bitByte r)).getD (j / 8) 0 = l.getD (j / 8) 0 := by
      rw [List.getD_eq_getElem?_getD, List.getD_eq_getElem?_getD, List.getElem?_set_ne (fun e => h e.symm)]
    rw [e1, decide_eq_false (by omega)]
    simp

/-- If some bits are turned, all within 32 that stand one behind the other, the sum is another one. -/
theorem turned (b c : List UInt8) (a m w : Nat) (hl : b.length = c.length) (hat : a + m ≤ 8 * b.length) (hm : m ≤ 32)
    (h : ∀ j, j < 8 * b.length → (bitAt b j ^^ bitAt c j) = (decide (a ≤ j ∧ j < a + m) && w.testBit (j - a))) :
    crcOf b = crcOf c ↔ ∀ i, i < m → w.testBit i = false := by
  rw [crcOf_eq_iff b c hl, fold_bytes, bits_range, xorL_len b c hl]
  have e : (List.range (8 * b.length)).map (bitAt (xorL b c)) = List.replicate a false ++ (List.range m).map (fun i => w.testBit i) ++ List.replicate (8 * b.length - a - m) false := by
    apply List.ext_getElem?
    intro j
    by_cases hj : j < 8 * b.length
    · rw [List.getElem?_map, List.getElem?_range hj, Option.map_some, bitAt_xorL b c j hl, h j hj]
      by_cases h1 : j < a
      · rw [List.append_assoc, List.getElem?_append_left (by simpa using h1), List.getElem?_replicate, if_pos h1, decide_eq_false (by omega)]
        rfl
      · by_cases h2 : j < a + m
        · rw [List.getElem?_append_left (by simp; omega), List.getElem?_append_right (by simp; omega), List.length_replicate, List.getElem?_map, List.getElem?_range (by omega), decide_eq_true (by omega)]
          rfl
        · rw [List.getElem?_append_right (by simp; omega), List.getElem?_replicate, if_pos (by simp; omega), decide_eq_false (by omega)]
          rfl
    · rw [List.getElem?_eq_none (by simp; omega), List.getElem?_eq_none (by simp; omega)]
  rw [e, burst a _ _ (by simpa using hm)]
  constructor
  · intro hb i hi
    exact hb _ (List.mem_map.2 ⟨i, List.mem_range.2 hi, rfl⟩)
  · intro hb x hx
    obtain ⟨i, hi, rfl⟩ := List.mem_map.1 hx
    exact hb i (List.mem_range.1 hi)

end Go.Proofs.YtamglegdgcehaaaGreat
