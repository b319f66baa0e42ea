/-
  Layer 7: the disk of DiskKnown, reckoned plainly. (The walk is not written yet.)
-/
import Derived.Test.YtkhalpajomammaaDWorks
set_option linter.unusedVariables false
namespace Go.Proofs.Ytkhalpajomammaa
open Go.RowKit

def nL : ByteArray := ⟨#[110,110,110,110,110,110,110,110,110,110,110,110,110,110,110,110,110,110,110,110,110,110,110,110,110,110,110,110,110,110,110,110,110,110,110,110,110,110,110,110]⟩
def nL1 : ByteArray := ⟨#[110,110,110,110,110,110,110,110,110,110,110,110,110,110,110,110,110,110,110,110,110,110,110,110,110,110,110,110,110,110,110,110,110,110,110,110,110,110,110,110,110]⟩
def nI (i : Nat) : ByteArray := ⟨#[UInt8.ofNat (65 + i)]⟩
def fI (i : Nat) : Fl := ⟨nI i, [UInt8.ofNat i], 0⟩
/-- Behind i names. -/
def K (i : Nat) : Dk := ⟨(List.range' 1 i).map fI ++ [⟨nL, [], 0⟩], false, -1, []⟩
def nNone_ : ByteArray := ⟨#[110, 111, 110, 101]⟩
def nNew : ByteArray := ⟨#[110, 101, 119]⟩
def nA_ : ByteArray := ⟨#[97]⟩
theorem k0 : app dk0 nL [] = K 0 ∧ appE dk0 nL 0 = 0 := ⟨by kernel_rfl, by kernel_rfl⟩
theorem k1 : app (K 0) nL1 [] = K 0 ∧ appE (K 0) nL1 0 = 70 := ⟨by kernel_rfl, by kernel_rfl⟩
theorem k2 : app (K 0) ⟨#[]⟩ [] = K 0 ∧ appE (K 0) ⟨#[]⟩ 0 = 70 := ⟨by kernel_rfl, by kernel_rfl⟩
theorem k3 : ren (K 0) nL ⟨#[]⟩ = K 0 ∧ renE (K 0) nL ⟨#[]⟩ = 70 := ⟨by kernel_rfl, by kernel_rfl⟩
theorem k4 : ren (K 0) nL nL1 = K 0 ∧ renE (K 0) nL nL1 = 70 := ⟨by kernel_rfl, by kernel_rfl⟩
theorem k5 : ren (K 0) nNone_ nA_ = K 0 ∧ renE (K 0) nNone_ nA_ = 70 := ⟨by kernel_rfl, by kernel_rfl⟩
theorem k6 : syn (K 0) nNone_ = K 0 ∧ synE (K 0) nNone_ = 70 := ⟨by kernel_rfl, by kernel_rfl⟩
theorem k7 : rem (K 0) nNone_ = K 0 ∧ remE (K 0) nNone_ = 70 := ⟨by kernel_rfl, by kernel_rfl⟩
theorem k8 : cut (K 0) nNone_ (-1) = K 0 ∧ cutE (K 0) nNone_ (-1) = 70 := ⟨by kernel_rfl, by kernel_rfl⟩
theorem k9 : trn (K 0) nNone_ 9 9 = K 0 ∧ trnE (K 0) nNone_ 9 9 = 70 := ⟨by kernel_rfl, by kernel_rfl⟩
theorem kI (i : Nat) (hi : i < 19) : app (K i) (nI (i + 1)) [UInt8.ofNat (i + 1)] = K (i + 1) ∧ appE (K i) (nI (i + 1)) 1 = 0 := by
  have h : i = 0 ∨ i = 1 ∨ i = 2 ∨ i = 3 ∨ i = 4 ∨ i = 5 ∨ i = 6 ∨ i = 7 ∨ i = 8 ∨ i = 9 ∨ i = 10 ∨ i = 11 ∨ i = 12 ∨ i = 13 ∨ i = 14 ∨ i = 15 ∨ i = 16 ∨ i = 17 ∨ i = 18 := by omega
  rcases h with rfl | rfl | rfl | rfl | rfl | rfl | rfl | rfl | rfl | rfl | rfl | rfl | rfl | rfl | rfl | rfl | rfl | rfl | rfl <;> exact ⟨by kernel_rfl, by kernel_rfl⟩
theorem m1 : app (K 19) nNew [] = K 19 ∧ appE (K 19) nNew 0 = 7 := ⟨by kernel_rfl, by kernel_rfl⟩
theorem sK : sum (K 19).l = 19 := by kernel_rfl
theorem m2 (z : List UInt8) (hz : z.length = 4194286) : app (K 19) (nI 1) z = K 19 ∧ appE (K 19) (nI 1) z.length = 7 := by
  have h1 : (K 19).dead = false := by kernel_rfl
  have h2 : mayN (nI 1) = true := by kernel_rfl
  have h3 : (isAt (K 19).l (nI 1) = false ∧ 20 ≤ (K 19).l.length) ∨ 4194304 < sum (K 19).l + z.length := .inr (by rw [sK, hz]; omega)
  constructor
  · unfold app; rw [h1, h2, if_neg (by decide), if_neg (by decide), if_pos h3]
  · unfold appE; rw [h1, h2, if_neg (by decide), if_neg (by decide), if_pos h3]
/-- "B" is full. -/
def Z (z : List UInt8) : Dk := ⟨⟨nI 1, 1 :: z, 0⟩ :: ((List.range' 2 18).map fI ++ [⟨nL, [], 0⟩]), false, -1, []⟩
theorem m3 (z : List UInt8) (hz : z.length = 4194285) : app (K 19) (nI 1) z = Z z ∧ appE (K 19) (nI 1) z.length = 0 := by
  have h1 : (K 19).dead = false := by kernel_rfl
  have h2 : mayN (nI 1) = true := by kernel_rfl
  have h4 : isAt (K 19).l (nI 1) = true := by kernel_rfl
  have h3 : ¬ ((isAt (K 19).l (nI 1) = false ∧ 20 ≤ (K 19).l.length) ∨ 4194304 < sum (K 19).l + z.length) := by
    rintro (⟨h, _⟩ | h)
    · rw [h4] at h; cases h
    · rw [sK, hz] at h; omega
  constructor
  · unfold app; rw [h1, h2, if_neg (by decide), if_neg (by decide), if_neg h3]; kernel_rfl
  · unfold appE; rw [h1, h2, if_neg (by decide), if_neg (by decide), if_neg h3]; kernel_rfl
theorem sZ (z : List UInt8) : sum (Z z).l = z.length + 1 + 18 := by kernel_rfl
theorem m4 (z : List UInt8) (hz : z.length = 4194285) : app (Z z) (nI 1) [1] = Z z ∧ appE (Z z) (nI 1) 1 = 7 := by
  have h1 : (Z z).dead = false := by kernel_rfl
  have h2 : mayN (nI 1) = true := by kernel_rfl
  have h3 : (isAt (Z z).l (nI 1) = false ∧ 20 ≤ (Z z).l.length) ∨ 4194304 < sum (Z z).l + 1 := .inr (by rw [sZ, hz]; omega)
  constructor
  · unfold app; rw [h1, h2, if_neg (by decide), if_neg (by decide)]; exact if_pos h3
  · unfold appE; rw [h1, h2, if_neg (by decide), if_neg (by decide), if_pos h3]
def Y : Dk := ⟨(List.range' 2 18).map fI ++ [⟨nL, [], 0⟩], false, -1, []⟩
theorem m5 (z : List UInt8) : rem (Z z) (nI 1) = Y ∧ remE (Z z) (nI 1) = 0 := ⟨by kernel_rfl, by kernel_rfl⟩
def X (c : List UInt8) : Dk := ⟨⟨nI 2, c, 0⟩ :: ((List.range' 3 17).map fI ++ [⟨nNew, [], 0⟩, ⟨nL, [], 0⟩]), false, -1, []⟩
theorem m6 : app Y nNew [] = X [2] ∧ appE Y nNew 0 = 0 := ⟨by kernel_rfl, by kernel_rfl⟩
theorem m7 : (nms (X [2])).length = 20 := by kernel_rfl
theorem t1 : trn (X [2]) (nI 2) 0 1 = X [0] ∧ trnE (X [2]) (nI 2) 0 1 = 0 := ⟨by kernel_rfl, by kernel_rfl⟩
theorem t2 : (rdE (X [0]) (nI 2) == 0 && rdB (X [0]) (nI 2) == [0]) = true := by kernel_rfl
theorem t3 : trn (X [0]) (nI 2) 1 0 = X [0] ∧ trnE (X [0]) (nI 2) 1 0 = 9 := ⟨by kernel_rfl, by kernel_rfl⟩
theorem t4 : trn (X [0]) (nI 2) 0 8 = X [0] ∧ trnE (X [0]) (nI 2) 0 8 = 9 := ⟨by kernel_rfl, by kernel_rfl⟩
theorem t5 : trn (X [0]) (nI 2) (-1) 0 = X [0] ∧ trnE (X [0]) (nI 2) (-1) 0 = 9 := ⟨by kernel_rfl, by kernel_rfl⟩
theorem t6 : trn (X [0]) (nI 2) 0 (-1) = X [0] ∧ trnE (X [0]) (nI 2) 0 (-1) = 9 := ⟨by kernel_rfl, by kernel_rfl⟩
theorem t7 : trn (X [0]) nL 0 0 = X [0] ∧ trnE (X [0]) nL 0 0 = 9 := ⟨by kernel_rfl, by kernel_rfl⟩
/-- The power went. -/
def E (d : Bool) : Dk := ⟨⟨nI 2, [0], 1⟩ :: ⟨nI 3, [3], 1⟩ :: ((List.range' 4 16).map (fun i => ⟨nI i, [], 0⟩) ++ [⟨nNew, [], 0⟩, ⟨nL, [], 0⟩]), d, -1, []⟩
theorem e1 : crash (X [0]) [-1, -1] = E true := by kernel_rfl
theorem e2 : app (E true) (nI 2) [] = E true ∧ appE (E true) (nI 2) 0 = 71 := ⟨by kernel_rfl, by kernel_rfl⟩
theorem e3 : app (E true) ⟨#[]⟩ [] = E true ∧ appE (E true) ⟨#[]⟩ 0 = 71 := ⟨by kernel_rfl, by kernel_rfl⟩
theorem e4 : syn (E true) nNone_ = E true ∧ synE (E true) nNone_ = 71 := ⟨by kernel_rfl, by kernel_rfl⟩
theorem e5 : cut (E true) (nI 2) 0 = E true ∧ cutE (E true) (nI 2) 0 = 71 := ⟨by kernel_rfl, by kernel_rfl⟩
theorem e6 : ren (E true) (nI 2) (nI 3) = E true ∧ renE (E true) (nI 2) (nI 3) = 71 := ⟨by kernel_rfl, by kernel_rfl⟩
theorem e7 : rem (E true) (nI 2) = E true ∧ remE (E true) (nI 2) = 71 := ⟨by kernel_rfl, by kernel_rfl⟩
theorem e8 : trn (E true) (nI 2) 0 0 = E true ∧ trnE (E true) (nI 2) 0 0 = 71 := ⟨by kernel_rfl, by kernel_rfl⟩
theorem e9 : (nms (E true)).length = 0 := by kernel_rfl
theorem e10 : crash (E true) [9] = E true := by kernel_rfl
theorem e11 : fal (E true) 0 [] = E true := by kernel_rfl
theorem e12 : boot (E true) = E false := by kernel_rfl
theorem e13 : boot (E false) = E false := by kernel_rfl
theorem e14 : (nms (E false)).length = 20 := by kernel_rfl
theorem e15 : (rdE (E false) (nI 2) == 0 && rdB (E false) (nI 2) == [0]) = true := by kernel_rfl
theorem e16 : (rdE (E false) (nI 4) == 0 && rdB (E false) (nI 4) == []) = true := by kernel_rfl
theorem e17 : appE (E false) (nI 2) 1 = 0 := by kernel_rfl
/-- The second disk. -/
theorem s1 : app dk0 nA_ [1, 2, 3] = wd nA_ [1, 2, 3] 0 false (-1) ∧ appE dk0 nA_ 3 = 0 := ⟨by kernel_rfl, by kernel_rfl⟩
theorem s2 : syn (wd nA_ [1, 2, 3] 0 false (-1)) nA_ = wd nA_ [1, 2, 3] 3 false (-1) ∧ synE (wd nA_ [1, 2, 3] 0 false (-1)) nA_ = 0 := ⟨by kernel_rfl, by kernel_rfl⟩
theorem s3 : cut (wd nA_ [1, 2, 3] 3 false (-1)) nA_ 1 = wd nA_ [1] 1 false (-1) ∧ cutE (wd nA_ [1, 2, 3] 3 false (-1)) nA_ 1 = 0 := ⟨by kernel_rfl, by kernel_rfl⟩
theorem s4 : app (wd nA_ [1] 1 false (-1)) nA_ [4, 5] = wd nA_ [1, 4, 5] 1 false (-1) ∧ appE (wd nA_ [1] 1 false (-1)) nA_ 2 = 0 := ⟨by kernel_rfl, by kernel_rfl⟩
theorem s5 : crash (wd nA_ [1, 4, 5] 1 false (-1)) [] = wd nA_ [1] 1 true (-1) := by kernel_rfl
theorem s6 : boot (wd nA_ [1] 1 true (-1)) = wd nA_ [1] 1 false (-1) := by kernel_rfl
theorem s7 : (rdE (wd nA_ [1] 1 false (-1)) nA_ == 0 && rdB (wd nA_ [1] 1 false (-1)) nA_ == [1]) = true := by kernel_rfl
theorem s8 : fal (wd nA_ [1] 1 false (-1)) 0 [0] = ⟨[⟨nA_, [1], 1⟩], false, 0, [0]⟩ := by kernel_rfl
theorem s9 : fal ⟨[⟨nA_, [1], 1⟩], false, 0, [0]⟩ (-5) [] = wd nA_ [1] 1 false (-1) := by kernel_rfl
theorem s10 : synE (wd nA_ [1] 1 false (-1)) nA_ = 0 := by kernel_rfl
end Go.Proofs.Ytkhalpajomammaa
