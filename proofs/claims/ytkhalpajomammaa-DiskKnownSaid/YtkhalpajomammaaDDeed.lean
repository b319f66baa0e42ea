/-
  Layer 7: a deed is done: the code's disk ('does'), the document's ('should').
-/
import Derived.Test.YtkhalpajomammaaDOk
set_option linter.unusedVariables false
namespace Go.Proofs.Ytkhalpajomammaa
open Go.RowKit

structure RepOk (R : DRep) : Prop where
  on : ∀ {V V' : World} {g : Nat} {D : Dk} {F : Nat → Prop}, R V g D F → V.heap.size ≤ V'.heap.size → (∀ k, F k → V'.heap[k]? = V.heap[k]?) → R V' g D F
  mono : ∀ {V : World} {g : Nat} {D : Dk} {F G : Nat → Prop}, R V g D F → (∀ k, F k → G k) → (∀ k, G k → k < V.heap.size) → R V g D G
  lt : ∀ {V : World} {g : Nat} {D : Dk} {F : Nat → Prop}, R V g D F → ∀ k, F k → k < V.heap.size
  ok : ∀ {V : World} {g : Nat} {D : Dk} {F : Nat → Prop}, R V g D F → D.ok
theorem DiskOk.rep {R : DRep} (h : DiskOk R) : RepOk R := ⟨h.on, h.mono, h.lt, h.ok⟩
theorem refRep : RepOk RDk := ⟨RDk.on, RDk.mono, fun h k e => RDk.lt h e, RDk.ok⟩
section
variable {R : DRep} {w V V' : World} {g : Nat} {D D' : Dk} {F : Nat → Prop}
theorem RepOk.below (hR : RepOk R) (h : R V g D F) (hb : Below V.heap.size V V') : R V' g D F := hR.on h hb.size (fun k e => hb.block k (hR.lt h k e))
theorem RepOk.turn (hR : RepOk R) (h : R V g D F) (hb : Below V.heap.size V V') : Turns R V g F D V' :=
  ⟨hR.mono (hR.below h hb) (fun k e => .inl e) (fun k e => by rcases e with e | e; exact Nat.lt_of_lt_of_le (hR.lt h k e) hb.size; exact e.2), Grow.of_below hb⟩
theorem RepOk.under (hR : RepOk R) (hb : Below w.heap.size w V) (h : Turns R V g F D V') (hl : ∀ k, F k → k < w.heap.size) : Turns R w g F D V' :=
  ⟨hR.mono h.1 (fun k e => by rcases e with e | e; exact .inl e; exact .inr ⟨by have := hb.size; omega, e.2⟩) (fun k e => by rcases e with e | e; exact Nat.lt_of_lt_of_le (hl k e) (Nat.le_trans hb.size h.2.size); exact e.2), (Grow.of_below hb).trans (h.2.mono (fun k e => .inl e))⟩
end

structure Dd where
  k : Int
  nm : ByteArray
  tn : ByteArray
  bs : List UInt8
  n : Int
  at_ : Int
  keep : List Int
def deedC (D : Dk) (x : Dd) : Dk :=
  if x.k % 12 < 3 then app D x.nm x.bs else if x.k % 12 < 5 then syn D x.nm else if x.k % 12 = 5 then cut D x.nm x.n else if x.k % 12 = 6 then ren D x.nm x.tn else if x.k % 12 = 7 then rem D x.nm else
    if x.k % 12 = 8 then crash D x.keep else if x.k % 12 = 9 then fal D x.n x.keep else if x.k % 12 = 10 then boot D else trn D x.nm x.n x.at_
def deedE (D : Dk) (x : Dd) : Int :=
  if x.k % 12 < 3 then appE D x.nm x.bs.length else if x.k % 12 < 5 then synE D x.nm else if x.k % 12 = 5 then cutE D x.nm x.n else if x.k % 12 = 6 then renE D x.nm x.tn else if x.k % 12 = 7 then remE D x.nm else
    if x.k % 12 < 11 then 0 else trnE D x.nm x.n x.at_
def In64 (x : Int) : Prop := -9223372036854775808 ≤ x ∧ x ≤ 9223372036854775807
abbrev ddv (x : Dd) (BA : Option Addr) (bc : Nat) (KA : Option Addr) (kc : Nat) : Value := .agg #[.int .i64 x.k, .string x.nm, .string x.tn, .slice BA x.bs.length bc, .int .i64 x.n, .int .i64 x.at_, .slice KA x.keep.length kc]

set_option maxRecDepth 100000 in
set_option maxHeartbeats 8000000 in
theorem should_ok (w : World) (g : Nat) (D : Dk) (F : Nat → Prop) (x : Dd) (BA KA : Option Addr) (bc kc : Nat) (h : RDk w g D F) (hB : At w BA x.bs.length x.bs) (hK : IAt w KA x.keep.length x.keep) (hBF : InF (fun k => ¬ F k) BA) (hKF : InF (fun k => k < w.heap.size ∧ ¬ F k) KA)
    (hk : In64 x.k) (hn : In64 x.n) (ha : In64 x.at_) (hbn : x.bs.length ≤ 140000000000000) (hkn : x.keep.length ≤ 17592186044416) (hkc : x.keep.length ≤ kc) (hkc2 : kc ≤ 9223372036854775807) :
    Calls Try.prog 14 #[pt g, ddv x BA bc KA kc] w fun e w' => e = .returned (.int .i64 (deedE D x)) ∧ Turns RDk w g F (deedC D x) w' := by
  obtain ⟨k, nm, tn, bs, xn, xa, keep⟩ := x
  unfold deedC deedE ddv
  simp only at *
  obtain ⟨bn, hbl⟩ : ∃ n, bs.length = n := ⟨_, rfl⟩
  obtain ⟨kn, hkl⟩ : ∃ n, keep.length = n := ⟨_, rfl⟩
  rw [hbl] at hB hbn
  rw [hkl] at hK hkn hkc
  simp only [hbl, hkl]
  have HBL := Lib.hid hbl
  have hb0 := (Below.refl w.heap.size w).alloc (Nat.le_refl _) (.cells #[.int .i64 k, .string nm, .string tn, .slice BA bn bc, .int .i64 xn, .int .i64 xa, .slice KA kn kc] 30)
  have h1 := Lib.hid (RepOk.below refRep h hb0)
  have HB := Lib.hid (hB.alloc (.cells #[.int .i64 k, .string nm, .string tn, .slice BA bn bc, .int .i64 xn, .int .i64 xa, .slice KA kn kc] 30))
  have HK := Lib.hid (hK.keepB hb0)
  have HKF : InF (fun kk => kk < (w.alloc (.cells #[.int .i64 k, .string nm, .string tn, .slice BA bn bc, .int .i64 xn, .int .i64 xa, .slice KA kn kc] 30)).heap.size ∧ ¬ F kk) KA := fun a e => ⟨Nat.lt_of_lt_of_le (hKF a e).1 hb0.size, (hKF a e).2⟩
  have HKF2 : InF (fun k => ¬ F k) KA := fun a e => (hKF a e).2
  have HL := Lib.hid (RepOk.lt refRep h)
  have BR := fun V => bring k 12 V (by omega) (by omega)
  have h0 := Int.emod_nonneg k (b := 12) (by omega)
  have h12 := Int.emod_lt_of_pos k (b := 12) (by omega)
  clear h hB hK hKF hbl hkl
  rcases (show k % 12 = 0 ∨ k % 12 = 1 ∨ k % 12 = 2 ∨ k % 12 = 3 ∨ k % 12 = 4 ∨ k % 12 = 5 ∨ k % 12 = 6 ∨ k % 12 = 7 ∨ k % 12 = 8 ∨ k % 12 = 9 ∨ k % 12 = 10 ∨ k % 12 = 11 by omega) with e | e | e | e | e | e | e | e | e | e | e | e
  · have e' : k % 12 = 0 := e
    rw [e'] at BR ⊢
    have B1 := Lib.hid BR
    have C1 := Lib.hid (append_ok (w.alloc (.cells #[.int .i64 k, .string nm, .string tn, .slice BA bn bc, .int .i64 xn, .int .i64 xa, .slice KA kn kc] 30)) g D F nm BA bn bc bs h1.out HB.out hBF hbn)
    rw [HBL.out] at C1
    obtain ⟨E, hE⟩ : ∃ z, z = (appE D nm bn : Int) := ⟨_, rfl⟩
    obtain ⟨C, hC⟩ : ∃ z, z = app D nm bs := ⟨_, rfl⟩
    have eE : (if (0 : Int) < 3 then appE D nm bn else if (0 : Int) < 5 then synE D nm else if (0 : Int) = 5 then cutE D nm xn else if (0 : Int) = 6 then renE D nm tn else if (0 : Int) = 7 then remE D nm else if (0 : Int) < 11 then 0 else trnE D nm xn xa) = E := by rw [hE]; rfl
    have eC : (if (0 : Int) < 3 then app D nm bs else if (0 : Int) < 5 then syn D nm else if (0 : Int) = 5 then cut D nm xn else if (0 : Int) = 6 then ren D nm tn else if (0 : Int) = 7 then rem D nm else if (0 : Int) = 8 then crash D keep else if (0 : Int) = 9 then fal D xn keep else if (0 : Int) = 10 then boot D else trn D nm xn xa) = C := by rw [hC]; rfl
    show Calls _ _ _ _ fun e' w' => e' = .returned (.int .i64 (if (0 : Int) < 3 then appE D nm bn else if (0 : Int) < 5 then synE D nm else if (0 : Int) = 5 then cutE D nm xn else if (0 : Int) = 6 then renE D nm tn else if (0 : Int) = 7 then remE D nm else if (0 : Int) < 11 then 0 else trnE D nm xn xa)) ∧ Turns _ w g F (if (0 : Int) < 3 then app D nm bs else if (0 : Int) < 5 then syn D nm else if (0 : Int) = 5 then cut D nm xn else if (0 : Int) = 6 then ren D nm tn else if (0 : Int) = 7 then rem D nm else if (0 : Int) = 8 then crash D keep else if (0 : Int) = 9 then fal D xn keep else if (0 : Int) = 10 then boot D else trn D nm xn xa) w'
    rw [eE, eC]
    rw [← hE, ← hC] at C1
    have HE := Lib.hid hE
    clear BR e e' h0 h12 hE hC eE eC
    go_enter Try.func14, Try.ntmps14
    go_wp2_with (first
      | (go_at_call 22; refine (B1.out _).mono ?_; rintro e2 w2' ⟨rfl, rfl⟩)
      | (go_at_call 35; refine C1.out.mono ?_; rintro e3 w3 ⟨rfl, ht⟩))
    go_ret
    exact ⟨rfl, RepOk.under refRep hb0 ht HL.out⟩
  · have e' : k % 12 = 1 := e
    rw [e'] at BR ⊢
    have B1 := Lib.hid BR
    have C1 := Lib.hid (append_ok (w.alloc (.cells #[.int .i64 k, .string nm, .string tn, .slice BA bn bc, .int .i64 xn, .int .i64 xa, .slice KA kn kc] 30)) g D F nm BA bn bc bs h1.out HB.out hBF hbn)
    rw [HBL.out] at C1
    obtain ⟨E, hE⟩ : ∃ z, z = (appE D nm bn : Int) := ⟨_, rfl⟩
    obtain ⟨C, hC⟩ : ∃ z, z = app D nm bs := ⟨_, rfl⟩
    have eE : (if (1 : Int) < 3 then appE D nm bn else if (1 : Int) < 5 then synE D nm else if (1 : Int) = 5 then cutE D nm xn else if (1 : Int) = 6 then renE D nm tn else if (1 : Int) = 7 then remE D nm else if (1 : Int) < 11 then 0 else trnE D nm xn xa) = E := by rw [hE]; rfl
    have eC : (if (1 : Int) < 3 then app D nm bs else if (1 : Int) < 5 then syn D nm else if (1 : Int) = 5 then cut D nm xn else if (1 : Int) = 6 then ren D nm tn else if (1 : Int) = 7 then rem D nm else if (1 : Int) = 8 then crash D keep else if (1 : Int) = 9 then fal D xn keep else if (1 : Int) = 10 then boot D else trn D nm xn xa) = C := by rw [hC]; rfl
    show Calls _ _ _ _ fun e' w' => e' = .returned (.int .i64 (if (1 : Int) < 3 then appE D nm bn else if (1 : Int) < 5 then synE D nm else if (1 : Int) = 5 then cutE D nm xn else if (1 : Int) = 6 then renE D nm tn else if (1 : Int) = 7 then remE D nm else if (1 : Int) < 11 then 0 else trnE D nm xn xa)) ∧ Turns _ w g F (if (1 : Int) < 3 then app D nm bs else if (1 : Int) < 5 then syn D nm else if (1 : Int) = 5 then cut D nm xn else if (1 : Int) = 6 then ren D nm tn else if (1 : Int) = 7 then rem D nm else if (1 : Int) = 8 then crash D keep else if (1 : Int) = 9 then fal D xn keep else if (1 : Int) = 10 then boot D else trn D nm xn xa) w'
    rw [eE, eC]
    rw [← hE, ← hC] at C1
    have HE := Lib.hid hE
    clear BR e e' h0 h12 hE hC eE eC
    go_enter Try.func14, Try.ntmps14
    go_wp2_with (first
      | (go_at_call 22; refine (B1.out _).mono ?_; rintro e2 w2' ⟨rfl, rfl⟩)
      | (go_at_call 35; refine C1.out.mono ?_; rintro e3 w3 ⟨rfl, ht⟩))
    go_ret
    exact ⟨rfl, RepOk.under refRep hb0 ht HL.out⟩
  · have e' : k % 12 = 2 := e
    rw [e'] at BR ⊢
    have B1 := Lib.hid BR
    have C1 := Lib.hid (append_ok (w.alloc (.cells #[.int .i64 k, .string nm, .string tn, .slice BA bn bc, .int .i64 xn, .int .i64 xa, .slice KA kn kc] 30)) g D F nm BA bn bc bs h1.out HB.out hBF hbn)
    rw [HBL.out] at C1
    obtain ⟨E, hE⟩ : ∃ z, z = (appE D nm bn : Int) := ⟨_, rfl⟩
    obtain ⟨C, hC⟩ : ∃ z, z = app D nm bs := ⟨_, rfl⟩
    have eE : (if (2 : Int) < 3 then appE D nm bn else if (2 : Int) < 5 then synE D nm else if (2 : Int) = 5 then cutE D nm xn else if (2 : Int) = 6 then renE D nm tn else if (2 : Int) = 7 then remE D nm else if (2 : Int) < 11 then 0 else trnE D nm xn xa) = E := by rw [hE]; rfl
    have eC : (if (2 : Int) < 3 then app D nm bs else if (2 : Int) < 5 then syn D nm else if (2 : Int) = 5 then cut D nm xn else if (2 : Int) = 6 then ren D nm tn else if (2 : Int) = 7 then rem D nm else if (2 : Int) = 8 then crash D keep else if (2 : Int) = 9 then fal D xn keep else if (2 : Int) = 10 then boot D else trn D nm xn xa) = C := by rw [hC]; rfl
    show Calls _ _ _ _ fun e' w' => e' = .returned (.int .i64 (if (2 : Int) < 3 then appE D nm bn else if (2 : Int) < 5 then synE D nm else if (2 : Int) = 5 then cutE D nm xn else if (2 : Int) = 6 then renE D nm tn else if (2 : Int) = 7 then remE D nm else if (2 : Int) < 11 then 0 else trnE D nm xn xa)) ∧ Turns _ w g F (if (2 : Int) < 3 then app D nm bs else if (2 : Int) < 5 then syn D nm else if (2 : Int) = 5 then cut D nm xn else if (2 : Int) = 6 then ren D nm tn else if (2 : Int) = 7 then rem D nm else if (2 : Int) = 8 then crash D keep else if (2 : Int) = 9 then fal D xn keep else if (2 : Int) = 10 then boot D else trn D nm xn xa) w'
    rw [eE, eC]
    rw [← hE, ← hC] at C1
    have HE := Lib.hid hE
    clear BR e e' h0 h12 hE hC eE eC
    go_enter Try.func14, Try.ntmps14
    go_wp2_with (first
      | (go_at_call 22; refine (B1.out _).mono ?_; rintro e2 w2' ⟨rfl, rfl⟩)
      | (go_at_call 35; refine C1.out.mono ?_; rintro e3 w3 ⟨rfl, ht⟩))
    go_ret
    exact ⟨rfl, RepOk.under refRep hb0 ht HL.out⟩
  · have e' : k % 12 = 3 := e
    rw [e'] at BR ⊢
    have B1 := Lib.hid BR
    have C1 := Lib.hid (sync_ok (w.alloc (.cells #[.int .i64 k, .string nm, .string tn, .slice BA bn bc, .int .i64 xn, .int .i64 xa, .slice KA kn kc] 30)) g D F nm h1.out)
    skip
    obtain ⟨E, hE⟩ : ∃ z, z = (synE D nm : Int) := ⟨_, rfl⟩
    obtain ⟨C, hC⟩ : ∃ z, z = syn D nm := ⟨_, rfl⟩
    have eE : (if (3 : Int) < 3 then appE D nm bn else if (3 : Int) < 5 then synE D nm else if (3 : Int) = 5 then cutE D nm xn else if (3 : Int) = 6 then renE D nm tn else if (3 : Int) = 7 then remE D nm else if (3 : Int) < 11 then 0 else trnE D nm xn xa) = E := by rw [hE]; rfl
    have eC : (if (3 : Int) < 3 then app D nm bs else if (3 : Int) < 5 then syn D nm else if (3 : Int) = 5 then cut D nm xn else if (3 : Int) = 6 then ren D nm tn else if (3 : Int) = 7 then rem D nm else if (3 : Int) = 8 then crash D keep else if (3 : Int) = 9 then fal D xn keep else if (3 : Int) = 10 then boot D else trn D nm xn xa) = C := by rw [hC]; rfl
    show Calls _ _ _ _ fun e' w' => e' = .returned (.int .i64 (if (3 : Int) < 3 then appE D nm bn else if (3 : Int) < 5 then synE D nm else if (3 : Int) = 5 then cutE D nm xn else if (3 : Int) = 6 then renE D nm tn else if (3 : Int) = 7 then remE D nm else if (3 : Int) < 11 then 0 else trnE D nm xn xa)) ∧ Turns _ w g F (if (3 : Int) < 3 then app D nm bs else if (3 : Int) < 5 then syn D nm else if (3 : Int) = 5 then cut D nm xn else if (3 : Int) = 6 then ren D nm tn else if (3 : Int) = 7 then rem D nm else if (3 : Int) = 8 then crash D keep else if (3 : Int) = 9 then fal D xn keep else if (3 : Int) = 10 then boot D else trn D nm xn xa) w'
    rw [eE, eC]
    rw [← hE, ← hC] at C1
    have HE := Lib.hid hE
    clear BR e e' h0 h12 hE hC eE eC
    go_enter Try.func14, Try.ntmps14
    go_wp2_with (first
      | (go_at_call 22; refine (B1.out _).mono ?_; rintro e2 w2' ⟨rfl, rfl⟩)
      | (go_at_call 36; refine C1.out.mono ?_; rintro e3 w3 ⟨rfl, ht⟩))
    go_ret
    exact ⟨rfl, RepOk.under refRep hb0 ht HL.out⟩
  · have e' : k % 12 = 4 := e
    rw [e'] at BR ⊢
    have B1 := Lib.hid BR
    have C1 := Lib.hid (sync_ok (w.alloc (.cells #[.int .i64 k, .string nm, .string tn, .slice BA bn bc, .int .i64 xn, .int .i64 xa, .slice KA kn kc] 30)) g D F nm h1.out)
    skip
    obtain ⟨E, hE⟩ : ∃ z, z = (synE D nm : Int) := ⟨_, rfl⟩
    obtain ⟨C, hC⟩ : ∃ z, z = syn D nm := ⟨_, rfl⟩
    have eE : (if (4 : Int) < 3 then appE D nm bn else if (4 : Int) < 5 then synE D nm else if (4 : Int) = 5 then cutE D nm xn else if (4 : Int) = 6 then renE D nm tn else if (4 : Int) = 7 then remE D nm else if (4 : Int) < 11 then 0 else trnE D nm xn xa) = E := by rw [hE]; rfl
    have eC : (if (4 : Int) < 3 then app D nm bs else if (4 : Int) < 5 then syn D nm else if (4 : Int) = 5 then cut D nm xn else if (4 : Int) = 6 then ren D nm tn else if (4 : Int) = 7 then rem D nm else if (4 : Int) = 8 then crash D keep else if (4 : Int) = 9 then fal D xn keep else if (4 : Int) = 10 then boot D else trn D nm xn xa) = C := by rw [hC]; rfl
    show Calls _ _ _ _ fun e' w' => e' = .returned (.int .i64 (if (4 : Int) < 3 then appE D nm bn else if (4 : Int) < 5 then synE D nm else if (4 : Int) = 5 then cutE D nm xn else if (4 : Int) = 6 then renE D nm tn else if (4 : Int) = 7 then remE D nm else if (4 : Int) < 11 then 0 else trnE D nm xn xa)) ∧ Turns _ w g F (if (4 : Int) < 3 then app D nm bs else if (4 : Int) < 5 then syn D nm else if (4 : Int) = 5 then cut D nm xn else if (4 : Int) = 6 then ren D nm tn else if (4 : Int) = 7 then rem D nm else if (4 : Int) = 8 then crash D keep else if (4 : Int) = 9 then fal D xn keep else if (4 : Int) = 10 then boot D else trn D nm xn xa) w'
    rw [eE, eC]
    rw [← hE, ← hC] at C1
    have HE := Lib.hid hE
    clear BR e e' h0 h12 hE hC eE eC
    go_enter Try.func14, Try.ntmps14
    go_wp2_with (first
      | (go_at_call 22; refine (B1.out _).mono ?_; rintro e2 w2' ⟨rfl, rfl⟩)
      | (go_at_call 36; refine C1.out.mono ?_; rintro e3 w3 ⟨rfl, ht⟩))
    go_ret
    exact ⟨rfl, RepOk.under refRep hb0 ht HL.out⟩
  · have e' : k % 12 = 5 := e
    rw [e'] at BR ⊢
    have B1 := Lib.hid BR
    have C1 := Lib.hid (cut_ok (w.alloc (.cells #[.int .i64 k, .string nm, .string tn, .slice BA bn bc, .int .i64 xn, .int .i64 xa, .slice KA kn kc] 30)) g D F nm xn hn h1.out)
    skip
    obtain ⟨E, hE⟩ : ∃ z, z = (cutE D nm xn : Int) := ⟨_, rfl⟩
    obtain ⟨C, hC⟩ : ∃ z, z = cut D nm xn := ⟨_, rfl⟩
    have eE : (if (5 : Int) < 3 then appE D nm bn else if (5 : Int) < 5 then synE D nm else if (5 : Int) = 5 then cutE D nm xn else if (5 : Int) = 6 then renE D nm tn else if (5 : Int) = 7 then remE D nm else if (5 : Int) < 11 then 0 else trnE D nm xn xa) = E := by rw [hE]; rfl
    have eC : (if (5 : Int) < 3 then app D nm bs else if (5 : Int) < 5 then syn D nm else if (5 : Int) = 5 then cut D nm xn else if (5 : Int) = 6 then ren D nm tn else if (5 : Int) = 7 then rem D nm else if (5 : Int) = 8 then crash D keep else if (5 : Int) = 9 then fal D xn keep else if (5 : Int) = 10 then boot D else trn D nm xn xa) = C := by rw [hC]; rfl
    show Calls _ _ _ _ fun e' w' => e' = .returned (.int .i64 (if (5 : Int) < 3 then appE D nm bn else if (5 : Int) < 5 then synE D nm else if (5 : Int) = 5 then cutE D nm xn else if (5 : Int) = 6 then renE D nm tn else if (5 : Int) = 7 then remE D nm else if (5 : Int) < 11 then 0 else trnE D nm xn xa)) ∧ Turns _ w g F (if (5 : Int) < 3 then app D nm bs else if (5 : Int) < 5 then syn D nm else if (5 : Int) = 5 then cut D nm xn else if (5 : Int) = 6 then ren D nm tn else if (5 : Int) = 7 then rem D nm else if (5 : Int) = 8 then crash D keep else if (5 : Int) = 9 then fal D xn keep else if (5 : Int) = 10 then boot D else trn D nm xn xa) w'
    rw [eE, eC]
    rw [← hE, ← hC] at C1
    have HE := Lib.hid hE
    clear BR e e' h0 h12 hE hC eE eC
    go_enter Try.func14, Try.ntmps14
    go_wp2_with (first
      | (go_at_call 22; refine (B1.out _).mono ?_; rintro e2 w2' ⟨rfl, rfl⟩)
      | (go_at_call 37; refine C1.out.mono ?_; rintro e3 w3 ⟨rfl, ht⟩))
    go_ret
    exact ⟨rfl, RepOk.under refRep hb0 ht HL.out⟩
  · have e' : k % 12 = 6 := e
    rw [e'] at BR ⊢
    have B1 := Lib.hid BR
    have C1 := Lib.hid (rename_ok (w.alloc (.cells #[.int .i64 k, .string nm, .string tn, .slice BA bn bc, .int .i64 xn, .int .i64 xa, .slice KA kn kc] 30)) g D F nm tn h1.out)
    skip
    obtain ⟨E, hE⟩ : ∃ z, z = (renE D nm tn : Int) := ⟨_, rfl⟩
    obtain ⟨C, hC⟩ : ∃ z, z = ren D nm tn := ⟨_, rfl⟩
    have eE : (if (6 : Int) < 3 then appE D nm bn else if (6 : Int) < 5 then synE D nm else if (6 : Int) = 5 then cutE D nm xn else if (6 : Int) = 6 then renE D nm tn else if (6 : Int) = 7 then remE D nm else if (6 : Int) < 11 then 0 else trnE D nm xn xa) = E := by rw [hE]; rfl
    have eC : (if (6 : Int) < 3 then app D nm bs else if (6 : Int) < 5 then syn D nm else if (6 : Int) = 5 then cut D nm xn else if (6 : Int) = 6 then ren D nm tn else if (6 : Int) = 7 then rem D nm else if (6 : Int) = 8 then crash D keep else if (6 : Int) = 9 then fal D xn keep else if (6 : Int) = 10 then boot D else trn D nm xn xa) = C := by rw [hC]; rfl
    show Calls _ _ _ _ fun e' w' => e' = .returned (.int .i64 (if (6 : Int) < 3 then appE D nm bn else if (6 : Int) < 5 then synE D nm else if (6 : Int) = 5 then cutE D nm xn else if (6 : Int) = 6 then renE D nm tn else if (6 : Int) = 7 then remE D nm else if (6 : Int) < 11 then 0 else trnE D nm xn xa)) ∧ Turns _ w g F (if (6 : Int) < 3 then app D nm bs else if (6 : Int) < 5 then syn D nm else if (6 : Int) = 5 then cut D nm xn else if (6 : Int) = 6 then ren D nm tn else if (6 : Int) = 7 then rem D nm else if (6 : Int) = 8 then crash D keep else if (6 : Int) = 9 then fal D xn keep else if (6 : Int) = 10 then boot D else trn D nm xn xa) w'
    rw [eE, eC]
    rw [← hE, ← hC] at C1
    have HE := Lib.hid hE
    clear BR e e' h0 h12 hE hC eE eC
    go_enter Try.func14, Try.ntmps14
    go_wp2_with (first
      | (go_at_call 22; refine (B1.out _).mono ?_; rintro e2 w2' ⟨rfl, rfl⟩)
      | (go_at_call 38; refine C1.out.mono ?_; rintro e3 w3 ⟨rfl, ht⟩))
    go_ret
    exact ⟨rfl, RepOk.under refRep hb0 ht HL.out⟩
  · have e' : k % 12 = 7 := e
    rw [e'] at BR ⊢
    have B1 := Lib.hid BR
    have C1 := Lib.hid (remove_ok (w.alloc (.cells #[.int .i64 k, .string nm, .string tn, .slice BA bn bc, .int .i64 xn, .int .i64 xa, .slice KA kn kc] 30)) g D F nm h1.out)
    skip
    obtain ⟨E, hE⟩ : ∃ z, z = (remE D nm : Int) := ⟨_, rfl⟩
    obtain ⟨C, hC⟩ : ∃ z, z = rem D nm := ⟨_, rfl⟩
    have eE : (if (7 : Int) < 3 then appE D nm bn else if (7 : Int) < 5 then synE D nm else if (7 : Int) = 5 then cutE D nm xn else if (7 : Int) = 6 then renE D nm tn else if (7 : Int) = 7 then remE D nm else if (7 : Int) < 11 then 0 else trnE D nm xn xa) = E := by rw [hE]; rfl
    have eC : (if (7 : Int) < 3 then app D nm bs else if (7 : Int) < 5 then syn D nm else if (7 : Int) = 5 then cut D nm xn else if (7 : Int) = 6 then ren D nm tn else if (7 : Int) = 7 then rem D nm else if (7 : Int) = 8 then crash D keep else if (7 : Int) = 9 then fal D xn keep else if (7 : Int) = 10 then boot D else trn D nm xn xa) = C := by rw [hC]; rfl
    show Calls _ _ _ _ fun e' w' => e' = .returned (.int .i64 (if (7 : Int) < 3 then appE D nm bn else if (7 : Int) < 5 then synE D nm else if (7 : Int) = 5 then cutE D nm xn else if (7 : Int) = 6 then renE D nm tn else if (7 : Int) = 7 then remE D nm else if (7 : Int) < 11 then 0 else trnE D nm xn xa)) ∧ Turns _ w g F (if (7 : Int) < 3 then app D nm bs else if (7 : Int) < 5 then syn D nm else if (7 : Int) = 5 then cut D nm xn else if (7 : Int) = 6 then ren D nm tn else if (7 : Int) = 7 then rem D nm else if (7 : Int) = 8 then crash D keep else if (7 : Int) = 9 then fal D xn keep else if (7 : Int) = 10 then boot D else trn D nm xn xa) w'
    rw [eE, eC]
    rw [← hE, ← hC] at C1
    have HE := Lib.hid hE
    clear BR e e' h0 h12 hE hC eE eC
    go_enter Try.func14, Try.ntmps14
    go_wp2_with (first
      | (go_at_call 22; refine (B1.out _).mono ?_; rintro e2 w2' ⟨rfl, rfl⟩)
      | (go_at_call 39; refine C1.out.mono ?_; rintro e3 w3 ⟨rfl, ht⟩))
    go_ret
    exact ⟨rfl, RepOk.under refRep hb0 ht HL.out⟩
  · have e' : k % 12 = 8 := e
    rw [e'] at BR ⊢
    have B1 := Lib.hid BR
    have C1 := Lib.hid (crash_ok (w.alloc (.cells #[.int .i64 k, .string nm, .string tn, .slice BA bn bc, .int .i64 xn, .int .i64 xa, .slice KA kn kc] 30)) g D F KA kn kc keep h1.out HK.out HKF hkc hkc2)
    skip
    obtain ⟨E, hE⟩ : ∃ z, z = (0 : Int) := ⟨_, rfl⟩
    obtain ⟨C, hC⟩ : ∃ z, z = crash D keep := ⟨_, rfl⟩
    have eE : (if (8 : Int) < 3 then appE D nm bn else if (8 : Int) < 5 then synE D nm else if (8 : Int) = 5 then cutE D nm xn else if (8 : Int) = 6 then renE D nm tn else if (8 : Int) = 7 then remE D nm else if (8 : Int) < 11 then 0 else trnE D nm xn xa) = E := by rw [hE]; rfl
    have eC : (if (8 : Int) < 3 then app D nm bs else if (8 : Int) < 5 then syn D nm else if (8 : Int) = 5 then cut D nm xn else if (8 : Int) = 6 then ren D nm tn else if (8 : Int) = 7 then rem D nm else if (8 : Int) = 8 then crash D keep else if (8 : Int) = 9 then fal D xn keep else if (8 : Int) = 10 then boot D else trn D nm xn xa) = C := by rw [hC]; rfl
    show Calls _ _ _ _ fun e' w' => e' = .returned (.int .i64 (if (8 : Int) < 3 then appE D nm bn else if (8 : Int) < 5 then synE D nm else if (8 : Int) = 5 then cutE D nm xn else if (8 : Int) = 6 then renE D nm tn else if (8 : Int) = 7 then remE D nm else if (8 : Int) < 11 then 0 else trnE D nm xn xa)) ∧ Turns _ w g F (if (8 : Int) < 3 then app D nm bs else if (8 : Int) < 5 then syn D nm else if (8 : Int) = 5 then cut D nm xn else if (8 : Int) = 6 then ren D nm tn else if (8 : Int) = 7 then rem D nm else if (8 : Int) = 8 then crash D keep else if (8 : Int) = 9 then fal D xn keep else if (8 : Int) = 10 then boot D else trn D nm xn xa) w'
    rw [eE, eC]
    rw [← hC] at C1
    have HE := Lib.hid hE
    clear BR e e' h0 h12 hE hC eE eC
    go_enter Try.func14, Try.ntmps14
    go_wp2_with (first
      | (go_at_call 22; refine (B1.out _).mono ?_; rintro e2 w2' ⟨rfl, rfl⟩)
      | (go_at_call 40; refine C1.out.mono ?_; rintro e3 w3 ⟨rfl, ht⟩))
    go_ret
    exact ⟨by rw [HE.out]; rfl, RepOk.under refRep hb0 ht HL.out⟩
  · have e' : k % 12 = 9 := e
    rw [e'] at BR ⊢
    have B1 := Lib.hid BR
    have C1 := Lib.hid (fail_ok (w.alloc (.cells #[.int .i64 k, .string nm, .string tn, .slice BA bn bc, .int .i64 xn, .int .i64 xa, .slice KA kn kc] 30)) g D F xn KA kn kc keep hn.1 hn.2 h1.out HK.out HKF2 hkn)
    skip
    obtain ⟨E, hE⟩ : ∃ z, z = (0 : Int) := ⟨_, rfl⟩
    obtain ⟨C, hC⟩ : ∃ z, z = fal D xn keep := ⟨_, rfl⟩
    have eE : (if (9 : Int) < 3 then appE D nm bn else if (9 : Int) < 5 then synE D nm else if (9 : Int) = 5 then cutE D nm xn else if (9 : Int) = 6 then renE D nm tn else if (9 : Int) = 7 then remE D nm else if (9 : Int) < 11 then 0 else trnE D nm xn xa) = E := by rw [hE]; rfl
    have eC : (if (9 : Int) < 3 then app D nm bs else if (9 : Int) < 5 then syn D nm else if (9 : Int) = 5 then cut D nm xn else if (9 : Int) = 6 then ren D nm tn else if (9 : Int) = 7 then rem D nm else if (9 : Int) = 8 then crash D keep else if (9 : Int) = 9 then fal D xn keep else if (9 : Int) = 10 then boot D else trn D nm xn xa) = C := by rw [hC]; rfl
    show Calls _ _ _ _ fun e' w' => e' = .returned (.int .i64 (if (9 : Int) < 3 then appE D nm bn else if (9 : Int) < 5 then synE D nm else if (9 : Int) = 5 then cutE D nm xn else if (9 : Int) = 6 then renE D nm tn else if (9 : Int) = 7 then remE D nm else if (9 : Int) < 11 then 0 else trnE D nm xn xa)) ∧ Turns _ w g F (if (9 : Int) < 3 then app D nm bs else if (9 : Int) < 5 then syn D nm else if (9 : Int) = 5 then cut D nm xn else if (9 : Int) = 6 then ren D nm tn else if (9 : Int) = 7 then rem D nm else if (9 : Int) = 8 then crash D keep else if (9 : Int) = 9 then fal D xn keep else if (9 : Int) = 10 then boot D else trn D nm xn xa) w'
    rw [eE, eC]
    rw [← hC] at C1
    have HE := Lib.hid hE
    clear BR e e' h0 h12 hE hC eE eC
    go_enter Try.func14, Try.ntmps14
    go_wp2_with (first
      | (go_at_call 22; refine (B1.out _).mono ?_; rintro e2 w2' ⟨rfl, rfl⟩)
      | (go_at_call 41; refine C1.out.mono ?_; rintro e3 w3 ⟨rfl, ht⟩))
    go_ret
    exact ⟨by rw [HE.out]; rfl, RepOk.under refRep hb0 ht HL.out⟩
  · have e' : k % 12 = 10 := e
    rw [e'] at BR ⊢
    have B1 := Lib.hid BR
    have C1 := Lib.hid (boot_ok (w.alloc (.cells #[.int .i64 k, .string nm, .string tn, .slice BA bn bc, .int .i64 xn, .int .i64 xa, .slice KA kn kc] 30)) g D F h1.out)
    skip
    obtain ⟨E, hE⟩ : ∃ z, z = (0 : Int) := ⟨_, rfl⟩
    obtain ⟨C, hC⟩ : ∃ z, z = boot D := ⟨_, rfl⟩
    have eE : (if (10 : Int) < 3 then appE D nm bn else if (10 : Int) < 5 then synE D nm else if (10 : Int) = 5 then cutE D nm xn else if (10 : Int) = 6 then renE D nm tn else if (10 : Int) = 7 then remE D nm else if (10 : Int) < 11 then 0 else trnE D nm xn xa) = E := by rw [hE]; rfl
    have eC : (if (10 : Int) < 3 then app D nm bs else if (10 : Int) < 5 then syn D nm else if (10 : Int) = 5 then cut D nm xn else if (10 : Int) = 6 then ren D nm tn else if (10 : Int) = 7 then rem D nm else if (10 : Int) = 8 then crash D keep else if (10 : Int) = 9 then fal D xn keep else if (10 : Int) = 10 then boot D else trn D nm xn xa) = C := by rw [hC]; rfl
    show Calls _ _ _ _ fun e' w' => e' = .returned (.int .i64 (if (10 : Int) < 3 then appE D nm bn else if (10 : Int) < 5 then synE D nm else if (10 : Int) = 5 then cutE D nm xn else if (10 : Int) = 6 then renE D nm tn else if (10 : Int) = 7 then remE D nm else if (10 : Int) < 11 then 0 else trnE D nm xn xa)) ∧ Turns _ w g F (if (10 : Int) < 3 then app D nm bs else if (10 : Int) < 5 then syn D nm else if (10 : Int) = 5 then cut D nm xn else if (10 : Int) = 6 then ren D nm tn else if (10 : Int) = 7 then rem D nm else if (10 : Int) = 8 then crash D keep else if (10 : Int) = 9 then fal D xn keep else if (10 : Int) = 10 then boot D else trn D nm xn xa) w'
    rw [eE, eC]
    rw [← hC] at C1
    have HE := Lib.hid hE
    clear BR e e' h0 h12 hE hC eE eC
    go_enter Try.func14, Try.ntmps14
    go_wp2_with (first
      | (go_at_call 22; refine (B1.out _).mono ?_; rintro e2 w2' ⟨rfl, rfl⟩)
      | (go_at_call 42; refine C1.out.mono ?_; rintro e3 w3 ⟨rfl, ht⟩))
    go_ret
    exact ⟨by rw [HE.out]; rfl, RepOk.under refRep hb0 ht HL.out⟩
  · have e' : k % 12 = 11 := e
    rw [e'] at BR ⊢
    have B1 := Lib.hid BR
    have C1 := Lib.hid (turn_ok (w.alloc (.cells #[.int .i64 k, .string nm, .string tn, .slice BA bn bc, .int .i64 xn, .int .i64 xa, .slice KA kn kc] 30)) g D F nm xn xa hn ha h1.out)
    skip
    obtain ⟨E, hE⟩ : ∃ z, z = (trnE D nm xn xa : Int) := ⟨_, rfl⟩
    obtain ⟨C, hC⟩ : ∃ z, z = trn D nm xn xa := ⟨_, rfl⟩
    have eE : (if (11 : Int) < 3 then appE D nm bn else if (11 : Int) < 5 then synE D nm else if (11 : Int) = 5 then cutE D nm xn else if (11 : Int) = 6 then renE D nm tn else if (11 : Int) = 7 then remE D nm else if (11 : Int) < 11 then 0 else trnE D nm xn xa) = E := by rw [hE]; rfl
    have eC : (if (11 : Int) < 3 then app D nm bs else if (11 : Int) < 5 then syn D nm else if (11 : Int) = 5 then cut D nm xn else if (11 : Int) = 6 then ren D nm tn else if (11 : Int) = 7 then rem D nm else if (11 : Int) = 8 then crash D keep else if (11 : Int) = 9 then fal D xn keep else if (11 : Int) = 10 then boot D else trn D nm xn xa) = C := by rw [hC]; rfl
    show Calls _ _ _ _ fun e' w' => e' = .returned (.int .i64 (if (11 : Int) < 3 then appE D nm bn else if (11 : Int) < 5 then synE D nm else if (11 : Int) = 5 then cutE D nm xn else if (11 : Int) = 6 then renE D nm tn else if (11 : Int) = 7 then remE D nm else if (11 : Int) < 11 then 0 else trnE D nm xn xa)) ∧ Turns _ w g F (if (11 : Int) < 3 then app D nm bs else if (11 : Int) < 5 then syn D nm else if (11 : Int) = 5 then cut D nm xn else if (11 : Int) = 6 then ren D nm tn else if (11 : Int) = 7 then rem D nm else if (11 : Int) = 8 then crash D keep else if (11 : Int) = 9 then fal D xn keep else if (11 : Int) = 10 then boot D else trn D nm xn xa) w'
    rw [eE, eC]
    rw [← hE, ← hC] at C1
    have HE := Lib.hid hE
    clear BR e e' h0 h12 hE hC eE eC
    go_enter Try.func14, Try.ntmps14
    go_wp2_with (first
      | (go_at_call 22; refine (B1.out _).mono ?_; rintro e2 w2' ⟨rfl, rfl⟩)
      | (go_at_call 43; refine C1.out.mono ?_; rintro e3 w3 ⟨rfl, ht⟩))
    go_ret
    exact ⟨rfl, RepOk.under refRep hb0 ht HL.out⟩

set_option maxRecDepth 100000 in
set_option maxHeartbeats 8000000 in
theorem does_w {R : DRep} (hD : DiskOk R) (w : World) (g : Nat) (D : Dk) (F : Nat → Prop) (x : Dd) (BA KA : Option Addr) (bc kc : Nat) (h : R w g D F) (hB : At w BA x.bs.length x.bs) (hK : IAt w KA x.keep.length x.keep) (hBF : 0 < x.bs.length → InF (fun k => ¬ F k) BA) (hKF : 0 < x.keep.length → InF (fun k => k < w.heap.size ∧ ¬ F k) KA)
    (hk : In64 x.k) (hn : In64 x.n) (ha : In64 x.at_) (hbn : x.bs.length ≤ 140000000000000) (hkn : x.keep.length ≤ 17592186044416) (hkc : x.keep.length ≤ kc) (hkc2 : kc ≤ 9223372036854775807) :
    Calls Try.prog 13 #[pt g, ddv x BA bc KA kc] w fun e w' => e = .returned (.int .i64 (deedE D x)) ∧ Turns R w g F (deedC D x) w' := by
  obtain ⟨k, nm, tn, bs, xn, xa, keep⟩ := x
  unfold deedC deedE ddv
  simp only at *
  obtain ⟨bn, hbl⟩ : ∃ n, bs.length = n := ⟨_, rfl⟩
  obtain ⟨kn, hkl⟩ : ∃ n, keep.length = n := ⟨_, rfl⟩
  rw [hbl] at hB hbn hBF
  rw [hkl] at hK hkn hkc hKF
  simp only [hbl, hkl]
  have HBL := Lib.hid hbl
  have hb0 := (Below.refl w.heap.size w).alloc (Nat.le_refl _) (.cells #[.int .i64 k, .string nm, .string tn, .slice BA bn bc, .int .i64 xn, .int .i64 xa, .slice KA kn kc] 30)
  have h1 := Lib.hid (RepOk.below hD.rep h hb0)
  have HB := Lib.hid (hB.alloc (.cells #[.int .i64 k, .string nm, .string tn, .slice BA bn bc, .int .i64 xn, .int .i64 xa, .slice KA kn kc] 30))
  have HK := Lib.hid (hK.keepB hb0)
  have HKF : 0 < kn → InF (fun kk => kk < (w.alloc (.cells #[.int .i64 k, .string nm, .string tn, .slice BA bn bc, .int .i64 xn, .int .i64 xa, .slice KA kn kc] 30)).heap.size ∧ ¬ F kk) KA := fun h0 a e => ⟨Nat.lt_of_lt_of_le (hKF h0 a e).1 hb0.size, (hKF h0 a e).2⟩
  have HKF2 : 0 < kn → InF (fun k => ¬ F k) KA := fun h0 a e => (hKF h0 a e).2
  have HL := Lib.hid (RepOk.lt hD.rep h)
  have BR := fun V => bring k 12 V (by omega) (by omega)
  have h0 := Int.emod_nonneg k (b := 12) (by omega)
  have h12 := Int.emod_lt_of_pos k (b := 12) (by omega)
  clear h hB hK hKF hbl hkl
  rcases (show k % 12 = 0 ∨ k % 12 = 1 ∨ k % 12 = 2 ∨ k % 12 = 3 ∨ k % 12 = 4 ∨ k % 12 = 5 ∨ k % 12 = 6 ∨ k % 12 = 7 ∨ k % 12 = 8 ∨ k % 12 = 9 ∨ k % 12 = 10 ∨ k % 12 = 11 by omega) with e | e | e | e | e | e | e | e | e | e | e | e
  · have e' : k % 12 = 0 := e
    rw [e'] at BR ⊢
    have B1 := Lib.hid BR
    have C1 := Lib.hid (hD.append (w.alloc (.cells #[.int .i64 k, .string nm, .string tn, .slice BA bn bc, .int .i64 xn, .int .i64 xa, .slice KA kn kc] 30)) g D F nm BA bn bc bs h1.out HB.out hBF hbn)
    rw [HBL.out] at C1
    obtain ⟨E, hE⟩ : ∃ z, z = (appE D nm bn : Int) := ⟨_, rfl⟩
    obtain ⟨C, hC⟩ : ∃ z, z = app D nm bs := ⟨_, rfl⟩
    have eE : (if (0 : Int) < 3 then appE D nm bn else if (0 : Int) < 5 then synE D nm else if (0 : Int) = 5 then cutE D nm xn else if (0 : Int) = 6 then renE D nm tn else if (0 : Int) = 7 then remE D nm else if (0 : Int) < 11 then 0 else trnE D nm xn xa) = E := by rw [hE]; rfl
    have eC : (if (0 : Int) < 3 then app D nm bs else if (0 : Int) < 5 then syn D nm else if (0 : Int) = 5 then cut D nm xn else if (0 : Int) = 6 then ren D nm tn else if (0 : Int) = 7 then rem D nm else if (0 : Int) = 8 then crash D keep else if (0 : Int) = 9 then fal D xn keep else if (0 : Int) = 10 then boot D else trn D nm xn xa) = C := by rw [hC]; rfl
    show Calls _ _ _ _ fun e' w' => e' = .returned (.int .i64 (if (0 : Int) < 3 then appE D nm bn else if (0 : Int) < 5 then synE D nm else if (0 : Int) = 5 then cutE D nm xn else if (0 : Int) = 6 then renE D nm tn else if (0 : Int) = 7 then remE D nm else if (0 : Int) < 11 then 0 else trnE D nm xn xa)) ∧ Turns _ w g F (if (0 : Int) < 3 then app D nm bs else if (0 : Int) < 5 then syn D nm else if (0 : Int) = 5 then cut D nm xn else if (0 : Int) = 6 then ren D nm tn else if (0 : Int) = 7 then rem D nm else if (0 : Int) = 8 then crash D keep else if (0 : Int) = 9 then fal D xn keep else if (0 : Int) = 10 then boot D else trn D nm xn xa) w'
    rw [eE, eC]
    rw [← hE, ← hC] at C1
    have HE := Lib.hid hE
    clear BR e e' h0 h12 hE hC eE eC
    go_enter Try.func13, Try.ntmps13
    go_wp2_with (first
      | (go_at_call 22; refine (B1.out _).mono ?_; rintro e2 w2' ⟨rfl, rfl⟩)
      | (go_at_call 20; refine C1.out.mono ?_; rintro e3 w3 ⟨rfl, ht⟩))
    go_ret
    exact ⟨rfl, RepOk.under hD.rep hb0 ht HL.out⟩
  · have e' : k % 12 = 1 := e
    rw [e'] at BR ⊢
    have B1 := Lib.hid BR
    have C1 := Lib.hid (hD.append (w.alloc (.cells #[.int .i64 k, .string nm, .string tn, .slice BA bn bc, .int .i64 xn, .int .i64 xa, .slice KA kn kc] 30)) g D F nm BA bn bc bs h1.out HB.out hBF hbn)
    rw [HBL.out] at C1
    obtain ⟨E, hE⟩ : ∃ z, z = (appE D nm bn : Int) := ⟨_, rfl⟩
    obtain ⟨C, hC⟩ : ∃ z, z = app D nm bs := ⟨_, rfl⟩
    have eE : (if (1 : Int) < 3 then appE D nm bn else if (1 : Int) < 5 then synE D nm else if (1 : Int) = 5 then cutE D nm xn else if (1 : Int) = 6 then renE D nm tn else if (1 : Int) = 7 then remE D nm else if (1 : Int) < 11 then 0 else trnE D nm xn xa) = E := by rw [hE]; rfl
    have eC : (if (1 : Int) < 3 then app D nm bs else if (1 : Int) < 5 then syn D nm else if (1 : Int) = 5 then cut D nm xn else if (1 : Int) = 6 then ren D nm tn else if (1 : Int) = 7 then rem D nm else if (1 : Int) = 8 then crash D keep else if (1 : Int) = 9 then fal D xn keep else if (1 : Int) = 10 then boot D else trn D nm xn xa) = C := by rw [hC]; rfl
    show Calls _ _ _ _ fun e' w' => e' = .returned (.int .i64 (if (1 : Int) < 3 then appE D nm bn else if (1 : Int) < 5 then synE D nm else if (1 : Int) = 5 then cutE D nm xn else if (1 : Int) = 6 then renE D nm tn else if (1 : Int) = 7 then remE D nm else if (1 : Int) < 11 then 0 else trnE D nm xn xa)) ∧ Turns _ w g F (if (1 : Int) < 3 then app D nm bs else if (1 : Int) < 5 then syn D nm else if (1 : Int) = 5 then cut D nm xn else if (1 : Int) = 6 then ren D nm tn else if (1 : Int) = 7 then rem D nm else if (1 : Int) = 8 then crash D keep else if (1 : Int) = 9 then fal D xn keep else if (1 : Int) = 10 then boot D else trn D nm xn xa) w'
    rw [eE, eC]
    rw [← hE, ← hC] at C1
    have HE := Lib.hid hE
    clear BR e e' h0 h12 hE hC eE eC
    go_enter Try.func13, Try.ntmps13
    go_wp2_with (first
      | (go_at_call 22; refine (B1.out _).mono ?_; rintro e2 w2' ⟨rfl, rfl⟩)
      | (go_at_call 20; refine C1.out.mono ?_; rintro e3 w3 ⟨rfl, ht⟩))
    go_ret
    exact ⟨rfl, RepOk.under hD.rep hb0 ht HL.out⟩
  · have e' : k % 12 = 2 := e
    rw [e'] at BR ⊢
    have B1 := Lib.hid BR
    have C1 := Lib.hid (hD.append (w.alloc (.cells #[.int .i64 k, .string nm, .string tn, .slice BA bn bc, .int .i64 xn, .int .i64 xa, .slice KA kn kc] 30)) g D F nm BA bn bc bs h1.out HB.out hBF hbn)
    rw [HBL.out] at C1
    obtain ⟨E, hE⟩ : ∃ z, z = (appE D nm bn : Int) := ⟨_, rfl⟩
    obtain ⟨C, hC⟩ : ∃ z, z = app D nm bs := ⟨_, rfl⟩
    have eE : (if (2 : Int) < 3 then appE D nm bn else if (2 : Int) < 5 then synE D nm else if (2 : Int) = 5 then cutE D nm xn else if (2 : Int) = 6 then renE D nm tn else if (2 : Int) = 7 then remE D nm else if (2 : Int) < 11 then 0 else trnE D nm xn xa) = E := by rw [hE]; rfl
    have eC : (if (2 : Int) < 3 then app D nm bs else if (2 : Int) < 5 then syn D nm else if (2 : Int) = 5 then cut D nm xn else if (2 : Int) = 6 then ren D nm tn else if (2 : Int) = 7 then rem D nm else if (2 : Int) = 8 then crash D keep else if (2 : Int) = 9 then fal D xn keep else if (2 : Int) = 10 then boot D else trn D nm xn xa) = C := by rw [hC]; rfl
    show Calls _ _ _ _ fun e' w' => e' = .returned (.int .i64 (if (2 : Int) < 3 then appE D nm bn else if (2 : Int) < 5 then synE D nm else if (2 : Int) = 5 then cutE D nm xn else if (2 : Int) = 6 then renE D nm tn else if (2 : Int) = 7 then remE D nm else if (2 : Int) < 11 then 0 else trnE D nm xn xa)) ∧ Turns _ w g F (if (2 : Int) < 3 then app D nm bs else if (2 : Int) < 5 then syn D nm else if (2 : Int) = 5 then cut D nm xn else if (2 : Int) = 6 then ren D nm tn else if (2 : Int) = 7 then rem D nm else if (2 : Int) = 8 then crash D keep else if (2 : Int) = 9 then fal D xn keep else if (2 : Int) = 10 then boot D else trn D nm xn xa) w'
    rw [eE, eC]
    rw [← hE, ← hC] at C1
    have HE := Lib.hid hE
    clear BR e e' h0 h12 hE hC eE eC
    go_enter Try.func13, Try.ntmps13
    go_wp2_with (first
      | (go_at_call 22; refine (B1.out _).mono ?_; rintro e2 w2' ⟨rfl, rfl⟩)
      | (go_at_call 20; refine C1.out.mono ?_; rintro e3 w3 ⟨rfl, ht⟩))
    go_ret
    exact ⟨rfl, RepOk.under hD.rep hb0 ht HL.out⟩
  · have e' : k % 12 = 3 := e
    rw [e'] at BR ⊢
    have B1 := Lib.hid BR
    have C1 := Lib.hid (hD.sync (w.alloc (.cells #[.int .i64 k, .string nm, .string tn, .slice BA bn bc, .int .i64 xn, .int .i64 xa, .slice KA kn kc] 30)) g D F nm h1.out)
    skip
    obtain ⟨E, hE⟩ : ∃ z, z = (synE D nm : Int) := ⟨_, rfl⟩
    obtain ⟨C, hC⟩ : ∃ z, z = syn D nm := ⟨_, rfl⟩
    have eE : (if (3 : Int) < 3 then appE D nm bn else if (3 : Int) < 5 then synE D nm else if (3 : Int) = 5 then cutE D nm xn else if (3 : Int) = 6 then renE D nm tn else if (3 : Int) = 7 then remE D nm else if (3 : Int) < 11 then 0 else trnE D nm xn xa) = E := by rw [hE]; rfl
    have eC : (if (3 : Int) < 3 then app D nm bs else if (3 : Int) < 5 then syn D nm else if (3 : Int) = 5 then cut D nm xn else if (3 : Int) = 6 then ren D nm tn else if (3 : Int) = 7 then rem D nm else if (3 : Int) = 8 then crash D keep else if (3 : Int) = 9 then fal D xn keep else if (3 : Int) = 10 then boot D else trn D nm xn xa) = C := by rw [hC]; rfl
    show Calls _ _ _ _ fun e' w' => e' = .returned (.int .i64 (if (3 : Int) < 3 then appE D nm bn else if (3 : Int) < 5 then synE D nm else if (3 : Int) = 5 then cutE D nm xn else if (3 : Int) = 6 then renE D nm tn else if (3 : Int) = 7 then remE D nm else if (3 : Int) < 11 then 0 else trnE D nm xn xa)) ∧ Turns _ w g F (if (3 : Int) < 3 then app D nm bs else if (3 : Int) < 5 then syn D nm else if (3 : Int) = 5 then cut D nm xn else if (3 : Int) = 6 then ren D nm tn else if (3 : Int) = 7 then rem D nm else if (3 : Int) = 8 then crash D keep else if (3 : Int) = 9 then fal D xn keep else if (3 : Int) = 10 then boot D else trn D nm xn xa) w'
    rw [eE, eC]
    rw [← hE, ← hC] at C1
    have HE := Lib.hid hE
    clear BR e e' h0 h12 hE hC eE eC
    go_enter Try.func13, Try.ntmps13
    go_wp2_with (first
      | (go_at_call 22; refine (B1.out _).mono ?_; rintro e2 w2' ⟨rfl, rfl⟩)
      | (go_at_call 21; refine C1.out.mono ?_; rintro e3 w3 ⟨rfl, ht⟩))
    go_ret
    exact ⟨rfl, RepOk.under hD.rep hb0 ht HL.out⟩
  · have e' : k % 12 = 4 := e
    rw [e'] at BR ⊢
    have B1 := Lib.hid BR
    have C1 := Lib.hid (hD.sync (w.alloc (.cells #[.int .i64 k, .string nm, .string tn, .slice BA bn bc, .int .i64 xn, .int .i64 xa, .slice KA kn kc] 30)) g D F nm h1.out)
    skip
    obtain ⟨E, hE⟩ : ∃ z, z = (synE D nm : Int) := ⟨_, rfl⟩
    obtain ⟨C, hC⟩ : ∃ z, z = syn D nm := ⟨_, rfl⟩
    have eE : (if (4 : Int) < 3 then appE D nm bn else if (4 : Int) < 5 then synE D nm else if (4 : Int) = 5 then cutE D nm xn else if (4 : Int) = 6 then renE D nm tn else if (4 : Int) = 7 then remE D nm else if (4 : Int) < 11 then 0 else trnE D nm xn xa) = E := by rw [hE]; rfl
    have eC : (if (4 : Int) < 3 then app D nm bs else if (4 : Int) < 5 then syn D nm else if (4 : Int) = 5 then cut D nm xn else if (4 : Int) = 6 then ren D nm tn else if (4 : Int) = 7 then rem D nm else if (4 : Int) = 8 then crash D keep else if (4 : Int) = 9 then fal D xn keep else if (4 : Int) = 10 then boot D else trn D nm xn xa) = C := by rw [hC]; rfl
    show Calls _ _ _ _ fun e' w' => e' = .returned (.int .i64 (if (4 : Int) < 3 then appE D nm bn else if (4 : Int) < 5 then synE D nm else if (4 : Int) = 5 then cutE D nm xn else if (4 : Int) = 6 then renE D nm tn else if (4 : Int) = 7 then remE D nm else if (4 : Int) < 11 then 0 else trnE D nm xn xa)) ∧ Turns _ w g F (if (4 : Int) < 3 then app D nm bs else if (4 : Int) < 5 then syn D nm else if (4 : Int) = 5 then cut D nm xn else if (4 : Int) = 6 then ren D nm tn else if (4 : Int) = 7 then rem D nm else if (4 : Int) = 8 then crash D keep else if (4 : Int) = 9 then fal D xn keep else if (4 : Int) = 10 then boot D else trn D nm xn xa) w'
    rw [eE, eC]
    rw [← hE, ← hC] at C1
    have HE := Lib.hid hE
    clear BR e e' h0 h12 hE hC eE eC
    go_enter Try.func13, Try.ntmps13
    go_wp2_with (first
      | (go_at_call 22; refine (B1.out _).mono ?_; rintro e2 w2' ⟨rfl, rfl⟩)
      | (go_at_call 21; refine C1.out.mono ?_; rintro e3 w3 ⟨rfl, ht⟩))
    go_ret
    exact ⟨rfl, RepOk.under hD.rep hb0 ht HL.out⟩
  · have e' : k % 12 = 5 := e
    rw [e'] at BR ⊢
    have B1 := Lib.hid BR
    have C1 := Lib.hid (hD.cut (w.alloc (.cells #[.int .i64 k, .string nm, .string tn, .slice BA bn bc, .int .i64 xn, .int .i64 xa, .slice KA kn kc] 30)) g D F nm xn hn h1.out)
    skip
    obtain ⟨E, hE⟩ : ∃ z, z = (cutE D nm xn : Int) := ⟨_, rfl⟩
    obtain ⟨C, hC⟩ : ∃ z, z = cut D nm xn := ⟨_, rfl⟩
    have eE : (if (5 : Int) < 3 then appE D nm bn else if (5 : Int) < 5 then synE D nm else if (5 : Int) = 5 then cutE D nm xn else if (5 : Int) = 6 then renE D nm tn else if (5 : Int) = 7 then remE D nm else if (5 : Int) < 11 then 0 else trnE D nm xn xa) = E := by rw [hE]; rfl
    have eC : (if (5 : Int) < 3 then app D nm bs else if (5 : Int) < 5 then syn D nm else if (5 : Int) = 5 then cut D nm xn else if (5 : Int) = 6 then ren D nm tn else if (5 : Int) = 7 then rem D nm else if (5 : Int) = 8 then crash D keep else if (5 : Int) = 9 then fal D xn keep else if (5 : Int) = 10 then boot D else trn D nm xn xa) = C := by rw [hC]; rfl
    show Calls _ _ _ _ fun e' w' => e' = .returned (.int .i64 (if (5 : Int) < 3 then appE D nm bn else if (5 : Int) < 5 then synE D nm else if (5 : Int) = 5 then cutE D nm xn else if (5 : Int) = 6 then renE D nm tn else if (5 : Int) = 7 then remE D nm else if (5 : Int) < 11 then 0 else trnE D nm xn xa)) ∧ Turns _ w g F (if (5 : Int) < 3 then app D nm bs else if (5 : Int) < 5 then syn D nm else if (5 : Int) = 5 then cut D nm xn else if (5 : Int) = 6 then ren D nm tn else if (5 : Int) = 7 then rem D nm else if (5 : Int) = 8 then crash D keep else if (5 : Int) = 9 then fal D xn keep else if (5 : Int) = 10 then boot D else trn D nm xn xa) w'
    rw [eE, eC]
    rw [← hE, ← hC] at C1
    have HE := Lib.hid hE
    clear BR e e' h0 h12 hE hC eE eC
    go_enter Try.func13, Try.ntmps13
    go_wp2_with (first
      | (go_at_call 22; refine (B1.out _).mono ?_; rintro e2 w2' ⟨rfl, rfl⟩)
      | (go_at_call 29; refine C1.out.mono ?_; rintro e3 w3 ⟨rfl, ht⟩))
    go_ret
    exact ⟨rfl, RepOk.under hD.rep hb0 ht HL.out⟩
  · have e' : k % 12 = 6 := e
    rw [e'] at BR ⊢
    have B1 := Lib.hid BR
    have C1 := Lib.hid (hD.rename (w.alloc (.cells #[.int .i64 k, .string nm, .string tn, .slice BA bn bc, .int .i64 xn, .int .i64 xa, .slice KA kn kc] 30)) g D F nm tn h1.out)
    skip
    obtain ⟨E, hE⟩ : ∃ z, z = (renE D nm tn : Int) := ⟨_, rfl⟩
    obtain ⟨C, hC⟩ : ∃ z, z = ren D nm tn := ⟨_, rfl⟩
    have eE : (if (6 : Int) < 3 then appE D nm bn else if (6 : Int) < 5 then synE D nm else if (6 : Int) = 5 then cutE D nm xn else if (6 : Int) = 6 then renE D nm tn else if (6 : Int) = 7 then remE D nm else if (6 : Int) < 11 then 0 else trnE D nm xn xa) = E := by rw [hE]; rfl
    have eC : (if (6 : Int) < 3 then app D nm bs else if (6 : Int) < 5 then syn D nm else if (6 : Int) = 5 then cut D nm xn else if (6 : Int) = 6 then ren D nm tn else if (6 : Int) = 7 then rem D nm else if (6 : Int) = 8 then crash D keep else if (6 : Int) = 9 then fal D xn keep else if (6 : Int) = 10 then boot D else trn D nm xn xa) = C := by rw [hC]; rfl
    show Calls _ _ _ _ fun e' w' => e' = .returned (.int .i64 (if (6 : Int) < 3 then appE D nm bn else if (6 : Int) < 5 then synE D nm else if (6 : Int) = 5 then cutE D nm xn else if (6 : Int) = 6 then renE D nm tn else if (6 : Int) = 7 then remE D nm else if (6 : Int) < 11 then 0 else trnE D nm xn xa)) ∧ Turns _ w g F (if (6 : Int) < 3 then app D nm bs else if (6 : Int) < 5 then syn D nm else if (6 : Int) = 5 then cut D nm xn else if (6 : Int) = 6 then ren D nm tn else if (6 : Int) = 7 then rem D nm else if (6 : Int) = 8 then crash D keep else if (6 : Int) = 9 then fal D xn keep else if (6 : Int) = 10 then boot D else trn D nm xn xa) w'
    rw [eE, eC]
    rw [← hE, ← hC] at C1
    have HE := Lib.hid hE
    clear BR e e' h0 h12 hE hC eE eC
    go_enter Try.func13, Try.ntmps13
    go_wp2_with (first
      | (go_at_call 22; refine (B1.out _).mono ?_; rintro e2 w2' ⟨rfl, rfl⟩)
      | (go_at_call 31; refine C1.out.mono ?_; rintro e3 w3 ⟨rfl, ht⟩))
    go_ret
    exact ⟨rfl, RepOk.under hD.rep hb0 ht HL.out⟩
  · have e' : k % 12 = 7 := e
    rw [e'] at BR ⊢
    have B1 := Lib.hid BR
    have C1 := Lib.hid (hD.remove (w.alloc (.cells #[.int .i64 k, .string nm, .string tn, .slice BA bn bc, .int .i64 xn, .int .i64 xa, .slice KA kn kc] 30)) g D F nm h1.out)
    skip
    obtain ⟨E, hE⟩ : ∃ z, z = (remE D nm : Int) := ⟨_, rfl⟩
    obtain ⟨C, hC⟩ : ∃ z, z = rem D nm := ⟨_, rfl⟩
    have eE : (if (7 : Int) < 3 then appE D nm bn else if (7 : Int) < 5 then synE D nm else if (7 : Int) = 5 then cutE D nm xn else if (7 : Int) = 6 then renE D nm tn else if (7 : Int) = 7 then remE D nm else if (7 : Int) < 11 then 0 else trnE D nm xn xa) = E := by rw [hE]; rfl
    have eC : (if (7 : Int) < 3 then app D nm bs else if (7 : Int) < 5 then syn D nm else if (7 : Int) = 5 then cut D nm xn else if (7 : Int) = 6 then ren D nm tn else if (7 : Int) = 7 then rem D nm else if (7 : Int) = 8 then crash D keep else if (7 : Int) = 9 then fal D xn keep else if (7 : Int) = 10 then boot D else trn D nm xn xa) = C := by rw [hC]; rfl
    show Calls _ _ _ _ fun e' w' => e' = .returned (.int .i64 (if (7 : Int) < 3 then appE D nm bn else if (7 : Int) < 5 then synE D nm else if (7 : Int) = 5 then cutE D nm xn else if (7 : Int) = 6 then renE D nm tn else if (7 : Int) = 7 then remE D nm else if (7 : Int) < 11 then 0 else trnE D nm xn xa)) ∧ Turns _ w g F (if (7 : Int) < 3 then app D nm bs else if (7 : Int) < 5 then syn D nm else if (7 : Int) = 5 then cut D nm xn else if (7 : Int) = 6 then ren D nm tn else if (7 : Int) = 7 then rem D nm else if (7 : Int) = 8 then crash D keep else if (7 : Int) = 9 then fal D xn keep else if (7 : Int) = 10 then boot D else trn D nm xn xa) w'
    rw [eE, eC]
    rw [← hE, ← hC] at C1
    have HE := Lib.hid hE
    clear BR e e' h0 h12 hE hC eE eC
    go_enter Try.func13, Try.ntmps13
    go_wp2_with (first
      | (go_at_call 22; refine (B1.out _).mono ?_; rintro e2 w2' ⟨rfl, rfl⟩)
      | (go_at_call 33; refine C1.out.mono ?_; rintro e3 w3 ⟨rfl, ht⟩))
    go_ret
    exact ⟨rfl, RepOk.under hD.rep hb0 ht HL.out⟩
  · have e' : k % 12 = 8 := e
    rw [e'] at BR ⊢
    have B1 := Lib.hid BR
    have C1 := Lib.hid (hD.crash (w.alloc (.cells #[.int .i64 k, .string nm, .string tn, .slice BA bn bc, .int .i64 xn, .int .i64 xa, .slice KA kn kc] 30)) g D F KA kn kc keep h1.out HK.out HKF hkc hkc2)
    skip
    obtain ⟨E, hE⟩ : ∃ z, z = (0 : Int) := ⟨_, rfl⟩
    obtain ⟨C, hC⟩ : ∃ z, z = crash D keep := ⟨_, rfl⟩
    have eE : (if (8 : Int) < 3 then appE D nm bn else if (8 : Int) < 5 then synE D nm else if (8 : Int) = 5 then cutE D nm xn else if (8 : Int) = 6 then renE D nm tn else if (8 : Int) = 7 then remE D nm else if (8 : Int) < 11 then 0 else trnE D nm xn xa) = E := by rw [hE]; rfl
    have eC : (if (8 : Int) < 3 then app D nm bs else if (8 : Int) < 5 then syn D nm else if (8 : Int) = 5 then cut D nm xn else if (8 : Int) = 6 then ren D nm tn else if (8 : Int) = 7 then rem D nm else if (8 : Int) = 8 then crash D keep else if (8 : Int) = 9 then fal D xn keep else if (8 : Int) = 10 then boot D else trn D nm xn xa) = C := by rw [hC]; rfl
    show Calls _ _ _ _ fun e' w' => e' = .returned (.int .i64 (if (8 : Int) < 3 then appE D nm bn else if (8 : Int) < 5 then synE D nm else if (8 : Int) = 5 then cutE D nm xn else if (8 : Int) = 6 then renE D nm tn else if (8 : Int) = 7 then remE D nm else if (8 : Int) < 11 then 0 else trnE D nm xn xa)) ∧ Turns _ w g F (if (8 : Int) < 3 then app D nm bs else if (8 : Int) < 5 then syn D nm else if (8 : Int) = 5 then cut D nm xn else if (8 : Int) = 6 then ren D nm tn else if (8 : Int) = 7 then rem D nm else if (8 : Int) = 8 then crash D keep else if (8 : Int) = 9 then fal D xn keep else if (8 : Int) = 10 then boot D else trn D nm xn xa) w'
    rw [eE, eC]
    rw [← hC] at C1
    have HE := Lib.hid hE
    clear BR e e' h0 h12 hE hC eE eC
    go_enter Try.func13, Try.ntmps13
    go_wp2_with (first
      | (go_at_call 22; refine (B1.out _).mono ?_; rintro e2 w2' ⟨rfl, rfl⟩)
      | (go_at_call 23; refine C1.out.mono ?_; rintro e3 w3 ⟨rfl, ht⟩))
    go_ret
    exact ⟨by rw [HE.out]; rfl, RepOk.under hD.rep hb0 ht HL.out⟩
  · have e' : k % 12 = 9 := e
    rw [e'] at BR ⊢
    have B1 := Lib.hid BR
    have C1 := Lib.hid (hD.fail (w.alloc (.cells #[.int .i64 k, .string nm, .string tn, .slice BA bn bc, .int .i64 xn, .int .i64 xa, .slice KA kn kc] 30)) g D F xn KA kn kc keep hn.1 hn.2 h1.out HK.out HKF2 hkn hkc)
    skip
    obtain ⟨E, hE⟩ : ∃ z, z = (0 : Int) := ⟨_, rfl⟩
    obtain ⟨C, hC⟩ : ∃ z, z = fal D xn keep := ⟨_, rfl⟩
    have eE : (if (9 : Int) < 3 then appE D nm bn else if (9 : Int) < 5 then synE D nm else if (9 : Int) = 5 then cutE D nm xn else if (9 : Int) = 6 then renE D nm tn else if (9 : Int) = 7 then remE D nm else if (9 : Int) < 11 then 0 else trnE D nm xn xa) = E := by rw [hE]; rfl
    have eC : (if (9 : Int) < 3 then app D nm bs else if (9 : Int) < 5 then syn D nm else if (9 : Int) = 5 then cut D nm xn else if (9 : Int) = 6 then ren D nm tn else if (9 : Int) = 7 then rem D nm else if (9 : Int) = 8 then crash D keep else if (9 : Int) = 9 then fal D xn keep else if (9 : Int) = 10 then boot D else trn D nm xn xa) = C := by rw [hC]; rfl
    show Calls _ _ _ _ fun e' w' => e' = .returned (.int .i64 (if (9 : Int) < 3 then appE D nm bn else if (9 : Int) < 5 then synE D nm else if (9 : Int) = 5 then cutE D nm xn else if (9 : Int) = 6 then renE D nm tn else if (9 : Int) = 7 then remE D nm else if (9 : Int) < 11 then 0 else trnE D nm xn xa)) ∧ Turns _ w g F (if (9 : Int) < 3 then app D nm bs else if (9 : Int) < 5 then syn D nm else if (9 : Int) = 5 then cut D nm xn else if (9 : Int) = 6 then ren D nm tn else if (9 : Int) = 7 then rem D nm else if (9 : Int) = 8 then crash D keep else if (9 : Int) = 9 then fal D xn keep else if (9 : Int) = 10 then boot D else trn D nm xn xa) w'
    rw [eE, eC]
    rw [← hC] at C1
    have HE := Lib.hid hE
    clear BR e e' h0 h12 hE hC eE eC
    go_enter Try.func13, Try.ntmps13
    go_wp2_with (first
      | (go_at_call 22; refine (B1.out _).mono ?_; rintro e2 w2' ⟨rfl, rfl⟩)
      | (go_at_call 30; refine C1.out.mono ?_; rintro e3 w3 ⟨rfl, ht⟩))
    go_ret
    exact ⟨by rw [HE.out]; rfl, RepOk.under hD.rep hb0 ht HL.out⟩
  · have e' : k % 12 = 10 := e
    rw [e'] at BR ⊢
    have B1 := Lib.hid BR
    have C1 := Lib.hid (hD.boot (w.alloc (.cells #[.int .i64 k, .string nm, .string tn, .slice BA bn bc, .int .i64 xn, .int .i64 xa, .slice KA kn kc] 30)) g D F h1.out)
    skip
    obtain ⟨E, hE⟩ : ∃ z, z = (0 : Int) := ⟨_, rfl⟩
    obtain ⟨C, hC⟩ : ∃ z, z = boot D := ⟨_, rfl⟩
    have eE : (if (10 : Int) < 3 then appE D nm bn else if (10 : Int) < 5 then synE D nm else if (10 : Int) = 5 then cutE D nm xn else if (10 : Int) = 6 then renE D nm tn else if (10 : Int) = 7 then remE D nm else if (10 : Int) < 11 then 0 else trnE D nm xn xa) = E := by rw [hE]; rfl
    have eC : (if (10 : Int) < 3 then app D nm bs else if (10 : Int) < 5 then syn D nm else if (10 : Int) = 5 then cut D nm xn else if (10 : Int) = 6 then ren D nm tn else if (10 : Int) = 7 then rem D nm else if (10 : Int) = 8 then crash D keep else if (10 : Int) = 9 then fal D xn keep else if (10 : Int) = 10 then boot D else trn D nm xn xa) = C := by rw [hC]; rfl
    show Calls _ _ _ _ fun e' w' => e' = .returned (.int .i64 (if (10 : Int) < 3 then appE D nm bn else if (10 : Int) < 5 then synE D nm else if (10 : Int) = 5 then cutE D nm xn else if (10 : Int) = 6 then renE D nm tn else if (10 : Int) = 7 then remE D nm else if (10 : Int) < 11 then 0 else trnE D nm xn xa)) ∧ Turns _ w g F (if (10 : Int) < 3 then app D nm bs else if (10 : Int) < 5 then syn D nm else if (10 : Int) = 5 then cut D nm xn else if (10 : Int) = 6 then ren D nm tn else if (10 : Int) = 7 then rem D nm else if (10 : Int) = 8 then crash D keep else if (10 : Int) = 9 then fal D xn keep else if (10 : Int) = 10 then boot D else trn D nm xn xa) w'
    rw [eE, eC]
    rw [← hC] at C1
    have HE := Lib.hid hE
    clear BR e e' h0 h12 hE hC eE eC
    go_enter Try.func13, Try.ntmps13
    go_wp2_with (first
      | (go_at_call 22; refine (B1.out _).mono ?_; rintro e2 w2' ⟨rfl, rfl⟩)
      | (go_at_call 24; refine C1.out.mono ?_; rintro e3 w3 ⟨rfl, ht⟩))
    go_ret
    exact ⟨by rw [HE.out]; rfl, RepOk.under hD.rep hb0 ht HL.out⟩
  · have e' : k % 12 = 11 := e
    rw [e'] at BR ⊢
    have B1 := Lib.hid BR
    have C1 := Lib.hid (hD.turn (w.alloc (.cells #[.int .i64 k, .string nm, .string tn, .slice BA bn bc, .int .i64 xn, .int .i64 xa, .slice KA kn kc] 30)) g D F nm xn xa hn ha h1.out)
    skip
    obtain ⟨E, hE⟩ : ∃ z, z = (trnE D nm xn xa : Int) := ⟨_, rfl⟩
    obtain ⟨C, hC⟩ : ∃ z, z = trn D nm xn xa := ⟨_, rfl⟩
    have eE : (if (11 : Int) < 3 then appE D nm bn else if (11 : Int) < 5 then synE D nm else if (11 : Int) = 5 then cutE D nm xn else if (11 : Int) = 6 then renE D nm tn else if (11 : Int) = 7 then remE D nm else if (11 : Int) < 11 then 0 else trnE D nm xn xa) = E := by rw [hE]; rfl
    have eC : (if (11 : Int) < 3 then app D nm bs else if (11 : Int) < 5 then syn D nm else if (11 : Int) = 5 then cut D nm xn else if (11 : Int) = 6 then ren D nm tn else if (11 : Int) = 7 then rem D nm else if (11 : Int) = 8 then crash D keep else if (11 : Int) = 9 then fal D xn keep else if (11 : Int) = 10 then boot D else trn D nm xn xa) = C := by rw [hC]; rfl
    show Calls _ _ _ _ fun e' w' => e' = .returned (.int .i64 (if (11 : Int) < 3 then appE D nm bn else if (11 : Int) < 5 then synE D nm else if (11 : Int) = 5 then cutE D nm xn else if (11 : Int) = 6 then renE D nm tn else if (11 : Int) = 7 then remE D nm else if (11 : Int) < 11 then 0 else trnE D nm xn xa)) ∧ Turns _ w g F (if (11 : Int) < 3 then app D nm bs else if (11 : Int) < 5 then syn D nm else if (11 : Int) = 5 then cut D nm xn else if (11 : Int) = 6 then ren D nm tn else if (11 : Int) = 7 then rem D nm else if (11 : Int) = 8 then crash D keep else if (11 : Int) = 9 then fal D xn keep else if (11 : Int) = 10 then boot D else trn D nm xn xa) w'
    rw [eE, eC]
    rw [← hE, ← hC] at C1
    have HE := Lib.hid hE
    clear BR e e' h0 h12 hE hC eE eC
    go_enter Try.func13, Try.ntmps13
    go_wp2_with (first
      | (go_at_call 22; refine (B1.out _).mono ?_; rintro e2 w2' ⟨rfl, rfl⟩)
      | (go_at_call 34; refine C1.out.mono ?_; rintro e3 w3 ⟨rfl, ht⟩))
    go_ret
    exact ⟨rfl, RepOk.under hD.rep hb0 ht HL.out⟩
end Go.Proofs.Ytkhalpajomammaa
