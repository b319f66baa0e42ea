/-
  Layer 7: the code's disk in a walk of its own: each call takes it one step further.
-/
import Derived.Test.YtkhalpajomammaaDHas
set_option linter.unusedVariables false
namespace Go.Proofs.Ytkhalpajomammaa
open Go.RowKit

section
variable {R : DRep} {w V V' : World} {g : Nat} {D D' : Dk}
theorem DOwn.bel (h : DOwn R w g D V) : Below w.heap.size w V := by obtain ⟨F, _, _, hb⟩ := h; exact hb
theorem DOwn.ok (hD : DiskOk R) (h : DOwn R w g D V) : D.ok := by obtain ⟨F, h, _, _⟩ := h; exact hD.ok h
theorem DOwn.drewN (hD : DiskOk R) (h : DOwn R w g D V) (n : Nat) : DOwn R w g D (V.drewN n) := h.keep hD (below_drewN (Below.refl _ _) n)
theorem DOwn.alloc (hD : DiskOk R) (h : DOwn R w g D V) (o : Obj) : DOwn R w g D (V.alloc o) := h.keep hD ((Below.refl _ _).alloc (Nat.le_refl _) o)
theorem DOwn.new_ (hD : DiskOk R) (hb : Below w.heap.size w V) : Calls Try.prog 9 #[] V fun e w' => ∃ g, e = .returned (pt g) ∧ w.heap.size ≤ g ∧ DOwn R w g dk0 w' ∧ Below w.heap.size w w' :=
  (hD.new V).mono fun e w' ⟨g, he, hg, h, hb'⟩ => ⟨g, he, Nat.le_trans hb.size hg, ⟨_, h, fun k hk => Nat.le_trans hb.size hk.1, hb.trans (hb'.mono hb.size)⟩, hb.trans (hb'.mono hb.size)⟩

/-- What is handed in lies elsewhere: it is older than all of this, or younger than the disk. -/
def Away (w V : World) (A : Option Addr) : Prop := ∀ a, A = some a → a.block < w.heap.size ∨ V.heap.size ≤ a.block
theorem Away.old {A : Option Addr} (h : ∀ a, A = some a → a.block < w.heap.size) : Away w V A := fun a e => .inl (h a e)
theorem Away.new_ (q : Nat) (hq : V.heap.size ≤ q) : Away w V (some ⟨q, 0, none⟩) := fun a e => .inr (by injection e with e; subst e; exact hq)
theorem Away.none_ : Away w V none := fun a e => nomatch e
theorem Away.inF {A : Option Addr} {F : Nat → Prop} (hA : Away w V A) (h1 : ∀ k, F k → k < V.heap.size) (h2 : ∀ k, F k → w.heap.size ≤ k) : InF (fun k => ¬ F k) A := fun a e hF => by
  have := h1 _ hF
  have := h2 _ hF
  rcases hA a e with h | h <;> omega

theorem DOwn.append (hD : DiskOk R) (h : DOwn R w g D V) (hb : Below V.heap.size V V') (nm : ByteArray) {XA : Option Addr} {xn : Nat} (xc : Nat) {xs : List UInt8} (hx : At V' XA xn xs) (hA : 0 < xn → Away w V XA) (hn : xn ≤ 140000000000000) :
    Calls Try.prog 20 #[pt g, .string nm, .slice XA xn xc] V' fun e w' => e = .returned (.int .i64 (appE D nm xs.length)) ∧ DOwn R w g (app D nm xs) w' := by
  obtain ⟨F, h1, h2, h3⟩ := h
  exact (hD.append V' g D F nm XA xn xc xs (hD.below h1 hb) hx (fun h0 => (hA h0).inF (hD.lt h1) h2) hn).mono fun e w' hh => ⟨hh.1, DOwn.turn h2 (h3.trans (hb.mono h3.size)) hh.2⟩
theorem DOwn.sync (hD : DiskOk R) (h : DOwn R w g D V) (nm : ByteArray) :
    Calls Try.prog 21 #[pt g, .string nm] V fun e w' => e = .returned (.int .i64 (synE D nm)) ∧ DOwn R w g (syn D nm) w' := by
  obtain ⟨F, h1, h2, h3⟩ := h
  exact (hD.sync V g D F nm h1).mono fun e w' hh => ⟨hh.1, DOwn.turn h2 h3 hh.2⟩
theorem DOwn.cut (hD : DiskOk R) (h : DOwn R w g D V) (nm : ByteArray) (k : Int) (hk : -9223372036854775808 ≤ k ∧ k ≤ 9223372036854775807) :
    Calls Try.prog 29 #[pt g, .string nm, .int .i64 k] V fun e w' => e = .returned (.int .i64 (cutE D nm k)) ∧ DOwn R w g (Go.Proofs.Ytkhalpajomammaa.cut D nm k) w' := by
  obtain ⟨F, h1, h2, h3⟩ := h
  exact (hD.cut V g D F nm k hk h1).mono fun e w' hh => ⟨hh.1, DOwn.turn h2 h3 hh.2⟩
theorem DOwn.rename (hD : DiskOk R) (h : DOwn R w g D V) (nm t : ByteArray) :
    Calls Try.prog 31 #[pt g, .string nm, .string t] V fun e w' => e = .returned (.int .i64 (renE D nm t)) ∧ DOwn R w g (ren D nm t) w' := by
  obtain ⟨F, h1, h2, h3⟩ := h
  exact (hD.rename V g D F nm t h1).mono fun e w' hh => ⟨hh.1, DOwn.turn h2 h3 hh.2⟩
theorem DOwn.remove (hD : DiskOk R) (h : DOwn R w g D V) (nm : ByteArray) :
    Calls Try.prog 33 #[pt g, .string nm] V fun e w' => e = .returned (.int .i64 (remE D nm)) ∧ DOwn R w g (rem D nm) w' := by
  obtain ⟨F, h1, h2, h3⟩ := h
  exact (hD.remove V g D F nm h1).mono fun e w' hh => ⟨hh.1, DOwn.turn h2 h3 hh.2⟩
theorem DOwn.crash (hD : DiskOk R) (h : DOwn R w g D V) (hb : Below V.heap.size V V') {A : Option Addr} {n c : Nat} {keep : List Int} (hK : IAt V' A n keep) (hA : 0 < n → Away w V A) (hl : 0 < n → ∀ a, A = some a → a.block < V'.heap.size) (hnc : n ≤ c) (hc : c ≤ 9223372036854775807) :
    Calls Try.prog 23 #[pt g, .slice A n c] V' fun e w' => e = .returned (.tuple #[]) ∧ DOwn R w g (Go.Proofs.Ytkhalpajomammaa.crash D keep) w' := by
  obtain ⟨F, h1, h2, h3⟩ := h
  exact (hD.crash V' g D F A n c keep (hD.below h1 hb) hK (fun h0 a e => ⟨hl h0 a e, (hA h0).inF (hD.lt h1) h2 a e⟩) hnc hc).mono fun e w' hh => ⟨hh.1, DOwn.turn h2 (h3.trans (hb.mono h3.size)) hh.2⟩
theorem DOwn.fail (hD : DiskOk R) (h : DOwn R w g D V) (hb : Below V.heap.size V V') (k : Int) {A : Option Addr} {n : Nat} (c : Nat) {keep : List Int} (hk : -9223372036854775808 ≤ k ∧ k ≤ 9223372036854775807) (hK : IAt V' A n keep) (hA : 0 < n → Away w V A) (hn : n ≤ 17592186044416) (hnc : n ≤ c) :
    Calls Try.prog 30 #[pt g, .int .i64 k, .slice A n c] V' fun e w' => e = .returned (.tuple #[]) ∧ DOwn R w g (fal D k keep) w' := by
  obtain ⟨F, h1, h2, h3⟩ := h
  exact (hD.fail V' g D F k A n c keep hk.1 hk.2 (hD.below h1 hb) hK (fun h0 => (hA h0).inF (hD.lt h1) h2) hn hnc).mono fun e w' hh => ⟨hh.1, DOwn.turn h2 (h3.trans (hb.mono h3.size)) hh.2⟩
theorem DOwn.boot (hD : DiskOk R) (h : DOwn R w g D V) :
    Calls Try.prog 24 #[pt g] V fun e w' => e = .returned (.tuple #[]) ∧ DOwn R w g (Go.Proofs.Ytkhalpajomammaa.boot D) w' := by
  obtain ⟨F, h1, h2, h3⟩ := h
  exact (hD.boot V g D F h1).mono fun e w' hh => ⟨hh.1, DOwn.turn h2 h3 hh.2⟩
theorem DOwn.turn_ (hD : DiskOk R) (h : DOwn R w g D V) (nm : ByteArray) (i b : Int) (hi : -9223372036854775808 ≤ i ∧ i ≤ 9223372036854775807) (hb : -9223372036854775808 ≤ b ∧ b ≤ 9223372036854775807) :
    Calls Try.prog 34 #[pt g, .string nm, .int .i64 i, .int .i64 b] V fun e w' => e = .returned (.int .i64 (trnE D nm i b)) ∧ DOwn R w g (trn D nm i b) w' := by
  obtain ⟨F, h1, h2, h3⟩ := h
  exact (hD.turn V g D F nm i b hi hb h1).mono fun e w' hh => ⟨hh.1, DOwn.turn h2 h3 hh.2⟩
theorem DOwn.read (hD : DiskOk R) (h : DOwn R w g D V) (nm : ByteArray) :
    Calls Try.prog 25 #[pt g, .string nm] V fun e w' => ∃ v, e = .returned (.tuple #[v, .int .i64 (rdE D nm)]) ∧ NewBytes V w' v (rdB D nm) ∧ Below V.heap.size V w' ∧ DOwn R w g D w' := by
  have h' := h
  obtain ⟨F, h1, h2, h3⟩ := h'
  exact (hD.read V g D F nm h1).mono fun e w' ⟨v, he, hv, hb⟩ => ⟨v, he, hv, hb, h.keep hD hb⟩
theorem DOwn.size (hD : DiskOk R) (h : DOwn R w g D V) (nm : ByteArray) :
    Calls Try.prog 26 #[pt g, .string nm] V fun e w' => e = .returned (.tuple #[.int .i64 ((rdB D nm).length : Nat), .int .i64 (rdE D nm)]) ∧ Below V.heap.size V w' ∧ DOwn R w g D w' := by
  have h' := h
  obtain ⟨F, h1, h2, h3⟩ := h'
  exact (hD.size V g D F nm h1).mono fun e w' ⟨he, hb⟩ => ⟨he, hb, h.keep hD hb⟩
theorem DOwn.names (hD : DiskOk R) (h : DOwn R w g D V) :
    Calls Try.prog 27 #[pt g] V fun e w' => ∃ A c, e = .returned (.slice A (nms D).length c) ∧ TAt w' A (nms D).length (nms D) ∧ (nms D).length ≤ c ∧ c ≤ 9223372036854775807 ∧ Below V.heap.size V w' ∧ DOwn R w g D w' := by
  have h' := h
  obtain ⟨F, h1, h2, h3⟩ := h'
  exact (hD.names V g D F h1).mono fun e w' ⟨A, c, he, ht, hc, hcm, hb⟩ => ⟨A, c, he, ht, hc, hcm, hb, h.keep hD hb⟩
theorem DOwn.dead (hD : DiskOk R) (h : DOwn R w g D V) :
    Calls Try.prog 15 #[pt g] V fun e w' => e = .returned (.bool D.dead) ∧ Below V.heap.size V w' ∧ DOwn R w g D w' := by
  have h' := h
  obtain ⟨F, h1, h2, h3⟩ := h'
  exact (hD.dead V g D F h1).mono fun e w' ⟨he, hb⟩ => ⟨he, hb, h.keep hD hb⟩
theorem DOwn.has (hD : DiskOk R) (h : DOwn R w g D V) (hb : Below V.heap.size V V') (nm : ByteArray) {A : Option Addr} {n : Nat} (c : Nat) {xs : List UInt8} (hx : At V' A n xs) :
    Calls Try.prog 28 #[pt g, .string nm, .slice A n c] V' fun e w' => e = .returned (.bool (rdE D nm == 0 && rdB D nm == xs)) ∧ Below V'.heap.size V' w' ∧ DOwn R w g D w' := by
  have h' := h.keep hD hb
  have h'' := h'
  obtain ⟨F, h1, h2, h3⟩ := h''
  exact (has_w hD V' g D F nm A n c xs h1 hx).mono fun e w' ⟨he, hb'⟩ => ⟨he, hb', h'.keep hD hb'⟩
theorem DOwn.same_ {gb : Nat} {G : Nat → Prop} (hD : DiskOk R) (h : DOwn R w g D V) (hb : RDk V gb D G) (nm : ByteArray) :
    Calls Try.prog 18 #[pt g, pt gb, .string nm] V fun e w' => e = .returned (.bool true) ∧ Below V.heap.size V w' ∧ DOwn R w g D w' := by
  have h' := h
  obtain ⟨F, h1, h2, h3⟩ := h'
  exact (same_w hD V g gb D F G nm h1 hb).mono fun e w' ⟨he, hb⟩ => ⟨he, hb, h.keep hD hb⟩
end

/-! ### a disk of one file -/
section
variable (f : Fl) (s : ByteArray)
theorem pos_nil : pos [] s = 0 := rfl
theorem isAt_nil : isAt [] s = false := rfl
theorem pos_one : pos [f] f.name = 0 := by unfold pos; rw [List.takeWhile_cons_of_neg (by rw [nl_irr]; decide)]; rfl
theorem isAt_one : isAt [f] f.name = true := by unfold isAt; rw [pos_one]; simp
theorem isAt_other (h : f.name ≠ s) : isAt [f] s = false := by
  unfold isAt
  by_cases h0 : pos [f] s = 0
  · rw [h0]; simpa using h
  · rw [List.getElem?_eq_none (by simp; omega)]
end
theorem pos_one' (s : ByteArray) (bs : List UInt8) (m : Nat) : pos [⟨s, bs, m⟩] s = 0 := pos_one ⟨s, bs, m⟩
theorem isAt_one' (s : ByteArray) (bs : List UInt8) (m : Nat) : isAt [⟨s, bs, m⟩] s = true := isAt_one ⟨s, bs, m⟩
theorem fileAt_one (s : ByteArray) (bs : List UInt8) (m : Nat) : fileAt [⟨s, bs, m⟩] s = ⟨s, bs, m⟩ := by unfold fileAt; rw [isAt_one', pos_one']; rfl
theorem sum_one (f : Fl) : sum [f] = f.bs.length := by unfold sum; simp
theorem app_new (s : ByteArray) (bs : List UInt8) (lf : Int) (kp : List Int) (hs : mayN s = true) (hb : bs.length ≤ 4194304) (hl : lf ≠ 0) :
    app ⟨[], false, lf, kp⟩ s bs = ⟨[⟨s, bs, 0⟩], false, if 0 < lf then lf - 1 else lf, kp⟩ ∧ appE ⟨[], false, lf, kp⟩ s bs.length = 0 := by
  have e0 : sum [] = 0 := rfl
  constructor
  · unfold app work
    simp only [hs, isAt_nil, e0]
    rw [if_neg (by decide), if_neg (by decide), if_neg (by simp; omega), if_neg hl]
    simp [withF, pos_nil, isAt_nil, fileAt]
  · unfold appE workE
    simp only [hs, isAt_nil, e0]
    rw [if_neg (by decide), if_neg (by decide), if_neg (by simp; omega), if_neg hl]
theorem app_one (s : ByteArray) (ys bs : List UInt8) (m : Nat) (lf : Int) (kp : List Int) (hs : mayN s = true) (hb : ys.length + bs.length ≤ 4194304) (hl : lf ≠ 0) :
    app ⟨[⟨s, ys, m⟩], false, lf, kp⟩ s bs = ⟨[⟨s, ys ++ bs, m⟩], false, if 0 < lf then lf - 1 else lf, kp⟩ ∧ appE ⟨[⟨s, ys, m⟩], false, lf, kp⟩ s bs.length = 0 := by
  constructor
  · unfold app work
    simp only [hs, isAt_one', sum_one]
    rw [if_neg (by decide), if_neg (by decide), if_neg (by simp; omega), if_neg hl]
    simp [withF, pos_one', isAt_one', fileAt_one]
  · unfold appE workE
    simp only [hs, isAt_one', sum_one]
    rw [if_neg (by decide), if_neg (by decide), if_neg (by simp; omega), if_neg hl]
theorem syn_one (s : ByteArray) (ys : List UInt8) (m : Nat) (lf : Int) (kp : List Int) (hl : lf ≠ 0) :
    syn ⟨[⟨s, ys, m⟩], false, lf, kp⟩ s = ⟨[⟨s, ys, ys.length⟩], false, if 0 < lf then lf - 1 else lf, kp⟩ ∧ synE ⟨[⟨s, ys, m⟩], false, lf, kp⟩ s = 0 := by
  constructor
  · unfold syn work nmE
    simp [isAt_one', hl, setAt, pos_one', fileAt_one]
  · unfold synE workE nmE
    simp [isAt_one', hl]
theorem cut_one (s : ByteArray) (ys : List UInt8) (m : Nat) (lf : Int) (kp : List Int) (k : Nat) (hk : k ≤ ys.length) (hl : lf ≠ 0) :
    cut ⟨[⟨s, ys, m⟩], false, lf, kp⟩ s k = ⟨[⟨s, ys.take k, min m k⟩], false, if 0 < lf then lf - 1 else lf, kp⟩ ∧ cutE ⟨[⟨s, ys, m⟩], false, lf, kp⟩ s k = 0 := by
  have e : ¬ ((k : Int) < 0 ∨ (ys.length : Int) < k) := by omega
  constructor
  · unfold cut work nmE
    simp only [isAt_one', fileAt_one, setAt, pos_one']
    rw [if_pos (by simp), if_neg e, if_neg hl]
    simp
  · unfold cutE workE nmE
    simp only [isAt_one', fileAt_one]
    rw [if_pos (by simp), if_neg e, if_neg hl]
theorem ren_one (s t : ByteArray) (ys : List UInt8) (m : Nat) (lf : Int) (kp : List Int) (ht : mayN t = true) (hl : lf ≠ 0) :
    ren ⟨[⟨s, ys, m⟩], false, lf, kp⟩ s t = ⟨[⟨t, ys, m⟩], false, if 0 < lf then lf - 1 else lf, kp⟩ ∧ renE ⟨[⟨s, ys, m⟩], false, lf, kp⟩ s t = 0 := by
  constructor
  · unfold ren work nmE
    simp [isAt_one', ht, hl, without, pos_one', withF, pos_nil, isAt_nil, fileAt_one]
  · unfold renE workE nmE
    simp [isAt_one', ht, hl]
theorem rd_one (s : ByteArray) (ys : List UInt8) (m : Nat) (lf : Int) (kp : List Int) :
    rdE ⟨[⟨s, ys, m⟩], false, lf, kp⟩ s = 0 ∧ rdB ⟨[⟨s, ys, m⟩], false, lf, kp⟩ s = ys := by
  constructor
  · unfold rdE nmE; simp [isAt_one']
  · unfold rdB nmE; simp [isAt_one', fileAt_one]
theorem rd_other (f : Fl) (s : ByteArray) (h : f.name ≠ s) (lf : Int) (kp : List Int) : rdE ⟨[f], false, lf, kp⟩ s = 70 := by unfold rdE nmE; simp [isAt_other f s h]
theorem rd_dead (l : List Fl) (s : ByteArray) (lf : Int) (kp : List Int) : rdE ⟨l, true, lf, kp⟩ s = 71 ∧ rdB ⟨l, true, lf, kp⟩ s = [] := ⟨by simp [rdE, nmE], by simp [rdB, nmE]⟩
end Go.Proofs.Ytkhalpajomammaa
