/-
  Layer 7: the chapter's examples ('works').
-/
import Derived.Test.YtamglegdgcehaaaGreatZ09
set_option linter.unusedVariables false
namespace Go.Proofs.YtamglegdgcehaaaGreat
open Go.RowKit

theorem at_new (t : TypeId) (l : List UInt8) (w : World) : At (w.alloc (.cells (l.map bv).toArray t)) (some ⟨w.heap.size, 0, none⟩) l.length l := by
  refine ⟨rfl, fun _ => ⟨_, _, rfl, fun i hi => ?_⟩⟩
  simp [bv, hi]
theorem iat_new (t : TypeId) (l : List Int) (w : World) : IAt (w.alloc (.cells (l.map (Value.int .i64)).toArray t)) (some ⟨w.heap.size, 0, none⟩) l.length l := by
  refine ⟨rfl, fun _ => ⟨_, _, rfl, fun i hi => ?_⟩⟩
  simp [hi]

abbrev nA : ByteArray := ⟨#[97]⟩
abbrev nB : ByteArray := ⟨#[98]⟩
theorem may_a : mayN nA = true := by decide
theorem may_b : mayN nB = true := by decide
def wd (s : ByteArray) (bs : List UInt8) (m : Nat) (d : Bool) (lf : Int) : Dk := ⟨[⟨s, bs, m⟩], d, lf, []⟩
theorem below_alloc (V : World) (o : Obj) : Below V.heap.size V (V.alloc o) := (Below.refl _ _).alloc (Nat.le_refl _) o


section
variable {R : DRep} {w V V' : World} {g : Nat} {D D' : Dk}
theorem DOwn.appendN (hD : DiskOk R) (h : DOwn R w g D V) (nm : ByteArray) (xs : List UInt8) {E : Int} (e : app D nm xs = D' ∧ appE D nm xs.length = E) (hn : xs.length ≤ 140000000000000) (c : Nat) (t : TypeId) :
    Calls Tryz.prog 15 #[pt g, .string nm, .slice (some ⟨V.heap.size, 0, none⟩) xs.length c] (V.alloc (.cells (xs.map bv).toArray t)) fun e w' => e = .returned (.int .i64 E) ∧ DOwn R w g D' w' := by
  have h' := h.append hD (below_alloc V (.cells (xs.map bv).toArray t)) nm c (at_new t xs V) (fun _ => Away.new_ _ (Nat.le_refl _)) hn
  rw [e.1, e.2] at h'
  exact h'
theorem DOwn.syncN (hD : DiskOk R) (h : DOwn R w g D V) (nm : ByteArray) {E : Int} (e : syn D nm = D' ∧ synE D nm = E) :
    Calls Tryz.prog 16 #[pt g, .string nm] V fun e w' => e = .returned (.int .i64 E) ∧ DOwn R w g D' w' := by
  have h' := h.sync hD nm
  rw [e.1, e.2] at h'
  exact h'
theorem DOwn.cutN (hD : DiskOk R) (h : DOwn R w g D V) (nm : ByteArray) (k : Int) (hk : -9223372036854775808 ≤ k ∧ k ≤ 9223372036854775807) {E : Int} (e : Go.Proofs.YtamglegdgcehaaaGreat.cut D nm k = D' ∧ cutE D nm k = E) :
    Calls Tryz.prog 163 #[pt g, .string nm, .int .i64 k] V fun e w' => e = .returned (.int .i64 E) ∧ DOwn R w g D' w' := by
  have h' := h.cut hD nm k hk
  rw [e.1, e.2] at h'
  exact h'
theorem DOwn.renameN (hD : DiskOk R) (h : DOwn R w g D V) (nm t : ByteArray) {E : Int} (e : ren D nm t = D' ∧ renE D nm t = E) :
    Calls Tryz.prog 79 #[pt g, .string nm, .string t] V fun e w' => e = .returned (.int .i64 E) ∧ DOwn R w g D' w' := by
  have h' := h.rename hD nm t
  rw [e.1, e.2] at h'
  exact h'
theorem DOwn.removeN (hD : DiskOk R) (h : DOwn R w g D V) (nm : ByteArray) {E : Int} (e : rem D nm = D' ∧ remE D nm = E) :
    Calls Tryz.prog 81 #[pt g, .string nm] V fun e w' => e = .returned (.int .i64 E) ∧ DOwn R w g D' w' := by
  have h' := h.remove hD nm
  rw [e.1, e.2] at h'
  exact h'
theorem DOwn.crashN (hD : DiskOk R) (h : DOwn R w g D V) (keep : List Int) (e : Go.Proofs.YtamglegdgcehaaaGreat.crash D keep = D') (hn : keep.length ≤ 9223372036854775807) (t : TypeId) :
    Calls Tryz.prog 25 #[pt g, .slice (some ⟨V.heap.size, 0, none⟩) keep.length keep.length] (V.alloc (.cells (keep.map (Value.int .i64)).toArray t)) fun e w' => e = .returned (.tuple #[]) ∧ DOwn R w g D' w' := by
  have h' := h.crash hD (c := keep.length) (below_alloc V (.cells (keep.map (Value.int .i64)).toArray t)) (iat_new t keep V) (fun _ => Away.new_ _ (Nat.le_refl _)) (fun _ a e => by injection e with e; subst e; exact (Array.getElem?_eq_some_iff.1 (heap_alloc_new V _)).1) (Nat.le_refl _) hn
  rw [e] at h'
  exact h'
theorem DOwn.failN (hD : DiskOk R) (h : DOwn R w g D V) (k : Int) (hk : -9223372036854775808 ≤ k ∧ k ≤ 9223372036854775807) (e : fal D k [] = D') (c : Nat) :
    Calls Tryz.prog 24 #[pt g, .int .i64 k, .slice none 0 c] V fun e w' => e = .returned (.tuple #[]) ∧ DOwn R w g D' w' := by
  have h' := h.fail hD (Below.refl _ _) k c hk (IAt.nil V none) (fun _ => Away.none_) (by omega) (by omega)
  rw [e] at h'
  exact h'
theorem DOwn.bootN (hD : DiskOk R) (h : DOwn R w g D V) (e : Go.Proofs.YtamglegdgcehaaaGreat.boot D = D') :
    Calls Tryz.prog 27 #[pt g] V fun e w' => e = .returned (.tuple #[]) ∧ DOwn R w g D' w' := by
  have h' := h.boot hD
  rw [e] at h'
  exact h'
theorem DOwn.readN (hD : DiskOk R) (h : DOwn R w g D V) (nm : ByteArray) {E : Int} (e : rdE D nm = E) :
    Calls Tryz.prog 34 #[pt g, .string nm] V fun e w' => ∃ A n c, e = .returned (.tuple #[.slice A n c, .int .i64 E]) ∧ Below V.heap.size V w' ∧ DOwn R w g D w' := by
  refine (h.read hD nm).mono ?_
  rintro e' w' ⟨v, rfl, hv, hb, h'⟩
  obtain ⟨A, c, rfl, _⟩ := Own.form hv
  rw [e]
  exact ⟨A, _, c, rfl, hb, h'⟩
end
/-- The ways of the chapter's examples. -/
theorem d1 : app dk0 nA [1, 2, 3] = wd nA [1, 2, 3] 0 false (-1) ∧ appE dk0 nA ([1, 2, 3] : List UInt8).length = 0 := app_new nA [1, 2, 3] (-1) [] may_a (by decide) (by decide)
theorem d2 : syn (wd nA [1, 2, 3] 0 false (-1)) nA = wd nA [1, 2, 3] 3 false (-1) ∧ synE (wd nA [1, 2, 3] 0 false (-1)) nA = 0 := syn_one nA [1, 2, 3] 0 (-1) [] (by decide)
theorem d3 : app (wd nA [1, 2, 3] 3 false (-1)) nA [4, 5, 6] = wd nA [1, 2, 3, 4, 5, 6] 3 false (-1) ∧ appE (wd nA [1, 2, 3] 3 false (-1)) nA ([4, 5, 6] : List UInt8).length = 0 := app_one nA [1, 2, 3] [4, 5, 6] 3 (-1) [] may_a (by decide) (by decide)
theorem d4 : crash (wd nA [1, 2, 3, 4, 5, 6] 3 false (-1)) [2] = wd nA [1, 2, 3, 4, 5] 5 true (-1) := rfl
theorem d5 : rdE (wd nA [1, 2, 3, 4, 5] 5 true (-1)) nA = 71 := (rd_dead _ _ _ _).1
theorem d6 : boot (wd nA [1, 2, 3, 4, 5] 5 true (-1)) = wd nA [1, 2, 3, 4, 5] 5 false (-1) := rfl
theorem d7 : (rdE (wd nA [1, 2, 3, 4, 5] 5 false (-1)) nA == 0 && rdB (wd nA [1, 2, 3, 4, 5] 5 false (-1)) nA == [1, 2, 3, 4, 5]) = true := by unfold wd; rw [(rd_one _ _ _ _ _).1, (rd_one _ _ _ _ _).2]; rfl
def df1 : Dk := ⟨[], false, 1, []⟩
theorem f1 : fal dk0 1 [] = df1 := rfl
theorem f2 : app df1 nA [1] = wd nA [1] 0 false 0 ∧ appE df1 nA ([1] : List UInt8).length = 0 := app_new nA [1] 1 [] may_a (by decide) (by decide)
theorem f3 : syn (wd nA [1] 0 false 0) nA = wd nA [] 0 true (-1) ∧ synE (wd nA [1] 0 false 0) nA = 71 := by
  constructor
  · unfold syn work nmE wd; simp [isAt_one']; rfl
  · unfold synE workE nmE wd; simp [isAt_one']
theorem f4 : boot (wd nA [] 0 true (-1)) = wd nA [] 0 false (-1) := rfl
theorem f5 : (rdE (wd nA [] 0 false (-1)) nA == 0 && rdB (wd nA [] 0 false (-1)) nA == []) = true := by unfold wd; rw [(rd_one _ _ _ _ _).1, (rd_one _ _ _ _ _).2]; rfl
theorem g1 : app dk0 nA [1, 2] = wd nA [1, 2] 0 false (-1) ∧ appE dk0 nA ([1, 2] : List UInt8).length = 0 := app_new nA [1, 2] (-1) [] may_a (by decide) (by decide)
theorem g2 : cut (wd nA [1, 2] 0 false (-1)) nA 1 = wd nA [1] 0 false (-1) ∧ cutE (wd nA [1, 2] 0 false (-1)) nA 1 = 0 := cut_one nA [1, 2] 0 (-1) [] 1 (by decide) (by decide)
theorem g3 : ren (wd nA [1] 0 false (-1)) nA nB = wd nB [1] 0 false (-1) ∧ renE (wd nA [1] 0 false (-1)) nA nB = 0 := ren_one nA nB [1] 0 (-1) [] may_b (by decide)
theorem g4 : (rdE (wd nB [1] 0 false (-1)) nB == 0 && rdB (wd nB [1] 0 false (-1)) nB == [1]) = true := by unfold wd; rw [(rd_one _ _ _ _ _).1, (rd_one _ _ _ _ _).2]; rfl
theorem g5 : rdE (wd nB [1] 0 false (-1)) nA = 70 := rd_other _ _ (by decide) _ _

end Go.Proofs.YtamglegdgcehaaaGreat
