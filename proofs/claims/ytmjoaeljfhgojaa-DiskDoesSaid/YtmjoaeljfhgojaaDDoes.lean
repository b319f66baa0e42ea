/-
  DiskDoes: where a round stands behind its two calls; where its two loops stand.
-/
import Derived.Test.YtmjoaeljfhgojaaDTwo
set_option linter.unusedVariables false
namespace Go.Proofs.Ytmjoaeljfhgojaa
open Go.RowKit

theorem u8_succ (x : UInt8) : IntKind.u8.wrap ((x.toNat : Int) + 1) = ((x + 1 : UInt8).toNat : Int) := by
  have h := x.toNat_lt
  rw [UInt8.toNat_add]
  rw [IntKind.wrap_u8]
  simp
/-- Behind does and should: both disks are the same plain one; nothing of theirs lies among the round's own blocks (from B to M). -/
def S8 (R : DRep) (w : World) (B ga gb : Nat) (D : Dk) (M qx qy : Nat) (k n a : Int) (nm tn : ByteArray) (r pl : Nat) (A2 A3 A5 A6 : Option Addr) (c2 c3 c5 c6 : Nat) (eb : List UInt8) (dp : List Int) (V : World) : Prop :=
  ∃ FA GB, R V ga D FA ∧ RDk V gb D GB ∧ (∀ j, FA j → w.heap.size ≤ j ∧ ¬ GB j) ∧ (∀ j, GB j → w.heap.size ≤ j) ∧ (∀ j, B ≤ j → j < M → ¬ FA j ∧ ¬ GB j) ∧ Hv B V qx qy k n a nm tn r pl A2 A3 A5 A6 c2 c3 c5 c6 eb dp ∧ Below w.heap.size w V ∧ M ≤ V.heap.size
@[reducible] def SXY (qx qy : Nat) (k n a : Int) (nm tn : ByteArray) (r pl : Nat) (A2 A3 A5 A6 : Option Addr) (c2 c3 c5 c6 : Nat) (V : World) : Prop :=
  (V.cell? ⟨qx, 0, none⟩ = some (.int .i64 k) ∧ V.cell? ⟨qx, 1, none⟩ = some (.string nm) ∧ V.cell? ⟨qx, 2, none⟩ = some (.string tn) ∧ V.cell? ⟨qx, 3, none⟩ = some (.slice A2 r c2) ∧ V.cell? ⟨qx, 4, none⟩ = some (.int .i64 n) ∧ V.cell? ⟨qx, 5, none⟩ = some (.int .i64 a) ∧ V.cell? ⟨qx, 6, none⟩ = some (.slice A3 pl c3)) ∧
  (V.cell? ⟨qy, 0, none⟩ = some (.int .i64 k) ∧ V.cell? ⟨qy, 1, none⟩ = some (.string nm) ∧ V.cell? ⟨qy, 2, none⟩ = some (.string tn) ∧ V.cell? ⟨qy, 3, none⟩ = some (.slice A5 r c5) ∧ V.cell? ⟨qy, 4, none⟩ = some (.int .i64 n) ∧ V.cell? ⟨qy, 5, none⟩ = some (.int .i64 a) ∧ V.cell? ⟨qy, 6, none⟩ = some (.slice A6 pl c6))
section
variable {R : DRep} {w V V' : World} {B ga gb : Nat} {D D1 : Dk} {M qx qy : Nat} {k n a : Int} {nm tn : ByteArray} {r pl : Nat} {A2 A3 A5 A6 : Option Addr} {c2 c3 c5 c6 : Nat} {eb : List UInt8} {dp : List Int} {F G : Nat → Prop}
theorem Hv.sxy (h : Hv B V qx qy k n a nm tn r pl A2 A3 A5 A6 c2 c3 c5 c6 eb dp) : SXY qx qy k n a nm tn r pl A2 A3 A5 A6 c2 c3 c5 c6 V := ⟨h.bx.dcells, h.by_.dcells⟩
theorem Hv.drew (h : Hv B V qx qy k n a nm tn r pl A2 A3 A5 A6 c2 c3 c5 c6 eb dp) : Hv B V.drew qx qy k n a nm tn r pl A2 A3 A5 A6 c2 c3 c5 c6 eb dp := h.on (Nat.le_refl _) (fun _ _ _ => rfl)
theorem S8.sxy (h : S8 R w B ga gb D M qx qy k n a nm tn r pl A2 A3 A5 A6 c2 c3 c5 c6 eb dp V) : SXY qx qy k n a nm tn r pl A2 A3 A5 A6 c2 c3 c5 c6 V := by obtain ⟨_, _, _, _, _, _, _, h, _⟩ := h; exact h.sxy
theorem S8.below (hD : DiskOk R) (h : S8 R w B ga gb D M qx qy k n a nm tn r pl A2 A3 A5 A6 c2 c3 c5 c6 eb dp V) (hb : Below V.heap.size V V') : S8 R w B ga gb D M qx qy k n a nm tn r pl A2 A3 A5 A6 c2 c3 c5 c6 eb dp V' := by
  obtain ⟨FA, GB, h1, h2, h3, h4, h5, h6, h7, h8⟩ := h
  exact ⟨FA, GB, hD.below h1 hb, h2.below hb, h3, h4, h5, h6.on hb.size (fun j _ hj => hb.block j hj), h7.trans (hb.mono h7.size), Nat.le_trans h8 hb.size⟩
theorem S8.isDead (h : S8 R w B ga gb D M qx qy k n a nm tn r pl A2 A3 A5 A6 c2 c3 c5 c6 eb dp V) : V.cell? ⟨gb, 1, none⟩ = some (.bool D.dead) := by
  obtain ⟨_, _, _, ⟨_, _, _, _, _, _, h⟩, _⟩ := h
  exact h.c1
theorem S8.dead (hD : DiskOk R) (h : S8 R w B ga gb D M qx qy k n a nm tn r pl A2 A3 A5 A6 c2 c3 c5 c6 eb dp V) : Calls Try.prog 15 #[pt ga] V fun e w' => e = .returned (.bool D.dead) ∧ Below V.heap.size V w' := by
  obtain ⟨FA, _, h1, _⟩ := h
  exact hD.dead V ga D FA h1
theorem S8.same (hD : DiskOk R) (h : S8 R w B ga gb D M qx qy k n a nm tn r pl A2 A3 A5 A6 c2 c3 c5 c6 eb dp V) : Calls Try.prog 18 #[pt ga, pt gb, .string nm] V fun e w' => e = .returned (.bool true) ∧ Below V.heap.size V w' := by
  obtain ⟨FA, GB, h1, h2, _⟩ := h
  exact same_w hD V ga gb D FA GB nm h1 h2
theorem S8.eqB (h : S8 R w B ga gb D M qx qy k n a nm tn r pl A2 A3 A5 A6 c2 c3 c5 c6 eb dp V) (hr : r ≤ 9223372036854775807) : Calls Try.prog 16 #[.slice A2 r c2, .slice A5 r c5] V fun e w' => e = .returned (.bool true) ∧ Below V.heap.size V w' := by
  obtain ⟨_, _, _, _, _, _, _, h, _⟩ := h
  refine (eqBytes A2 A5 r r c2 c5 eb eb V h.o2.at_ h.a5 hr).mono ?_
  rintro e w' ⟨rfl, m, rfl⟩
  exact ⟨by simp, below_drewN (Below.refl _ _) m⟩
theorem S8.eqI (h : S8 R w B ga gb D M qx qy k n a nm tn r pl A2 A3 A5 A6 c2 c3 c5 c6 eb dp V) (hp : pl ≤ 9223372036854775807) : Calls Try.prog 17 #[.slice A3 pl c3, .slice A6 pl c6] V fun e w' => e = .returned (.bool true) ∧ Below V.heap.size V w' := by
  obtain ⟨_, _, _, _, _, _, _, h, _⟩ := h
  obtain ⟨A, c, e, h1, _⟩ := h.o3.form
  injection e with e1 e2 e3
  subst e1 e3
  refine (eqInts_same A3 A6 pl c3 c6 dp V (e2 ▸ h1) h.a6 hp).mono ?_
  rintro e w' ⟨rfl, m, rfl⟩
  exact ⟨rfl, below_drewN (Below.refl _ _) m⟩
/-- does. -/
theorem does_r (hD : DiskOk R) (h : Hv B V qx qy k n a nm tn r pl A2 A3 A5 A6 c2 c3 c5 c6 eb dp) (hF : R V ga D F) (hl : ∀ j, F j → j < B) (hk : In64 k) (hn : In64 n) (ha : In64 a) (he : eb.length = r) (hd : dp.length = pl) (hr : r ≤ 2000) (hpl : pl ≤ 17592186044416) (hc3 : pl ≤ c3) (hc3m : c3 ≤ 9223372036854775807) :
    Calls Try.prog 13 #[pt ga, .agg #[.int .i64 k, .string nm, .string tn, .slice A2 r c2, .int .i64 n, .int .i64 a, .slice A3 pl c3]] V fun e w' => e = .returned (.int .i64 (deedE D ⟨k, nm, tn, eb, n, a, dp⟩)) ∧ Turns R V ga F (deedC D ⟨k, nm, tn, eb, n, a, dp⟩) w' := by
  obtain ⟨A, c, e, h1, _⟩ := h.o3.form
  injection e with e1 e2 e3
  subst e1 e3
  have h2 := does_w hD V ga D F ⟨k, nm, tn, eb, n, a, dp⟩ A2 A3 c2 c3 hF (by rw [he]; exact h.o2.at_) h1 (fun _ x ex hx => by have := hl _ hx; have := (h.i2 x ex).1; omega) (fun _ x ex => ⟨(h.i3 x ex).2.1, fun hx => by have := hl _ hx; have := (h.i3 x ex).1; omega⟩) hk hn ha (by show eb.length ≤ _; omega) (by show dp.length ≤ _; omega) (by show dp.length ≤ _; omega) hc3m
  unfold ddv at h2
  simp only [he, hd] at h2
  exact h2
/-- should. -/
theorem should_r (h : Hv B V qx qy k n a nm tn r pl A2 A3 A5 A6 c2 c3 c5 c6 eb dp) (hG : RDk V gb D G) (hl : ∀ j, G j → j < B) (hk : In64 k) (hn : In64 n) (ha : In64 a) (he : eb.length = r) (hd : dp.length = pl) (hr : r ≤ 2000) (hpl : pl ≤ 17592186044416) (hc6 : pl ≤ c6) (hc6m : c6 ≤ 9223372036854775807) :
    Calls Try.prog 14 #[pt gb, .agg #[.int .i64 k, .string nm, .string tn, .slice A5 r c5, .int .i64 n, .int .i64 a, .slice A6 pl c6]] V fun e w' => e = .returned (.int .i64 (deedE D ⟨k, nm, tn, eb, n, a, dp⟩)) ∧ Turns RDk V gb G (deedC D ⟨k, nm, tn, eb, n, a, dp⟩) w' := by
  have h2 := should_ok V gb D G ⟨k, nm, tn, eb, n, a, dp⟩ A5 A6 c5 c6 hG (by rw [he]; exact h.a5) (by rw [hd]; exact h.a6) (fun x ex hx => by have := hl _ hx; have := (h.i5 x ex).1; omega) (fun x ex => ⟨(h.i6 x ex).2, fun hx => by have := hl _ hx; have := (h.i6 x ex).1; omega⟩) hk hn ha (by show eb.length ≤ _; omega) (by show dp.length ≤ _; omega) (by show dp.length ≤ _; omega) hc6m
  unfold ddv at h2
  simp only [he, hd] at h2
  exact h2
/-- Behind does. -/
theorem S7.mk (h : Hv B V qx qy k n a nm tn r pl A2 A3 A5 A6 c2 c3 c5 c6 eb dp) (hb : Below w.heap.size w V) (hG : RDk V gb D G) (hl : ∀ j, F j → j < B) (hw : ∀ j, F j → w.heap.size ≤ j) (hFG : ∀ j, F j → ¬ G j) (ht : Turns R V ga F D1 V') :
    Hv B V' qx qy k n a nm tn r pl A2 A3 A5 A6 c2 c3 c5 c6 eb dp ∧ RDk V' gb D G ∧ Below w.heap.size w V' :=
  ⟨h.on ht.2.size (fun j h1 h2 => ht.2.block j h2 (fun e => by have := hl j e; omega)), hG.on ht.2.size (fun j e => ht.2.block j (hG.lt e) (fun e2 => hFG j e2 e)), ht.2.below hb hb.size hw⟩
/-- Behind should. -/
theorem S8.mk (hD : DiskOk R) {V1 V2 : World} (h : Hv B V1 qx qy k n a nm tn r pl A2 A3 A5 A6 c2 c3 c5 c6 eb dp) (hb : Below w.heap.size w V1) (hB : B ≤ V.heap.size) (hlF : ∀ j, F j → j < B) (hlG : ∀ j, G j → j < B) (hwF : ∀ j, F j → w.heap.size ≤ j) (hwG : ∀ j, G j → w.heap.size ≤ j) (hwB : w.heap.size ≤ B) (hFG : ∀ j, F j → ¬ G j)
    (ht1 : Turns R V ga F D1 V1) (ht2 : Turns RDk V1 gb G D1 V2) : S8 R w B ga gb D1 V.heap.size qx qy k n a nm tn r pl A2 A3 A5 A6 c2 c3 c5 c6 eb dp V2 := by
  refine ⟨nF F V V1, nF G V1 V2, hD.on ht1.1 ht2.2.size (fun j e => ht2.2.block j (hD.lt ht1.1 j e) (fun e2 => ?_)), ht2.1, fun j e => ⟨?_, fun e2 => ?_⟩, fun j e => ?_, fun j h1 h2 => ⟨fun e => ?_, fun e => ?_⟩, h.on ht2.2.size (fun j h1 h2 => ht2.2.block j h2 (fun e => by have := hlG j e; omega)), ht2.2.below hb hb.size hwG, Nat.le_trans ht1.2.size ht2.2.size⟩
  · rcases e with e | e
    · exact hFG j e e2
    · have := hlG j e2
      omega
  · rcases e with e | e
    · exact hwF j e
    · omega
  · rcases e with e | e
    · rcases e2 with e2 | e2
      · exact hFG j e e2
      · have := hlF j e
        have := ht1.2.size
        omega
    · rcases e2 with e2 | e2
      · have := hlG j e2
        omega
      · omega
  · rcases e with e | e
    · exact hwG j e
    · have := ht1.2.size
      omega
  · rcases e with e | e
    · have := hlF j e
      omega
    · omega
  · rcases e with e | e
    · have := hlG j e
      omega
    · have := ht1.2.size
      omega

/-! ### the two loops -/
/-- Where the loops stand: both disks; x's box, its bytes and numbers, which are none of the disks'. -/
def LS (R : DRep) (w : World) (ga gb : Nat) (D : Dk) (qx : Nat) (k n a : Int) (nm tn : ByteArray) (r pl : Nat) (A2 A3 : Option Addr) (c2 c3 : Nat) (V : World) : Prop :=
  ∃ FA GB eb dp, R V ga D FA ∧ RDk V gb D GB ∧ (∀ j, FA j → w.heap.size ≤ j ∧ ¬ GB j) ∧ (∀ j, GB j → w.heap.size ≤ j) ∧ Below w.heap.size w V ∧ Bx V qx 30 (dbx k nm tn (.slice A2 r c2) n a (.slice A3 pl c3)) ∧ Own V w.heap.size (.slice A2 r c2) eb ∧ OwnI V w.heap.size (.slice A3 pl c3) dp ∧ eb.length = r ∧ dp.length = pl ∧ InF (fun j => ¬ FA j ∧ ¬ GB j ∧ j ≠ qx) A2 ∧ InF (fun j => ¬ FA j ∧ ¬ GB j ∧ j ≠ qx) A3
theorem LS.mk (hwB : w.heap.size ≤ B) (h : S8 R w B ga gb D M qx qy k n a nm tn r pl A2 A3 A5 A6 c2 c3 c5 c6 eb dp V) (h2 : InF (fun j => B ≤ j ∧ j < M) A2) (h3 : InF (fun j => B ≤ j ∧ j < M) A3) (he : eb.length = r) (hd : dp.length = pl) : LS R w ga gb D qx k n a nm tn r pl A2 A3 c2 c3 V := by
  obtain ⟨FA, GB, a1, a2, a3, a4, a5, a6, a7, a8⟩ := h
  exact ⟨FA, GB, eb, dp, a1, a2, a3, a4, a7, a6.bx, a6.o2.base hwB, a6.o3.base_ hwB, he, hd, fun x ex => ⟨(a5 _ (h2 x ex).1 (h2 x ex).2).1, (a5 _ (h2 x ex).1 (h2 x ex).2).2, (a6.i2 x ex).2.2⟩, fun x ex => ⟨(a5 _ (h3 x ex).1 (h3 x ex).2).1, (a5 _ (h3 x ex).1 (h3 x ex).2).2, (a6.i3 x ex).2.2⟩⟩
theorem LS.two (h : LS R w ga gb D qx k n a nm tn r pl A2 A3 c2 c3 V) : Two R w ga gb D V := by
  obtain ⟨FA, GB, eb, dp, a1, a2, a3, a4, a5, _⟩ := h
  exact ⟨FA, GB, a1, a2, a3, a4, a5⟩
theorem LS.drewN (hD : DiskOk R) (h : LS R w ga gb D qx k n a nm tn r pl A2 A3 c2 c3 V) (m : Nat) : LS R w ga gb D qx k n a nm tn r pl A2 A3 c2 c3 (V.drewN m) := by
  obtain ⟨FA, GB, eb, dp, a1, a2, a3, a4, a5, a6, a7, a8, a9⟩ := h
  exact ⟨FA, GB, eb, dp, hD.below a1 (below_drewN (Below.refl _ _) m), a2.below (below_drewN (Below.refl _ _) m), a3, a4, below_drewN a5 m, a6, a7, a8, a9⟩
theorem LS.boxes (h : LS R w ga gb D qx k n a nm tn r pl A2 A3 c2 c3 V) : V.cell? ⟨qx, 3, none⟩ = some (.slice A2 r c2) ∧ V.cell? ⟨qx, 6, none⟩ = some (.slice A3 pl c3) := by
  obtain ⟨_, _, _, _, _, _, _, _, _, h, _⟩ := h
  exact ⟨h.cell 3, h.cell 6⟩
/-- A byte of x's is read, and may be written. -/
theorem LS.byte (hD : DiskOk R) (h : LS R w ga gb D qx k n a nm tn r pl A2 A3 c2 c3 V) {i : Nat} (hi : i < r) : ∃ q x, A2 = some ⟨q, 0, none⟩ ∧ V.cell? ⟨q, i, none⟩ = some (.int .u8 (UInt8.toNat x : Int)) ∧ V.frozen? ⟨q, i, none⟩ = false ∧ q ≠ qx ∧ ∀ y : UInt8, LS R w ga gb D qx k n a nm tn r pl A2 A3 c2 c3 (V.setCell ⟨q, i, none⟩ (.int .u8 (y.toNat : Int))) := by
  obtain ⟨FA, GB, eb, dp, a1, a2, a3, a4, a5, a6, a7, a8, a9, a10, a11, a12⟩ := h
  obtain ⟨q, rfl, hq1, hq2⟩ := a7.some_' a9 (by omega)
  have hk : ∀ j, j ≠ q → ∀ u, (V.setCell ⟨q, i, none⟩ u).heap[j]? = V.heap[j]? := fun j hj u => heap_set_ne hj
  have hs : ∀ u, (V.setCell ⟨q, i, none⟩ u).heap.size = V.heap.size := fun u => size_set
  have hq := a11 _ rfl
  refine ⟨q, eb[i]'(by omega), rfl, a7.cell' a9 i hi, a7.free' a9 i, hq.2.2, fun y => ?_⟩
  refine ⟨FA, GB, eb.set i y, dp, hD.on a1 (by rw [hs]; exact Nat.le_refl _) (fun j e => hk j (fun e2 => hq.1 (e2 ▸ e)) _), a2.on (by rw [hs]; exact Nat.le_refl _) (fun j e => hk j (fun e2 => hq.2.1 (e2 ▸ e)) _), a3, a4, a5.setCell hq1 _, a6.ne (fun e => hq.2.2 e.symm), a7.set i y, a8.onS (fun j e => hk j (fun e2 => ?_) _), by rw [List.length_set]; exact a9, a10, a11, a12⟩
  -- bytes and numbers lie in blocks of other kinds
  rcases a8.2 with ⟨e3, _⟩ | ⟨z, cap, cur, e3, _, hh, _⟩
  · rw [e3] at e
    cases e
  · rw [e3] at e
    have e' : some z = some j := e
    injection e' with e'
    rcases a7.2 with ⟨e4, _⟩ | ⟨z2, cap2, cur2, e4, _, hh2, _⟩
    · cases e4
    · injection e4 with e4
      injection e4 with e4
      injection e4 with e4
      rw [e', e2, e4, hh2] at hh
      injection hh with hh
      injection hh with _ hh _
      exact absurd hh (by decide)
/-- A number of x's. -/
theorem LS.num (hD : DiskOk R) (h : LS R w ga gb D qx k n a nm tn r pl A2 A3 c2 c3 V) {i : Nat} (hi : i < pl) : ∃ q x, A3 = some ⟨q, 0, none⟩ ∧ V.cell? ⟨q, i, none⟩ = some (.int .i64 x) ∧ V.frozen? ⟨q, i, none⟩ = false ∧ q ≠ qx ∧ ∀ y : Int, LS R w ga gb D qx k n a nm tn r pl A2 A3 c2 c3 (V.setCell ⟨q, i, none⟩ (.int .i64 y)) := by
  obtain ⟨FA, GB, eb, dp, a1, a2, a3, a4, a5, a6, a7, a8, a9, a10, a11, a12⟩ := h
  have a8' := a8
  unfold OwnI at a8'
  rw [a10] at a8'
  obtain ⟨q, cap, hv, hq1, hq2⟩ := World.ownsRow.form a8' (by omega)
  injection hv with e1 _ e3
  subst e1 e3
  have hk : ∀ j, j ≠ q → ∀ u, (V.setCell ⟨q, i, none⟩ u).heap[j]? = V.heap[j]? := fun j hj u => heap_set_ne hj
  have hs : ∀ u, (V.setCell ⟨q, i, none⟩ u).heap.size = V.heap.size := fun u => size_set
  have hq := a12 _ rfl
  refine ⟨q, dp[i]'(by omega), rfl, ?_, a8'.frozenAt i, hq.2.2, fun y => ?_⟩
  · rw [a8'.cellAt i (by omega), List.getElem?_map, List.getElem?_eq_getElem (by omega)]
    rfl
  · refine ⟨FA, GB, eb, dp.set i y, hD.on a1 (by rw [hs]; exact Nat.le_refl _) (fun j e => hk j (fun e2 => hq.1 (e2 ▸ e)) _), a2.on (by rw [hs]; exact Nat.le_refl _) (fun j e => hk j (fun e2 => hq.2.1 (e2 ▸ e)) _), a3, a4, a5.setCell hq1 _, a6.ne (fun e => hq.2.2 e.symm), a7.onS (fun j e => hk j (fun e2 => ?_) _), ?_, a9, by rw [List.length_set]; exact a10, a11, a12⟩
    · rcases a7.2 with ⟨e4, _⟩ | ⟨z2, cap2, cur2, e4, _, hh2, _⟩
      · rw [e4] at e
        cases e
      · rw [e4] at e
        have e' : some z2 = some j := e
        injection e' with e'
        rcases a8'.2 with ⟨e5, _⟩ | ⟨z, cap3, cur, e5, _, hh, _⟩
        · cases e5
        · injection e5 with e5
          injection e5 with e5
          injection e5 with e5
          rw [e', e2, e5, hh] at hh2
          injection hh2 with hh2
          injection hh2 with _ hh2 _
          exact absurd hh2 (by decide)
    · unfold OwnI
      have h1 := (a8'.stored i (.int .i64 y)).1
      rw [List.length_set, a10, List.map_set]
      exact h1
end
end Go.Proofs.Ytmjoaeljfhgojaa
