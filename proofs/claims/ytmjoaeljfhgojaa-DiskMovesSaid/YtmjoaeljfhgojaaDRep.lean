/-
  Layer 7: what an object's calls leave as it was; the document's disk in memory.
-/
import Derived.Test.YtmjoaeljfhgojaaDMath
import Derived.Test.YtmjoaeljfhgojaaOwn
import Derived.Laws.OwnMore
set_option linter.unusedVariables false
namespace Go.Proofs.Ytmjoaeljfhgojaa
open Go.RowKit

abbrev pt (g : Nat) : Value := .pointer (some ⟨g, 0, none⟩)

/-! ### an object's blocks -/
def nF (F : Nat → Prop) (V V' : World) : Nat → Prop := fun k => F k ∨ (V.heap.size ≤ k ∧ k < V'.heap.size)
/-- Only the blocks of F, and new ones, have changed. -/
structure Grow (F : Nat → Prop) (V V' : World) : Prop where
  os : V'.os = V.os
  tape : V'.tape = V.tape
  output : V'.output = V.output
  size : V.heap.size ≤ V'.heap.size
  block : ∀ k, k < V.heap.size → ¬ F k → V'.heap[k]? = V.heap[k]?
section
variable {F G : Nat → Prop} {V V1 V2 w : World} {B : Nat}
theorem Grow.refl (F : Nat → Prop) (V : World) : Grow F V V := ⟨rfl, rfl, rfl, Nat.le_refl _, fun _ _ _ => rfl⟩
theorem Grow.of_below (h : Below V.heap.size V V1) : Grow F V V1 := ⟨h.os, h.tape, h.output, h.size, fun k hk _ => h.block k hk⟩
theorem Grow.trans (h : Grow F V V1) (h2 : Grow (nF F V V1) V1 V2) : Grow F V V2 :=
  ⟨h2.os.trans h.os, h2.tape.trans h.tape, h2.output.trans h.output, Nat.le_trans h.size h2.size, fun k hk hn =>
    (h2.block k (Nat.lt_of_lt_of_le hk h.size) (fun e => e.elim hn (fun e => by omega))).trans (h.block k hk hn)⟩
theorem Grow.mono (h : Grow F V V1) (hs : ∀ k, F k → G k) : Grow G V V1 := ⟨h.os, h.tape, h.output, h.size, fun k hk hn => h.block k hk (fun e => hn (hs k e))⟩
theorem Grow.set (h : Grow F V V1) {p : Addr} (hp : F p.block ∨ V.heap.size ≤ p.block) (u : Value) : Grow F V (V1.setCell p u) :=
  ⟨h.os, h.tape, h.output, by rw [World.setCell]; simp only [Array.size_modify]; exact h.size, fun k hk hn => by
    simp only [World.setCell, Array.getElem?_modify]
    rw [if_neg (fun e => by rcases hp with hp | hp; exact hn (e ▸ hp); omega)]
    exact h.block k hk hn⟩
theorem Grow.drewN (h : Grow F V V1) (n : Nat) : Grow F V (V1.drewN n) := ⟨h.os, h.tape, h.output, h.size, h.block⟩
theorem Grow.below (hb : Below B w V) (hB : B ≤ V.heap.size) (hF : ∀ k, F k → B ≤ k) (h : Grow F V V1) : Below B w V1 :=
  ⟨h.os.trans hb.os, h.tape.trans hb.tape, h.output.trans hb.output, Nat.le_trans hb.size h.size, fun k hk => (h.block k (by omega) (fun e => by have := hF k e; omega)).trans (hb.block k hk)⟩
theorem Grow.by_ {r : Option Nat} (h : V.grownBy V1 r) (hr : ∀ k, r = some k → F k) : Grow F V V1 := ⟨h.os, h.tape, h.output, h.size, fun k hk hn => h.block k hk (fun e => hn (hr k e.symm))⟩
theorem nF_trans (h : V.heap.size ≤ V1.heap.size) (h2 : V1.heap.size ≤ V2.heap.size) : nF (nF F V V1) V1 V2 = nF F V V2 := by
  funext k
  unfold nF
  refine propext ⟨fun e => ?_, fun e => ?_⟩
  · rcases e with (e | e) | e
    · exact .inl e
    · exact .inr (by omega)
    · exact .inr (by omega)
  · rcases e with e | e
    · exact .inl (.inl e)
    · by_cases hk : k < V1.heap.size
      · exact .inl (.inr ⟨e.1, hk⟩)
      · exact .inr ⟨by omega, e.2⟩
end

/-- What a call makes of an object. -/
def Turns {S : Type} (R : World → Nat → S → (Nat → Prop) → Prop) (V : World) (g : Nat) (F : Nat → Prop) (D' : S) (V' : World) : Prop := R V' g D' (nF F V V') ∧ Grow F V V'
theorem Turns.trans {S : Type} {R : World → Nat → S → (Nat → Prop) → Prop} {V V1 V2 : World} {g : Nat} {F : Nat → Prop} {D1 D2 : S} (h : Grow F V V1) (h2 : Turns R V1 g (nF F V V1) D2 V2) : Turns R V g F D2 V2 :=
  ⟨nF_trans h.size h2.2.size ▸ h2.1, h.trans h2.2⟩

/-! ### numbers that lie in memory -/
def IAt (w : World) (A : Option Addr) (n : Nat) (xs : List Int) : Prop :=
  xs.length = n ∧ (0 < n → ∃ b o, A = some ⟨b, o, none⟩ ∧ ∀ i, (h : i < xs.length) → w.cell? ⟨b, o + i, none⟩ = some (.int .i64 xs[i]))
def InF (F : Nat → Prop) (A : Option Addr) : Prop := ∀ a, A = some a → F a.block
section
variable {F : Nat → Prop} {V V' : World} {A : Option Addr} {n : Nat}
theorem At.on {xs : List UInt8} (h : At V A n xs) (hF : InF F A) (hk : ∀ k, F k → V'.heap[k]? = V.heap[k]?) : At V' A n xs := by
  refine ⟨h.1, fun hn => ?_⟩
  obtain ⟨b, o, e, hc⟩ := h.2 hn
  exact ⟨b, o, e, fun i hi => (World.cell?_of_block (a := ⟨b, o + i, none⟩) (hk b (hF _ e))).trans (hc i hi)⟩
theorem IAt.on {xs : List Int} (h : IAt V A n xs) (hF : InF F A) (hk : ∀ k, F k → V'.heap[k]? = V.heap[k]?) : IAt V' A n xs := by
  refine ⟨h.1, fun hn => ?_⟩
  obtain ⟨b, o, e, hc⟩ := h.2 hn
  exact ⟨b, o, e, fun i hi => (World.cell?_of_block (a := ⟨b, o + i, none⟩) (hk b (hF _ e))).trans (hc i hi)⟩
theorem IAt.nil (w : World) (A : Option Addr) : IAt w A 0 [] := ⟨rfl, fun h => absurd h (by omega)⟩
end

/-! ### the document's list of files -/
/-- A file, and where its bytes lie. -/
structure Fv where
  f : Fl
  A : Option Addr
  c : Nat
def Fv.vals (q : Fv) : List Value := [.string q.f.name, .slice q.A q.f.bs.length q.c, .int .i64 (q.f.mark : Int)]
def rows (qs : List Fv) : List Value := qs.flatMap Fv.vals
theorem rows_len : ∀ qs : List Fv, (rows qs).length = qs.length * 3
  | [] => rfl
  | q :: qs => by
    have := rows_len qs
    unfold rows at *
    rw [List.flatMap_cons, List.length_append, this]
    simp [Fv.vals]
    omega
theorem rows_get : ∀ (qs : List Fv) (i j : Nat) (h : i < qs.length), j < 3 → (rows qs)[i * 3 + j]? = (qs[i].vals)[j]?
  | q :: qs, 0, j, _, hj => by
    unfold rows
    rw [List.flatMap_cons, List.getElem?_append_left (by simp [Fv.vals]; omega)]
    simp
  | q :: qs, i + 1, j, h, hj => by
    have := rows_get qs i j (by simpa using h) hj
    unfold rows at *
    rw [List.flatMap_cons, List.getElem?_append_right (by simp [Fv.vals]; omega), List.getElem_cons_succ, ← this]
    congr 1
    simp [Fv.vals]
    omega
theorem rows_app (a b : List Fv) : rows (a ++ b) = rows a ++ rows b := by simp [rows]
theorem rows_take (qs : List Fv) (n : Nat) : rows (qs.take n) = (rows qs).take (n * 3) := by
  by_cases h : n ≤ qs.length
  · have e : rows qs = rows (qs.take n) ++ rows (qs.drop n) := by rw [← rows_app, List.take_append_drop]
    have l : (rows (qs.take n)).length = n * 3 := by rw [rows_len, List.length_take]; omega
    rw [e, ← l, List.take_left]
  · rw [List.take_of_length_le (by omega), List.take_of_length_le (by rw [rows_len]; omega)]
theorem rows_drop (qs : List Fv) (n : Nat) : rows (qs.drop n) = (rows qs).drop (n * 3) := by
  by_cases h : n ≤ qs.length
  · have e : rows qs = rows (qs.take n) ++ rows (qs.drop n) := by rw [← rows_app, List.take_append_drop]
    have l : (rows (qs.take n)).length = n * 3 := by rw [rows_len, List.length_take]; omega
    rw [e, ← l, List.drop_left]
  · rw [List.drop_of_length_le (by omega), List.drop_of_length_le (by rw [rows_len]; omega)]
    rfl

structure RFl (V : World) (F : Nat → Prop) (q : Fv) : Prop where
  at_ : At V q.A q.f.bs.length q.f.bs
  cap : q.f.bs.length ≤ q.c
  capm : q.c ≤ 9223372036854775807
  inF : InF F q.A
theorem RFl.on {V V' : World} {F G : Nat → Prop} {q : Fv} (h : RFl V F q) (hk : ∀ k, F k → V'.heap[k]? = V.heap[k]?) (hG : ∀ k, F k → G k) : RFl V' G q :=
  ⟨h.at_.on h.inF hk, h.cap, h.capm, fun a e => hG _ (h.inF a e)⟩

/-- A list of files: its own row; each one's bytes lie in blocks of Fb, which are not the row. -/
structure RL (V : World) (F Fb : Nat → Prop) (v : Value) (qs : List Fv) : Prop where
  row : V.ownsRow 0 97 3 v qs.length (rows qs)
  own : ∀ k, v.ownBlock = some k → F k ∧ ¬ Fb k
  each : ∀ q ∈ qs, RFl V Fb q
section
variable {V V' : World} {F Fb G Gb : Nat → Prop} {v : Value} {qs : List Fv}
theorem RL.form (h : RL V F Fb v qs) : ∃ A c, v = .slice A qs.length c ∧ qs.length ≤ c ∧ c ≤ 9223372036854775807 ∧ (A = none → c = 0) ∧
    (0 < qs.length → ∃ b, A = some ⟨b, 0, none⟩ ∧ F b ∧ ¬ Fb b ∧ ∀ i, (hi : i < qs.length) →
      V.cell? ⟨b, i * 3, none⟩ = some (.string qs[i].f.name) ∧ V.cell? ⟨b, i * 3 + 1, none⟩ = some (.slice qs[i].A qs[i].f.bs.length qs[i].c) ∧ V.cell? ⟨b, i * 3 + 2, none⟩ = some (.int .i64 (qs[i].f.mark : Int))) := by
  rcases h.row.2 with ⟨e, hn⟩ | ⟨g, cap, cur, e, hb, hg, hnc, hcm, _⟩
  · exact ⟨none, 0, by rw [e, hn], by omega, by omega, fun _ => rfl, fun h0 => by omega⟩
  · refine ⟨_, cap, e, hnc, hcm, (fun h => nomatch h), fun h0 => ⟨g, rfl, (h.own g (by rw [e]; rfl)).1, (h.own g (by rw [e]; rfl)).2, fun i hi => ?_⟩⟩
    have hr := h.row
    rw [e] at hr
    have k : ∀ j, j < 3 → V.cell? ⟨g, i * 3 + j, none⟩ = (qs[i].vals)[j]? := fun j hj => by
      rw [hr.cellAt (i * 3 + j) (by omega), rows_get qs i j hi hj]
    exact ⟨k 0 (by omega), k 1 (by omega), k 2 (by omega)⟩
theorem RL.on (h : RL V F Fb v qs) (hs : V.heap.size ≤ V'.heap.size) (hk : ∀ k, F k ∨ Fb k → V'.heap[k]? = V.heap[k]?) : RL V' F Fb v qs := by
  refine ⟨⟨h.row.1, ?_⟩, h.own, fun q hq => (h.each q hq).on (fun k hF => hk k (.inr hF)) (fun _ e => e)⟩
  rcases h.row.2 with hn | ⟨g, cap, cur, e, hb, hg, r⟩
  · exact .inl hn
  · exact .inr ⟨g, cap, cur, e, hb, (hk g (.inl (h.own g (by rw [e]; rfl)).1)).trans hg, r⟩
end

/-- The document's disk in a block. -/
structure RDkB (V : World) (g : Nat) (D : Dk) (F Fb : Nat → Prop) (v : Value) (A : Option Addr) (n c : Nat) (qs : List Fv) : Prop where
  obj : V.heap[g]? = some (.cells #[v, .bool D.dead, .int .i64 D.left, .slice A n c] 39 (0, 0))
  eq : qs.map Fv.f = D.l
  list : RL V F Fb v qs
  keep : IAt V A n D.keep
  keepF : InF Fb A
  kcap : n ≤ c ∧ c ≤ 9223372036854775807
  fg : F g ∧ ¬ Fb g ∧ v.ownBlock ≠ some g
  sub : ∀ k, Fb k → F k
  lt : ∀ k, F k → k < V.heap.size
  ok : D.ok
def RDk (V : World) (g : Nat) (D : Dk) (F : Nat → Prop) : Prop := ∃ Fb v A n c qs, RDkB V g D F Fb v A n c qs
section
variable {V V' : World} {g : Nat} {D : Dk} {F Fb G : Nat → Prop} {v : Value} {A : Option Addr} {n c : Nat} {qs : List Fv}
theorem RDkB.on (h : RDkB V g D F Fb v A n c qs) (hs : V.heap.size ≤ V'.heap.size) (hk : ∀ k, F k → V'.heap[k]? = V.heap[k]?) : RDkB V' g D F Fb v A n c qs :=
  ⟨(hk g h.fg.1).trans h.obj, h.eq, h.list.on hs (fun k e => hk k (e.elim id (h.sub k))), h.keep.on h.keepF (fun k e => hk k (h.sub k e)), h.keepF, h.kcap, h.fg, h.sub, fun k e => Nat.lt_of_lt_of_le (h.lt k e) hs, h.ok⟩
theorem RDkB.below (h : RDkB V g D F Fb v A n c qs) (hb : Below V.heap.size V V') : RDkB V' g D F Fb v A n c qs := h.on hb.size (fun k e => hb.block k (h.lt k e))
theorem RDkB.mono (h : RDkB V g D F Fb v A n c qs) (hs : ∀ k, F k → G k) (hl : ∀ k, G k → k < V.heap.size) : RDkB V g D G Fb v A n c qs :=
  ⟨h.obj, h.eq, ⟨h.list.row, fun k e => ⟨hs k (h.list.own k e).1, (h.list.own k e).2⟩, h.list.each⟩, h.keep, h.keepF, h.kcap, ⟨hs g h.fg.1, h.fg.2⟩, fun k e => hs k (h.sub k e), hl, h.ok⟩
theorem RDkB.c0 (h : RDkB V g D F Fb v A n c qs) : V.cell? ⟨g, 0, none⟩ = some v := cell_of_row V g 0 _ _ (0, 0) h.obj
theorem RDkB.c1 (h : RDkB V g D F Fb v A n c qs) : V.cell? ⟨g, 1, none⟩ = some (.bool D.dead) := cell_of_row V g 1 _ _ (0, 0) h.obj
theorem RDkB.c2 (h : RDkB V g D F Fb v A n c qs) : V.cell? ⟨g, 2, none⟩ = some (.int .i64 D.left) := cell_of_row V g 2 _ _ (0, 0) h.obj
theorem RDkB.c3 (h : RDkB V g D F Fb v A n c qs) : V.cell? ⟨g, 3, none⟩ = some (.slice A n c) := cell_of_row V g 3 _ _ (0, 0) h.obj
theorem RDkB.fz (h : RDkB V g D F Fb v A n c qs) (i : Nat) : V.frozen? ⟨g, i, none⟩ = false := by
  have h := h.obj
  simp [World.frozen?, h]
theorem RDkB.len (h : RDkB V g D F Fb v A n c qs) : qs.length = D.l.length := by rw [← h.eq, List.length_map]
theorem RDkB.get (h : RDkB V g D F Fb v A n c qs) {i : Nat} (hi : i < qs.length) : D.l[i]'(by rw [← h.len]; exact hi) = qs[i].f := by
  have e := h.eq
  simp only [← e, List.getElem_map]
theorem RDk.on (h : RDk V g D F) (hs : V.heap.size ≤ V'.heap.size) (hk : ∀ k, F k → V'.heap[k]? = V.heap[k]?) : RDk V' g D F := by
  obtain ⟨Fb, v, A, n, c, qs, h⟩ := h
  exact ⟨Fb, v, A, n, c, qs, h.on hs hk⟩
theorem RDk.below (h : RDk V g D F) (hb : Below V.heap.size V V') : RDk V' g D F := by
  obtain ⟨Fb, v, A, n, c, qs, h⟩ := h
  exact ⟨Fb, v, A, n, c, qs, h.below hb⟩
theorem RDk.mono (h : RDk V g D F) (hs : ∀ k, F k → G k) (hl : ∀ k, G k → k < V.heap.size) : RDk V g D G := by
  obtain ⟨Fb, v, A, n, c, qs, h⟩ := h
  exact ⟨Fb, v, A, n, c, qs, h.mono hs hl⟩
theorem RDk.lt (h : RDk V g D F) {k : Nat} (hk : F k) : k < V.heap.size := by
  obtain ⟨Fb, v, A, n, c, qs, h⟩ := h
  exact h.lt k hk
theorem RDk.ok (h : RDk V g D F) : D.ok := by
  obtain ⟨Fb, v, A, n, c, qs, h⟩ := h
  exact h.ok
theorem RDk.turn (h : RDk V g D F) (hb : Below V.heap.size V V') : Turns RDk V g F D V' :=
  ⟨(h.below hb).mono (fun k e => .inl e) (fun k e => by rcases e with e | e; exact Nat.lt_of_lt_of_le (h.lt e) hb.size; exact e.2), Grow.of_below hb⟩
end
end Go.Proofs.Ytmjoaeljfhgojaa
