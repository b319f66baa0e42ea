/-
  Layer 11, the code's reader as a walk takes it; many.
  Layer 11, the code: the function literals of TakeIntent, TakeRecord.
  Layer 11, the code: TakeIntent, TakeRecord.
  Layer 11: are two lists of changes, of writes, the same? (slices.Equal; the document's SameWrites.)
  Layer 11, the code: Intent, Record.
  Layer 11, the code: TakeVersion, TakeStamp.
-/
import Derived.Test.YtiafmbfeigcinaaDoorZ14
import Derived.Test.YtiafmbfeigcinaaDoorZ11
import Derived.BigQuiet
import Derived.Deep.QuietTactic
import Derived.Test.YtiafmbfeigcinaaDoorZ10
set_option linter.unusedVariables false
set_option linter.unusedSimpArgs false
set_option maxRecDepth 100000
namespace Go.Proofs.YtiafmbfeigcinaaDoor
open Go.RowKit

section
variable {w V : World} {T : List As} {g x : Nat} {s : Rst} {t : TypeId} {cs : Array Value}
theorem Has.acallE {α : Type} {A : As} {A' : α → As} {Q : α → Ending → Prop} (h : Has w (A :: T) V) {W : World} {f : FuncId} {args : Array Value}
    (hc : ∀ F, A.p V F → Calls Tryd.prog f args W fun e w' => ∃ a, Q a e ∧ ATurn (A' a) F V w') :
    Calls Tryd.prog f args W fun e w' => ∃ a, Q a e ∧ Has w (A' a :: T) w' := by
  obtain ⟨F, h1, _, h2⟩ := h.step
  refine (hc F h1).mono ?_
  rintro e w' ⟨a, hq, F', h3, h4, h5⟩
  exact ⟨a, hq, h2 w' (A' a) F' h4 h3 h5⟩
theorem Has.rdNew (h : Has w T V) (u : ByteArray) (ht : u.size ≤ 225000000000000) :
    Calls Tryd.prog 62 #[.string u] V fun e w' => ∃ g, e = .returned (pt g) ∧ Has w (rdA g (if u.size ≤ 2048 then some (sb u) else none) :: T) w' := by
  refine (newRd u V ht).mono ?_
  rintro e w' ⟨g, rfl, hb, F, h1, h2⟩
  exact ⟨g, rfl, h.new hb h1 h2⟩
theorem Has.rdStr (h : Has w (rdA g s :: T) V) :
    Calls Tryd.prog 64 #[pt g] V fun e w' => ∃ u : ByteArray, (e = .returned (.string u) ∧ ((ps s).2 ≠ none → u = (ps s).1)) ∧ Has w (rdA g (ps s).2 :: T) w' :=
  h.acallE (A' := fun _ => rdA g (ps s).2) fun F hP => (Go.Proofs.YtiafmbfeigcinaaDoor.rdStr g s V F hP).mono fun e w' ⟨u, h1, h2, h3⟩ => ⟨u, ⟨h1, h2⟩, h3⟩
theorem Has.rdFlag (h : Has w (rdA g s :: T) V) :
    Calls Tryd.prog 63 #[pt g] V fun e w' => ∃ d : Bool, (e = .returned (.bool d) ∧ ((pf s).2 ≠ none → d = (pf s).1)) ∧ Has w (rdA g (pf s).2 :: T) w' :=
  h.acallE (A' := fun _ => rdA g (pf s).2) fun F hP => (Go.Proofs.YtiafmbfeigcinaaDoor.rdFlag g s V F hP).mono fun e w' ⟨u, h1, h2, h3⟩ => ⟨u, ⟨h1, h2⟩, h3⟩
theorem Has.rdDone (h : Has w (rdA g s :: T) V) :
    Calls Tryd.prog 65 #[pt g] V fun e w' => e = .returned (.bool (decide (s = some []))) ∧ w' = V := by
  obtain ⟨F, h1, _⟩ := h.get
  exact Go.Proofs.YtiafmbfeigcinaaDoor.rdDone g s V F h1
theorem pat_lit (V : World) (x : Nat) (is : List Nat) (t : TypeId) : PAt (V.alloc (.cells (is.map fun i => Value.pointer (some ⟨x, i, none⟩)).toArray t)) (some ⟨V.heap.size, 0, none⟩) is.length x is := by
  refine ⟨rfl, fun _ => ⟨_, _, rfl, fun i hi => ?_⟩⟩
  simp [hi]
theorem Has.rdNums (h : Has w (rdA g s :: blkA x t cs :: T) V) (is : List Nat) {b : Nat} (hb : b = V.heap.size) {pcs : Array Value} {k : Nat} {pt' : TypeId} (hcs : pcs = (is.map fun i => Value.pointer (some ⟨x, i, none⟩)).toArray) (hk : k = is.length)
    (hn : is.length ≤ 1000) (hi : ∀ i ∈ is, ∃ u, cs[i]? = some (.int .i64 u)) :
    Calls Tryd.prog 78 #[pt g, .slice (some ⟨b, 0, none⟩) k k] (V.alloc (.cells pcs pt')) fun e w' => ∃ vs : List Nat, (e = .returned (.tuple #[]) ∧ vs.length = is.length ∧ (∀ v ∈ vs, v ≤ 9007199254740991) ∧ ((pns is.length s).2 ≠ none → vs = (pns is.length s).1)) ∧ Has w (rdA g (pns is.length s).2 :: blkA x t (sets cs (ivs is vs)) :: T) w' := by
  subst hb hcs hk
  have h2 := h.both.acallE (A' := fun vs : List Nat => bothA (rdA g (pns is.length s).2) (blkA x t (sets cs (ivs is vs)))) (Q := fun vs e => e = .returned (.tuple #[]) ∧ vs.length = is.length ∧ (∀ v ∈ vs, v ≤ 9007199254740991) ∧ ((pns is.length s).2 ≠ none → vs = (pns is.length s).1))
    (W := V.alloc (.cells (is.map fun i => Value.pointer (some ⟨x, i, none⟩)).toArray pt')) (f := 78) (args := #[pt g, .slice (some ⟨V.heap.size, 0, none⟩) is.length is.length]) fun F hP => by
    have hlt := (bothA (rdA g s) (blkA x t cs)).lt hP
    refine (Go.Proofs.YtiafmbfeigcinaaDoor.rdNums g x t cs s (some ⟨V.heap.size, 0, none⟩) is.length is.length is _ F ((bothA (rdA g s) (blkA x t cs)).on hP (nbl V _).size fun k e => (nbl V _).block k (hlt k e)) (pat_lit V x is pt')
      (fun a ha e => by cases ha; have := hlt _ e; simp at this) hn hi).mono ?_
    rintro e w' ⟨h1, vs, h3, h4, h5, h6⟩
    exact ⟨vs, ⟨h1, h3, h4, h5⟩, h6.pre (nbl V _) hlt⟩
  exact h2.mono fun e w' ⟨vs, hq, hh⟩ => ⟨vs, hq, hh.unboth⟩
theorem Has.rowTurn {E : TypeId} {sz : Nat} {v v' : Value} {n n' : Nat} {xs xs' : List Value} {V' : World} (h : Has w (rowA E sz v n xs :: T) V) (h1 : V'.ownsRow 0 E sz v' n' xs') (hg : V.grownBy V' v.ownBlock) (hob : v'.ownBlock = v.ownBlock ∨ v'.ownBlock = some V.heap.size) :
    Has w (rowA E sz v' n' xs' :: T) V' := by
  obtain ⟨F, a1, _, a2⟩ := h.step
  refine a2 V' _ (fun k => v'.ownBlock = some k) (Grow.by_ hg fun k e => (a1.2 k).2 e) ⟨h1, fun k => Iff.rfl⟩ fun k e => ?_
  have hlt : k < V'.heap.size := (rowA E sz v' n' xs').lt (V := V') (F := fun k => v'.ownBlock = some k) ⟨h1, fun k => Iff.rfl⟩ k e
  rcases hob with hob | hob
  · exact .inl ((a1.2 k).2 (hob ▸ e))
  · rw [hob] at e
    injection e with e
    exact .inr ⟨by omega, hlt⟩
theorem Has.rowOf {E : TypeId} {sz : Nat} {v : Value} {n : Nat} {xs : List Value} (h : Has w (rowA E sz v n xs :: T) V) : V.ownsRow 0 E sz v n xs := by
  obtain ⟨F, a1, _⟩ := h.get
  exact a1.1
theorem Has.rd (h : Has w (rdA g s :: T) V) : ∃ A n c, Blk V g 98 #[.slice A n c, .bool s.isNone] ∧ ∀ b, s = some b → b.length ≤ 2048 := by
  obtain ⟨F, ⟨A, n, c, l, d1, d2, d3, d4, d5, d6, d7, d8⟩, _⟩ := h.get
  exact ⟨A, n, c, d1, fun b hb => by rw [d6 b hb]; exact d5⟩
end

end Go.Proofs.YtiafmbfeigcinaaDoor
set_option linter.unusedVariables false
set_option linter.unusedSimpArgs false
set_option maxRecDepth 100000
namespace Go.Proofs.YtiafmbfeigcinaaDoor
open Go.RowKit

section
variable {w V V' : World} {l T : List As} {A : As} {F : Nat → Prop} {g : Nat}
theorem Sep.memL (h : Sep V l F) (hm : A ∈ l) : ∃ F1, A.p V F1 ∧ ∀ k, F1 k → F k := by
  induction l generalizing F with
  | nil => cases hm
  | cons B l ih =>
    obtain ⟨F1, F2, h1, h2, h3, h4⟩ := h
    rcases List.mem_cons.1 hm with rfl | hm
    · exact ⟨F1, h1, fun k e => (h4 k).2 (.inl e)⟩
    · obtain ⟨F3, h5, h6⟩ := ih h2 hm
      exact ⟨F3, h5, fun k e => (h4 k).2 (.inr (h6 k e))⟩
theorem Has.blkIn {t : TypeId} {cs : Array Value} (h : Has w l V) (hm : blkA g t cs ∈ l) : Blk V g t cs := by
  obtain ⟨⟨F, h1, h2⟩, _⟩ := h
  obtain ⟨F1, h3, h4⟩ := h1.memL hm
  exact h3.1
end
theorem infoCh : (Tryd.prog.info? 50).map (fun i => (i.zero, i.size, i.bytes)) = some (some (.agg #[.int .i64 0, .string ⟨#[]⟩, .bool false]), 3, 32) := by kernel_rfl
theorem infoWt : (Tryd.prog.info? 68).map (fun i => (i.zero, i.size, i.bytes)) = some (some (.agg #[.string ⟨#[]⟩, .int .i64 0]), 2, 24) := by kernel_rfl
theorem chc_len : ∀ l : List Ch, (l.flatMap chc).length = l.length * 3
  | [] => rfl
  | c :: l => by rw [List.flatMap_cons, List.length_append, chc_len l, List.length_cons]; show 3 + _ = _; omega
theorem wtc_len : ∀ l : List Wt, (l.flatMap wtc).length = l.length * 2
  | [] => rfl
  | c :: l => by rw [List.flatMap_cons, List.length_append, wtc_len l, List.length_cons]; show 2 + _ = _; omega
theorem lay_new (W : World) (cs : Array Value) (t : TypeId) : ∀ j u, cs.toList[j]? = some u → (W.alloc (.cells cs t)).cell? ((⟨W.heap.size, 0, none⟩ : Addr).add j) = some u := by
  intro j u hj
  rw [Go.WideShapes.add_plain, Nat.zero_add, (Blk.new W t cs).cell j]
  simpa using hj

/-- The intent that is read, its record; beside it: the reader's variable, the row of changes. -/
def xI (x rb g : Nat) (y : It) (v : Value) (l : List Ch) : List As := [blkA x 26 (itc y v), blkA rb 88 #[pt g], rowA 50 3 v l.length (l.flatMap chc)]
def xR (x rb g : Nat) (y : Rc) (v : Value) (l : List Wt) : List As := [blkA x 37 (rcc y v), blkA rb 88 #[pt g], rowA 68 2 v l.length (l.flatMap wtc)]


end Go.Proofs.YtiafmbfeigcinaaDoor
set_option linter.unusedVariables false
set_option linter.unusedSimpArgs false
set_option maxRecDepth 100000
namespace Go.Proofs.YtiafmbfeigcinaaDoor
open Go.RowKit

theorem pC_eats (b r : List UInt8) (h : (pC (some b)).2 = some r) : r.length < b.length := by
  rcases e : pC (some b) with ⟨c, o⟩
  rw [e] at h
  simp only at h
  subst h
  obtain ⟨e2, _⟩ := pC_back e
  injection e2 with e2
  rw [e2, List.length_append]
  have := enc_pos c.q.toNat
  unfold txC nbs
  rw [List.length_append]
  omega
theorem pW_eats (b r : List UInt8) (h : (pW (some b)).2 = some r) : r.length < b.length := by
  rcases e : pW (some b) with ⟨c, o⟩
  rw [e] at h
  simp only at h
  subst h
  obtain ⟨e2, _⟩ := pW_back e
  injection e2 with e2
  rw [e2, List.length_append]
  have := enc_pos c.k.size
  unfold txW tbs
  rw [List.length_append, List.length_append]
  omega
theorem chc_get : ∀ (l : List Ch) (i : Nat) (h : i < l.length), (l.flatMap chc)[i * 3]? = some (.int .i64 (l[i]'h).q) ∧ (l.flatMap chc)[i * 3 + 1]? = some (.string (l[i]'h).s) ∧ (l.flatMap chc)[i * 3 + 2]? = some (.bool (l[i]'h).d)
  | [], i, h => absurd h (by simp)
  | c :: l, 0, h => ⟨rfl, rfl, rfl⟩
  | c :: l, i + 1, h => by
    have := chc_get l i (by simpa using h)
    have e1 : (i + 1) * 3 = i * 3 + 3 := by omega
    rw [e1]
    simpa [chc] using this
theorem wtc_get : ∀ (l : List Wt) (i : Nat) (h : i < l.length), (l.flatMap wtc)[i * 2]? = some (.string (l[i]'h).k) ∧ (l.flatMap wtc)[i * 2 + 1]? = some (.int .i64 (l[i]'h).q)
  | [], i, h => absurd h (by simp)
  | c :: l, 0, h => ⟨rfl, rfl⟩
  | c :: l, i + 1, h => by
    have := wtc_get l i (by simpa using h)
    have e1 : (i + 1) * 2 = i * 2 + 2 := by omega
    rw [e1]
    simpa [wtc] using this
theorem chRow {w : World} {B n : Nat} {v : Value} {l : List Ch} (h : w.ownsRow B 50 3 v n (l.flatMap chc)) : ∃ A c, v = .slice A n c ∧ ChAt w A n l ∧ n ≤ c ∧ c ≤ 9223372036854775807 ∧ ∀ p, A = some p → p.block < w.heap.size := by
  have hl : l.length = n := by have := h.1; rw [chc_len] at this; omega
  rcases h.2 with ⟨rfl, h0⟩ | ⟨g, cap, cur, rfl, hb, hg, hnc, hcm, _⟩
  · exact ⟨none, 0, by rw [h0], ⟨hl, fun hm => by omega⟩, by omega, by omega, fun p hp => nomatch hp⟩
  · refine ⟨_, cap, rfl, ⟨hl, fun hm => ⟨g, 0, rfl, fun i hi => ?_⟩⟩, hnc, hcm, fun p hp => by cases hp; exact (Array.getElem?_eq_some_iff.1 hg).1⟩
    obtain ⟨h1, h2, h3⟩ := chc_get l i hi
    have c1 := World.ownsRow.cells h (g := g) rfl _ _ h1
    have c2 := World.ownsRow.cells h (g := g) rfl _ _ h2
    have c3 := World.ownsRow.cells h (g := g) rfl _ _ h3
    rw [Go.WideShapes.add_plain] at c1 c2 c3
    exact ⟨c1, by rw [Nat.add_assoc]; exact c2, by rw [Nat.add_assoc]; exact c3⟩
theorem wtRow {w : World} {B n : Nat} {v : Value} {l : List Wt} (h : w.ownsRow B 68 2 v n (l.flatMap wtc)) : ∃ A c, v = .slice A n c ∧ WtAt w A n l ∧ n ≤ c ∧ c ≤ 9223372036854775807 ∧ ∀ p, A = some p → p.block < w.heap.size := by
  have hl : l.length = n := by have := h.1; rw [wtc_len] at this; omega
  rcases h.2 with ⟨rfl, h0⟩ | ⟨g, cap, cur, rfl, hb, hg, hnc, hcm, _⟩
  · exact ⟨none, 0, by rw [h0], ⟨hl, fun hm => by omega⟩, by omega, by omega, fun p hp => nomatch hp⟩
  · refine ⟨_, cap, rfl, ⟨hl, fun hm => ⟨g, 0, rfl, fun i hi => ?_⟩⟩, hnc, hcm, fun p hp => by cases hp; exact (Array.getElem?_eq_some_iff.1 hg).1⟩
    obtain ⟨h1, h2⟩ := wtc_get l i hi
    have c1 := World.ownsRow.cells h (g := g) rfl _ _ h1
    have c2 := World.ownsRow.cells h (g := g) rfl _ _ h2
    rw [Go.WideShapes.add_plain] at c1 c2
    exact ⟨c1, by rw [Nat.add_assoc]; exact c2⟩
theorem Has.apart {w V : World} {l : List As} {A : Option Addr} {n c s m g : Nat} {E t : TypeId} {xs : List Value} {cs : Array Value} (h : Has w (rowA E s (.slice A n c) m xs :: l) V) (hm : blkA g t cs ∈ l) : ∀ a, A = some a → a.block ≠ g := by
  obtain ⟨⟨F, ⟨F1, F2, h1, h2, h3, h4⟩, _⟩, _⟩ := h
  obtain ⟨F3, a1, a2⟩ := h2.memL hm
  intro a ha e
  subst ha
  exact h3 g ((h1.2 g).2 (by rw [← e]; rfl)) (a2 g ((a1.2 g).2 rfl))
def zI : It := ⟨0, 0, 0, ⟨#[]⟩, 0, 0, 0, 0, []⟩
def zR : Rc := ⟨0, 0, 0, 0, ⟨#[]⟩, 0, 0, 0, 0, []⟩
/-- What TakeIntent, TakeRecord answer. -/
def AnsI (o : Option It) (w : World) (e : Ending) (w' : World) : Prop :=
  match o with
  | none => e = .returned (.tuple #[itv zI (.slice none 0 0), .int .i64 4])
  | some x => ∃ A n c, e = .returned (.tuple #[itv x (.slice A n c), .int .i64 0]) ∧ ChAt w' A n x.l ∧ n ≤ c ∧ c ≤ 9223372036854775807 ∧ ∀ p, A = some p → p.block < w'.heap.size
def AnsR (o : Option Rc) (w : World) (e : Ending) (w' : World) : Prop :=
  match o with
  | none => e = .returned (.tuple #[rcv zR (.slice none 0 0), .int .i64 4])
  | some x => ∃ A n c, e = .returned (.tuple #[rcv x (.slice A n c), .int .i64 0]) ∧ WtAt w' A n x.l ∧ n ≤ c ∧ c ≤ 9223372036854775807 ∧ ∀ p, A = some p → p.block < w'.heap.size
theorem four_ {α : Type} {l : List α} (h : l.length = 4) : ∃ a b c d, l = [a, b, c, d] := by
  match l, h with
  | [a, b, c, d], _ => exact ⟨a, b, c, d, rfl⟩
theorem three3 {α : Type} {l : List α} (h : l.length = 3) : ∃ a b c, l = [a, b, c] := by
  match l, h with
  | [a, b, c], _ => exact ⟨a, b, c, rfl⟩
theorem Blk.all9 {w : World} {g : Nat} {t : TypeId} {c0 c1 c2 c3 c4 c5 c6 c7 c8 v0 v1 v2 v3 v4 v5 v6 v7 v8 : Value} (h : Blk w g t #[c0, c1, c2, c3, c4, c5, c6, c7, c8]) : Blk (((((((((w.setCell ⟨g, 0, none⟩ v0).setCell ⟨g, 1, none⟩ v1).setCell ⟨g, 2, none⟩ v2).setCell ⟨g, 3, none⟩ v3).setCell ⟨g, 4, none⟩ v4).setCell ⟨g, 5, none⟩ v5).setCell ⟨g, 6, none⟩ v6).setCell ⟨g, 7, none⟩ v7).setCell ⟨g, 8, none⟩ v8) g t #[v0, v1, v2, v3, v4, v5, v6, v7, v8] := by
  have := (((((((((h.set_ 0 v0).set_ 1 v1).set_ 2 v2).set_ 3 v3).set_ 4 v4).set_ 5 v5).set_ 6 v6).set_ 7 v7).set_ 8 v8)
  simpa using this
theorem Blk.all10 {w : World} {g : Nat} {t : TypeId} {c0 c1 c2 c3 c4 c5 c6 c7 c8 c9 v0 v1 v2 v3 v4 v5 v6 v7 v8 v9 : Value} (h : Blk w g t #[c0, c1, c2, c3, c4, c5, c6, c7, c8, c9]) : Blk ((((((((((w.setCell ⟨g, 0, none⟩ v0).setCell ⟨g, 1, none⟩ v1).setCell ⟨g, 2, none⟩ v2).setCell ⟨g, 3, none⟩ v3).setCell ⟨g, 4, none⟩ v4).setCell ⟨g, 5, none⟩ v5).setCell ⟨g, 6, none⟩ v6).setCell ⟨g, 7, none⟩ v7).setCell ⟨g, 8, none⟩ v8).setCell ⟨g, 9, none⟩ v9) g t #[v0, v1, v2, v3, v4, v5, v6, v7, v8, v9] := by
  have := ((((((((((h.set_ 0 v0).set_ 1 v1).set_ 2 v2).set_ 3 v3).set_ 4 v4).set_ 5 v5).set_ 6 v6).set_ 7 v7).set_ 8 v8).set_ 9 v9)
  simpa using this

/-- How far the reader is behind it all. -/
def finI (s : Rst) : Rst := (many pC (pn (pns 4 (ps (pns 3 s).2).2).2).1 (pn (pns 4 (ps (pns 3 s).2).2).2).2).2
theorem finI_some (b : List UInt8) : finI (some b) = (rdI b).2 := rfl
theorem finI_none : finI none = none := rfl
theorem rdI_parts (b : List UInt8) {a0 a1 a2 b0 b1 b2 b3 : Nat} {u : ByteArray} {l : List Ch} (h1 : (pns 3 (some b)).2 ≠ none → [a0, a1, a2] = (pns 3 (some b)).1) (h2 : (ps (pns 3 (some b)).2).2 ≠ none → u = (ps (pns 3 (some b)).2).1)
    (h3 : (pns 4 (ps (pns 3 (some b)).2).2).2 ≠ none → [b0, b1, b2, b3] = (pns 4 (ps (pns 3 (some b)).2).2).1) (h4 : finI (some b) ≠ none → l = (many pC (pn (pns 4 (ps (pns 3 (some b)).2).2).2).1 (pn (pns 4 (ps (pns 3 (some b)).2).2).2).2).1)
    (hf : finI (some b) ≠ none) : (⟨a0, a1, a2, u, b0, b1, b2, b3, l⟩ : It) = (rdI b).1 := by
  have k4 : (pn (pns 4 (ps (pns 3 (some b)).2).2).2).2 ≠ none := fun e => hf (by unfold finI; rw [e, many_none])
  have k3 : (pns 4 (ps (pns 3 (some b)).2).2).2 ≠ none := fun e => k4 (by rw [e]; rfl)
  have k2 : (ps (pns 3 (some b)).2).2 ≠ none := pns_noneR k3
  have k1 : (pns 3 (some b)).2 ≠ none := fun e => k2 (by rw [e]; rfl)
  have j1 := h1 k1
  have j2 := h2 k2
  have j3 := h3 k3
  have j4 := h4 hf
  simp only [pns, List.cons.injEq, and_true] at j1 j3
  obtain ⟨e0, e1, e2⟩ := j1
  obtain ⟨e3, e4, e5, e6⟩ := j3
  subst e0 e1 e2 e3 e4 e5 e6 j2 j4
  rfl

theorem ret_it {fn : Func} {R : Ending → World → Prop} {a : Act} {w : World} {p u : Tmp} {g : Nat} {cs : Array Value} (hr : fn.results = #[.cell p 26, .tmp u]) (hp : a.tmps.getD p undef = .pointer (some ⟨g, 0, none⟩))
    (hB : Blk w g 26 cs) (hs : cs.size = 9) (hd : a.defers = []) (hR : R (.returned (.tuple #[.agg cs, a.tmps.getD u undef])) w) : bodyPost Tryd.prog fn R .ret a w := by
  refine bodyPost_ret ?_ hd hR
  have hp' : a.tmps[p]?.getD undef = .pointer (some ⟨g, 0, none⟩) := by simpa using hp
  simp [results, hr, hp', asAddr, run_loadVar_row w g 26 26 _ (0, 0) _ hB Tryd.underlying26 rfl (by rw [hs]; kernel_rfl)]
theorem checkI2 (x : It) (A : Option Addr) (n c : Nat) (w : World) (hx : ChAt w A n x.l) (hn : n ≤ 9223372036854775807) :
    ∃ (k : Int) (b : Bool), (k != 0) = b ∧ b = !mayI x ∧ Calls Tryd.prog 8 #[itv x (.slice A n c)] w fun e w' => e = .returned (.int .i64 k) ∧ Below w.heap.size w w' :=
  ⟨_, _, rfl, by cases mayI x <;> rfl, checkI x A n c w hx hn⟩

/-- How far the reader is behind it all. -/
def finR (s : Rst) : Rst := (many pW (pn (pns 4 (ps (pns 4 s).2).2).2).1 (pn (pns 4 (ps (pns 4 s).2).2).2).2).2
theorem finR_some (b : List UInt8) : finR (some b) = (rdR b).2 := rfl
theorem finR_none : finR none = none := rfl
theorem rdR_parts (b : List UInt8) {a0 a1 a2 a3 b0 b1 b2 b3 : Nat} {u : ByteArray} {l : List Wt} (h1 : (pns 4 (some b)).2 ≠ none → [a0, a1, a2, a3] = (pns 4 (some b)).1) (h2 : (ps (pns 4 (some b)).2).2 ≠ none → u = (ps (pns 4 (some b)).2).1)
    (h3 : (pns 4 (ps (pns 4 (some b)).2).2).2 ≠ none → [b0, b1, b2, b3] = (pns 4 (ps (pns 4 (some b)).2).2).1) (h4 : finR (some b) ≠ none → l = (many pW (pn (pns 4 (ps (pns 4 (some b)).2).2).2).1 (pn (pns 4 (ps (pns 4 (some b)).2).2).2).2).1)
    (hf : finR (some b) ≠ none) : (⟨a0, a1, a2, a3, u, b0, b1, b2, b3, l⟩ : Rc) = (rdR b).1 := by
  have k4 : (pn (pns 4 (ps (pns 4 (some b)).2).2).2).2 ≠ none := fun e => hf (by unfold finR; rw [e, many_none])
  have k3 : (pns 4 (ps (pns 4 (some b)).2).2).2 ≠ none := fun e => k4 (by rw [e]; rfl)
  have k2 : (ps (pns 4 (some b)).2).2 ≠ none := pns_noneR k3
  have k1 : (pns 4 (some b)).2 ≠ none := fun e => k2 (by rw [e]; rfl)
  have j1 := h1 k1
  have j2 := h2 k2
  have j3 := h3 k3
  have j4 := h4 hf
  simp only [pns, List.cons.injEq, and_true] at j1 j3
  obtain ⟨e0, e1, e2, e7⟩ := j1
  obtain ⟨e3, e4, e5, e6⟩ := j3
  subst e0 e1 e2 e7 e3 e4 e5 e6 j2 j4
  rfl

theorem ret_rc {fn : Func} {R : Ending → World → Prop} {a : Act} {w : World} {p u : Tmp} {g : Nat} {cs : Array Value} (hr : fn.results = #[.cell p 37, .tmp u]) (hp : a.tmps.getD p undef = .pointer (some ⟨g, 0, none⟩))
    (hB : Blk w g 37 cs) (hs : cs.size = 10) (hd : a.defers = []) (hR : R (.returned (.tuple #[.agg cs, a.tmps.getD u undef])) w) : bodyPost Tryd.prog fn R .ret a w := by
  refine bodyPost_ret ?_ hd hR
  have hp' : a.tmps[p]?.getD undef = .pointer (some ⟨g, 0, none⟩) := by simpa using hp
  simp [results, hr, hp', asAddr, run_loadVar_row w g 37 37 _ (0, 0) _ hB Tryd.underlying37 rfl (by rw [hs]; kernel_rfl)]
theorem checkR2 (x : Rc) (A : Option Addr) (n c : Nat) (w : World) (hx : WtAt w A n x.l) (hn : n ≤ 9223372036854775807) :
    ∃ (k : Int) (b : Bool), (k != 0) = b ∧ b = !mayR x ∧ Calls Tryd.prog 16 #[rcv x (.slice A n c)] w fun e w' => e = .returned (.int .i64 k) ∧ Below w.heap.size w w' :=
  ⟨_, _, rfl, by cases mayR x <;> rfl, checkR x A n c w hx hn⟩
end Go.Proofs.YtiafmbfeigcinaaDoor
set_option linter.unusedVariables false
set_option linter.unusedSimpArgs false
set_option maxRecDepth 100000
namespace Go.Proofs.YtiafmbfeigcinaaDoor
open Go.RowKit

theorem list_is {α : Type} {l l' : List α} (hl : l.length = l'.length) (h : ∀ i (h : i < l.length) (h' : i < l'.length), l[i]'h = l'[i]'h') : l = l' := List.ext_getElem hl h
theorem text_ne {s t : ByteArray} (h : s ≠ t) : (s.toList == t.toList) = false := by
  cases hh : (s.toList == t.toList) with
  | false => rfl
  | true =>
    refine absurd ?_ h
    rw [Lib.toList_data, Lib.toList_data] at hh
    exact tb_inj (by simpa using hh)
theorem text_eq (s : ByteArray) : (s.toList == s.toList) = true := by simp

set_option maxHeartbeats 2000000 in
theorem slEqCh (l l' : List Ch) (b : Bool) (hb : b = true ↔ l = l') (A1 A2 : Option Addr) (n1 n2 c1 c2 : Nat) (w : World) (h1 : ChAt w A1 n1 l) (h2 : ChAt w A2 n2 l') (hn1 : n1 ≤ 9223372036854775807) (hn2 : n2 ≤ 9223372036854775807) :
    Calls Tryd.prog 34 #[.slice A1 n1 c1, .slice A2 n2 c2] w fun e w' => e = .returned (.bool b) ∧ Below w.heap.size w w' := by
  by_cases hn : n1 = n2
  · subst hn
    have H1 := Lib.hid h1
    have H2 := Lib.hid h2
    have HB := Lib.hid hb
    clear h1 h2 hb
    go_enter Tryd.func34, Tryd.ntmps34
    go_wp2_with fail
    go_loopw [13] (fun i wr => ∃ (j : Nat), j ≤ n1 ∧ i = .int .i64 j ∧ Hid (∀ i (h : i < l.length) (h' : i < l'.length), i < j → l[i]'h = l'[i]'h') ∧ Hid (∀ p, wr.cell? p = w.cell? p) ∧ Hid (Below w.heap.size w wr)) (fun i _ => n1 - (intOf i).toNat)
    case atStart => exact ⟨0, Nat.zero_le _, rfl, Lib.hid (fun i _ _ h => absurd h (Nat.not_lt_zero i)), Lib.hid fun _ => rfl, Lib.hid (Below.refl _ _)⟩
    case round =>
      obtain ⟨j, hj, rfl, HE, HC, HBW⟩ := hrel
      by_cases hlt : j < n1
      · have hjl : j < l.length := by rw [H1.out.1]; exact hlt
        have hjm : j < l'.length := by rw [H2.out.1]; exact hlt
        obtain ⟨b1, o1, rfl, hc1⟩ := H1.out.2 (by omega)
        obtain ⟨b2, o2, rfl, hc2⟩ := H2.out.2 (by omega)
        have p := hc1 j hjl
        have q := hc2 j hjm
        obtain ⟨cc, hcc⟩ : ∃ cc, l[j]'hjl = cc := ⟨_, rfl⟩
        obtain ⟨dd, hdd⟩ : ∃ dd, l'[j]'hjm = dd := ⟨_, rfl⟩
        rw [hcc] at p
        rw [hdd] at q
        have HCC := Lib.hid hcc
        have HDD := Lib.hid hdd
        obtain ⟨u0, u1, u2⟩ := cc
        obtain ⟨v0, v1, v2⟩ := dd
        obtain ⟨p0, p1, p2⟩ := p
        obtain ⟨q0, q1, q2⟩ := q
        have P0 := (HC.out _).trans p0
        have Q0 := (HC.out _).trans q0
        have P1 := (HC.out _).trans p1
        have Q1 := (HC.out _).trans q1
        have P2 := (HC.out _).trans p2
        have Q2 := (HC.out _).trans q2
        clear hc1 hc2 hcc hdd
        have HF : Hid (∀ h : ¬ ((⟨u0, u1, u2⟩ : Ch) = (⟨v0, v1, v2⟩ : Ch)), b = false) := Lib.hid fun h => by
          cases hh : b with
          | false => rfl
          | true =>
            exfalso
            have := HB.out.1 hh
            subst this
            exact h (HCC.out.symm.trans HDD.out)
        by_cases e_u0 : u0 = v0
        · subst e_u0
          by_cases e_u1 : u1 = v1
          · subst e_u1
            have t_u1 := text_eq u1
            by_cases e_u2 : u2 = v2
            · subst e_u2
              have HE2 := Lib.hid (fun i (h : i < l.length) (h' : i < l'.length) (hi : i < j + 1) => show l[i]'h = l'[i]'h' from by
                by_cases hij : i = j
                · subst hij; exact HCC.out.trans HDD.out.symm
                · exact HE.out i h h' (by omega))
              clear HF
              go_wp2_with fail
              go_quiet (fail)
              go_wp2
              go_roundw
              case rel => exact ⟨j + 1, by omega, by go_num, HE2, Lib.hid fun p => HC.out p, Lib.hid (below_drewN HBW.out nq)⟩
              case measure => simp [intOf]; omega
            · have n1_ := show (u2 == v2) = false from by simpa using e_u2
              go_wp2_with fail
              go_quiet (fail)
              go_wp2
              go_ret
              exact ⟨by rw [HF.out (by intro e; injection e; contradiction)]; try rfl, (below_drewN HBW.out nq)⟩
          · have n1_ := text_ne e_u1
            go_wp2_with fail
            go_quiet (fail)
            go_wp2
            go_ret
            exact ⟨by rw [HF.out (by intro e; injection e; contradiction)]; try rfl, (below_drewN HBW.out nq)⟩
        · have n1_ := show (u0 == v0) = false from by simpa using e_u0
          go_wp2_with fail
          go_quiet (fail)
          go_wp2
          go_ret
          exact ⟨by rw [HF.out (by intro e; injection e; contradiction)]; try rfl, (below_drewN HBW.out nq)⟩
      · obtain rfl : j = n1 := by omega
        have hT : b = true := HB.out.2 (list_is (H1.out.1.trans H2.out.1.symm) fun i h h' => HE.out i h h' (by have := H1.out.1; omega))
        have HT := Lib.hid hT
        clear hT
        go_wp2
        go_ret
        exact ⟨by rw [HT.out]; try rfl, HBW.out⟩
  · have hF : b = false := by
      cases hh : b with
      | false => rfl
      | true =>
        exfalso
        have := hb.1 hh
        subst this
        exact hn (h1.1.symm.trans h2.1)
    subst hF
    have hn' : ¬ ((n1 : Int) = (n2 : Int)) := by omega
    have hn'' : ((n1 : Int) == (n2 : Int)) = false := by simpa using hn'
    clear hb h1 h2 hn
    go_enter Tryd.func34, Tryd.ntmps34
    go_wp2_with fail
    go_ret
    exact ⟨rfl, Below.refl _ _⟩

set_option maxHeartbeats 2000000 in
theorem slEqWt (l l' : List Wt) (b : Bool) (hb : b = true ↔ l = l') (A1 A2 : Option Addr) (n1 n2 c1 c2 : Nat) (w : World) (h1 : WtAt w A1 n1 l) (h2 : WtAt w A2 n2 l') (hn1 : n1 ≤ 9223372036854775807) (hn2 : n2 ≤ 9223372036854775807) :
    Calls Tryd.prog 45 #[.slice A1 n1 c1, .slice A2 n2 c2] w fun e w' => e = .returned (.bool b) ∧ Below w.heap.size w w' := by
  by_cases hn : n1 = n2
  · subst hn
    have H1 := Lib.hid h1
    have H2 := Lib.hid h2
    have HB := Lib.hid hb
    clear h1 h2 hb
    go_enter Tryd.func45, Tryd.ntmps45
    go_wp2_with fail
    go_loopw [13] (fun i wr => ∃ (j : Nat), j ≤ n1 ∧ i = .int .i64 j ∧ Hid (∀ i (h : i < l.length) (h' : i < l'.length), i < j → l[i]'h = l'[i]'h') ∧ Hid (∀ p, wr.cell? p = w.cell? p) ∧ Hid (Below w.heap.size w wr)) (fun i _ => n1 - (intOf i).toNat)
    case atStart => exact ⟨0, Nat.zero_le _, rfl, Lib.hid (fun i _ _ h => absurd h (Nat.not_lt_zero i)), Lib.hid fun _ => rfl, Lib.hid (Below.refl _ _)⟩
    case round =>
      obtain ⟨j, hj, rfl, HE, HC, HBW⟩ := hrel
      by_cases hlt : j < n1
      · have hjl : j < l.length := by rw [H1.out.1]; exact hlt
        have hjm : j < l'.length := by rw [H2.out.1]; exact hlt
        obtain ⟨b1, o1, rfl, hc1⟩ := H1.out.2 (by omega)
        obtain ⟨b2, o2, rfl, hc2⟩ := H2.out.2 (by omega)
        have p := hc1 j hjl
        have q := hc2 j hjm
        obtain ⟨cc, hcc⟩ : ∃ cc, l[j]'hjl = cc := ⟨_, rfl⟩
        obtain ⟨dd, hdd⟩ : ∃ dd, l'[j]'hjm = dd := ⟨_, rfl⟩
        rw [hcc] at p
        rw [hdd] at q
        have HCC := Lib.hid hcc
        have HDD := Lib.hid hdd
        obtain ⟨u0, u1⟩ := cc
        obtain ⟨v0, v1⟩ := dd
        obtain ⟨p0, p1⟩ := p
        obtain ⟨q0, q1⟩ := q
        have P0 := (HC.out _).trans p0
        have Q0 := (HC.out _).trans q0
        have P1 := (HC.out _).trans p1
        have Q1 := (HC.out _).trans q1
        clear hc1 hc2 hcc hdd
        have HF : Hid (∀ h : ¬ ((⟨u0, u1⟩ : Wt) = (⟨v0, v1⟩ : Wt)), b = false) := Lib.hid fun h => by
          cases hh : b with
          | false => rfl
          | true =>
            exfalso
            have := HB.out.1 hh
            subst this
            exact h (HCC.out.symm.trans HDD.out)
        by_cases e_u0 : u0 = v0
        · subst e_u0
          have t_u0 := text_eq u0
          by_cases e_u1 : u1 = v1
          · subst e_u1
            have HE2 := Lib.hid (fun i (h : i < l.length) (h' : i < l'.length) (hi : i < j + 1) => show l[i]'h = l'[i]'h' from by
              by_cases hij : i = j
              · subst hij; exact HCC.out.trans HDD.out.symm
              · exact HE.out i h h' (by omega))
            clear HF
            go_wp2_with fail
            go_quiet (fail)
            go_wp2
            go_roundw
            case rel => exact ⟨j + 1, by omega, by go_num, HE2, Lib.hid fun p => HC.out p, Lib.hid (below_drewN HBW.out nq)⟩
            case measure => simp [intOf]; omega
          · have n1_ := show (u1 == v1) = false from by simpa using e_u1
            go_wp2_with fail
            go_quiet (fail)
            go_wp2
            go_ret
            exact ⟨by rw [HF.out (by intro e; injection e; contradiction)]; try rfl, (below_drewN HBW.out nq)⟩
        · have n1_ := text_ne e_u0
          go_wp2_with fail
          go_quiet (fail)
          go_wp2
          go_ret
          exact ⟨by rw [HF.out (by intro e; injection e; contradiction)]; try rfl, (below_drewN HBW.out nq)⟩
      · obtain rfl : j = n1 := by omega
        have hT : b = true := HB.out.2 (list_is (H1.out.1.trans H2.out.1.symm) fun i h h' => HE.out i h h' (by have := H1.out.1; omega))
        have HT := Lib.hid hT
        clear hT
        go_wp2
        go_ret
        exact ⟨by rw [HT.out]; try rfl, HBW.out⟩
  · have hF : b = false := by
      cases hh : b with
      | false => rfl
      | true =>
        exfalso
        have := hb.1 hh
        subst this
        exact hn (h1.1.symm.trans h2.1)
    subst hF
    have hn' : ¬ ((n1 : Int) = (n2 : Int)) := by omega
    have hn'' : ((n1 : Int) == (n2 : Int)) = false := by simpa using hn'
    clear hb h1 h2 hn
    go_enter Tryd.func45, Tryd.ntmps45
    go_wp2_with fail
    go_ret
    exact ⟨rfl, Below.refl _ _⟩

set_option maxHeartbeats 2000000 in
theorem rSameW (l l' : List Wt) (b : Bool) (hb : b = true ↔ l = l') (A1 A2 : Option Addr) (n1 n2 c1 c2 : Nat) (w : World) (h1 : WtAt w A1 n1 l) (h2 : WtAt w A2 n2 l') (hn1 : n1 ≤ 9223372036854775807) (hn2 : n2 ≤ 9223372036854775807) :
    Calls Tryd.prog 46 #[.slice A1 n1 c1, .slice A2 n2 c2] w fun e w' => e = .returned (.bool b) ∧ Below w.heap.size w w' := by
  by_cases hn : n1 = n2
  · subst hn
    have H1 := Lib.hid h1
    have H2 := Lib.hid h2
    have HB := Lib.hid hb
    clear h1 h2 hb
    go_enter Tryd.func46, Tryd.ntmps46
    go_wp2_with fail
    go_loopw [5] (fun i wr => ∃ (j : Nat), j ≤ n1 ∧ i = .int .i64 j ∧ Hid (∀ i (h : i < l.length) (h' : i < l'.length), i < j → l[i]'h = l'[i]'h') ∧ Hid (∀ p, wr.cell? p = w.cell? p) ∧ Hid (Below w.heap.size w wr)) (fun i _ => n1 - (intOf i).toNat)
    case atStart => exact ⟨0, Nat.zero_le _, rfl, Lib.hid (fun i _ _ h => absurd h (Nat.not_lt_zero i)), Lib.hid fun _ => rfl, Lib.hid (Below.refl _ _)⟩
    case round =>
      obtain ⟨j, hj, rfl, HE, HC, HBW⟩ := hrel
      by_cases hlt : j < n1
      · have hjl : j < l.length := by rw [H1.out.1]; exact hlt
        have hjm : j < l'.length := by rw [H2.out.1]; exact hlt
        obtain ⟨b1, o1, rfl, hc1⟩ := H1.out.2 (by omega)
        obtain ⟨b2, o2, rfl, hc2⟩ := H2.out.2 (by omega)
        have p := hc1 j hjl
        have q := hc2 j hjm
        obtain ⟨cc, hcc⟩ : ∃ cc, l[j]'hjl = cc := ⟨_, rfl⟩
        obtain ⟨dd, hdd⟩ : ∃ dd, l'[j]'hjm = dd := ⟨_, rfl⟩
        rw [hcc] at p
        rw [hdd] at q
        have HCC := Lib.hid hcc
        have HDD := Lib.hid hdd
        obtain ⟨u0, u1⟩ := cc
        obtain ⟨v0, v1⟩ := dd
        obtain ⟨p0, p1⟩ := p
        obtain ⟨q0, q1⟩ := q
        have P0 := (HC.out _).trans p0
        have Q0 := (HC.out _).trans q0
        have P1 := (HC.out _).trans p1
        have Q1 := (HC.out _).trans q1
        clear hc1 hc2 hcc hdd
        have HF : Hid (∀ h : ¬ ((⟨u0, u1⟩ : Wt) = (⟨v0, v1⟩ : Wt)), b = false) := Lib.hid fun h => by
          cases hh : b with
          | false => rfl
          | true =>
            exfalso
            have := HB.out.1 hh
            subst this
            exact h (HCC.out.symm.trans HDD.out)
        by_cases e_u0 : u0 = v0
        · subst e_u0
          have t_u0 := text_eq u0
          by_cases e_u1 : u1 = v1
          · subst e_u1
            have HE2 := Lib.hid (fun i (h : i < l.length) (h' : i < l'.length) (hi : i < j + 1) => show l[i]'h = l'[i]'h' from by
              by_cases hij : i = j
              · subst hij; exact HCC.out.trans HDD.out.symm
              · exact HE.out i h h' (by omega))
            clear HF
            go_wp2_with fail
            go_quiet (fail)
            go_wp2
            go_roundw
            case rel => exact ⟨j + 1, by omega, by go_num, HE2, Lib.hid fun p => HC.out p, Lib.hid (below_drewN HBW.out nq)⟩
            case measure => simp [intOf]; omega
          · have n1_ := show (u1 == v1) = false from by simpa using e_u1
            go_wp2_with fail
            go_quiet (fail)
            go_wp2
            go_ret
            exact ⟨by rw [HF.out (by intro e; injection e; contradiction)]; try rfl, (below_drewN HBW.out nq)⟩
        · have n1_ := text_ne e_u0
          go_wp2_with fail
          go_quiet (fail)
          go_wp2
          go_ret
          exact ⟨by rw [HF.out (by intro e; injection e; contradiction)]; try rfl, (below_drewN HBW.out nq)⟩
      · obtain rfl : j = n1 := by omega
        have hT : b = true := HB.out.2 (list_is (H1.out.1.trans H2.out.1.symm) fun i h h' => HE.out i h h' (by have := H1.out.1; omega))
        have HT := Lib.hid hT
        clear hT
        go_wp2
        go_ret
        exact ⟨by rw [HT.out]; try rfl, HBW.out⟩
  · have hF : b = false := by
      cases hh : b with
      | false => rfl
      | true =>
        exfalso
        have := hb.1 hh
        subst this
        exact hn (h1.1.symm.trans h2.1)
    subst hF
    have hn' : ¬ ((n1 : Int) = (n2 : Int)) := by omega
    have hn'' : ((n1 : Int) == (n2 : Int)) = false := by simpa using hn'
    clear hb h1 h2 hn
    go_enter Tryd.func46, Tryd.ntmps46
    go_wp2_with fail
    go_ret
    exact ⟨rfl, Below.refl _ _⟩
end Go.Proofs.YtiafmbfeigcinaaDoor
set_option linter.unusedVariables false
set_option linter.unusedSimpArgs false
set_option maxRecDepth 100000
namespace Go.Proofs.YtiafmbfeigcinaaDoor
open Go.RowKit

set_option maxHeartbeats 2000000 in
theorem intent_c (x : It) (A : Option Addr) (n c : Nat) (w : World) (hx : ChAt w A n x.l) (hn : n ≤ 9223372036854775807) :
    Calls Tryd.prog 6 #[itv x (.slice A n c)] w fun e w' => e = ansT (mayI x) (txI x) ∧ Below w.heap.size w w' := by
  have hB0 := nbl w (.cells (itc x (.slice A n c)) 26)
  have HK := Lib.hid (checkI x A n c (w.alloc (.cells (itc x (.slice A n c)) 26)) (hx.below hB0) hn)
  have HB0 := Lib.hid hB0
  cases hm : mayI x
  · rw [hm] at HK
    obtain ⟨id, ep, pr, an, sw, sl, bw, bl, l⟩ := x
    clear hB0 hx
    go_enter Tryd.func6, Tryd.ntmps6
    go_wp2_with (go_at_call 8; refine HK.out.mono ?_; rintro e w1 ⟨rfl, hb1⟩)
    go_ret2
    exact ⟨rfl, HB0.out.trans (hb1.mono (by simp))⟩
  · rw [hm] at HK
    have hlen := txI_len x hm
    have hmm := hm
    simp only [mayI, hdr, Bool.and_eq_true] at hmm
    obtain ⟨⟨⟨⟨⟨⟨⟨m1, m2⟩, m3⟩, m4⟩, m5⟩, m6⟩, m7⟩, m8⟩ := hmm
    have m1 := isI_iff.1 m1
    have m2 := isN_iff.1 m2
    have m3 := isP_iff.1 m3
    have m4 := (isK_iff.1 m4).2
    have m7 := of_decide_eq_true m7
    have m9 := rise_all m8
    have hxl := hx.1
    have hxn : n ≤ 16 := by omega
    obtain ⟨p4, hp4⟩ : ∃ p4, p4 = ((([] ++ [x.id, x.ep, x.pr].flatMap nbs) ++ tbs x.an) ++ [(x.sw, x.sl), (x.bw, x.bl)].flatMap txP) ++ [(n : Int)].flatMap nbs := ⟨_, rfl⟩
    have hT : txI x = p4 ++ x.l.flatMap txC := by
      rw [hp4]
      unfold txI
      rw [hxl]
      simp [txP, txS, List.append_assoc]
    have hl4 : p4.length ≤ 2048 := by
      have := congrArg List.length hT
      rw [List.length_append] at this
      omega
    have hl3 : ((([] ++ [x.id, x.ep, x.pr].flatMap nbs) ++ tbs x.an) ++ [(x.sw, x.sl), (x.bw, x.bl)].flatMap txP).length ≤ 2048 := by
      have := congrArg List.length hp4
      rw [List.length_append] at this
      omega
    have hl2 : (([] ++ [x.id, x.ep, x.pr].flatMap nbs) ++ tbs x.an).length ≤ 2048 := by
      rw [List.length_append] at hl3
      omega
    have hl1 : ([] ++ [x.id, x.ep, x.pr].flatMap nbs).length ≤ 2048 := by
      rw [List.length_append] at hl2
      omega
    have hS : ∀ p ∈ [(x.sw, x.sl), (x.bw, x.bl)], mayP p = true := by simp [mayP, m5, m6]
    have HH0 := Lib.hid ((Has.nil (Below.refl w.heap.size w)).newBlk 26 (itc x (.slice A n c)))
    have HX := Lib.hid hx
    have HP4 := Lib.hid hp4
    have HTx := Lib.hid hT
    have hfb : ∀ j, ((x.l.take j).flatMap txC).length ≤ 4000 := by
      intro j
      have := flat_take_le txC x.l j 88 fun c hc => by
        obtain ⟨q1, q2, q3⟩ := m9 c hc
        have r1 := num_len q2
        have r2 := fl_len c.d
        have r3 := str_len q3 (Nat.le_refl _)
        unfold txC
        simp only [List.length_append]
        omega
      omega
    have HM9 := Lib.hid m9
    have HFB := Lib.hid hfb
    have HFT := Lib.hid (fun j h => flat_take txC x.l j h)
    obtain ⟨id, ep, pr, an, sw, sl, bw, bl, l⟩ := x
    simp only at hl1 hl2 hl3 hS m1 m2 m3 m4 hxl
    clear hx hp4 hT m5 m6 m7 m8 m9 hm hB0 hlen hfb
    go_enter Tryd.func6, Tryd.ntmps6
    go_wp2_with (first
      | (go_at_call 8; refine HK.out.mono ?_; rintro e w1 ⟨rfl, hb1⟩
         have H1 := (HH0.out.keep hb1).penNew
         have kx := H1.swap.blk.1
         have k0 := kx.cell 0
         have k1 := kx.cell 1
         have k2 := kx.cell 2
         simp at k0 k1 k2)
      | (go_at_call 20; refine (H1.penNums (by simp) [id, ep, pr] (by simp; omega) (by simp) (by simp) rfl rfl).mono ?_; rintro e w2 ⟨rfl, h2⟩
         clear H1 kx
         have ka := h2.swap.blk.1.cell 3
         simp at ka)
      | (go_at_call 21; refine (h2.penStr an (by omega) (by omega)).mono ?_; rintro e w3 ⟨rfl, h3⟩
         clear h2 ka
         have ky := h3.swap.blk.1
         have k4 := ky.cell 4
         have k5 := ky.cell 5
         have k6 := ky.cell 6
         have k7 := ky.cell 7
         simp at k4 k5 k6 k7)
      | (go_at_call 22; refine (h3.penStamps (by simp) [(sw, sl), (bw, bl)] hS (by simp) (by omega) rfl rfl).mono ?_; rintro e w4 ⟨rfl, h4⟩
         clear h3 ky
         have kl := h4.swap.blk.1.cell 8
         simp at kl)
      | (go_at_call 20; refine (h4.penNums (by simp) [(n : Int)] (by simp; omega) (by simp) (by omega) rfl rfl).mono ?_; rintro e w5 ⟨rfl, h5⟩
         clear h4 kl
         have km := h5.swap.blk.1.cell 8
         simp at km))
    rw [← HP4.out] at h5
    have H5 := Lib.hid h5
    clear h5 hl1 hl2 hl3 hS HH0 HK HP4 km
    go_loopw [38] (fun i wr => ∃ j : Nat, j ≤ n ∧ i = .int .i64 j ∧ Hid (Has w (penA w1.heap.size (p4 ++ (l.take j).flatMap txC) :: blkA w.heap.size 26 (itc ⟨id, ep, pr, an, sw, sl, bw, bl, l⟩ (.slice A n c)) :: []) wr)) (fun i _ => n - (intOf i).toNat)
    case atStart => exact ⟨0, Nat.zero_le _, rfl, by simpa using H5⟩
    case round =>
      obtain ⟨j, hj, rfl, HH⟩ := hrel
      by_cases hlt : j < n
      · have hjl : j < l.length := by omega
        have hfa := HX.out.below HH.out.bel
        obtain ⟨b, o, rfl, hc⟩ := hfa.2 (by omega)
        have hcj := hc j hjl
        have hq3 := HM9.out _ (List.getElem_mem hjl)
        have hfl := HFT.out j hjl
        have hfb := HFB.out j
        obtain ⟨cc, hcc⟩ : ∃ cc, l[j]'hjl = cc := ⟨_, rfl⟩
        rw [hcc] at hcj hq3
        try simp only at hfl
        rw [hcc] at hfl
        obtain ⟨q, s, d⟩ := cc
        simp only at hcj hq3
        have hq : 0 ≤ q ∧ q ≤ 9007199254740991 := ⟨hq3.1, hq3.2.1⟩
        have hs : s.size ≤ 64 := hq3.2.2
        have hnl := num_len hq.2
        have hdl := fl_len d
        have HA := Lib.hid (HH.out.newBlk 50 #[.int .i64 q, .string s, .bool d]).swap
        generalize hys : p4 ++ (l.take j).flatMap txC = ys at *
        have hyl : ys.length ≤ 6100 := by rw [← hys, List.length_append]; (try simp only at hfb); omega
        have HFL := Lib.hid (show ys ++ txC ⟨q, s, d⟩ = p4 ++ (l.take (j + 1)).flatMap txC by rw [hfl, ← hys, List.append_assoc])
        obtain ⟨k0, kr⟩ := hcj
        clear hc hfa hfl hys hfb hcc HH hq3
        go_wp2_with (first
          | (go_at_call 20; refine (HA.out.penNums (by simp) [q] (by simpa using hq) (by simp) (by omega) rfl rfl).mono ?_; rintro e z1 ⟨rfl, y1⟩
             have c2 := y1.swap.blk.1.cell 2
             simp at c2)
          | (go_at_call 23; refine (y1.penFlag d (by simp only [List.length_append, List.flatMap_cons, List.flatMap_nil, List.append_nil]; omega)).mono ?_; rintro e z2 ⟨rfl, y2⟩
             have c1 := y2.swap.blk.1.cell 1
             simp at c1)
          | (go_at_call 21; refine (y2.penStr s hs (by simp only [List.length_append, List.flatMap_cons, List.flatMap_nil, List.append_nil]; omega)).mono ?_; rintro e z3 ⟨rfl, y3⟩))
        go_roundw
        case rel =>
          refine ⟨j + 1, by omega, by go_num, Lib.hid ?_⟩
          rw [← HFL.out]
          have := y3.swap.tail
          simpa [txC, List.append_assoc] using this
        case measure => simp [intOf]; omega
      · have hjn : j = n := by omega
        have h6 := HH.out
        rw [List.take_of_length_le (by omega)] at h6
        have ht := HTx.out
        try simp only at ht
        clear HH
        go_wp2_with (go_at_call 24; refine h6.penText.mono ?_; rintro e w7 ⟨rfl, rfl⟩)
        go_ret2
        refine ⟨?_, h6.bel⟩
        rw [ansT_t, ht]
        rfl

set_option maxHeartbeats 2000000 in
theorem record_c (x : Rc) (A : Option Addr) (n c : Nat) (w : World) (hx : WtAt w A n x.l) (hn : n ≤ 9223372036854775807) :
    Calls Tryd.prog 14 #[rcv x (.slice A n c)] w fun e w' => e = ansT (mayR x) (txR x) ∧ Below w.heap.size w w' := by
  have hB0 := nbl w (.cells (rcc x (.slice A n c)) 37)
  have HK := Lib.hid (checkR x A n c (w.alloc (.cells (rcc x (.slice A n c)) 37)) (hx.below hB0) hn)
  have HB0 := Lib.hid hB0
  cases hm : mayR x
  · rw [hm] at HK
    obtain ⟨id, ep, st, pr, an, sw, sl, bw, bl, l⟩ := x
    clear hB0 hx
    go_enter Tryd.func14, Tryd.ntmps14
    go_wp2_with (go_at_call 16; refine HK.out.mono ?_; rintro e w1 ⟨rfl, hb1⟩)
    go_ret2
    exact ⟨rfl, HB0.out.trans (hb1.mono (by simp))⟩
  · rw [hm] at HK
    have hlen := txR_len x hm
    have hmm := hm
    simp only [mayR, hdr, Bool.and_eq_true] at hmm
    obtain ⟨⟨⟨⟨⟨⟨⟨m1, m2⟩, m3⟩, m4⟩, m5⟩, m6⟩, m7⟩, m8⟩ := hmm
    have m1 := isI_iff.1 m1
    have m2 := isN_iff.1 m2
    have m3 := isP_iff.1 m3
    have m4 := (isK_iff.1 m4).2
    have m7 := isS_iff.1 m7
    obtain ⟨m8, m9⟩ := areW_all m8
    have hxl := hx.1
    have hxn : n ≤ 32 := by omega
    obtain ⟨p4, hp4⟩ : ∃ p4, p4 = ((([] ++ [x.id, x.ep, x.st, x.pr].flatMap nbs) ++ tbs x.an) ++ [(x.sw, x.sl), (x.bw, x.bl)].flatMap txP) ++ [(n : Int)].flatMap nbs := ⟨_, rfl⟩
    have hT : txR x = p4 ++ x.l.flatMap txW := by
      rw [hp4]
      unfold txR
      rw [hxl]
      simp [txP, txS, List.append_assoc]
    have hl4 : p4.length ≤ 2048 := by
      have := congrArg List.length hT
      rw [List.length_append] at this
      omega
    have hl3 : ((([] ++ [x.id, x.ep, x.st, x.pr].flatMap nbs) ++ tbs x.an) ++ [(x.sw, x.sl), (x.bw, x.bl)].flatMap txP).length ≤ 2048 := by
      have := congrArg List.length hp4
      rw [List.length_append] at this
      omega
    have hl2 : (([] ++ [x.id, x.ep, x.st, x.pr].flatMap nbs) ++ tbs x.an).length ≤ 2048 := by
      rw [List.length_append] at hl3
      omega
    have hl1 : ([] ++ [x.id, x.ep, x.st, x.pr].flatMap nbs).length ≤ 2048 := by
      rw [List.length_append] at hl2
      omega
    have hS : ∀ p ∈ [(x.sw, x.sl), (x.bw, x.bl)], mayP p = true := by simp [mayP, m5, m6]
    have HH0 := Lib.hid ((Has.nil (Below.refl w.heap.size w)).newBlk 37 (rcc x (.slice A n c)))
    have HX := Lib.hid hx
    have HP4 := Lib.hid hp4
    have HTx := Lib.hid hT
    have hfb : ∀ j, ((x.l.take j).flatMap txW).length ≤ 4000 := by
      intro j
      have := flat_take_le txW x.l j 80 fun c hc => by
        obtain ⟨q1, q2, q3⟩ := m9 c hc
        have r1 := num_len q2
        have r3 := str_len q3 (Nat.le_refl _)
        unfold txW
        simp only [List.length_append]
        omega
      omega
    have HM9 := Lib.hid m9
    have HFB := Lib.hid hfb
    have HFT := Lib.hid (fun j h => flat_take txW x.l j h)
    obtain ⟨id, ep, st, pr, an, sw, sl, bw, bl, l⟩ := x
    simp only at hl1 hl2 hl3 hS m1 m2 m3 m4 m7 hxl
    clear hx hp4 hT m5 m6  m8 m9 hm hB0 hlen hfb
    go_enter Tryd.func14, Tryd.ntmps14
    go_wp2_with (first
      | (go_at_call 16; refine HK.out.mono ?_; rintro e w1 ⟨rfl, hb1⟩
         have H1 := (HH0.out.keep hb1).penNew
         have kx := H1.swap.blk.1
         have k0 := kx.cell 0
         have k1 := kx.cell 1
         have k2 := kx.cell 2
         have k3 := kx.cell 3
         simp at k0 k1 k2 k3)
      | (go_at_call 20; refine (H1.penNums (by simp) [id, ep, st, pr] (by simp; omega) (by simp) (by simp) rfl rfl).mono ?_; rintro e w2 ⟨rfl, h2⟩
         clear H1 kx
         have ka := h2.swap.blk.1.cell 4
         simp at ka)
      | (go_at_call 21; refine (h2.penStr an (by omega) (by omega)).mono ?_; rintro e w3 ⟨rfl, h3⟩
         clear h2 ka
         have ky := h3.swap.blk.1
         have k5 := ky.cell 5
         have k6 := ky.cell 6
         have k7 := ky.cell 7
         have k8 := ky.cell 8
         simp at k5 k6 k7 k8)
      | (go_at_call 22; refine (h3.penStamps (by simp) [(sw, sl), (bw, bl)] hS (by simp) (by omega) rfl rfl).mono ?_; rintro e w4 ⟨rfl, h4⟩
         clear h3 ky
         have kl := h4.swap.blk.1.cell 9
         simp at kl)
      | (go_at_call 20; refine (h4.penNums (by simp) [(n : Int)] (by simp; omega) (by simp) (by omega) rfl rfl).mono ?_; rintro e w5 ⟨rfl, h5⟩
         clear h4 kl
         have km := h5.swap.blk.1.cell 9
         simp at km))
    rw [← HP4.out] at h5
    have H5 := Lib.hid h5
    clear h5 hl1 hl2 hl3 hS HH0 HK HP4 km
    go_loopw [40] (fun i wr => ∃ j : Nat, j ≤ n ∧ i = .int .i64 j ∧ Hid (Has w (penA w1.heap.size (p4 ++ (l.take j).flatMap txW) :: blkA w.heap.size 37 (rcc ⟨id, ep, st, pr, an, sw, sl, bw, bl, l⟩ (.slice A n c)) :: []) wr)) (fun i _ => n - (intOf i).toNat)
    case atStart => exact ⟨0, Nat.zero_le _, rfl, by simpa using H5⟩
    case round =>
      obtain ⟨j, hj, rfl, HH⟩ := hrel
      by_cases hlt : j < n
      · have hjl : j < l.length := by omega
        have hfa := HX.out.below HH.out.bel
        obtain ⟨b, o, rfl, hc⟩ := hfa.2 (by omega)
        have hcj := hc j hjl
        have hq3 := HM9.out _ (List.getElem_mem hjl)
        have hfl := HFT.out j hjl
        have hfb := HFB.out j
        obtain ⟨cc, hcc⟩ : ∃ cc, l[j]'hjl = cc := ⟨_, rfl⟩
        rw [hcc] at hcj hq3
        try simp only at hfl
        rw [hcc] at hfl
        obtain ⟨s, q⟩ := cc
        simp only at hcj hq3
        have hq : 0 ≤ q ∧ q ≤ 9007199254740991 := ⟨hq3.1, hq3.2.1⟩
        have hs : s.size ≤ 64 := hq3.2.2
        have hnl := num_len hq.2
        have hsl := str_len hs (Nat.le_refl _)
        have HA := Lib.hid (HH.out.newBlk 68 #[.string s, .int .i64 q]).swap
        generalize hys : p4 ++ (l.take j).flatMap txW = ys at *
        have hyl : ys.length ≤ 6100 := by rw [← hys, List.length_append]; (try simp only at hfb); omega
        have HFL := Lib.hid (show ys ++ txW ⟨s, q⟩ = p4 ++ (l.take (j + 1)).flatMap txW by rw [hfl, ← hys, List.append_assoc])
        obtain ⟨k0, kr⟩ := hcj
        clear hc hfa hfl hys hfb hcc HH hq3
        go_wp2_with (first
          | (go_at_call 21; refine (HA.out.penStr s hs (by omega)).mono ?_; rintro e z1 ⟨rfl, y1⟩
             have c1 := y1.swap.blk.1.cell 1
             simp at c1)
          | (go_at_call 20; refine (y1.penNums (by simp) [q] (by simpa using hq) (by simp) (by simp only [List.length_append]; omega) rfl rfl).mono ?_; rintro e z3 ⟨rfl, y3⟩))
        go_roundw
        case rel =>
          refine ⟨j + 1, by omega, by go_num, Lib.hid ?_⟩
          rw [← HFL.out]
          have := y3.swap.tail
          simpa [txW, List.append_assoc] using this
        case measure => simp [intOf]; omega
      · have hjn : j = n := by omega
        have h6 := HH.out
        rw [List.take_of_length_le (by omega)] at h6
        have ht := HTx.out
        try simp only at ht
        clear HH
        go_wp2_with (go_at_call 24; refine h6.penText.mono ?_; rintro e w7 ⟨rfl, rfl⟩)
        go_ret2
        refine ⟨?_, h6.bel⟩
        rw [ansT_t, ht]
        rfl
end Go.Proofs.YtiafmbfeigcinaaDoor
set_option linter.unusedVariables false
set_option linter.unusedSimpArgs false
set_option maxRecDepth 100000
namespace Go.Proofs.YtiafmbfeigcinaaDoor
open Go.RowKit

theorem Blk.all2 {w : World} {g : Nat} {t : TypeId} {c0 c1 v0 v1 : Value} (h : Blk w g t #[c0, c1]) : Blk ((w.setCell ⟨g, 0, none⟩ v0).setCell ⟨g, 1, none⟩ v1) g t #[v0, v1] := by
  have := (h.set_ 0 v0).set_ 1 v1
  simpa using this
def AnsV (o : Option (ByteArray × Bool)) : Ending :=
  match o with
  | none => .returned (.tuple #[.string ⟨#[]⟩, .bool false, .int .i64 4])
  | some x => .returned (.tuple #[.string x.1, .bool x.2, .int .i64 0])
def AnsS (o : Option (Int × Int)) : Ending :=
  match o with
  | none => .returned (.tuple #[sv 0 0, .int .i64 4])
  | some x => .returned (.tuple #[sv x.1 x.2, .int .i64 0])
/-- How far a reader is behind a version; what it says. -/
def finV (s : Rst) : Rst := if (pf s).1 then (ps (pf s).2).2 else (pf s).2
theorem s0_long (t : ByteArray) {s0 : Rst} (hs0 : (if t.size ≤ 2048 then some (sb t) else none) = s0) : (s0 = some (sb t)) ∨ (s0 = none ∧ 2048 < (sb t).length) := by
  by_cases hz : t.size ≤ 2048
  · rw [if_pos hz] at hs0; exact .inl hs0.symm
  · rw [if_neg hz] at hs0; exact .inr ⟨hs0.symm, by rw [sb_len]; omega⟩
theorem tkV_of {b : List UInt8} {d : Bool} (hd : (pf (some b)).2 ≠ none → d = (pf (some b)).1) : tkV b = if d = true then (if (ps (pf (some b)).2).2 = some [] then some ((ps (pf (some b)).2).1, true) else none) else if (pf (some b)).2 = some [] then some (⟨#[]⟩, false) else none := by
  unfold tkV
  simp only
  cases h : (pf (some b)).2 with
  | none => cases (pf (some b)).1 <;> cases d <;> simp [ps_none]
  | some r =>
    rw [hd (by rw [h]; simp)]
set_option maxHeartbeats 1000000 in
theorem takeV_c (t : ByteArray) (w : World) (ht : t.size ≤ 225000000000000) :
    Calls Tryd.prog 39 #[.string t] w fun e w' => e = AnsV (tkV (sb t)) ∧ Below w.heap.size w w' := by
  have HN := Lib.hid ((Has.nil (Below.refl w.heap.size w)).rdNew t ht)
  obtain ⟨s0, hs0⟩ : ∃ s0 : Rst, (if t.size ≤ 2048 then some (sb t) else none) = s0 := ⟨_, rfl⟩
  rw [hs0] at HN
  have HS := Lib.hid (s0_long t hs0)
  clear hs0
  go_enter Tryd.func39, Tryd.ntmps39
  go_wp2_with (first
    | (go_at_call 62; refine HN.out.mono ?_; rintro e w1 ⟨g, rfl, h1⟩; have H1 := Lib.hid h1; clear h1 HN)
    | (go_at_call 63; refine H1.out.rdFlag.mono ?_; rintro e w2 ⟨d, ⟨rfl, hd⟩, h2⟩; have H2 := Lib.hid h2; clear h2 H1)
    | (go_at_call 64; refine H2.out.rdStr.mono ?_; rintro e w3 ⟨u, ⟨rfl, hu⟩, h3⟩; have H3 := Lib.hid h3; clear h3)
    | (go_at_call 65; first | (refine H3.out.rdDone.mono ?_; rintro e w6 ⟨rfl, rfl⟩; have hb3 := H3.out.bel) | (refine H2.out.rdDone.mono ?_; rintro e w6 ⟨rfl, rfl⟩; have hb3 := H2.out.bel)))
  all_goals go_ret3
  all_goals refine ⟨?_, hb3⟩
  · have e1 : d = true := by assumption
    have e2 : (!decide ((ps (pf s0).2).2 = some [])) = true := by assumption
    have hne : ¬ (ps (pf s0).2).2 = some [] := by simpa using e2
    rcases HS.out with rfl | ⟨rfl, hl⟩
    · rw [tkV_of hd, if_pos e1, if_neg hne]; rfl
    · rw [tkV_long hl]; rfl
  · have e1 : d = true := by assumption
    have e2 : (!decide ((ps (pf s0).2).2 = some [])) = false := by assumption
    have he : (ps (pf s0).2).2 = some [] := by simpa using e2
    rcases HS.out with rfl | ⟨rfl, hl⟩
    · rw [tkV_of hd, if_pos e1, if_pos he, ← hu (by rw [he]; simp)]; rfl
    · cases he
  · have e1 : d = false := by assumption
    have e2 : (!decide ((pf s0).2 = some [])) = true := by assumption
    have hne : ¬ (pf s0).2 = some [] := by simpa using e2
    rcases HS.out with rfl | ⟨rfl, hl⟩
    · rw [tkV_of hd, if_neg (by rw [e1]; simp), if_neg hne]; rfl
    · rw [tkV_long hl]; rfl
  · have e1 : d = false := by assumption
    have e2 : (!decide ((pf s0).2 = some [])) = false := by assumption
    have he : (pf s0).2 = some [] := by simpa using e2
    rcases HS.out with rfl | ⟨rfl, hl⟩
    · rw [tkV_of hd, if_neg (by rw [e1]; simp), if_pos he]; rfl
    · cases he
end Go.Proofs.YtiafmbfeigcinaaDoor
