/-
  Layer 11: how changes, writes, intents and records lie in memory; what is looked through by a function.
  Layer 11, the code's pen: numbers and texts, one behind the other.
  Layer 11, the code's pen: its calls, as a walk takes them.
  Layer 11, the code's reader: numbers, texts, flags, one behind the other.
  Layer 11, the code's reader: nums, str, flag, stamps, isDone, newReader.
  Layer 11, the code's reader: stamps, isDone, newReader.
  Layer 11, the code's reader as a walk takes it; many.
-/
import Derived.Test.YtgccichmdddbpaaGreatDoorPL23
import Derived.Test.YtgccichmdddbpaaGreatDoorPL01
import Derived.Test.YtgccichmdddbpaaGreatDoorPL24
import Derived.Maps.AppendAt
import Derived.Lib.ConvBytes
set_option linter.unusedVariables false
namespace Go.Proofs.YtgccichmdddbpaaGreatDoor
open Go.RowKit

abbrev chv (c : Ch) : Value := .agg #[.int .i64 c.q, .string c.s, .bool c.d]
def chc (c : Ch) : List Value := [.int .i64 c.q, .string c.s, .bool c.d]
abbrev itc (x : It) (v : Value) : Array Value := #[.int .i64 x.id, .int .i64 x.ep, .int .i64 x.pr, .string x.an, .int .i64 x.sw, .int .i64 x.sl, .int .i64 x.bw, .int .i64 x.bl, v]
abbrev itv (x : It) (v : Value) : Value := .agg (itc x v)
/-- Changes in memory; writes; numbers. -/
def ChAt (w : World) (A : Option Addr) (n : Nat) (l : List Ch) : Prop :=
  l.length = n ∧ (0 < n → ∃ b o, A = some ⟨b, o, none⟩ ∧ ∀ i (h : i < l.length), w.cell? ⟨b, o + i * 3, none⟩ = some (.int .i64 (l[i]'h).q) ∧ w.cell? ⟨b, o + i * 3 + 1, none⟩ = some (.string (l[i]'h).s) ∧ w.cell? ⟨b, o + i * 3 + 2, none⟩ = some (.bool (l[i]'h).d))
def WtAt (w : World) (A : Option Addr) (n : Nat) (l : List Wt) : Prop :=
  l.length = n ∧ (0 < n → ∃ b o, A = some ⟨b, o, none⟩ ∧ ∀ i (h : i < l.length), w.cell? ⟨b, o + i * 2, none⟩ = some (.string (l[i]'h).k) ∧ w.cell? ⟨b, o + i * 2 + 1, none⟩ = some (.int .i64 (l[i]'h).q))
def IAt (w : World) (A : Option Addr) (n : Nat) (l : List Int) : Prop :=
  l.length = n ∧ (0 < n → ∃ b o, A = some ⟨b, o, none⟩ ∧ ∀ i (h : i < l.length), w.cell? ⟨b, o + i, none⟩ = some (.int .i64 (l[i]'h)))
theorem ChAt.keep {w w' : World} {A : Option Addr} {n : Nat} {l : List Ch} (h : ChAt w A n l) (hk : ∀ a, A = some a → ∀ j v, w.cell? ⟨a.block, j, none⟩ = some v → w'.cell? ⟨a.block, j, none⟩ = some v) : ChAt w' A n l := by
  refine ⟨h.1, fun hn => ?_⟩
  obtain ⟨b, o, e, hc⟩ := h.2 hn
  refine ⟨b, o, e, fun i hi => ?_⟩
  obtain ⟨h1, h2, h3⟩ := hc i hi
  exact ⟨hk _ e _ _ h1, hk _ e _ _ h2, hk _ e _ _ h3⟩
theorem WtAt.keep {w w' : World} {A : Option Addr} {n : Nat} {l : List Wt} (h : WtAt w A n l) (hk : ∀ a, A = some a → ∀ j v, w.cell? ⟨a.block, j, none⟩ = some v → w'.cell? ⟨a.block, j, none⟩ = some v) : WtAt w' A n l := by
  refine ⟨h.1, fun hn => ?_⟩
  obtain ⟨b, o, e, hc⟩ := h.2 hn
  refine ⟨b, o, e, fun i hi => ?_⟩
  obtain ⟨h1, h2⟩ := hc i hi
  exact ⟨hk _ e _ _ h1, hk _ e _ _ h2⟩
theorem IAt.keep {w w' : World} {A : Option Addr} {n : Nat} {l : List Int} (h : IAt w A n l) (hk : ∀ a, A = some a → ∀ j v, w.cell? ⟨a.block, j, none⟩ = some v → w'.cell? ⟨a.block, j, none⟩ = some v) : IAt w' A n l := by
  refine ⟨h.1, fun hn => ?_⟩
  obtain ⟨b, o, e, hc⟩ := h.2 hn
  exact ⟨b, o, e, fun i hi => hk _ e _ _ (hc i hi)⟩
theorem kept_below {w w' : World} (hb : Below w.heap.size w w') (p : Addr) (v : Value) (h : w.cell? p = some v) : w'.cell? p = some v := (hb.cell (World.block_lt_of_cell? w _ h)).trans h
theorem ChAt.below {w w' : World} {A : Option Addr} {n : Nat} {l : List Ch} (h : ChAt w A n l) (hb : Below w.heap.size w w') : ChAt w' A n l := h.keep fun _ _ _ _ hv => kept_below hb _ _ hv
theorem WtAt.below {w w' : World} {A : Option Addr} {n : Nat} {l : List Wt} (h : WtAt w A n l) (hb : Below w.heap.size w w') : WtAt w' A n l := h.keep fun _ _ _ _ hv => kept_below hb _ _ hv
theorem IAt.below {w w' : World} {A : Option Addr} {n : Nat} {l : List Int} (h : IAt w A n l) (hb : Below w.heap.size w w') : IAt w' A n l := h.keep fun _ _ _ _ hv => kept_below hb _ _ hv
theorem ChAt.nil (w : World) (A : Option Addr) : ChAt w A 0 [] := ⟨rfl, fun h => absurd h (by omega)⟩
theorem WtAt.nil (w : World) (A : Option Addr) : WtAt w A 0 [] := ⟨rfl, fun h => absurd h (by omega)⟩

/-- What a function that looks at one behind the other says of all. -/
def scan {S E : Type} (ok : S → E → Bool) (nx : S → E → S) : S → List E → Bool
  | _, [] => true
  | s, c :: l => ok s c && scan ok nx (nx s c) l
theorem scan_rise : ∀ (a : Int) (l : List Ch), scan okCh (fun _ c => c.q) a l = rise a l
  | _, [] => rfl
  | a, c :: l => by rw [scan, rise, scan_rise]
def mayP (p : Int × Int) : Bool := may p.1 p.2
theorem scan_all : ∀ (l : List (Int × Int)), scan (fun (_ : Unit) p => mayP p) (fun u _ => u) () l = l.all mayP
  | [] => rfl
  | c :: l => by rw [scan, List.all_cons, scan_all]
end Go.Proofs.YtgccichmdddbpaaGreatDoor
set_option linter.unusedVariables false
set_option linter.unusedSimpArgs false
set_option maxRecDepth 100000
namespace Go.Proofs.YtgccichmdddbpaaGreatDoor
open Go.RowKit

/-- What a call makes of a thing on the blocks F. -/
def ATurn (A' : As) (F : Nat → Prop) (V V' : World) : Prop := ∃ F', A'.p V' F' ∧ Grow F V V' ∧ ∀ k, F' k → nF F V V' k
theorem ATurn.refl {A : As} {F : Nat → Prop} {V : World} (h : A.p V F) : ATurn A F V V := ⟨F, h, Grow.refl F V, fun k e => .inl e⟩
theorem nF_nF {F F1 : Nat → Prop} {V V1 V2 : World} (h1 : V.heap.size ≤ V1.heap.size) (h2 : V1.heap.size ≤ V2.heap.size) (hs : ∀ k, F1 k → nF F V V1 k) : ∀ k, nF F1 V1 V2 k → nF F V V2 k := by
  rintro k (e | e)
  · rcases hs k e with e | e
    · exact .inl e
    · exact .inr ⟨e.1, by omega⟩
  · exact .inr ⟨by omega, e.2⟩
theorem ATurn.trans {A1 A2 : As} {F : Nat → Prop} {V V1 V2 : World} (h : ATurn A1 F V V1) (h2 : ∀ F1, A1.p V1 F1 → (∀ k, F1 k → nF F V V1 k) → ATurn A2 F1 V1 V2) : ATurn A2 F V V2 := by
  obtain ⟨F1, a1, a2, a3⟩ := h
  obtain ⟨F2, b1, b2, b3⟩ := h2 F1 a1 a3
  exact ⟨F2, b1, a2.trans (b2.mono a3), fun k e => nF_nF a2.size b2.size a3 k (b3 k e)⟩
theorem ATurn.below {A1 : As} {F : Nat → Prop} {V V1 V2 : World} (h : ATurn A1 F V V1) (hb : Below V1.heap.size V1 V2) : ATurn A1 F V V2 :=
  h.trans fun F1 a1 _ => ⟨F1, A1.on a1 hb.size (fun k e => hb.block k (A1.lt a1 k e)), Grow.of_below hb, fun k e => .inl e⟩
theorem ATurn.pre {A1 : As} {F : Nat → Prop} {V0 V V1 : World} (hb : Below V0.heap.size V0 V) (h : ATurn A1 F V V1) (hF : ∀ k, F k → k < V0.heap.size) : ATurn A1 F V0 V1 := by
  obtain ⟨F1, a1, a2, a3⟩ := h
  exact ⟨F1, a1, (Grow.of_below (F := F) hb).trans (a2.mono fun k e => .inl e), nF_nF hb.size a2.size (fun k e => .inl e) |> fun f k e => f k (a3 k e)⟩
theorem own_block_ge {V : World} {B : Nat} {v : Value} {xs : List UInt8} (h : Own V B v xs) : ∀ k, v.ownBlock = some k → B ≤ k ∧ k < V.heap.size := by
  intro k e
  rcases h.2 with ⟨rfl, _⟩ | ⟨q, cap, cur, rfl, hq, hh, _⟩
  · cases e
  · have e3 : some q = some k := e
    injection e3 with e3
    subst e3
    exact ⟨hq, (Array.getElem?_eq_some_iff.1 hh).1⟩
theorem slice_form {V : World} {B s n : Nat} {e : TypeId} {v : Value} {l : List Value} (h : V.ownsRow B e s v n l) : ∃ A m c, v = .slice A m c := by
  rcases h.2 with ⟨rfl, _⟩ | ⟨q, cap, cur, rfl, _⟩
  · exact ⟨_, _, _, rfl⟩
  · exact ⟨_, _, _, rfl⟩
end Go.Proofs.YtgccichmdddbpaaGreatDoor
set_option linter.unusedVariables false
set_option linter.unusedSimpArgs false
set_option maxRecDepth 100000
namespace Go.Proofs.YtgccichmdddbpaaGreatDoor
open Go.RowKit

theorem IAt.lit (V : World) (ns : List Int) (t : TypeId) : IAt (V.alloc (.cells (ns.map (Value.int .i64)).toArray t)) (some ⟨V.heap.size, 0, none⟩) ns.length ns := by
  refine ⟨rfl, fun _ => ⟨_, _, rfl, fun i hi => ?_⟩⟩
  simp [hi]
theorem stamps_lit (V : World) (l : List (Int × Int)) (cs : Array Value) (t : TypeId) (h : cs = ((l.map fun p => [Value.int .i64 p.1, Value.int .i64 p.2]).flatten).toArray) : Stamps (V.alloc (.cells cs t)) (some ⟨V.heap.size, 0, none⟩) l.length l := by
  have hi : ∀ (l : List (Int × Int)) (i : Nat) (hi : i < l.length), ((l.map fun p => [Value.int .i64 p.1, Value.int .i64 p.2]).flatten)[i * 2]? = some (.int .i64 (l[i]'hi).1) ∧ ((l.map fun p => [Value.int .i64 p.1, Value.int .i64 p.2]).flatten)[i * 2 + 1]? = some (.int .i64 (l[i]'hi).2) := by
    intro l
    induction l with
    | nil => intro i hi; simp at hi
    | cons p l ih =>
      intro i hi
      cases i with
      | zero => exact ⟨rfl, rfl⟩
      | succ i =>
        have := ih i (by simpa using hi)
        have e1 : (i + 1) * 2 = i * 2 + 2 := by omega
        rw [e1]
        simpa using this
  subst h
  refine ⟨rfl, fun _ => ⟨_, _, rfl, fun i h => ?_⟩⟩
  obtain ⟨h1, h2⟩ := hi l i h
  constructor
  · simp only [World.cell?_alloc_new, Nat.zero_add, List.getElem?_toArray]
    exact h1
  · simp only [World.cell?_alloc_new, Nat.zero_add, List.getElem?_toArray]
    exact h2
section
variable {w V : World} {T : List As} {g : Nat} {xs : List UInt8}
end
end Go.Proofs.YtgccichmdddbpaaGreatDoor
set_option linter.unusedVariables false
set_option linter.unusedSimpArgs false
set_option maxRecDepth 100000
namespace Go.Proofs.YtgccichmdddbpaaGreatDoor
open Go.RowKit

/-- A reader: what is left (in memory that is newer than its block, or older and nobody's), or that it is bad. -/
def rdA (g : Nat) (s : Rst) : As where
  p V F := ∃ (A : Option Addr) (n c : Nat) (l : List UInt8), Blk V g 234 #[.slice A n c, .bool s.isNone] ∧ At V A n l ∧ n ≤ c ∧ c ≤ 9223372036854775807 ∧ l.length ≤ 2048 ∧ (∀ b, s = some b → b = l) ∧ (∀ a, A = some a → a.block ≠ g) ∧ ∀ k, F k ↔ (k = g ∨ ∃ a, A = some a ∧ 0 < n ∧ a.block = k)
  on {V V' F} h _ hk := by
    obtain ⟨A, n, c, l, h1, h2, h3, h4, h5, h6, h7, h8⟩ := h
    refine ⟨A, n, c, l, (hk _ ((h8 _).2 (.inl rfl))).trans h1, ⟨h2.1, fun hn => ?_⟩, h3, h4, h5, h6, h7, h8⟩
    obtain ⟨b, o, e, hc⟩ := h2.2 hn
    refine ⟨b, o, e, fun i hi => ?_⟩
    have hb := hk b ((h8 b).2 (.inr ⟨_, e, hn, rfl⟩))
    have := hc i hi
    unfold World.cell? at this ⊢
    simp only at this ⊢
    rw [hb]
    exact this
  lt {V F} h k e := by
    obtain ⟨A, n, c, l, h1, h2, h3, h4, h5, h6, h7, h8⟩ := h
    rcases (h8 k).1 e with rfl | ⟨a, ha, hn, rfl⟩
    · exact h1.lt
    · obtain ⟨b, o, e2, hc⟩ := h2.2 hn
      rw [ha] at e2
      cases e2
      exact World.block_lt_of_cell? V _ (hc 0 (by have := h2.1; omega))
/-- A block whose cells are set, one behind the other. -/
def sets (cs : Array Value) : List (Nat × Value) → Array Value
  | [] => cs
  | p :: l => sets (cs.setIfInBounds p.1 p.2) l
/-- What a reader reads: numbers. -/
def pns : Nat → Rst → List Nat × Rst
  | 0, s => ([], s)
  | k + 1, s => ((pn s).1 :: (pns k (pn s).2).1, (pns k (pn s).2).2)
/-- Pointers in memory. -/
def PAt (w : World) (A : Option Addr) (n : Nat) (x : Nat) (is : List Nat) : Prop :=
  is.length = n ∧ (0 < n → ∃ b o, A = some ⟨b, o, none⟩ ∧ ∀ i (h : i < is.length), w.cell? ⟨b, o + i, none⟩ = some (.pointer (some ⟨x, is[i]'h, none⟩)))
theorem rdNeed (g : Nat) (V : World) (A : Option Addr) (n c : Nat) (b d : Bool) (hB : Blk V g 234 #[.slice A n c, .bool b]) :
    Calls Tryz.prog 189 #[pt g, .bool d] V fun e w' => e = .returned (.tuple #[]) ∧ Blk w' g 234 #[.slice A n c, .bool (b || !d)] ∧ Grow (fun k => k = g) V w' := by
  have v0 := hB.cell 0
  have v1 := hB.cell 1
  have vf := hB.frozen 1
  simp at v0 v1
  have HS := Lib.hid (hB.set_ 1 (.bool true))
  have HG := Lib.hid ((Grow.refl (fun k => k = g) V).set (p := ⟨g, 1, none⟩) (.inl rfl) (.bool true))
  have HB := Lib.hid hB
  have HR := Lib.hid (Grow.refl (fun k => k = g) V)
  clear hB
  cases d
  · go_enter Tryz.func189, Tryz.ntmps189
    go_wp2
    go_end0
    exact ⟨rfl, by simpa using HS.out, HG.out⟩
  · go_enter Tryz.func189, Tryz.ntmps189
    go_wp2
    go_end0
    exact ⟨rfl, by simpa using HB.out, HR.out⟩
/-! ### two things, as one -/
def bothA (A B : As) : As where
  p V F := ∃ F1 F2, A.p V F1 ∧ B.p V F2 ∧ (∀ k, F1 k → ¬ F2 k) ∧ ∀ k, F k ↔ F1 k ∨ F2 k
  on {V V' F} h hs hk := by
    obtain ⟨F1, F2, h1, h2, h3, h4⟩ := h
    exact ⟨F1, F2, A.on h1 hs (fun k e => hk k ((h4 k).2 (.inl e))), B.on h2 hs (fun k e => hk k ((h4 k).2 (.inr e))), h3, h4⟩
  lt {V F} h k e := by
    obtain ⟨F1, F2, h1, h2, h3, h4⟩ := h
    rcases (h4 k).1 e with e | e
    · exact A.lt h1 k e
    · exact B.lt h2 k e
theorem Has.both {w V : World} {A B : As} {T : List As} (h : Has w (A :: B :: T) V) : Has w (bothA A B :: T) V := by
  obtain ⟨⟨F, ⟨F1, F2, h1, ⟨F3, F4, h2, h5, h6, h7⟩, h3, h4⟩, h8⟩, h9⟩ := h
  refine ⟨⟨F, ⟨fun k => F1 k ∨ F3 k, F4, ⟨F1, F3, h1, h2, fun k e e2 => h3 k e ((h7 k).2 (.inl e2)), fun k => Iff.rfl⟩, h5, fun k e e2 => ?_, fun k => ?_⟩, h8⟩, h9⟩
  · rcases e with e | e
    · exact h3 k e ((h7 k).2 (.inr e2))
    · exact h6 k e e2
  · rw [h4, h7, or_assoc]
theorem Has.unboth {w V : World} {A B : As} {T : List As} (h : Has w (bothA A B :: T) V) : Has w (A :: B :: T) V := by
  obtain ⟨⟨F, ⟨F1, F2, ⟨F3, F4, h1, h2, h3, h4⟩, h5, h6, h7⟩, h8⟩, h9⟩ := h
  refine ⟨⟨F, ⟨F3, fun k => F4 k ∨ F2 k, h1, ⟨F4, F2, h2, h5, fun k e e2 => h6 k ((h4 k).2 (.inr e)) e2, fun k => Iff.rfl⟩, fun k e e2 => ?_, fun k => ?_⟩, h8⟩, h9⟩
  · rcases e2 with e2 | e2
    · exact h3 k e e2
    · exact h6 k ((h4 k).2 (.inl e)) e2
  · rw [h7, h4, or_assoc]
/-- One number, or text, taken: what a reader is behind it, and the block that was written. -/
theorem rd_put {V w1 w3 : World} {g x i m c' : Nat} {A' : Option Addr} {t : TypeId} {cs : Array Value} {u : Value} {rest : List UInt8} {s s' : Rst} {F : Nat → Prop} (h : (bothA (rdA g s) (blkA x t cs)).p V F) (hb : Below V.heap.size V w1)
    (ho : Own w1 V.heap.size (.slice A' m c') rest) (hm : m ≤ c') (hc : c' ≤ 9223372036854775807) (hl : rest.length ≤ 2048)
    (hB : Blk w3 g 234 #[.slice A' m c', .bool s'.isNone]) (hG : Grow (fun k => k = g) ((w1.setCell ⟨x, i, none⟩ u).setCell ⟨g, 0, none⟩ (.slice A' m c')) w3) (hs : ∀ b, s' = some b → b = rest) :
    ATurn (bothA (rdA g s') (blkA x t (cs.setIfInBounds i u))) F V w3 := by
  obtain ⟨F1, F2, ⟨A, n, c, l, h1, h2, h3, h4, h5, h6, h7, h8⟩, ⟨hx, hx2⟩, hd, hF⟩ := h
  have hgx : g ≠ x := fun e => hd g ((h8 g).2 (.inl rfl)) ((hx2 g).2 e)
  have hgl := h1.lt
  have hxl := hx.lt
  have hx1 := hx.below hb hxl
  have hx3 : Blk w3 x t (cs.setIfInBounds i u) := by
    have e1 := hx1.set_ i u
    have e2 : Blk ((w1.setCell ⟨x, i, none⟩ u).setCell ⟨g, 0, none⟩ (.slice A' m c')) x t (cs.setIfInBounds i u) := by
      unfold Blk at e1 ⊢
      rw [World.setCell, Array.getElem?_modify, if_neg hgx]
      exact e1
    exact (hG.block x e2.lt (fun e => hgx e.symm)).trans e2
  have hsz : ((w1.setCell ⟨x, i, none⟩ u).setCell ⟨g, 0, none⟩ (.slice A' m c')).heap.size = w1.heap.size := by simp [World.setCell]
  have hgr : Grow F V w3 := by
    have g1 : Grow F V ((w1.setCell ⟨x, i, none⟩ u).setCell ⟨g, 0, none⟩ (.slice A' m c')) :=
      ((Grow.of_below (F := F) hb).set (p := ⟨x, i, none⟩) (.inl ((hF x).2 (.inr ((hx2 x).2 rfl)))) u).set (p := ⟨g, 0, none⟩) (.inl ((hF g).2 (.inl ((h8 g).2 (.inl rfl))))) _
    exact g1.trans (hG.mono fun k e => .inl (e ▸ (hF g).2 (.inl ((h8 g).2 (.inl rfl)))))
  have hge : ∀ a, A' = some a → 0 < m → V.heap.size ≤ a.block ∧ a.block < w1.heap.size := by
    intro a ha hm0
    have hk := own_block_ge ho
    obtain ⟨b, o, e, _⟩ := ho.at_.2 hm0
    obtain ⟨q, e2, e3, e4⟩ := ho.some_ hm0
    rw [ha] at e2
    cases e2
    exact ⟨e3, e4⟩
  have hge0 : ∀ a, A' = some a → V.heap.size ≤ a.block := by
    intro a ha
    rcases ho.2 with ⟨e, _⟩ | ⟨q, cap, cur, e, hq, _⟩
    · injection e with e _ _
      rw [ha] at e
      cases e
    · injection e with e _ _
      rw [ha] at e
      cases e
      exact hq
  have hat : At w3 A' m rest := by
    have e0 := ho.at_
    refine ⟨e0.1, fun hn => ?_⟩
    obtain ⟨b, o, e, hc⟩ := e0.2 hn
    have hb2 := hge _ e hn
    simp only at hb2
    refine ⟨b, o, e, fun j hj => ?_⟩
    have := hc j hj
    have e5 : w3.heap[b]? = w1.heap[b]? := by
      rw [hG.block b (by rw [hsz]; omega) (by omega)]
      simp only [World.setCell, Array.getElem?_modify]
      rw [if_neg (by omega), if_neg (by omega)]
    unfold World.cell? at this ⊢
    simp only at this ⊢
    rw [e5]
    exact this
  refine ⟨fun k => (k = g ∨ ∃ a, A' = some a ∧ 0 < m ∧ a.block = k) ∨ k = x, ⟨_, fun k => k = x, ⟨A', m, c', rest, hB, hat, hm, hc, hl, hs, fun a ha => by have := hge0 a ha; omega, fun k => Iff.rfl⟩, ⟨hx3, fun k => Iff.rfl⟩, fun k e e2 => ?_, fun k => Iff.rfl⟩, hgr, fun k e => ?_⟩
  · subst e2
    rcases e with e | ⟨a, ha, hm0, e⟩
    · exact hgx e.symm
    · have := hge a ha hm0
      omega
  · rcases e with (e | ⟨a, ha, hm0, e⟩) | e
    · exact .inl (e ▸ (hF g).2 (.inl ((h8 g).2 (.inl rfl))))
    · have := hge a ha hm0
      have := hG.size
      exact .inr (by omega)
    · exact .inl (e ▸ (hF x).2 (.inr ((hx2 x).2 rfl)))
end Go.Proofs.YtgccichmdddbpaaGreatDoor
set_option linter.unusedVariables false
set_option linter.unusedSimpArgs false
set_option maxRecDepth 100000
namespace Go.Proofs.YtgccichmdddbpaaGreatDoor
open Go.RowKit

theorem sets_snoc (cs : Array Value) : ∀ (l : List (Nat × Value)) (p : Nat × Value), sets cs (l ++ [p]) = (sets cs l).setIfInBounds p.1 p.2
  | [], p => rfl
  | q :: l, p => by
    show sets (cs.setIfInBounds q.1 q.2) (l ++ [p]) = _
    rw [sets_snoc]
    rfl
abbrev ivs (is : List Nat) (vs : List Nat) : List (Nat × Value) := (is.zip vs).map fun p => (p.1, Value.int .i64 (p.2 : Int))
theorem pns_snoc : ∀ (k : Nat) (s : Rst), pns (k + 1) s = ((pns k s).1 ++ [(pn (pns k s).2).1], (pn (pns k s).2).2)
  | 0, s => rfl
  | k + 1, s => by
    rw [pns, pns_snoc k, pns]
    rfl
theorem pn_noneR {s : Rst} (h : (pn s).2 ≠ none) : s ≠ none := by
  rintro rfl
  exact h rfl
theorem tk_le (b : List UInt8) : (tk b).1 ≤ 9007199254740991 := by
  rcases tk_cases b with e | e | ⟨l, rest, e1, e2, e3, e4, e5⟩
  · rw [e]; simp
  · rw [e]; simp
  · rw [e5]; exact e4

theorem ivs_snoc : ∀ (is vs : List Nat) (v : Nat) (h : vs.length < is.length), ivs is (vs ++ [v]) = ivs is vs ++ [(is[vs.length]'h, Value.int .i64 (v : Int))]
  | [], vs, v, h => by simp at h
  | a :: is, [], v, h => by simp [ivs]
  | a :: is, b :: vs, v, h => by
    have := ivs_snoc is vs v (by simpa using h)
    simp only [ivs, List.cons_append, List.zip_cons_cons, List.map_cons] at this ⊢
    rw [this]
    rfl
theorem sets_keep : ∀ (l : List (Nat × Value)) (cs : Array Value) (i : Nat) (u : Int), (∀ p ∈ l, ∃ z, p.2 = Value.int .i64 z) → cs[i]? = some (.int .i64 u) → ∃ z, (sets cs l)[i]? = some (.int .i64 z)
  | [], cs, i, u, _, h => ⟨u, h⟩
  | p :: l, cs, i, u, hp, h => by
    obtain ⟨z, hz⟩ := hp p List.mem_cons_self
    have hp' := fun q hq => hp q (List.mem_cons_of_mem _ hq)
    by_cases he : p.1 = i
    · refine sets_keep l (cs.setIfInBounds p.1 p.2) i z hp' ?_
      have hlt : i < cs.size := (Array.getElem?_eq_some_iff.1 h).1
      rw [he, Array.getElem?_setIfInBounds_self_of_lt hlt, hz]
    · refine sets_keep l (cs.setIfInBounds p.1 p.2) i u hp' ?_
      rw [Array.getElem?_setIfInBounds_ne he]
      exact h
theorem sets_int {is vs : List Nat} {cs : Array Value} {i : Nat} {u : Int} (h : cs[i]? = some (.int .i64 u)) : ∃ z, (sets cs (ivs is vs))[i]? = some (.int .i64 z) :=
  sets_keep _ cs i u (fun p hp => by obtain ⟨q, _, rfl⟩ := List.mem_map.1 hp; exact ⟨_, rfl⟩) h
set_option maxHeartbeats 2000000 in
theorem rdNums (g x : Nat) (t : TypeId) (cs : Array Value) (s : Rst) (A : Option Addr) (n c : Nat) (is : List Nat) (V : World) (F : Nat → Prop) (hP : (bothA (rdA g s) (blkA x t cs)).p V F) (hI : PAt V A n x is) (hA : ∀ a, A = some a → ¬ F a.block)
    (hn : n ≤ 1000) (hi : ∀ i ∈ is, ∃ u, cs[i]? = some (.int .i64 u)) :
    Calls Tryz.prog 142 #[pt g, .slice A n c] V fun e w' => e = .returned (.tuple #[]) ∧ ∃ vs : List Nat, vs.length = n ∧ (∀ v ∈ vs, v ≤ 9007199254740991) ∧ ((pns n s).2 ≠ none → vs = (pns n s).1) ∧ ATurn (bothA (rdA g (pns n s).2) (blkA x t (sets cs (ivs is vs)))) F V w' := by
  have HI := Lib.hid hI
  have HA := Lib.hid hA
  have HC := Lib.hid hi
  have hT := Lib.hid (ATurn.refl hP)
  clear hI hA hP hi
  go_enter Tryz.func142, Tryz.ntmps142
  go_wp2
  go_loopw [9] (fun i wr => ∃ (j : Nat) (vs : List Nat), j ≤ n ∧ i = .int .i64 j ∧ Hid (vs.length = j ∧ (∀ v ∈ vs, v ≤ 9007199254740991) ∧ ((pns j s).2 ≠ none → vs = (pns j s).1) ∧ ATurn (bothA (rdA g (pns j s).2) (blkA x t (sets cs (ivs is vs)))) F V wr)) (fun i _ => n - (intOf i).toNat)
  case atStart => exact ⟨0, [], Nat.zero_le _, rfl, rfl, fun v hv => (nomatch hv), fun _ => rfl, by simpa [ivs, sets, pns] using hT.out⟩
  case round =>
    obtain ⟨j, vs, hj, rfl, HH⟩ := hrel
    have hl := HI.out.1
    by_cases hlt : j < n
    · have hjl : j < is.length := by omega
      obtain ⟨q1, q2, q3, F1, b1, b4, b5⟩ := HH.out
      have hIw : PAt wr A n x is := by
        refine ⟨HI.out.1, fun hn => ?_⟩
        obtain ⟨b, o, e, hc⟩ := HI.out.2 hn
        refine ⟨b, o, e, fun i hi => ?_⟩
        have h1 := hc i hi
        have hlt := World.block_lt_of_cell? V _ h1
        have := b4.block b hlt (HA.out _ e)
        unfold World.cell? at h1 ⊢
        simp only at h1 ⊢
        rw [this]
        exact h1
      obtain ⟨b, o, rfl, hc⟩ := hIw.2 (by omega)
      have h1 := hc j hjl
      obtain ⟨u, hu⟩ := HC.out _ (List.getElem_mem hjl)
      have hsn := pns_snoc j s
      generalize hst : (pns j s).2 = st at *
      generalize hvl : (pns j s).1 = vl at *
      have hb1 := b1
      obtain ⟨F2, F3, ⟨A1, n1, c1, l1, d1, d2, d3, d4, d5, d6, d7, d8⟩, ⟨f1, f2⟩, f3, f4⟩ := b1
      have g0 := d1.cell 0
      have g1 := d1.cell 1
      simp at g0 g1
      rcases htk : tk l1 with ⟨v, rest, xx⟩
      have hv : v ≤ 9007199254740991 := by have := tk_le l1; rw [htk] at this; exact this
      have hrl : rest.length ≤ l1.length := by have := tk_rest l1; rw [htk] at this; exact this
      have HQ := Lib.hid (takeNum_any A1 n1 c1 l1 rest v xx wr d2 d3 d4 (by have := d2.1; omega) htk)
      have hE : (pn st).2.isNone = (st.isNone || !((xx : Int) == 0)) ∧ (∀ b, (pn st).2 = some b → b = rest) ∧ ((pn st).2 ≠ none → (pn st).1 = v) := by
        cases st with
        | none => exact ⟨rfl, fun b hb => (nomatch hb), fun h => absurd rfl h⟩
        | some l2 =>
          obtain rfl := d6 _ rfl
          unfold pn
          simp only [htk]
          by_cases h0 : xx = 0
          · subst h0
            exact ⟨rfl, fun b hb => by simpa using hb.symm, fun _ => rfl⟩
          · rw [if_neg h0]
            exact ⟨by simp [h0], fun b hb => (nomatch hb), fun h => absurd rfl h⟩
      obtain ⟨ix, hix⟩ : ∃ ix, is[j]'hjl = ix := ⟨_, rfl⟩
      rw [hix] at h1 hu
      obtain ⟨u2, hu2⟩ := sets_int (is := is) (vs := vs) hu
      have hiv := ivs_snoc is vs v (by omega)
      rw [show is[vs.length]'(by omega) = ix by rw [← hix]; congr 1] at hiv
      have hgx : g ≠ x := fun e => f3 g ((d8 g).2 (.inl rfl)) ((f2 g).2 e)
      have HB := Lib.hid d1
      have HXb := Lib.hid f1
      have hcx := f1.cell ix
      rw [hu2] at hcx
      have HPn := Lib.hid (show (pns (j + 1) s).2 = (pn st).2 ∧ (pns (j + 1) s).1 = vl ++ [(pn st).1] by rw [hsn]; exact ⟨rfl, rfl⟩)
      have HTr := Lib.hid (show Grow F V wr ∧ (∀ k, F1 k → nF F V wr k) from ⟨b4, b5⟩)
      have HBoth := Lib.hid hb1
      have HEE := Lib.hid hE
      have HIV := Lib.hid hiv
      have hd5 : rest.length ≤ 2048 := by omega
      have Q1 := Lib.hid q1
      have Q2 := Lib.hid q2
      have Q3 := Lib.hid q3
      clear hc hIw hsn hst hvl HH b4 b5 hb1 d2 d3 d4 d5 d6 d7 d8 f1 f2 f3 f4 hE hiv q1 q2 q3 htk hrl hu hu2 d1 hix
      go_wp2_with (first
        | (go_at_call 188; refine HQ.out.mono ?_; rintro e w1 ⟨Ar, mr, cr, rfl, hor, hr1, hr2, hb1⟩
           have hB1 := HB.out.below hb1 HB.out.lt
           have hX1 := HXb.out.below hb1 HXb.out.lt
           have x1 : w1.cell? ⟨x, ix, none⟩ = some (.int .i64 u2) := (hb1.cell (p := ⟨x, ix, none⟩) HXb.out.lt).trans hcx
           have x2 := hX1.frozen ix
           have hB2 : Blk (w1.setCell ⟨x, ix, none⟩ (.int .i64 (v : Int))) g 234 #[.slice A1 n1 c1, .bool st.isNone] := by
             unfold Blk at hB1 ⊢
             rw [World.setCell, Array.getElem?_modify, if_neg (fun e => hgx e.symm)]
             exact hB1
           have y0 := hB2.cell 0
           have y2 := hB2.frozen 0
           simp at y0
           have hB3 : Blk ((w1.setCell ⟨x, ix, none⟩ (.int .i64 (v : Int))).setCell ⟨g, 0, none⟩ (.slice Ar mr cr)) g 234 #[.slice Ar mr cr, .bool st.isNone] := hB2.set_ 0 _
           clear hB1 hX1 hB2)
        | (go_at_call 189; refine (rdNeed g _ Ar mr cr st.isNone _ hB3).mono ?_; rintro e w3 ⟨rfl, hB4, hG4⟩))
      rw [← HEE.out.1] at hB4
      go_roundw
      case rel =>
        obtain ⟨b4, b5⟩ := HTr.out
        obtain ⟨F5, p1, p2, p3⟩ := rd_put HBoth.out hb1 hor hr1 hr2 hd5 hB4 hG4 HEE.out.2.1
        refine ⟨j + 1, vs ++ [v], by omega, by go_num, Lib.hid ⟨by rw [List.length_append, Q1.out]; rfl, fun z hz => ?_, fun hne => ?_, F5, ?_, b4.trans (p2.mono b5), fun k e => nF_nF b4.size p2.size b5 k (p3 k e)⟩⟩
        · rcases List.mem_append.1 hz with hz | hz
          · exact Q2.out z hz
          · have := List.mem_singleton.1 hz
            omega
        · rw [HPn.out.1] at hne
          rw [HPn.out.2, Q3.out (pn_noneR hne), HEE.out.2.2 hne]
        · rw [HPn.out.1, HIV.out, sets_snoc]
          exact p1
      case measure => simp [intOf]; omega
    · have hjn : j = n := by omega
      have HE := Lib.hid HH.out
      subst hjn
      clear HH
      go_wp2
      go_end0
      exact ⟨rfl, vs, HE.out⟩

/-- The reader alone: what a call that reads leaves. -/
theorem rd_put1 {V w1 w3 : World} {g m c' : Nat} {A' : Option Addr} {rest : List UInt8} {s s' : Rst} {F : Nat → Prop} (h : (rdA g s).p V F) (hb : Below V.heap.size V w1)
    (ho : Own w1 V.heap.size (.slice A' m c') rest) (hm : m ≤ c') (hc : c' ≤ 9223372036854775807) (hl : rest.length ≤ 2048)
    (hB : Blk w3 g 234 #[.slice A' m c', .bool s'.isNone]) (hG : Grow (fun k => k = g) (w1.setCell ⟨g, 0, none⟩ (.slice A' m c')) w3) (hs : ∀ b, s' = some b → b = rest) :
    ATurn (rdA g s') F V w3 := by
  obtain ⟨A, n, c, l, h1, h2, h3, h4, h5, h6, h7, h8⟩ := h
  have hgl := h1.lt
  have hsz : (w1.setCell ⟨g, 0, none⟩ (.slice A' m c')).heap.size = w1.heap.size := by simp [World.setCell]
  have hgr : Grow F V w3 :=
    ((Grow.of_below (F := F) hb).set (p := ⟨g, 0, none⟩) (.inl ((h8 g).2 (.inl rfl))) _).trans (hG.mono fun k e => .inl (e ▸ (h8 g).2 (.inl rfl)))
  have hge : ∀ a, A' = some a → 0 < m → V.heap.size ≤ a.block ∧ a.block < w1.heap.size := by
    intro a ha hm0
    obtain ⟨q, e2, e3, e4⟩ := ho.some_ hm0
    rw [ha] at e2
    cases e2
    exact ⟨e3, e4⟩
  have hge0 : ∀ a, A' = some a → V.heap.size ≤ a.block := by
    intro a ha
    rcases ho.2 with ⟨e, _⟩ | ⟨q, cap, cur, e, hq, _⟩
    · injection e with e _ _
      rw [ha] at e
      cases e
    · injection e with e _ _
      rw [ha] at e
      cases e
      exact hq
  have hat : At w3 A' m rest := by
    have e0 := ho.at_
    refine ⟨e0.1, fun hn => ?_⟩
    obtain ⟨b, o, e, hc⟩ := e0.2 hn
    have hb2 := hge _ e hn
    simp only at hb2
    refine ⟨b, o, e, fun j hj => ?_⟩
    have := hc j hj
    have e5 : w3.heap[b]? = w1.heap[b]? := by
      rw [hG.block b (by rw [hsz]; omega) (by omega)]
      simp only [World.setCell, Array.getElem?_modify]
      rw [if_neg (by omega)]
    unfold World.cell? at this ⊢
    simp only at this ⊢
    rw [e5]
    exact this
  refine ⟨fun k => (k = g ∨ ∃ a, A' = some a ∧ 0 < m ∧ a.block = k), ⟨A', m, c', rest, hB, hat, hm, hc, hl, hs, fun a ha => by have := hge0 a ha; omega, fun k => Iff.rfl⟩, hgr, fun k e => ?_⟩
  rcases e with e | ⟨a, ha, hm0, e⟩
  · exact .inl (e ▸ (h8 g).2 (.inl rfl))
  · have := hge a ha hm0
    have := hG.size
    exact .inr (by omega)
set_option maxHeartbeats 2000000 in
theorem rdStr (g : Nat) (s : Rst) (V : World) (F : Nat → Prop) (hP : (rdA g s).p V F) :
    Calls Tryz.prog 143 #[pt g] V fun e w' => ∃ t : ByteArray, e = .returned (.string t) ∧ ((ps s).2 ≠ none → t = (ps s).1) ∧ ATurn (rdA g (ps s).2) F V w' := by
  have HP := Lib.hid hP
  obtain ⟨A1, n1, c1, l1, d1, d2, d3, d4, d5, d6, d7, d8⟩ := hP
  have g0 := d1.cell 0
  simp at g0
  rcases htk : tsx l1 64 with ⟨t, rest, xx⟩
  have hrl : rest.length ≤ l1.length := by have := tsx_rest l1 64; rw [htk] at this; exact this
  have HQ := Lib.hid (takeStr_any A1 n1 c1 64 l1 t rest xx V d2 d3 d4 (by have := d2.1; omega) htk)
  have hE : (ps s).2.isNone = (s.isNone || !((xx : Int) == 0)) ∧ (∀ b, (ps s).2 = some b → b = rest) ∧ ((ps s).2 ≠ none → (⟨t.toArray⟩ : ByteArray) = (ps s).1) := by
    cases s with
    | none => exact ⟨rfl, fun b hb => (nomatch hb), fun h => absurd rfl h⟩
    | some l2 =>
      obtain rfl := d6 _ rfl
      unfold ps
      simp only [htk]
      by_cases h0 : xx = 0
      · subst h0
        exact ⟨rfl, fun b hb => by simpa using hb.symm, fun _ => rfl⟩
      · rw [if_neg h0]
        exact ⟨by simp [h0], fun b hb => (nomatch hb), fun h => absurd rfl h⟩
  have HB := Lib.hid d1
  have HEE := Lib.hid hE
  have hd5 : rest.length ≤ 2048 := by omega
  clear d2 d3 d4 d5 d6 d7 d8 hE htk hrl d1
  go_enter Tryz.func143, Tryz.ntmps143
  go_wp2_with (first
    | (go_at_call 190; refine HQ.out.mono ?_; rintro e w1 ⟨Ar, mr, cr, rfl, hor, hr1, hr2, hb1⟩
       have hB1 := HB.out.below hb1 HB.out.lt
       have y0 := hB1.cell 0
       have y2 := hB1.frozen 0
       simp at y0
       have hB3 : Blk (w1.setCell ⟨g, 0, none⟩ (.slice Ar mr cr)) g 234 #[.slice Ar mr cr, .bool s.isNone] := hB1.set_ 0 _
       clear hB1)
    | (go_at_call 189; refine (rdNeed g _ Ar mr cr s.isNone _ hB3).mono ?_; rintro e w3 ⟨rfl, hB4, hG4⟩))
  rw [← HEE.out.1] at hB4
  go_ret
  exact ⟨_, rfl, HEE.out.2.2, rd_put1 HP.out hb1 hor hr1 hr2 hd5 hB4 hG4 HEE.out.2.1⟩
theorem rd_need {V w' : World} {g : Nat} {A : Option Addr} {n c : Nat} {s s' : Rst} {F : Nat → Prop} (h : (rdA g s).p V F) (h0 : Blk V g 234 #[.slice A n c, .bool s.isNone]) (hB : Blk w' g 234 #[.slice A n c, .bool s'.isNone]) (hG : Grow (fun k => k = g) V w') (hs : ∀ b, s' = some b → s = some b) :
    ATurn (rdA g s') F V w' := by
  obtain ⟨A1, n1, c1, l, h1, h2, h3, h4, h5, h6, h7, h8⟩ := h
  have e := h1.symm.trans h0
  simp at e
  obtain ⟨rfl, rfl, rfl⟩ := e
  refine ⟨F, ⟨A1, n1, c1, l, hB, ⟨h2.1, fun hn => ?_⟩, h3, h4, h5, fun b hb => h6 b (hs b hb), h7, h8⟩, hG.mono fun k e => (h8 k).2 (.inl e), fun k e => .inl e⟩
  obtain ⟨b, o, e, hc⟩ := h2.2 hn
  refine ⟨b, o, e, fun j hj => ?_⟩
  have := hc j hj
  have hlt := World.block_lt_of_cell? V _ this
  have hne := h7 _ e
  have e5 := hG.block b hlt hne
  unfold World.cell? at this ⊢
  simp only at this ⊢
  rw [e5]
  exact this
theorem bothA_mk {V : World} {A B : As} {F F2 : Nat → Prop} (hA : A.p V F) (hB : B.p V F2) (hd : ∀ k, F k → ¬ F2 k) : (bothA A B).p V (fun k => F k ∨ F2 k) := ⟨F, F2, hA, hB, hd, fun k => Iff.rfl⟩
/-- A thing, with a block that the call has made beside it, behind a call that turned both: the thing. -/
theorem ATurn.drop {V V1 V2 : World} {A A2 B2 : As} {F F2 : Nat → Prop} (hA : A.p V F) (hb : Below V.heap.size V V1) (hF2 : ∀ k, F2 k → V.heap.size ≤ k ∧ k < V1.heap.size) (h : ATurn (bothA A2 B2) (fun k => F k ∨ F2 k) V1 V2) :
    ∃ F3 F4, A2.p V2 F3 ∧ B2.p V2 F4 ∧ (∀ k, F3 k → ¬ F4 k) ∧ Grow F V V2 ∧ (∀ k, F3 k → nF F V V2 k) ∧ ∀ k, F4 k → nF F V V2 k := by
  obtain ⟨F1, ⟨F3, F4, a1, a2, a3, a4⟩, b1, b2⟩ := h
  have hs : ∀ k, nF (fun k => F k ∨ F2 k) V1 V2 k → nF F V V2 k := by
    rintro k ((e | e) | e)
    · exact .inl e
    · exact .inr ⟨(hF2 k e).1, by have := b1.size; have := (hF2 k e).2; omega⟩
    · exact .inr ⟨by have := hb.size; omega, e.2⟩
  refine ⟨F3, F4, a1, a2, a3, (Grow.of_below (F := F) hb).trans (b1.mono fun k e => e.elim .inl fun e => .inr (hF2 k e)), fun k e => hs k (b2 k ((a4 k).2 (.inl e))), fun k e => hs k (b2 k ((a4 k).2 (.inr e)))⟩
set_option maxHeartbeats 2000000 in
theorem rdFlag (g : Nat) (s : Rst) (V : World) (F : Nat → Prop) (hP : (rdA g s).p V F) :
    Calls Tryz.prog 147 #[pt g] V fun e w' => ∃ d : Bool, e = .returned (.bool d) ∧ ((pf s).2 ≠ none → d = (pf s).1) ∧ ATurn (rdA g (pf s).2) F V w' := by
  have hlt := (rdA g s).lt hP
  have hb1 := nbl V (.cells #[.int .i64 0] 3)
  have hb2 := hb1.alloc (by simp) (.cells #[.pointer (some ⟨V.heap.size, 0, none⟩)] 207)
  have hX : Blk ((V.alloc (.cells #[.int .i64 0] 3)).alloc (.cells #[.pointer (some ⟨V.heap.size, 0, none⟩)] 207)) V.heap.size 3 #[.int .i64 0] := (Blk.new V _ _).below (nbl _ _) (by simp)
  have hR : (rdA g s).p ((V.alloc (.cells #[.int .i64 0] 3)).alloc (.cells #[.pointer (some ⟨V.heap.size, 0, none⟩)] 207)) F := (rdA g s).on hP hb2.size fun k e => hb2.block k (hlt k e)
  have hQ := rdNums g V.heap.size 3 #[.int .i64 0] s (some ⟨V.heap.size + 1, 0, none⟩) 1 1 [0] _ _ (bothA_mk (B := blkA V.heap.size 3 #[.int .i64 0]) hR ⟨hX, fun k => Iff.rfl⟩ (fun k e e2 => by have := hlt k e; omega))
    ⟨rfl, fun _ => ⟨V.heap.size + 1, 0, rfl, fun i hi => by
      have : i = 0 := by simp at hi; omega
      subst this
      simp⟩⟩
    (fun a ha e => by
      cases ha
      rcases e with e | e
      · have := hlt _ e; simp at this; omega
      · simp at e) (by omega) (fun i hi => by simp at hi; subst hi; exact ⟨0, rfl⟩)
  have HQ := Lib.hid hQ
  have HP := Lib.hid hP
  have HB := Lib.hid hb2
  clear hX hR hQ hb1 hb2 hP
  go_enter Tryz.func147, Tryz.ntmps147
  go_wp2_with (first
    | (go_at_call 142; refine HQ.out.mono ?_; rintro e w1 ⟨rfl, vs, hvl, hvb, hvs, ht⟩
       obtain ⟨v, rfl⟩ : ∃ v, vs = [v] := by
         match vs, hvl with
         | [v], _ => exact ⟨v, rfl⟩
       obtain ⟨F3, F4, a1, ⟨a2, _⟩, a3, a4, a5, a6⟩ := ht.drop HP.out HB.out (fun k e => by subst e; exact ⟨Nat.le_refl _, by simp; omega⟩)
       have e1 : (pns 1 s).2 = (pn s).2 := rfl
       rw [e1] at a1 hvs
       have a0 := a1
       obtain ⟨A1, n1, c1, l1, d1, d2, d3, d4, d5, d6, d7, d8⟩ := a1
       have x0 := a2.cell 0
       simp [sets, ivs] at x0
       have hgx : V.heap.size ≠ g := fun e => by have := HP.out; obtain ⟨_, _, _, _, q1, _⟩ := this; have := q1.lt; omega
       have HX := Lib.hid a2
       clear a2 d2 d3 d4 d5 d6 d7 d8)
    | (go_at_call 189; refine (rdNeed g _ A1 n1 c1 _ _ d1).mono ?_; rintro e w3 ⟨rfl, hB4, hG4⟩
       have hX3 : Blk w3 V.heap.size 3 #[.int .i64 (v : Int)] := (hG4.block _ HX.out.lt hgx).trans HX.out
       have x3 := hX3.cell 0
       simp at x3))
  have hN : ((pn s).2.isNone || !decide ((v : Int) ≤ 1)) = (pf s).2.isNone ∧ ((pf s).2 ≠ none → ((v : Int) == 1) = (pf s).1) ∧ (∀ b, (pf s).2 = some b → (pn s).2 = some b) := by
    unfold pf
    rcases hp : pn s with ⟨u, o⟩
    rw [hp] at hvs
    cases o with
    | none => exact ⟨by simp, fun h => absurd (by simp) h, fun b hb => by simp at hb⟩
    | some r =>
      have e := hvs (by simp)
      have e2 : (pns 1 s).1 = [u] := by show [(pn s).1] = _; rw [hp]
      rw [e2] at e
      obtain rfl : v = u := by simpa using e
      by_cases h1 : 1 < v
      · simp [h1]
        omega
      · simp [h1]
        constructor
        · omega
        · rw [Bool.eq_iff_iff]
          simp
          omega
  rw [hN.1] at hB4
  go_ret
  obtain ⟨F5, p1, p2, p3⟩ := rd_need a0 d1 hB4 hG4 hN.2.2
  exact ⟨_, rfl, hN.2.1, F5, p1, a4.trans (p2.mono a5), nF_nF a4.size p2.size a5 |> fun f k e => f k (p3 k e)⟩
end Go.Proofs.YtgccichmdddbpaaGreatDoor
set_option linter.unusedVariables false
set_option linter.unusedSimpArgs false
set_option maxRecDepth 100000
namespace Go.Proofs.YtgccichmdddbpaaGreatDoor
open Go.RowKit

theorem pns_add : ∀ (a b : Nat) (s : Rst), pns (a + b) s = ((pns a s).1 ++ (pns b (pns a s).2).1, (pns b (pns a s).2).2)
  | 0, b, s => by rw [Nat.zero_add]; rfl
  | a + 1, b, s => by
    rw [show a + 1 + b = (a + b) + 1 by omega, pns, pns_add a b, pns]
    rfl
theorem pns_none : ∀ (a : Nat), (pns a none).2 = none
  | 0 => rfl
  | a + 1 => by rw [pns]; exact pns_none a
theorem pns_noneR {a : Nat} {s : Rst} (h : (pns a s).2 ≠ none) : s ≠ none := by
  rintro rfl
  exact h (pns_none a)
theorem sets_app (cs : Array Value) : ∀ (l m : List (Nat × Value)), sets cs (l ++ m) = sets (sets cs l) m
  | [], m => rfl
  | p :: l, m => sets_app (cs.setIfInBounds p.1 p.2) l m
theorem ivs_app (a b vs us : List Nat) (h : a.length = vs.length) : ivs (a ++ b) (vs ++ us) = ivs a vs ++ ivs b us := by
  unfold ivs
  rw [List.zip_append h, List.map_append]
def dbl (os : List Nat) : List Nat := os.flatMap fun o => [o, o + 1]
theorem dbl_len : ∀ os : List Nat, (dbl os).length = 2 * os.length
  | [] => rfl
  | o :: os => by
    have := dbl_len os
    unfold dbl at this ⊢
    rw [List.flatMap_cons, List.length_append, this]
    simp
    omega
theorem dbl_snoc (os : List Nat) (j : Nat) (h : j < os.length) : dbl (os.take (j + 1)) = dbl (os.take j) ++ [os[j]'h, os[j]'h + 1] := by
  unfold dbl
  rw [List.take_succ_eq_append_getElem h, List.flatMap_append]
  simp
set_option maxHeartbeats 1000000 in
theorem rdStamps (g x : Nat) (t : TypeId) (cs : Array Value) (s : Rst) (A : Option Addr) (n c : Nat) (os : List Nat) (V : World) (F : Nat → Prop) (hP : (bothA (rdA g s) (blkA x t cs)).p V F) (hI : PAt V A n x os) (hA : ∀ a, A = some a → ¬ F a.block)
    (hn : n ≤ 1000) (hi : ∀ o ∈ os, (∃ u, cs[o]? = some (.int .i64 u)) ∧ ∃ u, cs[o + 1]? = some (.int .i64 u)) :
    Calls Tryz.prog 144 #[pt g, .slice A n c] V fun e w' => e = .returned (.tuple #[]) ∧ ∃ vs : List Nat, vs.length = 2 * n ∧ (∀ v ∈ vs, v ≤ 9007199254740991) ∧ ((pns (2 * n) s).2 ≠ none → vs = (pns (2 * n) s).1) ∧ ATurn (bothA (rdA g (pns (2 * n) s).2) (blkA x t (sets cs (ivs (dbl os) vs)))) F V w' := by
  have HI := Lib.hid hI
  have HA := Lib.hid hA
  have HC := Lib.hid hi
  have hT := Lib.hid (ATurn.refl hP)
  clear hI hA hP hi
  go_enter Tryz.func144, Tryz.ntmps144
  go_wp2
  go_loopw [8] (fun i wr => ∃ (j : Nat) (vs : List Nat), j ≤ n ∧ i = .int .i64 j ∧ Hid (vs.length = 2 * j ∧ (∀ v ∈ vs, v ≤ 9007199254740991) ∧ ((pns (2 * j) s).2 ≠ none → vs = (pns (2 * j) s).1) ∧ ATurn (bothA (rdA g (pns (2 * j) s).2) (blkA x t (sets cs (ivs (dbl (os.take j)) vs)))) F V wr)) (fun i _ => n - (intOf i).toNat)
  case atStart => exact ⟨0, [], Nat.zero_le _, rfl, rfl, fun v hv => (nomatch hv), fun _ => rfl, by simpa [ivs, sets, pns, dbl] using hT.out⟩
  case round =>
    obtain ⟨j, vs, hj, rfl, HH⟩ := hrel
    have hl := HI.out.1
    by_cases hlt : j < n
    · have hjl : j < os.length := by omega
      obtain ⟨q1, q2, q3, F1, b1, b4, b5⟩ := HH.out
      have hIw : PAt wr A n x os := by
        refine ⟨HI.out.1, fun hn => ?_⟩
        obtain ⟨b, o, e, hc⟩ := HI.out.2 hn
        refine ⟨b, o, e, fun i hi => ?_⟩
        have h1 := hc i hi
        have hlt := World.block_lt_of_cell? V _ h1
        have := b4.block b hlt (HA.out _ e)
        unfold World.cell? at h1 ⊢
        simp only at h1 ⊢
        rw [this]
        exact h1
      obtain ⟨b, o, rfl, hc⟩ := hIw.2 (by omega)
      have h1 := hc j hjl
      obtain ⟨⟨u, hu⟩, ⟨u2, hu2⟩⟩ := HC.out _ (List.getElem_mem hjl)
      have hsn := pns_add (2 * j) 2 s
      have hds := dbl_snoc os j hjl
      have hdl := dbl_len (os.take j)
      generalize hst : (pns (2 * j) s).2 = st at *
      generalize hvl : (pns (2 * j) s).1 = vl at *
      obtain ⟨ix, hix⟩ : ∃ ix, os[j]'hjl = ix := ⟨_, rfl⟩
      rw [hix] at h1 hu hu2 hds
      have hlt1 := (bothA (rdA g st) (blkA x t (sets cs (ivs (dbl (os.take j)) vs)))).lt b1
      have HX := Lib.hid (fun (k : Nat) => by
        have hb := below_drewN (Below.refl wr.heap.size wr) k
        have hb2 := hb.alloc (by exact Nat.le_refl _) (.cells #[.pointer (some ⟨x, ix, none⟩), .pointer (some ⟨x, ix + 1, none⟩)] 207)
        exact rdNums g x t (sets cs (ivs (dbl (os.take j)) vs)) st (some ⟨wr.heap.size, 0, none⟩) 2 2 [ix, ix + 1] ((wr.drewN k).alloc (.cells #[.pointer (some ⟨x, ix, none⟩), .pointer (some ⟨x, ix + 1, none⟩)] 207)) F1
          ((bothA (rdA g st) (blkA x t (sets cs (ivs (dbl (os.take j)) vs)))).on b1 hb2.size fun k e => hb2.block k (hlt1 k e))
          ⟨rfl, fun _ => ⟨wr.heap.size, 0, rfl, fun i hi => by
            have hnew := (Blk.new (wr.drewN k) 207 #[.pointer (some ⟨x, ix, none⟩), .pointer (some ⟨x, ix + 1, none⟩)])
            match i, hi with
            | 0, _ => exact hnew.cell 0
            | 1, _ => exact hnew.cell 1
            | i + 2, hi => exact absurd hi (by simp)⟩⟩
          (fun a ha e => by cases ha; have := hlt1 _ e; simp at this) (by omega)
          (fun i hi => by
            simp at hi
            rcases hi with rfl | rfl
            · exact sets_int hu
            · exact sets_int hu2))
      have HTr := Lib.hid (show Grow F V wr ∧ (∀ k, F1 k → nF F V wr k) ∧ ∀ k, F1 k → k < wr.heap.size from ⟨b4, b5, hlt1⟩)
      have HPn := Lib.hid (show (pns (2 * (j + 1)) s).2 = (pns 2 st).2 ∧ (pns (2 * (j + 1)) s).1 = vl ++ (pns 2 st).1 by rw [show 2 * (j + 1) = 2 * j + 2 by omega, hsn]; exact ⟨rfl, rfl⟩)
      have hdl2 : (dbl (os.take j)).length = vs.length := by rw [hdl, q1, List.length_take]; omega
      have HDS := Lib.hid (show ∀ us, sets cs (ivs (dbl (os.take (j + 1))) (vs ++ us)) = sets (sets cs (ivs (dbl (os.take j)) vs)) (ivs [ix, ix + 1] us) from fun us => by rw [hds, ivs_app _ _ _ _ hdl2, sets_app])
      have Q1 := Lib.hid q1
      have Q2 := Lib.hid q2
      have Q3 := Lib.hid q3
      clear hc hIw hsn hst hvl HH b4 b5 b1 q1 q2 q3 hu hu2 hix hds hdl hdl2 hlt1
      go_wp2_with fail
      go_region_with (go_at_call 142; refine (HX.out _).mono ?_; rintro e w3 ⟨rfl, us, hul, hub, hus, ht⟩)
      go_wp2
      go_roundw
      case rel =>
        obtain ⟨b4, b5, hlt1⟩ := HTr.out
        obtain ⟨F5, p1, p2, p3⟩ := ht.pre ((below_drewN (Below.refl wr.heap.size wr) 1).alloc (by exact Nat.le_refl _) _) hlt1
        refine ⟨j + 1, vs ++ us, by omega, by go_num, Lib.hid ⟨by rw [List.length_append, Q1.out, hul]; omega, fun z hz => ?_, fun hne => ?_, F5, ?_, b4.trans (p2.mono b5), fun k e => nF_nF b4.size p2.size b5 k (p3 k e)⟩⟩
        · rcases List.mem_append.1 hz with hz | hz
          · exact Q2.out z hz
          · exact hub z hz
        · rw [HPn.out.1] at hne
          rw [HPn.out.2, Q3.out (pns_noneR hne), hus hne]
        · rw [HPn.out.1, HDS.out]
          exact p1
      case measure => simp [intOf]; omega
    · have hjn : j = n := by omega
      have HE := Lib.hid HH.out
      subst hjn
      clear HH
      go_wp2
      go_end0
      have := HE.out
      rw [List.take_of_length_le (by omega)] at this
      exact ⟨rfl, vs, this⟩
theorem rdDone (g : Nat) (s : Rst) (V : World) (F : Nat → Prop) (hP : (rdA g s).p V F) :
    Calls Tryz.prog 148 #[pt g] V fun e w' => e = .returned (.bool (decide (s = some []))) ∧ w' = V := by
  obtain ⟨A, n, c, l, d1, d2, d3, d4, d5, d6, d7, d8⟩ := hP
  have g0 := d1.cell 0
  have g1 := d1.cell 1
  simp at g0 g1
  have hl := d2.1
  cases s with
  | none =>
    clear d1 d2 d8
    go_enter Tryz.func148, Tryz.ntmps148
    go_wp2
    go_ret
    exact ⟨rfl, rfl⟩
  | some l2 =>
    obtain rfl := d6 _ rfl
    have hd : decide (some l2 = some ([] : List UInt8)) = ((n : Int) == 0) := by
      rw [← hl]
      cases l2 <;> simp
      omega
    have HD := Lib.hid hd
    clear d1 d2 d8 hd
    go_enter Tryz.func148, Tryz.ntmps148
    go_wp2
    go_ret
    exact ⟨by rw [HD.out]; rfl, rfl⟩
theorem newRd (t : ByteArray) (V : World) (ht : t.size ≤ 225000000000000) :
    Calls Tryz.prog 141 #[.string t] V fun e w' => ∃ g, e = .returned (pt g) ∧ Below V.heap.size V w' ∧ ∃ F, (rdA g (if t.size ≤ 2048 then some (sb t) else none)).p w' F ∧ ∀ k, F k → V.heap.size ≤ k := by
  by_cases h : t.size ≤ 2048
  · rw [if_pos h]
    have hW := bytesWorld_below V 5 t
    have hA := bytesWorld_at V 5 t
    have kc := fun w => Lib.run_convert_string_bytes (P := Tryz.prog) w 9 164 5 t Tryz.underlying9 Tryz.underlying164 Tryz.underlying5
    have hc1 := grownCap_ge V t.size 0 5
    have hc2 := grownCap_le_maxLen V t.size 0 5 (by unfold maxLen; omega)
    have hc3 : maxLen ≤ 9223372036854775807 := by decide
    have hsz : (Lib.bytesWorld V 5 t).heap.size = V.heap.size + 1 := Lib.bytesWorld_size V 5 t
    have HA := Lib.hid hA
    have HW := Lib.hid hW
    have kc0 := kc V
    clear hA hW kc
    go_enter Tryz.func141, Tryz.ntmps141
    go_wp2
    go_ret
    refine ⟨V.heap.size + 1, by first | rfl | (simp [hsz]; done), HW.out.alloc HW.out.size _, fun k => (k = V.heap.size + 1 ∨ ∃ a, some (⟨V.heap.size, 0, none⟩ : Addr) = some a ∧ 0 < t.size ∧ a.block = k), ⟨some ⟨V.heap.size, 0, none⟩, t.size, grownCap V t.size 0 5, sb t, ?_, HA.out.alloc _, hc1, by omega, by rw [sb_len]; exact h, fun b hb => by simpa using hb.symm, fun a ha => by cases ha; simp, fun k => Iff.rfl⟩, fun k e => ?_⟩
    · rw [← hsz]
      exact Blk.new _ _ _
    · rcases e with e | ⟨a, ha, _, e⟩
      · omega
      · cases ha
        simp at e
        omega
  · rw [if_neg h]
    go_enter Tryz.func141, Tryz.ntmps141
    go_wp2
    go_ret
    refine ⟨_, rfl, nbl V _, fun k => k = V.heap.size, ⟨none, 0, 0, [], Blk.new V _ _, ⟨rfl, fun h0 => absurd h0 (by omega)⟩, Nat.le_refl _, by omega, by simp, fun b hb => (nomatch hb), fun a ha => (nomatch ha), fun k => ⟨.inl, fun e => e.elim id (fun ⟨a, ha, _⟩ => nomatch ha)⟩⟩, fun k e => Nat.le_of_eq e.symm⟩
end Go.Proofs.YtgccichmdddbpaaGreatDoor
set_option linter.unusedVariables false
set_option linter.unusedSimpArgs false
set_option maxRecDepth 100000
namespace Go.Proofs.YtgccichmdddbpaaGreatDoor
open Go.RowKit

section
variable {w V : World} {T : List As} {g x : Nat} {s : Rst} {t : TypeId} {cs : Array Value}
theorem Has.acallE {α : Type} {A : As} {A' : α → As} {Q : α → Ending → Prop} (h : Has w (A :: T) V) {W : World} {f : FuncId} {args : Array Value}
    (hc : ∀ F, A.p V F → Calls Tryz.prog f args W fun e w' => ∃ a, Q a e ∧ ATurn (A' a) F V w') :
    Calls Tryz.prog f args W fun e w' => ∃ a, Q a e ∧ Has w (A' a :: T) w' := by
  obtain ⟨F, h1, _, h2⟩ := h.step
  refine (hc F h1).mono ?_
  rintro e w' ⟨a, hq, F', h3, h4, h5⟩
  exact ⟨a, hq, h2 w' (A' a) F' h4 h3 h5⟩
theorem Has.rdNew (h : Has w T V) (u : ByteArray) (ht : u.size ≤ 225000000000000) :
    Calls Tryz.prog 141 #[.string u] V fun e w' => ∃ g, e = .returned (pt g) ∧ Has w (rdA g (if u.size ≤ 2048 then some (sb u) else none) :: T) w' := by
  refine (newRd u V ht).mono ?_
  rintro e w' ⟨g, rfl, hb, F, h1, h2⟩
  exact ⟨g, rfl, h.new hb h1 h2⟩
theorem Has.rdStr (h : Has w (rdA g s :: T) V) :
    Calls Tryz.prog 143 #[pt g] V fun e w' => ∃ u : ByteArray, (e = .returned (.string u) ∧ ((ps s).2 ≠ none → u = (ps s).1)) ∧ Has w (rdA g (ps s).2 :: T) w' :=
  h.acallE (A' := fun _ => rdA g (ps s).2) fun F hP => (Go.Proofs.YtgccichmdddbpaaGreatDoor.rdStr g s V F hP).mono fun e w' ⟨u, h1, h2, h3⟩ => ⟨u, ⟨h1, h2⟩, h3⟩
theorem Has.rdFlag (h : Has w (rdA g s :: T) V) :
    Calls Tryz.prog 147 #[pt g] V fun e w' => ∃ d : Bool, (e = .returned (.bool d) ∧ ((pf s).2 ≠ none → d = (pf s).1)) ∧ Has w (rdA g (pf s).2 :: T) w' :=
  h.acallE (A' := fun _ => rdA g (pf s).2) fun F hP => (Go.Proofs.YtgccichmdddbpaaGreatDoor.rdFlag g s V F hP).mono fun e w' ⟨u, h1, h2, h3⟩ => ⟨u, ⟨h1, h2⟩, h3⟩
theorem Has.rdDone (h : Has w (rdA g s :: T) V) :
    Calls Tryz.prog 148 #[pt g] V fun e w' => e = .returned (.bool (decide (s = some []))) ∧ w' = V := by
  obtain ⟨F, h1, _⟩ := h.get
  exact Go.Proofs.YtgccichmdddbpaaGreatDoor.rdDone g s V F h1
theorem pat_lit (V : World) (x : Nat) (is : List Nat) (t : TypeId) : PAt (V.alloc (.cells (is.map fun i => Value.pointer (some ⟨x, i, none⟩)).toArray t)) (some ⟨V.heap.size, 0, none⟩) is.length x is := by
  refine ⟨rfl, fun _ => ⟨_, _, rfl, fun i hi => ?_⟩⟩
  simp [hi]
theorem Has.rdNums (h : Has w (rdA g s :: blkA x t cs :: T) V) (is : List Nat) {b : Nat} (hb : b = V.heap.size) {pcs : Array Value} {k : Nat} {pt' : TypeId} (hcs : pcs = (is.map fun i => Value.pointer (some ⟨x, i, none⟩)).toArray) (hk : k = is.length)
    (hn : is.length ≤ 1000) (hi : ∀ i ∈ is, ∃ u, cs[i]? = some (.int .i64 u)) :
    Calls Tryz.prog 142 #[pt g, .slice (some ⟨b, 0, none⟩) k k] (V.alloc (.cells pcs pt')) fun e w' => ∃ vs : List Nat, (e = .returned (.tuple #[]) ∧ vs.length = is.length ∧ (∀ v ∈ vs, v ≤ 9007199254740991) ∧ ((pns is.length s).2 ≠ none → vs = (pns is.length s).1)) ∧ Has w (rdA g (pns is.length s).2 :: blkA x t (sets cs (ivs is vs)) :: T) w' := by
  subst hb hcs hk
  have h2 := h.both.acallE (A' := fun vs : List Nat => bothA (rdA g (pns is.length s).2) (blkA x t (sets cs (ivs is vs)))) (Q := fun vs e => e = .returned (.tuple #[]) ∧ vs.length = is.length ∧ (∀ v ∈ vs, v ≤ 9007199254740991) ∧ ((pns is.length s).2 ≠ none → vs = (pns is.length s).1))
    (W := V.alloc (.cells (is.map fun i => Value.pointer (some ⟨x, i, none⟩)).toArray pt')) (f := 142) (args := #[pt g, .slice (some ⟨V.heap.size, 0, none⟩) is.length is.length]) fun F hP => by
    have hlt := (bothA (rdA g s) (blkA x t cs)).lt hP
    refine (Go.Proofs.YtgccichmdddbpaaGreatDoor.rdNums g x t cs s (some ⟨V.heap.size, 0, none⟩) is.length is.length is _ F ((bothA (rdA g s) (blkA x t cs)).on hP (nbl V _).size fun k e => (nbl V _).block k (hlt k e)) (pat_lit V x is pt')
      (fun a ha e => by cases ha; have := hlt _ e; simp at this) hn hi).mono ?_
    rintro e w' ⟨h1, vs, h3, h4, h5, h6⟩
    exact ⟨vs, ⟨h1, h3, h4, h5⟩, h6.pre (nbl V _) hlt⟩
  exact h2.mono fun e w' ⟨vs, hq, hh⟩ => ⟨vs, hq, hh.unboth⟩
theorem Has.rdStamps (h : Has w (rdA g s :: blkA x t cs :: T) V) (os : List Nat) {b : Nat} (hb : b = V.heap.size) {pcs : Array Value} {k : Nat} {pt' : TypeId} (hcs : pcs = (os.map fun i => Value.pointer (some ⟨x, i, none⟩)).toArray) (hk : k = os.length)
    (hn : os.length ≤ 1000) (hi : ∀ o ∈ os, (∃ u, cs[o]? = some (.int .i64 u)) ∧ ∃ u, cs[o + 1]? = some (.int .i64 u)) :
    Calls Tryz.prog 144 #[pt g, .slice (some ⟨b, 0, none⟩) k k] (V.alloc (.cells pcs pt')) fun e w' => ∃ vs : List Nat, (e = .returned (.tuple #[]) ∧ vs.length = 2 * os.length ∧ (∀ v ∈ vs, v ≤ 9007199254740991) ∧ ((pns (2 * os.length) s).2 ≠ none → vs = (pns (2 * os.length) s).1)) ∧ Has w (rdA g (pns (2 * os.length) s).2 :: blkA x t (sets cs (ivs (dbl os) vs)) :: T) w' := by
  subst hb hcs hk
  have h2 := h.both.acallE (A' := fun vs : List Nat => bothA (rdA g (pns (2 * os.length) s).2) (blkA x t (sets cs (ivs (dbl os) vs)))) (Q := fun vs e => e = .returned (.tuple #[]) ∧ vs.length = 2 * os.length ∧ (∀ v ∈ vs, v ≤ 9007199254740991) ∧ ((pns (2 * os.length) s).2 ≠ none → vs = (pns (2 * os.length) s).1))
    (W := V.alloc (.cells (os.map fun i => Value.pointer (some ⟨x, i, none⟩)).toArray pt')) (f := 144) (args := #[pt g, .slice (some ⟨V.heap.size, 0, none⟩) os.length os.length]) fun F hP => by
    have hlt := (bothA (rdA g s) (blkA x t cs)).lt hP
    refine (Go.Proofs.YtgccichmdddbpaaGreatDoor.rdStamps g x t cs s (some ⟨V.heap.size, 0, none⟩) os.length os.length os _ F ((bothA (rdA g s) (blkA x t cs)).on hP (nbl V _).size fun k e => (nbl V _).block k (hlt k e)) (pat_lit V x os pt')
      (fun a ha e => by cases ha; have := hlt _ e; simp at this) hn hi).mono ?_
    rintro e w' ⟨h1, vs, h3, h4, h5, h6⟩
    exact ⟨vs, ⟨h1, h3, h4, h5⟩, h6.pre (nbl V _) hlt⟩
  exact h2.mono fun e w' ⟨vs, hq, hh⟩ => ⟨vs, hq, hh.unboth⟩
theorem Has.rowTurn {E : TypeId} {sz : Nat} {v v' : Value} {n n' : Nat} {xs xs' : List Value} {V' : World} (h : Has w (rowA E sz v n xs :: T) V) (h1 : V'.ownsRow 0 E sz v' n' xs') (hg : V.grownBy V' v.ownBlock) (hob : v'.ownBlock = v.ownBlock ∨ v'.ownBlock = some V.heap.size) :
    Has w (rowA E sz v' n' xs' :: T) V' := by
  obtain ⟨F, a1, _, a2⟩ := h.step
  refine a2 V' _ (fun k => v'.ownBlock = some k) (Grow.by_ hg fun k e => (a1.2 k).2 e) ⟨h1, fun k => Iff.rfl⟩ fun k e => ?_
  have hlt : k < V'.heap.size := (rowA E sz v' n' xs').lt (V := V') (F := fun k => v'.ownBlock = some k) ⟨h1, fun k => Iff.rfl⟩ k e
  rcases hob with hob | hob
  · exact .inl ((a1.2 k).2 (hob ▸ e))
  · rw [hob] at e
    injection e with e
    exact .inr ⟨by omega, hlt⟩
theorem Has.rowOf {E : TypeId} {sz : Nat} {v : Value} {n : Nat} {xs : List Value} (h : Has w (rowA E sz v n xs :: T) V) : V.ownsRow 0 E sz v n xs := by
  obtain ⟨F, a1, _⟩ := h.get
  exact a1.1
theorem Has.rd (h : Has w (rdA g s :: T) V) : ∃ A n c, Blk V g 234 #[.slice A n c, .bool s.isNone] ∧ ∀ b, s = some b → b.length ≤ 2048 := by
  obtain ⟨F, ⟨A, n, c, l, d1, d2, d3, d4, d5, d6, d7, d8⟩, _⟩ := h.get
  exact ⟨A, n, c, d1, fun b hb => by rw [d6 b hb]; exact d5⟩
end

set_option maxHeartbeats 2000000 in
theorem many_c {α : Type} (f : Rst → α × Rst) (cl : FuncId) (caps : Array Value) (g : Nat) (X : Value → List α → List As) (w : World)
    (hent : ∀ args W, (callFunc cl args).run Tryz.prog W = .ok (.enter cl args) W)
    (hf : ∀ b r, (f (some b)).2 = some r → r.length < b.length)
    (hcl : ∀ (T : List As) (V : World) (s : Rst) (v : Value) (l : List α), l.length ≤ 2048 → Has w (rdA g s :: (X v l ++ T)) V →
      Calls Tryz.prog cl caps V fun e w' => e = .returned (.tuple #[]) ∧ ∃ (a : α) (v' : Value), ((f s).2 ≠ none → a = (f s).1) ∧ Has w (rdA g (f s).2 :: (X v' (l ++ [a]) ++ T)) w')
    (V : World) (s : Rst) (v : Value) (T : List As) (h : Has w (rdA g s :: (X v [] ++ T)) V) :
    Calls Tryz.prog 145 #[pt g, .func (.func cl) #[] caps] V fun e w' => e = .returned (.tuple #[]) ∧ ∃ (l : List α) (v' : Value), ((many f (pn s).1 (pn s).2).2 ≠ none → l = (many f (pn s).1 (pn s).2).1) ∧ Has w (rdA g (many f (pn s).1 (pn s).2).2 :: (X v' l ++ T)) w' := by
  have HCL := Lib.hid hcl
  have HENT := Lib.hid hent
  have HF := Lib.hid hf
  have h1 := (h.newBlk 3 #[.int .i64 0]).swap
  have HQ := Lib.hid (h1.rdNums [0] (b := V.heap.size + 1) (by simp) (pt' := 207) rfl rfl (by simp) (fun i hi => by simp at hi; subst hi; exact ⟨0, rfl⟩))
  clear hcl hent hf h h1
  go_enter Tryz.func145, Tryz.ntmps145
  go_wp2_with (go_at_call 142; refine HQ.out.mono ?_; rintro e w1 ⟨vs, ⟨rfl, hvl, hvb, hvs⟩, h2⟩)
  obtain ⟨vv, rfl⟩ : ∃ u, vs = [u] := by
    match vs, hvl with
    | [u], _ => exact ⟨u, rfl⟩
  have hvv : vv ≤ 9007199254740991 := hvb vv (by simp)
  have e1 : (pns [0].length s).2 = (pn s).2 := rfl
  have e2 : (pns [0].length s).1 = [(pn s).1] := rfl
  rw [e1, e2] at hvs
  rw [e1] at h2
  have hvs' : (pn s).2 ≠ none → vv = (pn s).1 := fun hne => by simpa using hvs hne
  have h3 : Has w (rdA g (pn s).2 :: blkA V.heap.size 3 #[.int .i64 (vv : Int)] :: (X v [] ++ T)) w1 := by
    have : sets #[Value.int .i64 0] (ivs [0] [vv]) = #[.int .i64 (vv : Int)] := by simp [sets, ivs]
    rw [this] at h2
    exact h2
  clear hvs h2 e1 e2 HQ hvl hvb
  obtain ⟨nn, hnn⟩ : ∃ n, (pn s).1 = n := ⟨_, rfl⟩
  obtain ⟨s1, hs1⟩ : ∃ q, (pn s).2 = q := ⟨_, rfl⟩
  rw [hnn, hs1] at hvs'
  rw [hs1] at h3
  have HNN := Lib.hid hnn
  have HS1 := Lib.hid hs1
  have hb0 : ∀ b, s1 = some b → b.length ≤ 2048 := h3.rd.choose_spec.choose_spec.choose_spec.2
  have H3 := Lib.hid h3
  have HV := Lib.hid hvs'
  have HB0 := Lib.hid hb0
  clear h3 hvs' hb0 hnn hs1
  go_loopw [5] (fun i wr => ∃ (j : Nat) (l : List α) (st : Rst) (v' : Value), i = .int .i64 j ∧ Hid (j ≤ nn ∨ st = none) ∧ Hid ((many f nn s1).2 = (many f (nn - j) st).2) ∧ Hid ((many f nn s1).2 ≠ none → (many f nn s1).1 = l ++ (many f (nn - j) st).1) ∧ Hid (∀ b, st = some b → l.length + b.length ≤ 2048) ∧ Hid (st ≠ none → vv = nn) ∧
    Hid (Has w (rdA g st :: blkA V.heap.size 3 #[.int .i64 (vv : Int)] :: (X v' l ++ T)) wr)) (fun i _ => vv - (intOf i).toNat)
  case atStart => exact ⟨0, [], s1, v, rfl, Lib.hid (.inl (Nat.zero_le _)), rfl, fun _ => rfl, fun b hb => by simpa using HB0.out b hb, HV, H3⟩
  case round =>
    obtain ⟨j, l, st, v', rfl, K1, K2, K3, K4, K5, HH⟩ := hrel
    obtain ⟨A1, n1, c1, d1, _⟩ := HH.out.rd
    have g1 := d1.cell 1
    have n0 := HH.out.swap.blk.1.cell 0
    simp at g1 n0
    have hend : st = none ∨ ¬ j < vv → (many f nn s1).2 = st ∧ ((many f nn s1).2 ≠ none → l = (many f nn s1).1) := by
      intro hx
      by_cases h0 : st = none
      · subst h0
        have := K2.out
        rw [many_none] at this
        exact ⟨this, fun h => absurd this h⟩
      · have hj : nn - j = 0 := by
          have := K5.out h0
          rcases hx with hx | hx
          · exact absurd hx h0
          · omega
        have k2 := K2.out
        have k3 := K3.out
        rw [hj] at k2 k3
        exact ⟨k2, fun h => by rw [k3 h]; simp [many]⟩
    by_cases hgo : j < vv
    · cases st with
      | none =>
        have HE := Lib.hid (hend (.inl rfl))
        clear hend K1 K2 K3 K4 K5 d1
        simp at g1
        go_wp2
        go_end0
        rw [HNN.out, HS1.out]
        refine ⟨rfl, l, v', HE.out.2, ?_⟩
        rw [HE.out.1]
        exact (HH.out.swap.tail)
      | some b =>
        have hvn := K5.out (by simp)
        have hjn : j < nn := by omega
        have hs : nn - j = (nn - (j + 1)) + 1 := by omega
        have k2 := K2.out
        have k3 := K3.out
        have k4 := K4.out b rfl
        rw [hs, many] at k2 k3
        simp only at k2 k3
        have HC := Lib.hid (HCL.out (blkA V.heap.size 3 #[.int .i64 (vv : Int)] :: T) wr (some b) v' l (by omega) (HH.out.perm (List.Perm.cons _ (by exact (List.perm_middle).symm))))
        have he := HENT.out caps wr
        have hfb := HF.out b
        generalize hfs : f (some b) = fs at *
        obtain ⟨a0, s0⟩ := fs
        simp only at k2 k3 hfb HC
        have HK2 := Lib.hid k2
        have HK3 := Lib.hid k3
        have HFB := Lib.hid hfb
        clear hend K1 K2 K3 K4 K5 d1 k2 k3 hfb hfs
        simp at g1
        go_wp2_with fail
        refine HC.out.mono ?_
        rintro e w2 ⟨rfl, a, v2, ha, hh⟩
        go_wp2
        go_roundw
        case rel =>
          refine ⟨j + 1, l ++ [a], s0, v2, by go_num, Lib.hid (.inl (by omega)), HK2, Lib.hid fun hne => ?_, Lib.hid fun b' hb' => ?_, Lib.hid fun _ => hvn, Lib.hid (hh.perm (List.Perm.cons _ (by exact List.perm_middle)))⟩
          · have hs0 : s0 ≠ none := by
              rintro rfl
              rw [HK2.out, many_none] at hne
              exact hne rfl
            rw [HK3.out hne, ha hs0]
            simp
          · have := HFB.out b' hb'
            rw [List.length_append]
            simp
            omega
        case measure => simp [intOf]; omega
    · have HE := Lib.hid (hend (.inr hgo))
      clear hend K1 K2 K3 K4 K5 d1
      go_wp2
      go_end0
      rw [HNN.out, HS1.out]
      refine ⟨rfl, l, v', HE.out.2, ?_⟩
      rw [HE.out.1]
      exact (HH.out.swap.tail)
end Go.Proofs.YtgccichmdddbpaaGreatDoor
