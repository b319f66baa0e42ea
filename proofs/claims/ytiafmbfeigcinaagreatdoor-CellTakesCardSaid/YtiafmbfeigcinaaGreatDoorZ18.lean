/-
  Layer 11, the code: TakeIntent, TakeRecord.
  Layer 11: the document's head, MayIntent.
  Layer 11, the code: keys under which something stands; the examples.
  Layer 11: the statements' own examples.
  Layer 11, the code: Intent, Record.
-/
import Derived.Test.YtiafmbfeigcinaaGreatDoorZ15
import Derived.Test.YtiafmbfeigcinaaGreatDoorZ17
import Derived.Test.YtiafmbfeigcinaaGreatDoorZ12
import Derived.Test.YtiafmbfeigcinaaGreatDoorZ07
import Derived.Test.YtiafmbfeigcinaaGreatDoorZ14
set_option linter.unusedVariables false
set_option linter.unusedSimpArgs false
set_option maxRecDepth 100000
namespace Go.Proofs.YtiafmbfeigcinaaGreatDoor
open Go.RowKit

theorem pC_eats (b r : List UInt8) (h : (pC (some b)).2 = some r) : r.length < b.length := by
  rcases e : pC (some b) with ⟨c, o⟩
  rw [e] at h
  simp only at h
  subst h
  obtain ⟨e2, _⟩ := pC_back e
  injection e2 with e2
  rw [e2, List.length_append]
  have := enc_pos c.q.toNat
  unfold txC nbs
  rw [List.length_append]
  omega
theorem pW_eats (b r : List UInt8) (h : (pW (some b)).2 = some r) : r.length < b.length := by
  rcases e : pW (some b) with ⟨c, o⟩
  rw [e] at h
  simp only at h
  subst h
  obtain ⟨e2, _⟩ := pW_back e
  injection e2 with e2
  rw [e2, List.length_append]
  have := enc_pos c.k.size
  unfold txW tbs
  rw [List.length_append, List.length_append]
  omega
theorem chc_get : ∀ (l : List Ch) (i : Nat) (h : i < l.length), (l.flatMap chc)[i * 3]? = some (.int .i64 (l[i]'h).q) ∧ (l.flatMap chc)[i * 3 + 1]? = some (.string (l[i]'h).s) ∧ (l.flatMap chc)[i * 3 + 2]? = some (.bool (l[i]'h).d)
  | [], i, h => absurd h (by simp)
  | c :: l, 0, h => ⟨rfl, rfl, rfl⟩
  | c :: l, i + 1, h => by
    have := chc_get l i (by simpa using h)
    have e1 : (i + 1) * 3 = i * 3 + 3 := by omega
    rw [e1]
    simpa [chc] using this
theorem wtc_get : ∀ (l : List Wt) (i : Nat) (h : i < l.length), (l.flatMap wtc)[i * 2]? = some (.string (l[i]'h).k) ∧ (l.flatMap wtc)[i * 2 + 1]? = some (.int .i64 (l[i]'h).q)
  | [], i, h => absurd h (by simp)
  | c :: l, 0, h => ⟨rfl, rfl⟩
  | c :: l, i + 1, h => by
    have := wtc_get l i (by simpa using h)
    have e1 : (i + 1) * 2 = i * 2 + 2 := by omega
    rw [e1]
    simpa [wtc] using this
theorem chRow {w : World} {B n : Nat} {v : Value} {l : List Ch} (h : w.ownsRow B 79 3 v n (l.flatMap chc)) : ∃ A c, v = .slice A n c ∧ ChAt w A n l ∧ n ≤ c ∧ c ≤ 9223372036854775807 ∧ ∀ p, A = some p → p.block < w.heap.size := by
  have hl : l.length = n := by have := h.1; rw [chc_len] at this; omega
  rcases h.2 with ⟨rfl, h0⟩ | ⟨g, cap, cur, rfl, hb, hg, hnc, hcm, _⟩
  · exact ⟨none, 0, by rw [h0], ⟨hl, fun hm => by omega⟩, by omega, by omega, fun p hp => nomatch hp⟩
  · refine ⟨_, cap, rfl, ⟨hl, fun hm => ⟨g, 0, rfl, fun i hi => ?_⟩⟩, hnc, hcm, fun p hp => by cases hp; exact (Array.getElem?_eq_some_iff.1 hg).1⟩
    obtain ⟨h1, h2, h3⟩ := chc_get l i hi
    have c1 := World.ownsRow.cells h (g := g) rfl _ _ h1
    have c2 := World.ownsRow.cells h (g := g) rfl _ _ h2
    have c3 := World.ownsRow.cells h (g := g) rfl _ _ h3
    rw [Go.WideShapes.add_plain] at c1 c2 c3
    exact ⟨c1, by rw [Nat.add_assoc]; exact c2, by rw [Nat.add_assoc]; exact c3⟩
theorem wtRow {w : World} {B n : Nat} {v : Value} {l : List Wt} (h : w.ownsRow B 159 2 v n (l.flatMap wtc)) : ∃ A c, v = .slice A n c ∧ WtAt w A n l ∧ n ≤ c ∧ c ≤ 9223372036854775807 ∧ ∀ p, A = some p → p.block < w.heap.size := by
  have hl : l.length = n := by have := h.1; rw [wtc_len] at this; omega
  rcases h.2 with ⟨rfl, h0⟩ | ⟨g, cap, cur, rfl, hb, hg, hnc, hcm, _⟩
  · exact ⟨none, 0, by rw [h0], ⟨hl, fun hm => by omega⟩, by omega, by omega, fun p hp => nomatch hp⟩
  · refine ⟨_, cap, rfl, ⟨hl, fun hm => ⟨g, 0, rfl, fun i hi => ?_⟩⟩, hnc, hcm, fun p hp => by cases hp; exact (Array.getElem?_eq_some_iff.1 hg).1⟩
    obtain ⟨h1, h2⟩ := wtc_get l i hi
    have c1 := World.ownsRow.cells h (g := g) rfl _ _ h1
    have c2 := World.ownsRow.cells h (g := g) rfl _ _ h2
    rw [Go.WideShapes.add_plain] at c1 c2
    exact ⟨c1, by rw [Nat.add_assoc]; exact c2⟩
theorem Has.apart {w V : World} {l : List As} {A : Option Addr} {n c s m g : Nat} {E t : TypeId} {xs : List Value} {cs : Array Value} (h : Has w (rowA E s (.slice A n c) m xs :: l) V) (hm : blkA g t cs ∈ l) : ∀ a, A = some a → a.block ≠ g := by
  obtain ⟨⟨F, ⟨F1, F2, h1, h2, h3, h4⟩, _⟩, _⟩ := h
  obtain ⟨F3, a1, a2⟩ := h2.memL hm
  intro a ha e
  subst ha
  exact h3 g ((h1.2 g).2 (by rw [← e]; rfl)) (a2 g ((a1.2 g).2 rfl))
def zI : It := ⟨0, 0, 0, ⟨#[]⟩, 0, 0, 0, 0, []⟩
def zR : Rc := ⟨0, 0, 0, 0, ⟨#[]⟩, 0, 0, 0, 0, []⟩
/-- What TakeIntent, TakeRecord answer. -/
def AnsI (o : Option It) (w : World) (e : Ending) (w' : World) : Prop :=
  match o with
  | none => e = .returned (.tuple #[itv zI (.slice none 0 0), .int .i64 4])
  | some x => ∃ A n c, e = .returned (.tuple #[itv x (.slice A n c), .int .i64 0]) ∧ ChAt w' A n x.l ∧ n ≤ c ∧ c ≤ 9223372036854775807 ∧ ∀ p, A = some p → p.block < w'.heap.size
def AnsR (o : Option Rc) (w : World) (e : Ending) (w' : World) : Prop :=
  match o with
  | none => e = .returned (.tuple #[rcv zR (.slice none 0 0), .int .i64 4])
  | some x => ∃ A n c, e = .returned (.tuple #[rcv x (.slice A n c), .int .i64 0]) ∧ WtAt w' A n x.l ∧ n ≤ c ∧ c ≤ 9223372036854775807 ∧ ∀ p, A = some p → p.block < w'.heap.size
theorem four_ {α : Type} {l : List α} (h : l.length = 4) : ∃ a b c d, l = [a, b, c, d] := by
  match l, h with
  | [a, b, c, d], _ => exact ⟨a, b, c, d, rfl⟩
theorem three3 {α : Type} {l : List α} (h : l.length = 3) : ∃ a b c, l = [a, b, c] := by
  match l, h with
  | [a, b, c], _ => exact ⟨a, b, c, rfl⟩
theorem Blk.all9 {w : World} {g : Nat} {t : TypeId} {c0 c1 c2 c3 c4 c5 c6 c7 c8 v0 v1 v2 v3 v4 v5 v6 v7 v8 : Value} (h : Blk w g t #[c0, c1, c2, c3, c4, c5, c6, c7, c8]) : Blk (((((((((w.setCell ⟨g, 0, none⟩ v0).setCell ⟨g, 1, none⟩ v1).setCell ⟨g, 2, none⟩ v2).setCell ⟨g, 3, none⟩ v3).setCell ⟨g, 4, none⟩ v4).setCell ⟨g, 5, none⟩ v5).setCell ⟨g, 6, none⟩ v6).setCell ⟨g, 7, none⟩ v7).setCell ⟨g, 8, none⟩ v8) g t #[v0, v1, v2, v3, v4, v5, v6, v7, v8] := by
  have := (((((((((h.set_ 0 v0).set_ 1 v1).set_ 2 v2).set_ 3 v3).set_ 4 v4).set_ 5 v5).set_ 6 v6).set_ 7 v7).set_ 8 v8)
  simpa using this
theorem Blk.all10 {w : World} {g : Nat} {t : TypeId} {c0 c1 c2 c3 c4 c5 c6 c7 c8 c9 v0 v1 v2 v3 v4 v5 v6 v7 v8 v9 : Value} (h : Blk w g t #[c0, c1, c2, c3, c4, c5, c6, c7, c8, c9]) : Blk ((((((((((w.setCell ⟨g, 0, none⟩ v0).setCell ⟨g, 1, none⟩ v1).setCell ⟨g, 2, none⟩ v2).setCell ⟨g, 3, none⟩ v3).setCell ⟨g, 4, none⟩ v4).setCell ⟨g, 5, none⟩ v5).setCell ⟨g, 6, none⟩ v6).setCell ⟨g, 7, none⟩ v7).setCell ⟨g, 8, none⟩ v8).setCell ⟨g, 9, none⟩ v9) g t #[v0, v1, v2, v3, v4, v5, v6, v7, v8, v9] := by
  have := ((((((((((h.set_ 0 v0).set_ 1 v1).set_ 2 v2).set_ 3 v3).set_ 4 v4).set_ 5 v5).set_ 6 v6).set_ 7 v7).set_ 8 v8).set_ 9 v9)
  simpa using this

/-- How far the reader is behind it all. -/
def finI (s : Rst) : Rst := (many pC (pn (pns 4 (ps (pns 3 s).2).2).2).1 (pn (pns 4 (ps (pns 3 s).2).2).2).2).2
theorem finI_some (b : List UInt8) : finI (some b) = (rdI b).2 := rfl
theorem finI_none : finI none = none := rfl
theorem rdI_parts (b : List UInt8) {a0 a1 a2 b0 b1 b2 b3 : Nat} {u : ByteArray} {l : List Ch} (h1 : (pns 3 (some b)).2 ≠ none → [a0, a1, a2] = (pns 3 (some b)).1) (h2 : (ps (pns 3 (some b)).2).2 ≠ none → u = (ps (pns 3 (some b)).2).1)
    (h3 : (pns 4 (ps (pns 3 (some b)).2).2).2 ≠ none → [b0, b1, b2, b3] = (pns 4 (ps (pns 3 (some b)).2).2).1) (h4 : finI (some b) ≠ none → l = (many pC (pn (pns 4 (ps (pns 3 (some b)).2).2).2).1 (pn (pns 4 (ps (pns 3 (some b)).2).2).2).2).1)
    (hf : finI (some b) ≠ none) : (⟨a0, a1, a2, u, b0, b1, b2, b3, l⟩ : It) = (rdI b).1 := by
  have k4 : (pn (pns 4 (ps (pns 3 (some b)).2).2).2).2 ≠ none := fun e => hf (by unfold finI; rw [e, many_none])
  have k3 : (pns 4 (ps (pns 3 (some b)).2).2).2 ≠ none := fun e => k4 (by rw [e]; rfl)
  have k2 : (ps (pns 3 (some b)).2).2 ≠ none := pns_noneR k3
  have k1 : (pns 3 (some b)).2 ≠ none := fun e => k2 (by rw [e]; rfl)
  have j1 := h1 k1
  have j2 := h2 k2
  have j3 := h3 k3
  have j4 := h4 hf
  simp only [pns, List.cons.injEq, and_true] at j1 j3
  obtain ⟨e0, e1, e2⟩ := j1
  obtain ⟨e3, e4, e5, e6⟩ := j3
  subst e0 e1 e2 e3 e4 e5 e6 j2 j4
  rfl

theorem ret_it {fn : Func} {R : Ending → World → Prop} {a : Act} {w : World} {p u : Tmp} {g : Nat} {cs : Array Value} (hr : fn.results = #[.cell p 37, .tmp u]) (hp : a.tmps.getD p undef = .pointer (some ⟨g, 0, none⟩))
    (hB : Blk w g 37 cs) (hs : cs.size = 9) (hd : a.defers = []) (hR : R (.returned (.tuple #[.agg cs, a.tmps.getD u undef])) w) : bodyPost Tryz.prog fn R .ret a w := by
  refine bodyPost_ret ?_ hd hR
  have hp' : a.tmps[p]?.getD undef = .pointer (some ⟨g, 0, none⟩) := by simpa using hp
  simp [results, hr, hp', asAddr, run_loadVar_row w g 37 37 _ (0, 0) _ hB Tryz.underlying37 rfl (by rw [hs]; kernel_rfl)]
theorem checkI2 (x : It) (A : Option Addr) (n c : Nat) (w : World) (hx : ChAt w A n x.l) (hn : n ≤ 9223372036854775807) :
    ∃ (k : Int) (b : Bool), (k != 0) = b ∧ b = !mayI x ∧ Calls Tryz.prog 94 #[itv x (.slice A n c)] w fun e w' => e = .returned (.int .i64 k) ∧ Below w.heap.size w w' :=
  ⟨_, _, rfl, by cases mayI x <;> rfl, checkI x A n c w hx hn⟩
set_option maxHeartbeats 2000000 in
theorem takeI_c (t : ByteArray) (w : World) (ht : t.size ≤ 225000000000000) :
    Calls Tryz.prog 44 #[.string t] w fun e w' => AnsI (tkI (sb t)) w e w' ∧ Below w.heap.size w w' := by
  have h0 := ((Has.nil (Below.refl w.heap.size w)).newBlk 37 (itc zI (.slice none 0 0))).newBlk 37 (itc zI (.slice none 0 0))
  rw [show (w.alloc (.cells (itc zI (.slice none 0 0)) 37)).heap.size = w.heap.size + 1 by simp] at h0
  have HN := Lib.hid (h0.rdNew t ht)
  obtain ⟨s0, hs0⟩ : ∃ s0 : Rst, (if t.size ≤ 2048 then some (sb t) else none) = s0 := ⟨_, rfl⟩
  rw [hs0] at HN
  have hfi : tkI (sb t) = if finI s0 = some [] ∧ mayI (rdI (sb t)).1 = true then some (rdI (sb t)).1 else none := by
    by_cases hz : t.size ≤ 2048
    · rw [if_pos hz] at hs0
      subst hs0
      rw [finI_some]
      rfl
    · rw [if_neg hz] at hs0
      subst hs0
      rw [finI_none, if_neg (by simp), tkI_long (by rw [sb_len]; omega)]
  have hs1 : s0 ≠ none → s0 = some (sb t) := by
    intro hne
    by_cases hz : t.size ≤ 2048
    · rw [if_pos hz] at hs0; exact hs0.symm
    · rw [if_neg hz] at hs0; exact absurd hs0.symm hne
  have HFI := Lib.hid hfi
  have HS1 := Lib.hid hs1
  clear h0 hs0 hfi hs1
  go_enter Tryz.func44, Tryz.ntmps44
  go_wp2_with (first
    | (go_at_call 80; refine HN.out.mono ?_; rintro e w1 ⟨g, rfl, h1⟩
       have h2 := ((h1.newBlk 144 #[pt g]).perm (List.perm_middle (l₁ := [_]))).perm (List.Perm.cons _ (List.Perm.swap _ _ _))
       have h3 : Has w (rdA g s0 :: blkA (w.heap.size + 1) 37 (itc zI (.slice none 0 0)) :: blkA w1.heap.size 144 #[pt g] :: blkA w.heap.size 37 (itc zI (.slice none 0 0)) :: []) (w1.alloc (.cells #[pt g] 144)) := h2
       have r1 := (h3.blkIn (g := w1.heap.size) (t := 144) (cs := #[pt g]) (by simp)).cell 0
       simp at r1
       have H3 := Lib.hid h3
       clear h1 h2 h3 HN)
    | (go_at_call 81; refine (H3.out.rdNums [0, 1, 2] (by simp) rfl rfl (by simp) (fun i hi => by simp at hi; rcases hi with rfl | rfl | rfl <;> exact ⟨0, rfl⟩)).mono ?_; rintro e w2 ⟨vs, ⟨rfl, hvl, hvb, hvs⟩, h4⟩
       obtain ⟨a0, a1, a2, rfl⟩ := three3 hvl
       have e1 : sets (itc zI (.slice none 0 0)) (ivs [0, 1, 2] [a0, a1, a2]) = itc ⟨(a0 : Int), (a1 : Int), (a2 : Int), ⟨#[]⟩, 0, 0, 0, 0, []⟩ (.slice none 0 0) := by simp [sets, ivs, zI]
       rw [e1] at h4
       have r2 := (h4.blkIn (g := w1.heap.size) (t := 144) (cs := #[pt g]) (by simp)).cell 0
       simp at r2
       have H4 := Lib.hid h4
       clear h4 e1 H3 r1)
    | (go_at_call 89; refine H4.out.rdStr.mono ?_; rintro e w3 ⟨u, ⟨rfl, hu⟩, h5⟩
       have z1 := h5.swap.blk.1.cell 3
       have zf := h5.swap.blk.1.frozen 3
       simp at z1
       have h5 := (h5.swap.setBlk 3 (.string u)).swap
       have r3 := (h5.blkIn (g := w1.heap.size) (t := 144) (cs := #[pt g]) (by simp)).cell 0
       simp at r3
       have H5 := Lib.hid h5
       clear h5 H4 r2)
    | (go_at_call 85; refine (H5.out.rdStamps [4, 6] (by simp [World.setCell]) rfl rfl (by simp) (fun i hi => by simp at hi; rcases hi with rfl | rfl <;> exact ⟨⟨0, rfl⟩, ⟨0, rfl⟩⟩)).mono ?_; rintro e w4 ⟨vt, ⟨rfl, htl, htb, hts⟩, h6⟩
       obtain ⟨b0, b1, b2, b3, rfl⟩ := four_ htl
       have e2 : sets ((itc ⟨(a0 : Int), (a1 : Int), (a2 : Int), ⟨#[]⟩, 0, 0, 0, 0, []⟩ (.slice none 0 0)).setIfInBounds 3 (.string u)) (ivs (dbl [4, 6]) [b0, b1, b2, b3]) = itc ⟨(a0 : Int), (a1 : Int), (a2 : Int), u, b0, b1, b2, b3, []⟩ (.slice none 0 0) := by simp [sets, ivs, dbl]
       rw [e2] at h6
       have r4 := (h6.blkIn (g := w1.heap.size) (t := 144) (cs := #[pt g]) (by simp)).cell 0
       simp at r4
       have h7 := (h6.rowNil 79 3).perm ((List.perm_middle (l₁ := [_, _, _]) (a := rowA 79 3 (.slice none 0 0) 0 [])).symm)
       have HM := Lib.hid (many_c pC 93 #[pt w1.heap.size, pt (w.heap.size + 1)] g (xI (w.heap.size + 1) w1.heap.size g ⟨(a0 : Int), (a1 : Int), (a2 : Int), u, b0, b1, b2, b3, []⟩) w
         (fun args W => by rfl) pC_eats (fun T V s v l hl h => closI (w.heap.size + 1) w1.heap.size g _ w T V s v l hl h) w4 _ (.slice none 0 0) [blkA w.heap.size 37 (itc zI (.slice none 0 0))] h7)
       clear h6 h7 e2 H5 r3)
    | (go_at_call 92; refine HM.out.mono ?_; rintro e w5 ⟨rfl, l, v', hl, h8⟩
       have h8 : Has w (rdA g (finI s0) :: (xI (w.heap.size + 1) w1.heap.size g ⟨(a0 : Int), (a1 : Int), (a2 : Int), u, b0, b1, b2, b3, []⟩ v' l ++ [blkA w.heap.size 37 (itc zI (.slice none 0 0))])) w5 := h8
       have r5 := (h8.blkIn (g := w1.heap.size) (t := 144) (cs := #[pt g]) (by simp [xI])).cell 0
       simp at r5
       obtain ⟨Av, cv, rfl, hat, hnc, hcm, hav⟩ := chRow (h8.perm (List.perm_middle (l₁ := [_, _, _]))).rowOf
       have hap : ∀ a, Av = some a → a.block ≠ w.heap.size := (h8.perm (List.perm_middle (l₁ := [_, _, _]))).apart (g := w.heap.size) (t := 37) (cs := itc zI (.slice none 0 0)) (by simp [xI])
       have kx := h8.blkIn (g := w.heap.size + 1) (t := 37) (cs := itc ⟨(a0 : Int), (a1 : Int), (a2 : Int), u, b0, b1, b2, b3, l⟩ (.slice Av l.length cv)) (by simp [xI])
       have ky := h8.blkIn (g := w.heap.size) (t := 37) (cs := itc zI (.slice none 0 0)) (by simp [xI])
       obtain ⟨kk, bb, hk, hbb, hCK⟩ := checkI2 ⟨(a0 : Int), (a1 : Int), (a2 : Int), u, b0, b1, b2, b3, l⟩ Av l.length cv w5 hat (by omega)
       have q0 := kx.cell 0
       have p0 := ky.cell 0
       have f0 := ky.frozen 0
       have q1 := kx.cell 1
       have p1 := ky.cell 1
       have f1 := ky.frozen 1
       have q2 := kx.cell 2
       have p2 := ky.cell 2
       have f2 := ky.frozen 2
       have q3 := kx.cell 3
       have p3 := ky.cell 3
       have f3 := ky.frozen 3
       have q4 := kx.cell 4
       have p4 := ky.cell 4
       have f4 := ky.frozen 4
       have q5 := kx.cell 5
       have p5 := ky.cell 5
       have f5 := ky.frozen 5
       have q6 := kx.cell 6
       have p6 := ky.cell 6
       have f6 := ky.frozen 6
       have q7 := kx.cell 7
       have p7 := ky.cell 7
       have f7 := ky.frozen 7
       have q8 := kx.cell 8
       have p8 := ky.cell 8
       have f8 := ky.frozen 8
       simp at q0 p0 q1 p1 q2 p2 q3 p3 q4 p4 q5 p5 q6 p6 q7 p7 q8 p8
       have hbel := h8.bel
       have HCK := Lib.hid hCK
       have HKX := Lib.hid kx
       have HKY := Lib.hid ky
       have HAT := Lib.hid hat
       have H8 := Lib.hid h8
       have HLL := Lib.hid (show finI s0 ≠ none → l = (many pC (pn (pns 4 (ps (pns 3 s0).2).2).2).1 (pn (pns 4 (ps (pns 3 s0).2).2).2).2).1 from hl)
       clear h8 HM r4 kx ky hCK hat hl)
    | (go_at_call 82; refine H8.out.rdDone.mono ?_; rintro e w6 ⟨rfl, rfl⟩
       obtain ⟨bd, hbd⟩ : ∃ bd, decide (finI s0 = some []) = bd := ⟨_, rfl⟩
       rw [hbd]
       have HBD := Lib.hid hbd
       clear hbd)
    | (go_at_call 94; refine HCK.out.mono ?_; rintro e w7 ⟨rfl, hb7⟩
       have kx7 := HKX.out.below hb7 HKX.out.lt
       have ky7 := HKY.out.below hb7 HKY.out.lt
       have j0 := kx7.cell 0
       have m0 := ky7.cell 0
       have n0 := ky7.frozen 0
       have j1 := kx7.cell 1
       have m1 := ky7.cell 1
       have n1 := ky7.frozen 1
       have j2 := kx7.cell 2
       have m2 := ky7.cell 2
       have n2 := ky7.frozen 2
       have j3 := kx7.cell 3
       have m3 := ky7.cell 3
       have n3 := ky7.frozen 3
       have j4 := kx7.cell 4
       have m4 := ky7.cell 4
       have n4 := ky7.frozen 4
       have j5 := kx7.cell 5
       have m5 := ky7.cell 5
       have n5 := ky7.frozen 5
       have j6 := kx7.cell 6
       have m6 := ky7.cell 6
       have n6 := ky7.frozen 6
       have j7 := kx7.cell 7
       have m7 := ky7.cell 7
       have n7 := ky7.frozen 7
       have j8 := kx7.cell 8
       have m8 := ky7.cell 8
       have n8 := ky7.frozen 8
       simp at j0 m0 j1 m1 j2 m2 j3 m3 j4 m4 j5 m5 j6 m6 j7 m7 j8 m8))
  all_goals
    have hy : finI s0 = some [] → (⟨(a0 : Int), (a1 : Int), (a2 : Int), u, b0, b1, b2, b3, l⟩ : It) = (rdI (sb t)).1 := by
      intro hf
      have hs := HS1.out (fun e => by rw [e] at hf; cases hf)
      subst hs
      exact rdI_parts (sb t) hvs hu hts HLL.out (by rw [hf]; simp)
  · rename_i hbd hm
    rw [hbd] at HBD
    have hf : finI s0 = some [] := of_decide_eq_true HBD.out
    have hm' : mayI ⟨(a0 : Int), (a1 : Int), (a2 : Int), u, b0, b1, b2, b3, l⟩ = false := by simpa using hm
    have hW : Blk _ w.heap.size 37 (itc zI (.slice none 0 0)) := ky7.all9
    refine ret_it rfl rfl hW rfl rfl ⟨?_, (((((((((hbel.trans (hb7.mono hbel.size)).setCell (by exact Nat.le_refl _) _).setCell (by exact Nat.le_refl _) _).setCell (by exact Nat.le_refl _) _).setCell (by exact Nat.le_refl _) _).setCell (by exact Nat.le_refl _) _).setCell (by exact Nat.le_refl _) _).setCell (by exact Nat.le_refl _) _).setCell (by exact Nat.le_refl _) _).setCell (by exact Nat.le_refl _) _⟩
    rw [HFI.out, if_neg (by rw [← hy hf, hm']; simp)]
    rfl
  · rename_i hbd hm
    rw [hbd] at HBD
    have hf : finI s0 = some [] := of_decide_eq_true HBD.out
    have hm' : mayI ⟨(a0 : Int), (a1 : Int), (a2 : Int), u, b0, b1, b2, b3, l⟩ = true := by simpa using hm
    have hW : Blk _ w.heap.size 37 (itc ⟨(a0 : Int), (a1 : Int), (a2 : Int), u, b0, b1, b2, b3, l⟩ (.slice Av l.length cv)) := ky7.all9
    have hat7 := HAT.out.below hb7
    refine ret_it rfl rfl hW rfl rfl ⟨?_, (((((((((hbel.trans (hb7.mono hbel.size)).setCell (by exact Nat.le_refl _) _).setCell (by exact Nat.le_refl _) _).setCell (by exact Nat.le_refl _) _).setCell (by exact Nat.le_refl _) _).setCell (by exact Nat.le_refl _) _).setCell (by exact Nat.le_refl _) _).setCell (by exact Nat.le_refl _) _).setCell (by exact Nat.le_refl _) _).setCell (by exact Nat.le_refl _) _⟩
    rw [HFI.out, if_pos ⟨hf, by rw [← hy hf, hm']⟩, ← hy hf]
    refine ⟨Av, l.length, cv, rfl, ?_, hnc, hcm, fun p hp => by have := hav p hp; have := hb7.size; simp [World.setCell]; omega⟩
    refine hat7.keep fun a ha j z hz => ?_
    have hne := hap a ha
    simp only [World.cell?, World.setCell, Array.getElem?_modify] at hz ⊢
    simpa [hne, hne.symm] using hz
  · rename_i hbd
    have hf : ¬ finI s0 = some [] := by
      have := HBD.out
      intro h
      rw [decide_eq_true h] at this
      exact hbd this.symm
    have hW : Blk _ w.heap.size 37 (itc zI (.slice none 0 0)) := HKY.out.all9
    refine ret_it rfl rfl hW rfl rfl ⟨?_, (((((((((hbel).setCell (by exact Nat.le_refl _) _).setCell (by exact Nat.le_refl _) _).setCell (by exact Nat.le_refl _) _).setCell (by exact Nat.le_refl _) _).setCell (by exact Nat.le_refl _) _).setCell (by exact Nat.le_refl _) _).setCell (by exact Nat.le_refl _) _).setCell (by exact Nat.le_refl _) _).setCell (by exact Nat.le_refl _) _⟩
    rw [HFI.out, if_neg (fun h => hf h.1)]
    rfl

/-- How far the reader is behind it all. -/
def finR (s : Rst) : Rst := (many pW (pn (pns 4 (ps (pns 4 s).2).2).2).1 (pn (pns 4 (ps (pns 4 s).2).2).2).2).2
theorem finR_some (b : List UInt8) : finR (some b) = (rdR b).2 := rfl
theorem finR_none : finR none = none := rfl
theorem rdR_parts (b : List UInt8) {a0 a1 a2 a3 b0 b1 b2 b3 : Nat} {u : ByteArray} {l : List Wt} (h1 : (pns 4 (some b)).2 ≠ none → [a0, a1, a2, a3] = (pns 4 (some b)).1) (h2 : (ps (pns 4 (some b)).2).2 ≠ none → u = (ps (pns 4 (some b)).2).1)
    (h3 : (pns 4 (ps (pns 4 (some b)).2).2).2 ≠ none → [b0, b1, b2, b3] = (pns 4 (ps (pns 4 (some b)).2).2).1) (h4 : finR (some b) ≠ none → l = (many pW (pn (pns 4 (ps (pns 4 (some b)).2).2).2).1 (pn (pns 4 (ps (pns 4 (some b)).2).2).2).2).1)
    (hf : finR (some b) ≠ none) : (⟨a0, a1, a2, a3, u, b0, b1, b2, b3, l⟩ : Rc) = (rdR b).1 := by
  have k4 : (pn (pns 4 (ps (pns 4 (some b)).2).2).2).2 ≠ none := fun e => hf (by unfold finR; rw [e, many_none])
  have k3 : (pns 4 (ps (pns 4 (some b)).2).2).2 ≠ none := fun e => k4 (by rw [e]; rfl)
  have k2 : (ps (pns 4 (some b)).2).2 ≠ none := pns_noneR k3
  have k1 : (pns 4 (some b)).2 ≠ none := fun e => k2 (by rw [e]; rfl)
  have j1 := h1 k1
  have j2 := h2 k2
  have j3 := h3 k3
  have j4 := h4 hf
  simp only [pns, List.cons.injEq, and_true] at j1 j3
  obtain ⟨e0, e1, e2, e7⟩ := j1
  obtain ⟨e3, e4, e5, e6⟩ := j3
  subst e0 e1 e2 e7 e3 e4 e5 e6 j2 j4
  rfl

theorem ret_rc {fn : Func} {R : Ending → World → Prop} {a : Act} {w : World} {p u : Tmp} {g : Nat} {cs : Array Value} (hr : fn.results = #[.cell p 106, .tmp u]) (hp : a.tmps.getD p undef = .pointer (some ⟨g, 0, none⟩))
    (hB : Blk w g 106 cs) (hs : cs.size = 10) (hd : a.defers = []) (hR : R (.returned (.tuple #[.agg cs, a.tmps.getD u undef])) w) : bodyPost Tryz.prog fn R .ret a w := by
  refine bodyPost_ret ?_ hd hR
  have hp' : a.tmps[p]?.getD undef = .pointer (some ⟨g, 0, none⟩) := by simpa using hp
  simp [results, hr, hp', asAddr, run_loadVar_row w g 106 106 _ (0, 0) _ hB Tryz.underlying106 rfl (by rw [hs]; kernel_rfl)]
theorem checkR2 (x : Rc) (A : Option Addr) (n c : Nat) (w : World) (hx : WtAt w A n x.l) (hn : n ≤ 9223372036854775807) :
    ∃ (k : Int) (b : Bool), (k != 0) = b ∧ b = !mayR x ∧ Calls Tryz.prog 97 #[rcv x (.slice A n c)] w fun e w' => e = .returned (.int .i64 k) ∧ Below w.heap.size w w' :=
  ⟨_, _, rfl, by cases mayR x <;> rfl, checkR x A n c w hx hn⟩
set_option maxHeartbeats 2000000 in
theorem takeR_c (t : ByteArray) (w : World) (ht : t.size ≤ 225000000000000) :
    Calls Tryz.prog 46 #[.string t] w fun e w' => AnsR (tkR (sb t)) w e w' ∧ Below w.heap.size w w' := by
  have h0 := ((Has.nil (Below.refl w.heap.size w)).newBlk 106 (rcc zR (.slice none 0 0))).newBlk 106 (rcc zR (.slice none 0 0))
  rw [show (w.alloc (.cells (rcc zR (.slice none 0 0)) 106)).heap.size = w.heap.size + 1 by simp] at h0
  have HN := Lib.hid (h0.rdNew t ht)
  obtain ⟨s0, hs0⟩ : ∃ s0 : Rst, (if t.size ≤ 2048 then some (sb t) else none) = s0 := ⟨_, rfl⟩
  rw [hs0] at HN
  have hfi : tkR (sb t) = if finR s0 = some [] ∧ mayR (rdR (sb t)).1 = true then some (rdR (sb t)).1 else none := by
    by_cases hz : t.size ≤ 2048
    · rw [if_pos hz] at hs0
      subst hs0
      rw [finR_some]
      rfl
    · rw [if_neg hz] at hs0
      subst hs0
      rw [finR_none, if_neg (by simp), tkR_long (by rw [sb_len]; omega)]
  have hs1 : s0 ≠ none → s0 = some (sb t) := by
    intro hne
    by_cases hz : t.size ≤ 2048
    · rw [if_pos hz] at hs0; exact hs0.symm
    · rw [if_neg hz] at hs0; exact absurd hs0.symm hne
  have HFI := Lib.hid hfi
  have HS1 := Lib.hid hs1
  clear h0 hs0 hfi hs1
  go_enter Tryz.func46, Tryz.ntmps46
  go_wp2_with (first
    | (go_at_call 80; refine HN.out.mono ?_; rintro e w1 ⟨g, rfl, h1⟩
       have h2 := ((h1.newBlk 144 #[pt g]).perm (List.perm_middle (l₁ := [_]))).perm (List.Perm.cons _ (List.Perm.swap _ _ _))
       have h3 : Has w (rdA g s0 :: blkA (w.heap.size + 1) 106 (rcc zR (.slice none 0 0)) :: blkA w1.heap.size 144 #[pt g] :: blkA w.heap.size 106 (rcc zR (.slice none 0 0)) :: []) (w1.alloc (.cells #[pt g] 144)) := h2
       have r1 := (h3.blkIn (g := w1.heap.size) (t := 144) (cs := #[pt g]) (by simp)).cell 0
       simp at r1
       have H3 := Lib.hid h3
       clear h1 h2 h3 HN)
    | (go_at_call 81; refine (H3.out.rdNums [0, 1, 2, 3] (by simp) rfl rfl (by simp) (fun i hi => by simp at hi; rcases hi with rfl | rfl | rfl | rfl <;> exact ⟨0, rfl⟩)).mono ?_; rintro e w2 ⟨vs, ⟨rfl, hvl, hvb, hvs⟩, h4⟩
       obtain ⟨a0, a1, a2, a3, rfl⟩ := four_ hvl
       have e1 : sets (rcc zR (.slice none 0 0)) (ivs [0, 1, 2, 3] [a0, a1, a2, a3]) = rcc ⟨(a0 : Int), (a1 : Int), (a2 : Int), (a3 : Int), ⟨#[]⟩, 0, 0, 0, 0, []⟩ (.slice none 0 0) := by simp [sets, ivs, zR]
       rw [e1] at h4
       have r2 := (h4.blkIn (g := w1.heap.size) (t := 144) (cs := #[pt g]) (by simp)).cell 0
       simp at r2
       have H4 := Lib.hid h4
       clear h4 e1 H3 r1)
    | (go_at_call 89; refine H4.out.rdStr.mono ?_; rintro e w3 ⟨u, ⟨rfl, hu⟩, h5⟩
       have z1 := h5.swap.blk.1.cell 4
       have zf := h5.swap.blk.1.frozen 4
       simp at z1
       have h5 := (h5.swap.setBlk 4 (.string u)).swap
       have r3 := (h5.blkIn (g := w1.heap.size) (t := 144) (cs := #[pt g]) (by simp)).cell 0
       simp at r3
       have H5 := Lib.hid h5
       clear h5 H4 r2)
    | (go_at_call 85; refine (H5.out.rdStamps [5, 7] (by simp [World.setCell]) rfl rfl (by simp) (fun i hi => by simp at hi; rcases hi with rfl | rfl <;> exact ⟨⟨0, rfl⟩, ⟨0, rfl⟩⟩)).mono ?_; rintro e w4 ⟨vt, ⟨rfl, htl, htb, hts⟩, h6⟩
       obtain ⟨b0, b1, b2, b3, rfl⟩ := four_ htl
       have e2 : sets ((rcc ⟨(a0 : Int), (a1 : Int), (a2 : Int), (a3 : Int), ⟨#[]⟩, 0, 0, 0, 0, []⟩ (.slice none 0 0)).setIfInBounds 4 (.string u)) (ivs (dbl [5, 7]) [b0, b1, b2, b3]) = rcc ⟨(a0 : Int), (a1 : Int), (a2 : Int), (a3 : Int), u, b0, b1, b2, b3, []⟩ (.slice none 0 0) := by simp [sets, ivs, dbl]
       rw [e2] at h6
       have r4 := (h6.blkIn (g := w1.heap.size) (t := 144) (cs := #[pt g]) (by simp)).cell 0
       simp at r4
       have h7 := (h6.rowNil 159 2).perm ((List.perm_middle (l₁ := [_, _, _]) (a := rowA 159 2 (.slice none 0 0) 0 [])).symm)
       have HM := Lib.hid (many_c pW 96 #[pt w1.heap.size, pt (w.heap.size + 1)] g (xR (w.heap.size + 1) w1.heap.size g ⟨(a0 : Int), (a1 : Int), (a2 : Int), (a3 : Int), u, b0, b1, b2, b3, []⟩) w
         (fun args W => by rfl) pW_eats (fun T V s v l hl h => closR (w.heap.size + 1) w1.heap.size g _ w T V s v l hl h) w4 _ (.slice none 0 0) [blkA w.heap.size 106 (rcc zR (.slice none 0 0))] h7)
       clear h6 h7 e2 H5 r3)
    | (go_at_call 92; refine HM.out.mono ?_; rintro e w5 ⟨rfl, l, v', hl, h8⟩
       have h8 : Has w (rdA g (finR s0) :: (xR (w.heap.size + 1) w1.heap.size g ⟨(a0 : Int), (a1 : Int), (a2 : Int), (a3 : Int), u, b0, b1, b2, b3, []⟩ v' l ++ [blkA w.heap.size 106 (rcc zR (.slice none 0 0))])) w5 := h8
       have r5 := (h8.blkIn (g := w1.heap.size) (t := 144) (cs := #[pt g]) (by simp [xR])).cell 0
       simp at r5
       obtain ⟨Av, cv, rfl, hat, hnc, hcm, hav⟩ := wtRow (h8.perm (List.perm_middle (l₁ := [_, _, _]))).rowOf
       have hap : ∀ a, Av = some a → a.block ≠ w.heap.size := (h8.perm (List.perm_middle (l₁ := [_, _, _]))).apart (g := w.heap.size) (t := 106) (cs := rcc zR (.slice none 0 0)) (by simp [xR])
       have kx := h8.blkIn (g := w.heap.size + 1) (t := 106) (cs := rcc ⟨(a0 : Int), (a1 : Int), (a2 : Int), (a3 : Int), u, b0, b1, b2, b3, l⟩ (.slice Av l.length cv)) (by simp [xR])
       have ky := h8.blkIn (g := w.heap.size) (t := 106) (cs := rcc zR (.slice none 0 0)) (by simp [xR])
       obtain ⟨kk, bb, hk, hbb, hCK⟩ := checkR2 ⟨(a0 : Int), (a1 : Int), (a2 : Int), (a3 : Int), u, b0, b1, b2, b3, l⟩ Av l.length cv w5 hat (by omega)
       have q0 := kx.cell 0
       have p0 := ky.cell 0
       have f0 := ky.frozen 0
       have q1 := kx.cell 1
       have p1 := ky.cell 1
       have f1 := ky.frozen 1
       have q2 := kx.cell 2
       have p2 := ky.cell 2
       have f2 := ky.frozen 2
       have q3 := kx.cell 3
       have p3 := ky.cell 3
       have f3 := ky.frozen 3
       have q4 := kx.cell 4
       have p4 := ky.cell 4
       have f4 := ky.frozen 4
       have q5 := kx.cell 5
       have p5 := ky.cell 5
       have f5 := ky.frozen 5
       have q6 := kx.cell 6
       have p6 := ky.cell 6
       have f6 := ky.frozen 6
       have q7 := kx.cell 7
       have p7 := ky.cell 7
       have f7 := ky.frozen 7
       have q8 := kx.cell 8
       have p8 := ky.cell 8
       have f8 := ky.frozen 8
       have q9 := kx.cell 9
       have p9 := ky.cell 9
       have f9 := ky.frozen 9
       simp at q0 p0 q1 p1 q2 p2 q3 p3 q4 p4 q5 p5 q6 p6 q7 p7 q8 p8 q9 p9
       have hbel := h8.bel
       have HCK := Lib.hid hCK
       have HKX := Lib.hid kx
       have HKY := Lib.hid ky
       have HAT := Lib.hid hat
       have H8 := Lib.hid h8
       have HLL := Lib.hid (show finR s0 ≠ none → l = (many pW (pn (pns 4 (ps (pns 4 s0).2).2).2).1 (pn (pns 4 (ps (pns 4 s0).2).2).2).2).1 from hl)
       clear h8 HM r4 kx ky hCK hat hl)
    | (go_at_call 82; refine H8.out.rdDone.mono ?_; rintro e w6 ⟨rfl, rfl⟩
       obtain ⟨bd, hbd⟩ : ∃ bd, decide (finR s0 = some []) = bd := ⟨_, rfl⟩
       rw [hbd]
       have HBD := Lib.hid hbd
       clear hbd)
    | (go_at_call 97; refine HCK.out.mono ?_; rintro e w7 ⟨rfl, hb7⟩
       have kx7 := HKX.out.below hb7 HKX.out.lt
       have ky7 := HKY.out.below hb7 HKY.out.lt
       have j0 := kx7.cell 0
       have m0 := ky7.cell 0
       have n0 := ky7.frozen 0
       have j1 := kx7.cell 1
       have m1 := ky7.cell 1
       have n1 := ky7.frozen 1
       have j2 := kx7.cell 2
       have m2 := ky7.cell 2
       have n2 := ky7.frozen 2
       have j3 := kx7.cell 3
       have m3 := ky7.cell 3
       have n3 := ky7.frozen 3
       have j4 := kx7.cell 4
       have m4 := ky7.cell 4
       have n4 := ky7.frozen 4
       have j5 := kx7.cell 5
       have m5 := ky7.cell 5
       have n5 := ky7.frozen 5
       have j6 := kx7.cell 6
       have m6 := ky7.cell 6
       have n6 := ky7.frozen 6
       have j7 := kx7.cell 7
       have m7 := ky7.cell 7
       have n7 := ky7.frozen 7
       have j8 := kx7.cell 8
       have m8 := ky7.cell 8
       have n8 := ky7.frozen 8
       have j9 := kx7.cell 9
       have m9 := ky7.cell 9
       have n9 := ky7.frozen 9
       simp at j0 m0 j1 m1 j2 m2 j3 m3 j4 m4 j5 m5 j6 m6 j7 m7 j8 m8 j9 m9))
  all_goals
    have hy : finR s0 = some [] → (⟨(a0 : Int), (a1 : Int), (a2 : Int), (a3 : Int), u, b0, b1, b2, b3, l⟩ : Rc) = (rdR (sb t)).1 := by
      intro hf
      have hs := HS1.out (fun e => by rw [e] at hf; cases hf)
      subst hs
      exact rdR_parts (sb t) hvs hu hts HLL.out (by rw [hf]; simp)
  · rename_i hbd hm
    rw [hbd] at HBD
    have hf : finR s0 = some [] := of_decide_eq_true HBD.out
    have hm' : mayR ⟨(a0 : Int), (a1 : Int), (a2 : Int), (a3 : Int), u, b0, b1, b2, b3, l⟩ = false := by simpa using hm
    have hW : Blk _ w.heap.size 106 (rcc zR (.slice none 0 0)) := ky7.all10
    refine ret_rc rfl rfl hW rfl rfl ⟨?_, ((((((((((hbel.trans (hb7.mono hbel.size)).setCell (by exact Nat.le_refl _) _).setCell (by exact Nat.le_refl _) _).setCell (by exact Nat.le_refl _) _).setCell (by exact Nat.le_refl _) _).setCell (by exact Nat.le_refl _) _).setCell (by exact Nat.le_refl _) _).setCell (by exact Nat.le_refl _) _).setCell (by exact Nat.le_refl _) _).setCell (by exact Nat.le_refl _) _).setCell (by exact Nat.le_refl _) _⟩
    rw [HFI.out, if_neg (by rw [← hy hf, hm']; simp)]
    rfl
  · rename_i hbd hm
    rw [hbd] at HBD
    have hf : finR s0 = some [] := of_decide_eq_true HBD.out
    have hm' : mayR ⟨(a0 : Int), (a1 : Int), (a2 : Int), (a3 : Int), u, b0, b1, b2, b3, l⟩ = true := by simpa using hm
    have hW : Blk _ w.heap.size 106 (rcc ⟨(a0 : Int), (a1 : Int), (a2 : Int), (a3 : Int), u, b0, b1, b2, b3, l⟩ (.slice Av l.length cv)) := ky7.all10
    have hat7 := HAT.out.below hb7
    refine ret_rc rfl rfl hW rfl rfl ⟨?_, ((((((((((hbel.trans (hb7.mono hbel.size)).setCell (by exact Nat.le_refl _) _).setCell (by exact Nat.le_refl _) _).setCell (by exact Nat.le_refl _) _).setCell (by exact Nat.le_refl _) _).setCell (by exact Nat.le_refl _) _).setCell (by exact Nat.le_refl _) _).setCell (by exact Nat.le_refl _) _).setCell (by exact Nat.le_refl _) _).setCell (by exact Nat.le_refl _) _).setCell (by exact Nat.le_refl _) _⟩
    rw [HFI.out, if_pos ⟨hf, by rw [← hy hf, hm']⟩, ← hy hf]
    refine ⟨Av, l.length, cv, rfl, ?_, hnc, hcm, fun p hp => by have := hav p hp; have := hb7.size; simp [World.setCell]; omega⟩
    refine hat7.keep fun a ha j z hz => ?_
    have hne := hap a ha
    simp only [World.cell?, World.setCell, Array.getElem?_modify] at hz ⊢
    simpa [hne, hne.symm] using hz
  · rename_i hbd
    have hf : ¬ finR s0 = some [] := by
      have := HBD.out
      intro h
      rw [decide_eq_true h] at this
      exact hbd this.symm
    have hW : Blk _ w.heap.size 106 (rcc zR (.slice none 0 0)) := HKY.out.all10
    refine ret_rc rfl rfl hW rfl rfl ⟨?_, ((((((((((hbel).setCell (by exact Nat.le_refl _) _).setCell (by exact Nat.le_refl _) _).setCell (by exact Nat.le_refl _) _).setCell (by exact Nat.le_refl _) _).setCell (by exact Nat.le_refl _) _).setCell (by exact Nat.le_refl _) _).setCell (by exact Nat.le_refl _) _).setCell (by exact Nat.le_refl _) _).setCell (by exact Nat.le_refl _) _).setCell (by exact Nat.le_refl _) _⟩
    rw [HFI.out, if_neg (fun h => hf h.1)]
    rfl
end Go.Proofs.YtiafmbfeigcinaaGreatDoor
set_option linter.unusedVariables false
set_option linter.unusedSimpArgs false
set_option maxRecDepth 100000
namespace Go.Proofs.YtiafmbfeigcinaaGreatDoor
open Go.RowKit

theorem rIsId_c (n : Int) (b : Bool) (h : isI n = b) (w : World) : Calls Tryz.prog 147 #[.int .i64 n] w fun e w' => e = .returned (.bool b) ∧ w = w' := by
  subst h
  go_enter Tryz.func147, Tryz.ntmps147
  go_wp2
  all_goals go_ret
  all_goals refine ⟨congrArg (fun v => Ending.returned (Value.bool v)) ?_, rfl⟩
  all_goals unfold isI
  all_goals first | exact (decide_eq_true (by omega)).symm | exact (decide_eq_false (by omega)).symm | exact decide_eq_decide.2 (by omega)
theorem rHead_c (id ep pr : Int) (an : ByteArray) (b : Bool) (h : hdr id ep pr an = b) (w : World) : Calls Tryz.prog 144 #[.int .i64 id, .int .i64 ep, .int .i64 pr, .string an] w fun e w' => e = .returned (.bool b) ∧ w = w' := by
  subst h
  have HC := Lib.hid (refCheck an)
  cases h1 : isI id
  all_goals by_cases h4 : 1 ≤ an.size ∧ an.size ≤ 32
  all_goals (first | rw [if_pos h4] at HC | rw [if_neg h4] at HC)
  all_goals (first | have k4 : isK an = true := isK_iff.2 h4 | have k4 : isK an = false := decide_eq_false h4)
  all_goals by_cases h2 : 0 ≤ ep
  all_goals by_cases h3 : ep ≤ 9007199254740991
  all_goals by_cases h5 : 1 ≤ pr
  all_goals by_cases h6 : pr ≤ 1000
  all_goals go_enter Tryz.func144, Tryz.ntmps144
  all_goals go_wp2_with (first
    | (go_at_call 147; refine (rIsId_c _ _ h1 _).mono ?_; rintro e w1 ⟨rfl, rfl⟩)
    | (go_at_call 55; refine (HC.out _).mono ?_; rintro e w1 ⟨rfl, rfl⟩))
  all_goals go_ret
  all_goals refine ⟨congrArg (fun v => Ending.returned (Value.bool v)) ?_, rfl⟩
  all_goals unfold hdr
  all_goals rw [h1, k4]
  all_goals first
    | (simp; done)
    | (rw [show isN ep = true from decide_eq_true (by omega), show isP pr = true from decide_eq_true (by omega)]; rfl)
    | (rw [show isN ep = false from decide_eq_false (by omega)]; simp; done)
    | (rw [show isP pr = false from decide_eq_false (by omega)]; simp; done)
set_option maxHeartbeats 4000000 in
theorem rMayI_c (x : It) (b : Bool) (h : mayI x = b) (A : Option Addr) (n c : Nat) (w : World) (hx : ChAt w A n x.l) (hn : n ≤ 9223372036854775807) :
    Calls Tryz.prog 95 #[itv x (.slice A n c)] w fun e w' => e = .returned (.bool b) ∧ Below w.heap.size w w' := by
  obtain ⟨id, ep, pr, an, sw, sl, bw, bl, l⟩ := x
  simp only at hx
  unfold mayI at h
  simp only at h
  have hl := hx.1
  have g0 := nbl w (.cells (itc ⟨id, ep, pr, an, sw, sl, bw, bl, l⟩ (.slice A n c)) 37)
  have HX := Lib.hid (Blk.new w 37 (itc ⟨id, ep, pr, an, sw, sl, bw, bl, l⟩ (.slice A n c)))
  have HL := Lib.hid (hx.below g0)
  have HD := Lib.hid (fun V => rHead_c id ep pr an _ rfl V)
  have HS := Lib.hid (fun V => refCheck5 sw sl V)
  have HT := Lib.hid (fun V => refCheck5 bw bl V)
  cases h1 : hdr id ep pr an
  · rw [h1] at h HD
    simp at h
    subst h
    go_enter Tryz.func95, Tryz.ntmps95
    go_wp2_with (go_at_call 144; refine (HD.out _).mono ?_; rintro e w1 ⟨rfl, rfl⟩)
    go_ret
    exact ⟨rfl, g0⟩
  · rw [h1] at h HD
    cases h2 : may sw sl
    · rw [h2] at h
      simp at h
      subst h
      rw [show ck sw sl = 9 by unfold ck; rw [h2]; rfl] at HS
      go_enter Tryz.func95, Tryz.ntmps95
      go_wp2_with (first
          | (go_at_call 144; refine (HD.out _).mono ?_; rintro e w1 ⟨rfl, rfl⟩)
          | (go_at_call_of 57 (Value.agg #[.int .i64 sw, .int .i64 sl]); refine (HS.out _).mono ?_; rintro e w1 ⟨rfl, b1⟩; have X1 := Lib.hid (HX.out.below b1 (by simp)); have g1 := g0.trans (b1.mono g0.size); have y6 := X1.out.cell 6; have y7 := X1.out.cell 7; have y8 := X1.out.cell 8; simp at y6 y7 y8))
      go_ret
      exact ⟨rfl, g1⟩
    rw [h2] at h
    rw [show ck sw sl = 0 by unfold ck; rw [h2]; rfl] at HS
    cases h3 : may bw bl
    · rw [h3] at h
      simp at h
      subst h
      rw [show ck bw bl = 9 by unfold ck; rw [h3]; rfl] at HT
      go_enter Tryz.func95, Tryz.ntmps95
      go_wp2_with (first
          | (go_at_call 144; refine (HD.out _).mono ?_; rintro e w1 ⟨rfl, rfl⟩)
          | (go_at_call_of 57 (Value.agg #[.int .i64 sw, .int .i64 sl]); refine (HS.out _).mono ?_; rintro e w1 ⟨rfl, b1⟩; have X1 := Lib.hid (HX.out.below b1 (by simp)); have g1 := g0.trans (b1.mono g0.size); have y6 := X1.out.cell 6; have y7 := X1.out.cell 7; have y8 := X1.out.cell 8; simp at y6 y7 y8)
          | (go_at_call_of 57 (Value.agg #[.int .i64 bw, .int .i64 bl]); refine (HT.out _).mono ?_; rintro e w2 ⟨rfl, b2⟩; have X2 := Lib.hid (X1.out.below b2 X1.out.lt); have g2 := g1.trans (b2.mono g1.size); have z8 := X2.out.cell 8; simp at z8))
      go_ret
      exact ⟨rfl, g2⟩
    rw [h3] at h
    rw [show ck bw bl = 0 by unfold ck; rw [h3]; rfl] at HT
    by_cases h4 : 1 ≤ n
    case neg =>
      rw [decide_eq_false (by omega)] at h
      simp at h
      subst h
      obtain rfl : n = 0 := by omega
      go_enter Tryz.func95, Tryz.ntmps95
      go_wp2_with (first
          | (go_at_call 144; refine (HD.out _).mono ?_; rintro e w1 ⟨rfl, rfl⟩)
          | (go_at_call_of 57 (Value.agg #[.int .i64 sw, .int .i64 sl]); refine (HS.out _).mono ?_; rintro e w1 ⟨rfl, b1⟩; have X1 := Lib.hid (HX.out.below b1 (by simp)); have g1 := g0.trans (b1.mono g0.size); have y6 := X1.out.cell 6; have y7 := X1.out.cell 7; have y8 := X1.out.cell 8; simp at y6 y7 y8)
          | (go_at_call_of 57 (Value.agg #[.int .i64 bw, .int .i64 bl]); refine (HT.out _).mono ?_; rintro e w2 ⟨rfl, b2⟩; have X2 := Lib.hid (X1.out.below b2 X1.out.lt); have g2 := g1.trans (b2.mono g1.size); have z8 := X2.out.cell 8; simp at z8))
      go_ret
      exact ⟨rfl, g2⟩
    by_cases h5 : n ≤ 16
    case neg =>
      rw [decide_eq_false (by omega)] at h
      simp at h
      subst h
      go_enter Tryz.func95, Tryz.ntmps95
      go_wp2_with (first
          | (go_at_call 144; refine (HD.out _).mono ?_; rintro e w1 ⟨rfl, rfl⟩)
          | (go_at_call_of 57 (Value.agg #[.int .i64 sw, .int .i64 sl]); refine (HS.out _).mono ?_; rintro e w1 ⟨rfl, b1⟩; have X1 := Lib.hid (HX.out.below b1 (by simp)); have g1 := g0.trans (b1.mono g0.size); have y6 := X1.out.cell 6; have y7 := X1.out.cell 7; have y8 := X1.out.cell 8; simp at y6 y7 y8)
          | (go_at_call_of 57 (Value.agg #[.int .i64 bw, .int .i64 bl]); refine (HT.out _).mono ?_; rintro e w2 ⟨rfl, b2⟩; have X2 := Lib.hid (X1.out.below b2 X1.out.lt); have g2 := g1.trans (b2.mono g1.size); have z8 := X2.out.cell 8; simp at z8))
      go_ret
      exact ⟨rfl, g2⟩
    rw [decide_eq_true (by omega)] at h
    simp at h
    have HH := Lib.hid h
    have HLn := Lib.hid hl
    clear h hl hx
    go_enter Tryz.func95, Tryz.ntmps95
    go_wp2_with (first
      | (go_at_call 144; refine (HD.out _).mono ?_; rintro e w1 ⟨rfl, rfl⟩)
      | (go_at_call_of 57 (Value.agg #[.int .i64 sw, .int .i64 sl]); refine (HS.out _).mono ?_; rintro e w1 ⟨rfl, b1⟩; have X1 := Lib.hid (HX.out.below b1 (by simp)); have g1 := g0.trans (b1.mono g0.size); have y6 := X1.out.cell 6; have y7 := X1.out.cell 7; have y8 := X1.out.cell 8; simp at y6 y7 y8)
      | (go_at_call_of 57 (Value.agg #[.int .i64 bw, .int .i64 bl]); refine (HT.out _).mono ?_; rintro e w2 ⟨rfl, b2⟩; have X2 := Lib.hid (X1.out.below b2 X1.out.lt); have g2 := g1.trans (b2.mono g1.size); have z8 := X2.out.cell 8; simp at z8))
    have HL2 := Lib.hid (HL.out.below (b1.trans (b2.mono b1.size)))
    have G2 := Lib.hid g2
    clear HX HL HD HS HT b1 b2 g0 g1 g2 X1 X2 y6 y7 y8
    go_loopw [3, 4] (fun la i wr => ∃ (j : Nat) (a : Int), j ≤ n ∧ la = .int .i64 a ∧ i = .int .i64 j ∧ 0 ≤ a ∧ a ≤ 9007199254740991 ∧ Hid (rise a (l.drop j) = b) ∧ Hid (Below w2.heap.size w2 wr)) (fun _ i _ => n - (intOf i).toNat)
    case atStart => exact ⟨0, 0, Nat.zero_le _, rfl, rfl, by omega, by omega, HH, Lib.hid (Below.refl _ _)⟩
    case round =>
      obtain ⟨j, a, hj, rfl, rfl, ha, ha2, HR, HBW⟩ := hrel
      have x8 := kept_below HBW.out _ _ z8
      by_cases hlt : j < n
      · have hjl : j < l.length := by rw [HLn.out]; exact hlt
        obtain ⟨B, o, rfl, hc⟩ := HL2.out.2 (by omega)
        have p := hc j hjl
        have hr := HR.out
        rw [List.drop_eq_getElem_cons hjl] at hr
        obtain ⟨cc, hcc⟩ : ∃ cc, l[j]'hjl = cc := ⟨_, rfl⟩
        rw [hcc] at p hr
        obtain ⟨q, s, d⟩ := cc
        obtain ⟨p0, p1, p2⟩ := p
        have P0 := kept_below HBW.out _ _ p0
        have P1 := kept_below HBW.out _ _ p1
        have P2 := kept_below HBW.out _ _ p2
        have W0 := Blk.new wr 79 #[.int .i64 q, .string s, .bool d]
        have o0 := W0.cell 0
        have o1 := W0.cell 1
        have o2 := W0.cell 2
        have o8 := kept_below (nbl wr (.cells #[.int .i64 q, .string s, .bool d] 79)) _ _ x8
        have HN := Lib.hid (HBW.out.alloc HBW.out.size (.cells #[.int .i64 q, .string s, .bool d] 79))
        simp at o0 o1 o2
        have e1 := empty_iff s
        have e2 := empty_is s
        have HO : Hid (rise a (⟨q, s, d⟩ :: l.drop (j + 1)) = b) := Lib.hid hr
        have hno : ∀ (hk : okCh a ⟨q, s, d⟩ = false), b = false := fun hk => by
          have := HO.out
          rw [rise, hk] at this
          simpa using this.symm
        have HNO := Lib.hid hno
        clear hc hcc hr W0 hno p0 p1 p2
        have fin : ∀ (hk : okCh a ⟨q, s, d⟩ = true), rise q (l.drop (j + 1)) = b := fun hk => by
          have := HO.out
          rw [rise, hk] at this
          simpa using this
        have HFIN := Lib.hid fin
        clear fin
        by_cases c1 : a < q
        case neg =>
          have hF := HNO.out (by unfold okCh; rw [decide_eq_false c1]; rfl)
          subst hF
          go_wp2
          go_ret
          exact ⟨rfl, G2.out.trans (HN.out.mono G2.out.size)⟩
        by_cases c2 : q ≤ 9007199254740991
        case neg =>
          have hF := HNO.out (by unfold okCh; rw [show isI q = false from decide_eq_false (by omega)]; simp)
          subst hF
          go_wp2
          go_ret
          exact ⟨rfl, G2.out.trans (HN.out.mono G2.out.size)⟩
        by_cases c3 : s.size ≤ 64
        case neg =>
          have hF := HNO.out (by unfold okCh; rw [show isV s (!d) = false from decide_eq_false (by omega)]; simp)
          subst hF
          go_wp2
          go_ret
          exact ⟨rfl, G2.out.trans (HN.out.mono G2.out.size)⟩
        by_cases c4 : s.size = 0
        · rw [decide_eq_true c4] at e1 e2
          have hT := HFIN.out (by unfold okCh; rw [decide_eq_true c1, show isI q = true from isI_iff.2 (by omega), show isV s (!d) = true from isV_iff.2 ⟨c3, Or.inr c4⟩]; rfl)
          have HT := Lib.hid hT
          clear hT HO
          cases d
          all_goals go_wp2
          all_goals go_roundw
          all_goals try (case rel => exact ⟨j + 1, q, by omega, rfl, by go_num, by omega, by omega, HT, HN⟩)
          all_goals (simp [intOf]; omega)
        · rw [decide_eq_false c4] at e1 e2
          cases d
          · have hT := HFIN.out (by unfold okCh; rw [decide_eq_true c1, show isI q = true from isI_iff.2 (by omega), show isV s (!false) = true from isV_iff.2 ⟨c3, Or.inl rfl⟩]; rfl)
            have HT := Lib.hid hT
            clear hT HO
            go_wp2
            go_roundw
            case rel => exact ⟨j + 1, q, by omega, rfl, by go_num, by omega, by omega, HT, HN⟩
            case measure => simp [intOf]; omega
          · have hF := HNO.out (by unfold okCh; rw [show isV s (!true) = false from decide_eq_false (fun hh => hh.2.elim (fun h => by simp at h) c4)]; simp)
            subst hF
            go_wp2
            go_ret
            exact ⟨rfl, G2.out.trans (HN.out.mono G2.out.size)⟩
      · have hT : b = true := by
          have := HR.out
          rw [List.drop_eq_nil_of_le (by have := HLn.out; omega)] at this
          exact this.symm
        subst hT
        go_wp2
        go_ret
        exact ⟨rfl, G2.out.trans (HBW.out.mono G2.out.size)⟩
end Go.Proofs.YtiafmbfeigcinaaGreatDoor
set_option linter.unusedVariables false
set_option linter.unusedSimpArgs false
set_option maxRecDepth 100000
namespace Go.Proofs.YtiafmbfeigcinaaGreatDoor
open Go.RowKit

def str2 (l : List UInt8) (e : Int) : Ending := .returned (.tuple #[.string ⟨l.toArray⟩, .int .i64 e])
def markK (m : List UInt8) (k : ByteArray) (b : List UInt8) : Ending := if isK k then str2 (m ++ okey (sb k) ++ b) 0 else str2 [] 2
theorem okey_len (k : ByteArray) (h : k.size ≤ 32) : (okey (sb k)).length ≤ 66 := by
  have := esc_len (ob k)
  rw [ob_len] at this
  show (esc (ob k) ++ [0, 0]).length ≤ 66
  rw [List.length_append]
  simp
  omega
set_option maxHeartbeats 1000000 in
theorem marked_c (m k b : ByteArray) (w : World) (hM : MaxL w) (hm : m.size ≤ 10) (hb : b.size ≤ 100) :
    Calls Tryz.prog 148 #[.string m, .string k, .string b] w fun e w' => e = markK (sb m) k (sb b) ∧ Below w.heap.size w w' := by
  unfold markK
  cases h1 : isK k
  · go_enter Tryz.func148, Tryz.ntmps148
    go_wp2_with (go_at_call 181; refine (isKey_c _ _ h1 _).mono ?_; rintro e w1 ⟨rfl, rfl⟩)
    go_ret2
    exact ⟨rfl, Below.refl _ _⟩
  · have hk := isK_iff.1 h1
    have HK := Lib.hid (key k w (by omega) hM)
    have hl := okey_len k hk.2
    have hq0 : okey (ob k) = okey (sb k) := rfl
    rw [hq0] at HK
    obtain ⟨q, hq⟩ : ∃ q, okey (sb k) = q := ⟨_, rfl⟩
    rw [hq] at HK hl ⊢
    obtain ⟨qb, hqb⟩ : ∃ qb : ByteArray, ⟨q.toArray⟩ = qb := ⟨_, rfl⟩
    rw [hqb] at HK
    have hqs : qb.size ≤ 66 := by rw [← hqb]; exact hl
    have HE := Lib.hid (show (m ++ qb ++ b : ByteArray) = ⟨(sb m ++ q ++ sb b).toArray⟩ by
      apply ByteArray.ext
      rw [← hqb]
      simp [sb])
    clear hqb hq hq0 hl
    go_enter Tryz.func148, Tryz.ntmps148
    go_wp2_with (first
      | (go_at_call 181; refine (isKey_c _ _ h1 _).mono ?_; rintro e w1 ⟨rfl, rfl⟩)
      | (go_at_call 188; refine HK.out.mono ?_; rintro e w1 ⟨rfl, hb1⟩))
    go_ret2
    refine ⟨?_, hb1⟩
    have hE := HE.out
    rw [List.append_assoc] at hE
    simp only [if_true, List.append_assoc]
    unfold str2
    rw [← hE]
    rfl
theorem intentKey_c (k : ByteArray) (w : World) (hM : MaxL w) :
    Calls Tryz.prog 101 #[.string k] w fun e w' => e = markK [105] k [] ∧ Below w.heap.size w w' := by
  have HC := Lib.hid (marked_c ⟨#[105]⟩ k ⟨#[]⟩ w hM (by decide) (by decide))
  have e0 : markK (sb ⟨#[105]⟩) k (sb ⟨#[]⟩) = markK [105] k [] := rfl
  rw [e0] at HC
  obtain ⟨s, n, hs⟩ : ∃ s n, markK [105] k [] = .returned (.tuple #[.string s, .int .i64 n]) := by
    unfold markK
    split
    · exact ⟨_, _, rfl⟩
    · exact ⟨_, _, rfl⟩
  rw [hs] at HC ⊢
  clear e0 hs
  go_enter Tryz.func101, Tryz.ntmps101
  go_wp2_with (go_at_call 148; refine HC.out.mono ?_; rintro e w1 ⟨rfl, hb1⟩)
  go_ret2
  exact ⟨rfl, hb1⟩
theorem bound_c (w : World) : Calls Tryz.prog 104 #[] w fun e w' => e = .returned (.string ⟨#[98]⟩) ∧ w = w' := by
  go_enter Tryz.func104, Tryz.ntmps104
  go_wp2
  go_ret
  exact ⟨rfl, rfl⟩
theorem threshold_no (n : Int) (h : n < 1 ∨ 6 < n) (w : World) : Calls Tryz.prog 100 #[.int .i64 n] w fun e w' => e = str2 [] 2 ∧ Below w.heap.size w w' := by
  rcases h with h | h
  all_goals go_enter Tryz.func100, Tryz.ntmps100
  all_goals go_wp2
  all_goals go_ret2
  all_goals exact ⟨rfl, Below.refl _ _⟩
theorem threshold_c (n : Nat) (h1 : 1 ≤ n) (h6 : n ≤ 6) (w : World) : Calls Tryz.prog 100 #[.int .i64 (n : Int)] w fun e w' => e = str2 [103, UInt8.ofNat n] 0 ∧ Below w.heap.size w w' := by
  have hn : (n : Int) % 256 = (n : Int) := by omega
  have hcv := (at_b (w := w) (x := (n : Int)) (b := UInt8.ofNat n) 5 (by rw [UInt8.toNat_ofNat']; omega)).conv (P := Tryz.prog) 1 91 5 9 Tryz.underlying91 (by kernel_rfl) Tryz.underlying9
  go_enter Tryz.func100, Tryz.ntmps100
  go_wp2
  go_ret2
  exact ⟨rfl, nbl w _⟩
theorem cutPre0 (k : ByteArray) (c : UInt8) (w : World) (b : Bool) (hb : (sb k).head? = some c ↔ b = true) :
    Calls Tryz.prog 189 #[.string k, .string ⟨#[c]⟩] w fun e w' => e = .returned (.tuple #[.string (if b then k.extract 1 k.size else k), .bool b]) ∧ w = w' := by
  have hp : Lib.hasPrefix (ob k) (ob ⟨#[c]⟩) = b := by
    rw [Bool.eq_iff_iff, ← hb]
    show Lib.hasPrefix (sb k) [c] = true ↔ _
    generalize sb k = l
    cases l with
    | nil => simp [Lib.hasPrefix]
    | cons x l =>
      constructor
      · intro h
        have : c = x := by simpa [Lib.hasPrefix, List.isPrefixOf] using h
        rw [this]
        rfl
      · intro h
        have : x = c := by simpa using h
        subst this
        simp [Lib.hasPrefix, List.isPrefixOf]
  have HP := Lib.hid (hasPre0 k ⟨#[c]⟩ b w hp)
  have H1 : Calls Tryz.prog 208 #[.string k, .string ⟨#[c]⟩] w fun e w' => e = .returned (.tuple #[.string (if b then k.extract 1 k.size else k), .bool b]) ∧ w = w' := by
    have hk : b = true → 1 ≤ k.size := by
      intro h
      have := hb.2 h
      rw [← sb_len]
      cases hh : sb k with
      | nil => rw [hh] at this; cases this
      | cons x l => simp
    clear hb hp
    cases b
    · go_enter Tryz.func208, Tryz.ntmps208
      go_wp2_with (go_at_call 219; refine HP.out.mono ?_; rintro e w1 ⟨rfl, rfl⟩)
      go_ret2
      exact ⟨rfl, rfl⟩
    · have hk1 := hk rfl
      have hz : (⟨#[c]⟩ : ByteArray).size = 1 := rfl
      go_enter Tryz.func208, Tryz.ntmps208
      go_wp2_with (go_at_call 219; refine HP.out.mono ?_; rintro e w1 ⟨rfl, rfl⟩)
      go_ret2
      exact ⟨rfl, rfl⟩
  obtain ⟨z, hz⟩ : ∃ z : ByteArray, (if b = true then k.extract 1 k.size else k) = z := ⟨_, rfl⟩
  rw [hz] at H1 ⊢
  have H2 := Lib.hid H1
  clear H1 hp hb HP hz
  go_enter Tryz.func189, Tryz.ntmps189
  go_wp2_with (go_at_call 208; refine H2.out.mono ?_; rintro e w1 ⟨rfl, rfl⟩)
  go_ret2
  exact ⟨rfl, rfl⟩
theorem tkey_err : ∀ (k : Nat) (l : List UInt8) (n x : Nat), l.length ≤ k → tkey n l = .error x → x ≠ 0
  | _, [], n, x, _, h => by rw [tkey_nil] at h; cases h; decide
  | 0, _ :: _, _, _, hl, _ => by simp at hl
  | k + 1, b :: t, n, x, hl, h => by
    simp only [List.length_cons] at hl
    have step : ∀ (u : List UInt8) (c : UInt8), u.length ≤ k → (if n = 0 then (.error 5 : Except Nat (List UInt8 × List UInt8)) else (tkey (n - 1) u).map fun p => (c :: p.1, p.2)) = .error x → x ≠ 0 := by
      intro u c hu h
      split at h
      · cases h; decide
      · cases hr : tkey (n - 1) u with
        | ok p => rw [hr] at h; cases h
        | error y =>
          rw [hr] at h
          have hy := tkey_err k u (n - 1) y hu hr
          cases h
          exact hy
    by_cases hb : b = 0
    · subst hb
      cases t with
      | nil => rw [tkey_zero] at h; cases h; decide
      | cons c t =>
        by_cases c0 : c = 0
        · subst c0; rw [tkey_end] at h; cases h
        · by_cases c1 : c = 1
          · subst c1
            rw [tkey_esc] at h
            exact step t 0 (by simp at hl; omega) h
          · rw [tkey_bad n c0 c1] at h; cases h; decide
    · rw [tkey_byte n hb] at h
      exact step t b (by omega) h
/-- With which key a table's key begins behind a mark, and what stands behind it. -/
def rk (m : UInt8) (k : List UInt8) : Option (List UInt8 × List UInt8) :=
  if k.head? = some m then (match tkey 1000 (k.drop 1) with
    | .ok p => if 1 ≤ p.1.length ∧ p.1.length ≤ 32 then some p else none
    | .error _ => none) else none
def rkA (o : Option (List UInt8 × List UInt8)) : Ending :=
  match o with
  | none => .returned (.tuple #[.string ⟨#[]⟩, .string ⟨#[]⟩, .bool false])
  | some p => .returned (.tuple #[.string ⟨p.1.toArray⟩, .string ⟨p.2.toArray⟩, .bool true])
set_option maxHeartbeats 1000000 in
theorem readKey_c (m : UInt8) (k : ByteArray) (w : World) (hk : k.size ≤ 150000000000000) :
    Calls Tryz.prog 149 #[.string ⟨#[m]⟩, .string k] w fun e w' => e = rkA (rk m (sb k)) ∧ Below w.heap.size w w' := by
  by_cases hh : (sb k).head? = some m
  · have HP := Lib.hid (cutPre0 k m w true ⟨fun _ => rfl, fun _ => hh⟩)
    rw [if_pos rfl] at HP
    have HT := Lib.hid (take (k.extract 1 k.size) w (by rw [ByteArray.size_extract]; omega))
    have e1 : ob (k.extract 1 k.size) = (sb k).drop 1 := ob_sb _ ▸ (sb_end k 1)
    rw [e1] at HT
    unfold rk
    rw [if_pos hh]
    cases ht : tkey 1000 ((sb k).drop 1) with
    | error x =>
      rw [ht] at HT
      have hx : ((x : Int) != 0) = true := by have := tkey_err _ _ _ _ (Nat.le_refl _) ht; simpa using this
      clear ht e1
      go_enter Tryz.func149, Tryz.ntmps149
      go_wp2_with (first
        | (go_at_call 189; refine HP.out.mono ?_; rintro e w1 ⟨rfl, rfl⟩)
        | (go_at_call 190; refine HT.out.mono ?_; rintro e w2 ⟨rfl, hb⟩; rw [TkAns_err]))
      go_ret3
      exact ⟨rfl, hb⟩
    | ok p =>
      rw [ht] at HT
      obtain ⟨s, r⟩ := p
      have hik : isK ⟨s.toArray⟩ = decide (1 ≤ s.length ∧ s.length ≤ 32) := rfl
      simp only
      by_cases h1 : 1 ≤ s.length ∧ s.length ≤ 32
      · rw [if_pos h1]
        rw [decide_eq_true h1] at hik
        clear ht e1 h1
        go_enter Tryz.func149, Tryz.ntmps149
        go_wp2_with (first
          | (go_at_call 189; refine HP.out.mono ?_; rintro e w1 ⟨rfl, rfl⟩)
          | (go_at_call 190; refine HT.out.mono ?_; rintro e w2 ⟨rfl, hb⟩; rw [TkAns_ok])
          | (go_at_call 181; refine (isKey_c _ _ hik _).mono ?_; rintro e w3 ⟨rfl, rfl⟩))
        go_ret3
        exact ⟨rfl, hb⟩
      · rw [if_neg h1]
        rw [decide_eq_false h1] at hik
        clear ht e1 h1
        go_enter Tryz.func149, Tryz.ntmps149
        go_wp2_with (first
          | (go_at_call 189; refine HP.out.mono ?_; rintro e w1 ⟨rfl, rfl⟩)
          | (go_at_call 190; refine HT.out.mono ?_; rintro e w2 ⟨rfl, hb⟩; rw [TkAns_ok])
          | (go_at_call 181; refine (isKey_c _ _ hik _).mono ?_; rintro e w3 ⟨rfl, rfl⟩))
        go_ret3
        exact ⟨rfl, hb⟩
  · have HP := Lib.hid (cutPre0 k m w false ⟨fun h => absurd h hh, fun h => nomatch h⟩)
    rw [if_neg (by simp)] at HP
    unfold rk
    rw [if_neg hh]
    clear hh
    go_enter Tryz.func149, Tryz.ntmps149
    go_wp2_with (go_at_call 189; refine HP.out.mono ?_; rintro e w1 ⟨rfl, rfl⟩)
    go_ret3
    exact ⟨rfl, Below.refl _ _⟩
theorem readIntent_c (k : ByteArray) (w : World) (hk : k.size ≤ 150000000000000) (s : List UInt8) (hr : rk 105 (sb k) = some (s, [])) :
    Calls Tryz.prog 102 #[.string k] w fun e w' => e = str2 s 0 ∧ Below w.heap.size w w' := by
  have HC := Lib.hid (readKey_c 105 k w hk)
  rw [hr] at HC
  clear hr
  go_enter Tryz.func102, Tryz.ntmps102
  go_wp2_with (go_at_call 149; refine HC.out.mono ?_; rintro e w1 ⟨rfl, hb1⟩; unfold rkA; simp only)
  go_ret2
  exact ⟨rfl, hb1⟩
theorem readIntent_no (k : ByteArray) (w : World) (hk : k.size ≤ 150000000000000) (hr : rk 105 (sb k) = none) :
    Calls Tryz.prog 102 #[.string k] w fun e w' => e = str2 [] 4 ∧ Below w.heap.size w w' := by
  have HC := Lib.hid (readKey_c 105 k w hk)
  rw [hr] at HC
  clear hr
  go_enter Tryz.func102, Tryz.ntmps102
  go_wp2_with (go_at_call 149; refine HC.out.mono ?_; rintro e w1 ⟨rfl, hb1⟩; unfold rkA; simp only)
  go_ret2
  exact ⟨rfl, hb1⟩
end Go.Proofs.YtiafmbfeigcinaaGreatDoor
set_option linter.unusedVariables false
set_option linter.unusedSimpArgs false
set_option maxRecDepth 100000
namespace Go.Proofs.YtiafmbfeigcinaaGreatDoor
open Go.RowKit

theorem aw_rk : rk 105 (sb ⟨#[105, 97, 0, 0]⟩) = some ([97], []) := by
  unfold rk
  rw [if_pos (show (sb ⟨#[105, 97, 0, 0]⟩).head? = some 105 from rfl), show (sb ⟨#[105, 97, 0, 0]⟩).drop 1 = esc [97] ++ 0 :: 0 :: [] by rfl, tkey_okey [97] 1000 [] (by decide)]
  rfl
set_option maxHeartbeats 400000 in
theorem awake_c (w : World) (hM : MaxL w) :
    Calls Tryz.prog 49 #[] w fun e w' => e = .returned (.bool true) ∧ Below w.heap.size w w' := by
  have hT2 := threshold_c 2 (by decide) (by decide) w
  rw [show ((2 : Nat) : Int) = 2 from rfl] at hT2
  have T2 := Lib.hid hT2
  clear hT2
  have e2 : str2 [103, UInt8.ofNat 2] 0 = .returned (.tuple #[.string ⟨#[103, 2]⟩, .int .i64 0]) := rfl
  rw [e2] at T2
  have e7 : str2 [] 2 = .returned (.tuple #[.string ⟨#[]⟩, .int .i64 2]) := rfl
  have eK : markK [105] ⟨#[97]⟩ [] = .returned (.tuple #[.string ⟨#[105, 97, 0, 0]⟩, .int .i64 0]) := by kernel_rfl
  have eR : str2 [97] 0 = .returned (.tuple #[.string ⟨#[97]⟩, .int .i64 0]) := rfl
  have v1 : isV ⟨#[120]⟩ true = true := by decide
  have v2 : isV ⟨#[120]⟩ false = false := by decide
  have v3 : isV ⟨#[]⟩ false = true := by decide
  obtain ⟨vx, hvx⟩ : ∃ vx : ByteArray, ⟨(txV ⟨#[120]⟩ true).toArray⟩ = vx := ⟨_, rfl⟩
  obtain ⟨vg, hvg⟩ : ∃ vg : ByteArray, ⟨(txV ⟨#[]⟩ false).toArray⟩ = vg := ⟨_, rfl⟩
  have eV1 : ansT (isV ⟨#[120]⟩ true) (txV ⟨#[120]⟩ true) = .returned (.tuple #[.string vx, .int .i64 0]) := by rw [v1, ← hvx]; rfl
  have eV2 : ansT (isV ⟨#[120]⟩ false) (txV ⟨#[120]⟩ false) = .returned (.tuple #[.string ⟨#[]⟩, .int .i64 2]) := by rw [v2]; rfl
  have eV3 : ansT (isV ⟨#[]⟩ false) (txV ⟨#[]⟩ false) = .returned (.tuple #[.string vg, .int .i64 0]) := by rw [v3, ← hvg]; rfl
  have eT1 : AnsV (tkV (sb vx)) = .returned (.tuple #[.string ⟨#[120]⟩, .bool true, .int .i64 0]) := by
    rw [← hvx]
    show AnsV (tkV (txV ⟨#[120]⟩ true)) = _
    rw [tkV_tx _ _ v1]
    rfl
  have eT2 : AnsV (tkV (sb vg)) = .returned (.tuple #[.string ⟨#[]⟩, .bool false, .int .i64 0]) := by
    rw [← hvg]
    show AnsV (tkV (txV ⟨#[]⟩ false)) = _
    rw [tkV_tx _ _ v3]
    rfl
  have z1 : vx.size ≤ 225000000000000 := by
    rw [← hvx]
    show (txV ⟨#[120]⟩ true).length ≤ _
    have := txV_len _ _ v1
    omega
  have z2 : vg.size ≤ 225000000000000 := by
    rw [← hvg]
    show (txV ⟨#[]⟩ false).length ≤ _
    have := txV_len _ _ v3
    omega
  clear hvx hvg v1 v2 v3 e2
  have z3 : (⟨#[105, 97, 0, 0]⟩ : ByteArray).size ≤ 150000000000000 := by decide
  have E7 := Lib.hid e7
  have EK := Lib.hid eK
  have ER := Lib.hid eR
  have EV1 := Lib.hid eV1
  have EV2 := Lib.hid eV2
  have EV3 := Lib.hid eV3
  have ET1 := Lib.hid eT1
  have ET2 := Lib.hid eT2
  clear e7 eK eR eV1 eV2 eV3 eT1 eT2
  go_enter Tryz.func49, Tryz.ntmps49
  go_wp2_with (first
    | (go_at_call 100; with_reducible refine T2.out.mono ?_; rintro e w1 ⟨rfl, b1⟩; clear T2)
    | (go_at_call 100; with_reducible refine (threshold_no 7 (.inr (by decide)) _).mono ?_; rintro e w2 ⟨he, b2⟩; rw [E7.out] at he; subst he; have b2 := b1.trans (b2.mono b1.size); have m2 := hM.below b2)
    | (go_at_call 101; with_reducible refine (intentKey_c ⟨#[97]⟩ _ m2).mono ?_; rintro e w3 ⟨he, b3⟩; rw [EK.out] at he; subst he; have b3 := b2.trans (b3.mono b2.size))
    | (go_at_call 102; with_reducible refine (readIntent_c ⟨#[105, 97, 0, 0]⟩ _ z3 _ aw_rk).mono ?_; rintro e w4 ⟨he, b4⟩; rw [ER.out] at he; subst he; have b4 := b3.trans (b4.mono b3.size))
    | (go_at_call 103; with_reducible refine (version_c ⟨#[120]⟩ true _).mono ?_; rintro e w5 ⟨he, b5⟩; rw [EV1.out] at he; subst he; have b5 := b4.trans (b5.mono b4.size))
    | (go_at_call 103; with_reducible refine (version_c ⟨#[120]⟩ false _).mono ?_; rintro e w6 ⟨he, b6⟩; rw [EV2.out] at he; subst he; have b6 := b5.trans (b6.mono b5.size))
    | (go_at_call 103; with_reducible refine (version_c ⟨#[]⟩ false _).mono ?_; rintro e w7 ⟨he, b7⟩; rw [EV3.out] at he; subst he; have b7 := b6.trans (b7.mono b6.size))
    | (go_at_call 42; with_reducible refine (takeV_c vx _ z1).mono ?_; rintro e w8 ⟨he, b8⟩; rw [ET1.out] at he; subst he; have b8 := b7.trans (b8.mono b7.size))
    | (go_at_call 42; with_reducible refine (takeV_c vg _ z2).mono ?_; rintro e w9 ⟨he, b9⟩; rw [ET2.out] at he; subst he; have b9 := b8.trans (b9.mono b8.size))
    | (go_at_call 104; with_reducible refine (bound_c _).mono ?_; rintro e w10 ⟨rfl, rfl⟩))
  go_ret
  exact ⟨rfl, b9⟩
end Go.Proofs.YtiafmbfeigcinaaGreatDoor
set_option linter.unusedVariables false
set_option linter.unusedSimpArgs false
set_option maxRecDepth 100000
namespace Go.Proofs.YtiafmbfeigcinaaGreatDoor
open Go.RowKit


end Go.Proofs.YtiafmbfeigcinaaGreatDoor
