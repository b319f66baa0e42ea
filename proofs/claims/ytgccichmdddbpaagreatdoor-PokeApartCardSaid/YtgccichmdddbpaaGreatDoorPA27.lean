/-
  Layer 11, the code: TakeIntent, TakeRecord.
  Layer 11, the code: TakeVersion, TakeStamp.
  Layer 11, the code: keys under which something stands; the examples.
  Layer 11: the statements' own examples.
  Layer 11, the code: Intent, Record.
  Layer 11, the code: the keys of records and versions; whose a key is.
  CellKinds: the walk.
  What stands for what in order: keys with marks, by the order of bytes.
-/
import Derived.Test.YtgccichmdddbpaaGreatDoorPA26
import Derived.Test.YtgccichmdddbpaaGreatDoorPA24
set_option linter.unusedVariables false
set_option linter.unusedSimpArgs false
set_option maxRecDepth 100000
namespace Go.Proofs.YtgccichmdddbpaaGreatDoor
open Go.RowKit

theorem pC_eats (b r : List UInt8) (h : (pC (some b)).2 = some r) : r.length < b.length := by
  rcases e : pC (some b) with ⟨c, o⟩
  rw [e] at h
  simp only at h
  subst h
  obtain ⟨e2, _⟩ := pC_back e
  injection e2 with e2
  rw [e2, List.length_append]
  have := enc_pos c.q.toNat
  unfold txC nbs
  rw [List.length_append]
  omega
theorem chc_get : ∀ (l : List Ch) (i : Nat) (h : i < l.length), (l.flatMap chc)[i * 3]? = some (.int .i64 (l[i]'h).q) ∧ (l.flatMap chc)[i * 3 + 1]? = some (.string (l[i]'h).s) ∧ (l.flatMap chc)[i * 3 + 2]? = some (.bool (l[i]'h).d)
  | [], i, h => absurd h (by simp)
  | c :: l, 0, h => ⟨rfl, rfl, rfl⟩
  | c :: l, i + 1, h => by
    have := chc_get l i (by simpa using h)
    have e1 : (i + 1) * 3 = i * 3 + 3 := by omega
    rw [e1]
    simpa [chc] using this
theorem chRow {w : World} {B n : Nat} {v : Value} {l : List Ch} (h : w.ownsRow B 24 3 v n (l.flatMap chc)) : ∃ A c, v = .slice A n c ∧ ChAt w A n l ∧ n ≤ c ∧ c ≤ 9223372036854775807 ∧ ∀ p, A = some p → p.block < w.heap.size := by
  have hl : l.length = n := by have := h.1; rw [chc_len] at this; omega
  rcases h.2 with ⟨rfl, h0⟩ | ⟨g, cap, cur, rfl, hb, hg, hnc, hcm, _⟩
  · exact ⟨none, 0, by rw [h0], ⟨hl, fun hm => by omega⟩, by omega, by omega, fun p hp => nomatch hp⟩
  · refine ⟨_, cap, rfl, ⟨hl, fun hm => ⟨g, 0, rfl, fun i hi => ?_⟩⟩, hnc, hcm, fun p hp => by cases hp; exact (Array.getElem?_eq_some_iff.1 hg).1⟩
    obtain ⟨h1, h2, h3⟩ := chc_get l i hi
    have c1 := World.ownsRow.cells h (g := g) rfl _ _ h1
    have c2 := World.ownsRow.cells h (g := g) rfl _ _ h2
    have c3 := World.ownsRow.cells h (g := g) rfl _ _ h3
    rw [Go.WideShapes.add_plain] at c1 c2 c3
    exact ⟨c1, by rw [Nat.add_assoc]; exact c2, by rw [Nat.add_assoc]; exact c3⟩
theorem Has.apart {w V : World} {l : List As} {A : Option Addr} {n c s m g : Nat} {E t : TypeId} {xs : List Value} {cs : Array Value} (h : Has w (rowA E s (.slice A n c) m xs :: l) V) (hm : blkA g t cs ∈ l) : ∀ a, A = some a → a.block ≠ g := by
  obtain ⟨⟨F, ⟨F1, F2, h1, h2, h3, h4⟩, _⟩, _⟩ := h
  obtain ⟨F3, a1, a2⟩ := h2.memL hm
  intro a ha e
  subst ha
  exact h3 g ((h1.2 g).2 (by rw [← e]; rfl)) (a2 g ((a1.2 g).2 rfl))
def zI : It := ⟨0, 0, 0, ⟨#[]⟩, 0, 0, 0, 0, []⟩
/-- What TakeIntent, TakeRecord answer. -/
def AnsI (o : Option It) (w : World) (e : Ending) (w' : World) : Prop :=
  match o with
  | none => e = .returned (.tuple #[itv zI (.slice none 0 0), .int .i64 4])
  | some x => ∃ A n c, e = .returned (.tuple #[itv x (.slice A n c), .int .i64 0]) ∧ ChAt w' A n x.l ∧ n ≤ c ∧ c ≤ 9223372036854775807 ∧ ∀ p, A = some p → p.block < w'.heap.size
theorem four_ {α : Type} {l : List α} (h : l.length = 4) : ∃ a b c d, l = [a, b, c, d] := by
  match l, h with
  | [a, b, c, d], _ => exact ⟨a, b, c, d, rfl⟩
theorem three3 {α : Type} {l : List α} (h : l.length = 3) : ∃ a b c, l = [a, b, c] := by
  match l, h with
  | [a, b, c], _ => exact ⟨a, b, c, rfl⟩
theorem Blk.all9 {w : World} {g : Nat} {t : TypeId} {c0 c1 c2 c3 c4 c5 c6 c7 c8 v0 v1 v2 v3 v4 v5 v6 v7 v8 : Value} (h : Blk w g t #[c0, c1, c2, c3, c4, c5, c6, c7, c8]) : Blk (((((((((w.setCell ⟨g, 0, none⟩ v0).setCell ⟨g, 1, none⟩ v1).setCell ⟨g, 2, none⟩ v2).setCell ⟨g, 3, none⟩ v3).setCell ⟨g, 4, none⟩ v4).setCell ⟨g, 5, none⟩ v5).setCell ⟨g, 6, none⟩ v6).setCell ⟨g, 7, none⟩ v7).setCell ⟨g, 8, none⟩ v8) g t #[v0, v1, v2, v3, v4, v5, v6, v7, v8] := by
  have := (((((((((h.set_ 0 v0).set_ 1 v1).set_ 2 v2).set_ 3 v3).set_ 4 v4).set_ 5 v5).set_ 6 v6).set_ 7 v7).set_ 8 v8)
  simpa using this
/-- How far the reader is behind it all. -/
def finI (s : Rst) : Rst := (many pC (pn (pns 4 (ps (pns 3 s).2).2).2).1 (pn (pns 4 (ps (pns 3 s).2).2).2).2).2
theorem finI_some (b : List UInt8) : finI (some b) = (rdI b).2 := rfl
theorem finI_none : finI none = none := rfl
theorem rdI_parts (b : List UInt8) {a0 a1 a2 b0 b1 b2 b3 : Nat} {u : ByteArray} {l : List Ch} (h1 : (pns 3 (some b)).2 ≠ none → [a0, a1, a2] = (pns 3 (some b)).1) (h2 : (ps (pns 3 (some b)).2).2 ≠ none → u = (ps (pns 3 (some b)).2).1)
    (h3 : (pns 4 (ps (pns 3 (some b)).2).2).2 ≠ none → [b0, b1, b2, b3] = (pns 4 (ps (pns 3 (some b)).2).2).1) (h4 : finI (some b) ≠ none → l = (many pC (pn (pns 4 (ps (pns 3 (some b)).2).2).2).1 (pn (pns 4 (ps (pns 3 (some b)).2).2).2).2).1)
    (hf : finI (some b) ≠ none) : (⟨a0, a1, a2, u, b0, b1, b2, b3, l⟩ : It) = (rdI b).1 := by
  have k4 : (pn (pns 4 (ps (pns 3 (some b)).2).2).2).2 ≠ none := fun e => hf (by unfold finI; rw [e, many_none])
  have k3 : (pns 4 (ps (pns 3 (some b)).2).2).2 ≠ none := fun e => k4 (by rw [e]; rfl)
  have k2 : (ps (pns 3 (some b)).2).2 ≠ none := pns_noneR k3
  have k1 : (pns 3 (some b)).2 ≠ none := fun e => k2 (by rw [e]; rfl)
  have j1 := h1 k1
  have j2 := h2 k2
  have j3 := h3 k3
  have j4 := h4 hf
  simp only [pns, List.cons.injEq, and_true] at j1 j3
  obtain ⟨e0, e1, e2⟩ := j1
  obtain ⟨e3, e4, e5, e6⟩ := j3
  subst e0 e1 e2 e3 e4 e5 e6 j2 j4
  rfl

theorem ret_it {fn : Func} {R : Ending → World → Prop} {a : Act} {w : World} {p u : Tmp} {g : Nat} {cs : Array Value} (hr : fn.results = #[.cell p 38, .tmp u]) (hp : a.tmps.getD p undef = .pointer (some ⟨g, 0, none⟩))
    (hB : Blk w g 38 cs) (hs : cs.size = 9) (hd : a.defers = []) (hR : R (.returned (.tuple #[.agg cs, a.tmps.getD u undef])) w) : bodyPost Tryz.prog fn R .ret a w := by
  refine bodyPost_ret ?_ hd hR
  have hp' : a.tmps[p]?.getD undef = .pointer (some ⟨g, 0, none⟩) := by simpa using hp
  simp [results, hr, hp', asAddr, run_loadVar_row w g 38 38 _ (0, 0) _ hB Tryz.underlying38 rfl (by rw [hs]; kernel_rfl)]
theorem checkI2 (x : It) (A : Option Addr) (n c : Nat) (w : World) (hx : ChAt w A n x.l) (hn : n ≤ 9223372036854775807) :
    ∃ (k : Int) (b : Bool), (k != 0) = b ∧ b = !mayI x ∧ Calls Tryz.prog 91 #[itv x (.slice A n c)] w fun e w' => e = .returned (.int .i64 k) ∧ Below w.heap.size w w' :=
  ⟨_, _, rfl, by cases mayI x <;> rfl, checkI x A n c w hx hn⟩
set_option maxHeartbeats 2000000 in
theorem takeI_c (t : ByteArray) (w : World) (ht : t.size ≤ 225000000000000) :
    Calls Tryz.prog 93 #[.string t] w fun e w' => AnsI (tkI (sb t)) w e w' ∧ Below w.heap.size w w' := by
  have h0 := ((Has.nil (Below.refl w.heap.size w)).newBlk 38 (itc zI (.slice none 0 0))).newBlk 38 (itc zI (.slice none 0 0))
  rw [show (w.alloc (.cells (itc zI (.slice none 0 0)) 38)).heap.size = w.heap.size + 1 by simp] at h0
  have HN := Lib.hid (h0.rdNew t ht)
  obtain ⟨s0, hs0⟩ : ∃ s0 : Rst, (if t.size ≤ 2048 then some (sb t) else none) = s0 := ⟨_, rfl⟩
  rw [hs0] at HN
  have hfi : tkI (sb t) = if finI s0 = some [] ∧ mayI (rdI (sb t)).1 = true then some (rdI (sb t)).1 else none := by
    by_cases hz : t.size ≤ 2048
    · rw [if_pos hz] at hs0
      subst hs0
      rw [finI_some]
      rfl
    · rw [if_neg hz] at hs0
      subst hs0
      rw [finI_none, if_neg (by simp), tkI_long (by rw [sb_len]; omega)]
  have hs1 : s0 ≠ none → s0 = some (sb t) := by
    intro hne
    by_cases hz : t.size ≤ 2048
    · rw [if_pos hz] at hs0; exact hs0.symm
    · rw [if_neg hz] at hs0; exact absurd hs0.symm hne
  have HFI := Lib.hid hfi
  have HS1 := Lib.hid hs1
  clear h0 hs0 hfi hs1
  go_enter Tryz.func93, Tryz.ntmps93
  go_wp2_with (first
    | (go_at_call 141; refine HN.out.mono ?_; rintro e w1 ⟨g, rfl, h1⟩
       have h2 := ((h1.newBlk 204 #[pt g]).perm (List.perm_middle (l₁ := [_]))).perm (List.Perm.cons _ (List.Perm.swap _ _ _))
       have h3 : Has w (rdA g s0 :: blkA (w.heap.size + 1) 38 (itc zI (.slice none 0 0)) :: blkA w1.heap.size 204 #[pt g] :: blkA w.heap.size 38 (itc zI (.slice none 0 0)) :: []) (w1.alloc (.cells #[pt g] 204)) := h2
       have r1 := (h3.blkIn (g := w1.heap.size) (t := 204) (cs := #[pt g]) (by simp)).cell 0
       simp at r1
       have H3 := Lib.hid h3
       clear h1 h2 h3 HN)
    | (go_at_call 142; refine (H3.out.rdNums [0, 1, 2] (by simp) rfl rfl (by simp) (fun i hi => by simp at hi; rcases hi with rfl | rfl | rfl <;> exact ⟨0, rfl⟩)).mono ?_; rintro e w2 ⟨vs, ⟨rfl, hvl, hvb, hvs⟩, h4⟩
       obtain ⟨a0, a1, a2, rfl⟩ := three3 hvl
       have e1 : sets (itc zI (.slice none 0 0)) (ivs [0, 1, 2] [a0, a1, a2]) = itc ⟨(a0 : Int), (a1 : Int), (a2 : Int), ⟨#[]⟩, 0, 0, 0, 0, []⟩ (.slice none 0 0) := by simp [sets, ivs, zI]
       rw [e1] at h4
       have r2 := (h4.blkIn (g := w1.heap.size) (t := 204) (cs := #[pt g]) (by simp)).cell 0
       simp at r2
       have H4 := Lib.hid h4
       clear h4 e1 H3 r1)
    | (go_at_call 143; refine H4.out.rdStr.mono ?_; rintro e w3 ⟨u, ⟨rfl, hu⟩, h5⟩
       have z1 := h5.swap.blk.1.cell 3
       have zf := h5.swap.blk.1.frozen 3
       simp at z1
       have h5 := (h5.swap.setBlk 3 (.string u)).swap
       have r3 := (h5.blkIn (g := w1.heap.size) (t := 204) (cs := #[pt g]) (by simp)).cell 0
       simp at r3
       have H5 := Lib.hid h5
       clear h5 H4 r2)
    | (go_at_call 144; refine (H5.out.rdStamps [4, 6] (by simp [World.setCell]) rfl rfl (by simp) (fun i hi => by simp at hi; rcases hi with rfl | rfl <;> exact ⟨⟨0, rfl⟩, ⟨0, rfl⟩⟩)).mono ?_; rintro e w4 ⟨vt, ⟨rfl, htl, htb, hts⟩, h6⟩
       obtain ⟨b0, b1, b2, b3, rfl⟩ := four_ htl
       have e2 : sets ((itc ⟨(a0 : Int), (a1 : Int), (a2 : Int), ⟨#[]⟩, 0, 0, 0, 0, []⟩ (.slice none 0 0)).setIfInBounds 3 (.string u)) (ivs (dbl [4, 6]) [b0, b1, b2, b3]) = itc ⟨(a0 : Int), (a1 : Int), (a2 : Int), u, b0, b1, b2, b3, []⟩ (.slice none 0 0) := by simp [sets, ivs, dbl]
       rw [e2] at h6
       have r4 := (h6.blkIn (g := w1.heap.size) (t := 204) (cs := #[pt g]) (by simp)).cell 0
       simp at r4
       have h7 := (h6.rowNil 24 3).perm ((List.perm_middle (l₁ := [_, _, _]) (a := rowA 24 3 (.slice none 0 0) 0 [])).symm)
       have HM := Lib.hid (many_c pC 146 #[pt w1.heap.size, pt (w.heap.size + 1)] g (xI (w.heap.size + 1) w1.heap.size g ⟨(a0 : Int), (a1 : Int), (a2 : Int), u, b0, b1, b2, b3, []⟩) w
         (fun args W => by rfl) pC_eats (fun T V s v l hl h => closI (w.heap.size + 1) w1.heap.size g _ w T V s v l hl h) w4 _ (.slice none 0 0) [blkA w.heap.size 38 (itc zI (.slice none 0 0))] h7)
       clear h6 h7 e2 H5 r3)
    | (go_at_call 145; refine HM.out.mono ?_; rintro e w5 ⟨rfl, l, v', hl, h8⟩
       have h8 : Has w (rdA g (finI s0) :: (xI (w.heap.size + 1) w1.heap.size g ⟨(a0 : Int), (a1 : Int), (a2 : Int), u, b0, b1, b2, b3, []⟩ v' l ++ [blkA w.heap.size 38 (itc zI (.slice none 0 0))])) w5 := h8
       have r5 := (h8.blkIn (g := w1.heap.size) (t := 204) (cs := #[pt g]) (by simp [xI])).cell 0
       simp at r5
       obtain ⟨Av, cv, rfl, hat, hnc, hcm, hav⟩ := chRow (h8.perm (List.perm_middle (l₁ := [_, _, _]))).rowOf
       have hap : ∀ a, Av = some a → a.block ≠ w.heap.size := (h8.perm (List.perm_middle (l₁ := [_, _, _]))).apart (g := w.heap.size) (t := 38) (cs := itc zI (.slice none 0 0)) (by simp [xI])
       have kx := h8.blkIn (g := w.heap.size + 1) (t := 38) (cs := itc ⟨(a0 : Int), (a1 : Int), (a2 : Int), u, b0, b1, b2, b3, l⟩ (.slice Av l.length cv)) (by simp [xI])
       have ky := h8.blkIn (g := w.heap.size) (t := 38) (cs := itc zI (.slice none 0 0)) (by simp [xI])
       obtain ⟨kk, bb, hk, hbb, hCK⟩ := checkI2 ⟨(a0 : Int), (a1 : Int), (a2 : Int), u, b0, b1, b2, b3, l⟩ Av l.length cv w5 hat (by omega)
       have q0 := kx.cell 0
       have p0 := ky.cell 0
       have f0 := ky.frozen 0
       have q1 := kx.cell 1
       have p1 := ky.cell 1
       have f1 := ky.frozen 1
       have q2 := kx.cell 2
       have p2 := ky.cell 2
       have f2 := ky.frozen 2
       have q3 := kx.cell 3
       have p3 := ky.cell 3
       have f3 := ky.frozen 3
       have q4 := kx.cell 4
       have p4 := ky.cell 4
       have f4 := ky.frozen 4
       have q5 := kx.cell 5
       have p5 := ky.cell 5
       have f5 := ky.frozen 5
       have q6 := kx.cell 6
       have p6 := ky.cell 6
       have f6 := ky.frozen 6
       have q7 := kx.cell 7
       have p7 := ky.cell 7
       have f7 := ky.frozen 7
       have q8 := kx.cell 8
       have p8 := ky.cell 8
       have f8 := ky.frozen 8
       simp at q0 p0 q1 p1 q2 p2 q3 p3 q4 p4 q5 p5 q6 p6 q7 p7 q8 p8
       have hbel := h8.bel
       have HCK := Lib.hid hCK
       have HKX := Lib.hid kx
       have HKY := Lib.hid ky
       have HAT := Lib.hid hat
       have H8 := Lib.hid h8
       have HLL := Lib.hid (show finI s0 ≠ none → l = (many pC (pn (pns 4 (ps (pns 3 s0).2).2).2).1 (pn (pns 4 (ps (pns 3 s0).2).2).2).2).1 from hl)
       clear h8 HM r4 kx ky hCK hat hl)
    | (go_at_call 148; refine H8.out.rdDone.mono ?_; rintro e w6 ⟨rfl, rfl⟩
       obtain ⟨bd, hbd⟩ : ∃ bd, decide (finI s0 = some []) = bd := ⟨_, rfl⟩
       rw [hbd]
       have HBD := Lib.hid hbd
       clear hbd)
    | (go_at_call 91; refine HCK.out.mono ?_; rintro e w7 ⟨rfl, hb7⟩
       have kx7 := HKX.out.below hb7 HKX.out.lt
       have ky7 := HKY.out.below hb7 HKY.out.lt
       have j0 := kx7.cell 0
       have m0 := ky7.cell 0
       have n0 := ky7.frozen 0
       have j1 := kx7.cell 1
       have m1 := ky7.cell 1
       have n1 := ky7.frozen 1
       have j2 := kx7.cell 2
       have m2 := ky7.cell 2
       have n2 := ky7.frozen 2
       have j3 := kx7.cell 3
       have m3 := ky7.cell 3
       have n3 := ky7.frozen 3
       have j4 := kx7.cell 4
       have m4 := ky7.cell 4
       have n4 := ky7.frozen 4
       have j5 := kx7.cell 5
       have m5 := ky7.cell 5
       have n5 := ky7.frozen 5
       have j6 := kx7.cell 6
       have m6 := ky7.cell 6
       have n6 := ky7.frozen 6
       have j7 := kx7.cell 7
       have m7 := ky7.cell 7
       have n7 := ky7.frozen 7
       have j8 := kx7.cell 8
       have m8 := ky7.cell 8
       have n8 := ky7.frozen 8
       simp at j0 m0 j1 m1 j2 m2 j3 m3 j4 m4 j5 m5 j6 m6 j7 m7 j8 m8))
  all_goals
    have hy : finI s0 = some [] → (⟨(a0 : Int), (a1 : Int), (a2 : Int), u, b0, b1, b2, b3, l⟩ : It) = (rdI (sb t)).1 := by
      intro hf
      have hs := HS1.out (fun e => by rw [e] at hf; cases hf)
      subst hs
      exact rdI_parts (sb t) hvs hu hts HLL.out (by rw [hf]; simp)
  · rename_i hbd hm
    rw [hbd] at HBD
    have hf : finI s0 = some [] := of_decide_eq_true HBD.out
    have hm' : mayI ⟨(a0 : Int), (a1 : Int), (a2 : Int), u, b0, b1, b2, b3, l⟩ = false := by simpa using hm
    have hW : Blk _ w.heap.size 38 (itc zI (.slice none 0 0)) := ky7.all9
    refine ret_it rfl rfl hW rfl rfl ⟨?_, (((((((((hbel.trans (hb7.mono hbel.size)).setCell (by exact Nat.le_refl _) _).setCell (by exact Nat.le_refl _) _).setCell (by exact Nat.le_refl _) _).setCell (by exact Nat.le_refl _) _).setCell (by exact Nat.le_refl _) _).setCell (by exact Nat.le_refl _) _).setCell (by exact Nat.le_refl _) _).setCell (by exact Nat.le_refl _) _).setCell (by exact Nat.le_refl _) _⟩
    rw [HFI.out, if_neg (by rw [← hy hf, hm']; simp)]
    rfl
  · rename_i hbd hm
    rw [hbd] at HBD
    have hf : finI s0 = some [] := of_decide_eq_true HBD.out
    have hm' : mayI ⟨(a0 : Int), (a1 : Int), (a2 : Int), u, b0, b1, b2, b3, l⟩ = true := by simpa using hm
    have hW : Blk _ w.heap.size 38 (itc ⟨(a0 : Int), (a1 : Int), (a2 : Int), u, b0, b1, b2, b3, l⟩ (.slice Av l.length cv)) := ky7.all9
    have hat7 := HAT.out.below hb7
    refine ret_it rfl rfl hW rfl rfl ⟨?_, (((((((((hbel.trans (hb7.mono hbel.size)).setCell (by exact Nat.le_refl _) _).setCell (by exact Nat.le_refl _) _).setCell (by exact Nat.le_refl _) _).setCell (by exact Nat.le_refl _) _).setCell (by exact Nat.le_refl _) _).setCell (by exact Nat.le_refl _) _).setCell (by exact Nat.le_refl _) _).setCell (by exact Nat.le_refl _) _).setCell (by exact Nat.le_refl _) _⟩
    rw [HFI.out, if_pos ⟨hf, by rw [← hy hf, hm']⟩, ← hy hf]
    refine ⟨Av, l.length, cv, rfl, ?_, hnc, hcm, fun p hp => by have := hav p hp; have := hb7.size; simp [World.setCell]; omega⟩
    refine hat7.keep fun a ha j z hz => ?_
    have hne := hap a ha
    simp only [World.cell?, World.setCell, Array.getElem?_modify] at hz ⊢
    simpa [hne, hne.symm] using hz
  · rename_i hbd
    have hf : ¬ finI s0 = some [] := by
      have := HBD.out
      intro h
      rw [decide_eq_true h] at this
      exact hbd this.symm
    have hW : Blk _ w.heap.size 38 (itc zI (.slice none 0 0)) := HKY.out.all9
    refine ret_it rfl rfl hW rfl rfl ⟨?_, (((((((((hbel).setCell (by exact Nat.le_refl _) _).setCell (by exact Nat.le_refl _) _).setCell (by exact Nat.le_refl _) _).setCell (by exact Nat.le_refl _) _).setCell (by exact Nat.le_refl _) _).setCell (by exact Nat.le_refl _) _).setCell (by exact Nat.le_refl _) _).setCell (by exact Nat.le_refl _) _).setCell (by exact Nat.le_refl _) _⟩
    rw [HFI.out, if_neg (fun h => hf h.1)]
    rfl

end Go.Proofs.YtgccichmdddbpaaGreatDoor
set_option linter.unusedVariables false
set_option linter.unusedSimpArgs false
set_option maxRecDepth 100000
namespace Go.Proofs.YtgccichmdddbpaaGreatDoor
open Go.RowKit

theorem Blk.all2 {w : World} {g : Nat} {t : TypeId} {c0 c1 v0 v1 : Value} (h : Blk w g t #[c0, c1]) : Blk ((w.setCell ⟨g, 0, none⟩ v0).setCell ⟨g, 1, none⟩ v1) g t #[v0, v1] := by
  have := (h.set_ 0 v0).set_ 1 v1
  simpa using this
def AnsV (o : Option (ByteArray × Bool)) : Ending :=
  match o with
  | none => .returned (.tuple #[.string ⟨#[]⟩, .bool false, .int .i64 4])
  | some x => .returned (.tuple #[.string x.1, .bool x.2, .int .i64 0])
theorem s0_long (t : ByteArray) {s0 : Rst} (hs0 : (if t.size ≤ 2048 then some (sb t) else none) = s0) : (s0 = some (sb t)) ∨ (s0 = none ∧ 2048 < (sb t).length) := by
  by_cases hz : t.size ≤ 2048
  · rw [if_pos hz] at hs0; exact .inl hs0.symm
  · rw [if_neg hz] at hs0; exact .inr ⟨hs0.symm, by rw [sb_len]; omega⟩
theorem tkV_of {b : List UInt8} {d : Bool} (hd : (pf (some b)).2 ≠ none → d = (pf (some b)).1) : tkV b = if d = true then (if (ps (pf (some b)).2).2 = some [] then some ((ps (pf (some b)).2).1, true) else none) else if (pf (some b)).2 = some [] then some (⟨#[]⟩, false) else none := by
  unfold tkV
  simp only
  cases h : (pf (some b)).2 with
  | none => cases (pf (some b)).1 <;> cases d <;> simp [ps_none]
  | some r =>
    rw [hd (by rw [h]; simp)]
set_option maxHeartbeats 1000000 in
theorem takeV_c (t : ByteArray) (w : World) (ht : t.size ≤ 225000000000000) :
    Calls Tryz.prog 151 #[.string t] w fun e w' => e = AnsV (tkV (sb t)) ∧ Below w.heap.size w w' := by
  have HN := Lib.hid ((Has.nil (Below.refl w.heap.size w)).rdNew t ht)
  obtain ⟨s0, hs0⟩ : ∃ s0 : Rst, (if t.size ≤ 2048 then some (sb t) else none) = s0 := ⟨_, rfl⟩
  rw [hs0] at HN
  have HS := Lib.hid (s0_long t hs0)
  clear hs0
  go_enter Tryz.func151, Tryz.ntmps151
  go_wp2_with (first
    | (go_at_call 141; refine HN.out.mono ?_; rintro e w1 ⟨g, rfl, h1⟩; have H1 := Lib.hid h1; clear h1 HN)
    | (go_at_call 147; refine H1.out.rdFlag.mono ?_; rintro e w2 ⟨d, ⟨rfl, hd⟩, h2⟩; have H2 := Lib.hid h2; clear h2 H1)
    | (go_at_call 143; refine H2.out.rdStr.mono ?_; rintro e w3 ⟨u, ⟨rfl, hu⟩, h3⟩; have H3 := Lib.hid h3; clear h3)
    | (go_at_call 148; first | (refine H3.out.rdDone.mono ?_; rintro e w6 ⟨rfl, rfl⟩; have hb3 := H3.out.bel) | (refine H2.out.rdDone.mono ?_; rintro e w6 ⟨rfl, rfl⟩; have hb3 := H2.out.bel)))
  all_goals go_ret3
  all_goals refine ⟨?_, hb3⟩
  · have e1 : d = true := by assumption
    have e2 : (!decide ((ps (pf s0).2).2 = some [])) = true := by assumption
    have hne : ¬ (ps (pf s0).2).2 = some [] := by simpa using e2
    rcases HS.out with rfl | ⟨rfl, hl⟩
    · rw [tkV_of hd, if_pos e1, if_neg hne]; rfl
    · rw [tkV_long hl]; rfl
  · have e1 : d = true := by assumption
    have e2 : (!decide ((ps (pf s0).2).2 = some [])) = false := by assumption
    have he : (ps (pf s0).2).2 = some [] := by simpa using e2
    rcases HS.out with rfl | ⟨rfl, hl⟩
    · rw [tkV_of hd, if_pos e1, if_pos he, ← hu (by rw [he]; simp)]; rfl
    · cases he
  · have e1 : d = false := by assumption
    have e2 : (!decide ((pf s0).2 = some [])) = true := by assumption
    have hne : ¬ (pf s0).2 = some [] := by simpa using e2
    rcases HS.out with rfl | ⟨rfl, hl⟩
    · rw [tkV_of hd, if_neg (by rw [e1]; simp), if_neg hne]; rfl
    · rw [tkV_long hl]; rfl
  · have e1 : d = false := by assumption
    have e2 : (!decide ((pf s0).2 = some [])) = false := by assumption
    have he : (pf s0).2 = some [] := by simpa using e2
    rcases HS.out with rfl | ⟨rfl, hl⟩
    · rw [tkV_of hd, if_neg (by rw [e1]; simp), if_pos he]; rfl
    · cases he
end Go.Proofs.YtgccichmdddbpaaGreatDoor
set_option linter.unusedVariables false
set_option linter.unusedSimpArgs false
set_option maxRecDepth 100000
namespace Go.Proofs.YtgccichmdddbpaaGreatDoor
open Go.RowKit

def str2 (l : List UInt8) (e : Int) : Ending := .returned (.tuple #[.string ⟨l.toArray⟩, .int .i64 e])
def markK (m : List UInt8) (k : ByteArray) (b : List UInt8) : Ending := if isK k then str2 (m ++ okey (sb k) ++ b) 0 else str2 [] 2
theorem okey_len (k : ByteArray) (h : k.size ≤ 32) : (okey (sb k)).length ≤ 66 := by
  have := esc_len (ob k)
  rw [ob_len] at this
  show (esc (ob k) ++ [0, 0]).length ≤ 66
  rw [List.length_append]
  simp
  omega
set_option maxHeartbeats 1000000 in
theorem marked_c (m k b : ByteArray) (w : World) (hM : MaxL w) (hm : m.size ≤ 10) (hb : b.size ≤ 100) :
    Calls Tryz.prog 134 #[.string m, .string k, .string b] w fun e w' => e = markK (sb m) k (sb b) ∧ Below w.heap.size w w' := by
  unfold markK
  cases h1 : isK k
  · go_enter Tryz.func134, Tryz.ntmps134
    go_wp2_with (go_at_call 178; refine (isKey_c _ _ h1 _).mono ?_; rintro e w1 ⟨rfl, rfl⟩)
    go_ret2
    exact ⟨rfl, Below.refl _ _⟩
  · have hk := isK_iff.1 h1
    have HK := Lib.hid (key k w (by omega) hM)
    have hl := okey_len k hk.2
    have hq0 : okey (ob k) = okey (sb k) := rfl
    rw [hq0] at HK
    obtain ⟨q, hq⟩ : ∃ q, okey (sb k) = q := ⟨_, rfl⟩
    rw [hq] at HK hl ⊢
    obtain ⟨qb, hqb⟩ : ∃ qb : ByteArray, ⟨q.toArray⟩ = qb := ⟨_, rfl⟩
    rw [hqb] at HK
    have hqs : qb.size ≤ 66 := by rw [← hqb]; exact hl
    have HE := Lib.hid (show (m ++ qb ++ b : ByteArray) = ⟨(sb m ++ q ++ sb b).toArray⟩ by
      apply ByteArray.ext
      rw [← hqb]
      simp [sb])
    clear hqb hq hq0 hl
    go_enter Tryz.func134, Tryz.ntmps134
    go_wp2_with (first
      | (go_at_call 178; refine (isKey_c _ _ h1 _).mono ?_; rintro e w1 ⟨rfl, rfl⟩)
      | (go_at_call 179; refine HK.out.mono ?_; rintro e w1 ⟨rfl, hb1⟩))
    go_ret2
    refine ⟨?_, hb1⟩
    have hE := HE.out
    rw [List.append_assoc] at hE
    simp only [if_true, List.append_assoc]
    unfold str2
    rw [← hE]
    rfl
theorem intentKey_c (k : ByteArray) (w : World) (hM : MaxL w) :
    Calls Tryz.prog 89 #[.string k] w fun e w' => e = markK [105] k [] ∧ Below w.heap.size w w' := by
  have HC := Lib.hid (marked_c ⟨#[105]⟩ k ⟨#[]⟩ w hM (by decide) (by decide))
  have e0 : markK (sb ⟨#[105]⟩) k (sb ⟨#[]⟩) = markK [105] k [] := rfl
  rw [e0] at HC
  obtain ⟨s, n, hs⟩ : ∃ s n, markK [105] k [] = .returned (.tuple #[.string s, .int .i64 n]) := by
    unfold markK
    split
    · exact ⟨_, _, rfl⟩
    · exact ⟨_, _, rfl⟩
  rw [hs] at HC ⊢
  clear e0 hs
  go_enter Tryz.func89, Tryz.ntmps89
  go_wp2_with (go_at_call 134; refine HC.out.mono ?_; rintro e w1 ⟨rfl, hb1⟩)
  go_ret2
  exact ⟨rfl, hb1⟩
theorem cutPre0 (k : ByteArray) (c : UInt8) (w : World) (b : Bool) (hb : (sb k).head? = some c ↔ b = true) :
    Calls Tryz.prog 212 #[.string k, .string ⟨#[c]⟩] w fun e w' => e = .returned (.tuple #[.string (if b then k.extract 1 k.size else k), .bool b]) ∧ w = w' := by
  have hp : Lib.hasPrefix (ob k) (ob ⟨#[c]⟩) = b := by
    rw [Bool.eq_iff_iff, ← hb]
    show Lib.hasPrefix (sb k) [c] = true ↔ _
    generalize sb k = l
    cases l with
    | nil => simp [Lib.hasPrefix]
    | cons x l =>
      constructor
      · intro h
        have : c = x := by simpa [Lib.hasPrefix, List.isPrefixOf] using h
        rw [this]
        rfl
      · intro h
        have : x = c := by simpa using h
        subst this
        simp [Lib.hasPrefix, List.isPrefixOf]
  have HP := Lib.hid (hasPre0 k ⟨#[c]⟩ b w hp)
  have H1 : Calls Tryz.prog 219 #[.string k, .string ⟨#[c]⟩] w fun e w' => e = .returned (.tuple #[.string (if b then k.extract 1 k.size else k), .bool b]) ∧ w = w' := by
    have hk : b = true → 1 ≤ k.size := by
      intro h
      have := hb.2 h
      rw [← sb_len]
      cases hh : sb k with
      | nil => rw [hh] at this; cases this
      | cons x l => simp
    clear hb hp
    cases b
    · go_enter Tryz.func219, Tryz.ntmps219
      go_wp2_with (go_at_call 227; refine HP.out.mono ?_; rintro e w1 ⟨rfl, rfl⟩)
      go_ret2
      exact ⟨rfl, rfl⟩
    · have hk1 := hk rfl
      have hz : (⟨#[c]⟩ : ByteArray).size = 1 := rfl
      go_enter Tryz.func219, Tryz.ntmps219
      go_wp2_with (go_at_call 227; refine HP.out.mono ?_; rintro e w1 ⟨rfl, rfl⟩)
      go_ret2
      exact ⟨rfl, rfl⟩
  obtain ⟨z, hz⟩ : ∃ z : ByteArray, (if b = true then k.extract 1 k.size else k) = z := ⟨_, rfl⟩
  rw [hz] at H1 ⊢
  have H2 := Lib.hid H1
  clear H1 hp hb HP hz
  go_enter Tryz.func212, Tryz.ntmps212
  go_wp2_with (go_at_call 219; refine H2.out.mono ?_; rintro e w1 ⟨rfl, rfl⟩)
  go_ret2
  exact ⟨rfl, rfl⟩
theorem tkey_err : ∀ (k : Nat) (l : List UInt8) (n x : Nat), l.length ≤ k → tkey n l = .error x → x ≠ 0
  | _, [], n, x, _, h => by rw [tkey_nil] at h; cases h; decide
  | 0, _ :: _, _, _, hl, _ => by simp at hl
  | k + 1, b :: t, n, x, hl, h => by
    simp only [List.length_cons] at hl
    have step : ∀ (u : List UInt8) (c : UInt8), u.length ≤ k → (if n = 0 then (.error 5 : Except Nat (List UInt8 × List UInt8)) else (tkey (n - 1) u).map fun p => (c :: p.1, p.2)) = .error x → x ≠ 0 := by
      intro u c hu h
      split at h
      · cases h; decide
      · cases hr : tkey (n - 1) u with
        | ok p => rw [hr] at h; cases h
        | error y =>
          rw [hr] at h
          have hy := tkey_err k u (n - 1) y hu hr
          cases h
          exact hy
    by_cases hb : b = 0
    · subst hb
      cases t with
      | nil => rw [tkey_zero] at h; cases h; decide
      | cons c t =>
        by_cases c0 : c = 0
        · subst c0; rw [tkey_end] at h; cases h
        · by_cases c1 : c = 1
          · subst c1
            rw [tkey_esc] at h
            exact step t 0 (by simp at hl; omega) h
          · rw [tkey_bad n c0 c1] at h; cases h; decide
    · rw [tkey_byte n hb] at h
      exact step t b (by omega) h
/-- With which key a table's key begins behind a mark, and what stands behind it. -/
def rk (m : UInt8) (k : List UInt8) : Option (List UInt8 × List UInt8) :=
  if k.head? = some m then (match tkey 1000 (k.drop 1) with
    | .ok p => if 1 ≤ p.1.length ∧ p.1.length ≤ 32 then some p else none
    | .error _ => none) else none
def rkA (o : Option (List UInt8 × List UInt8)) : Ending :=
  match o with
  | none => .returned (.tuple #[.string ⟨#[]⟩, .string ⟨#[]⟩, .bool false])
  | some p => .returned (.tuple #[.string ⟨p.1.toArray⟩, .string ⟨p.2.toArray⟩, .bool true])
set_option maxHeartbeats 1000000 in
theorem readKey_c (m : UInt8) (k : ByteArray) (w : World) (hk : k.size ≤ 150000000000000) :
    Calls Tryz.prog 192 #[.string ⟨#[m]⟩, .string k] w fun e w' => e = rkA (rk m (sb k)) ∧ Below w.heap.size w w' := by
  by_cases hh : (sb k).head? = some m
  · have HP := Lib.hid (cutPre0 k m w true ⟨fun _ => rfl, fun _ => hh⟩)
    rw [if_pos rfl] at HP
    have HT := Lib.hid (take (k.extract 1 k.size) w (by rw [ByteArray.size_extract]; omega))
    have e1 : ob (k.extract 1 k.size) = (sb k).drop 1 := ob_sb _ ▸ (sb_end k 1)
    rw [e1] at HT
    unfold rk
    rw [if_pos hh]
    cases ht : tkey 1000 ((sb k).drop 1) with
    | error x =>
      rw [ht] at HT
      have hx : ((x : Int) != 0) = true := by have := tkey_err _ _ _ _ (Nat.le_refl _) ht; simpa using this
      clear ht e1
      go_enter Tryz.func192, Tryz.ntmps192
      go_wp2_with (first
        | (go_at_call 212; refine HP.out.mono ?_; rintro e w1 ⟨rfl, rfl⟩)
        | (go_at_call 213; refine HT.out.mono ?_; rintro e w2 ⟨rfl, hb⟩; rw [TkAns_err]))
      go_ret3
      exact ⟨rfl, hb⟩
    | ok p =>
      rw [ht] at HT
      obtain ⟨s, r⟩ := p
      have hik : isK ⟨s.toArray⟩ = decide (1 ≤ s.length ∧ s.length ≤ 32) := rfl
      simp only
      by_cases h1 : 1 ≤ s.length ∧ s.length ≤ 32
      · rw [if_pos h1]
        rw [decide_eq_true h1] at hik
        clear ht e1 h1
        go_enter Tryz.func192, Tryz.ntmps192
        go_wp2_with (first
          | (go_at_call 212; refine HP.out.mono ?_; rintro e w1 ⟨rfl, rfl⟩)
          | (go_at_call 213; refine HT.out.mono ?_; rintro e w2 ⟨rfl, hb⟩; rw [TkAns_ok])
          | (go_at_call 178; refine (isKey_c _ _ hik _).mono ?_; rintro e w3 ⟨rfl, rfl⟩))
        go_ret3
        exact ⟨rfl, hb⟩
      · rw [if_neg h1]
        rw [decide_eq_false h1] at hik
        clear ht e1 h1
        go_enter Tryz.func192, Tryz.ntmps192
        go_wp2_with (first
          | (go_at_call 212; refine HP.out.mono ?_; rintro e w1 ⟨rfl, rfl⟩)
          | (go_at_call 213; refine HT.out.mono ?_; rintro e w2 ⟨rfl, hb⟩; rw [TkAns_ok])
          | (go_at_call 178; refine (isKey_c _ _ hik _).mono ?_; rintro e w3 ⟨rfl, rfl⟩))
        go_ret3
        exact ⟨rfl, hb⟩
  · have HP := Lib.hid (cutPre0 k m w false ⟨fun h => absurd h hh, fun h => nomatch h⟩)
    rw [if_neg (by simp)] at HP
    unfold rk
    rw [if_neg hh]
    clear hh
    go_enter Tryz.func192, Tryz.ntmps192
    go_wp2_with (go_at_call 212; refine HP.out.mono ?_; rintro e w1 ⟨rfl, rfl⟩)
    go_ret3
    exact ⟨rfl, Below.refl _ _⟩
end Go.Proofs.YtgccichmdddbpaaGreatDoor
set_option linter.unusedVariables false
set_option linter.unusedSimpArgs false
set_option maxRecDepth 100000
namespace Go.Proofs.YtgccichmdddbpaaGreatDoor
open Go.RowKit

end Go.Proofs.YtgccichmdddbpaaGreatDoor
set_option linter.unusedVariables false
set_option linter.unusedSimpArgs false
set_option maxRecDepth 100000
namespace Go.Proofs.YtgccichmdddbpaaGreatDoor
open Go.RowKit

set_option maxHeartbeats 2000000 in
theorem intent_c (x : It) (A : Option Addr) (n c : Nat) (w : World) (hx : ChAt w A n x.l) (hn : n ≤ 9223372036854775807) :
    Calls Tryz.prog 98 #[itv x (.slice A n c)] w fun e w' => e = ansT (mayI x) (txI x) ∧ Below w.heap.size w w' := by
  have hB0 := nbl w (.cells (itc x (.slice A n c)) 38)
  have HK := Lib.hid (checkI x A n c (w.alloc (.cells (itc x (.slice A n c)) 38)) (hx.below hB0) hn)
  have HB0 := Lib.hid hB0
  cases hm : mayI x
  · rw [hm] at HK
    obtain ⟨id, ep, pr, an, sw, sl, bw, bl, l⟩ := x
    clear hB0 hx
    go_enter Tryz.func98, Tryz.ntmps98
    go_wp2_with (go_at_call 91; refine HK.out.mono ?_; rintro e w1 ⟨rfl, hb1⟩)
    go_ret2
    exact ⟨rfl, HB0.out.trans (hb1.mono (by simp))⟩
  · rw [hm] at HK
    have hlen := txI_len x hm
    have hmm := hm
    simp only [mayI, hdr, Bool.and_eq_true] at hmm
    obtain ⟨⟨⟨⟨⟨⟨⟨m1, m2⟩, m3⟩, m4⟩, m5⟩, m6⟩, m7⟩, m8⟩ := hmm
    have m1 := isI_iff.1 m1
    have m2 := isN_iff.1 m2
    have m3 := isP_iff.1 m3
    have m4 := (isK_iff.1 m4).2
    have m7 := of_decide_eq_true m7
    have m9 := rise_all m8
    have hxl := hx.1
    have hxn : n ≤ 16 := by omega
    obtain ⟨p4, hp4⟩ : ∃ p4, p4 = ((([] ++ [x.id, x.ep, x.pr].flatMap nbs) ++ tbs x.an) ++ [(x.sw, x.sl), (x.bw, x.bl)].flatMap txP) ++ [(n : Int)].flatMap nbs := ⟨_, rfl⟩
    have hT : txI x = p4 ++ x.l.flatMap txC := by
      rw [hp4]
      unfold txI
      rw [hxl]
      simp [txP, txS, List.append_assoc]
    have hl4 : p4.length ≤ 2048 := by
      have := congrArg List.length hT
      rw [List.length_append] at this
      omega
    have hl3 : ((([] ++ [x.id, x.ep, x.pr].flatMap nbs) ++ tbs x.an) ++ [(x.sw, x.sl), (x.bw, x.bl)].flatMap txP).length ≤ 2048 := by
      have := congrArg List.length hp4
      rw [List.length_append] at this
      omega
    have hl2 : (([] ++ [x.id, x.ep, x.pr].flatMap nbs) ++ tbs x.an).length ≤ 2048 := by
      rw [List.length_append] at hl3
      omega
    have hl1 : ([] ++ [x.id, x.ep, x.pr].flatMap nbs).length ≤ 2048 := by
      rw [List.length_append] at hl2
      omega
    have hS : ∀ p ∈ [(x.sw, x.sl), (x.bw, x.bl)], mayP p = true := by simp [mayP, m5, m6]
    have HH0 := Lib.hid ((Has.nil (Below.refl w.heap.size w)).newBlk 38 (itc x (.slice A n c)))
    have HX := Lib.hid hx
    have HP4 := Lib.hid hp4
    have HTx := Lib.hid hT
    have hfb : ∀ j, ((x.l.take j).flatMap txC).length ≤ 4000 := by
      intro j
      have := flat_take_le txC x.l j 88 fun c hc => by
        obtain ⟨q1, q2, q3⟩ := m9 c hc
        have r1 := num_len q2
        have r2 := fl_len c.d
        have r3 := str_len q3 (Nat.le_refl _)
        unfold txC
        simp only [List.length_append]
        omega
      omega
    have HM9 := Lib.hid m9
    have HFB := Lib.hid hfb
    have HFT := Lib.hid (fun j h => flat_take txC x.l j h)
    obtain ⟨id, ep, pr, an, sw, sl, bw, bl, l⟩ := x
    simp only at hl1 hl2 hl3 hS m1 m2 m3 m4 hxl
    clear hx hp4 hT m5 m6 m7 m8 m9 hm hB0 hlen hfb
    go_enter Tryz.func98, Tryz.ntmps98
    go_wp2_with (first
      | (go_at_call 91; refine HK.out.mono ?_; rintro e w1 ⟨rfl, hb1⟩
         have H1 := (HH0.out.keep hb1).penNew
         have kx := H1.swap.blk.1
         have k0 := kx.cell 0
         have k1 := kx.cell 1
         have k2 := kx.cell 2
         simp at k0 k1 k2)
      | (go_at_call 152; refine (H1.penNums (by simp) [id, ep, pr] (by simp; omega) (by simp) (by simp) rfl rfl).mono ?_; rintro e w2 ⟨rfl, h2⟩
         clear H1 kx
         have ka := h2.swap.blk.1.cell 3
         simp at ka)
      | (go_at_call 153; refine (h2.penStr an (by omega) (by omega)).mono ?_; rintro e w3 ⟨rfl, h3⟩
         clear h2 ka
         have ky := h3.swap.blk.1
         have k4 := ky.cell 4
         have k5 := ky.cell 5
         have k6 := ky.cell 6
         have k7 := ky.cell 7
         simp at k4 k5 k6 k7)
      | (go_at_call 154; refine (h3.penStamps (by simp) [(sw, sl), (bw, bl)] hS (by simp) (by omega) rfl rfl).mono ?_; rintro e w4 ⟨rfl, h4⟩
         clear h3 ky
         have kl := h4.swap.blk.1.cell 8
         simp at kl)
      | (go_at_call 152; refine (h4.penNums (by simp) [(n : Int)] (by simp; omega) (by simp) (by omega) rfl rfl).mono ?_; rintro e w5 ⟨rfl, h5⟩
         clear h4 kl
         have km := h5.swap.blk.1.cell 8
         simp at km))
    rw [← HP4.out] at h5
    have H5 := Lib.hid h5
    clear h5 hl1 hl2 hl3 hS HH0 HK HP4 km
    go_loopw [38] (fun i wr => ∃ j : Nat, j ≤ n ∧ i = .int .i64 j ∧ Hid (Has w (penA w1.heap.size (p4 ++ (l.take j).flatMap txC) :: blkA w.heap.size 38 (itc ⟨id, ep, pr, an, sw, sl, bw, bl, l⟩ (.slice A n c)) :: []) wr)) (fun i _ => n - (intOf i).toNat)
    case atStart => exact ⟨0, Nat.zero_le _, rfl, by simpa using H5⟩
    case round =>
      obtain ⟨j, hj, rfl, HH⟩ := hrel
      by_cases hlt : j < n
      · have hjl : j < l.length := by omega
        have hfa := HX.out.below HH.out.bel
        obtain ⟨b, o, rfl, hc⟩ := hfa.2 (by omega)
        have hcj := hc j hjl
        have hq3 := HM9.out _ (List.getElem_mem hjl)
        have hfl := HFT.out j hjl
        have hfb := HFB.out j
        obtain ⟨cc, hcc⟩ : ∃ cc, l[j]'hjl = cc := ⟨_, rfl⟩
        rw [hcc] at hcj hq3
        try simp only at hfl
        rw [hcc] at hfl
        obtain ⟨q, s, d⟩ := cc
        simp only at hcj hq3
        have hq : 0 ≤ q ∧ q ≤ 9007199254740991 := ⟨hq3.1, hq3.2.1⟩
        have hs : s.size ≤ 64 := hq3.2.2
        have hnl := num_len hq.2
        have hdl := fl_len d
        have HA := Lib.hid (HH.out.newBlk 24 #[.int .i64 q, .string s, .bool d]).swap
        generalize hys : p4 ++ (l.take j).flatMap txC = ys at *
        have hyl : ys.length ≤ 6100 := by rw [← hys, List.length_append]; (try simp only at hfb); omega
        have HFL := Lib.hid (show ys ++ txC ⟨q, s, d⟩ = p4 ++ (l.take (j + 1)).flatMap txC by rw [hfl, ← hys, List.append_assoc])
        obtain ⟨k0, kr⟩ := hcj
        clear hc hfa hfl hys hfb hcc HH hq3
        go_wp2_with (first
          | (go_at_call 152; refine (HA.out.penNums (by simp) [q] (by simpa using hq) (by simp) (by omega) rfl rfl).mono ?_; rintro e z1 ⟨rfl, y1⟩
             have c2 := y1.swap.blk.1.cell 2
             simp at c2)
          | (go_at_call 155; refine (y1.penFlag d (by simp only [List.length_append, List.flatMap_cons, List.flatMap_nil, List.append_nil]; omega)).mono ?_; rintro e z2 ⟨rfl, y2⟩
             have c1 := y2.swap.blk.1.cell 1
             simp at c1)
          | (go_at_call 153; refine (y2.penStr s hs (by simp only [List.length_append, List.flatMap_cons, List.flatMap_nil, List.append_nil]; omega)).mono ?_; rintro e z3 ⟨rfl, y3⟩))
        go_roundw
        case rel =>
          refine ⟨j + 1, by omega, by go_num, Lib.hid ?_⟩
          rw [← HFL.out]
          have := y3.swap.tail
          simpa [txC, List.append_assoc] using this
        case measure => simp [intOf]; omega
      · have hjn : j = n := by omega
        have h6 := HH.out
        rw [List.take_of_length_le (by omega)] at h6
        have ht := HTx.out
        try simp only at ht
        clear HH
        go_wp2_with (go_at_call 156; refine h6.penText.mono ?_; rintro e w7 ⟨rfl, rfl⟩)
        go_ret2
        refine ⟨?_, h6.bel⟩
        rw [ansT_t, ht]
        rfl

end Go.Proofs.YtgccichmdddbpaaGreatDoor
set_option linter.unusedVariables false
set_option linter.unusedSimpArgs false
set_option maxRecDepth 100000
namespace Go.Proofs.YtgccichmdddbpaaGreatDoor
open Go.RowKit

theorem versionKey_c (k : ByteArray) (a b : Int) (w : World) (hM : MaxL w) (h : may a b = true) :
    Calls Tryz.prog 149 #[.string k, sv a b] w fun e w' => e = markK [118] k (odown a b) ∧ Below w.heap.size w w' := by
  have HD := Lib.hid (down a b (w.alloc (.cells #[.int .i64 a, .int .i64 b] 26)) h)
  have hz : (⟨(odown a b).toArray⟩ : ByteArray).size = 9 := odown_len a b
  have e0 : markK (sb ⟨#[118]⟩) k (sb ⟨(odown a b).toArray⟩) = markK [118] k (odown a b) := rfl
  obtain ⟨d, hd⟩ : ∃ d : ByteArray, ⟨(odown a b).toArray⟩ = d := ⟨_, rfl⟩
  rw [hd] at HD hz e0
  obtain ⟨s, n, hs⟩ : ∃ s n, markK [118] k (odown a b) = .returned (.tuple #[.string s, .int .i64 n]) := by
    unfold markK
    split
    · exact ⟨_, _, rfl⟩
    · exact ⟨_, _, rfl⟩
  rw [hs] at e0 ⊢
  have E0 := Lib.hid e0
  clear e0 hs hd
  go_enter Tryz.func149, Tryz.ntmps149
  go_wp2_with (first
    | (go_at_call 191; refine HD.out.mono ?_; rintro e w1 ⟨rfl, hb1⟩; have g1 := (nbl w (.cells #[.int .i64 a, .int .i64 b] 26)).trans (hb1.mono (by simp)))
    | (go_at_call 134; refine (marked_c ⟨#[118]⟩ k d _ (hM.below g1) (by decide) (by omega)).mono ?_; rintro e w2 ⟨he, hb2⟩; rw [E0.out] at he; subst he; have g2 := g1.trans (hb2.mono g1.size)))
  go_ret2
  exact ⟨rfl, g2⟩
theorem ret_tct {fn : Func} {R : Ending → World → Prop} {a : Act} {w : World} {p u v : Tmp} {g : Nat} {x y : Int} (hr : fn.results = #[.tmp u, .cell p 26, .tmp v]) (hp : a.tmps.getD p undef = .pointer (some ⟨g, 0, none⟩))
    (hB : Box w g x y) (hd : a.defers = []) (hR : R (.returned (.tuple #[a.tmps.getD u undef, sv x y, a.tmps.getD v undef])) w) : bodyPost Tryz.prog fn R .ret a w := by
  refine bodyPost_ret ?_ hd hR
  have hp' : a.tmps[p]?.getD undef = .pointer (some ⟨g, 0, none⟩) := by simpa using hp
  simp [results, hr, hp', asAddr, run_loadVar_row w g 26 26 _ (0, 0) _ hB Tryz.underlying26 rfl (by kernel_rfl)]
set_option maxHeartbeats 1000000 in
theorem readVersion_no (k : ByteArray) (w : World) (hk : k.size ≤ 150000000000000) (hr : rk 118 (sb k) = none) :
    Calls Tryz.prog 150 #[.string k] w fun e w' => e = .returned (.tuple #[.string ⟨#[]⟩, sv 0 0, .int .i64 4]) ∧ Below w.heap.size w w' := by
  have HC := Lib.hid (readKey_c 118 k (w.alloc (.cells #[.int .i64 0, .int .i64 0] 26)) hk)
  rw [hr] at HC
  have HX := Lib.hid (Blk.new w 26 #[.int .i64 0, .int .i64 0])
  have HT := Lib.hid (fun V => takeDown_short ⟨#[]⟩ V (by decide))
  clear hr
  go_enter Tryz.func150, Tryz.ntmps150
  go_wp2_with (first
    | (go_at_call 192; refine HC.out.mono ?_; rintro e w1 ⟨rfl, hb1⟩; unfold rkA; simp only
       have g1 := (nbl w (.cells #[.int .i64 0, .int .i64 0] 26)).trans (hb1.mono (by simp))
       have k1 : Blk w1 w.heap.size 26 #[.int .i64 0, .int .i64 0] := HX.out.below hb1 (by simp))
    | (go_at_call 193; refine (HT.out _).mono ?_; rintro e w2 ⟨he, hb2⟩
       rw [show TdAns (.error 3) = .returned (.tuple #[sv 0 0, .string ⟨#[]⟩, .int .i64 3]) from rfl] at he
       subst he
       have k2 := k1.below hb2 k1.lt
       have c0 := k2.cell 0
       have c1 := k2.cell 1
       have f0 := k2.frozen 0
       have f1 := k2.frozen 1
       simp at c0 c1
       have g2 := g1.trans (hb2.mono g1.size)))
  refine ret_tct rfl rfl ((k2.all2 (v0 := .int .i64 0) (v1 := .int .i64 0)).all2 (v0 := .int .i64 0) (v1 := .int .i64 0)) rfl ⟨rfl, (((g2.setCell (by exact Nat.le_refl _) _).setCell (by exact Nat.le_refl _) _).setCell (by exact Nat.le_refl _) _).setCell (by exact Nat.le_refl _) _⟩
set_option maxHeartbeats 1000000 in
theorem readVersion_c (k : ByteArray) (w : World) (hk : k.size ≤ 150000000000000) (s : List UInt8) (a b : Int) (h : may a b = true) (hr : rk 118 (sb k) = some (s, odown a b)) :
    Calls Tryz.prog 150 #[.string k] w fun e w' => e = .returned (.tuple #[.string ⟨s.toArray⟩, sv a b, .int .i64 0]) ∧ Below w.heap.size w w' := by
  have HC := Lib.hid (readKey_c 118 k (w.alloc (.cells #[.int .i64 0, .int .i64 0] 26)) hk)
  rw [hr] at HC
  have HX := Lib.hid (Blk.new w 26 #[.int .i64 0, .int .i64 0])
  have hz : 9 ≤ (⟨(odown a b).toArray⟩ : ByteArray).size := Nat.le_of_eq (odown_len a b).symm
  have hz2 : (⟨(odown a b).toArray⟩ : ByteArray).size ≤ 150000000000000 := by rw [show (⟨(odown a b).toArray⟩ : ByteArray).size = 9 from odown_len a b]; omega
  have hT := fun V => takeDown_long ⟨(odown a b).toArray⟩ V hz hz2
  have ho : tdown (ob ⟨(odown a b).toArray⟩) = .ok (a, b, []) := by
    have := tdown_odown a b [] h
    rw [List.append_nil] at this
    exact this
  rw [ho] at hT
  have HT := Lib.hid hT
  obtain ⟨d, hd⟩ : ∃ d : ByteArray, ⟨(odown a b).toArray⟩ = d := ⟨_, rfl⟩
  have hrk : rkA (some (s, odown a b)) = .returned (.tuple #[.string ⟨s.toArray⟩, .string d, .bool true]) := by rw [← hd]; rfl
  rw [hrk] at HC
  rw [hd] at HT
  obtain ⟨q, hq⟩ : ∃ q : ByteArray, ⟨s.toArray⟩ = q := ⟨_, rfl⟩
  rw [hq] at HC ⊢
  clear hr hz hz2 hT ho hd hrk hq
  go_enter Tryz.func150, Tryz.ntmps150
  go_wp2_with (first
    | (go_at_call 192; refine HC.out.mono ?_; rintro e w1 ⟨rfl, hb1⟩
       have g1 := (nbl w (.cells #[.int .i64 0, .int .i64 0] 26)).trans (hb1.mono (by simp))
       have k1 : Blk w1 w.heap.size 26 #[.int .i64 0, .int .i64 0] := HX.out.below hb1 (by simp))
    | (go_at_call 193; refine (HT.out _).mono ?_; rintro e w2 ⟨he, hb2⟩
       rw [show TdAns (.ok (a, b, [])) = .returned (.tuple #[sv a b, .string ⟨#[]⟩, .int .i64 0]) from rfl] at he
       subst he
       have k2 := k1.below hb2 k1.lt
       have c0 := k2.cell 0
       have c1 := k2.cell 1
       have f0 := k2.frozen 0
       have f1 := k2.frozen 1
       simp at c0 c1
       have g2 := g1.trans (hb2.mono g1.size)
       have k3 := k2.all2 (v0 := .int .i64 a) (v1 := .int .i64 b)
       have d0 := k3.cell 0
       have d1 := k3.cell 1
       have e0 := k3.frozen 0
       have e1 := k3.frozen 1
       simp at d0 d1
       have g3 := (g2.setCell (p := ⟨w.heap.size, 0, none⟩) (by exact Nat.le_refl _) (.int .i64 a)).setCell (p := ⟨w.heap.size, 1, none⟩) (by exact Nat.le_refl _) (.int .i64 b)))
  go_region_with (fail)
  all_goals go_wp2
  all_goals refine ret_tct rfl rfl (Blk.all2 (c0 := .int .i64 a) (c1 := .int .i64 b) (by exact k3)) rfl ⟨rfl, ?_⟩
  all_goals first | exact (g3.drew.setCell (by exact Nat.le_refl _) _).setCell (by exact Nat.le_refl _) _ | exact ((below_drewN g3 _).setCell (by exact Nat.le_refl _) _).setCell (by exact Nat.le_refl _) _
end Go.Proofs.YtgccichmdddbpaaGreatDoor
set_option linter.unusedVariables false
set_option linter.unusedSimpArgs false
set_option maxRecDepth 100000
namespace Go.Proofs.YtgccichmdddbpaaGreatDoor
open Go.RowKit

/-- Two stamps in blocks, and what is older stays. -/
abbrev S4 (w : World) (g1 g2 : Nat) (p o a b : Int) (V : World) : Prop :=
  V.cell? ⟨g1, 0, none⟩ = some (.int .i64 p) ∧ V.cell? ⟨g1, 1, none⟩ = some (.int .i64 o) ∧ V.cell? ⟨g2, 0, none⟩ = some (.int .i64 a) ∧ V.cell? ⟨g2, 1, none⟩ = some (.int .i64 b) ∧ Below w.heap.size w V
theorem S4.bel {w V : World} {g1 g2 : Nat} {p o a b : Int} (h : S4 w g1 g2 p o a b V) : Below w.heap.size w V := h.2.2.2.2
theorem S4.keep {w V V' : World} {g1 g2 : Nat} {p o a b : Int} (h : S4 w g1 g2 p o a b V) (hb : Below V.heap.size V V') : S4 w g1 g2 p o a b V' :=
  ⟨kept_below hb _ _ h.1, kept_below hb _ _ h.2.1, kept_below hb _ _ h.2.2.1, kept_below hb _ _ h.2.2.2.1, h.2.2.2.2.trans (hb.mono h.2.2.2.2.size)⟩
theorem S4.call {w V : World} {g1 g2 : Nat} {p o a b : Int} {f : FuncId} {args : Array Value} {v : Value} (h : S4 w g1 g2 p o a b V) (hc : Calls Tryz.prog f args V fun e V' => e = .returned v ∧ Below V.heap.size V V') :
    Calls Tryz.prog f args V fun e V' => e = .returned v ∧ S4 w g1 g2 p o a b V' := hc.mono fun _ _ hh => ⟨hh.1, h.keep hh.2⟩
end Go.Proofs.YtgccichmdddbpaaGreatDoor
set_option linter.unusedVariables false
set_option linter.unusedSimpArgs false
set_option maxRecDepth 100000
namespace Go.Proofs.YtgccichmdddbpaaGreatDoor
open Go.RowKit

end Go.Proofs.YtgccichmdddbpaaGreatDoor
