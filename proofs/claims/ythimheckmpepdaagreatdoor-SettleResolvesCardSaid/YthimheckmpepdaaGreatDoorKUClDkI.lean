/-
  Layer 11, the document's answers: TakeIntent.
-/
import Derived.Test.YthimheckmpepdaaGreatDoorKU31
import Derived.Test.YthimheckmpepdaaGreatDoorKU28
import Derived.Test.YthimheckmpepdaaGreatDoorKU29
import Derived.Deep.AppendLies
set_option linter.unusedVariables false
set_option linter.unusedSimpArgs false
set_option maxRecDepth 100000
namespace Go.Proofs.YthimheckmpepdaaGreatDoor
open Go.RowKit


theorem many_snoc {α : Type} (f : Rst → α × Rst) : ∀ (j : Nat) (s : Rst) (l : List α) (b : List UInt8), many f j s = (l, some b) → many f (j + 1) s = (l ++ [(f (some b)).1], (f (some b)).2)
  | 0, s, l, b, h => by
    rw [many] at h
    cases h
    simp only [many]
    rfl
  | j + 1, none, l, b, h => by rw [many] at h; cases h
  | j + 1, some x, l, b, h => by
    rw [many] at h
    injection h with h1 h2
    rcases e : many f j (f (some x)).2 with ⟨l', o⟩
    rw [e] at h1 h2
    simp only at h1 h2
    subst h2
    have := many_snoc f j (f (some x)).2 l' b e
    rw [many, this, ← h1]
    rfl
theorem many_stop {α : Type} (f : Rst → α × Rst) : ∀ (j m : Nat) (s : Rst) (l : List α), many f j s = (l, none) → j ≤ m → many f m s = (l, none)
  | 0, m, s, l, h, _ => by
    rw [many] at h
    cases h
    exact many_none f m
  | j + 1, m, none, l, h, _ => by
    rw [many] at h
    cases h
    exact many_none f m
  | j + 1, m, some x, l, h, hm => by
    obtain ⟨m, rfl⟩ : ∃ k, m = k + 1 := ⟨m - 1, by omega⟩
    rw [many] at h ⊢
    injection h with h1 h2
    rcases e : many f j (f (some x)).2 with ⟨l', o⟩
    rw [e] at h1 h2
    simp only at h1 h2
    subst h2
    have := many_stop f j m (f (some x)).2 l' e (by omega)
    rw [this, ← h1]
theorem many_end {α : Type} (f : Rst → α × Rst) (n top j : Nat) (s9 s : Rst) (l : List α) (hm : many f j s9 = (l, s)) (hj : j ≤ n) (hx : j = n ∨ (j = top + 1 ∧ top + 1 < n) ∨ s = none) :
    (s = some [] ∧ n = l.length → many f n s9 = (l, some [])) ∧ (¬ (s = some [] ∧ n = l.length) → ¬ ((many f n s9).2 = some [] ∧ (many f n s9).1.length ≤ top)) := by
  have hl := many_len f j s9
  rw [hm] at hl
  simp only at hl
  constructor
  · rintro ⟨rfl, h2⟩
    have := hl.2 (by simp)
    have hjn : j = n := by omega
    rw [← hjn, hm]
  · rintro h ⟨h1, h2⟩
    have h3 := (many_len f n s9).2 (by rw [h1]; simp)
    rcases hx with rfl | ⟨_, hx⟩ | rfl
    · rw [hm] at h1 h3
      simp only at h1 h3
      exact h ⟨h1, by omega⟩
    · omega
    · rw [many_stop f j n s9 l hm hj] at h1
      cases h1
section
variable {w V : World} {T : List As} {g v : Nat} {s s' s2 : Rst} {u : ByteArray} {d : Bool}
theorem Has.dkNumE (h : Has w (dkA g s :: T) V) (e : pn s = (v, s')) : Calls Tryz.prog 87 #[pt g] V fun e w' => e = .returned (.int .i64 (v : Int)) ∧ Has w (dkA g s' :: T) w' := by
  have := h.dkNum
  rw [e] at this
  exact this
theorem Has.dkStrE (h : Has w (dkA g s :: T) V) (e : ps s = (u, s')) : Calls Tryz.prog 88 #[pt g] V fun e w' => e = .returned (.string u) ∧ Has w (dkA g s' :: T) w' := by
  have := h.dkStr
  rw [e] at this
  exact this
theorem Has.dkFlagE (h : Has w (dkA g s :: T) V) (e : pf s = (d, s')) : Calls Tryz.prog 90 #[pt g] V fun e w' => e = .returned (.bool d) ∧ Has w (dkA g s' :: T) w' := by
  have := h.dkFlag
  rw [e] at this
  exact this
theorem Has.dkStampE {v2 : Nat} (h : Has w (dkA g s :: T) V) (e : pn s = (v, s')) (e2 : pn s' = (v2, s2)) : Calls Tryz.prog 89 #[pt g] V fun e w' => e = .returned (sv (v : Int) (v2 : Int)) ∧ Has w (dkA g s2 :: T) w' := by
  have := h.dkStamp
  rw [e] at this
  simp only [e2] at this
  exact this
theorem Has.dkCell (h : Has w (dkA g s :: T) V) : V.cell? ⟨g, 1, none⟩ = some (.bool s.isNone) := by
  obtain ⟨F, ⟨A, n, c, l, d1, _⟩, _⟩ := h.get
  exact d1.cell 1
end

theorem step_appI {w : World} {ops : Array Oper} {o : Oper} {a : Act} {K : Act → World → Prop} {Q : Exit → Act → World → Prop} {E : Prop} (hgd : o.guard = none) (s x : Operand)
    (ho : o.op = .call { callee := .builtin .append, args := #[s, x], argTypes := #[36, 36] })
    (v : Value) (l : List Ch) (hs : a.eval s = v) (hown : w.ownsRow 0 24 3 v l.length (l.flatMap chc))
    (g c : Nat) (y : Ch) (hx : a.eval x = .slice (some ⟨g, 0, none⟩) 1 c) (hb : w.heap[g]? = some (.cells (chc y).toArray 24)) (hl : l.length ≤ 4096)
    (h : ∀ v' w', w'.ownsRow 0 24 3 v' (l.length + 1) (l.flatMap chc ++ chc y) → w.grownBy w' v.ownBlock → (v'.ownBlock = v.ownBlock ∨ v'.ownBlock = some w.heap.size) → (∃ A n c, v' = .slice A n c) → K (a.put o.dst v') w') :
    if Region.wanted o (yielded ops a.tmps) = true then Oper.wp Tryz.prog o a w K Q else E := by
  obtain ⟨i0, hi0, hz0, hz1, hz2⟩ := info_parts infoCh
  refine step_append_lies (w := w) hgd s x 36 ho 0 24 i0 _ 3 32 Tryz.underlying36 hi0 hz0 hz1 hz2 rfl (by decide) v l.length (l.flatMap chc) hs hown ⟨g, 0, none⟩ 1 c (chc y) hx (by rfl)
    (fun j u hj => ?_) (fun u hu => ?_) (by omega) (by unfold maxLen; omega) (by omega) (Nat.zero_le _) _ rfl (fun g' cap w' hr hg hob _ => ?_)
  · rw [Go.WideShapes.add_plain, Nat.zero_add, cell_of_row w g j _ _ _ hb]; simpa using hj
  · simp [chc] at hu
    rcases hu with rfl | rfl | rfl <;> rfl
  · exact h _ w' hr hg (hob.elim (fun e => .inl e.symm) (fun e => .inr (by rw [e]; rfl))) ⟨_, _, _, rfl⟩

theorem may_top {x : It} (h : mayI x = true) : x.l.length ≤ 16 := by
  simp only [mayI, Bool.and_eq_true] at h
  exact (of_decide_eq_true h.1.2).2

set_option maxHeartbeats 4000000 in
theorem rTakeI_c (t : ByteArray) (w : World) (ht : t.size ≤ 225000000000000) :
    Calls Tryz.prog 32 #[.string t] w fun e w' => AnsI (tkI (sb t)) w e w' ∧ Below w.heap.size w w' := by
  have hz0 : (w.alloc (.cells (#[.int .i64 0, .int .i64 0, .int .i64 0, .string ⟨#[]⟩, .int .i64 0, .int .i64 0, .int .i64 0, .int .i64 0, .slice none 0 0] : Array Value) 38)).heap.size = w.heap.size + 1 := by simp
  have h1 := ((Has.nil (Below.refl w.heap.size w)).newBlk 38 (#[.int .i64 0, .int .i64 0, .int .i64 0, .string ⟨#[]⟩, .int .i64 0, .int .i64 0, .int .i64 0, .int .i64 0, .slice none 0 0] : Array Value)).join (dkNew t (w.alloc (.cells (#[.int .i64 0, .int .i64 0, .int .i64 0, .string ⟨#[]⟩, .int .i64 0, .int .i64 0, .int .i64 0, .int .i64 0, .slice none 0 0] : Array Value) 38)) ht)
  have kc := dkKc (w.alloc (.cells (#[.int .i64 0, .int .i64 0, .int .i64 0, .string ⟨#[]⟩, .int .i64 0, .int .i64 0, .int .i64 0, .int .i64 0, .slice none 0 0] : Array Value) 38)) t
  have hsz : (Lib.bytesWorld (w.alloc (.cells (#[.int .i64 0, .int .i64 0, .int .i64 0, .string ⟨#[]⟩, .int .i64 0, .int .i64 0, .int .i64 0, .int .i64 0, .slice none 0 0] : Array Value) 38)) 5 t).heap.size = w.heap.size + 1 + 1 := by rw [Lib.bytesWorld_size, hz0]
  rw [hz0] at h1 kc
  have hz3 : ((Lib.bytesWorld (w.alloc (.cells (#[.int .i64 0, .int .i64 0, .int .i64 0, .string ⟨#[]⟩, .int .i64 0, .int .i64 0, .int .i64 0, .int .i64 0, .slice none 0 0] : Array Value) 38)) 5 t).alloc (.cells #[.slice (some ⟨w.heap.size + 1, 0, none⟩) t.size (grownCap (w.alloc (.cells (#[.int .i64 0, .int .i64 0, .int .i64 0, .string ⟨#[]⟩, .int .i64 0, .int .i64 0, .int .i64 0, .int .i64 0, .slice none 0 0] : Array Value) 38)) t.size 0 5), .bool false] 150)).heap.size = w.heap.size + 1 + 1 + 1 := by rw [World.size_alloc, hsz]
  have h2 := ((show Has w [dkA (w.heap.size + 1 + 1) (some (sb t)), blkA w.heap.size 38 (#[.int .i64 0, .int .i64 0, .int .i64 0, .string ⟨#[]⟩, .int .i64 0, .int .i64 0, .int .i64 0, .int .i64 0, .slice none 0 0] : Array Value)] ((Lib.bytesWorld (w.alloc (.cells (#[.int .i64 0, .int .i64 0, .int .i64 0, .string ⟨#[]⟩, .int .i64 0, .int .i64 0, .int .i64 0, .int .i64 0, .slice none 0 0] : Array Value) 38)) 5 t).alloc (.cells #[.slice (some ⟨w.heap.size + 1, 0, none⟩) t.size (grownCap (w.alloc (.cells (#[.int .i64 0, .int .i64 0, .int .i64 0, .string ⟨#[]⟩, .int .i64 0, .int .i64 0, .int .i64 0, .int .i64 0, .slice none 0 0] : Array Value) 38)) t.size 0 5), .bool false] 150)) from h1).newBlk 38 (#[.int .i64 0, .int .i64 0, .int .i64 0, .string ⟨#[]⟩, .int .i64 0, .int .i64 0, .int .i64 0, .int .i64 0, .slice none 0 0] : Array Value)).swap
  rw [hz3] at h2
  have H0 := Lib.hid h2
  rcases e1 : pn (some (sb t)) with ⟨v1, s1⟩
  rcases e2 : pn s1 with ⟨v2, s2⟩
  rcases e3 : pn s2 with ⟨v3, s3⟩
  rcases e4 : ps s3 with ⟨u4, s4⟩
  rcases e5 : pn s4 with ⟨v5, s5⟩
  rcases e6 : pn s5 with ⟨v6, s6⟩
  rcases e7 : pn s6 with ⟨v7, s7⟩
  rcases e8 : pn s7 with ⟨v8, s8⟩
  rcases e9 : pn s8 with ⟨v9, s9⟩
  have hk : rdI (sb t) = (⟨(v1 : Int), (v2 : Int), (v3 : Int), u4, (v5 : Int), (v6 : Int), (v7 : Int), (v8 : Int), (many pC v9 s9).1⟩, (many pC v9 s9).2) := by
    unfold rdI
    simp only [e1, e2, e3, e4, e5, e6, e7, e8, e9]
  have hk2 : tkI (sb t) = if (many pC v9 s9).2 = some [] ∧ mayI ⟨(v1 : Int), (v2 : Int), (v3 : Int), u4, (v5 : Int), (v6 : Int), (v7 : Int), (v8 : Int), (many pC v9 s9).1⟩ = true then some ⟨(v1 : Int), (v2 : Int), (v3 : Int), u4, (v5 : Int), (v6 : Int), (v7 : Int), (v8 : Int), (many pC v9 s9).1⟩ else none := by unfold tkI; rw [hk]
  rw [hk2]
  obtain ⟨res, hres⟩ : ∃ res : Option It, (if (many pC v9 s9).2 = some [] ∧ mayI ⟨(v1 : Int), (v2 : Int), (v3 : Int), u4, (v5 : Int), (v6 : Int), (v7 : Int), (v8 : Int), (many pC v9 s9).1⟩ = true then some ⟨(v1 : Int), (v2 : Int), (v3 : Int), u4, (v5 : Int), (v6 : Int), (v7 : Int), (v8 : Int), (many pC v9 s9).1⟩ else none) = res := ⟨_, rfl⟩
  rw [hres]
  have HRES := Lib.hid hres
  clear hres
  have N1 := Lib.hid e1
  have N2 := Lib.hid e2
  have N3 := Lib.hid e3
  have N4 := Lib.hid e4
  have N5 := Lib.hid e5
  have N6 := Lib.hid e6
  have N7 := Lib.hid e7
  have N8 := Lib.hid e8
  have N9 := Lib.hid e9
  clear h1 h2 hz0 hz3 hk hk2 e1 e2 e3 e4 e5 e6 e7 e8 e9
  go_enter Tryz.func32, Tryz.ntmps32
  go_wp2_with (first
    | (go_at_call 87; first
      | (refine (H6.out.dkNumE N9.out).mono ?_; rintro e w7 ⟨rfl, h1⟩
         have H7 := Lib.hid h1
         clear h1 H6 N9)
      | (refine (H2.out.dkNumE N3.out).mono ?_; rintro e w3 ⟨rfl, h1⟩
         have z0 := h1.swap.blk.1.cell 2
         have zf0 := h1.swap.blk.1.frozen 2
         simp at z0
         have h1 := (h1.swap.setBlk 2 (.int .i64 (v3 : Int))).swap
         have H3 := Lib.hid h1
         clear h1 H2 N3)
      | (refine (H1.out.dkNumE N2.out).mono ?_; rintro e w2 ⟨rfl, h1⟩
         have z0 := h1.swap.blk.1.cell 1
         have zf0 := h1.swap.blk.1.frozen 1
         simp at z0
         have h1 := (h1.swap.setBlk 1 (.int .i64 (v2 : Int))).swap
         have H2 := Lib.hid h1
         clear h1 H1 N2)
      | (refine (H0.out.dkNumE N1.out).mono ?_; rintro e w1 ⟨rfl, h1⟩
         have z0 := h1.swap.blk.1.cell 0
         have zf0 := h1.swap.blk.1.frozen 0
         simp at z0
         have h1 := (h1.swap.setBlk 0 (.int .i64 (v1 : Int))).swap
         have H1 := Lib.hid h1
         clear h1 H0 N1))
    | (go_at_call 88; first
      | (refine (H3.out.dkStrE N4.out).mono ?_; rintro e w4 ⟨rfl, h1⟩
         have z0 := h1.swap.blk.1.cell 3
         have zf0 := h1.swap.blk.1.frozen 3
         simp at z0
         have h1 := (h1.swap.setBlk 3 (.string u4)).swap
         have H4 := Lib.hid h1
         clear h1 H3 N4))
    | (go_at_call 89; first
      | (refine (H5.out.dkStampE N7.out N8.out).mono ?_; rintro e w6 ⟨rfl, h1⟩
         have z0 := h1.swap.blk.1.cell 6
         have zf0 := h1.swap.blk.1.frozen 6
         simp at z0
         have z1 := h1.swap.blk.1.cell 7
         have zf1 := h1.swap.blk.1.frozen 7
         simp at z1
         have h1 := ((h1.swap.setBlk 6 (.int .i64 (v7 : Int))).setBlk 7 (.int .i64 (v8 : Int))).swap
         have H6 := Lib.hid h1
         clear h1 H5 N7 N8)
      | (refine (H4.out.dkStampE N5.out N6.out).mono ?_; rintro e w5 ⟨rfl, h1⟩
         have z0 := h1.swap.blk.1.cell 4
         have zf0 := h1.swap.blk.1.frozen 4
         simp at z0
         have z1 := h1.swap.blk.1.cell 5
         have zf1 := h1.swap.blk.1.frozen 5
         simp at z1
         have h1 := ((h1.swap.setBlk 4 (.int .i64 (v5 : Int))).setBlk 5 (.int .i64 (v6 : Int))).swap
         have H5 := Lib.hid h1
         clear h1 H4 N5 N6)))
  have h1 := H7.out
  have exy : ((((((((((#[.int .i64 0, .int .i64 0, .int .i64 0, .string ⟨#[]⟩, .int .i64 0, .int .i64 0, .int .i64 0, .int .i64 0, .slice none 0 0] : Array Value).setIfInBounds 0 (.int .i64 (v1 : Int))).setIfInBounds 1 (.int .i64 (v2 : Int))).setIfInBounds 2 (.int .i64 (v3 : Int))).setIfInBounds 3 (.string u4)).setIfInBounds 4 (.int .i64 (v5 : Int))).setIfInBounds 5 (.int .i64 (v6 : Int))).setIfInBounds 6 (.int .i64 (v7 : Int))).setIfInBounds 7 (.int .i64 (v8 : Int))) : Array Value) = itc ⟨(v1 : Int), (v2 : Int), (v3 : Int), u4, (v5 : Int), (v6 : Int), (v7 : Int), (v8 : Int), []⟩ (.slice none 0 0) := by simp
  rw [exy] at h1
  have h2 := h1.rowNil 24 3
  have h3 : Has w (dkA (w.heap.size + 1 + 1) s9 :: blkA (w.heap.size + 1 + 1 + 1) 38 (itc ⟨(v1 : Int), (v2 : Int), (v3 : Int), u4, (v5 : Int), (v6 : Int), (v7 : Int), (v8 : Int), []⟩ (.slice none 0 0)) :: rowA 24 3 (.slice none 0 0) ([] : List Ch).length (([] : List Ch).flatMap chc) :: [blkA w.heap.size 38 (#[.int .i64 0, .int .i64 0, .int .i64 0, .string ⟨#[]⟩, .int .i64 0, .int .i64 0, .int .i64 0, .int .i64 0, .slice none 0 0] : Array Value)]) w7 := h2.perm (List.perm_middle (l₁ := [_, _])).symm
  have HT0 := Lib.hid h3
  clear h1 h2 h3 exy H7
  go_loopw [7] (fun i wr => ∃ (j : Nat), j ≤ v9 ∧ j ≤ 17 ∧ i = .int .i64 j ∧ Hid (∃ (l : List Ch) (v : Value) (s : Rst), many pC j s9 = (l, s) ∧ Has w (dkA (w.heap.size + 1 + 1) s :: blkA (w.heap.size + 1 + 1 + 1) 38 (itc ⟨(v1 : Int), (v2 : Int), (v3 : Int), u4, (v5 : Int), (v6 : Int), (v7 : Int), (v8 : Int), []⟩ v) :: rowA 24 3 v l.length (l.flatMap chc) :: [blkA w.heap.size 38 (#[.int .i64 0, .int .i64 0, .int .i64 0, .string ⟨#[]⟩, .int .i64 0, .int .i64 0, .int .i64 0, .int .i64 0, .slice none 0 0] : Array Value)]) wr)) (fun i _ => 17 - (intOf i).toNat)
  case atStart => exact ⟨0, Nat.zero_le _, Nat.zero_le _, rfl, [], .slice none 0 0, s9, rfl, HT0.out⟩
  case round =>
    obtain ⟨j, hj, hj2, rfl, HH⟩ := hrel
    obtain ⟨l, v, s, hm, h⟩ := HH.out
    have y1 := h.dkCell
    have x8 := (h.blkIn (g := w.heap.size + 1 + 1 + 1) (t := 38) (cs := itc ⟨(v1 : Int), (v2 : Int), (v3 : Int), u4, (v5 : Int), (v6 : Int), (v7 : Int), (v8 : Int), []⟩ v) (by simp)).cell 8
    have xf := (h.blkIn (g := w.heap.size + 1 + 1 + 1) (t := 38) (cs := itc ⟨(v1 : Int), (v2 : Int), (v3 : Int), u4, (v5 : Int), (v6 : Int), (v7 : Int), (v8 : Int), []⟩ v) (by simp)).frozen 8
    simp at x8
    have hll : l.length ≤ j := by have := (many_len pC j s9).1; rw [hm] at this; exact this
    have HR := Lib.hid h
    have HM := Lib.hid hm
    clear HH HT0 h hm
    by_cases c1 : j < v9
    case neg =>
      have hx : j = v9 ∨ (j = 16 + 1 ∧ 16 + 1 < v9) ∨ s = none := .inl (by omega)
      by_cases hok : s = some [] ∧ v9 = l.length
      · have hfin := (many_end pC v9 16 j s9 s l HM.out hj hx).1 hok
        obtain ⟨rfl, hvl⟩ := hok
        have hres := HRES.out
        rw [hfin] at hres
        have HD := Lib.hid (show decide ((some [] : Rst) = some ([] : List UInt8)) = true from rfl)
        obtain ⟨Av, cv, rfl, hat, hnc, hcm, hav⟩ := chRow (HR.out.perm (List.perm_middle (l₁ := [_, _]))).rowOf
        have hap : ∀ a, Av = some a → a.block ≠ w.heap.size := (HR.out.perm (List.perm_middle (l₁ := [_, _]))).apart (g := w.heap.size) (t := 38) (cs := (#[.int .i64 0, .int .i64 0, .int .i64 0, .string ⟨#[]⟩, .int .i64 0, .int .i64 0, .int .i64 0, .int .i64 0, .slice none 0 0] : Array Value)) (by simp)
        have kx := HR.out.blkIn (g := w.heap.size + 1 + 1 + 1) (t := 38) (cs := itc ⟨(v1 : Int), (v2 : Int), (v3 : Int), u4, (v5 : Int), (v6 : Int), (v7 : Int), (v8 : Int), []⟩ (.slice Av l.length cv)) (by simp)
        have ky := HR.out.blkIn (g := w.heap.size) (t := 38) (cs := (#[.int .i64 0, .int .i64 0, .int .i64 0, .string ⟨#[]⟩, .int .i64 0, .int .i64 0, .int .i64 0, .int .i64 0, .slice none 0 0] : Array Value)) (by simp)
        have hvi : ((v9 : Int) != (l.length : Int)) = false := by rw [hvl]; simp
        have q0 := kx.cell 0
        have q1 := kx.cell 1
        have q2 := kx.cell 2
        have q3 := kx.cell 3
        have q4 := kx.cell 4
        have q5 := kx.cell 5
        have q6 := kx.cell 6
        have q7 := kx.cell 7
        have q8 := kx.cell 8
        simp at q0 q1 q2 q3 q4 q5 q6 q7 q8
        have HKX := Lib.hid kx
        have HKY := Lib.hid ky
        have HAT := Lib.hid hat
        have HAP := Lib.hid hap
        have HAV := Lib.hid hav
        cases hmy : mayI ⟨(v1 : Int), (v2 : Int), (v3 : Int), u4, (v5 : Int), (v6 : Int), (v7 : Int), (v8 : Int), l⟩
        · have HMY := Lib.hid (rMayI_c ⟨(v1 : Int), (v2 : Int), (v3 : Int), u4, (v5 : Int), (v6 : Int), (v7 : Int), (v8 : Int), l⟩ false hmy Av l.length cv wr hat (by omega))
          rw [if_neg (by rw [hmy]; simp)] at hres
          subst hres
          clear hmy kx ky hat hap hav hfin hvl hx
          go_wp2_with (first
            | (go_at_call 91; refine HR.out.dkDone.mono ?_; rintro e w6 ⟨rfl, rfl⟩; rw [HD.out])
            | (go_at_call 92; refine HMY.out.mono ?_; rintro e w7 ⟨rfl, hb7⟩
               have kx := HKX.out.below hb7 HKX.out.lt
               have ky := HKY.out.below hb7 HKY.out.lt
               have bel := HR.out.bel.trans (hb7.mono HR.out.bel.size)
               have q0 := kx.cell 0
               have q1 := kx.cell 1
               have q2 := kx.cell 2
               have q3 := kx.cell 3
               have q4 := kx.cell 4
               have q5 := kx.cell 5
               have q6 := kx.cell 6
               have q7 := kx.cell 7
               have q8 := kx.cell 8
               have p0 := ky.cell 0
               have f0 := ky.frozen 0
               have p1 := ky.cell 1
               have f1 := ky.frozen 1
               have p2 := ky.cell 2
               have f2 := ky.frozen 2
               have p3 := ky.cell 3
               have f3 := ky.frozen 3
               have p4 := ky.cell 4
               have f4 := ky.frozen 4
               have p5 := ky.cell 5
               have f5 := ky.frozen 5
               have p6 := ky.cell 6
               have f6 := ky.frozen 6
               have p7 := ky.cell 7
               have f7 := ky.frozen 7
               have p8 := ky.cell 8
               have f8 := ky.frozen 8
               simp at q0 q1 q2 q3 q4 q5 q6 q7 q8 p0 p1 p2 p3 p4 p5 p6 p7 p8))
          refine ret_it rfl rfl ky.all9 rfl rfl ⟨rfl, (((((((((bel).setCell (by exact Nat.le_refl _) _).setCell (by exact Nat.le_refl _) _).setCell (by exact Nat.le_refl _) _).setCell (by exact Nat.le_refl _) _).setCell (by exact Nat.le_refl _) _).setCell (by exact Nat.le_refl _) _).setCell (by exact Nat.le_refl _) _).setCell (by exact Nat.le_refl _) _).setCell (by exact Nat.le_refl _) _⟩
        · have HMY := Lib.hid (rMayI_c ⟨(v1 : Int), (v2 : Int), (v3 : Int), u4, (v5 : Int), (v6 : Int), (v7 : Int), (v8 : Int), l⟩ true hmy Av l.length cv wr hat (by omega))
          rw [if_pos ⟨rfl, hmy⟩] at hres
          subst hres
          clear hmy kx ky hat hap hav hfin hvl hx
          go_wp2_with (first
            | (go_at_call 91; refine HR.out.dkDone.mono ?_; rintro e w6 ⟨rfl, rfl⟩; rw [HD.out])
            | (go_at_call 92; refine HMY.out.mono ?_; rintro e w7 ⟨rfl, hb7⟩
               have kx := HKX.out.below hb7 HKX.out.lt
               have ky := HKY.out.below hb7 HKY.out.lt
               have bel := HR.out.bel.trans (hb7.mono HR.out.bel.size)
               have q0 := kx.cell 0
               have q1 := kx.cell 1
               have q2 := kx.cell 2
               have q3 := kx.cell 3
               have q4 := kx.cell 4
               have q5 := kx.cell 5
               have q6 := kx.cell 6
               have q7 := kx.cell 7
               have q8 := kx.cell 8
               have p0 := ky.cell 0
               have f0 := ky.frozen 0
               have p1 := ky.cell 1
               have f1 := ky.frozen 1
               have p2 := ky.cell 2
               have f2 := ky.frozen 2
               have p3 := ky.cell 3
               have f3 := ky.frozen 3
               have p4 := ky.cell 4
               have f4 := ky.frozen 4
               have p5 := ky.cell 5
               have f5 := ky.frozen 5
               have p6 := ky.cell 6
               have f6 := ky.frozen 6
               have p7 := ky.cell 7
               have f7 := ky.frozen 7
               have p8 := ky.cell 8
               have f8 := ky.frozen 8
               simp at q0 q1 q2 q3 q4 q5 q6 q7 q8 p0 p1 p2 p3 p4 p5 p6 p7 p8))
          have hat7 := HAT.out.below hb7
          refine ret_it rfl rfl ky.all9 rfl rfl ⟨?_, (((((((((bel).setCell (by exact Nat.le_refl _) _).setCell (by exact Nat.le_refl _) _).setCell (by exact Nat.le_refl _) _).setCell (by exact Nat.le_refl _) _).setCell (by exact Nat.le_refl _) _).setCell (by exact Nat.le_refl _) _).setCell (by exact Nat.le_refl _) _).setCell (by exact Nat.le_refl _) _).setCell (by exact Nat.le_refl _) _⟩
          refine ⟨Av, l.length, cv, rfl, ?_, hnc, hcm, fun p hp => by have := HAV.out p hp; have := hb7.size; simp [World.setCell]; omega⟩
          refine hat7.keep fun a ha j z hz => ?_
          have hne := HAP.out a ha
          simp only [World.cell?, World.setCell, Array.getElem?_modify] at hz ⊢
          simpa [hne, hne.symm] using hz
      · have hfin := (many_end pC v9 16 j s9 s l HM.out hj hx).2 hok
        obtain rfl : res = none := by rw [← HRES.out, if_neg (fun h => hfin ⟨h.1, may_top h.2⟩)]
        by_cases hs : s = some []
        · have hvi : ((v9 : Int) != (l.length : Int)) = true := by
            have : ¬ v9 = l.length := fun e => hok ⟨hs, e⟩
            simp; omega
          obtain ⟨A8, n8, c8, rfl⟩ := slice_form (HR.out.perm (List.perm_middle (l₁ := [_, _]))).rowOf
          have hn8 : n8 = l.length := by
            have := chRow (HR.out.perm (List.perm_middle (l₁ := [_, _]))).rowOf
            obtain ⟨Av, cv, e, _⟩ := this
            cases e
            rfl
          subst hn8
          have HD := Lib.hid (show decide (s = some ([] : List UInt8)) = true from decide_eq_true hs)
          clear hs hok hfin hx
          have ky := HR.out.blkIn (g := w.heap.size) (t := 38) (cs := (#[.int .i64 0, .int .i64 0, .int .i64 0, .string ⟨#[]⟩, .int .i64 0, .int .i64 0, .int .i64 0, .int .i64 0, .slice none 0 0] : Array Value)) (by simp)
          have p0 := ky.cell 0
          have f0 := ky.frozen 0
          have p1 := ky.cell 1
          have f1 := ky.frozen 1
          have p2 := ky.cell 2
          have f2 := ky.frozen 2
          have p3 := ky.cell 3
          have f3 := ky.frozen 3
          have p4 := ky.cell 4
          have f4 := ky.frozen 4
          have p5 := ky.cell 5
          have f5 := ky.frozen 5
          have p6 := ky.cell 6
          have f6 := ky.frozen 6
          have p7 := ky.cell 7
          have f7 := ky.frozen 7
          have p8 := ky.cell 8
          have f8 := ky.frozen 8
          simp at p0 p1 p2 p3 p4 p5 p6 p7 p8
          have HKY := Lib.hid ky
          clear ky
          have bel := HR.out.bel
          go_wp2_with (go_at_call 91; refine HR.out.dkDone.mono ?_; rintro e w6 ⟨rfl, rfl⟩; rw [HD.out])
          refine ret_it rfl rfl HKY.out.all9 rfl rfl ⟨rfl, (((((((((bel).setCell (by exact Nat.le_refl _) _).setCell (by exact Nat.le_refl _) _).setCell (by exact Nat.le_refl _) _).setCell (by exact Nat.le_refl _) _).setCell (by exact Nat.le_refl _) _).setCell (by exact Nat.le_refl _) _).setCell (by exact Nat.le_refl _) _).setCell (by exact Nat.le_refl _) _).setCell (by exact Nat.le_refl _) _⟩
        · have HD := Lib.hid (show decide (s = some ([] : List UInt8)) = false from decide_eq_false hs)
          clear hs hok hfin hx
          have ky := HR.out.blkIn (g := w.heap.size) (t := 38) (cs := (#[.int .i64 0, .int .i64 0, .int .i64 0, .string ⟨#[]⟩, .int .i64 0, .int .i64 0, .int .i64 0, .int .i64 0, .slice none 0 0] : Array Value)) (by simp)
          have p0 := ky.cell 0
          have f0 := ky.frozen 0
          have p1 := ky.cell 1
          have f1 := ky.frozen 1
          have p2 := ky.cell 2
          have f2 := ky.frozen 2
          have p3 := ky.cell 3
          have f3 := ky.frozen 3
          have p4 := ky.cell 4
          have f4 := ky.frozen 4
          have p5 := ky.cell 5
          have f5 := ky.frozen 5
          have p6 := ky.cell 6
          have f6 := ky.frozen 6
          have p7 := ky.cell 7
          have f7 := ky.frozen 7
          have p8 := ky.cell 8
          have f8 := ky.frozen 8
          simp at p0 p1 p2 p3 p4 p5 p6 p7 p8
          have HKY := Lib.hid ky
          clear ky
          have bel := HR.out.bel
          go_wp2_with (go_at_call 91; refine HR.out.dkDone.mono ?_; rintro e w6 ⟨rfl, rfl⟩; rw [HD.out])
          refine ret_it rfl rfl HKY.out.all9 rfl rfl ⟨rfl, (((((((((bel).setCell (by exact Nat.le_refl _) _).setCell (by exact Nat.le_refl _) _).setCell (by exact Nat.le_refl _) _).setCell (by exact Nat.le_refl _) _).setCell (by exact Nat.le_refl _) _).setCell (by exact Nat.le_refl _) _).setCell (by exact Nat.le_refl _) _).setCell (by exact Nat.le_refl _) _).setCell (by exact Nat.le_refl _) _⟩
    by_cases c2 : j < 17
    case neg =>
      have hx : j = v9 ∨ (j = 16 + 1 ∧ 16 + 1 < v9) ∨ s = none := .inr (.inl (by omega))
      by_cases hok : s = some [] ∧ v9 = l.length
      · have hfin := (many_end pC v9 16 j s9 s l HM.out hj hx).1 hok
        obtain ⟨rfl, hvl⟩ := hok
        have hres := HRES.out
        rw [hfin] at hres
        have HD := Lib.hid (show decide ((some [] : Rst) = some ([] : List UInt8)) = true from rfl)
        obtain ⟨Av, cv, rfl, hat, hnc, hcm, hav⟩ := chRow (HR.out.perm (List.perm_middle (l₁ := [_, _]))).rowOf
        have hap : ∀ a, Av = some a → a.block ≠ w.heap.size := (HR.out.perm (List.perm_middle (l₁ := [_, _]))).apart (g := w.heap.size) (t := 38) (cs := (#[.int .i64 0, .int .i64 0, .int .i64 0, .string ⟨#[]⟩, .int .i64 0, .int .i64 0, .int .i64 0, .int .i64 0, .slice none 0 0] : Array Value)) (by simp)
        have kx := HR.out.blkIn (g := w.heap.size + 1 + 1 + 1) (t := 38) (cs := itc ⟨(v1 : Int), (v2 : Int), (v3 : Int), u4, (v5 : Int), (v6 : Int), (v7 : Int), (v8 : Int), []⟩ (.slice Av l.length cv)) (by simp)
        have ky := HR.out.blkIn (g := w.heap.size) (t := 38) (cs := (#[.int .i64 0, .int .i64 0, .int .i64 0, .string ⟨#[]⟩, .int .i64 0, .int .i64 0, .int .i64 0, .int .i64 0, .slice none 0 0] : Array Value)) (by simp)
        have hvi : ((v9 : Int) != (l.length : Int)) = false := by rw [hvl]; simp
        have q0 := kx.cell 0
        have q1 := kx.cell 1
        have q2 := kx.cell 2
        have q3 := kx.cell 3
        have q4 := kx.cell 4
        have q5 := kx.cell 5
        have q6 := kx.cell 6
        have q7 := kx.cell 7
        have q8 := kx.cell 8
        simp at q0 q1 q2 q3 q4 q5 q6 q7 q8
        have HKX := Lib.hid kx
        have HKY := Lib.hid ky
        have HAT := Lib.hid hat
        have HAP := Lib.hid hap
        have HAV := Lib.hid hav
        cases hmy : mayI ⟨(v1 : Int), (v2 : Int), (v3 : Int), u4, (v5 : Int), (v6 : Int), (v7 : Int), (v8 : Int), l⟩
        · have HMY := Lib.hid (rMayI_c ⟨(v1 : Int), (v2 : Int), (v3 : Int), u4, (v5 : Int), (v6 : Int), (v7 : Int), (v8 : Int), l⟩ false hmy Av l.length cv wr hat (by omega))
          rw [if_neg (by rw [hmy]; simp)] at hres
          subst hres
          clear hmy kx ky hat hap hav hfin hvl hx
          go_wp2_with (first
            | (go_at_call 91; refine HR.out.dkDone.mono ?_; rintro e w6 ⟨rfl, rfl⟩; rw [HD.out])
            | (go_at_call 92; refine HMY.out.mono ?_; rintro e w7 ⟨rfl, hb7⟩
               have kx := HKX.out.below hb7 HKX.out.lt
               have ky := HKY.out.below hb7 HKY.out.lt
               have bel := HR.out.bel.trans (hb7.mono HR.out.bel.size)
               have q0 := kx.cell 0
               have q1 := kx.cell 1
               have q2 := kx.cell 2
               have q3 := kx.cell 3
               have q4 := kx.cell 4
               have q5 := kx.cell 5
               have q6 := kx.cell 6
               have q7 := kx.cell 7
               have q8 := kx.cell 8
               have p0 := ky.cell 0
               have f0 := ky.frozen 0
               have p1 := ky.cell 1
               have f1 := ky.frozen 1
               have p2 := ky.cell 2
               have f2 := ky.frozen 2
               have p3 := ky.cell 3
               have f3 := ky.frozen 3
               have p4 := ky.cell 4
               have f4 := ky.frozen 4
               have p5 := ky.cell 5
               have f5 := ky.frozen 5
               have p6 := ky.cell 6
               have f6 := ky.frozen 6
               have p7 := ky.cell 7
               have f7 := ky.frozen 7
               have p8 := ky.cell 8
               have f8 := ky.frozen 8
               simp at q0 q1 q2 q3 q4 q5 q6 q7 q8 p0 p1 p2 p3 p4 p5 p6 p7 p8))
          refine ret_it rfl rfl ky.all9 rfl rfl ⟨rfl, (((((((((bel).setCell (by exact Nat.le_refl _) _).setCell (by exact Nat.le_refl _) _).setCell (by exact Nat.le_refl _) _).setCell (by exact Nat.le_refl _) _).setCell (by exact Nat.le_refl _) _).setCell (by exact Nat.le_refl _) _).setCell (by exact Nat.le_refl _) _).setCell (by exact Nat.le_refl _) _).setCell (by exact Nat.le_refl _) _⟩
        · have HMY := Lib.hid (rMayI_c ⟨(v1 : Int), (v2 : Int), (v3 : Int), u4, (v5 : Int), (v6 : Int), (v7 : Int), (v8 : Int), l⟩ true hmy Av l.length cv wr hat (by omega))
          rw [if_pos ⟨rfl, hmy⟩] at hres
          subst hres
          clear hmy kx ky hat hap hav hfin hvl hx
          go_wp2_with (first
            | (go_at_call 91; refine HR.out.dkDone.mono ?_; rintro e w6 ⟨rfl, rfl⟩; rw [HD.out])
            | (go_at_call 92; refine HMY.out.mono ?_; rintro e w7 ⟨rfl, hb7⟩
               have kx := HKX.out.below hb7 HKX.out.lt
               have ky := HKY.out.below hb7 HKY.out.lt
               have bel := HR.out.bel.trans (hb7.mono HR.out.bel.size)
               have q0 := kx.cell 0
               have q1 := kx.cell 1
               have q2 := kx.cell 2
               have q3 := kx.cell 3
               have q4 := kx.cell 4
               have q5 := kx.cell 5
               have q6 := kx.cell 6
               have q7 := kx.cell 7
               have q8 := kx.cell 8
               have p0 := ky.cell 0
               have f0 := ky.frozen 0
               have p1 := ky.cell 1
               have f1 := ky.frozen 1
               have p2 := ky.cell 2
               have f2 := ky.frozen 2
               have p3 := ky.cell 3
               have f3 := ky.frozen 3
               have p4 := ky.cell 4
               have f4 := ky.frozen 4
               have p5 := ky.cell 5
               have f5 := ky.frozen 5
               have p6 := ky.cell 6
               have f6 := ky.frozen 6
               have p7 := ky.cell 7
               have f7 := ky.frozen 7
               have p8 := ky.cell 8
               have f8 := ky.frozen 8
               simp at q0 q1 q2 q3 q4 q5 q6 q7 q8 p0 p1 p2 p3 p4 p5 p6 p7 p8))
          have hat7 := HAT.out.below hb7
          refine ret_it rfl rfl ky.all9 rfl rfl ⟨?_, (((((((((bel).setCell (by exact Nat.le_refl _) _).setCell (by exact Nat.le_refl _) _).setCell (by exact Nat.le_refl _) _).setCell (by exact Nat.le_refl _) _).setCell (by exact Nat.le_refl _) _).setCell (by exact Nat.le_refl _) _).setCell (by exact Nat.le_refl _) _).setCell (by exact Nat.le_refl _) _).setCell (by exact Nat.le_refl _) _⟩
          refine ⟨Av, l.length, cv, rfl, ?_, hnc, hcm, fun p hp => by have := HAV.out p hp; have := hb7.size; simp [World.setCell]; omega⟩
          refine hat7.keep fun a ha j z hz => ?_
          have hne := HAP.out a ha
          simp only [World.cell?, World.setCell, Array.getElem?_modify] at hz ⊢
          simpa [hne, hne.symm] using hz
      · have hfin := (many_end pC v9 16 j s9 s l HM.out hj hx).2 hok
        obtain rfl : res = none := by rw [← HRES.out, if_neg (fun h => hfin ⟨h.1, may_top h.2⟩)]
        by_cases hs : s = some []
        · have hvi : ((v9 : Int) != (l.length : Int)) = true := by
            have : ¬ v9 = l.length := fun e => hok ⟨hs, e⟩
            simp; omega
          obtain ⟨A8, n8, c8, rfl⟩ := slice_form (HR.out.perm (List.perm_middle (l₁ := [_, _]))).rowOf
          have hn8 : n8 = l.length := by
            have := chRow (HR.out.perm (List.perm_middle (l₁ := [_, _]))).rowOf
            obtain ⟨Av, cv, e, _⟩ := this
            cases e
            rfl
          subst hn8
          have HD := Lib.hid (show decide (s = some ([] : List UInt8)) = true from decide_eq_true hs)
          clear hs hok hfin hx
          have ky := HR.out.blkIn (g := w.heap.size) (t := 38) (cs := (#[.int .i64 0, .int .i64 0, .int .i64 0, .string ⟨#[]⟩, .int .i64 0, .int .i64 0, .int .i64 0, .int .i64 0, .slice none 0 0] : Array Value)) (by simp)
          have p0 := ky.cell 0
          have f0 := ky.frozen 0
          have p1 := ky.cell 1
          have f1 := ky.frozen 1
          have p2 := ky.cell 2
          have f2 := ky.frozen 2
          have p3 := ky.cell 3
          have f3 := ky.frozen 3
          have p4 := ky.cell 4
          have f4 := ky.frozen 4
          have p5 := ky.cell 5
          have f5 := ky.frozen 5
          have p6 := ky.cell 6
          have f6 := ky.frozen 6
          have p7 := ky.cell 7
          have f7 := ky.frozen 7
          have p8 := ky.cell 8
          have f8 := ky.frozen 8
          simp at p0 p1 p2 p3 p4 p5 p6 p7 p8
          have HKY := Lib.hid ky
          clear ky
          have bel := HR.out.bel
          go_wp2_with (go_at_call 91; refine HR.out.dkDone.mono ?_; rintro e w6 ⟨rfl, rfl⟩; rw [HD.out])
          refine ret_it rfl rfl HKY.out.all9 rfl rfl ⟨rfl, (((((((((bel).setCell (by exact Nat.le_refl _) _).setCell (by exact Nat.le_refl _) _).setCell (by exact Nat.le_refl _) _).setCell (by exact Nat.le_refl _) _).setCell (by exact Nat.le_refl _) _).setCell (by exact Nat.le_refl _) _).setCell (by exact Nat.le_refl _) _).setCell (by exact Nat.le_refl _) _).setCell (by exact Nat.le_refl _) _⟩
        · have HD := Lib.hid (show decide (s = some ([] : List UInt8)) = false from decide_eq_false hs)
          clear hs hok hfin hx
          have ky := HR.out.blkIn (g := w.heap.size) (t := 38) (cs := (#[.int .i64 0, .int .i64 0, .int .i64 0, .string ⟨#[]⟩, .int .i64 0, .int .i64 0, .int .i64 0, .int .i64 0, .slice none 0 0] : Array Value)) (by simp)
          have p0 := ky.cell 0
          have f0 := ky.frozen 0
          have p1 := ky.cell 1
          have f1 := ky.frozen 1
          have p2 := ky.cell 2
          have f2 := ky.frozen 2
          have p3 := ky.cell 3
          have f3 := ky.frozen 3
          have p4 := ky.cell 4
          have f4 := ky.frozen 4
          have p5 := ky.cell 5
          have f5 := ky.frozen 5
          have p6 := ky.cell 6
          have f6 := ky.frozen 6
          have p7 := ky.cell 7
          have f7 := ky.frozen 7
          have p8 := ky.cell 8
          have f8 := ky.frozen 8
          simp at p0 p1 p2 p3 p4 p5 p6 p7 p8
          have HKY := Lib.hid ky
          clear ky
          have bel := HR.out.bel
          go_wp2_with (go_at_call 91; refine HR.out.dkDone.mono ?_; rintro e w6 ⟨rfl, rfl⟩; rw [HD.out])
          refine ret_it rfl rfl HKY.out.all9 rfl rfl ⟨rfl, (((((((((bel).setCell (by exact Nat.le_refl _) _).setCell (by exact Nat.le_refl _) _).setCell (by exact Nat.le_refl _) _).setCell (by exact Nat.le_refl _) _).setCell (by exact Nat.le_refl _) _).setCell (by exact Nat.le_refl _) _).setCell (by exact Nat.le_refl _) _).setCell (by exact Nat.le_refl _) _).setCell (by exact Nat.le_refl _) _⟩
    cases s with
    | none =>
      have hx : j = v9 ∨ (j = 16 + 1 ∧ 16 + 1 < v9) ∨ (none : Rst) = none := .inr (.inr rfl)
      have hok : ¬ ((none : Rst) = some [] ∧ v9 = l.length) := fun h => nomatch h.1
      have hfin := (many_end pC v9 16 j s9 none l HM.out hj hx).2 hok
      obtain rfl : res = none := by rw [← HRES.out, if_neg (fun h => hfin ⟨h.1, may_top h.2⟩)]
      have HD := Lib.hid (show decide ((none : Rst) = some ([] : List UInt8)) = false from rfl)
      clear hx hfin hok
      have ky := HR.out.blkIn (g := w.heap.size) (t := 38) (cs := (#[.int .i64 0, .int .i64 0, .int .i64 0, .string ⟨#[]⟩, .int .i64 0, .int .i64 0, .int .i64 0, .int .i64 0, .slice none 0 0] : Array Value)) (by simp)
      have p0 := ky.cell 0
      have f0 := ky.frozen 0
      have p1 := ky.cell 1
      have f1 := ky.frozen 1
      have p2 := ky.cell 2
      have f2 := ky.frozen 2
      have p3 := ky.cell 3
      have f3 := ky.frozen 3
      have p4 := ky.cell 4
      have f4 := ky.frozen 4
      have p5 := ky.cell 5
      have f5 := ky.frozen 5
      have p6 := ky.cell 6
      have f6 := ky.frozen 6
      have p7 := ky.cell 7
      have f7 := ky.frozen 7
      have p8 := ky.cell 8
      have f8 := ky.frozen 8
      simp at p0 p1 p2 p3 p4 p5 p6 p7 p8
      have HKY := Lib.hid ky
      clear ky
      have bel := HR.out.bel
      go_wp2_with (go_at_call 91; refine HR.out.dkDone.mono ?_; rintro e w6 ⟨rfl, rfl⟩; rw [HD.out])
      refine ret_it rfl rfl HKY.out.all9 rfl rfl ⟨rfl, (((((((((bel).setCell (by exact Nat.le_refl _) _).setCell (by exact Nat.le_refl _) _).setCell (by exact Nat.le_refl _) _).setCell (by exact Nat.le_refl _) _).setCell (by exact Nat.le_refl _) _).setCell (by exact Nat.le_refl _) _).setCell (by exact Nat.le_refl _) _).setCell (by exact Nat.le_refl _) _).setCell (by exact Nat.le_refl _) _⟩
    | some b =>
      rcases e20 : pn (some b) with ⟨q, sA⟩
      rcases e21 : pf sA with ⟨d, sB⟩
      rcases e22 : ps sB with ⟨u, sC⟩
      have hpc : pC (some b) = (⟨(q : Int), u, d⟩, sC) := by unfold pC; simp only [e20, e21, e22]
      have hm2 := many_snoc pC j s9 l b HM.out
      rw [hpc] at hm2
      have HM2 := Lib.hid hm2
      have N20 := Lib.hid e20
      have N21 := Lib.hid e21
      have N22 := Lib.hid e22
      clear hpc hm2 HM e20 e21 e22
      go_wp2_with (first
        | (go_at_call 87; refine (HR.out.dkNumE N20.out).mono ?_; rintro e wa0 ⟨rfl, h1⟩
           have x8 := (h1.blkIn (g := w.heap.size + 1 + 1 + 1) (t := 38) (cs := itc ⟨(v1 : Int), (v2 : Int), (v3 : Int), u4, (v5 : Int), (v6 : Int), (v7 : Int), (v8 : Int), []⟩ v) (by simp)).cell 8
           have xf := (h1.blkIn (g := w.heap.size + 1 + 1 + 1) (t := 38) (cs := itc ⟨(v1 : Int), (v2 : Int), (v3 : Int), u4, (v5 : Int), (v6 : Int), (v7 : Int), (v8 : Int), []⟩ v) (by simp)).frozen 8
           simp at x8
           have HA0 := Lib.hid h1
           clear h1 HR)
        | (go_at_call 90; refine (HA0.out.dkFlagE N21.out).mono ?_; rintro e wa1 ⟨rfl, h1⟩
           have x8 := (h1.blkIn (g := w.heap.size + 1 + 1 + 1) (t := 38) (cs := itc ⟨(v1 : Int), (v2 : Int), (v3 : Int), u4, (v5 : Int), (v6 : Int), (v7 : Int), (v8 : Int), []⟩ v) (by simp)).cell 8
           have xf := (h1.blkIn (g := w.heap.size + 1 + 1 + 1) (t := 38) (cs := itc ⟨(v1 : Int), (v2 : Int), (v3 : Int), u4, (v5 : Int), (v6 : Int), (v7 : Int), (v8 : Int), []⟩ v) (by simp)).frozen 8
           simp at x8
           have HA1 := Lib.hid h1
           clear h1 HA0))
      have h1 := HA1.out.drew
      have HAd := Lib.hid h1
      clear h1 HA1
      go_region_law (first
        | (go_simp; go_at_call 88; refine (HAd.out.dkStrE N22.out).mono ?_; rintro e wc ⟨rfl, h1⟩
           have x8 := (h1.blkIn (g := w.heap.size + 1 + 1 + 1) (t := 38) (cs := itc ⟨(v1 : Int), (v2 : Int), (v3 : Int), u4, (v5 : Int), (v6 : Int), (v7 : Int), (v8 : Int), []⟩ v) (by simp)).cell 8
           have xf := (h1.blkIn (g := w.heap.size + 1 + 1 + 1) (t := 38) (cs := itc ⟨(v1 : Int), (v2 : Int), (v3 : Int), u4, (v5 : Int), (v6 : Int), (v7 : Int), (v8 : Int), []⟩ v) (by simp)).frozen 8
           simp at x8
           have HB := Lib.hid (h1.alloc (.cells #[.int .i64 (q : Int), .string u, .bool d] 24))
           have hbl := Blk.new wc 24 #[.int .i64 (q : Int), .string u, .bool d]
           have x9 := (HB.out.blkIn (g := w.heap.size + 1 + 1 + 1) (t := 38) (cs := itc ⟨(v1 : Int), (v2 : Int), (v3 : Int), u4, (v5 : Int), (v6 : Int), (v7 : Int), (v8 : Int), []⟩ v) (by simp)).cell 8
           simp at x9
           clear h1 HAd)
        | (refine step_appI rfl _ _ rfl v l (by first | rfl | assumption) (HB.out.perm (List.perm_middle (l₁ := [_, _]))).rowOf wc.heap.size 1 ⟨(q : Int), u, d⟩ (by first | rfl | (simp; rfl)) hbl (by omega) ?_; intro v5 w5 hr5 hg5 hob5 hf5; obtain ⟨A5, n5, c5, rfl⟩ := hf5
           have h6 := ((HB.out.perm (List.perm_middle (l₁ := [_, _]))).rowTurn hr5 hg5 hob5).perm (List.perm_middle (l₁ := [_, _])).symm
           have x8 := (h6.blkIn (g := w.heap.size + 1 + 1 + 1) (t := 38) (cs := itc ⟨(v1 : Int), (v2 : Int), (v3 : Int), u4, (v5 : Int), (v6 : Int), (v7 : Int), (v8 : Int), []⟩ v) (by simp)).cell 8
           have xf := (h6.blkIn (g := w.heap.size + 1 + 1 + 1) (t := 38) (cs := itc ⟨(v1 : Int), (v2 : Int), (v3 : Int), u4, (v5 : Int), (v6 : Int), (v7 : Int), (v8 : Int), []⟩ v) (by simp)).frozen 8
           simp at x8
           have h7 := (h6.swap.setBlk 8 (.slice A5 n5 c5)).swap
           have H7 := Lib.hid h7
           clear h6 h7 hr5 hg5 hob5))
      all_goals (try go_wp2_with fail)
      all_goals go_roundw
      all_goals try (case rel => exact ⟨j + 1, by omega, by omega, by go_num, l ++ [⟨(q : Int), u, d⟩], .slice A5 n5 c5, sC, HM2.out, by have := H7.out; simpa using this⟩)
      all_goals (simp [intOf]; omega)

end Go.Proofs.YthimheckmpepdaaGreatDoor
