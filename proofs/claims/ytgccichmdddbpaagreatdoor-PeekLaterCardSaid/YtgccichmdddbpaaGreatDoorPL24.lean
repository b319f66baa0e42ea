/-
  Layer 5: stamps in blocks: how they are kept, and handed back.
  Layer 5, the code that landed: cmp's functions, compare.
  Layer 5, the code that landed: compare.
  Layer 5, the code: Check, Less, Next, Prev, Later.
  Layer 5, the document's answers: Check, Less, Two, Next, Prev, Later.
  Layer 5, the document's answer: Max.
  Layer 5, the code that landed: Max.
-/
import Derived.Test.YtgccichmdddbpaaGreatDoorPL18
import Derived.Handy
import Derived.Deep.RegionWith
import Derived.Deep.RegionHeld3
set_option linter.unusedVariables false
namespace Go.Proofs.YtgccichmdddbpaaGreatDoor
open Go.RowKit

/-- A block that holds a stamp. -/
def Box (w : World) (g : Nat) (a b : Int) : Prop := w.heap[g]? = some (.cells #[.int .i64 a, .int .i64 b] 26 (0, 0))
section
variable {w w' : World} {g g' : Nat} {a b c d : Int}
theorem Box.lt (h : Box w g a b) : g < w.heap.size := by
  rcases Nat.lt_or_ge g w.heap.size with h0 | h0
  · exact h0
  · unfold Box at h
    rw [Array.getElem?_eq_none h0] at h
    cases h
theorem Box.c0 (h : Box w g a b) : w.cell? ⟨g, 0, none⟩ = some (.int .i64 a) := cell_of_row w g 0 #[.int .i64 a, .int .i64 b] 26 (0, 0) h
theorem Box.c1 (h : Box w g a b) : w.cell? ⟨g, 1, none⟩ = some (.int .i64 b) := cell_of_row w g 1 #[.int .i64 a, .int .i64 b] 26 (0, 0) h
theorem Box.fz (h : Box w g a b) (i : Nat) : w.frozen? ⟨g, i, none⟩ = false := by
  unfold Box at h
  simp [World.frozen?, h]
theorem Box.new (w : World) (a b : Int) : Box (w.alloc (.cells #[.int .i64 a, .int .i64 b] 26)) w.heap.size a b := heap_alloc_new w _
theorem Box.new' (w : World) (a b : Int) (h : g = w.heap.size) : Box (w.alloc (.cells #[.int .i64 a, .int .i64 b] 26)) g a b := h ▸ Box.new w a b
theorem Box.keep (h : Box w g a b) (hb : Below w.heap.size w w') : Box w' g a b := (hb.block g h.lt).trans h
theorem Box.alloc (h : Box w g a b) (o : Obj) : Box (w.alloc o) g a b := h.keep ((Below.refl _ _).alloc (Nat.le_refl _) _)
theorem Box.put0 (h : Box w g a b) (x : Int) : Box (w.setCell ⟨g, 0, none⟩ (.int .i64 x)) g x b := by
  unfold Box at *
  simp [World.setCell, Array.getElem?_modify, h]
theorem Box.put1 (h : Box w g a b) (x : Int) : Box (w.setCell ⟨g, 1, none⟩ (.int .i64 x)) g a x := by
  unfold Box at *
  simp [World.setCell, Array.getElem?_modify, h]
theorem Box.far (h : Box w g a b) (hg : g ≠ g') (i : Nat) (u : Value) : Box (w.setCell ⟨g', i, none⟩ u) g a b := by
  unfold Box at *
  simp only [World.setCell, Array.getElem?_modify]
  rw [if_neg (fun e => hg e.symm)]
  exact h
end

theorem ret_one {fn : Func} {R : Ending → World → Prop} {a : Act} {w : World} {p : Tmp} {g : Nat} {x y : Int} (hr : fn.results = #[.cell p 26]) (hp : a.tmps.getD p undef = .pointer (some ⟨g, 0, none⟩))
    (hB : Box w g x y) (hd : a.defers = []) (hR : R (.returned (sv x y)) w) : bodyPost Tryz.prog fn R .ret a w := by
  refine bodyPost_ret ?_ hd hR
  have hp' : a.tmps[p]?.getD undef = .pointer (some ⟨g, 0, none⟩) := by simpa using hp
  simp [results, hr, hp', asAddr, run_loadVar_row w g 26 26 _ (0, 0) _ hB Tryz.underlying26 rfl (by kernel_rfl)]
/-- Two stamps in the first two blocks of a call. -/
abbrev SS (w : World) (a b c d : Int) (V : World) : Prop :=
  V.cell? ⟨w.heap.size, 0, none⟩ = some (.int .i64 a) ∧ V.cell? ⟨w.heap.size, 1, none⟩ = some (.int .i64 b) ∧ V.cell? ⟨w.heap.size + 1, 0, none⟩ = some (.int .i64 c) ∧ V.cell? ⟨w.heap.size + 1, 1, none⟩ = some (.int .i64 d) ∧ Below w.heap.size w V
theorem SS.keep {w V V' : World} {a b c d : Int} (h : SS w a b c d V) (hb : Below V.heap.size V V') : SS w a b c d V' :=
  ⟨(hb.cell (World.block_lt_of_cell? V _ h.1)).trans h.1, (hb.cell (World.block_lt_of_cell? V _ h.2.1)).trans h.2.1, (hb.cell (World.block_lt_of_cell? V _ h.2.2.1)).trans h.2.2.1,
    (hb.cell (World.block_lt_of_cell? V _ h.2.2.2.1)).trans h.2.2.2.1, h.2.2.2.2.trans (hb.mono h.2.2.2.2.size)⟩
theorem SS.drew {w V : World} {a b c d : Int} (h : SS w a b c d V) : SS w a b c d V.drew := ⟨h.1, h.2.1, h.2.2.1, h.2.2.2.1, h.2.2.2.2.drew⟩
theorem SS.new (w : World) (a b c d : Int) : SS w a b c d ((w.alloc (.cells #[.int .i64 a, .int .i64 b] 26)).alloc (.cells #[.int .i64 c, .int .i64 d] 26)) := by
  have hA := (Box.new w a b).alloc (.cells #[.int .i64 c, .int .i64 d] 26)
  have hB := Box.new' (g := w.heap.size + 1) (w.alloc (.cells #[.int .i64 a, .int .i64 b] 26)) c d (by simp)
  exact ⟨hA.c0, hA.c1, hB.c0, hB.c1, ((Below.refl w.heap.size w).alloc (Nat.le_refl _) _).alloc (by simp) _⟩
/-- A contract that keeps them. -/
theorem SS.call {w V : World} {a b c d : Int} {f : FuncId} {args : Array Value} {v : Value} (h : SS w a b c d V) (hc : Calls Tryz.prog f args V fun e V' => e = .returned v ∧ Below V.heap.size V V') :
    Calls Tryz.prog f args V fun e V' => e = .returned v ∧ SS w a b c d V' := hc.mono fun _ _ hh => ⟨hh.1, h.keep hh.2⟩

end Go.Proofs.YtgccichmdddbpaaGreatDoor
set_option linter.unusedVariables false
namespace Go.Proofs.YtgccichmdddbpaaGreatDoor
open Go.RowKit

/-- What cmp.Compare tells; what compare tells of two stamps. -/
def cpi (a b : Int) : Int := if a < b then -1 else if b < a then 1 else 0
def cpS (x y : Int × Int) : Int := if cpi x.1 y.1 = 0 then cpi x.2 y.2 else cpi x.1 y.1
theorem cpi_lt (a b : Int) : cpi a b < 0 ↔ a < b := by unfold cpi; (repeat' split) <;> omega
theorem cpi_gt (a b : Int) : 0 < cpi a b ↔ b < a := by unfold cpi; (repeat' split) <;> omega
theorem cpi_eq (a b : Int) : cpi a b = 0 ↔ a = b := by unfold cpi; (repeat' split) <;> omega
theorem cpS_lt (x y : Int × Int) : cpS x y < 0 ↔ lt x y = true := by
  have := cpi_lt x.1 y.1; have := cpi_lt x.2 y.2; have := cpi_eq x.1 y.1; have := cpi_gt x.1 y.1
  rw [lt_iff]; unfold cpS; split <;> omega
theorem cpS_gt (x y : Int × Int) : 0 < cpS x y ↔ lt y x = true := by
  have := cpi_lt x.1 y.1; have := cpi_gt x.2 y.2; have := cpi_eq x.1 y.1; have := cpi_gt x.1 y.1
  rw [lt_iff]; unfold cpS; split <;> omega

theorem nan_c (a : Int) (w : World) : Calls Tryz.prog 168 #[.int .i64 a] w fun e w' => e = .returned (.bool false) ∧ w' = w := by
  have q : (a != a) = false := by simp
  go_enter Tryz.func168, Tryz.ntmps168
  go_wp2
  go_ret
  exact ⟨rfl, rfl⟩

theorem cmp_c (a b : Int) (w : World) : Calls Tryz.prog 118 #[.int .i64 a, .int .i64 b] w fun e w' => e = .returned (.int .i64 (cpi a b)) ∧ w' = w := by
  go_enter Tryz.func118, Tryz.ntmps118
  go_wp2_with (go_at_call 168; refine (nan_c _ _).mono ?_; rintro e w' ⟨rfl, rfl⟩)
  all_goals go_ret
  all_goals refine ⟨congrArg (fun v => Ending.returned (Value.int .i64 v)) ?_, rfl⟩
  all_goals (unfold cpi; (repeat' split) <;> omega)

theorem or_c (b o c : Nat) (u v : Int) (w : World) (h0 : w.cell? ⟨b, o, none⟩ = some (.int .i64 u)) (h1 : w.cell? ⟨b, o + 1, none⟩ = some (.int .i64 v)) :
    Calls Tryz.prog 117 #[.slice (some ⟨b, o, none⟩) 2 c] w fun e w' => e = .returned (.int .i64 (if u = 0 then v else u)) ∧ w' = w := by
  by_cases hu : u = 0
  · subst hu
    by_cases hv : v = 0
    · subst hv
      go_enter Tryz.func117, Tryz.ntmps117
      go_wp2
      go_loop [8] (fun i => ∃ k : Nat, k ≤ 2 ∧ i = .int .i64 k) (fun i => 2 - (intOf i).toNat)
      case atStart => exact ⟨0, by omega, rfl⟩
      case round =>
        obtain ⟨k, hk, rfl⟩ := hrel
        by_cases hlt : k < 2
        · have hc : w.cell? ⟨b, o + k, none⟩ = some (.int .i64 0) := by
            rcases (show k = 0 ∨ k = 1 by omega) with rfl | rfl
            · exact h0
            · exact h1
          go_wp2
          all_goals
            go_round
            case rel => exact ⟨k + 1, by omega, by go_num⟩
            case measure => simp [intOf]; omega
        · go_wp2
          go_ret
          exact ⟨rfl, rfl⟩
    · have hv' : (v != 0) = true := by simpa using hv
      go_enter Tryz.func117, Tryz.ntmps117
      go_wp2
      go_loop [8] (fun i => ∃ k : Nat, k ≤ 1 ∧ i = .int .i64 k) (fun i => 2 - (intOf i).toNat)
      case atStart => exact ⟨0, by omega, rfl⟩
      case round =>
        obtain ⟨k, hk, rfl⟩ := hrel
        rcases (show k = 0 ∨ k = 1 by omega) with rfl | rfl
        · go_wp2
          go_round
          case rel => exact ⟨1, by omega, by go_num⟩
          case measure => simp [intOf]
        · go_wp2
          go_ret
          exact ⟨rfl, rfl⟩
  · have hu' : (u != 0) = true := by simpa using hu
    go_enter Tryz.func117, Tryz.ntmps117
    go_wp2
    go_loop [8] (fun i => i = .int .i64 0) (fun i => 2 - (intOf i).toNat)
    case atStart => rfl
    case round =>
      obtain rfl := hrel
      go_wp2
      go_ret
      exact ⟨rfl, rfl⟩
end Go.Proofs.YtgccichmdddbpaaGreatDoor
set_option linter.unusedVariables false
namespace Go.Proofs.YtgccichmdddbpaaGreatDoor
open Go.RowKit

theorem pair_cells (V : World) (u v : Int) (t : TypeId) (k : World) (hk : k = V.alloc (.cells #[.int .i64 u, .int .i64 v] t)) :
    k.cell? ⟨V.heap.size, 0, none⟩ = some (.int .i64 u) ∧ k.cell? ⟨V.heap.size, 0 + 1, none⟩ = some (.int .i64 v) := by
  subst hk
  have hC := heap_alloc_new V (.cells #[.int .i64 u, .int .i64 v] t)
  exact ⟨cell_of_row _ _ 0 _ _ (0, 0) hC, cell_of_row _ _ 1 _ _ (0, 0) hC⟩

set_option maxHeartbeats 2000000 in
theorem compare_c (a b c d : Int) (w : World) :
    Calls Tryz.prog 67 #[sv a b, sv c d] w fun e w' => e = .returned (.int .i64 (cpS (a, b) (c, d))) ∧ Below w.heap.size w w' := by
  have K1 := Lib.hid (fun (x y : Int) V => cmp_c x y V)
  go_enter Tryz.func67, Tryz.ntmps67
  go_wp2_with fail
  have hS0 := SS.new w a b c d
  obtain ⟨i1, i2, i3, i4, hB0⟩ := id hS0
  have hSd := hS0.drew
  have hSx := (hS0.keep ((Below.refl _ _).alloc (Nat.le_refl _) (.cells #[.int .i64 (cpi a c), .int .i64 (cpi b d)] 3))).drew
  have hp := pair_cells ((w.alloc (.cells #[.int .i64 a, .int .i64 b] 26)).alloc (.cells #[.int .i64 c, .int .i64 d] 26)) (cpi a c) (cpi b d) 3 _ rfl
  rw [World.size_alloc, World.size_alloc] at hp
  have hO := Lib.hid (show Calls Tryz.prog 117 #[.slice (some ⟨w.heap.size + 1 + 1, 0, none⟩) 2 2] (World.drew (((w.alloc (.cells #[.int .i64 a, .int .i64 b] 26)).alloc (.cells #[.int .i64 c, .int .i64 d] 26)).alloc (.cells #[.int .i64 (cpi a c), .int .i64 (cpi b d)] 3)))
      (fun e w' => e = .returned (.int .i64 (cpS (a, b) (c, d))) ∧ w' = World.drew (((w.alloc (.cells #[.int .i64 a, .int .i64 b] 26)).alloc (.cells #[.int .i64 c, .int .i64 d] 26)).alloc (.cells #[.int .i64 (cpi a c), .int .i64 (cpi b d)] 3)))
    from or_c (w.heap.size + 1 + 1) 0 2 (cpi a c) (cpi b d) _ hp.1 hp.2)
  clear hp
  go_region_held3 (fun V => V.cell? ⟨w.heap.size, 0, none⟩ = some (.int .i64 a) ∧ V.cell? ⟨w.heap.size, 1, none⟩ = some (.int .i64 b) ∧ V.cell? ⟨w.heap.size + 1, 0, none⟩ = some (.int .i64 c) ∧ V.cell? ⟨w.heap.size + 1, 1, none⟩ = some (.int .i64 d) ∧ Below w.heap.size w V)
    (first | with_reducible assumption | with_reducible exact hS0 | with_reducible exact hSd | with_reducible exact hSx)
    (first
      | (go_at_call 118; refine (K1.out _ _ _).mono ?_; rintro e wx ⟨rfl, rfl⟩)
      | (go_at_call 117; refine hO.out.mono ?_; rintro e wx ⟨rfl, rfl⟩))
  all_goals go_wp2
  all_goals go_ret
  all_goals exact ⟨rfl, hSx.2.2.2.2⟩
end Go.Proofs.YtgccichmdddbpaaGreatDoor
set_option linter.unusedVariables false
namespace Go.Proofs.YtgccichmdddbpaaGreatDoor
open Go.RowKit

theorem check_c (a b : Int) (w : World) :
    Calls Tryz.prog 23 #[sv a b] w fun e w' => e = .returned (.int .i64 (ck a b)) ∧ Below w.heap.size w w' := by
  go_enter Tryz.func23, Tryz.ntmps23
  go_wp2
  all_goals go_ret
  all_goals refine ⟨congrArg (fun v => Ending.returned (Value.int .i64 v)) ?_, (Below.refl _ _).alloc (Nat.le_refl _) _⟩
  all_goals unfold ck
  all_goals first | (rw [if_pos (may_iff.2 (by omega))]) | (rw [if_neg (by rw [may_iff]; omega)])

theorem less_c (a b c d : Int) (w : World) :
    Calls Tryz.prog 22 #[sv a b, sv c d] w fun e w' => e = .returned (.bool (lt (a, b) (c, d))) ∧ Below w.heap.size w w' := by
  have hS0 := SS.new w a b c d
  obtain ⟨i1, i2, i3, i4, hB0⟩ := id hS0
  have hq := cpS_lt (a, b) (c, d)
  generalize hl : lt (a, b) (c, d) = l at hq ⊢
  have C1 := Lib.hid (compare_c a b c d)
  obtain ⟨k, hk⟩ : ∃ k, k = cpS (a, b) (c, d) := ⟨_, rfl⟩
  rw [← hk] at C1 hq
  clear hl hk
  have hd : decide (k < 0) = l := by cases l <;> simp [hq]
  go_enter Tryz.func22, Tryz.ntmps22
  go_wp2_with fail
  refine (C1.out _).mono ?_
  rintro e w1 ⟨rfl, hb1⟩
  have hB1 := hB0.trans (hb1.mono hB0.size)
  go_wp2
  go_ret
  exact ⟨rfl, hB1⟩

theorem check_ok : CheckOk := check_c
end Go.Proofs.YtgccichmdddbpaaGreatDoor
set_option linter.unusedVariables false
namespace Go.Proofs.YtgccichmdddbpaaGreatDoor
open Go.RowKit

theorem refCheck5 (a b : Int) (w : World) :
    Calls Tryz.prog 50 #[sv a b] w fun e w' => e = .returned (.int .i64 (ck a b)) ∧ Below w.heap.size w w' := by
  go_enter Tryz.func50, Tryz.ntmps50
  go_wp2
  all_goals go_ret
  all_goals refine ⟨congrArg (fun v => Ending.returned (Value.int .i64 v)) ?_, (Below.refl _ _).alloc (Nat.le_refl _) _⟩
  all_goals unfold ck
  all_goals first | (rw [if_pos (may_iff.2 (by omega))]) | (rw [if_neg (by rw [may_iff]; omega)])

end Go.Proofs.YtgccichmdddbpaaGreatDoor
set_option linter.unusedVariables false
namespace Go.Proofs.YtgccichmdddbpaaGreatDoor
open Go.RowKit

theorem mx_take_succ (l : List (Int × Int)) (k : Nat) (h0 : 0 < k) (h : k < l.length) : mx (l.take (k + 1)) = two (mx (l.take k)) l[k] := by
  have hne : l.take k ≠ [] := by
    intro h1
    have := congrArg List.length h1
    rw [List.length_take, List.length_nil] at this
    omega
  rw [List.take_succ_eq_append_getElem h, mx_snoc _ hne]

/-- One stamp in a block, another one in a list. -/
abbrev SE (w : World) (g b o : Nat) (m1 m2 e1 e2 : Int) (V : World) : Prop :=
  V.cell? ⟨g, 0, none⟩ = some (.int .i64 m1) ∧ V.cell? ⟨g, 1, none⟩ = some (.int .i64 m2) ∧ V.cell? ⟨b, o, none⟩ = some (.int .i64 e1) ∧ V.cell? ⟨b, o + 1, none⟩ = some (.int .i64 e2) ∧ Below w.heap.size w V
theorem SE.keep {w V V' : World} {g b o : Nat} {m1 m2 e1 e2 : Int} (h : SE w g b o m1 m2 e1 e2 V) (hb : Below V.heap.size V V') : SE w g b o m1 m2 e1 e2 V' :=
  ⟨(hb.cell (World.block_lt_of_cell? V _ h.1)).trans h.1, (hb.cell (World.block_lt_of_cell? V _ h.2.1)).trans h.2.1, (hb.cell (World.block_lt_of_cell? V _ h.2.2.1)).trans h.2.2.1,
    (hb.cell (World.block_lt_of_cell? V _ h.2.2.2.1)).trans h.2.2.2.1, h.2.2.2.2.trans (hb.mono h.2.2.2.2.size)⟩
theorem SE.drew {w V : World} {g b o : Nat} {m1 m2 e1 e2 : Int} (h : SE w g b o m1 m2 e1 e2 V) : SE w g b o m1 m2 e1 e2 V.drew := ⟨h.1, h.2.1, h.2.2.1, h.2.2.2.1, h.2.2.2.2.drew⟩
theorem SE.call {w V : World} {g b o : Nat} {m1 m2 e1 e2 : Int} {f : FuncId} {args : Array Value} {v : Value} (k : SE w g b o m1 m2 e1 e2 V) (hc : Calls Tryz.prog f args V fun e V' => e = .returned v ∧ Below V.heap.size V V') :
    Calls Tryz.prog f args V fun e V' => e = .returned v ∧ SE w g b o m1 m2 e1 e2 V' ∧ Below V.heap.size V V' := hc.mono fun _ _ hh => ⟨hh.1, k.keep hh.2, hh.2⟩

end Go.Proofs.YtgccichmdddbpaaGreatDoor
set_option linter.unusedVariables false
namespace Go.Proofs.YtgccichmdddbpaaGreatDoor
open Go.RowKit

set_option maxHeartbeats 2000000 in
theorem maxFunc_c (A : Option Addr) (n c : Nat) (l : List (Int × Int)) (w : World) (hx : Stamps w A n l) (hn : n ≤ 9223372036854775807) (h0 : 0 < n) :
    Calls Tryz.prog 120 #[.slice A n c, .func (.func 67) #[] #[]] w fun e w' => e = .returned (sv (mx l).1 (mx l).2) ∧ Below w.heap.size w w' := by
  have HL := Lib.hid hx.1
  obtain ⟨b, o, rfl, hc⟩ := hx.2 (by omega)
  have hc0 := hc 0 (by rw [HL.out]; omega)
  obtain ⟨y1, hy1⟩ : ∃ y, y = (l[0]'(by rw [HL.out]; omega)).1 := ⟨_, rfl⟩
  obtain ⟨y2, hy2⟩ : ∃ y, y = (l[0]'(by rw [HL.out]; omega)).2 := ⟨_, rfl⟩
  rw [← hy1, ← hy2, Nat.zero_mul, Nat.add_zero] at hc0
  obtain ⟨i1, i2⟩ := hc0
  have HM0 := Lib.hid (show mx (l.take 1) = (y1, y2) by
    cases l with
    | nil => exact absurd HL.out (by simp; omega)
    | cons y t => rw [hy1, hy2]; rfl)
  have HC := Lib.hid hc
  clear hc hx hy1 hy2
  have hb := (Below.refl w.heap.size w).alloc (Nat.le_refl _) (.cells #[.int .i64 0, .int .i64 0] 26)
  have j1 := (World.cell?_alloc_lt w (.cells #[.int .i64 0, .int .i64 0] 26) _ (World.block_lt_of_cell? w _ i1)).trans i1
  have j2 := (World.cell?_alloc_lt w (.cells #[.int .i64 0, .int .i64 0] 26) _ (World.block_lt_of_cell? w _ i2)).trans i2
  have hR := Box.new w 0 0
  go_enter Tryz.func120, Tryz.ntmps120
  go_wp2_with fail
  have hB1 := hb.alloc (by simp) (.cells #[.int .i64 y1, .int .i64 y2] 26)
  have hO := Box.new' (g := w.heap.size + 1) (w.alloc (.cells #[.int .i64 0, .int .i64 0] 26)) y1 y2 (by simp)
  have hR1 := hR.alloc (.cells #[.int .i64 y1, .int .i64 y2] 26)
  clear i1 i2 j1 j2 hb hR
  go_loopw [6] (fun i wr => ∃ (k : Nat) (m1 m2 : Int), 1 ≤ k ∧ k ≤ n ∧ i = .int .i64 k ∧ Hid (mx (l.take k) = (m1, m2)) ∧ Box wr (w.heap.size + 1) m1 m2 ∧ Box wr w.heap.size 0 0 ∧ Below w.heap.size w wr) (fun i _ => n - (intOf i).toNat)
  case atStart => exact ⟨1, _, _, Nat.le_refl _, h0, rfl, HM0, hO, hR1, hB1⟩
  case round =>
    obtain ⟨k, m1, m2, hk1, hkn, rfl, HM, hOr, hRr, hBr⟩ := hrel
    have o0 := hOr.c0
    have o1 := hOr.c1
    have r0 := hRr.c0
    have r1 := hRr.c1
    have f0 := hRr.fz 0
    have f1 := hRr.fz 1
    by_cases hlt : k < n
    · have hkl : k < l.length := by rw [HL.out]; exact hlt
      obtain ⟨e1, e2⟩ := HC.out k hkl
      obtain ⟨u1, hu1⟩ : ∃ y, y = l[k].1 := ⟨_, rfl⟩
      obtain ⟨u2, hu2⟩ : ∃ y, y = l[k].2 := ⟨_, rfl⟩
      rw [← hu1] at e1
      rw [← hu2] at e2
      have e1' := (hBr.cell (World.block_lt_of_cell? w _ e1)).trans e1
      have e2' := (hBr.cell (World.block_lt_of_cell? w _ e2)).trans e2
      have hnx : mx (l.take (k + 1)) = two (m1, m2) (u1, u2) := by rw [mx_take_succ l k (by omega) hkl, HM.out, hu1, hu2]
      have HNX := Lib.hid hnx
      have hS0 : SE w (w.heap.size + 1) b (o + k * 2) m1 m2 u1 u2 wr := ⟨o0, o1, e1', e2', hBr⟩
      have hSd := hS0.drew
      have hOd : Box wr.drew (w.heap.size + 1) m1 m2 := hOr
      have hRd : Box wr.drew w.heap.size 0 0 := hRr
      have hgt := cpS_gt (u1, u2) (m1, m2)
      have C1 := Lib.hid (fun V => compare_c u1 u2 m1 m2 V)
      obtain ⟨q, hq⟩ : ∃ q, q = cpS (u1, u2) (m1, m2) := ⟨_, rfl⟩
      rw [← hq] at C1 hgt
      clear hu1 hu2 hnx e1 e2 hB1 hO hR1 hq
      cases hl : lt (m1, m2) (u1, u2) with
      | true =>
        have hq0 : 0 < q := hgt.2 hl
        have HT := Lib.hid (show mx (l.take (k + 1)) = (u1, u2) by rw [HNX.out]; unfold two; rw [if_pos hl])
        clear hgt hl HNX
        go_wp2_with fail
        go_region_with (first | (go_at_call 67; refine (SE.call (by first | assumption | exact hS0 | exact hSd) (C1.out _)).mono ?_; rintro e w2 ⟨rfl, hS2, hb2⟩; have hO2 := hOd.keep hb2; have hR2 := hRd.keep hb2; have g0 := hO2.c0; have g1 := hO2.c1; have g2 := hO2.fz 0; have g3 := hO2.fz 1))
        all_goals (clear hS0 hSd hOd hRd hb2; obtain ⟨s1, s2, s3, s4, s5⟩ := hS2; go_wp2)
        all_goals
          go_roundw
          case rel => exact ⟨k + 1, _, _, by omega, by omega, by go_num, Lib.hid HT.out, (hO2.put0 _).put1 _, (hR2.far (by omega) _ _).far (by omega) _ _, (s5.setCell (by simp) _).setCell (by simp) _⟩
          case measure => simp [intOf]; omega
      | false =>
        have hq0 : ¬ 0 < q := fun h => by rw [hgt.1 h] at hl; cases hl
        have HT := Lib.hid (show mx (l.take (k + 1)) = (m1, m2) by rw [HNX.out]; unfold two; rw [if_neg (by rw [hl]; simp)])
        clear hgt hl HNX
        go_wp2_with fail
        go_region_with (first | (go_at_call 67; refine (SE.call (by first | assumption | exact hS0 | exact hSd) (C1.out _)).mono ?_; rintro e w2 ⟨rfl, hS2, hb2⟩; have hO2 := hOd.keep hb2; have hR2 := hRd.keep hb2; have g0 := hO2.c0; have g1 := hO2.c1; have g2 := hO2.fz 0; have g3 := hO2.fz 1))
        all_goals (clear hS0 hSd hOd hRd hb2; obtain ⟨s1, s2, s3, s4, s5⟩ := hS2; go_wp2)
        all_goals
          go_roundw
          case rel => exact ⟨k + 1, _, _, by omega, by omega, by go_num, Lib.hid HT.out, hO2, hR2, s5⟩
          case measure => simp [intOf]; omega
    · have hkn' : n ≤ k := by omega
      have htk : l.take k = l := by rw [List.take_of_length_le (by rw [HL.out]; exact hkn')]
      have HMX := Lib.hid (show mx l = (m1, m2) by rw [← htk]; exact HM.out)
      clear htk hB1 hO hR1
      go_wp2
      exact ret_one rfl rfl ((hRr.put0 _).put1 _) rfl ⟨by rw [HMX.out], (hBr.setCell (by simp) _).setCell (by simp) _⟩

theorem max_c (A : Option Addr) (n c : Nat) (l : List (Int × Int)) (w : World) (hx : Stamps w A n l) (hn : n ≤ 9223372036854775807) :
    Calls Tryz.prog 71 #[.slice A n c] w fun e w' => e = .returned (sv (mx l).1 (mx l).2) ∧ Below w.heap.size w w' := by
  have HL := Lib.hid hx.1
  have hR := Box.new w 0 0
  have hb := (Below.refl w.heap.size w).alloc (Nat.le_refl _) (.cells #[.int .i64 0, .int .i64 0] 26)
  have r0 := hR.c0
  have r1 := hR.c1
  have f0 := hR.fz 0
  have f1 := hR.fz 1
  by_cases h0 : n = 0
  · subst h0
    obtain rfl : l = [] := List.eq_nil_of_length_eq_zero HL.out
    go_enter Tryz.func71, Tryz.ntmps71
    go_wp2_with fail
    exact ret_one rfl rfl hR rfl ⟨rfl, hb⟩
  · have hn00 : ((n : Int) == 0) = false := by simp; omega
    have C1 := Lib.hid (fun V (h : Stamps V A n l) => maxFunc_c A n c l V h hn (by omega))
    have hx1 := hx.below' ((Below.refl _ _).alloc (Nat.le_refl _) (.cells #[.int .i64 0, .int .i64 0] 26))
    generalize mx l = m at C1 ⊢
    obtain ⟨m1, m2⟩ := m
    clear hx
    go_enter Tryz.func71, Tryz.ntmps71
    go_wp2_with fail
    refine (C1.out _ hx1).mono ?_
    rintro e w2 ⟨rfl, hb2⟩
    have hR2 := hR.keep hb2
    have hB2 := hb.trans (hb2.mono hb.size)
    have g0 := hR2.c0
    have g1 := hR2.c1
    have g2 := hR2.fz 0
    have g3 := hR2.fz 1
    clear r0 r1 f0 f1 hR hb hb2
    go_wp2
    exact ret_one rfl rfl ((hR2.put0 _).put1 _) rfl ⟨rfl, (hB2.setCell (by simp) _).setCell (by simp) _⟩
end Go.Proofs.YtgccichmdddbpaaGreatDoor
