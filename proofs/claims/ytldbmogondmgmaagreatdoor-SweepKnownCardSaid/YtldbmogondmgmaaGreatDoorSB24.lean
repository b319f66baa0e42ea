/-
  Layer 5: stamps in blocks: how they are kept, and handed back.
  Layer 5, the code that landed: cmp's functions, compare.
  Layer 5, the code that landed: compare.
  Layer 5, the code: Check, Less, Next, Prev, Later.
  Layer 5, the document's answers: Check, Less, Two, Next, Prev, Later.
-/
import Derived.Test.YtldbmogondmgmaaGreatDoorSB18
import Derived.Handy
import Derived.Deep.RegionWith
import Derived.Deep.RegionHeld3
set_option linter.unusedVariables false
namespace Go.Proofs.YtldbmogondmgmaaGreatDoor
open Go.RowKit

/-- A block that holds a stamp. -/
def Box (w : World) (g : Nat) (a b : Int) : Prop := w.heap[g]? = some (.cells #[.int .i64 a, .int .i64 b] 26 (0, 0))
section
variable {w w' : World} {g g' : Nat} {a b c d : Int}
theorem Box.lt (h : Box w g a b) : g < w.heap.size := by
  rcases Nat.lt_or_ge g w.heap.size with h0 | h0
  · exact h0
  · unfold Box at h
    rw [Array.getElem?_eq_none h0] at h
    cases h
theorem Box.c0 (h : Box w g a b) : w.cell? ⟨g, 0, none⟩ = some (.int .i64 a) := cell_of_row w g 0 #[.int .i64 a, .int .i64 b] 26 (0, 0) h
theorem Box.c1 (h : Box w g a b) : w.cell? ⟨g, 1, none⟩ = some (.int .i64 b) := cell_of_row w g 1 #[.int .i64 a, .int .i64 b] 26 (0, 0) h
theorem Box.new (w : World) (a b : Int) : Box (w.alloc (.cells #[.int .i64 a, .int .i64 b] 26)) w.heap.size a b := heap_alloc_new w _
theorem Box.new' (w : World) (a b : Int) (h : g = w.heap.size) : Box (w.alloc (.cells #[.int .i64 a, .int .i64 b] 26)) g a b := h ▸ Box.new w a b
theorem Box.keep (h : Box w g a b) (hb : Below w.heap.size w w') : Box w' g a b := (hb.block g h.lt).trans h
theorem Box.alloc (h : Box w g a b) (o : Obj) : Box (w.alloc o) g a b := h.keep ((Below.refl _ _).alloc (Nat.le_refl _) _)
theorem Box.far (h : Box w g a b) (hg : g ≠ g') (i : Nat) (u : Value) : Box (w.setCell ⟨g', i, none⟩ u) g a b := by
  unfold Box at *
  simp only [World.setCell, Array.getElem?_modify]
  rw [if_neg (fun e => hg e.symm)]
  exact h
end

theorem ret_one {fn : Func} {R : Ending → World → Prop} {a : Act} {w : World} {p : Tmp} {g : Nat} {x y : Int} (hr : fn.results = #[.cell p 26]) (hp : a.tmps.getD p undef = .pointer (some ⟨g, 0, none⟩))
    (hB : Box w g x y) (hd : a.defers = []) (hR : R (.returned (sv x y)) w) : bodyPost Tryz.prog fn R .ret a w := by
  refine bodyPost_ret ?_ hd hR
  have hp' : a.tmps[p]?.getD undef = .pointer (some ⟨g, 0, none⟩) := by simpa using hp
  simp [results, hr, hp', asAddr, run_loadVar_row w g 26 26 _ (0, 0) _ hB Tryz.underlying26 rfl (by kernel_rfl)]
/-- Two stamps in the first two blocks of a call. -/
abbrev SS (w : World) (a b c d : Int) (V : World) : Prop :=
  V.cell? ⟨w.heap.size, 0, none⟩ = some (.int .i64 a) ∧ V.cell? ⟨w.heap.size, 1, none⟩ = some (.int .i64 b) ∧ V.cell? ⟨w.heap.size + 1, 0, none⟩ = some (.int .i64 c) ∧ V.cell? ⟨w.heap.size + 1, 1, none⟩ = some (.int .i64 d) ∧ Below w.heap.size w V
theorem SS.keep {w V V' : World} {a b c d : Int} (h : SS w a b c d V) (hb : Below V.heap.size V V') : SS w a b c d V' :=
  ⟨(hb.cell (World.block_lt_of_cell? V _ h.1)).trans h.1, (hb.cell (World.block_lt_of_cell? V _ h.2.1)).trans h.2.1, (hb.cell (World.block_lt_of_cell? V _ h.2.2.1)).trans h.2.2.1,
    (hb.cell (World.block_lt_of_cell? V _ h.2.2.2.1)).trans h.2.2.2.1, h.2.2.2.2.trans (hb.mono h.2.2.2.2.size)⟩
theorem SS.drew {w V : World} {a b c d : Int} (h : SS w a b c d V) : SS w a b c d V.drew := ⟨h.1, h.2.1, h.2.2.1, h.2.2.2.1, h.2.2.2.2.drew⟩
theorem SS.new (w : World) (a b c d : Int) : SS w a b c d ((w.alloc (.cells #[.int .i64 a, .int .i64 b] 26)).alloc (.cells #[.int .i64 c, .int .i64 d] 26)) := by
  have hA := (Box.new w a b).alloc (.cells #[.int .i64 c, .int .i64 d] 26)
  have hB := Box.new' (g := w.heap.size + 1) (w.alloc (.cells #[.int .i64 a, .int .i64 b] 26)) c d (by simp)
  exact ⟨hA.c0, hA.c1, hB.c0, hB.c1, ((Below.refl w.heap.size w).alloc (Nat.le_refl _) _).alloc (by simp) _⟩
/-- A contract that keeps them. -/
theorem SS.call {w V : World} {a b c d : Int} {f : FuncId} {args : Array Value} {v : Value} (h : SS w a b c d V) (hc : Calls Tryz.prog f args V fun e V' => e = .returned v ∧ Below V.heap.size V V') :
    Calls Tryz.prog f args V fun e V' => e = .returned v ∧ SS w a b c d V' := hc.mono fun _ _ hh => ⟨hh.1, h.keep hh.2⟩

end Go.Proofs.YtldbmogondmgmaaGreatDoor
set_option linter.unusedVariables false
namespace Go.Proofs.YtldbmogondmgmaaGreatDoor
open Go.RowKit

/-- What cmp.Compare tells; what compare tells of two stamps. -/
def cpi (a b : Int) : Int := if a < b then -1 else if b < a then 1 else 0
def cpS (x y : Int × Int) : Int := if cpi x.1 y.1 = 0 then cpi x.2 y.2 else cpi x.1 y.1
theorem cpi_lt (a b : Int) : cpi a b < 0 ↔ a < b := by unfold cpi; (repeat' split) <;> omega
theorem cpi_gt (a b : Int) : 0 < cpi a b ↔ b < a := by unfold cpi; (repeat' split) <;> omega
theorem cpi_eq (a b : Int) : cpi a b = 0 ↔ a = b := by unfold cpi; (repeat' split) <;> omega
theorem cpS_lt (x y : Int × Int) : cpS x y < 0 ↔ lt x y = true := by
  have := cpi_lt x.1 y.1; have := cpi_lt x.2 y.2; have := cpi_eq x.1 y.1; have := cpi_gt x.1 y.1
  rw [lt_iff]; unfold cpS; split <;> omega
theorem nan_c (a : Int) (w : World) : Calls Tryz.prog 172 #[.int .i64 a] w fun e w' => e = .returned (.bool false) ∧ w' = w := by
  have q : (a != a) = false := by simp
  go_enter Tryz.func172, Tryz.ntmps172
  go_wp2
  go_ret
  exact ⟨rfl, rfl⟩

theorem cmp_c (a b : Int) (w : World) : Calls Tryz.prog 106 #[.int .i64 a, .int .i64 b] w fun e w' => e = .returned (.int .i64 (cpi a b)) ∧ w' = w := by
  go_enter Tryz.func106, Tryz.ntmps106
  go_wp2_with (go_at_call 172; refine (nan_c _ _).mono ?_; rintro e w' ⟨rfl, rfl⟩)
  all_goals go_ret
  all_goals refine ⟨congrArg (fun v => Ending.returned (Value.int .i64 v)) ?_, rfl⟩
  all_goals (unfold cpi; (repeat' split) <;> omega)

theorem or_c (b o c : Nat) (u v : Int) (w : World) (h0 : w.cell? ⟨b, o, none⟩ = some (.int .i64 u)) (h1 : w.cell? ⟨b, o + 1, none⟩ = some (.int .i64 v)) :
    Calls Tryz.prog 105 #[.slice (some ⟨b, o, none⟩) 2 c] w fun e w' => e = .returned (.int .i64 (if u = 0 then v else u)) ∧ w' = w := by
  by_cases hu : u = 0
  · subst hu
    by_cases hv : v = 0
    · subst hv
      go_enter Tryz.func105, Tryz.ntmps105
      go_wp2
      go_loop [8] (fun i => ∃ k : Nat, k ≤ 2 ∧ i = .int .i64 k) (fun i => 2 - (intOf i).toNat)
      case atStart => exact ⟨0, by omega, rfl⟩
      case round =>
        obtain ⟨k, hk, rfl⟩ := hrel
        by_cases hlt : k < 2
        · have hc : w.cell? ⟨b, o + k, none⟩ = some (.int .i64 0) := by
            rcases (show k = 0 ∨ k = 1 by omega) with rfl | rfl
            · exact h0
            · exact h1
          go_wp2
          all_goals
            go_round
            case rel => exact ⟨k + 1, by omega, by go_num⟩
            case measure => simp [intOf]; omega
        · go_wp2
          go_ret
          exact ⟨rfl, rfl⟩
    · have hv' : (v != 0) = true := by simpa using hv
      go_enter Tryz.func105, Tryz.ntmps105
      go_wp2
      go_loop [8] (fun i => ∃ k : Nat, k ≤ 1 ∧ i = .int .i64 k) (fun i => 2 - (intOf i).toNat)
      case atStart => exact ⟨0, by omega, rfl⟩
      case round =>
        obtain ⟨k, hk, rfl⟩ := hrel
        rcases (show k = 0 ∨ k = 1 by omega) with rfl | rfl
        · go_wp2
          go_round
          case rel => exact ⟨1, by omega, by go_num⟩
          case measure => simp [intOf]
        · go_wp2
          go_ret
          exact ⟨rfl, rfl⟩
  · have hu' : (u != 0) = true := by simpa using hu
    go_enter Tryz.func105, Tryz.ntmps105
    go_wp2
    go_loop [8] (fun i => i = .int .i64 0) (fun i => 2 - (intOf i).toNat)
    case atStart => rfl
    case round =>
      obtain rfl := hrel
      go_wp2
      go_ret
      exact ⟨rfl, rfl⟩
end Go.Proofs.YtldbmogondmgmaaGreatDoor
set_option linter.unusedVariables false
namespace Go.Proofs.YtldbmogondmgmaaGreatDoor
open Go.RowKit

theorem pair_cells (V : World) (u v : Int) (t : TypeId) (k : World) (hk : k = V.alloc (.cells #[.int .i64 u, .int .i64 v] t)) :
    k.cell? ⟨V.heap.size, 0, none⟩ = some (.int .i64 u) ∧ k.cell? ⟨V.heap.size, 0 + 1, none⟩ = some (.int .i64 v) := by
  subst hk
  have hC := heap_alloc_new V (.cells #[.int .i64 u, .int .i64 v] t)
  exact ⟨cell_of_row _ _ 0 _ _ (0, 0) hC, cell_of_row _ _ 1 _ _ (0, 0) hC⟩

set_option maxHeartbeats 2000000 in
theorem compare_c (a b c d : Int) (w : World) :
    Calls Tryz.prog 42 #[sv a b, sv c d] w fun e w' => e = .returned (.int .i64 (cpS (a, b) (c, d))) ∧ Below w.heap.size w w' := by
  have K1 := Lib.hid (fun (x y : Int) V => cmp_c x y V)
  go_enter Tryz.func42, Tryz.ntmps42
  go_wp2_with fail
  have hS0 := SS.new w a b c d
  obtain ⟨i1, i2, i3, i4, hB0⟩ := id hS0
  have hSd := hS0.drew
  have hSx := (hS0.keep ((Below.refl _ _).alloc (Nat.le_refl _) (.cells #[.int .i64 (cpi a c), .int .i64 (cpi b d)] 3))).drew
  have hp := pair_cells ((w.alloc (.cells #[.int .i64 a, .int .i64 b] 26)).alloc (.cells #[.int .i64 c, .int .i64 d] 26)) (cpi a c) (cpi b d) 3 _ rfl
  rw [World.size_alloc, World.size_alloc] at hp
  have hO := Lib.hid (show Calls Tryz.prog 105 #[.slice (some ⟨w.heap.size + 1 + 1, 0, none⟩) 2 2] (World.drew (((w.alloc (.cells #[.int .i64 a, .int .i64 b] 26)).alloc (.cells #[.int .i64 c, .int .i64 d] 26)).alloc (.cells #[.int .i64 (cpi a c), .int .i64 (cpi b d)] 3)))
      (fun e w' => e = .returned (.int .i64 (cpS (a, b) (c, d))) ∧ w' = World.drew (((w.alloc (.cells #[.int .i64 a, .int .i64 b] 26)).alloc (.cells #[.int .i64 c, .int .i64 d] 26)).alloc (.cells #[.int .i64 (cpi a c), .int .i64 (cpi b d)] 3)))
    from or_c (w.heap.size + 1 + 1) 0 2 (cpi a c) (cpi b d) _ hp.1 hp.2)
  clear hp
  go_region_held3 (fun V => V.cell? ⟨w.heap.size, 0, none⟩ = some (.int .i64 a) ∧ V.cell? ⟨w.heap.size, 1, none⟩ = some (.int .i64 b) ∧ V.cell? ⟨w.heap.size + 1, 0, none⟩ = some (.int .i64 c) ∧ V.cell? ⟨w.heap.size + 1, 1, none⟩ = some (.int .i64 d) ∧ Below w.heap.size w V)
    (first | with_reducible assumption | with_reducible exact hS0 | with_reducible exact hSd | with_reducible exact hSx)
    (first
      | (go_at_call 106; refine (K1.out _ _ _).mono ?_; rintro e wx ⟨rfl, rfl⟩)
      | (go_at_call 105; refine hO.out.mono ?_; rintro e wx ⟨rfl, rfl⟩))
  all_goals go_wp2
  all_goals go_ret
  all_goals exact ⟨rfl, hSx.2.2.2.2⟩
end Go.Proofs.YtldbmogondmgmaaGreatDoor
set_option linter.unusedVariables false
namespace Go.Proofs.YtldbmogondmgmaaGreatDoor
open Go.RowKit

theorem check_c (a b : Int) (w : World) :
    Calls Tryz.prog 145 #[sv a b] w fun e w' => e = .returned (.int .i64 (ck a b)) ∧ Below w.heap.size w w' := by
  go_enter Tryz.func145, Tryz.ntmps145
  go_wp2
  all_goals go_ret
  all_goals refine ⟨congrArg (fun v => Ending.returned (Value.int .i64 v)) ?_, (Below.refl _ _).alloc (Nat.le_refl _) _⟩
  all_goals unfold ck
  all_goals first | (rw [if_pos (may_iff.2 (by omega))]) | (rw [if_neg (by rw [may_iff]; omega)])

theorem less_c (a b c d : Int) (w : World) :
    Calls Tryz.prog 12 #[sv a b, sv c d] w fun e w' => e = .returned (.bool (lt (a, b) (c, d))) ∧ Below w.heap.size w w' := by
  have hS0 := SS.new w a b c d
  obtain ⟨i1, i2, i3, i4, hB0⟩ := id hS0
  have hq := cpS_lt (a, b) (c, d)
  generalize hl : lt (a, b) (c, d) = l at hq ⊢
  have C1 := Lib.hid (compare_c a b c d)
  obtain ⟨k, hk⟩ : ∃ k, k = cpS (a, b) (c, d) := ⟨_, rfl⟩
  rw [← hk] at C1 hq
  clear hl hk
  have hd : decide (k < 0) = l := by cases l <;> simp [hq]
  go_enter Tryz.func12, Tryz.ntmps12
  go_wp2_with fail
  refine (C1.out _).mono ?_
  rintro e w1 ⟨rfl, hb1⟩
  have hB1 := hB0.trans (hb1.mono hB0.size)
  go_wp2
  go_ret
  exact ⟨rfl, hB1⟩

end Go.Proofs.YtldbmogondmgmaaGreatDoor
set_option linter.unusedVariables false
namespace Go.Proofs.YtldbmogondmgmaaGreatDoor
open Go.RowKit

end Go.Proofs.YtldbmogondmgmaaGreatDoor
