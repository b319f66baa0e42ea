/-
  StampNames: the walk, over what the code's functions promise and what the other statements say.
-/
import Derived.Test.YtnjfabgajebfeaaSAwake
set_option linter.unusedVariables false
namespace Go.Proofs.Ytnjfabgajebfeaa
open Go.RowKit

def I64 (x : Int) : Prop := -9223372036854775808 ≤ x ∧ x ≤ 9223372036854775807
def ChecksSaid : Prop := ∀ (a b c d : Int) (w : World), I64 a → I64 b → I64 c → I64 d → Calls Try.prog 3 #[sv a b, sv c d] w fun e w' => e = .returned (.bool true) ∧ Below w.heap.size w w'
def StepsSaid : Prop := ∀ (a b k : Int) (w : World), I64 a → I64 b → I64 k → Calls Try.prog 5 #[sv a b, .int .i64 k] w fun e w' => e = .returned (.bool true) ∧ Below w.heap.size w w'
def NearSaid : Prop := ∀ (a b c d : Int) (w : World), I64 a → I64 b → I64 c → I64 d → Calls Try.prog 6 #[sv a b, sv c d] w fun e w' => e = .returned (.bool true) ∧ Below w.heap.size w w'
def MostNone : Prop := ∀ w : World, Calls Try.prog 4 #[.slice none 0 0] w fun e w' => e = .returned (.bool true) ∧ Below w.heap.size w w'

/-- Numbers that lie in a block. -/
def Ints (w : World) (g : Nat) (l : List Int) : Prop := ∀ i, (h : i < l.length) → w.cell? ⟨g, i, none⟩ = some (.int .i64 l[i])
theorem Ints.keep {w w' : World} {g : Nat} {l : List Int} (h : Ints w g l) (hb : Below w.heap.size w w') : Ints w' g l := fun i hi => (hb.cell (World.block_lt_of_cell? w _ (h i hi))).trans (h i hi)
def walls : List Int := [-1, 0, 1, 1099511627775, 1099511627776, 1099511627777, -9223372036854775808, 9223372036854775807]
def logics : List Int := [-1, 0, 1, 1048574, 1048575, 1048576, -9223372036854775808, 9223372036854775807]
theorem walls_ok : ∀ x ∈ walls, I64 x := by unfold walls I64; decide
theorem logics_ok : ∀ x ∈ logics, I64 x := by unfold logics I64; decide
theorem ints_new (w : World) (l : List Int) (t : TypeId) : Ints (w.alloc (.cells (l.map (Value.int .i64)).toArray t)) w.heap.size l := by
  intro i hi
  rw [cell_of_row _ w.heap.size i _ t (0, 0) (heap_alloc_new w _)]
  simp [hi]

abbrev S5 (w : World) (ga gW gL i j : Nat) (a b x y : Int) (V : World) : Prop :=
  V.cell? ⟨ga, 0, none⟩ = some (.int .i64 a) ∧ V.cell? ⟨ga, 1, none⟩ = some (.int .i64 b) ∧ V.cell? ⟨gW, j, none⟩ = some (.int .i64 x) ∧ V.cell? ⟨gL, i, none⟩ = some (.int .i64 y) ∧ Below w.heap.size w V
theorem S5.keep {w V V' : World} {ga gW gL i j : Nat} {a b x y : Int} (h : S5 w ga gW gL i j a b x y V) (hb : Below V.heap.size V V') : S5 w ga gW gL i j a b x y V' :=
  ⟨(hb.cell (World.block_lt_of_cell? V _ h.1)).trans h.1, (hb.cell (World.block_lt_of_cell? V _ h.2.1)).trans h.2.1, (hb.cell (World.block_lt_of_cell? V _ h.2.2.1)).trans h.2.2.1,
    (hb.cell (World.block_lt_of_cell? V _ h.2.2.2.1)).trans h.2.2.2.1, h.2.2.2.2.trans (hb.mono h.2.2.2.2.size)⟩
theorem S5.drew {w V : World} {ga gW gL i j : Nat} {a b x y : Int} (h : S5 w ga gW gL i j a b x y V) : S5 w ga gW gL i j a b x y V.drew := ⟨h.1, h.2.1, h.2.2.1, h.2.2.2.1, h.2.2.2.2.drew⟩
theorem S5.call {w V : World} {ga gW gL i j : Nat} {a b x y : Int} {f : FuncId} {args : Array Value} {v : Value} (k : S5 w ga gW gL i j a b x y V) (hc : Calls Try.prog f args V fun e V' => e = .returned v ∧ Below V.heap.size V V') :
    Calls Try.prog f args V fun e V' => e = .returned v ∧ S5 w ga gW gL i j a b x y V' := hc.mono fun _ _ hh => ⟨hh.1, k.keep hh.2⟩

abbrev SI (w : World) (gW gL i k : Nat) (x y : Int) (V : World) : Prop :=
  V.cell? ⟨gW, i, none⟩ = some (.int .i64 x) ∧ V.cell? ⟨gL, k, none⟩ = some (.int .i64 y) ∧ Below w.heap.size w V
theorem SI.keep {w V V' : World} {gW gL i k : Nat} {x y : Int} (h : SI w gW gL i k x y V) (hb : Below V.heap.size V V') : SI w gW gL i k x y V' :=
  ⟨(hb.cell (World.block_lt_of_cell? V _ h.1)).trans h.1, (hb.cell (World.block_lt_of_cell? V _ h.2.1)).trans h.2.1, h.2.2.trans (hb.mono h.2.2.size)⟩
theorem SI.drew {w V : World} {gW gL i k : Nat} {x y : Int} (h : SI w gW gL i k x y V) : SI w gW gL i k x y V.drew := ⟨h.1, h.2.1, h.2.2.drew⟩
theorem SI.alloc {w V : World} {gW gL i k : Nat} {x y : Int} (h : SI w gW gL i k x y V) (o : Obj) : SI w gW gL i k x y (V.alloc o) := h.keep ((Below.refl _ _).alloc (Nat.le_refl _) _)

set_option maxRecDepth 100000 in
set_option maxHeartbeats 4000000 in
theorem stampNames_w (hS : LessOk) (hN : NextSOk) (hP : PrevOk) (hL : LaterOk) (hc : ChecksSaid) (hs : StepsSaid) (hn : NearSaid) (hm : MostNone) (w : World) :
    Calls Try.prog 10 #[] w fun e w' => e = .returned (.bool true) ∧ Below w.heap.size w w' := by
  have AW := Lib.hid (awake hS hN hP hL)
  have MN := Lib.hid hm
  clear hS hN hP hL hm
  go_enter Try.func10, Try.ntmps10
  go_wp2_with fail
  have hW1 := (ints_new w walls 3).keep ((Below.refl _ _).alloc (Nat.le_refl _) (.cells (logics.map (Value.int .i64)).toArray 3))
  have hL1 := ints_new (w.alloc (.cells (walls.map (Value.int .i64)).toArray 3)) logics 3
  have hB1 : Below w.heap.size w ((w.alloc (.cells (walls.map (Value.int .i64)).toArray 3)).alloc (.cells (logics.map (Value.int .i64)).toArray 3)) := ((Below.refl _ _).alloc (Nat.le_refl _) _).alloc (by simp) _
  rw [World.size_alloc] at hL1
  change (Code.wp _ _ _ _ ((w.alloc (.cells (walls.map (Value.int .i64)).toArray 3)).alloc (.cells (logics.map (Value.int .i64)).toArray 3)))
  generalize (w.alloc (.cells (walls.map (Value.int .i64)).toArray 3)).alloc (.cells (logics.map (Value.int .i64)).toArray 3) = w1 at hW1 hL1 hB1 ⊢
  have hwl : walls.length = 8 := rfl
  have hll : logics.length = 8 := rfl
  have hwo := walls_ok
  have hlo := logics_ok
  generalize walls = ws at *
  generalize logics = ls at *
  have HWL := Lib.hid hwl
  have HLL := Lib.hid hll
  have HWO := Lib.hid hwo
  have HLO := Lib.hid hlo
  have HW := Lib.hid hW1
  have HLg := Lib.hid hL1
  clear hwl hll hwo hlo hW1 hL1
  go_loopw [3, 5] (fun i _ wr => ∃ k : Nat, k ≤ 8 ∧ i = .int .i64 k ∧ Below w1.heap.size w1 wr) (fun i _ _ => 8 - (intOf i).toNat)
  case atStart => exact ⟨0, Nat.zero_le _, rfl, Below.refl _ _⟩
  case round =>
    obtain ⟨i, hi, rfl, hbi⟩ := hrel
    by_cases hlt : i < 8
    · have HI := Lib.hid hlt
      have hIi : (i : Int) < 8 := by omega
      clear hi
      go_wp2_with fail
      go_loopw [4, 5] (fun z _ wz => ∃ k : Nat, k ≤ 8 ∧ z = .int .i64 k ∧ Below w1.heap.size w1 wz) (fun z _ _ => 8 - (intOf z).toNat)
      case atStart => exact ⟨0, Nat.zero_le _, rfl, hbi⟩
      case round =>
        obtain ⟨k, hk, rfl, hbk⟩ := hrel
        by_cases hltk : k < 8
        · have cw := (HW.out.keep hbk) i (by rw [HWL.out]; exact HI.out)
          have cl := (HLg.out.keep hbk) k (by rw [HLL.out]; exact hltk)
          have ow := HWO.out (ws[i]'(by rw [HWL.out]; exact HI.out)) (List.getElem_mem _)
          have ol := HLO.out (ls[k]'(by rw [HLL.out]; exact hltk)) (List.getElem_mem _)
          generalize ws[i]'(by rw [HWL.out]; exact HI.out) = x at cw ow
          generalize ls[k]'(by rw [HLL.out]; exact hltk) = y at cl ol
          have OW := Lib.hid ow
          have OL := Lib.hid ol
          have hsz := hbk.size
          clear ow ol
          go_wp2_with fail
          have hS0 : SI w1 w.heap.size (w.heap.size + 1) i k x y wr := ⟨cw, cl, hbk⟩
          have hSd := hS0.drew
          go_region_held3 (fun V => V.cell? ⟨w.heap.size, i, none⟩ = some (.int .i64 x) ∧ V.cell? ⟨w.heap.size + 1, k, none⟩ = some (.int .i64 y) ∧ Below w1.heap.size w1 V)
            (first | with_reducible assumption | with_reducible exact hS0 | with_reducible exact hSd | (repeat (first | with_reducible assumption | with_reducible exact hS0 | with_reducible exact hSd | with_reducible refine SI.alloc ?_ _ | with_reducible refine SI.drew ?_)))
            (first | fail)
          have hBx : Box (wr.alloc (.cells #[.int .i64 x, .int .i64 y] 23)).drew wr.heap.size x y := Box.new wr x y
          have hb2 : Below w1.heap.size w1 (wr.alloc (.cells #[.int .i64 x, .int .i64 y] 23)).drew := (hbk.alloc hsz _).drew
          generalize (wr.alloc (.cells #[.int .i64 x, .int .i64 y] 23)).drew = w2 at hBx hb2 ⊢
          generalize wr.heap.size = ga at hBx ⊢
          clear hS0 hSd cw cl
          go_wp2_with fail
          go_loopw [6] (fun z wz => ∃ j : Nat, j ≤ 8 ∧ z = .int .i64 j ∧ Below w2.heap.size w2 wz) (fun z _ => 8 - (intOf z).toNat)
          case atStart => exact ⟨0, Nat.zero_le _, rfl, Below.refl _ _⟩
          case round =>
            obtain ⟨j, hj, rfl, hbj⟩ := hrel
            have hb1j := hb2.trans (hbj.mono hb2.size)
            by_cases hltj : j < 8
            · have hBz := hBx.keep hbj
              have cw := (HW.out.keep hb1j) j (by rw [HWL.out]; exact hltj)
              have cl := (HLg.out.keep hb1j) i (by rw [HLL.out]; exact HI.out)
              have ow := HWO.out (ws[j]'(by rw [HWL.out]; exact hltj)) (List.getElem_mem _)
              have ol := HLO.out (ls[i]'(by rw [HLL.out]; exact HI.out)) (List.getElem_mem _)
              generalize ws[j]'(by rw [HWL.out]; exact hltj) = xj at cw ow
              generalize ls[i]'(by rw [HLL.out]; exact HI.out) = yi at cl ol
              have hS0 : S5 w2 ga w.heap.size (w.heap.size + 1) i j x y xj yi wr := ⟨hBz.c0, hBz.c1, cw, cl, hbj⟩
              have hSd := hS0.drew
              have K1 := Lib.hid (fun V => hs x y xj V OW.out OL.out ow)
              have K2 := Lib.hid (fun V => hc x y xj yi V OW.out OL.out ow ol)
              have K3 := Lib.hid (fun V => hn x y xj 0 V OW.out OL.out ow (by unfold I64; omega))
              clear ow ol
              go_wp2_with fail
              go_region_held3 (fun V => V.cell? ⟨ga, 0, none⟩ = some (.int .i64 x) ∧ V.cell? ⟨ga, 1, none⟩ = some (.int .i64 y) ∧ V.cell? ⟨w.heap.size, j, none⟩ = some (.int .i64 xj) ∧ V.cell? ⟨w.heap.size + 1, i, none⟩ = some (.int .i64 yi) ∧ Below w2.heap.size w2 V)
                (first | with_reducible assumption | with_reducible exact hS0 | with_reducible exact hSd | (repeat (first | with_reducible assumption | with_reducible exact hS0 | with_reducible exact hSd | with_reducible refine S5.drew ?_)))
                (first
                  | (go_at_call 5; refine (S5.call (by first | with_reducible assumption | with_reducible exact hSd | with_reducible exact hS0) (K1.out _)).mono ?_; rintro e w5 ⟨rfl, hS5⟩)
                  | (go_at_call 3; refine (S5.call (by first | with_reducible assumption | with_reducible exact hSd | with_reducible exact hS0) (K2.out _)).mono ?_; rintro e w6 ⟨rfl, hS6⟩)
                  | (go_at_call 6; refine (S5.call (by first | with_reducible assumption | with_reducible exact hSd | with_reducible exact hS0) (K3.out _)).mono ?_; rintro e w7 ⟨rfl, hS7⟩))
              all_goals (clear hS0 hSd; go_wp2)
              all_goals
                go_roundw
                case rel => exact ⟨j + 1, by omega, by go_num, hS7.2.2.2.2⟩
                case measure => simp [intOf]; omega
            · have hgej : 8 ≤ j := by omega
              go_wp2
              go_roundw
              case rel => exact ⟨k + 1, by omega, by go_num, hb1j⟩
              case measure => simp [intOf]; omega
        · have hgek : 8 ≤ k := by omega
          go_wp2
          go_roundw
          case rel => exact ⟨i + 1, by have := HI.out; omega, by go_num, hbk⟩
          case measure => simp [intOf]; have := HI.out; omega
    · have hge : 8 ≤ i := by omega
      have hB2 := hB1.trans (hbi.mono hB1.size)
      go_wp2_with fail
      refine (AW.out _).mono ?_
      rintro e2 w2 ⟨rfl, hb2⟩
      have hB3 := hB2.trans (hb2.mono hB2.size)
      go_wp2_with fail
      refine (MN.out _).mono ?_
      rintro e3 w3 ⟨rfl, hb3⟩
      have hB4 := hB3.trans (hb3.mono hB3.size)
      go_wp2
      go_ret
      exact ⟨rfl, hB4⟩
end Go.Proofs.Ytnjfabgajebfeaa
