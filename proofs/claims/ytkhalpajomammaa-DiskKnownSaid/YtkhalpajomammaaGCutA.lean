/-
  Layer 7: the landed disk: Cut's closure (80 s).
-/
import Derived.Test.YtkhalpajomammaaGSync
set_option linter.unusedVariables false
namespace Go.Proofs.Ytkhalpajomammaa
open Go.RowKit Go.Maps

theorem hid_dec {p : Prop} [Decidable p] {b : Bool} (h : decide p = b) : decide p = b := h
set_option maxRecDepth 100000 in
set_option maxHeartbeats 4000000 in
theorem gCut1 (w : World) (bx bs q : Nat) (A : Option Addr) (L cap mk k : Nat) (hb : w.cell? ⟨bx, 0, none⟩ = some (pt q)) (hs : w.cell? ⟨bs, 0, none⟩ = some (.int .i64 (k : Int))) (hxq : bx ≠ q) (hsq : bs ≠ q) (c0 : w.cell? ⟨q, 0, none⟩ = some (.slice A L cap)) (c1 : w.cell? ⟨q, 1, none⟩ = some (.int .i64 (mk : Int))) (z : ∀ i, w.frozen? ⟨q, i, none⟩ = false) (hk : k ≤ L) (hL : L ≤ cap) :
    Calls Try.prog 58 #[pt bx, pt bs] w fun e w' => e = .returned (.tuple #[]) ∧ ∃ n, w' = ((w.setCell ⟨q, 0, none⟩ (.slice A k cap)).setCell ⟨q, 1, none⟩ (.int .i64 ((min mk k : Nat) : Int))).drewN n := by
  have z0 := z 0
  have z1 := z 1
  have hsl : ∀ V : World, (Instr.slice 27 (.slice A L cap) none (some (.int .i64 (k : Int))) none).run Try.prog V = .ok (.slice A k cap) V := fun V => by
    rw [slb_h A L cap .i64 (k : Int) V (by omega) (by omega)]
    rfl
  have e1 : (w.setCell ⟨q, 0, none⟩ (.slice A k cap)).cell? ⟨q, 1, none⟩ = some (.int .i64 (mk : Int)) := (set_off w _ (by decide)).trans c1
  have e2 : (w.setCell ⟨q, 0, none⟩ (.slice A k cap)).cell? ⟨bx, 0, none⟩ = some (pt q) := (set_cell w _ hxq).trans hb
  have e3 : (w.setCell ⟨q, 0, none⟩ (.slice A k cap)).cell? ⟨bs, 0, none⟩ = some (.int .i64 (k : Int)) := (set_cell w _ hsq).trans hs
  have hmin : min (mk : Int) (k : Int) = ((min mk k : Nat) : Int) := by omega
  go_enter Try.func58, Try.ntmps58
  go_wp2_with fail
  go_cut [] from 2 to 40 (fun wx => ∃ n, wx = (w.setCell ⟨q, 0, none⟩ (.slice A k cap)).drewN n)
  case first =>
    go_region_with (fail)
    all_goals (try go_wp2_with fail)
    all_goals go_meet
    all_goals first | exact ⟨1, rfl⟩ | exact ⟨0, rfl⟩
  case rest =>
    obtain ⟨n, rfl⟩ := hcut
    have zq : (w.setCell ⟨q, 0, none⟩ (.slice A k cap)).frozen? ⟨q, 1, none⟩ = false := by rw [World.frozen?_setCell]; exact z1
    obtain ⟨V, hV⟩ : ∃ V, w.setCell ⟨q, 0, none⟩ (.slice A k cap) = V := ⟨_, rfl⟩
    rw [hV] at zq e1 e2 e3 ⊢
    have HV := Lib.hid hV
    clear hV
    clear hb hs c0 c1 z z0 z1 hsl
    go_wp2_with fail
    go_region_with (fail)
    all_goals
      go_wp2_with fail
      first | go_end0 | (refine bodyPost_ret (results_none rfl _ _ _) rfl ?_)
      exact ⟨rfl, n + 1, by rw [HV.out]; rfl⟩
end Go.Proofs.Ytkhalpajomammaa
