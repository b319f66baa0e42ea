/-
  Layer 9: the chapter's list ('works').
-/
import Derived.Test.YtcpbcoeccplliaaSkSame
set_option linter.unusedVariables false
namespace Go.Proofs.Ytcpbcoeccplliaa
open Go.RowKit

abbrev nA : ByteArray := ⟨#[97]⟩
abbrev nB : ByteArray := ⟨#[98]⟩
abbrev nC : ByteArray := ⟨#[99]⟩
abbrev nAA : ByteArray := ⟨#[97, 97]⟩
abbrev nE : ByteArray := ⟨#[]⟩
theorem kl_data (a b : ByteArray) : kl a b = Op.bytesLess a.data.toList b.data.toList := by unfold kl; rw [Lib.toList_data, Lib.toList_data]
def L1 : List Kv := [⟨nB, .int .i64 1, 1⟩]
def L2 : List Kv := [⟨nA, .int .i64 2, 3⟩, ⟨nB, .int .i64 1, 1⟩]
def L3 : List Kv := [⟨nA, .int .i64 2, 3⟩, ⟨nB, .int .i64 3, 1⟩]
theorem kposD (l : List Kv) (k : ByteArray) : kpos l k = (l.takeWhile (fun x => Op.bytesLess x.key.data.toList k.data.toList)).length := by
  unfold kpos
  congr 1
  induction l with
  | nil => rfl
  | cons a l ih =>
    rw [List.takeWhile_cons, List.takeWhile_cons, kl_data, ih]
theorem q0 : kpos [] nB = 0 := rfl
theorem q1 : kpos L1 nA = 0 := by rw [kposD]; rfl
theorem q2 : kpos L2 nB = 1 := by rw [kposD]; rfl
theorem q3a : kpos L3 nA = 0 := by rw [kposD]; rfl
theorem q3b : kpos L3 nB = 1 := by rw [kposD]; rfl
theorem q3c : kpos L3 nC = 2 := by rw [kposD]; rfl
theorem q3aa : kpos L3 nAA = 1 := by rw [kposD]; rfl
theorem p1 : kputI [] nB (.int .i64 1) 1 = L1 := rfl
theorem p2 : kputI L1 nA (.int .i64 2) 3 = L2 := by
  have h : khas L1 nA = false := by unfold khas; rw [q1]; rfl
  unfold kputI kput
  rw [if_pos (by decide), h, q1]
  rfl
theorem p3 : kputI L2 nB (.int .i64 3) 9 = L3 := by
  have h : khas L2 nB = true := by unfold khas; rw [q2]; rfl
  unfold kputI kput
  rw [if_pos (by decide), h, q2]
  rfl
theorem p4 : kputI L3 nC (.int .i64 4) 0 = L3 := by unfold kputI; rw [if_neg (by decide)]
theorem p5 : kputI L3 nC (.int .i64 4) 17 = L3 := by unfold kputI; rw [if_neg (by decide)]
theorem h3a : khas L3 nA = true := by unfold khas; rw [q3a]; rfl
theorem h3b : khas L3 nB = true := by unfold khas; rw [q3b]; rfl
theorem h3c : khas L3 nC = false := by unfold khas; rw [q3c]; rfl
theorem g1 : kval z9 L3 nB = .int .i64 3 := by unfold kval; rw [h3b, q3b]; rfl
theorem s1 : ksteps L3 nB = 1 := by unfold ksteps; rw [h3b, q3b]; rfl
theorem s2 : ksteps L3 nA = 3 := by unfold ksteps; rw [h3a, q3a]; rfl
theorem s3 : ksteps L3 nC = 0 := by unfold ksteps; rw [h3c]; rfl
theorem f1 : firstV L3 nAA = .tuple #[.string nB, .bool true] := by unfold firstV; rw [q3aa]; rfl
theorem f2 : firstV L3 nC = .tuple #[.string nE, .bool false] := by unfold firstV; rw [q3c]; rfl
theorem e1 : kend L3 nB = 1 := by unfold kend; rw [if_neg (by rw [Lib.toList_data]; decide), q3b]
theorem e2 : kend L3 nE = 2 := by unfold kend; rw [if_pos (by rw [Lib.toList_data])]; rfl
theorem e3 : kend L3 nA = 0 := by unfold kend; rw [if_neg (by rw [Lib.toList_data]; decide), q3a]
theorem l1 : lastV L3 nB = .tuple #[.string nA, .bool true] := by unfold lastV; rw [e1]; rfl
theorem l2 : lastV L3 nE = .tuple #[.string nB, .bool true] := by unfold lastV; rw [e2]; rfl
theorem l3 : lastV L3 nA = .tuple #[.string nE, .bool false] := by unfold lastV; rw [e3]; rfl
theorem t1 : kstepI L3 1 = [nA, nB] := rfl
theorem t2 : kstepI L3 2 = [nA] := rfl
theorem t4 : kstepI L3 4 = [] := rfl
theorem t0 : kstepI L3 0 = [] := rfl
set_option maxRecDepth 100000 in
set_option maxHeartbeats 8000000 in
theorem sk_works (w : World) : Calls Try.prog 27 #[] w fun e w' => e = .returned (.bool true) ∧ Below w.heap.size w w' := by
  have h0 : Has w [] w := Has.nil (Below.refl _ _)
  have b1 : ((nB.toList == nB.toList)) = true := by simp
  have b2 : ((nA.toList == nA.toList)) = true := by simp
  go_enter Try.func27, Try.ntmps27
  go_wp2_with (first
    | (go_at_call 11; refine h0.skNew.mono ?_; rintro e w1 ⟨q, rfl, h1⟩)
    | (go_at_call 30; refine (h1.skPut 1 1 (by decide) (by decide) (by decide) (by decide)).mono ?_; rintro e w2 ⟨rfl, h2⟩; rw [p1] at h2; clear h1)
    | (go_at_call 30; refine (h2.skPut 2 3 (by decide) (by decide) (by decide) (by decide)).mono ?_; rintro e w3 ⟨rfl, h3⟩; rw [p2] at h3; clear h2)
    | (go_at_call 30; refine (h3.skPut 3 9 (by decide) (by decide) (by decide) (by decide)).mono ?_; rintro e w4 ⟨rfl, h4⟩; rw [p3] at h4; clear h3)
    | (go_at_call 30; refine (h4.skPut 4 0 (by decide) (by decide) (by decide) (by decide)).mono ?_; rintro e w5 ⟨rfl, h5⟩; rw [p4] at h5; clear h4)
    | (go_at_call 30; refine (h5.skPut 4 17 (by decide) (by decide) (by decide) (by decide)).mono ?_; rintro e w6 ⟨rfl, h6⟩; rw [p5] at h6; clear h5)
    | (go_at_call 16; refine (h6.skGet nB).mono ?_; rintro e w7 ⟨rfl, h7⟩; rw [g1, h3b]; clear h6)
    | (go_at_call 18; refine (h7.skFirst nAA).mono ?_; rintro e w8 ⟨rfl, h8⟩; rw [f1]; clear h7)
    | (go_at_call 18; refine (h8.skFirst nC).mono ?_; rintro e w9 ⟨rfl, h9⟩; rw [f2]; clear h8)
    | (go_at_call 20; refine (h9.skLast nB).mono ?_; rintro e w10 ⟨rfl, h10⟩; rw [l1]; clear h9)
    | (go_at_call 20; refine (h10.skLast nE).mono ?_; rintro e w11 ⟨rfl, h11⟩; rw [l2]; clear h10)
    | (go_at_call 20; refine (h11.skLast nA).mono ?_; rintro e w12 ⟨rfl, h12⟩; rw [l3]; clear h11)
    | (go_at_call 14; refine (h12.skLen).mono ?_; rintro e w13 ⟨rfl, h13⟩; rw [show (L3.length : Int) = 2 from rfl]; clear h12)
    | (go_at_call 22; refine (h13.skSteps nB).mono ?_; rintro e w14 ⟨rfl, h14⟩; rw [s1]; clear h13)
    | (go_at_call 22; refine (h14.skSteps nA).mono ?_; rintro e w15 ⟨rfl, h15⟩; rw [s2]; clear h14)
    | (go_at_call 22; refine (h15.skSteps nC).mono ?_; rintro e w16 ⟨rfl, h16⟩; rw [s3]; clear h15)
    | (go_at_call 24; refine (h16.skStep 1 (by decide) (by decide) (by decide)).mono ?_; rintro e w17 ⟨v, rfl, h17⟩; rw [t1] at h17; obtain ⟨A, c, rfl, hat, hc1, hc2⟩ := h17.txt; clear h16)
    | (go_at_call 25; refine (same9 A (some ⟨w17.heap.size, 0, none⟩) 2 2 c 2 [nA, nB] [nA, nB] _ (hat.below (nbl w17 (.cells #[.string nA, .string nB] 9))) (SAt.lit (heap_alloc_new w17 (.cells #[.string nA, .string nB] 9))) (by decide) (by decide)).mono ?_; rintro e w18 ⟨rfl, hb18⟩; rw [decide_eq_true rfl]; have h18 := (h17.tail.alloc (.cells #[.string nA, .string nB] 9)).keep hb18; clear h17 hat hb18)
    | (go_at_call 24; refine (h18.skStep 2 (by decide) (by decide) (by decide)).mono ?_; rintro e w19 ⟨v2, rfl, h19⟩; rw [t2] at h19; obtain ⟨A2, cc2, rfl, hat2, hc21, hc22⟩ := h19.txt; clear h18)
    | (go_at_call 25; refine (same9 A2 (some ⟨w19.heap.size, 0, none⟩) 1 1 cc2 1 [nA] [nA] _ (hat2.below (nbl w19 (.cells #[.string nA] 9))) (SAt.lit (heap_alloc_new w19 (.cells #[.string nA] 9))) (by decide) (by decide)).mono ?_; rintro e w20 ⟨rfl, hb20⟩; rw [decide_eq_true rfl]; have h20 := (h19.tail.alloc (.cells #[.string nA] 9)).keep hb20; clear h19 hat2 hb20)
    | (go_at_call 24; refine (h20.skStep 4 (by decide) (by decide) (by decide)).mono ?_; rintro e w21 ⟨v3, rfl, h21⟩; rw [t4] at h21; obtain ⟨A3, cc3, rfl, hat3, hc31, hc32⟩ := h21.txt; have h21t := h21.tail; clear h20 h21 hat3)
    | (go_at_call 24; refine (h21t.skStep 0 (by decide) (by decide) (by decide)).mono ?_; rintro e w22 ⟨v4, rfl, h22⟩; rw [t0] at h22; obtain ⟨A4, cc4, rfl, hat4, hc41, hc42⟩ := h22.txt; clear h21t hat4))
  go_ret
  exact ⟨rfl, h22.bel⟩
end Go.Proofs.Ytcpbcoeccplliaa
