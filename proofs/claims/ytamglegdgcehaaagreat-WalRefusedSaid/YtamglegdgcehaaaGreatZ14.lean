/-
  Layer 3: the document's answer: take, Add, Of.
  Layer 3, the code: the closure that takes a byte in, Add, Of.
-/
import Derived.Test.YtamglegdgcehaaaGreatZ01
import Derived.Test.YtamglegdgcehaaaGreatZ13
set_option linter.unusedVariables false
namespace Go.Proofs.YtamglegdgcehaaaGreat
open Go.RowKit

set_option maxHeartbeats 400000 in
theorem refTake (s : BitVec 32) (c : UInt8) (w : World) :
    Calls Tryz.prog 200 #[.int .u32 (N s), .int .u8 (c.toNat : Int)] w fun e w' => e = .returned (.int .u32 (N (takeB s c))) ∧ w = w' := by
  have hN := N_take s c
  have hB := N_bounds s
  have hc := c.toNat_lt
  go_enter Tryz.func200, Tryz.ntmps200
  go_wp2
  go_loopw [0, 5] (fun u i wr => ∃ k : Nat, k ≤ 8 ∧ i = .int .i64 k ∧ (∃ x, x = stps k (s ^^^ wb c) ∧ u = .int .u32 (N x)) ∧ wr = w) (fun _ i _ => 8 - (intOf i).toNat)
  case atStart => exact ⟨0, by omega, rfl, ⟨_, rfl, rfl⟩, rfl⟩
  case round =>
    obtain ⟨k, hk, rfl, ⟨x, hx, rfl⟩, rfl⟩ := hrel
    have hb := N_bounds x
    by_cases hlt : k < 8
    · have hx' := Lib.hid hx
      clear hx
      by_cases ht : 2147483648 ≤ N x
      · have hs := N_stp1 ht
        go_wp2
        go_roundw
        case rel => exact ⟨k + 1, by omega, by go_num, ⟨stp x, by rw [hx'.out, stps_succ], by rw [hs]⟩, trivial⟩
        case measure => simp [intOf]; omega
      · have hs := N_stp0 ht
        go_wp2
        go_roundw
        case rel => exact ⟨k + 1, by omega, by go_num, ⟨stp x, by rw [hx'.out, stps_succ], by rw [hs]⟩, trivial⟩
        case measure => simp [intOf]; omega
    · obtain rfl : k = 8 := by omega
      have hx' := Lib.hid hx
      clear hx
      go_wp2
      go_ret
      exact ⟨by rw [hx'.out]; rfl, rfl⟩

theorem fold_succ (S : BitVec 32) (xs : List UInt8) (k : Nat) (h : k < xs.length) : (xs.take (k + 1)).foldl takeB S = takeB ((xs.take k).foldl takeB S) xs[k] := by
  rw [List.take_succ_eq_append_getElem h, List.foldl_append]
  rfl

set_option maxHeartbeats 400000 in
theorem refAdd (s : BitVec 32) (A : Option Addr) (n c : Nat) (xs : List UInt8) (w : World) (hx : At w A n xs) (hn : n ≤ 9223372036854775807) :
    Calls Tryz.prog 188 #[.int .u32 (N s), .slice A n c] w fun e w' => e = .returned (.int .u32 (N (crcAdd s xs))) ∧ w = w' := by
  have hN := N_not s
  have hB := N_bounds s
  go_enter Tryz.func188, Tryz.ntmps188
  go_wp2
  go_loopw [0, 5] (fun u i wr => ∃ k : Nat, k ≤ n ∧ i = .int .i64 k ∧ (∃ x, x = (xs.take k).foldl takeB (~~~ s) ∧ u = .int .u32 (N x)) ∧ wr = w) (fun _ i _ => n - (intOf i).toNat)
  case atStart => exact ⟨0, by omega, rfl, ⟨_, rfl, rfl⟩, rfl⟩
  case round =>
    obtain ⟨k, hk, rfl, ⟨x, hx0, rfl⟩, rfl⟩ := hrel
    by_cases hlt : k < n
    · obtain ⟨b, o, rfl, hc⟩ := hx.at_ (by omega)
      have hxk : k < xs.length := by rw [hx.1]; exact hlt
      have h1 := hc k hxk
      have hs := fold_succ (~~~ s) xs k hxk
      rw [← hx0] at hs
      generalize xs[k] = y at h1 hs
      have hx' := Lib.hid hs
      clear hx0 hc hs
      go_wp2_with fail
      refine (refTake x y _).mono ?_
      rintro e w1 ⟨rfl, rfl⟩
      go_wp2
      go_roundw
      case rel => exact ⟨k + 1, by omega, by go_num, ⟨_, hx'.out.symm, rfl⟩, trivial⟩
      case measure => simp [intOf]; omega
    · have hx' : crcAdd s xs = ~~~ x := by
        unfold crcAdd
        rw [hx0, List.take_of_length_le (by have := hx.1; omega)]
      have H := (N_not x).trans (congrArg N hx'.symm)
      have hge : n ≤ k := by omega
      have hb := N_bounds x
      clear hx0 hx' hlt
      go_wp2
      go_ret
      exact ⟨rfl, rfl⟩

theorem refOf (A : Option Addr) (n c : Nat) (xs : List UInt8) (w : World) (hx : At w A n xs) (hn : n ≤ 9223372036854775807) :
    Calls Tryz.prog 184 #[.slice A n c] w fun e w' => e = .returned (.int .u32 (N (crcOf xs))) ∧ w = w' := by
  go_enter Tryz.func184, Tryz.ntmps184
  go_wp2_with fail
  refine (refAdd 0#32 A n c xs _ hx hn).mono ?_
  rintro e w1 ⟨rfl, rfl⟩
  go_wp2
  go_ret
  exact ⟨rfl, rfl⟩
end Go.Proofs.YtamglegdgcehaaaGreat
set_option linter.unusedVariables false
namespace Go.Proofs.YtamglegdgcehaaaGreat
open Go.RowKit

/-- A variable of 32 bits that a closure captures. -/
def St (w : World) (g : Nat) (s : BitVec 32) : Prop := Blk w g 166 #[.int .u32 (N s)]
theorem St.cells {w : World} {g : Nat} {s : BitVec 32} (h : St w g s) : w.cell? ⟨g, 0, none⟩ = some (.int .u32 (N s)) ∧ w.frozen? ⟨g, 0, none⟩ = false :=
  ⟨by rw [Blk.cell h]; rfl, Blk.frozen h _⟩
theorem St.set_ {w : World} {g : Nat} {s : BitVec 32} (h : St w g s) (t : BitVec 32) : St (w.setCell ⟨g, 0, none⟩ (.int .u32 (N t))) g t := Blk.set_ h 0 _

set_option maxHeartbeats 800000 in
theorem takeAny (g : Nat) (s : BitVec 32) (c : UInt8) (w : World) (h : St w g s) :
    Calls Tryz.prog 183 #[.int .u8 (c.toNat : Int), .pointer (some ⟨g, 0, none⟩)] w fun e w' => e = .returned (.tuple #[]) ∧ St w' g (takeB s c) ∧ Below g w w' := by
  obtain ⟨h1, h2⟩ := h.cells
  have hN := N_take s c
  have hB := N_bounds s
  have hc := c.toNat_lt
  go_enter Tryz.func183, Tryz.ntmps183
  go_wp2
  go_loopw [9] (fun i wr => ∃ k : Nat, k ≤ 8 ∧ i = .int .i64 k ∧ Hid (St wr g (stps k (s ^^^ wb c))) ∧ Hid (Below g w wr)) (fun i _ => 8 - (intOf i).toNat)
  case atStart => exact ⟨0, by omega, rfl, Lib.hid (h.set_ _), Lib.hid ((Below.refl g w).setCell (Nat.le_refl _) _)⟩
  case round =>
    obtain ⟨k, hk, rfl, hst, hbel⟩ := hrel
    have hss := stps_succ k (s ^^^ wb c)
    have hst' := hst.out
    generalize hx : stps k (s ^^^ wb c) = x at hst' hss
    have HX := Lib.hid hx
    clear hx
    obtain ⟨c1, c2⟩ := hst'.cells
    have hb := N_bounds x
    by_cases hlt : k < 8
    · have hx' := Lib.hid hss
      clear hss hst
      by_cases ht : 2147483648 ≤ N x
      · have hs := (N_stp1 ht).symm
        have ha := N_and_top x
        rw [N_msb, decide_eq_true ht, if_pos rfl] at ha
        go_wp2
        go_roundw
        case rel => exact ⟨k + 1, by omega, by go_num, by rw [hx'.out]; exact Blk.set_ (Blk.set_ hst' 0 _) 0 _, (hbel.out.setCell (Nat.le_refl _) _).setCell (Nat.le_refl _) _⟩
        case measure => simp [intOf]; omega
      · have hs := N_stp0 ht
        have ha := N_and_top x
        rw [N_msb, decide_eq_false ht, if_neg (by decide)] at ha
        go_wp2
        go_roundw
        case rel => exact ⟨k + 1, by omega, by go_num, by rw [hx'.out]; simp only [← hs]; exact St.set_ hst' _, hbel.out.setCell (Nat.le_refl _) _⟩
        case measure => simp [intOf]; omega
    · obtain rfl : k = 8 := by omega
      clear hst hss
      go_wp2
      go_end0
      exact ⟨rfl, by rw [show takeB s c = x from HX.out]; exact hst', hbel.out⟩

set_option maxHeartbeats 800000 in
theorem add (s : BitVec 32) (A : Option Addr) (n c : Nat) (xs : List UInt8) (w : World) (hx : At w A n xs) (hn : n ≤ 9223372036854775807) :
    Calls Tryz.prog 169 #[.int .u32 (N s), .slice A n c] w fun e w' => e = .returned (.int .u32 (N (crcAdd s xs))) ∧ Below w.heap.size w w' := by
  have hN := N_not s
  have hB := N_bounds s
  go_enter Tryz.func169, Tryz.ntmps169
  go_wp2
  go_loopw [14] (fun i wr => ∃ k : Nat, k ≤ n ∧ i = .int .i64 k ∧ (∃ x, Hid (x = (xs.take k).foldl takeB (~~~ s)) ∧ St wr w.heap.size x) ∧ Hid (Below w.heap.size w wr)) (fun i _ => n - (intOf i).toNat)
  case atStart => exact ⟨0, by omega, rfl, ⟨_, rfl, Blk.new _ _ _⟩, (Below.refl _ _).alloc (Nat.le_refl _) _⟩
  case round =>
    obtain ⟨k, hk, rfl, ⟨x, hx0, hst⟩, hbel⟩ := hrel
    obtain ⟨c1, c2⟩ := hst.cells
    have hxr := hx.below' hbel.out
    by_cases hlt : k < n
    · obtain ⟨b, o, rfl, hc⟩ := hxr.at_ (by omega)
      have hxk : k < xs.length := by rw [hx.1]; exact hlt
      have h1 := hc k hxk
      have hs := fold_succ (~~~ s) xs k hxk
      rw [← hx0.out] at hs
      generalize xs[k] = y at h1 hs
      have hx' := Lib.hid hs
      clear hx0 hc hs hxr
      go_wp2_with (go_at_call 183; refine (takeAny w.heap.size x y _ hst).mono ?_; rintro e w1 ⟨rfl, hst1, hb1⟩)
      go_roundw
      case rel => exact ⟨k + 1, by omega, by go_num, ⟨_, hx'.out.symm, hst1⟩, hbel.out.trans hb1⟩
      case measure => simp [intOf]; omega
    · have hx' : crcAdd s xs = ~~~ x := by
        unfold crcAdd
        rw [hx0.out, List.take_of_length_le (by have := hx.1; omega)]
      have H := (N_not x).trans (congrArg N hx'.symm)
      have hge : n ≤ k := by omega
      have hb := N_bounds x
      clear hx0 hx' hlt
      go_wp2
      go_ret
      exact ⟨rfl, hbel.out⟩

theorem of_ (A : Option Addr) (n c : Nat) (xs : List UInt8) (w : World) (hx : At w A n xs) (hn : n ≤ 9223372036854775807) :
    Calls Tryz.prog 140 #[.slice A n c] w fun e w' => e = .returned (.int .u32 (N (crcOf xs))) ∧ Below w.heap.size w w' := by
  go_enter Tryz.func140, Tryz.ntmps140
  go_wp2_with fail
  refine (add 0#32 A n c xs _ hx hn).mono ?_
  rintro e w1 ⟨rfl, hb⟩
  go_wp2
  go_ret
  exact ⟨rfl, hb⟩
end Go.Proofs.YtamglegdgcehaaaGreat
