/-
  Layer 4, the code: All: an iterator over records.
  Layer 4, the code: All: an iterator over records, each in new memory.
  Layer 4, the statements' own 'all': what All tells, in a list.
-/
import Derived.Test.YtamglegdgcehaaaGreatZ12
import Derived.Shelf.Abstract
import Derived.Shelf.RegionOpen
import Derived.OwnWalkIn
import Derived.TacticsInMore
import Derived.LoopNIn
import Derived.LoopIn
import Derived.Test.YtamglegdgcehaaaGreatZ01
import Derived.RangeFuncBox
import Derived.Maps.AppendAt
set_option linter.unusedVariables false
namespace Go.Proofs.YtamglegdgcehaaaGreat
open Go.RowKit Go.Shelf
attribute [local go_sem] Oper.semAt_some

set_option maxHeartbeats 1000000 in
theorem all_tells (hnext : NextOk) (w00 w0 : World) (A : Option Addr) (n c : Nat) (bs : List UInt8) (hx : At w00 A n bs) (hnc : n ≤ c) (hc : c ≤ 9223372036854775807) (hn2 : n ≤ 200000000000000) (h0 : Below w00.heap.size w00 w0)
    (gb : Nat) (hgb : w0.cell? ⟨gb, 0, none⟩ = some (.slice A n c)) :
    Tells Tryz.prog 178 #[.pointer (some ⟨gb, 0, none⟩)] (fun x : Piece => #[x.1]) (fun x W => Own W w0.heap.size x.1 x.2) (Below w00.heap.size) (fun xs => xs.map (·.2) = alls bs) (fun pre => ∃ r, alls bs = pre.map (·.2) ++ r) w0 := by
  intro l J Jx W hW hJ hJx hY hJ0
  have hgb' : W.cell? ⟨gb, 0, none⟩ = some (.slice A n c) := by
    rw [hW.cell (World.block_lt_of_cell? w0 _ hgb), hgb]
  refine callsIn_of_wp Tryz.func178 rfl trivial ?_ rfl
  simp only [Tryz.ntmps178, List.size_toArray, List.length_cons, List.length_nil, Nat.reduceAdd, Nat.reduceSub, Array.replicate_succ, Array.replicate_zero, List.push_toArray, List.append_toArray, List.nil_append, List.cons_append]
  gi_wp2
  gi_loopw [3] (fun u wr => ∃ (pre : List Piece) (B : Option Addr) (m d : Nat) (ys : List UInt8), u = .slice B m d ∧ At w00 B m ys ∧ m ≤ d ∧ d ≤ 9223372036854775807 ∧ m ≤ 200000000000000 ∧ alls bs = pre.map (·.2) ++ alls ys ∧ J pre wr ∧ Below w00.heap.size w00 wr ∧ w0.heap.size ≤ wr.heap.size)
    (fun u _ => match u with | .slice _ m _ => m | _ => 0)
  case atStart => exact ⟨[], A, n, c, bs, rfl, hx, hnc, hc, hn2, rfl, hJ0, h0.trans (hW.mono h0.size), hW.size⟩
  case round =>
    obtain ⟨pre, B, m, d, ys, rfl, hat, hmd, hd, hm2, hal, hJp, hbw, hsz⟩ := hrel
    obtain ⟨p, size, e, hn⟩ : ∃ p size e, nx ys = (p, size, e) := ⟨_, _, _, rfl⟩
    by_cases he : e = 0
    · subst he
      have hs2 := nx_size hn
      have hlen := hat.1
      have hall := alls_ok hn
      have hcut := hat.cut (l := size) (k := m) (m := m) (by omega) (Nat.le_refl _) (Nat.le_refl _)
      rw [List.take_of_length_le (by omega)] at hcut
      have hsl := fun W : World => slb_lhm B m d .i64 .i64 .i64 (size : Int) (m : Int) (m : Int) W (by omega) (by omega) (by omega) (by omega)
      rw [Int.toNat_natCast, Int.toNat_natCast] at hsl
      rw [hall] at hal
      have HAL := Lib.hid hal
      have hSx := fun v : Value => (⟨alls (ys.drop size), by rw [hal]; simp⟩ : ∃ r, alls bs = (pre ++ [((v, p) : Piece)]).map (·.2) ++ r)
      clear hgb hgb' hall hal
      gi_wp2_with (refine ⟨trivial, ?_⟩; gi_at_call 35; refine (callsIn_wide.2 (hnext B m d ys p size 0 _ (hat.below' hbw) hmd hd hm2 hn)).mono ?_; rintro x W2 ⟨v, rfl, hown, hb2⟩; obtain ⟨fn, tmps, assign, body, hy, hR⟩ := hY pre (v, p) W2 (hJ _ _ _ hJp hb2) (hown.base hsz) (hSx v); dsimp only at hy)
      · refine hR.mono ?_
        rintro x W3 (⟨rfl, hJ3, hk3⟩ | ⟨rfl, hJx3⟩)
        · gi_wp2
          go_roundw
          case rel => exact ⟨pre ++ [(v, p)], _, _, _, _, rfl, hcut, by omega, by omega, by omega, by rw [HAL.out]; simp, hJ3, (hbw.trans (hb2.mono hbw.size)).trans hk3, Nat.le_trans hsz (Nat.le_trans hb2.size hk3.size)⟩
          case measure => simp; omega
        · gi_wp2
          refine bodyPost_ret (results_none rfl _ _ _) rfl ?_
          exact ⟨⟨_, rfl⟩, .inr ⟨pre ++ [(v, p)], hSx v, hJx3⟩⟩
    · have hne : ((e : Int) != 0) = true := by simp; omega
      have hall := alls_no hn he
      rw [hall, List.append_nil] at hal
      clear hgb hgb' hY
      gi_wp2_with (refine ⟨trivial, ?_⟩; gi_at_call 35; refine (callsIn_wide.2 (hnext B m d ys p size e _ (hat.below' hbw) hmd hd hm2 hn)).mono ?_; rintro x W2 ⟨v, rfl, hown, hb2⟩)
      all_goals (refine ⟨fun _ h => (by cases h), ?_⟩; gi_wp2)
      all_goals refine bodyPost_ret (results_none rfl _ _ _) rfl ?_
      all_goals exact ⟨⟨_, rfl⟩, .inl ⟨pre, hal.symm, hJ _ _ _ hJp hb2⟩⟩

theorem all_made (A : Option Addr) (n c : Nat) (w : World) :
    Calls Tryz.prog 159 #[.slice A n c] w fun e w' => e = .returned (.func (.func 178) #[] #[.pointer (some ⟨w.heap.size, 0, none⟩)]) ∧ w' = w.alloc (.cells #[.slice A n c] 40) := by
  go_enter Tryz.func159, Tryz.ntmps159
  go_wp2
  go_ret
  exact ⟨rfl, rfl⟩

theorem seqall_ok (hnext : NextOk) : AllOk := by
  intro A n c bs w00 W hx hnc hc hn2 hb
  refine (all_made A n c W).mono ?_
  rintro e W' ⟨rfl, rfl⟩
  refine ⟨_, _, rfl, enters_of Tryz.func178 (by kernel_rfl) rfl, (Below.refl _ _).alloc (Nat.le_refl _) _, fun w0 h0 => ?_⟩
  refine all_tells hnext w00 w0 A n c bs hx hnc hc hn2 ((hb.alloc hb.size _).trans (h0.mono (by have := hb.size; simp; omega))) _ ?_
  rw [h0.cell (by simp)]
  simp
end Go.Proofs.YtamglegdgcehaaaGreat
set_option linter.unusedVariables false
namespace Go.Proofs.YtamglegdgcehaaaGreat
open Go.RowKit Go.Shelf
attribute [local go_sem] Oper.semAt_some

set_option maxHeartbeats 1000000 in
theorem all_tellsN (hnext : NextOk) (w00 w0 : World) (A : Option Addr) (n c : Nat) (bs : List UInt8) (hx : At w00 A n bs) (hnc : n ≤ c) (hc : c ≤ 9223372036854775807) (hn2 : n ≤ 200000000000000) (h0 : Below w00.heap.size w00 w0)
    (gb : Nat) (hgb : w0.cell? ⟨gb, 0, none⟩ = some (.slice A n c)) :
    TellsN Tryz.prog 178 #[.pointer (some ⟨gb, 0, none⟩)] (fun x : Piece => #[x.1]) (fun x V W => Own W V.heap.size x.1 x.2) (Below w00.heap.size) (fun xs => xs.map (·.2) = alls bs) (fun pre => ∃ r, alls bs = pre.map (·.2) ++ r) w0 := by
  intro l J Jx W hW hJ hJx hY hJ0
  have hgb' : W.cell? ⟨gb, 0, none⟩ = some (.slice A n c) := by
    rw [hW.cell (World.block_lt_of_cell? w0 _ hgb), hgb]
  refine callsIn_of_wp Tryz.func178 rfl trivial ?_ rfl
  simp only [Tryz.ntmps178, List.size_toArray, List.length_cons, List.length_nil, Nat.reduceAdd, Nat.reduceSub, Array.replicate_succ, Array.replicate_zero, List.push_toArray, List.append_toArray, List.nil_append, List.cons_append]
  gi_wp2
  gi_loopw [3] (fun u wr => ∃ (pre : List Piece) (B : Option Addr) (m d : Nat) (ys : List UInt8), u = .slice B m d ∧ At w00 B m ys ∧ m ≤ d ∧ d ≤ 9223372036854775807 ∧ m ≤ 200000000000000 ∧ alls bs = pre.map (·.2) ++ alls ys ∧ J pre wr ∧ Below w00.heap.size w00 wr ∧ w0.heap.size ≤ wr.heap.size)
    (fun u _ => match u with | .slice _ m _ => m | _ => 0)
  case atStart => exact ⟨[], A, n, c, bs, rfl, hx, hnc, hc, hn2, rfl, hJ0, h0.trans (hW.mono h0.size), hW.size⟩
  case round =>
    obtain ⟨pre, B, m, d, ys, rfl, hat, hmd, hd, hm2, hal, hJp, hbw, hsz⟩ := hrel
    obtain ⟨p, size, e, hn⟩ : ∃ p size e, nx ys = (p, size, e) := ⟨_, _, _, rfl⟩
    by_cases he : e = 0
    · subst he
      have hs2 := nx_size hn
      have hlen := hat.1
      have hall := alls_ok hn
      have hcut := hat.cut (l := size) (k := m) (m := m) (by omega) (Nat.le_refl _) (Nat.le_refl _)
      rw [List.take_of_length_le (by omega)] at hcut
      have hsl := fun W : World => slb_lhm B m d .i64 .i64 .i64 (size : Int) (m : Int) (m : Int) W (by omega) (by omega) (by omega) (by omega)
      rw [Int.toNat_natCast, Int.toNat_natCast] at hsl
      rw [hall] at hal
      have HAL := Lib.hid hal
      have hSx := fun v : Value => (⟨alls (ys.drop size), by rw [hal]; simp⟩ : ∃ r, alls bs = (pre ++ [((v, p) : Piece)]).map (·.2) ++ r)
      clear hgb hgb' hall hal
      gi_wp2_with (refine ⟨trivial, ?_⟩; gi_at_call 35; refine (callsIn_wide.2 (hnext B m d ys p size 0 _ (hat.below' hbw) hmd hd hm2 hn)).mono ?_; rintro x W2 ⟨v, rfl, hown, hb2⟩; obtain ⟨fn, tmps, assign, body, hy, hR⟩ := hY pre (v, p) _ W2 hJp hb2 hown (hSx v); dsimp only at hy)
      · refine hR.mono ?_
        rintro x W3 (⟨rfl, hJ3, hk3⟩ | ⟨rfl, hJx3⟩)
        · gi_wp2
          go_roundw
          case rel => exact ⟨pre ++ [(v, p)], _, _, _, _, rfl, hcut, by omega, by omega, by omega, by rw [HAL.out]; simp, hJ3, (hbw.trans (hb2.mono hbw.size)).trans hk3, Nat.le_trans hsz (Nat.le_trans hb2.size hk3.size)⟩
          case measure => simp; omega
        · gi_wp2
          refine bodyPost_ret (results_none rfl _ _ _) rfl ?_
          exact ⟨⟨_, rfl⟩, .inr ⟨pre ++ [(v, p)], hSx v, hJx3⟩⟩
    · have hne : ((e : Int) != 0) = true := by simp; omega
      have hall := alls_no hn he
      rw [hall, List.append_nil] at hal
      clear hgb hgb' hY
      gi_wp2_with (refine ⟨trivial, ?_⟩; gi_at_call 35; refine (callsIn_wide.2 (hnext B m d ys p size e _ (hat.below' hbw) hmd hd hm2 hn)).mono ?_; rintro x W2 ⟨v, rfl, hown, hb2⟩)
      all_goals (refine ⟨fun _ h => (by cases h), ?_⟩; gi_wp2)
      all_goals refine bodyPost_ret (results_none rfl _ _ _) rfl ?_
      all_goals exact ⟨⟨_, rfl⟩, .inl ⟨pre, hal.symm, hJ _ _ _ hJp hb2⟩⟩

theorem all_okN (hnext : NextOk) : AllOkN := by
  intro A n c bs w00 W hx hnc hc hn2 hb
  refine (all_made A n c W).mono ?_
  rintro e W' ⟨rfl, rfl⟩
  refine ⟨_, _, rfl, enters_of Tryz.func178 (by kernel_rfl) rfl, (Below.refl _ _).alloc (Nat.le_refl _) _, fun w0 h0 => ?_⟩
  refine all_tellsN hnext w00 w0 A n c bs hx hnc hc hn2 ((hb.alloc hb.size _).trans (h0.mono (by have := hb.size; simp; omega))) _ ?_
  rw [h0.cell (by simp)]
  simp
end Go.Proofs.YtamglegdgcehaaaGreat
set_option linter.unusedVariables false
namespace Go.Proofs.YtamglegdgcehaaaGreat
open Go.RowKit Go.Shelf
attribute [local go_sem] Oper.semAt_some

theorem info40 : (Tryz.prog.info? 40).map (fun i => (i.zero, i.size, i.bytes)) = some (some (.slice none 0 0), 1, 24) := by kernel_rfl

/-- Bytes of the call's own stay where a row of other cells is written. -/
theorem Own.grown {W W' : World} {B B' n : Nat} {x v : Value} {xs : List UInt8} {e : TypeId} {size : Nat} {ys : List Value} (ho : Own W B x xs) (hr : W.ownsRow B' e size v n ys) (hg : W.grownBy W' v.ownBlock) (he : e ≠ 5) : Own W' B x xs := by
  refine World.ownsRow.kept ho hg ?_
  rcases ho.2 with ⟨rfl, _⟩ | ⟨g, cap, cur, rfl, hb, hh, _⟩
  · exact .inl rfl
  · refine .inr fun h => ?_
    rcases hr.2 with ⟨rfl, _⟩ | ⟨g', cap', cur', rfl, hb', hh', _⟩
    · cases h
    · simp only [Value.ownBlock, Option.some.injEq] at h
      subst h
      rw [hh] at hh'
      simp only [Option.some.injEq, Obj.cells.injEq] at hh'
      exact he hh'.2.1.symm
theorem Own.box {W : World} {B g : Nat} {x : Value} {xs : List UInt8} (ho : Own W B x xs) (hg : g < B) (u : Value) : Own (W.setCell ⟨g, 0, none⟩ u) B x xs := ho.far hg u

end Go.Proofs.YtamglegdgcehaaaGreat
