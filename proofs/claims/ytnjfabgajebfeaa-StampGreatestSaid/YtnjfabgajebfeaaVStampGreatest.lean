/-
  StampGreatest: the walk, over what the code's functions promise.
-/
import Derived.Test.YtnjfabgajebfeaaSAwake
import Derived.Test.YtnjfabgajebfeaaSMaxRef
import Derived.Test.YtnjfabgajebfeaaSList
import Derived.Test.YtnjfabgajebfeaaSTurn
import Derived.Deep.QuietTactic
import Derived.Deep.RegionHeld3
import Derived.BigQuiet
import Derived.Lib.MinMax
set_option linter.unusedVariables false
namespace Go.Proofs.Ytnjfabgajebfeaa
open Go.RowKit

abbrev SG (W : World) (g : Nat) (a b : Int) (V : World) : Prop := V.cell? ⟨g, 0, none⟩ = some (.int .i64 a) ∧ V.cell? ⟨g, 1, none⟩ = some (.int .i64 b) ∧ Below W.heap.size W V
theorem SG.drew {W V : World} {g : Nat} {a b : Int} (h : SG W g a b V) : SG W g a b V.drew := ⟨h.1, h.2.1, h.2.2.drew⟩
theorem SG.call {W V : World} {g : Nat} {a b : Int} {f : FuncId} {args : Array Value} {v : Value} (h : SG W g a b V) (hc : Calls Try.prog f args V fun e V' => e = .returned v ∧ Below V.heap.size V V') :
    Calls Try.prog f args V fun e V' => e = .returned v ∧ SG W g a b V' :=
  hc.mono fun _ _ hh => ⟨hh.1, (hh.2.cell (World.block_lt_of_cell? V _ h.1)).trans h.1, (hh.2.cell (World.block_lt_of_cell? V _ h.2.1)).trans h.2.1, h.2.2.trans (hh.2.mono h.2.2.size)⟩

set_option maxHeartbeats 8000000 in
theorem stampGreatest_w (hM : MaxOk) (hS : LessOk) (hN : NextSOk) (hP : PrevOk) (hL : LaterOk) (A : Option Addr) (n c : Nat) (l : List (Int × Int)) (f : Int) (w : World) (hx : Stamps w A n l) (hnc : n ≤ c) (hk : c ≤ 8796093022202) (hz : A = none → c = 0)
    (hi : ∀ x ∈ l, (-9223372036854775808 ≤ x.1 ∧ x.1 ≤ 9223372036854775807) ∧ (-9223372036854775808 ≤ x.2 ∧ x.2 ≤ 9223372036854775807)) (hf : -9223372036854775808 ≤ f ∧ f ≤ 9223372036854775807) :
    Calls Try.prog 9 #[.slice A n c, .int .i64 f] w fun e w' => e = .returned (.bool true) ∧ Below w.heap.size w w' := by
  have AW := Lib.hid (awake hS hN hP hL)
  by_cases h0 : n = 0
  · subst h0
    have M1 := Lib.hid (fun V => hM none 0 0 [] V (Stamps.nil V none) (by omega))
    clear hM hS hN hP hL hi hz
    go_enter Try.func9, Try.ntmps9
    go_wp2_with fail
    refine (M1.out _).mono ?_
    rintro e w1 ⟨rfl, hb1⟩
    go_wp2_with fail
    refine (AW.out _).mono ?_
    rintro e w2 ⟨rfl, hb2⟩
    have hB2 := hb1.trans (hb2.mono hb1.size)
    go_wp2
    go_ret
    exact ⟨rfl, hB2⟩
  · obtain ⟨m, hm⟩ : ∃ m, m = min n 50 := ⟨_, rfl⟩
    have hm1 : (min (n : Int) 50).toNat = m := by omega
    have hm2 : min (n : Int) 50 = (m : Int) := by omega
    have hm0 : ((m : Int) == 0) = false := by simp; omega
    have hmb : 0 < m ∧ m ≤ 50 ∧ m ≤ n := by omega
    have hx1 := hx.upto m hmb.2.2
    have HL : (l.take m).length = m := hx1.1
    generalize l.take m = q at hx1 HL
    obtain ⟨m1, m2, hmx⟩ : ∃ u v, mx q = (u, v) := ⟨_, _, rfl⟩
    have HMX := Lib.hid hmx
    have M1 := Lib.hid (fun A c V (h : Stamps V A m q) => hM A m c q V h (by omega))
    have M2 := Lib.hid hM
    rw [hmx] at M1
    obtain ⟨s, hs⟩ : ∃ s : Nat, (s : Int) = f % (m : Int) := ⟨(f % (m : Int)).toNat, Int.toNat_of_nonneg (Int.emod_nonneg _ (by omega))⟩
    have hsm : s < m := by have := Int.emod_lt_of_pos f (show (0 : Int) < m by omega); omega
    have BR := Lib.hid (fun V => bring f (m : Int) V (by omega) (by omega))
    rw [← hs] at BR
    have LL := Lib.hid HL
    have S1 := Lib.hid hS
    clear hm hM hS hN hP hL hi hz hx hmx hs hf HL
    go_enter Try.func9, Try.ntmps9
    go_wp2_with fail
    clear hm1 hm2 hm0
    refine (M1.out _ _ _ hx1).mono ?_
    rintro e w1 ⟨rfl, hb1⟩
    have hx2 := (hx1.below' hb1).below' ((Below.refl _ _).alloc (Nat.le_refl _) (.cells #[.int .i64 m1, .int .i64 m2] 23))
    have hO := Box.new w1 m1 m2
    have hB1 := hb1.alloc hb1.size (.cells #[.int .i64 m1, .int .i64 m2] 23)
    clear hx1
    go_wp2_with fail
    have hgz : w1.heap.size < (w1.alloc (.cells #[.int .i64 m1, .int .i64 m2] 23)).heap.size := by simp
    generalize w1.alloc (.cells #[.int .i64 m1, .int .i64 m2] 23) = W at hx2 hO hB1 hgz ⊢
    generalize w1.heap.size = g at hO hgz ⊢
    clear hb1
    go_loopw [6, 7, 8] (fun fd tv i wr => ∃ (k : Nat) (fb : Bool) (r : List (Int × Int)), k ≤ m ∧ i = .int .i64 k ∧ fd = .bool fb ∧ Hid (fb = decide ((m1, m2) ∈ q.take k)) ∧ Hid (r = rt q s k) ∧ Row wr W.heap.size tv k r ∧ Below W.heap.size W wr) (fun _ _ i _ => m - (intOf i).toNat)
    case atStart => exact ⟨0, false, [], Nat.zero_le _, rfl, rfl, Lib.hid rfl, Lib.hid rfl, World.ownsRow_nil _ _ _ _, Below.refl _ _⟩
    case round =>
      obtain ⟨k, fb, r, hk', rfl, rfl, HF, HR, hrow, hBr⟩ := hrel
      have hOr := hO.keep hBr
      have o0 := hOr.c0
      have o1 := hOr.c1
      have hxr := hx2.below' hBr
      by_cases hlt : k < m
      · obtain ⟨b, o, rfl, hc⟩ := hxr.2 (by omega)
        have hkl : k < q.length := by rw [LL.out]; exact hlt
        have hrl : (k + s) % m < m := Nat.mod_lt _ (by omega)
        obtain ⟨e1, e2⟩ := hc k hkl
        obtain ⟨g1, g2⟩ := hc ((k + s) % m) (by rw [LL.out]; exact hrl)
        have hge := (mx_max q (by intro h; rw [h] at hkl; simp at hkl)).2 q[k] (List.getElem_mem hkl)
        rw [HMX.out] at hge
        have HF2 : decide ((m1, m2) ∈ q.take (k + 1)) = (fb || decide (q[k] = (m1, m2))) := by
          have h1 : ((m1, m2) ∈ q.take k ++ [q[k]]) ↔ ((m1, m2) ∈ q.take k ∨ q[k] = (m1, m2)) := by
            rw [List.mem_append, List.mem_singleton]
            exact ⟨fun h => h.imp id Eq.symm, fun h => h.imp id Eq.symm⟩
          rw [HF.out, List.take_succ_eq_append_getElem hkl, decide_eq_decide.2 h1, Bool.decide_or]
        have HR2 : rt q s (k + 1) = r ++ [q[(k + s) % m]'(by rw [LL.out]; exact hrl)] := by
          rw [HR.out, rt_succ, List.getD_eq_getElem?_getD]
          congr 1
          have : (k + s) % q.length < q.length := Nat.mod_lt _ (by omega)
          rw [List.getElem?_eq_getElem this]
          simp only [LL.out, Option.getD_some]
        have hj1 : ((k : Int) + (s : Int)) % (m : Int) = (((k + s) % m : Nat) : Int) := by simp
        obtain ⟨v, hv⟩ : ∃ v, v = q[(k + s) % m]'(by rw [LL.out]; exact hrl) := ⟨_, rfl⟩
        obtain ⟨u, hu⟩ : ∃ u, u = q[k] := ⟨_, rfl⟩
        rw [← hv] at g1 g2 HR2
        rw [← hu] at e1 e2 hge HF2
        clear hu hv
        generalize (k + s) % m = j at g1 g2 hrl hj1
        obtain ⟨u1, u2⟩ := u
        obtain ⟨v1, v2⟩ := v
        dsimp only at e1 e2 g1 g2
        have L1 := Lib.hid (fun V => S1.out m1 m2 u1 u2 V)
        rw [hge] at L1
        clear hge
        replace HR2 := Lib.hid HR2
        have hS0 : SE W g b (o + k * 2) m1 m2 u1 u2 wr := ⟨o0, o1, e1, e2, hBr⟩
        clear hc hxr
        obtain ⟨x1, p1⟩ : ∃ x, (u1 == m1) = x := ⟨_, rfl⟩
        obtain ⟨x2, p2⟩ : ∃ x, (u2 == m2) = x := ⟨_, rfl⟩
        have HF3 := Lib.hid (show decide ((m1, m2) ∈ q.take (k + 1)) = (fb || (x1 && x2)) by
          rw [HF2, ← p1, ← p2]
          congr 1
          rw [Bool.eq_iff_iff]
          simp)
        clear HF2 HF o0 o1
        have hrN : 0 ≤ ((j : Nat) : Int) ∧ ((j : Nat) : Int) < (m : Int) := ⟨by omega, by omega⟩
        cases fb with
        | true =>
          all_goals
            go_wp2_with fail
            go_quiet (fail)
            have hSq : SE W g b (o + k * 2) m1 m2 u1 u2 (wr.drewN nq) := ⟨hS0.1, hS0.2.1, hS0.2.2.1, hS0.2.2.2.1, below_drewN hBr nq⟩
            have hSd := hSq.drew
            have hrq : Row (wr.drewN nq) W.heap.size u7 k r := hrow
            have hB2 := below_drewN hBr nq
            have f1 : (wr.drewN nq).cell? ⟨b, o + j * 2, none⟩ = some (.int .i64 v1) := g1
            have f2 : (wr.drewN nq).cell? ⟨b, o + j * 2 + 1, none⟩ = some (.int .i64 v2) := g2
            clear hS0 hrow hBr g1 g2 e1 e2
            generalize wr.drewN nq = wq at hSq hSd hrq hB2 f1 f2 ⊢
            have hrd : Row wq.drew W.heap.size u7 k r := hrq
            have f1d : wq.drew.cell? ⟨b, o + j * 2, none⟩ = some (.int .i64 v1) := f1
            have f2d : wq.drew.cell? ⟨b, o + j * 2 + 1, none⟩ = some (.int .i64 v2) := f2
            go_wp2_with fail
            go_region_with (first | (go_at_call 13; refine (SE.call (by first | assumption | exact hSq | exact hSd) (L1.out _)).mono ?_; rintro e w2 ⟨rfl, hS2, hb2⟩; have hr2 := hrd.keep hb2; have i1 := (hb2.cell (World.block_lt_of_cell? _ _ f1d)).trans f1d; have i2 := (hb2.cell (World.block_lt_of_cell? _ _ f2d)).trans f2d))
            all_goals (clear hSq hSd hrq hrd f1 f2 f1d f2d hb2 hB2; obtain ⟨_, _, _, _, hb3⟩ := hS2; go_wp2_with fail)
            all_goals
              refine (BR.out _).mono ?_
              rintro e w3 ⟨rfl, rfl⟩
              have hbx := Box.new w2 v1 v2
              have hsl : Stamps (w2.alloc (.cells #[.int .i64 v1, .int .i64 v2] 23)) (some ⟨w2.heap.size, 0, none⟩) 1 [(v1, v2)] := ⟨rfl, fun _ => ⟨_, _, rfl, fun t ht => by
                obtain rfl : t = 0 := by simpa using ht
                exact ⟨hbx.c0, hbx.c1⟩⟩⟩
              have hs3 : W.heap.size ≤ w2.heap.size := hb3.size
              go_wp2_with (at_builtin; refine wpList_appS rfl _ _ rfl W.heap.size u7 k r [(v1, v2)] rfl (hr2.keep ((Below.refl _ _).alloc (Nat.le_refl _) _)) _ 1 1 rfl hsl (by omega) (by simp; omega) ?_; intro v4 w4 hrow4 hg4)
              have hB4 : Below W.heap.size W w4 := (hb3.alloc hs3 _).grown hg4 (by simp; omega) (fun j hj => (World.ownsRow.lt hr2 j hj).1)
              go_roundw
              case rel => exact ⟨k + 1, _, r ++ [(v1, v2)], by omega, by go_num, rfl, Lib.hid HF3.out.symm, Lib.hid HR2.out.symm, hrow4, hB4⟩
              case measure => simp [intOf]; omega
        | false =>
          cases x1 <;> cases x2
          all_goals
            go_wp2_with fail
            go_quiet (fail)
            have hSq : SE W g b (o + k * 2) m1 m2 u1 u2 (wr.drewN nq) := ⟨hS0.1, hS0.2.1, hS0.2.2.1, hS0.2.2.2.1, below_drewN hBr nq⟩
            have hSd := hSq.drew
            have hrq : Row (wr.drewN nq) W.heap.size u7 k r := hrow
            have hB2 := below_drewN hBr nq
            have f1 : (wr.drewN nq).cell? ⟨b, o + j * 2, none⟩ = some (.int .i64 v1) := g1
            have f2 : (wr.drewN nq).cell? ⟨b, o + j * 2 + 1, none⟩ = some (.int .i64 v2) := g2
            clear hS0 hrow hBr g1 g2 e1 e2
            generalize wr.drewN nq = wq at hSq hSd hrq hB2 f1 f2 ⊢
            have hrd : Row wq.drew W.heap.size u7 k r := hrq
            have f1d : wq.drew.cell? ⟨b, o + j * 2, none⟩ = some (.int .i64 v1) := f1
            have f2d : wq.drew.cell? ⟨b, o + j * 2 + 1, none⟩ = some (.int .i64 v2) := f2
            go_wp2_with fail
            go_region_with (first | (go_at_call 13; refine (SE.call (by first | assumption | exact hSq | exact hSd) (L1.out _)).mono ?_; rintro e w2 ⟨rfl, hS2, hb2⟩; have hr2 := hrd.keep hb2; have i1 := (hb2.cell (World.block_lt_of_cell? _ _ f1d)).trans f1d; have i2 := (hb2.cell (World.block_lt_of_cell? _ _ f2d)).trans f2d))
            all_goals (clear hSq hSd hrq hrd f1 f2 f1d f2d hb2 hB2; obtain ⟨_, _, _, _, hb3⟩ := hS2; go_wp2_with fail)
            all_goals
              refine (BR.out _).mono ?_
              rintro e w3 ⟨rfl, rfl⟩
              have hbx := Box.new w2 v1 v2
              have hsl : Stamps (w2.alloc (.cells #[.int .i64 v1, .int .i64 v2] 23)) (some ⟨w2.heap.size, 0, none⟩) 1 [(v1, v2)] := ⟨rfl, fun _ => ⟨_, _, rfl, fun t ht => by
                obtain rfl : t = 0 := by simpa using ht
                exact ⟨hbx.c0, hbx.c1⟩⟩⟩
              have hs3 : W.heap.size ≤ w2.heap.size := hb3.size
              go_wp2_with (at_builtin; refine wpList_appS rfl _ _ rfl W.heap.size u7 k r [(v1, v2)] rfl (hr2.keep ((Below.refl _ _).alloc (Nat.le_refl _) _)) _ 1 1 rfl hsl (by omega) (by simp; omega) ?_; intro v4 w4 hrow4 hg4)
              have hB4 : Below W.heap.size W w4 := (hb3.alloc hs3 _).grown hg4 (by simp; omega) (fun j hj => (World.ownsRow.lt hr2 j hj).1)
              go_roundw
              case rel => exact ⟨k + 1, _, r ++ [(v1, v2)], by omega, by go_num, rfl, Lib.hid HF3.out.symm, Lib.hid HR2.out.symm, hrow4, hB4⟩
              case measure => simp [intOf]; omega
      · obtain rfl : k = m := by omega
        obtain ⟨A2, c2, rfl, hxt, _, _⟩ := hrow.form
        have hmr : mx r = (m1, m2) := by rw [HR.out, ← HMX.out, ← rt_mx (l := q) (s := s) (by rw [LL.out]; exact hsm), LL.out]
        have hfb : fb = true := by
          rw [HF.out, List.take_of_length_le (by rw [LL.out]; exact Nat.le_refl _), ← HMX.out]
          exact decide_eq_true (mx_max q (by intro h; have := LL.out; rw [h] at this; simp at this; omega)).1
        subst hfb
        have hS0 : SG W g m1 m2 wr := ⟨o0, o1, hBr⟩
        have hSd := hS0.drew
        have hxd : Stamps wr.drew A2 k r := hxt
        have MM := Lib.hid (show Calls Try.prog 16 #[.slice A2 k c2] wr.drew fun e w' => e = .returned (sv m1 m2) ∧ Below wr.drew.heap.size wr.drew w' by
          have h := M2.out A2 k c2 r wr.drew hxd (by omega)
          rw [hmr] at h
          exact h)
        have z1 : (m1 == m1) = true := beq_self_eq_true _
        have z2 : (m2 == m2) = true := beq_self_eq_true _
        clear hx2 hxr hrow HF HR hmr hxt hxd o0 o1 hBr M1 M2 S1 LL HMX BR
        go_wp2_with fail
        go_region_held3 (fun V => V.cell? ⟨g, 0, none⟩ = some (.int .i64 m1) ∧ V.cell? ⟨g, 1, none⟩ = some (.int .i64 m2) ∧ Below W.heap.size W V)
          (first | with_reducible assumption | with_reducible exact hS0 | with_reducible exact hSd)
          (first
            | (go_at_call 16; refine (SG.call (by first | assumption | exact hSd) MM.out).mono ?_; rintro e w2 ⟨rfl, hS2⟩)
            | (go_at_call 15; refine (SG.call (by first | assumption | exact hSd) (AW.out _)).mono ?_; rintro e w3 ⟨rfl, hS3⟩))
        all_goals go_wp2
        all_goals go_ret
        all_goals exact ⟨rfl, hB1.trans (hS3.2.2.mono hB1.size)⟩
end Go.Proofs.Ytnjfabgajebfeaa
