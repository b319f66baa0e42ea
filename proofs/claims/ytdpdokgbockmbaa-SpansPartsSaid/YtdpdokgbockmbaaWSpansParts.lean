/-
  SpansParts: the walk.
-/
import Derived.Test.YtdpdokgbockmbaaSpWorks
set_option linter.unusedVariables false
set_option linter.unusedSimpArgs false
set_option maxRecDepth 100000
namespace Go.Proofs.Ytdpdokgbockmbaa
open Go.RowKit

theorem parts_all {a b X Y Z : List Sn} (hX : Spe wJ a [] X) (hY : Spe wB a b Y) (hZ : Spe wL a b Z) : Spe wJ (Y ++ Z) [] X → True := fun _ => trivial
theorem parts_spe {a b X Y Z : List Sn} (hX : Spe wJ a [] X) (hY : Spe wB a b Y) (hZ : Spe wL a b Z) : ∀ k, inI X k = wJ (inI (Y ++ Z) k) (inI [] k) := fun k => by
  rw [hX.has, inI_app, hY.has, hZ.has]
  unfold wJ wB wL
  cases inI a k <;> cases inI b k <;> rfl
theorem parts_none {a b Y Z : List Sn} (hY : Spe wB a b Y) (hZ : Spe wL a b Z) : Spe wB Y Z [] := ⟨trivial, fun k => by
  rw [hY.has, hZ.has]
  unfold wB wL
  cases inI a k <;> cases inI b k <;> rfl, fun s hs => (by cases hs), Nat.zero_le _⟩
theorem parts_back {a b Y : List Sn} (hY : Spe wB a b Y) : Spe wB b a Y := ⟨hY.ord, fun k => by
  rw [hY.has]
  unfold wB
  cases inI a k <;> cases inI b k <;> rfl, hY.siz, by have := hY.cnt; omega⟩
/-- A list in order that has what others have is theirs, however long. -/
theorem spe_of_has {W : Bool → Bool → Bool} {a b X : List Sn} (hW : W false false = false) (ha : MaySp a) (hb : MaySp b) (ho : OrdS X) (hh : ∀ k, inI X k = W (inI a k) (inI b k)) : Spe W a b X := by
  obtain ⟨Y, hY⟩ := spe_ex W hW ha hb
  obtain rfl : X = Y := ordS_one ho hY.ord (fun k => by rw [hh, hY.has])
  exact hY
theorem may_app {a b : List Sn} (ha : MaySp a) (hb : MaySp b) : MaySp (a ++ b) := fun s hs => by
  rcases List.mem_append.1 hs with h | h
  · exact ha s h
  · exact hb s h
set_option maxHeartbeats 8000000 in
theorem spansParts_walk (A : Option Addr) (n c : Nat) (B : Option Addr) (m d : Nat) (w : World) (ha0 : ∃ l : List Sn, SnAt w A n l ∧ ∀ i (h : i < l.length), (l[i]'h).f.size ≤ 562949953421312 ∧ (l[i]'h).t.size ≤ 562949953421312) (hnc : n ≤ c) (hc : c ≤ 9223372036854775807)
    (hb0 : ∃ l : List Sn, SnAt w B m l ∧ ∀ i (h : i < l.length), (l[i]'h).f.size ≤ 562949953421312 ∧ (l[i]'h).t.size ≤ 562949953421312) (hmd : m ≤ d) (hd : d ≤ 9223372036854775807) :
    Calls Try.prog 5 #[.slice A n c, .slice B m d] w fun e w' => e = .returned (.bool true) ∧ Below w.heap.size w w' := by
  obtain ⟨a, ha, -⟩ := ha0
  obtain ⟨b, hb, -⟩ := hb0
  have hla := Lib.hid ha.1
  have hlb := Lib.hid hb.1
  have HW := Lib.hid (fun V => spWorks V)
  have HMA := Lib.hid (fun V (h : SnAt V A n a) => spMay A n c a V h (by omega))
  have HMB := Lib.hid (fun V (h : SnAt V B m b) => spMay B m d b V h (by omega))
  have HK := Lib.hid (((Kp.start w).sn ha).sn hb)
  cases hmay : mayL a with
  | false =>
    rw [hmay] at HMA
    clear ha hb hmay
    go_enter Try.func5, Try.ntmps5
    go_wp2_with (first
      | (go_at_call 8; refine (HW.out _).mono ?_; rintro e w1 ⟨rfl, hb⟩; have HK := Lib.hid (HK.out.keep hb); clear hb)
      | (go_at_call 9; (with_reducible refine (HMA.out _ HK.out.now.1.2).mono ?_); rintro e w1 ⟨rfl, hb⟩; have HK := Lib.hid (HK.out.keep hb); clear hb))
    go_ret
    exact ⟨rfl, HK.out.bel⟩
  | true =>
    rw [hmay] at HMA
    obtain ⟨hlen, hma⟩ := mayL_may hmay
    clear hmay
    cases hmay : mayL b with
    | false =>
      rw [hmay] at HMB
      clear ha hb hmay hlen hma
      go_enter Try.func5, Try.ntmps5
      go_wp2_with (first
        | (go_at_call 8; refine (HW.out _).mono ?_; rintro e w1 ⟨rfl, hb⟩; have HK := Lib.hid (HK.out.keep hb); clear hb)
        | (go_at_call 9; (first | (with_reducible refine (HMA.out _ HK.out.now.1.2).mono ?_) | (with_reducible refine (HMB.out _ HK.out.now.2).mono ?_)); rintro e w1 ⟨rfl, hb⟩; have HK := Lib.hid (HK.out.keep hb); clear hb))
      go_ret
      exact ⟨rfl, HK.out.bel⟩
    | true =>
      rw [hmay] at HMB
      obtain ⟨hlenb, hmb⟩ := mayL_may hmay
      obtain ⟨X, hX⟩ := spe_ex wJ rfl hma (b := []) (fun s hs => by cases hs)
      obtain ⟨Y, hY⟩ := spe_ex wB rfl hma hmb
      obtain ⟨Z, hZ⟩ := spe_ex wL rfl hma hmb
      obtain ⟨NX, hNX⟩ : ∃ N, X.length = N := ⟨_, rfl⟩
      obtain ⟨NY, hNY⟩ : ∃ N, Y.length = N := ⟨_, rfl⟩
      obtain ⟨NZ, hNZ⟩ : ∃ N, Z.length = N := ⟨_, rfl⟩
      have hn3 : n ≤ 300 := by rw [← hla.out]; exact hlen
      have hm3 : m ≤ 300 := by rw [← hlb.out]; exact hlenb
      have hNXl : NX ≤ 600 := by have := hX.cnt; simp at this; omega
      have hNYl : NY ≤ 1200 := by have := hY.cnt; omega
      have hNZl : NZ ≤ 1200 := by have := hZ.cnt; omega
      have JA := Lib.hid (fun V (h : SnAt V A n a) => spJoin (c := c) h (by omega) hma hX hNX)
      have BA := Lib.hid (fun V (h : SnAt V A n a) (h2 : SnAt V B m b) => spBoth (c := c) (d := d) h h2 (by omega) (by omega) hma hmb hY hNY)
      have LA := Lib.hid (fun V (h : SnAt V A n a) (h2 : SnAt V B m b) => spLess (c := c) (d := d) h h2 (by omega) (by omega) hma hmb hZ hNZ)
      have BB := Lib.hid (fun V (h : SnAt V A n a) (h2 : SnAt V B m b) => spBoth (c := d) (d := c) h2 h (by omega) (by omega) hmb hma (parts_back hY) hNY)
      have SX := Lib.hid (fun V E C E2 C2 (h : SnAt V E NX X) (h2 : SnAt V E2 NX X) => spSame E E2 NX NX C C2 X X V h h2 (by omega) (by omega))
      rw [decide_eq_true rfl] at SX
      have SY := Lib.hid (fun V E C E2 C2 (h : SnAt V E NY Y) (h2 : SnAt V E2 NY Y) => spSame E E2 NY NY C C2 Y Y V h h2 (by omega) (by omega))
      rw [decide_eq_true rfl] at SY
      by_cases hbig : 1000 < NY + NZ
      · have hbi : (1000 : Int) < (NY : Int) + (NZ : Int) := by omega
        clear ha hb hmay hlen hma hmb hlenb hX hY hZ hNX hNY hNZ
        go_enter Try.func5, Try.ntmps5
        go_wp2_with (first
          | (go_at_call 8; refine (HW.out _).mono ?_; rintro e w1 ⟨rfl, hb⟩; have HK := Lib.hid (HK.out.keep hb); clear hb)
          | (go_at_call 9; (first | (with_reducible refine (HMA.out _ HK.out.now.1.2).mono ?_) | (with_reducible refine (HMB.out _ HK.out.now.2).mono ?_)); rintro e w1 ⟨rfl, hb⟩; have HK := Lib.hid (HK.out.keep hb); clear hb)
          | (go_at_call 10; (with_reducible refine (JA.out _ HK.out.now.1.2).mono ?_); rintro e w1 ⟨E, C, rfl, hs, -, -, hb⟩; have HK := Lib.hid (HK.out.keep hb); clear hb hs)
          | (go_at_call 11; (with_reducible refine (BA.out _ HK.out.now.1.2 HK.out.now.2).mono ?_); rintro e w1 ⟨E, C, rfl, hs, -, -, hb⟩; have HK := Lib.hid (HK.out.keep hb); clear hb hs)
          | (go_at_call 12; (with_reducible refine (LA.out _ HK.out.now.1.2 HK.out.now.2).mono ?_); rintro e w1 ⟨E, C, rfl, hs, -, -, hb⟩; have HK := Lib.hid (HK.out.keep hb); clear hb hs))
        go_ret
        exact ⟨rfl, HK.out.bel⟩
      · have hbi : ¬ (1000 : Int) < (NY : Int) + (NZ : Int) := by omega
        have JYZ := Lib.hid (fun V E C (h : SnAt V E (NY + NZ) (Y ++ Z)) => spJoin (c := C) h (by omega) (may_app hY.may hZ.may) (spe_of_has rfl (may_app hY.may hZ.may) (fun s hs => by cases hs) hX.ord (parts_spe hX hY hZ)) hNX)
        have BYZ := Lib.hid (fun V E C E2 C2 (h : SnAt V E NY Y) (h2 : SnAt V E2 NZ Z) => spBoth (c := C) (d := C2) h h2 (by omega) (by omega) hY.may hZ.may (parts_none hY hZ) rfl)
        have HB1 := Lib.hid (show NY * 32 ≤ 140737488355328 by omega)
        have HB2 := Lib.hid (show (NY + NZ) * 32 ≤ 140737488355328 by omega)
        clear ha hb hmay hlen hma hmb hlenb hX hY hZ hNX hNY hNZ
        go_enter Try.func5, Try.ntmps5
        go_wp2_with (first
          | (go_at_call 8; refine (HW.out _).mono ?_; rintro e w1 ⟨rfl, hb⟩; have HK := Lib.hid (HK.out.keep hb); clear hb)
          | (go_at_call 9; (first | (with_reducible refine (HMA.out _ HK.out.now.1.2).mono ?_) | (with_reducible refine (HMB.out _ HK.out.now.2).mono ?_)); rintro e w1 ⟨rfl, hb⟩; have HK := Lib.hid (HK.out.keep hb); clear hb)
          | (go_at_call 10; (first
              | (with_reducible refine (JA.out _ HK.out.now.1.2).mono ?_)
              | (with_reducible refine (JYZ.out _ _ _ HK.out.now.2).mono ?_)); rintro e w1 ⟨EX, CX, rfl, hs, -, -, hb⟩; have HK := Lib.hid ((HK.out.keep hb).sn hs); clear hb hs)
          | (go_at_call 11; (first
              | (with_reducible refine (BA.out _ HK.out.now.1.1.2 HK.out.now.1.2).mono ?_)
              | (with_reducible refine (BYZ.out _ _ _ _ _ HK.out.now.1.1.1.2 HK.out.now.1.1.2).mono ?_)
              | (with_reducible refine (BB.out _ HK.out.now.1.1.1.1.1.1.1.2 HK.out.now.1.1.1.1.1.1.2).mono ?_)); rintro e w1 ⟨EY, CY, rfl, hs, -, -, hb⟩; have HK := Lib.hid ((HK.out.keep hb).sn hs); clear hb hs)
          | (go_at_call 12; (with_reducible refine (LA.out _ HK.out.now.1.1.1.2 HK.out.now.1.1.2).mono ?_); rintro e wz ⟨EZ, CZ, rfl, hs, -, -, hb⟩; have HK := Lib.hid ((HK.out.keep hb).sn hs); have HK0 := Lib.hid HK.out; clear hb hs)
          | (at_builtin; refine wpList_appSn rfl _ _ rfl wz.heap.size (.slice none 0 0) 0 [] Y rfl (SnRow.nil _ _) EY NY CY rfl HK0.out.now.1.2 (by have := HB1.out; omega) (Nat.le_refl _) ?_; intro v1 wy hy1 hg1; rw [Nat.zero_add, List.nil_append] at hy1; have HYY := Lib.hid hy1; have HBY := Lib.hid ((Below.refl wz.heap.size wz).grown hg1 (Nat.le_refl _) (fun k e => nomatch e)); obtain ⟨Ay, cy, rfl, -, -, -⟩ := hy1.form; clear hy1 hg1)
          | (at_builtin; go_loud (refine wpList_appSn rfl _ _ rfl wz.heap.size (.slice Ay NY cy) NY Y Z rfl HYY.out EZ NZ CZ rfl (HK0.out.now.2.below HBY.out) HB2.out HBY.out.size ?_); intro v2 wu hu hg2; obtain ⟨Au, cu, rfl, hat, -, -⟩ := hu.form; have HBU := HBY.out.grown hg2 HBY.out.size (fun k e => (World.ownsRow.lt HYY.out k e).1); have HK := Lib.hid ((HK0.out.keep HBU).sn hat); clear hu hg2 HBU hat)
          | (go_at_call 15; (first
              | (with_reducible refine (SX.out _ _ _ _ _ HK.out.now.1.1.2 HK.out.now.1.1.1.1.1.1.2).mono ?_)
              | (with_reducible refine (SY.out _ _ _ _ _ HK.out.now.2 HK.out.now.1.1.1.1.1.2).mono ?_)); rintro e w1 ⟨rfl, hb⟩; have HK := Lib.hid (HK.out.keep hb); clear hb))
        go_ret
        exact ⟨rfl, HK.out.bel⟩
end Go.Proofs.Ytdpdokgbockmbaa
