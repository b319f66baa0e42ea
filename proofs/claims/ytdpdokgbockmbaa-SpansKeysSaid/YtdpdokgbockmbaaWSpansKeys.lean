/-
  SpansKeys: the walk.
-/
import Derived.Test.YtdpdokgbockmbaaSpWorks
set_option linter.unusedVariables false
set_option linter.unusedSimpArgs false
set_option maxRecDepth 100000
namespace Go.Proofs.Ytdpdokgbockmbaa
open Go.RowKit

theorem inI_take {l : List Sn} {k : Nat} (h : k < l.length) (key : ByteArray) : inI (l.take (k + 1)) key = (inI (l.take k) key || ihas l[k] key) := by
  rw [List.take_succ_eq_append_getElem h, inI_app]
  unfold inI
  simp
set_option maxHeartbeats 16000000 in
theorem spansKeys_walk (A : Option Addr) (n c : Nat) (B : Option Addr) (m d : Nat) (key : ByteArray) (w : World) (ha0 : ∃ l : List Sn, SnAt w A n l ∧ ∀ i (h : i < l.length), (l[i]'h).f.size ≤ 562949953421312 ∧ (l[i]'h).t.size ≤ 562949953421312) (hnc : n ≤ c) (hc : c ≤ 9223372036854775807)
    (hb0 : ∃ l : List Sn, SnAt w B m l ∧ ∀ i (h : i < l.length), (l[i]'h).f.size ≤ 562949953421312 ∧ (l[i]'h).t.size ≤ 562949953421312) (hmd : m ≤ d) (hd : d ≤ 9223372036854775807) (hks : key.size ≤ 140737488351232) :
    Calls Try.prog 3 #[.slice A n c, .slice B m d, .string key] w fun e w' => e = .returned (.bool true) ∧ Below w.heap.size w w' := by
  obtain ⟨a, ha, -⟩ := ha0
  obtain ⟨b, hb, -⟩ := hb0
  have hla := Lib.hid ha.1
  have hlb := Lib.hid hb.1
  have HW := Lib.hid (fun V => spWorks V)
  have HMA := Lib.hid (fun V (h : SnAt V A n a) => spMay A n c a V h (by omega))
  have HMB := Lib.hid (fun V (h : SnAt V B m b) => spMay B m d b V h (by omega))
  have HK := Lib.hid (((Kp.start w).sn ha).sn hb)
  cases hmay : mayL a with
  | false =>
    rw [hmay] at HMA
    clear ha hb hmay
    go_enter Try.func3, Try.ntmps3
    go_wp2_with (first
      | (go_at_call 8; refine (HW.out _).mono ?_; rintro e w1 ⟨rfl, hb⟩; have HK := Lib.hid (HK.out.keep hb); clear hb)
      | (go_at_call 9; (first | (with_reducible refine (HMA.out _ HK.out.now.1.2).mono ?_) | (with_reducible refine (HMB.out _ HK.out.now.2).mono ?_)); rintro e w1 ⟨rfl, hb⟩; have HK := Lib.hid (HK.out.keep hb); clear hb))
    go_ret
    exact ⟨rfl, HK.out.bel⟩
  | true =>
    rw [hmay] at HMA
    obtain ⟨hlen, hma⟩ := mayL_may hmay
    clear hmay
    cases hmay : mayL b with
    | false =>
      rw [hmay] at HMB
      clear ha hb hmay hlen hma
      go_enter Try.func3, Try.ntmps3
      go_wp2_with (first
      | (go_at_call 8; refine (HW.out _).mono ?_; rintro e w1 ⟨rfl, hb⟩; have HK := Lib.hid (HK.out.keep hb); clear hb)
      | (go_at_call 9; (first | (with_reducible refine (HMA.out _ HK.out.now.1.2).mono ?_) | (with_reducible refine (HMB.out _ HK.out.now.2).mono ?_)); rintro e w1 ⟨rfl, hb⟩; have HK := Lib.hid (HK.out.keep hb); clear hb))
      go_ret
      exact ⟨rfl, HK.out.bel⟩
    | true =>
      rw [hmay] at HMB
      obtain ⟨hlenb, hmb⟩ := mayL_may hmay
      obtain ⟨X, hX⟩ := spe_ex wJ rfl hma (b := []) (fun s hs => by cases hs)
      obtain ⟨Y, hY⟩ := spe_ex wB rfl hma hmb
      obtain ⟨Z, hZ⟩ := spe_ex wL rfl hma hmb
      obtain ⟨NX, hNX⟩ : ∃ N, X.length = N := ⟨_, rfl⟩
      obtain ⟨NY, hNY⟩ : ∃ N, Y.length = N := ⟨_, rfl⟩
      obtain ⟨NZ, hNZ⟩ : ∃ N, Z.length = N := ⟨_, rfl⟩
      have hn3 : n ≤ 300 := by rw [← hla.out]; exact hlen
      have hm3 : m ≤ 300 := by rw [← hlb.out]; exact hlenb
      have hNXl : NX ≤ 600 := by have := hX.cnt; simp at this; omega
      have hNYl : NY ≤ 1200 := by have := hY.cnt; omega
      have hNZl : NZ ≤ 1200 := by have := hZ.cnt; omega
      have JA := Lib.hid (fun V (h : SnAt V A n a) => spJoin (c := c) h (by omega) hma hX hNX)
      have BA := Lib.hid (fun V (h : SnAt V A n a) (h2 : SnAt V B m b) => spBoth (c := c) (d := d) h h2 (by omega) (by omega) hma hmb hY hNY)
      have LA := Lib.hid (fun V (h : SnAt V A n a) (h2 : SnAt V B m b) => spLess (c := c) (d := d) h h2 (by omega) (by omega) hma hmb hZ hNZ)
      have OX := Lib.hid (fun V E C (h : SnAt V E NX X) => spOrdered E NX C X V h hX.ord (by omega))
      have OY := Lib.hid (fun V E C (h : SnAt V E NY Y) => spOrdered E NY C Y V h hY.ord (by omega))
      have OZ := Lib.hid (fun V E C (h : SnAt V E NZ Z) => spOrdered E NZ C Z V h hZ.ord (by omega))
      have IX := Lib.hid (fun V E C (h : SnAt V E NX X) => spIn E NX C X key V h (by omega))
      have IY := Lib.hid (fun V E C (h : SnAt V E NY Y) => spIn E NY C Y key V h (by omega))
      have IZ := Lib.hid (fun V E C (h : SnAt V E NZ Z) => spIn E NZ C Z key V h (by omega))
      have IA := Lib.hid (fun V (h : SnAt V A n a) => spIn A n c a key V h (by omega))
      rw [inL_may hX.may, hX.has] at IX
      rw [inL_may hY.may, hY.has] at IY
      rw [inL_may hZ.may, hZ.has] at IZ
      rw [inL_may hma] at IA
      obtain ⟨bi, hbi⟩ : ∃ bi, inI a key = bi := ⟨_, rfl⟩
      obtain ⟨bo, hbo⟩ : ∃ bo, inI b key = bo := ⟨_, rfl⟩
      rw [hbi] at IX IY IZ IA
      rw [hbo] at IY IZ
      have HBI := Lib.hid hbi
      have HBO := Lib.hid hbo
      unfold wJ at IX
      unfold wB at IY
      unfold wL at IZ
      have HN3 := Lib.hid (And.intro hn3 hm3)
      clear ha hb hmay hlen hma hmb hlenb hX hY hZ hNX hNY hNZ hbi hbo
      go_enter Try.func3, Try.ntmps3
      go_wp2_with (first
      | (go_at_call 8; refine (HW.out _).mono ?_; rintro e w1 ⟨rfl, hb⟩; have HK := Lib.hid (HK.out.keep hb); clear hb)
      | (go_at_call 9; (first | (with_reducible refine (HMA.out _ HK.out.now.1.2).mono ?_) | (with_reducible refine (HMB.out _ HK.out.now.2).mono ?_)); rintro e w1 ⟨rfl, hb⟩; have HK := Lib.hid (HK.out.keep hb); clear hb)
      | (go_at_call 10; (with_reducible refine (JA.out _ HK.out.now.1.2).mono ?_); rintro e w1 ⟨EX, CX, rfl, hs, -, -, hb⟩; have HK := Lib.hid ((HK.out.keep hb).sn hs); clear hb hs)
      | (go_at_call 11; (with_reducible refine (BA.out _ HK.out.now.1.1.2 HK.out.now.1.2).mono ?_); rintro e w1 ⟨EY, CY, rfl, hs, -, -, hb⟩; have HK := Lib.hid ((HK.out.keep hb).sn hs); clear hb hs)
      | (go_at_call 12; (with_reducible refine (LA.out _ HK.out.now.1.1.1.2 HK.out.now.1.1.2).mono ?_); rintro e wz ⟨EZ, CZ, rfl, hs, -, -, hb⟩; have HK := Lib.hid ((HK.out.keep hb).sn hs); clear hb hs))
      have HK0 := Lib.hid HK.out
      clear HK
      generalize wz = W0 at HK0 ⊢
      go_loopw [13, 15] (fun v i wr => ∃ j : Nat, j ≤ n ∧ i = .int .i64 j ∧ v = .bool (inI (a.take j) key) ∧ Hid (Below W0.heap.size W0 wr)) (fun _ i _ => n - (intOf i).toNat)
      case atStart => exact ⟨0, by omega, rfl, rfl, Lib.hid (Below.refl _ _)⟩
      case round =>
        obtain ⟨j, hj, rfl, rfl, HB⟩ := hrel
        by_cases hlt : j < n
        · have hat := SnAt.below HK0.out.now.1.1.1.1.2 HB.out
          obtain ⟨q, o, rfl, hcc⟩ := hat.2 (by omega)
          obtain ⟨c0, c1⟩ := hcc j (by rw [hla.out]; exact hlt)
          have hin := inI_take (l := a) (k := j) (by rw [hla.out]; exact hlt) key
          obtain ⟨⟨f, t⟩, hg⟩ : ∃ u, a[j]'(by rw [hla.out]; exact hlt) = u := ⟨_, rfl⟩
          rw [hg] at c0 c1 hin
          have hin2 : inI (a.take (j + 1)) key = (inI (a.take j) key || (!Op.bytesLess key.toList f.toList && Op.bytesLess key.toList t.toList)) := hin
          have HIN := Lib.hid hin2
          clear hcc hg hin hin2 hat
          generalize inI (a.take j) key = u at *
          cases u with
          | true =>
            go_wp2
            go_roundw
            case rel => exact ⟨j + 1, by omega, by go_num, by rw [HIN.out]; rfl, HB⟩
            case measure => simp [intOf]; omega
          | false =>
            cases h1 : Op.bytesLess key.toList f.toList with
            | true =>
              rw [h1] at HIN
              go_wp2
              go_roundw
              case rel => exact ⟨j + 1, by omega, by go_num, by rw [HIN.out]; rfl, HB⟩
              case measure => simp [intOf]; omega
            | false =>
              cases h2 : Op.bytesLess key.toList t.toList with
              | true =>
                rw [h1, h2] at HIN
                go_wp2
                go_roundw
                case rel => exact ⟨j + 1, by omega, by go_num, by rw [HIN.out]; rfl, HB⟩
                case measure => simp [intOf]; omega
              | false =>
                rw [h1, h2] at HIN
                go_wp2
                go_roundw
                case rel => exact ⟨j + 1, by omega, by go_num, by rw [HIN.out]; rfl, HB⟩
                case measure => simp [intOf]; omega
        · obtain rfl : j = n := by omega
          rw [List.take_of_length_le (by rw [hla.out]; exact Nat.le_refl _), HBI.out]
          have HK0 := Lib.hid (HK0.out.keep HB.out)
          clear HB
          go_wp2
          generalize wr = W0 at HK0 ⊢
          go_loopw [14, 16] (fun v i wr => ∃ j : Nat, j ≤ m ∧ i = .int .i64 j ∧ v = .bool (inI (b.take j) key) ∧ Hid (Below W0.heap.size W0 wr)) (fun _ i _ => m - (intOf i).toNat)
          case atStart => exact ⟨0, by omega, rfl, rfl, Lib.hid (Below.refl _ _)⟩
          case round =>
            obtain ⟨j, hj, rfl, rfl, HB⟩ := hrel
            by_cases hlt : j < m
            · have hat := SnAt.below HK0.out.now.1.1.1.2 HB.out
              obtain ⟨q, o, rfl, hcc⟩ := hat.2 (by omega)
              obtain ⟨c0, c1⟩ := hcc j (by rw [hlb.out]; exact hlt)
              have hin := inI_take (l := b) (k := j) (by rw [hlb.out]; exact hlt) key
              obtain ⟨⟨f, t⟩, hg⟩ : ∃ u, b[j]'(by rw [hlb.out]; exact hlt) = u := ⟨_, rfl⟩
              rw [hg] at c0 c1 hin
              have hin2 : inI (b.take (j + 1)) key = (inI (b.take j) key || (!Op.bytesLess key.toList f.toList && Op.bytesLess key.toList t.toList)) := hin
              have HIN := Lib.hid hin2
              clear hcc hg hin hin2 hat
              generalize inI (b.take j) key = u at *
              cases u with
              | true =>
                go_wp2
                go_roundw
                case rel => exact ⟨j + 1, by omega, by go_num, by rw [HIN.out]; rfl, HB⟩
                case measure => simp [intOf]; omega
              | false =>
                cases h1 : Op.bytesLess key.toList f.toList with
                | true =>
                  rw [h1] at HIN
                  go_wp2
                  go_roundw
                  case rel => exact ⟨j + 1, by omega, by go_num, by rw [HIN.out]; rfl, HB⟩
                  case measure => simp [intOf]; omega
                | false =>
                  cases h2 : Op.bytesLess key.toList t.toList with
                  | true =>
                    rw [h1, h2] at HIN
                    go_wp2
                    go_roundw
                    case rel => exact ⟨j + 1, by omega, by go_num, by rw [HIN.out]; rfl, HB⟩
                    case measure => simp [intOf]; omega
                  | false =>
                    rw [h1, h2] at HIN
                    go_wp2
                    go_roundw
                    case rel => exact ⟨j + 1, by omega, by go_num, by rw [HIN.out]; rfl, HB⟩
                    case measure => simp [intOf]; omega
            · obtain rfl : j = m := by omega
              rw [List.take_of_length_le (by rw [hlb.out]; exact Nat.le_refl _), HBO.out]
              have HK := Lib.hid (HK0.out.keep HB.out)
              clear HB HK0
              cases bi <;> cases bo
              all_goals
                (go_wp2_with (first
                  | (go_at_call 13; (first
                      | (with_reducible refine (OX.out _ _ _ HK.out.now.1.1.2).mono ?_)
                      | (with_reducible refine (OY.out _ _ _ HK.out.now.1.2).mono ?_)
                      | (with_reducible refine (OZ.out _ _ _ HK.out.now.2).mono ?_)); rintro e w9 ⟨rfl, hb⟩; have HK := Lib.hid (HK.out.keep hb); clear hb)
                  | (go_at_call 14; (first
                      | (with_reducible refine (IX.out _ _ _ HK.out.now.1.1.2).mono ?_)
                      | (with_reducible refine (IY.out _ _ _ HK.out.now.1.2).mono ?_)
                      | (with_reducible refine (IZ.out _ _ _ HK.out.now.2).mono ?_)
                      | (with_reducible refine (IA.out _ HK.out.now.1.1.1.1.2).mono ?_)); rintro e w9 ⟨rfl, hb⟩; have HK := Lib.hid (HK.out.keep hb); clear hb)); go_ret; exact ⟨rfl, HK.out.bel⟩)
end Go.Proofs.Ytdpdokgbockmbaa
