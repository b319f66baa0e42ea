/-
  SpansMeet: the walk.
-/
import Derived.Test.YtdpdokgbockmbaaSpWorks
import Derived.Test.YtdpdokgbockmbaaSpMt
set_option linter.unusedVariables false
set_option linter.unusedSimpArgs false
set_option maxRecDepth 100000
namespace Go.Proofs.Ytdpdokgbockmbaa
open Go.RowKit

abbrev SM (g h i : Nat) (w : World) (a b c d e f : ByteArray) (V : World) : Prop :=
  V.cell? ⟨g, 0, none⟩ = some (.string a) ∧ V.cell? ⟨g, 1, none⟩ = some (.string b) ∧ V.cell? ⟨h, 0, none⟩ = some (.string c) ∧ V.cell? ⟨h, 1, none⟩ = some (.string d) ∧ V.cell? ⟨i, 0, none⟩ = some (.string e) ∧ V.cell? ⟨i, 1, none⟩ = some (.string f) ∧ Below w.heap.size w V
theorem SM.keep {g h i : Nat} {w V V' : World} {a b c d e f : ByteArray} (x : SM g h i w a b c d e f V) (hb : Below V.heap.size V V') : SM g h i w a b c d e f V' :=
  ⟨(hb.cell (World.block_lt_of_cell? V _ x.1)).trans x.1, (hb.cell (World.block_lt_of_cell? V _ x.2.1)).trans x.2.1, (hb.cell (World.block_lt_of_cell? V _ x.2.2.1)).trans x.2.2.1, (hb.cell (World.block_lt_of_cell? V _ x.2.2.2.1)).trans x.2.2.2.1,
    (hb.cell (World.block_lt_of_cell? V _ x.2.2.2.2.1)).trans x.2.2.2.2.1, (hb.cell (World.block_lt_of_cell? V _ x.2.2.2.2.2.1)).trans x.2.2.2.2.2.1, x.2.2.2.2.2.2.trans (hb.mono x.2.2.2.2.2.2.size)⟩
set_option maxHeartbeats 8000000 in
theorem spansMeet_walk (f0 g0 f1 g1 key : ByteArray) (w : World) (hf0 : f0.size ≤ 140737488351232) (hg0 : g0.size ≤ 140737488351232) (hf1 : f1.size ≤ 140737488351232) (hg1 : g1.size ≤ 140737488351232) (hks : key.size ≤ 140737488351232) :
    Calls Try.prog 6 #[.agg #[.string f0, .string g0], .agg #[.string f1, .string g1], .string key] w fun e w' => e = .returned (.bool true) ∧ Below w.heap.size w w' := by
  have hk0 := ((Kp.start w).box (.string f0) (.string g0) 30).box (.string f1) (.string g1) 30
  rw [World.size_alloc] at hk0
  have HK := Lib.hid hk0
  clear hk0 hf0 hg0 hf1 hg1
  have HW := Lib.hid (fun V => spWorks V)
  have CA := Lib.hid (show ∀ V, Calls Try.prog 16 #[.agg #[.string f0, .string g0]] V fun e w' => e = .returned (.int .i64 (chkS ⟨f0, g0⟩)) ∧ Below V.heap.size V w' from fun V => spCheck ⟨f0, g0⟩ V)
  have CB := Lib.hid (show ∀ V, Calls Try.prog 16 #[.agg #[.string f1, .string g1]] V fun e w' => e = .returned (.int .i64 (chkS ⟨f1, g1⟩)) ∧ Below V.heap.size V w' from fun V => spCheck ⟨f1, g1⟩ V)
  by_cases ha : chkS ⟨f0, g0⟩ = 0
  · rw [ha] at CA
    by_cases hb : chkS ⟨f1, g1⟩ = 0
    · rw [hb] at CB
      by_cases hk : key.size ≤ 32
      · have hki : ¬ (32 : Int) < (key.size : Int) := by omega
        have M1 := Lib.hid (show ∀ V, Calls Try.prog 18 #[.agg #[.string f0, .string g0], .agg #[.string f1, .string g1]] V fun e w' => e = .returned (.bool (meetS ⟨f0, g0⟩ ⟨f1, g1⟩)) ∧ Below V.heap.size V w' from fun V => spMeets ⟨f0, g0⟩ ⟨f1, g1⟩ V)
        have M2 := Lib.hid (show ∀ V, Calls Try.prog 18 #[.agg #[.string f1, .string g1], .agg #[.string f0, .string g0]] V fun e w' => e = .returned (.bool (meetS ⟨f0, g0⟩ ⟨f1, g1⟩)) ∧ Below V.heap.size V w' from fun V => by
          rw [← meet_comm _ _ ha hb]
          exact spMeets ⟨f1, g1⟩ ⟨f0, g0⟩ V)
        have hbo := both_one ha hb
        obtain ⟨K2, hK2⟩ : ∃ K2, key ++ ⟨#[0]⟩ = K2 := ⟨_, rfl⟩
        have hof : ofS key = ⟨key, K2⟩ := by unfold ofS; rw [hK2]
        have OF := Lib.hid (show ∀ V, Calls Try.prog 17 #[.string key] V fun e w' => e = .returned (.tuple #[.agg #[.string key, .string K2], .int .i64 0]) ∧ Below V.heap.size V w' from fun V => by
          have h := spOf key V hk
          rw [hof] at h
          exact h)
        have CK := Lib.hid (show ∀ V, Calls Try.prog 16 #[.agg #[.string key, .string K2]] V fun e w' => e = .returned (.int .i64 0) ∧ Below V.heap.size V w' from fun V => by
          have h := spCheck (ofS key) V
          rw [of_may hk, hof] at h
          exact h)
        have MK := Lib.hid (show ∀ V, Calls Try.prog 18 #[.agg #[.string f0, .string g0], .agg #[.string key, .string K2]] V fun e w' => e = .returned (.bool (hasS ⟨f0, g0⟩ key)) ∧ Below V.heap.size V w' from fun V => by
          have h := spMeets ⟨f0, g0⟩ (ofS key) V
          rw [meet_of ha hk, hof] at h
          exact h)
        have HA := Lib.hid (show ∀ V, Calls Try.prog 19 #[.agg #[.string f0, .string g0], .string key] V fun e w' => e = .returned (.bool (hasS ⟨f0, g0⟩ key)) ∧ Below V.heap.size V w' from fun V => spHas ⟨f0, g0⟩ key V)
        have HB := Lib.hid (show ∀ V, Calls Try.prog 19 #[.agg #[.string key, .string K2], .string key] V fun e w' => e = .returned (.bool true) ∧ Below V.heap.size V w' from fun V => by
          have h := spHas (ofS key) key V
          rw [has_of hk, hof] at h
          exact h)
        have hma : MaySp [⟨f0, g0⟩] := fun s hs => by
          obtain rfl : s = ⟨f0, g0⟩ := by simpa using hs
          exact ha
        have hmb : MaySp [⟨f1, g1⟩] := fun s hs => by
          obtain rfl : s = ⟨f1, g1⟩ := by simpa using hs
          exact hb
        generalize hasS ⟨f0, g0⟩ key = hh at *
        generalize meetS ⟨f0, g0⟩ ⟨f1, g1⟩ = mb at *
        have BO : ∃ X : List Sn, X.length = (if mb then 1 else 0) ∧ ∀ V E E2 c c2, SnAt V E 1 [⟨f0, g0⟩] → SnAt V E2 1 [⟨f1, g1⟩] → Calls Try.prog 11 #[.slice E 1 c, .slice E2 1 c2] V (AnsS X (if mb then 1 else 0) V) :=
          ⟨_, (by cases mb <;> rfl), fun V E E2 c c2 h h2 => spBoth h h2 (by omega) (by omega) hma hmb hbo (by cases mb <;> rfl)⟩
        obtain ⟨X, -, BO0⟩ := BO
        have BO := Lib.hid BO0
        clear BO0 hbo hof hK2 ha hb hma hmb
        cases mb
        all_goals
          all_goals
            simp only [Bool.false_eq_true, if_false, if_true] at BO
            go_enter Try.func6, Try.ntmps6
            go_wp2_with (first
                  | (go_at_call 8; refine (HW.out _).mono ?_; rintro e w1 ⟨rfl, hb⟩; have HK := Lib.hid (HK.out.keep hb); obtain ⟨k0, k1⟩ := HK.out.now.1.2; obtain ⟨k2, k3⟩ := HK.out.now.2; clear hb)
                  | (go_at_call 16; (first | (with_reducible refine (CA.out _).mono ?_) | (with_reducible refine (CB.out _).mono ?_)); rintro e w1 ⟨rfl, hb⟩; have HK := Lib.hid (HK.out.keep hb); obtain ⟨k0, k1⟩ := HK.out.now.1.2; obtain ⟨k2, k3⟩ := HK.out.now.2; have y2 : (w1.alloc (.cells #[.string f0, .string g0] 30)).cell? ⟨w.heap.size + 1, 0, none⟩ = some (.string f1) := ((nbl w1 _).cell (p := ⟨w.heap.size + 1, 0, none⟩) (World.block_lt_of_cell? _ _ k2)).trans k2; have y3 : (w1.alloc (.cells #[.string f0, .string g0] 30)).cell? ⟨w.heap.size + 1, 1, none⟩ = some (.string g1) := ((nbl w1 _).cell (p := ⟨w.heap.size + 1, 1, none⟩) (World.block_lt_of_cell? _ _ k3)).trans k3; clear hb)
                  | (go_at_call 11; go_loud (refine (BO.out _ _ _ _ _ ((sn_one w1 f0 g0).below (nbl _ _)) (by have h := sn_one (w1.alloc (.cells #[.string f0, .string g0] 30)) f1 g1; rw [World.size_alloc] at h; exact h)).mono ?_); rintro e w1 ⟨EB, CB2, rfl, -, -, -, hb⟩; have HK := Lib.hid (((HK.out.al _).al _).keep hb); clear hb)
                  | (go_at_call 17; refine (OF.out _).mono ?_; rintro e w5 ⟨rfl, hb⟩; have HK := Lib.hid ((HK.out.keep hb).box (.string key) (.string K2) 30); clear hb))
            obtain ⟨x0, x1⟩ := HK.out.now.1.1.2
            obtain ⟨x2, x3⟩ := HK.out.now.1.2
            obtain ⟨x4, x5⟩ := HK.out.now.2
            have xs : SM w.heap.size (w.heap.size + 1) w5.heap.size w f0 g0 f1 g1 key K2 _ := ⟨x0, x1, x2, x3, x4, x5, HK.out.bel⟩
            clear x0 x1 x2 x3 x4 x5 HK BO OF CA CB HW
            have xd := show SM w.heap.size (w.heap.size + 1) w5.heap.size w f0 g0 f1 g1 key K2 (w5.alloc (.cells #[.string key, .string K2] 30)).drew from ⟨xs.1, xs.2.1, xs.2.2.1, xs.2.2.2.1, xs.2.2.2.2.1, xs.2.2.2.2.2.1, xs.2.2.2.2.2.2.drew⟩
            go_region_held3 (fun V => SM w.heap.size (w.heap.size + 1) w5.heap.size w f0 g0 f1 g1 key K2 V)
              (first | with_reducible assumption | assumption | exact xd)
              (first
                | (go_at_call 18; (first | (with_reducible refine (M1.out _).mono ?_) | (with_reducible refine (M2.out _).mono ?_) | (with_reducible refine (MK.out _).mono ?_)); rintro e w7 ⟨rfl, hb⟩; have hs7 := SM.keep (by assumption) hb; clear hb)
                | (go_at_call 16; (with_reducible refine (CK.out _).mono ?_); rintro e w7 ⟨rfl, hb⟩; have hs7 := SM.keep (by assumption) hb; clear hb)
                | (go_at_call 19; (first | (with_reducible refine (HA.out _).mono ?_) | (with_reducible refine (HB.out _).mono ?_)); rintro e w7 ⟨rfl, hb⟩; have hs7 := SM.keep (by assumption) hb; clear hb))
            all_goals
              first
                | (go_wp2; go_ret; exact ⟨rfl, hs7.2.2.2.2.2.2⟩)
                | (go_ret; exact ⟨rfl, hs7.2.2.2.2.2.2⟩)
      · have hki : (32 : Int) < (key.size : Int) := by omega
        go_enter Try.func6, Try.ntmps6
        go_wp2_with (first
              | (go_at_call 8; refine (HW.out _).mono ?_; rintro e w1 ⟨rfl, hb⟩; have HK := Lib.hid (HK.out.keep hb); obtain ⟨k0, k1⟩ := HK.out.now.1.2; obtain ⟨k2, k3⟩ := HK.out.now.2; clear hb)
              | (go_at_call 16; (first | (with_reducible refine (CA.out _).mono ?_) | (with_reducible refine (CB.out _).mono ?_)); rintro e w1 ⟨rfl, hb⟩; have HK := Lib.hid (HK.out.keep hb); obtain ⟨k0, k1⟩ := HK.out.now.1.2; obtain ⟨k2, k3⟩ := HK.out.now.2; have y2 : (w1.alloc (.cells #[.string f0, .string g0] 30)).cell? ⟨w.heap.size + 1, 0, none⟩ = some (.string f1) := ((nbl w1 _).cell (p := ⟨w.heap.size + 1, 0, none⟩) (World.block_lt_of_cell? _ _ k2)).trans k2; have y3 : (w1.alloc (.cells #[.string f0, .string g0] 30)).cell? ⟨w.heap.size + 1, 1, none⟩ = some (.string g1) := ((nbl w1 _).cell (p := ⟨w.heap.size + 1, 1, none⟩) (World.block_lt_of_cell? _ _ k3)).trans k3; clear hb))
        go_ret
        exact ⟨rfl, HK.out.bel⟩
    · generalize chkS ⟨f1, g1⟩ = x at *
      have hx : (x != 0) = true := by simpa using hb
      go_enter Try.func6, Try.ntmps6
      go_wp2_with (first
            | (go_at_call 8; refine (HW.out _).mono ?_; rintro e w1 ⟨rfl, hb⟩; have HK := Lib.hid (HK.out.keep hb); obtain ⟨k0, k1⟩ := HK.out.now.1.2; obtain ⟨k2, k3⟩ := HK.out.now.2; clear hb)
            | (go_at_call 16; (first | (with_reducible refine (CA.out _).mono ?_) | (with_reducible refine (CB.out _).mono ?_)); rintro e w1 ⟨rfl, hb⟩; have HK := Lib.hid (HK.out.keep hb); obtain ⟨k0, k1⟩ := HK.out.now.1.2; obtain ⟨k2, k3⟩ := HK.out.now.2; have y2 : (w1.alloc (.cells #[.string f0, .string g0] 30)).cell? ⟨w.heap.size + 1, 0, none⟩ = some (.string f1) := ((nbl w1 _).cell (p := ⟨w.heap.size + 1, 0, none⟩) (World.block_lt_of_cell? _ _ k2)).trans k2; have y3 : (w1.alloc (.cells #[.string f0, .string g0] 30)).cell? ⟨w.heap.size + 1, 1, none⟩ = some (.string g1) := ((nbl w1 _).cell (p := ⟨w.heap.size + 1, 1, none⟩) (World.block_lt_of_cell? _ _ k3)).trans k3; clear hb))
      go_ret
      exact ⟨rfl, HK.out.bel⟩
  · generalize chkS ⟨f0, g0⟩ = x at *
    have hx : (x != 0) = true := by simpa using ha
    go_enter Try.func6, Try.ntmps6
    go_wp2_with (first
          | (go_at_call 8; refine (HW.out _).mono ?_; rintro e w1 ⟨rfl, hb⟩; have HK := Lib.hid (HK.out.keep hb); obtain ⟨k0, k1⟩ := HK.out.now.1.2; obtain ⟨k2, k3⟩ := HK.out.now.2; clear hb)
          | (go_at_call 16; (first | (with_reducible refine (CA.out _).mono ?_) | (with_reducible refine (CB.out _).mono ?_)); rintro e w1 ⟨rfl, hb⟩; have HK := Lib.hid (HK.out.keep hb); obtain ⟨k0, k1⟩ := HK.out.now.1.2; obtain ⟨k2, k3⟩ := HK.out.now.2; have y2 : (w1.alloc (.cells #[.string f0, .string g0] 30)).cell? ⟨w.heap.size + 1, 0, none⟩ = some (.string f1) := ((nbl w1 _).cell (p := ⟨w.heap.size + 1, 0, none⟩) (World.block_lt_of_cell? _ _ k2)).trans k2; have y3 : (w1.alloc (.cells #[.string f0, .string g0] 30)).cell? ⟨w.heap.size + 1, 1, none⟩ = some (.string g1) := ((nbl w1 _).cell (p := ⟨w.heap.size + 1, 1, none⟩) (World.block_lt_of_cell? _ _ k3)).trans k3; clear hb))
    go_ret
    exact ⟨rfl, HK.out.bel⟩
end Go.Proofs.Ytdpdokgbockmbaa
