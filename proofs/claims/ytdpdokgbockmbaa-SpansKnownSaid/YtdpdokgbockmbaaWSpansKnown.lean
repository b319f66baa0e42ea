/-
  SpansKnown: the walk.
-/
import Derived.Test.YtdpdokgbockmbaaSpKn
set_option linter.unusedVariables false
set_option linter.unusedSimpArgs false
set_option maxRecDepth 100000
namespace Go.Proofs.Ytdpdokgbockmbaa
open Go.RowKit

abbrev sAB : Sn := ⟨⟨#[97]⟩, ⟨#[98]⟩⟩
theorem inI_rep (s : Sn) (n : Nat) (hn : 0 < n) (k : ByteArray) : inI (List.replicate n s) k = inI [s] k := by
  obtain ⟨m, rfl⟩ : ∃ m, n = m + 1 := ⟨n - 1, by omega⟩
  have h : ∀ m, inI (List.replicate (m + 1) s) k = ihas s k := fun m => by
    induction m with
    | zero => unfold inI; simp
    | succ m ih => rw [List.replicate_succ, inI_cons, ih, Bool.or_self]
  rw [h]
  unfold inI
  simp
theorem may_rep {s : Sn} (n : Nat) (h : chkS s = 0) : MaySp (List.replicate n s) := fun u hu => by rw [List.eq_of_mem_replicate hu]; exact h
theorem chkL_long {a b : List Sn} (h : 1000 < a.length ∨ 1000 < b.length) : chkL a b = 5 := by unfold chkL; rw [if_pos h]
theorem ord_one_ {s : Sn} (h : chkS s = 0) : OrdS [s] := ⟨chkS_lt h, fun u hu => (by cases hu), trivial⟩
theorem ab_ok : chkS sAB = 0 := by kernel_rfl
theorem spe_rep : Spe wJ (List.replicate 1000 sAB) [] [sAB] := ⟨ord_one_ ab_ok, fun k => (inI_rep sAB 1000 (by decide) k).symm, fun s hs => by
  obtain rfl : s = sAB := by simpa using hs
  exact chkS_le ab_ok, by simp⟩
theorem known_less : Spe wL [⟨⟨#[97]⟩, ⟨#[99]⟩⟩] [⟨⟨#[98]⟩, ⟨#[98, 0]⟩⟩] [⟨⟨#[97]⟩, ⟨#[98]⟩⟩, ⟨⟨#[98, 0]⟩, ⟨#[99]⟩⟩] := ⟨ordS_two (by kernel_rfl) (by kernel_rfl) (by kernel_rfl), fun k => by
  have e : (⟨#[98, 0]⟩ : ByteArray) = ⟨#[98]⟩ ++ ⟨#[0]⟩ := by kernel_rfl
  have h0 : kl k ⟨#[98, 0]⟩ = !kl ⟨#[98]⟩ k := by rw [e, kl_next]
  have h1 := k_lt 97 98 (by decide) k
  have h2 := k_lt 98 99 (by decide) k
  have h3 : kl k ⟨#[98]⟩ = true → kl ⟨#[98]⟩ k = false := fun h => klf h
  have h4 : kl ⟨#[98]⟩ k = false → kl k ⟨#[99]⟩ = true := fun h => kl_le_lt h (by kernel_rfl)
  unfold inI ihas wL
  simp only [List.any_cons, List.any_nil, h0]
  generalize kl k ⟨#[97]⟩ = a at *
  generalize kl k ⟨#[98]⟩ = b at *
  generalize kl k ⟨#[99]⟩ = c at *
  generalize kl ⟨#[98]⟩ k = d at *
  clear h0
  revert a b c d
  decide, by decide, by decide⟩
theorem known_both : Spe wB [⟨⟨#[]⟩, ⟨#[122]⟩⟩] [] [] := ⟨trivial, fun k => by
  unfold wB
  show false = (_ && false)
  simp, fun s hs => (by cases hs), by simp⟩
theorem SnAt.rep0 {w : World} {g n : Nat} {s : Sn} (h : SnAt w (some ⟨g, 0, none⟩) n (List.replicate n s)) (hn : 0 < n) : w.cell? ⟨g, 0, none⟩ = some (.string s.f) ∧ w.cell? ⟨g, 1, none⟩ = some (.string s.t) := by
  obtain ⟨b, o, e, hc⟩ := h.2 hn
  injection e with e
  injection e with e1 e2 _
  subst e1 e2
  have := hc 0 (by simpa using hn)
  simpa using this
set_option maxHeartbeats 1200000 in
theorem spansKnown_walk (w : World) : Calls Try.prog 7 #[] w fun e w' => e = .returned (.bool true) ∧ Below w.heap.size w w' := by
  obtain ⟨L, hL, RP0⟩ : ∃ L : ByteArray, L.size = 32 ∧ ∀ V, Calls Try.prog 20 #[.string ⟨#[107]⟩, .int .i64 32] V fun e w' => e = .returned (.string L) ∧ Below V.heap.size V w' :=
    ⟨_, (by kernel_rfl), fun V => Try.strings_Repeat ⟨#[107]⟩ 32 V (by omega) (by decide)⟩
  have RP := Lib.hid RP0
  clear RP0
  have z1 : (L ++ (⟨#[107]⟩ : ByteArray)).size = 33 := by rw [ByteArray.size_append, hL]; rfl
  have z2 : (L ++ (⟨#[107, 107]⟩ : ByteArray)).size = 34 := by rw [ByteArray.size_append, hL]; rfl
  have q1 : ¬ 9223372036854775807 < L.size + (⟨#[107]⟩ : ByteArray).size := by rw [hL]; decide
  have q2 : ¬ 9223372036854775807 < L.size + (⟨#[107, 107]⟩ : ByteArray).size := by rw [hL]; decide
  have OF1 := Lib.hid (show ∀ V, Calls Try.prog 17 #[.string L] V fun e w' => e = .returned (.tuple #[.agg #[.string L, .string (L ++ ⟨#[0]⟩)], .int .i64 0]) ∧ Below V.heap.size V w' from fun V => spOf L V (by omega))
  have OF2 := Lib.hid (fun V => spOfE (L ++ ⟨#[107]⟩) V (by rw [z1]; decide))
  have CK0 := Lib.hid (show ∀ V, Calls Try.prog 16 #[.agg #[.string L, .string (L ++ ⟨#[0]⟩)]] V fun e w' => e = .returned (.int .i64 0) ∧ Below V.heap.size V w' from fun V => by
    have h := spCheck (ofS L) V
    rw [of_may (by omega)] at h
    exact h)
  have CK1 := Lib.hid (show ∀ V, Calls Try.prog 16 #[.agg #[.string ⟨#[]⟩, .string (L ++ ⟨#[107, 107]⟩)]] V fun e w' => e = .returned (.int .i64 5) ∧ Below V.heap.size V w' from fun V => by
    have h := spCheck ⟨⟨#[]⟩, (L ++ ⟨#[107, 107]⟩)⟩ V
    rw [show chkS ⟨⟨#[]⟩, (L ++ ⟨#[107, 107]⟩)⟩ = 5 from by unfold chkS; rw [if_pos (by simp only; rw [z2]; omega)]] at h
    exact h)
  have CK2 := Lib.hid (show ∀ V, Calls Try.prog 16 #[.agg #[.string (L ++ ⟨#[107, 107]⟩), .string ⟨#[122]⟩]] V fun e w' => e = .returned (.int .i64 5) ∧ Below V.heap.size V w' from fun V => by
    have h := spCheck ⟨(L ++ ⟨#[107, 107]⟩), ⟨#[122]⟩⟩ V
    rw [show chkS ⟨(L ++ ⟨#[107, 107]⟩), ⟨#[122]⟩⟩ = 5 from by unfold chkS; rw [if_pos (by simp only; rw [z2]; omega)]] at h
    exact h)
  have CK3 := Lib.hid (show ∀ V, Calls Try.prog 16 #[.agg #[.string ⟨#[122]⟩, .string (L ++ ⟨#[107, 107]⟩)]] V fun e w' => e = .returned (.int .i64 5) ∧ Below V.heap.size V w' from fun V => by
    have h := spCheck ⟨⟨#[122]⟩, (L ++ ⟨#[107, 107]⟩)⟩ V
    rw [show chkS ⟨⟨#[122]⟩, (L ++ ⟨#[107, 107]⟩)⟩ = 5 from by unfold chkS; rw [if_pos (by simp only; rw [z2]; omega)]] at h
    exact h)
  have CK4 := Lib.hid (show ∀ V, Calls Try.prog 16 #[.agg #[.string ⟨#[]⟩, .string ⟨#[0]⟩]] V fun e w' => e = .returned (.int .i64 0) ∧ Below V.heap.size V w' from fun V => by
    have h := spCheck ⟨⟨#[]⟩, ⟨#[0]⟩⟩ V
    rw [show chkS ⟨⟨#[]⟩, ⟨#[0]⟩⟩ = 0 from by kernel_rfl] at h
    exact h)
  have CK5 := Lib.hid (show ∀ V, Calls Try.prog 16 #[.agg #[.string ⟨#[98]⟩, .string ⟨#[97]⟩]] V fun e w' => e = .returned (.int .i64 2) ∧ Below V.heap.size V w' from fun V => by
    have h := spCheck ⟨⟨#[98]⟩, ⟨#[97]⟩⟩ V
    rw [show chkS ⟨⟨#[98]⟩, ⟨#[97]⟩⟩ = 2 from by kernel_rfl] at h
    exact h)
  have M1 := Lib.hid (show ∀ V, Calls Try.prog 18 #[.agg #[.string ⟨#[99]⟩, .string ⟨#[97]⟩], .agg #[.string ⟨#[97]⟩, .string ⟨#[100]⟩]] V fun e w' => e = .returned (.bool false) ∧ Below V.heap.size V w' from fun V => by
    have h := spMeets ⟨⟨#[99]⟩, ⟨#[97]⟩⟩ ⟨⟨#[97]⟩, ⟨#[100]⟩⟩ V
    rw [show meetS ⟨⟨#[99]⟩, ⟨#[97]⟩⟩ ⟨⟨#[97]⟩, ⟨#[100]⟩⟩ = false from by kernel_rfl] at h
    exact h)
  have M2 := Lib.hid (show ∀ V, Calls Try.prog 18 #[.agg #[.string ⟨#[]⟩, .string ⟨#[]⟩], .agg #[.string ⟨#[]⟩, .string ⟨#[122]⟩]] V fun e w' => e = .returned (.bool false) ∧ Below V.heap.size V w' from fun V => by
    have h := spMeets ⟨⟨#[]⟩, ⟨#[]⟩⟩ ⟨⟨#[]⟩, ⟨#[122]⟩⟩ V
    rw [show meetS ⟨⟨#[]⟩, ⟨#[]⟩⟩ ⟨⟨#[]⟩, ⟨#[122]⟩⟩ = false from by kernel_rfl] at h
    exact h)
  have HS := Lib.hid (show ∀ V, Calls Try.prog 19 #[.agg #[.string ⟨#[99]⟩, .string ⟨#[97]⟩], .string ⟨#[98]⟩] V fun e w' => e = .returned (.bool false) ∧ Below V.heap.size V w' from fun V => by
    have h := spHas ⟨⟨#[99]⟩, ⟨#[97]⟩⟩ ⟨#[98]⟩ V
    rw [show hasS ⟨⟨#[99]⟩, ⟨#[97]⟩⟩ ⟨#[98]⟩ = false from by kernel_rfl] at h
    exact h)
  have IN0 := Lib.hid (show ∀ V, Calls Try.prog 14 #[.slice none 0 0, .string ⟨#[97]⟩] V fun e w' => e = .returned (.bool false) ∧ Below V.heap.size V w' from fun V => spIn none 0 0 [] ⟨#[97]⟩ V (SnAt.nil _ _) (by omega))
  have IN1 := Lib.hid (show ∀ V A9 c, SnAt V A9 2 [⟨⟨#[99]⟩, ⟨#[97]⟩⟩, ⟨⟨#[]⟩, ⟨#[98]⟩⟩] → Calls Try.prog 14 #[.slice A9 2 c, .string ⟨#[97]⟩] V fun e w' => e = .returned (.bool true) ∧ Below V.heap.size V w' from fun V A9 c h9 => by
    have h := spIn A9 2 c [⟨⟨#[99]⟩, ⟨#[97]⟩⟩, ⟨⟨#[]⟩, ⟨#[98]⟩⟩] ⟨#[97]⟩ V h9 (by omega)
    rw [show inL [⟨⟨#[99]⟩, ⟨#[97]⟩⟩, ⟨⟨#[]⟩, ⟨#[98]⟩⟩] ⟨#[97]⟩ = true from by kernel_rfl] at h
    exact h)
  have HW := Lib.hid (fun V => spWorks V)
  have L1 := Lib.hid (fun V g (hg : g = V.heap.size) => spList2 ⟨#[97]⟩ ⟨#[98]⟩ V g hg)
  have L2 := Lib.hid (fun V g (hg : g = V.heap.size) => spList2 ⟨#[97]⟩ ⟨#[99]⟩ V g hg)
  have L3 := Lib.hid (fun V g (hg : g = V.heap.size) => spList2 ⟨#[98]⟩ ⟨#[98, 0]⟩ V g hg)
  have L4 := Lib.hid (fun V g (hg : g = V.heap.size) => spList2 ⟨#[]⟩ ⟨#[122]⟩ V g hg)
  obtain ⟨MM, hMM⟩ : ∃ MM, MM = List.replicate 1000 sAB := ⟨_, rfl⟩
  have hMl : MM.length = 1000 := by rw [hMM, List.length_replicate]
  have JM := Lib.hid (fun V E c (h : SnAt V E 1000 MM) => spJoin (c := c) h (by omega) (by rw [hMM]; exact may_rep _ ab_ok) (by rw [hMM]; exact spe_rep) rfl)
  have JE := Lib.hid (fun V E c (h : SnAt V E 1001 (MM ++ [sZ])) => spJoinE (c := c) h (by omega) (chkL_long (.inl (by rw [List.length_append, hMl]; decide))) (by decide : (5 : Int) ≠ 0))
  have BE := Lib.hid (fun V E c (h : SnAt V E 1001 (MM ++ [sAB])) => spBothE (A := none) (n := 0) (c := 0) (a := []) (d := c) (SnAt.nil _ _) h (by omega) (by omega) (chkL_long (.inr (by rw [List.length_append, hMl]; decide))) (by decide : (5 : Int) ≠ 0))
  have LE := Lib.hid (fun V E c E2 c2 (h : SnAt V E 1 [⟨⟨#[98]⟩, ⟨#[97]⟩⟩]) (h2 : SnAt V E2 1 [⟨(L ++ ⟨#[107, 107]⟩), ⟨#[]⟩⟩]) => spLessE (c := c) (d := c2) h h2 (by omega) (by omega) (show chkL _ _ = 2 from by kernel_rfl) (by decide : (2 : Int) ≠ 0))
  have BE2 := Lib.hid (fun V E c E2 c2 (h : SnAt V E 1 [⟨⟨#[97]⟩, ⟨#[98]⟩⟩]) (h2 : SnAt V E2 1 [⟨(L ++ ⟨#[107, 107]⟩), ⟨#[]⟩⟩]) => spBothE (c := c) (d := c2) h h2 (by omega) (by omega) (show chkL _ _ = 5 from by
    unfold chkL
    rw [if_neg (by simp), fstE_ok (fun s hs => by
      obtain rfl : s = ⟨⟨#[97]⟩, ⟨#[98]⟩⟩ := by simpa using hs
      kernel_rfl), if_pos rfl]
    unfold fstE
    rw [show chkS ⟨(L ++ ⟨#[107, 107]⟩), ⟨#[]⟩⟩ = 5 from by unfold chkS; rw [if_pos (by simp only; rw [z2]; omega)]]
    rfl) (by decide : (5 : Int) ≠ 0))
  have LS := Lib.hid (fun V E c E2 c2 (h : SnAt V E 1 [⟨⟨#[97]⟩, ⟨#[99]⟩⟩]) (h2 : SnAt V E2 1 [⟨⟨#[98]⟩, ⟨#[98, 0]⟩⟩]) => spLess (c := c) (d := c2) h h2 (by omega) (by omega) (fun s hs => by
      obtain rfl : s = ⟨⟨#[97]⟩, ⟨#[99]⟩⟩ := by simpa using hs
      kernel_rfl) (fun s hs => by
      obtain rfl : s = ⟨⟨#[98]⟩, ⟨#[98, 0]⟩⟩ := by simpa using hs
      kernel_rfl) known_less rfl)
  have BO := Lib.hid (fun V E c (h : SnAt V E 1 [⟨⟨#[]⟩, ⟨#[122]⟩⟩]) => spBoth (c := c) (B := none) (m := 0) (d := 0) (b := []) h (SnAt.nil _ _) (by omega) (by omega) (fun s hs => by
      obtain rfl : s = ⟨⟨#[]⟩, ⟨#[122]⟩⟩ := by simpa using hs
      kernel_rfl) (fun s hs => by cases hs) known_both rfl)
  have I1 := Lib.hid (show ∀ V E c g, g = V.heap.size → SnAt V E 1 [sAB] → Calls Try.prog 22 #[.slice E 1 c, .int .i64 0, .slice (some ⟨g, 0, none⟩) 2 2] (V.alloc (.cells #[.string ⟨#[97]⟩, .string ⟨#[98]⟩] 9)) fun e w' => e = .returned (.bool true) ∧ Below V.heap.size V w' from fun V E c g hg h => by
    have h2 := spIs2 E 1 c [sAB] ⟨#[97]⟩ ⟨#[98]⟩ V g hg h (by omega)
    rw [decide_eq_true rfl] at h2
    exact h2)
  have I2 := Lib.hid (show ∀ V E c g, g = V.heap.size → SnAt V E 2 [⟨⟨#[97]⟩, ⟨#[98]⟩⟩, ⟨⟨#[98, 0]⟩, ⟨#[99]⟩⟩] → Calls Try.prog 22 #[.slice E 2 c, .int .i64 0, .slice (some ⟨g, 0, none⟩) 4 4] (V.alloc (.cells #[.string ⟨#[97]⟩, .string ⟨#[98]⟩, .string ⟨#[98, 0]⟩, .string ⟨#[99]⟩] 9)) fun e w' => e = .returned (.bool true) ∧ Below V.heap.size V w' from fun V E c g hg h => by
    have h2 := spIs4 E 2 c [⟨⟨#[97]⟩, ⟨#[98]⟩⟩, ⟨⟨#[98, 0]⟩, ⟨#[99]⟩⟩] ⟨#[97]⟩ ⟨#[98]⟩ ⟨#[98, 0]⟩ ⟨#[99]⟩ V g hg h (by omega)
    rw [decide_eq_true rfl] at h2
    exact h2)
  have I3 := Lib.hid (show ∀ V E c, SnAt V E 0 [] → Calls Try.prog 22 #[.slice E 0 c, .int .i64 0, .slice none 0 0] V fun e w' => e = .returned (.bool true) ∧ Below V.heap.size V w' from fun V E c h => spIs E none 0 0 c 0 [] [] V h ⟨rfl, fun h => absurd h (by omega)⟩ (by omega) (by omega) (by omega))
  obtain ⟨RR, hRR⟩ : ∃ RR : Nat → List Sn, ∀ k, RR k = List.replicate k sAB ++ List.replicate (1000 - k) sZ := ⟨_, fun _ => rfl⟩
  obtain ⟨ZS, hZS⟩ : ∃ ZS, ZS = List.replicate 1000 sZ := ⟨_, rfl⟩
  have R0 := Lib.hid (show RR 0 = ZS from by rw [hRR, hZS]; rfl)
  have R1 := Lib.hid (show RR 1000 = MM from by rw [hRR, hMM, Nat.sub_self, List.replicate_zero, List.append_nil])
  have RS := Lib.hid (fun k (hk : k < 1000) => show (RR k).set k sAB = RR (k + 1) from by rw [hRR, hRR]; exact rep_set sAB sZ 1000 k hk)
  have RM0 := Lib.hid (fun V (h : SnAt V (some ⟨0, 0, none⟩) 1000 MM) => trivial)
  have HRP := Lib.hid (fun V g (h : SnAt V (some ⟨g, 0, none⟩) 1000 MM) => show V.cell? ⟨g, 0, none⟩ = some (.string ⟨#[97]⟩) ∧ V.cell? ⟨g, 1, none⟩ = some (.string ⟨#[98]⟩) from by rw [hMM] at h; exact h.rep0 (by omega))
  have MK := Lib.hid (show ∀ W : World, (Instr.makeSlice 22 (.int .i64 1000) (.int .i64 1000)).run Try.prog W = .ok (.slice (some ⟨W.heap.size, 0, none⟩) 1000 1000) (W.alloc (.cells (sfl2 ZS).toArray 30)) from fun W => by
    rw [hZS]
    exact make_spans 1000 (by omega) W)
  have hMK := MK.out
  have HZS := Lib.hid hZS
  have HMM := Lib.hid hMM
  have HK := Lib.hid (Kp.start w)
  have kk : ∀ {V : World} {P : World → Prop} {X Y : World} , True := fun {_ _ _ _} => trivial
  clear kk z1 z2 hL hMM hMl hZS MK RM0 hRR
  go_enter Try.func7, Try.ntmps7
  go_wp2_with (first
    | (go_at_call 20; refine (RP.out _).mono ?_; rintro e w1 ⟨rfl, hb⟩; have HK := Lib.hid (HK.out.keep hb); clear hb)
    | (go_at_call 17; (with_reducible refine (OF1.out _).mono ?_); rintro e w1 ⟨rfl, hb⟩; have HK := Lib.hid ((HK.out.keep hb).box (.string L) (.string (L ++ ⟨#[0]⟩)) 30); clear hb)
    | (go_at_call 17; (with_reducible refine (OF2.out _).mono ?_); rintro e w2 ⟨rfl, hb⟩; have HK := Lib.hid ((HK.out.keep hb).al (.cells #[.string ⟨#[]⟩, .string ⟨#[]⟩] 30)); clear hb)
    | (go_at_call 16; (first
        | (with_reducible refine (CK1.out _).mono ?_)
        | (with_reducible refine (CK2.out _).mono ?_)
        | (with_reducible refine (CK3.out _).mono ?_)
        | (with_reducible refine (CK4.out _).mono ?_)
        | (with_reducible refine (CK5.out _).mono ?_)
        | (with_reducible refine (CK0.out _).mono ?_)); rintro e w3 ⟨rfl, hb⟩; have HK := Lib.hid (HK.out.keep hb); obtain ⟨k0, k1⟩ := HK.out.now.2; clear hb))
  obtain ⟨G, hG⟩ : ∃ G, w3.heap.size = G := ⟨_, rfl⟩
  have HG := Lib.hid hG
  have HR0 := Lib.hid (show SnRow (w3.alloc (.cells (sfl2 ZS).toArray 30)) G (.slice (some ⟨G, 0, none⟩) 1000 1000) 1000 (RR 0) from by
    rw [R0.out, ← hG]
    have hl : (sfl2 ZS).length = 2000 := by rw [sfl2_len, HZS.out, List.length_replicate]
    have := World.ownsRow_lit (base := w3.heap.size) (e := 30) (size := 2) w3 (sfl2 ZS).toArray 1000 (Nat.le_refl _) (by unfold maxLen; omega) (by simp [hl])
    exact this)
  rw [hG]
  have HK0 := Lib.hid HK.out
  have HBL := Lib.hid (nbl w3 (.cells (sfl2 ZS).toArray 30))
  clear hMK hG HK
  generalize w3.alloc (.cells (sfl2 ZS).toArray 30) = WS at *
  go_loopw [13] (fun i wr => ∃ k : Nat, k ≤ 1000 ∧ i = .int .i64 k ∧ Hid (SnRow wr G (.slice (some ⟨G, 0, none⟩) 1000 1000) 1000 (RR k)) ∧ Hid (Below w3.heap.size w3 wr)) (fun i _ => 1000 - (intOf i).toNat)
  case atStart => exact ⟨0, by omega, rfl, HR0, HBL⟩
  case round =>
    obtain ⟨k, hk, rfl, HR, HB⟩ := hrel
    by_cases hlt : k < 1000
    · have hkl : k < (RR k).length := by rw [HR.out.len]; exact hlt
      obtain ⟨x0, x1⟩ := sfl2_get (RR k) k hkl
      have c0 := (World.ownsRow.cellAt HR.out (k * 2) (by omega)).trans x0
      have c1 := (World.ownsRow.cellAt HR.out (k * 2 + 1) (by omega)).trans x1
      have f0 := World.ownsRow.frozenAt HR.out (k * 2)
      have f1 := World.ownsRow.frozenAt HR.out (k * 2 + 1)
      have HR2 := Lib.hid (show SnRow ((wr.setCell ⟨G, k * 2, none⟩ (.string ⟨#[97]⟩)).setCell ⟨G, k * 2 + 1, none⟩ (.string ⟨#[98]⟩)) G (.slice (some ⟨G, 0, none⟩) 1000 1000) 1000 (RR (k + 1)) from by
        have h := HR.out.put k hlt sAB
        rw [RS.out k hlt] at h
        exact h)
      have HB2 := Lib.hid (((((Grow.refl (fun i => i = G) wr).set (p := ⟨G, k * 2, none⟩) (.inl rfl) (.string ⟨#[97]⟩)).set (p := ⟨G, k * 2 + 1, none⟩) (.inl rfl) (.string ⟨#[98]⟩))).below HB.out HB.out.size (fun i e => by rw [e, HG.out]; exact Nat.le_refl _))
      generalize (RR k)[k] = u at *
      obtain ⟨uf, ut⟩ := u
      simp only at c0 c1
      have hki : (k : Int) < 1000 := by omega
      have hk0 : (0 : Int) ≤ (k : Int) := by omega
      clear x0 x1 hkl
      go_wp2
      go_roundw
      case rel => exact ⟨k + 1, by omega, by go_num, HR2, HB2⟩
      case measure => simp [intOf]; omega
    · obtain rfl : k = 1000 := by omega
      rw [R1.out] at HR
      obtain ⟨A9, c9, h9, hat, -, -⟩ := HR.out.form
      injection h9 with h7 h8 h6
      subst h7
      have HK := Lib.hid ((HK0.out.keep HB.out).sn hat)
      clear hat h8 h6 HR HK0 HR0 HBL HB
      generalize wr = w1 at HK ⊢
      go_wp2_with (first
        | (go_at_call 10; (with_reducible refine (JM.out _ _ _ HK.out.now.2).mono ?_); rintro e w1 ⟨EX, CX, rfl, hs, -, -, hb⟩; have HK := Lib.hid ((HK.out.keep hb).sn hs); clear hb hs)
        | (go_at_call 10; (with_reducible refine (JE.out _ _ _ HAP.out).mono ?_); rintro e w1 ⟨rfl, hb⟩; have HK := Lib.hid (HK.out.keep hb); obtain ⟨y0, y1⟩ := HRP.out _ _ HK.out.now.1.2; clear hb HAP)
        | (at_builtin; refine wpList_appFull rfl _ _ rfl (some ⟨G, 0, none⟩) 1000 MM [⟨_, _⟩] rfl (HK.out.al _).now.1.2 (by omega) (by omega) (some ⟨w1.heap.size, 0, none⟩) 1 1 rfl (sn_one w1 _ _) (by omega) (by omega) (w1.heap.size + 1) 1001 (World.size_alloc _ _) rfl ?_; intro c' wq h hb; have HAP := Lib.hid h; have HK := Lib.hid ((HK.out.al _).keep hb); clear h hb)
        | (go_at_call 11; (first
            | (with_reducible refine (BE.out _ _ _ HAP.out).mono ?_)
            | (with_reducible refine (BE2.out _ _ _ _ _ (HK.out.al _).now.2 (sn_one w1 _ _)).mono ?_)); rintro e w1 ⟨rfl, hb⟩; first | (have HK := Lib.hid ((HK.out.al _).keep hb); clear hb) | (have HK := Lib.hid (HK.out.keep hb); clear hb HAP))
        | (go_at_call 11; (with_reducible refine (BO.out _ _ _ HK.out.now.2).mono ?_); rintro e w1 ⟨EZ, CZ, rfl, hs, -, -, hb⟩; have HK := Lib.hid ((HK.out.keep hb).sn hs); clear hb hs)
        | (go_at_call 12; (with_reducible refine (LS.out _ _ _ _ _ HK.out.now.1.2 HK.out.now.2).mono ?_); rintro e w1 ⟨EY, CY, rfl, hs, -, -, hb⟩; have HK := Lib.hid ((HK.out.keep hb).sn hs); clear hb hs)
        | (go_at_call 12; refine (LE.out _ _ _ _ _ ((sn_one w1 ⟨#[98]⟩ ⟨#[97]⟩).below (nbl _ _)) (by have h := sn_one (w1.alloc (.cells #[.string ⟨#[98]⟩, .string ⟨#[97]⟩] 30)) (L ++ ⟨#[107, 107]⟩) ⟨#[]⟩; rw [World.size_alloc] at h; exact h)).mono ?_; rintro e w1 ⟨rfl, hb⟩; have HK := Lib.hid (((HK.out.al _).al _).keep hb); clear hb)
        | (go_at_call 21; (first
            | (with_reducible refine (L1.out _ _ (by simp)).mono ?_)
            | (with_reducible refine (L2.out _ _ (by simp)).mono ?_)
            | (with_reducible refine (L3.out _ _ (by simp)).mono ?_)
            | (with_reducible refine (L4.out _ _ (by simp)).mono ?_)); rintro e w1 ⟨E, C, rfl, hs, hb⟩; have HK := Lib.hid ((HK.out.keep hb).sn hs); clear hb hs)
        | (go_at_call 22; (first
            | (with_reducible refine (I1.out _ _ _ _ (by simp) HK.out.now.1.1.1.1.1.1.2).mono ?_)
            | (with_reducible refine (I2.out _ _ _ _ (by simp) HK.out.now.1.1.2).mono ?_)
            | (with_reducible refine (I3.out _ _ _ HK.out.now.2).mono ?_)); rintro e w1 ⟨rfl, hb⟩; have HK := Lib.hid (HK.out.keep hb); clear hb)
        | (go_at_call 18; (first
            | (with_reducible refine (M1.out _).mono ?_)
            | (with_reducible refine (M2.out _).mono ?_)); rintro e w1 ⟨rfl, hb⟩; have HK := Lib.hid (HK.out.keep hb); clear hb)
        | (go_at_call 19; (with_reducible refine (HS.out _).mono ?_); rintro e w1 ⟨rfl, hb⟩; have HK := Lib.hid (HK.out.keep hb); clear hb)
        | (go_at_call 14; (with_reducible refine (IN0.out _).mono ?_); rintro e w1 ⟨rfl, hb⟩; have HK := Lib.hid (HK.out.keep hb); clear hb)
        | (go_at_call 14; refine (IN1.out _ _ _ (SnAt.lit (l := [⟨⟨#[99]⟩, ⟨#[97]⟩⟩, ⟨⟨#[]⟩, ⟨#[98]⟩⟩]) (heap_alloc_new w1 _))).mono ?_; rintro e w1 ⟨rfl, hb⟩; have HK := Lib.hid ((HK.out.al _).keep hb); clear hb)
        | (go_at_call 8; refine (HW.out _).mono ?_; rintro e w1 ⟨rfl, hb⟩; have HK := Lib.hid (HK.out.keep hb); clear hb))
      go_ret
      exact ⟨rfl, HK.out.bel⟩
end Go.Proofs.Ytdpdokgbockmbaa
