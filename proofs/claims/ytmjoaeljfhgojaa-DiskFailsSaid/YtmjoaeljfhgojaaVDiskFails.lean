/-
  DiskFails: the walk, over what the code's disk owes.
-/
import Derived.Test.YtmjoaeljfhgojaaDFailM
set_option linter.unusedVariables false
namespace Go.Proofs.Ytmjoaeljfhgojaa
open Go.RowKit

section
variable {R : DRep} {w V : World} {g : Nat} {D : Dk}
theorem DOwn.appendNil (hD : DiskOk R) (h : DOwn R w g D V) (nm : ByteArray) (c : Nat) :
    Calls Try.prog 20 #[pt g, .string nm, .slice none 0 c] V fun e w' => e = .returned (.int .i64 (appE D nm ([] : List UInt8).length)) ∧ DOwn R w g (app D nm []) w' :=
  h.append hD (Below.refl _ _) nm c (At.nil V none) (fun h => absurd h (by omega)) (by omega)
theorem DOwn.fail3 (hD : DiskOk R) (h : DOwn R w g D V) (k : Int) (hk : -9223372036854775808 ≤ k ∧ k ≤ 9223372036854775807) (a b c : Int) :
    Calls Try.prog 30 #[pt g, .int .i64 k, .slice (some ⟨V.heap.size, 0, none⟩) 3 3] (V.alloc (.cells #[.int .i64 a, .int .i64 b, .int .i64 c] 3)) fun e w' => e = .returned (.tuple #[]) ∧ DOwn R w g (fal D k [a, b, c]) w' :=
  h.fail hD (below_alloc V (.cells #[.int .i64 a, .int .i64 b, .int .i64 c] 3)) k 3 hk (iat_new 3 [a, b, c] V) (fun _ => Away.new_ _ (Nat.le_refl _)) (by omega) (by omega)
theorem DOwn.append1 (hD : DiskOk R) (h : DOwn R w g D V) (nm : ByteArray) (u : UInt8) (y : Int) (hy : y = (u.toNat : Int)) :
    Calls Try.prog 20 #[pt g, .string nm, .slice (some ⟨V.heap.size, 0, none⟩) 1 1] (V.alloc (.cells #[.int .u8 y] 5)) fun e w' => e = .returned (.int .i64 (appE D nm ([u] : List UInt8).length)) ∧ DOwn R w g (app D nm [u]) w' := by
  subst hy
  exact h.append hD (below_alloc V (.cells ([u].map bv).toArray 5)) nm 1 (at_new 5 [u] V) (fun _ => Away.new_ _ (Nat.le_refl _)) (by decide)
end

set_option maxRecDepth 100000 in
set_option maxHeartbeats 20000000 in
theorem diskFails_w {R : DRep} (hD : DiskOk R) (A : Option Addr) (n c : Nat) (xs : List Int) (q : Int) (w : World) (hx : IAt w A n xs) (hnc : n ≤ c) (hk : c ≤ 9223372036854775807) :
    Calls Try.prog 6 #[.slice A n c, .int .i64 q] w fun e w' => e = .returned (.bool true) ∧ Below w.heap.size w w' := by
  have HD := Lib.hid hD
  have HW := Lib.hid (works_w hD w)
  have BQ := Lib.hid (fun V => bring q 31 V (by omega) (by omega))
  obtain ⟨z, hz, hz31⟩ : ∃ z : Nat, q % 31 = (z : Int) ∧ z ≤ 30 := ⟨(q % 31).toNat, by omega, by omega⟩
  rw [hz] at BQ
  clear hD hz
  have a1 : Hid (app dk0 nA [] = wd nA [] 0 false (-1) ∧ appE dk0 nA ([] : List UInt8).length = 0) := Lib.hid (app_new nA [] (-1) [] may_a (by decide) (by decide))
  go_enter Try.func6, Try.ntmps6
  go_wp2_with (first
    | (go_at_call 19; refine HW.out.mono ?_; rintro e1 w1 ⟨rfl, hb1⟩)
    | (go_at_call 9; refine (DOwn.new_ HD.out hb1).mono ?_; rintro e2 w2 ⟨g, rfl, hg, h2, hb2⟩)
    | (go_at_call 22; refine (BQ.out _).mono ?_; rintro e3 w3 ⟨rfl, rfl⟩)
    | (go_at_call 20; refine (h2.appendNil HD.out nA 0).mono ?_; rintro e4 w4 ⟨rfl, h4⟩; rw [a1.out.2]; rw [a1.out.1] at h4)
    | (go_at_call 30; refine (h4.fail3 HD.out z (by omega) _ _ _).mono ?_; rintro e5 w5 ⟨rfl, h5⟩))
  have hF0 : FS (fal (wd nA [] 0 false (-1)) z [1073741824, 1073741824, 1073741824]) 0 z := FS.new_ z _
  have HF0 := Lib.hid hF0
  generalize fal (wd nA [] 0 false (-1)) z [1073741824, 1073741824, 1073741824] = D0 at h5 HF0
  clear hF0 h4 h2 a1 HW BQ
  have hxl := Lib.hid hx.1
  have hx5 := hx.keepB h5.bel
  go_loopw [6, 7] (fun dn i wr => ∃ (k done : Nat) (D : Dk), k ≤ n ∧ i = .int .i64 k ∧ dn = .int .i64 done ∧ Hid (FS D done z) ∧ DOwn R w g D wr) (fun _ i _ => n - (intOf i).toNat)
  case atStart => exact ⟨0, 0, D0, Nat.zero_le _, rfl, rfl, HF0, h5⟩
  case round =>
    clear h5 HF0
    obtain ⟨k, done, D, hkn, rfl, rfl, HF, h⟩ := hrel
    have hF := HF.out
    by_cases hlt : k < n ∧ k < 30
    · obtain ⟨hlt1, hlt2⟩ := hlt
      obtain ⟨b, o, rfl, hc⟩ := (hx.keepB h.bel).2 (by omega)
      have hck := hc k (by rw [hxl.out]; exact hlt1)
      obtain ⟨v, hv⟩ : ∃ v, xs[k]'(by rw [hxl.out]; exact hlt1) = v := ⟨_, rfl⟩
      rw [hv] at hck
      have BR := fun V => bring v 6 V (by omega) (by omega)
      have hr0 := Int.emod_nonneg v (b := 6) (by omega)
      have hr6 := Int.emod_lt_of_pos v (b := 6) (by omega)
      have hu0 : ∃ u : UInt8, IntKind.u8.wrap (k : Int) = (u.toNat : Int) := ⟨UInt8.ofNat k, by rw [IntKind.wrap_u8]; simp⟩
      obtain ⟨u, hu⟩ := hu0
      have hdz : done ≤ z := by obtain ⟨_, _, _, _, _, h3, _⟩ := hF; exact h3
      clear hc hv
      rcases (show v % 6 = 0 ∨ v % 6 = 1 ∨ v % 6 = 2 ∨ v % 6 = 3 ∨ v % 6 = 4 ∨ v % 6 = 5 by omega) with e | e | e | e | e | e
      · rw [e] at BR
        have B1 := Lib.hid BR
        have hop := FS.app0 hz31 hF u
        obtain ⟨E, hE⟩ : ∃ E, appE D nA ([u] : List UInt8).length = E := ⟨_, rfl⟩
        obtain ⟨D1, hD1⟩ : ∃ D1, app D nA [u] = D1 := ⟨_, rfl⟩
        have S1 := Lib.hid (fun V (h : DOwn R w g D V) => h.append1 HD.out nA u _ rfl)
        rw [hE, hD1] at hop
        simp only [hE, hD1] at S1
        by_cases hd : done < z
        · obtain ⟨rfl, hF1⟩ := hop.1 hd
          have HF1 := Lib.hid hF1
          clear BR e hr0 hr6 hop hE hD1 HF hF hF1
          go_wp2_with (first
            | (go_at_call 22; refine (B1.out _).mono ?_; rintro e6 w6 ⟨rfl, rfl⟩)
            | (go_at_call 20; refine (S1.out _ h).mono ?_; rintro e7 w7 ⟨rfl, h7⟩))
          go_roundw
          case rel => exact ⟨k + 1, done + 1, D1, by omega, by go_num, by go_num, HF1, h7⟩
          case measure => simp [intOf]; omega
        · obtain ⟨rfl, hdd, hF1⟩ := hop.2 hd
          have HF1 := Lib.hid hF1
          have hdead := FS.dead_ hF1 hdd
          have HDD := Lib.hid hdd
          have HRD := Lib.hid hdead.1
          have HNM := Lib.hid hdead.2
          have hge : z ≤ done := by omega
          clear BR e hr0 hr6 hop hE hD1 HF hF hF1 hdead hdd hd
          go_wp2_with (first
            | (go_at_call 22; refine (B1.out _).mono ?_; rintro e6 w6 ⟨rfl, rfl⟩)
            | (go_at_call 20; refine (S1.out _ h).mono ?_; rintro e7 w7 ⟨rfl, h7⟩)
            | (go_at_call 25; refine (h7.readN HD.out nA HRD.out).mono ?_; rintro e8 w8 ⟨A8, n8, c8, rfl, _, h8⟩)
            | (go_at_call 15; refine (h8.dead HD.out).mono ?_; rintro e9 w9 ⟨rfl, _, h9⟩; rw [HDD.out])
            | (go_at_call 27; refine (h9.names HD.out).mono ?_; rintro e10 w10 ⟨A10, c10, rfl, _, _, _, _, h10⟩; rw [HNM.out]))
          go_roundw
          case rel => exact ⟨k + 1, done, D1, by omega, by go_num, rfl, HF1, h10⟩
          case measure => simp [intOf]; omega
      · rw [e] at BR
        have B1 := Lib.hid BR
        have hop := FS.syn_ hF
        obtain ⟨E, hE⟩ : ∃ E, synE D nA = E := ⟨_, rfl⟩
        obtain ⟨D1, hD1⟩ : ∃ D1, syn D nA = D1 := ⟨_, rfl⟩
        have S1 := Lib.hid (fun V (h : DOwn R w g D V) => h.sync HD.out nA)
        rw [hE, hD1] at hop
        simp only [hE, hD1] at S1
        by_cases hd : done < z
        · obtain ⟨rfl, hF1⟩ := hop.1 hd
          have HF1 := Lib.hid hF1
          clear BR e hr0 hr6 hop hE hD1 HF hF hF1
          go_wp2_with (first
            | (go_at_call 22; refine (B1.out _).mono ?_; rintro e6 w6 ⟨rfl, rfl⟩)
            | (go_at_call 21; refine (S1.out _ h).mono ?_; rintro e7 w7 ⟨rfl, h7⟩))
          go_roundw
          case rel => exact ⟨k + 1, done + 1, D1, by omega, by go_num, by go_num, HF1, h7⟩
          case measure => simp [intOf]; omega
        · obtain ⟨rfl, hdd, hF1⟩ := hop.2 hd
          have HF1 := Lib.hid hF1
          have hdead := FS.dead_ hF1 hdd
          have HDD := Lib.hid hdd
          have HRD := Lib.hid hdead.1
          have HNM := Lib.hid hdead.2
          have hge : z ≤ done := by omega
          clear BR e hr0 hr6 hop hE hD1 HF hF hF1 hdead hdd hd
          go_wp2_with (first
            | (go_at_call 22; refine (B1.out _).mono ?_; rintro e6 w6 ⟨rfl, rfl⟩)
            | (go_at_call 21; refine (S1.out _ h).mono ?_; rintro e7 w7 ⟨rfl, h7⟩)
            | (go_at_call 25; refine (h7.readN HD.out nA HRD.out).mono ?_; rintro e8 w8 ⟨A8, n8, c8, rfl, _, h8⟩)
            | (go_at_call 15; refine (h8.dead HD.out).mono ?_; rintro e9 w9 ⟨rfl, _, h9⟩; rw [HDD.out])
            | (go_at_call 27; refine (h9.names HD.out).mono ?_; rintro e10 w10 ⟨A10, c10, rfl, _, _, _, _, h10⟩; rw [HNM.out]))
          go_roundw
          case rel => exact ⟨k + 1, done, D1, by omega, by go_num, rfl, HF1, h10⟩
          case measure => simp [intOf]; omega
      · rw [e] at BR
        have B1 := Lib.hid BR
        have hop := FS.cut0 hF
        obtain ⟨E, hE⟩ : ∃ E, cutE D nA 0 = E := ⟨_, rfl⟩
        obtain ⟨D1, hD1⟩ : ∃ D1, cut D nA 0 = D1 := ⟨_, rfl⟩
        have S1 := Lib.hid (fun V (h : DOwn R w g D V) => h.cut HD.out nA 0 (by omega))
        rw [hE, hD1] at hop
        simp only [hE, hD1] at S1
        by_cases hd : done < z
        · obtain ⟨rfl, hF1⟩ := hop.1 hd
          have HF1 := Lib.hid hF1
          clear BR e hr0 hr6 hop hE hD1 HF hF hF1
          go_wp2_with (first
            | (go_at_call 22; refine (B1.out _).mono ?_; rintro e6 w6 ⟨rfl, rfl⟩)
            | (go_at_call 29; refine (S1.out _ h).mono ?_; rintro e7 w7 ⟨rfl, h7⟩))
          go_roundw
          case rel => exact ⟨k + 1, done + 1, D1, by omega, by go_num, by go_num, HF1, h7⟩
          case measure => simp [intOf]; omega
        · obtain ⟨rfl, hdd, hF1⟩ := hop.2 hd
          have HF1 := Lib.hid hF1
          have hdead := FS.dead_ hF1 hdd
          have HDD := Lib.hid hdd
          have HRD := Lib.hid hdead.1
          have HNM := Lib.hid hdead.2
          have hge : z ≤ done := by omega
          clear BR e hr0 hr6 hop hE hD1 HF hF hF1 hdead hdd hd
          go_wp2_with (first
            | (go_at_call 22; refine (B1.out _).mono ?_; rintro e6 w6 ⟨rfl, rfl⟩)
            | (go_at_call 29; refine (S1.out _ h).mono ?_; rintro e7 w7 ⟨rfl, h7⟩)
            | (go_at_call 25; refine (h7.readN HD.out nA HRD.out).mono ?_; rintro e8 w8 ⟨A8, n8, c8, rfl, _, h8⟩)
            | (go_at_call 15; refine (h8.dead HD.out).mono ?_; rintro e9 w9 ⟨rfl, _, h9⟩; rw [HDD.out])
            | (go_at_call 27; refine (h9.names HD.out).mono ?_; rintro e10 w10 ⟨A10, c10, rfl, _, _, _, _, h10⟩; rw [HNM.out]))
          go_roundw
          case rel => exact ⟨k + 1, done, D1, by omega, by go_num, rfl, HF1, h10⟩
          case measure => simp [intOf]; omega
      · rw [e] at BR
        have B1 := Lib.hid BR
        have hop := FS.ren_ hF
        obtain ⟨E, hE⟩ : ∃ E, renE D nA nA = E := ⟨_, rfl⟩
        obtain ⟨D1, hD1⟩ : ∃ D1, ren D nA nA = D1 := ⟨_, rfl⟩
        have S1 := Lib.hid (fun V (h : DOwn R w g D V) => h.rename HD.out nA nA)
        rw [hE, hD1] at hop
        simp only [hE, hD1] at S1
        by_cases hd : done < z
        · obtain ⟨rfl, hF1⟩ := hop.1 hd
          have HF1 := Lib.hid hF1
          clear BR e hr0 hr6 hop hE hD1 HF hF hF1
          go_wp2_with (first
            | (go_at_call 22; refine (B1.out _).mono ?_; rintro e6 w6 ⟨rfl, rfl⟩)
            | (go_at_call 31; refine (S1.out _ h).mono ?_; rintro e7 w7 ⟨rfl, h7⟩))
          go_roundw
          case rel => exact ⟨k + 1, done + 1, D1, by omega, by go_num, by go_num, HF1, h7⟩
          case measure => simp [intOf]; omega
        · obtain ⟨rfl, hdd, hF1⟩ := hop.2 hd
          have HF1 := Lib.hid hF1
          have hdead := FS.dead_ hF1 hdd
          have HDD := Lib.hid hdd
          have HRD := Lib.hid hdead.1
          have HNM := Lib.hid hdead.2
          have hge : z ≤ done := by omega
          clear BR e hr0 hr6 hop hE hD1 HF hF hF1 hdead hdd hd
          go_wp2_with (first
            | (go_at_call 22; refine (B1.out _).mono ?_; rintro e6 w6 ⟨rfl, rfl⟩)
            | (go_at_call 31; refine (S1.out _ h).mono ?_; rintro e7 w7 ⟨rfl, h7⟩)
            | (go_at_call 25; refine (h7.readN HD.out nA HRD.out).mono ?_; rintro e8 w8 ⟨A8, n8, c8, rfl, _, h8⟩)
            | (go_at_call 15; refine (h8.dead HD.out).mono ?_; rintro e9 w9 ⟨rfl, _, h9⟩; rw [HDD.out])
            | (go_at_call 27; refine (h9.names HD.out).mono ?_; rintro e10 w10 ⟨A10, c10, rfl, _, _, _, _, h10⟩; rw [HNM.out]))
          go_roundw
          case rel => exact ⟨k + 1, done, D1, by omega, by go_num, rfl, HF1, h10⟩
          case measure => simp [intOf]; omega
      · rw [e] at BR
        have B1 := Lib.hid BR
        have hop := FS.appB hz31 hF
        obtain ⟨E, hE⟩ : ∃ E, appE D nB ([] : List UInt8).length = E := ⟨_, rfl⟩
        obtain ⟨D1, hD1⟩ : ∃ D1, app D nB [] = D1 := ⟨_, rfl⟩
        have S1 := Lib.hid (fun V (h : DOwn R w g D V) => h.appendNil HD.out nB 0)
        rw [hE, hD1] at hop
        simp only [hE, hD1] at S1
        by_cases hd : done < z
        · obtain ⟨rfl, hF1⟩ := hop.1 hd
          have HF1 := Lib.hid hF1
          clear BR e hr0 hr6 hop hE hD1 HF hF hF1
          go_wp2_with (first
            | (go_at_call 22; refine (B1.out _).mono ?_; rintro e6 w6 ⟨rfl, rfl⟩)
            | (go_at_call 20; refine (S1.out _ h).mono ?_; rintro e7 w7 ⟨rfl, h7⟩))
          go_roundw
          case rel => exact ⟨k + 1, done + 1, D1, by omega, by go_num, by go_num, HF1, h7⟩
          case measure => simp [intOf]; omega
        · obtain ⟨rfl, hdd, hF1⟩ := hop.2 hd
          have HF1 := Lib.hid hF1
          have hdead := FS.dead_ hF1 hdd
          have HDD := Lib.hid hdd
          have HRD := Lib.hid hdead.1
          have HNM := Lib.hid hdead.2
          have hge : z ≤ done := by omega
          clear BR e hr0 hr6 hop hE hD1 HF hF hF1 hdead hdd hd
          go_wp2_with (first
            | (go_at_call 22; refine (B1.out _).mono ?_; rintro e6 w6 ⟨rfl, rfl⟩)
            | (go_at_call 20; refine (S1.out _ h).mono ?_; rintro e7 w7 ⟨rfl, h7⟩)
            | (go_at_call 25; refine (h7.readN HD.out nA HRD.out).mono ?_; rintro e8 w8 ⟨A8, n8, c8, rfl, _, h8⟩)
            | (go_at_call 15; refine (h8.dead HD.out).mono ?_; rintro e9 w9 ⟨rfl, _, h9⟩; rw [HDD.out])
            | (go_at_call 27; refine (h9.names HD.out).mono ?_; rintro e10 w10 ⟨A10, c10, rfl, _, _, _, _, h10⟩; rw [HNM.out]))
          go_roundw
          case rel => exact ⟨k + 1, done, D1, by omega, by go_num, rfl, HF1, h10⟩
          case measure => simp [intOf]; omega
      · rw [e] at BR
        have B1 := Lib.hid BR
        obtain ⟨z1, z2, z3⟩ := FS.none_ hF
        have S1 := Lib.hid (fun V (h : DOwn R w g D V) => h.sync HD.out nN)
        have S2 := Lib.hid (fun V (h : DOwn R w g D V) => h.cut HD.out nA (-1) (by omega))
        simp only [z1] at S1
        simp only [z2] at S2
        by_cases hd : done < z
        · obtain ⟨y1, y2⟩ := z3 hd
          simp only [y1] at S1
          simp only [y2] at S2
          clear BR e hr0 hr6 z1 z2 z3 y1 y2 hF
          go_wp2_with (first
            | (go_at_call 22; refine (B1.out _).mono ?_; rintro e6 w6 ⟨rfl, rfl⟩)
            | (go_at_call 21; refine (S1.out _ h).mono ?_; rintro e7 w7 ⟨rfl, h7⟩)
            | (go_at_call 29; refine (S2.out _ h7).mono ?_; rintro e8 w8 ⟨rfl, h8⟩))
          go_roundw
          case rel => exact ⟨k + 1, done, D, by omega, by go_num, rfl, HF, h8⟩
          case measure => simp [intOf]; omega
        · have hge : z ≤ done := by omega
          obtain ⟨E1, hE1⟩ : ∃ E, synE D nN = E := ⟨_, rfl⟩
          obtain ⟨E2, hE2⟩ : ∃ E, cutE D nA (-1) = E := ⟨_, rfl⟩
          simp only [hE1] at S1
          simp only [hE2] at S2
          clear BR e hr0 hr6 z1 z2 z3 hE1 hE2 hF hd
          go_wp2_with (first
            | (go_at_call 22; refine (B1.out _).mono ?_; rintro e6 w6 ⟨rfl, rfl⟩)
            | (go_at_call 21; refine (S1.out _ h).mono ?_; rintro e7 w7 ⟨rfl, h7⟩)
            | (go_at_call 29; refine (S2.out _ h7).mono ?_; rintro e8 w8 ⟨rfl, h8⟩))
          go_roundw
          case rel => exact ⟨k + 1, done, D, by omega, by go_num, rfl, HF, h8⟩
          case measure => simp [intOf]; omega
    · have hE := FS.end_ hz31 hF
      have E1 := Lib.hid hE.1
      have E2 := Lib.hid hE.2.1
      have E3 := Lib.hid hE.2.2
      obtain ⟨D1, hD1⟩ : ∃ D1, boot D = D1 := ⟨_, rfl⟩
      rw [hD1] at E1 E2 E3
      have S1 := Lib.hid (fun V (h : DOwn R w g D V) => h.bootN HD.out hD1)
      clear hE hF HF hD1
      by_cases h1 : k < n
      · have hge : 30 ≤ k := by omega
        clear hlt
        go_wp2_with (first
          | (go_at_call 24; refine (S1.out _ h).mono ?_; rintro e6 w6 ⟨rfl, h6⟩)
          | (go_at_call 25; refine (h6.readN HD.out nA E2.out).mono ?_; rintro e7 w7 ⟨A7, n7, c7, rfl, _, h7⟩)
          | (go_at_call 15; refine (h7.dead HD.out).mono ?_; rintro e8 w8 ⟨rfl, _, h8⟩; rw [E1.out])
          | (go_at_call 20; refine (h8.appendNil HD.out nA 0).mono ?_; rintro e9 w9 ⟨rfl, h9⟩; rw [E3.out]))
        go_ret
        exact ⟨rfl, h9.bel⟩
      · have hge : n ≤ k := by omega
        clear hlt
        go_wp2_with (first
          | (go_at_call 24; refine (S1.out _ h).mono ?_; rintro e6 w6 ⟨rfl, h6⟩)
          | (go_at_call 25; refine (h6.readN HD.out nA E2.out).mono ?_; rintro e7 w7 ⟨A7, n7, c7, rfl, _, h7⟩)
          | (go_at_call 15; refine (h7.dead HD.out).mono ?_; rintro e8 w8 ⟨rfl, _, h8⟩; rw [E1.out])
          | (go_at_call 20; refine (h8.appendNil HD.out nA 0).mono ?_; rintro e9 w9 ⟨rfl, h9⟩; rw [E3.out]))
        go_ret
        exact ⟨rfl, h9.bel⟩
end Go.Proofs.Ytmjoaeljfhgojaa
