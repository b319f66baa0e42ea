/-
  Layer 9: SkipDoes, walked.
-/
import Derived.Test.YtcpbcoeccplliaaVSkipAsks
import Derived.Deep.CutRange
import Derived.Deep.CutBlock
set_option linter.unusedVariables false
namespace Go.Proofs.Ytcpbcoeccplliaa
open Go.RowKit

theorem sls_size (w : World) : (sizeOf 29).run Try.prog w = .ok 4 w := by kernel_rfl
theorem sls_elem : Try.prog.elem 22 = 29 := by kernel_rfl
theorem sls_under : Try.prog.underlying 22 = some (.slice (Try.prog.elem 22)) := by rw [sls_elem]; exact Try.underlying22
theorem sls_h (A : Option Addr) (n c : Nat) (kh : IntKind) (h : Int) (w : World) (h0 : 0 ≤ h) (h2 : h ≤ c) :
    (Instr.slice 22 (.slice A n c) none (some (.int kh h)) none).run Try.prog w = .ok (.slice A h.toNat c) w := by
  rw [run_slice_h w 22 A n c sls_under kh h h0 h2, sls_elem, sls_size]
  simp only [Result.andThen, sliced, Nat.sub_zero, Nat.zero_mul]
  congr 2
  split
  · rfl
  · cases A with
    | none => rfl
    | some a => simp [Addr.add]
theorem SdAt.head {w : World} {A : Option Addr} {n : Nat} {l : List Sd9} (h : SdAt w A n l) {p : Nat} (hp : p ≤ n) : SdAt w A p (l.take p) := by
  refine ⟨by rw [List.length_take, h.1]; omega, fun h0 => ?_⟩
  obtain ⟨b, o, e, hc⟩ := h.2 (by omega)
  refine ⟨b, o, e, fun i hi => ?_⟩
  rw [List.length_take] at hi
  rw [List.getElem_take]
  exact hc i (by omega)
/-- A text of the walk's own is written. -/
theorem Has.txSet {w V : World} {T : List As} {g n c : Nat} {ys : List ByteArray} (h : Has w (txA (.slice (some ⟨g, 0, none⟩) n c) ys :: T) V) (hn : ys.length = n) {i : Nat} (hi : i < n) (s : ByteArray) :
    Has w (txA (.slice (some ⟨g, 0, none⟩) n c) (ys.set i s) :: T) (V.setCell ⟨g, i, none⟩ (.string s)) ∧ V.cell? ⟨g, i, none⟩ = some (.string (ys[i]'(by omega))) ∧ V.frozen? ⟨g, i, none⟩ = false := by
  obtain ⟨F, h1, _, h2⟩ := h.step
  subst hn
  have hr := h1.1
  refine ⟨h2 _ _ F ((Grow.refl F V).set (.inl ((h1.2 g).2 rfl)) _) ⟨?_, h1.2⟩ (fun k e => .inl e), ?_, World.ownsRow.frozenAt hr i⟩
  · have := (World.ownsRow.stored hr i (.string s)).1
    rw [List.length_set, List.map_set]
    exact this
  · rw [World.ownsRow.cellAt hr i (by omega), List.getElem?_map, List.getElem?_eq_getElem (by omega)]
    rfl
theorem Has.txSome {w V : World} {T : List As} {v : Value} {ys : List ByteArray} (h : Has w (txA v ys :: T) V) (hn : 0 < ys.length) : ∃ g c, v = .slice (some ⟨g, 0, none⟩) ys.length c ∧ ys.length ≤ c ∧ c ≤ 9223372036854775807 := by
  obtain ⟨F, h1, _⟩ := h.get
  rcases h1.1.2 with ⟨_, h0⟩ | ⟨q, cap, cur, e, _, _, hc, hm, _⟩
  · omega
  · exact ⟨q, cap, e, hc, hm⟩
theorem Has.txtA {w V : World} {T : List As} {A : Option Addr} {n c : Nat} {xs : List ByteArray} (h : Has w (txA (.slice A n c) xs :: T) V) : SAt V A xs.length xs := by
  obtain ⟨A', c', e, hat, _⟩ := h.txt
  injection e with e1 _ _
  rw [e1]
  exact hat
abbrev spoilt : ByteArray := ⟨#[115, 112, 111, 105, 108, 116]⟩
set_option maxRecDepth 100000 in
set_option maxHeartbeats 16000000 in
theorem skipDoes_w (A0 : Option Addr) (n0 c0 : Nat) (w : World) (ds0 : List Sd9) (hds0 : SdAt w A0 n0 ds0) (hok0 : ∀ i (h : i < ds0.length), (ds0[i]'h).ok) (hn : n0 ≤ c0) (hc0 : c0 ≤ 9223372036854775807) :
    Calls Try.prog 3 #[.slice A0 n0 c0] w fun e w' => e = .returned (.bool true) ∧ Below w.heap.size w w' := by
  have h0 : Has w [] w := Has.nil (Below.refl _ _)
  obtain ⟨m, hm, hm80, hmn⟩ : ∃ m : Nat, min (n0 : Int) 80 = (m : Int) ∧ m ≤ 80 ∧ m ≤ n0 := ⟨min n0 80, by omega, by omega, by omega⟩
  obtain ⟨ds, hds, hok⟩ : ∃ ds : List Sd9, SdAt w A0 m ds ∧ ∀ i (h : i < ds.length), (ds[i]'h).ok := ⟨ds0.take m, hds0.head hmn, fun i h => by
    rw [List.getElem_take]
    exact hok0 i (by rw [List.length_take] at h; omega)⟩
  have hSL := fun W : World => sls_h A0 n0 c0 .i64 (m : Int) W (by omega) (by omega)
  rw [show (m : Int).toNat = m by omega] at hSL
  have HDS := Lib.hid hds
  have HLN := Lib.hid hds.1
  have HOK := Lib.hid hok
  clear hds hok hds0 hok0
  go_enter Try.func3, Try.ntmps3
  go_wp2_with (first
    | (go_at_call 11; refine h0.skNew.mono ?_; rintro e w1 ⟨q, rfl, h1⟩; clear h0)
    | (go_at_call 12; refine h1.rfNew.mono ?_; rintro e w2 ⟨b, rfl, h2⟩; have H2 := Lib.hid h2.swap; clear h1 h2))
  go_loopw [5] (fun i wr => ∃ k : Nat, k ≤ m ∧ i = .int .i64 k ∧ Hid (Has w (skA q (listK ds k) :: rfA b (listK ds k) :: []) wr)) (fun i _ => m - (intOf i).toNat)
  case atStart => exact ⟨0, Nat.zero_le _, rfl, H2⟩
  case round =>
    obtain ⟨k, hk, rfl, HH⟩ := hrel
    have hlen := listK_len ds k
    by_cases hlt : k < m
    · have e1 : k < ds.length := by rw [HLN.out]; exact hlt
      obtain ⟨bb, o, rfl, hc⟩ := (HDS.out.below HH.out.bel).2 (by omega)
      obtain ⟨y0, y1, y2, y3⟩ := hc k e1
      have hokk := HOK.out k e1
      have hs := listK_succ e1
      obtain ⟨⟨kind, dk, val, st⟩, hg⟩ : ∃ x, ds[k]'e1 = x := ⟨_, rfl⟩
      rw [hg] at y0 y1 y2 y3 hokk hs
      have DN := Lib.hid (sk_done HH.out (by omega) hokk.size hokk.lo hokk.hi : Calls _ _ #[pt q, pt b, .agg #[.int .i64 kind, .string dk, .int .i64 val, .int .i64 st]] wr _)
      rw [← hs] at DN
      clear hc hs hg hokk hlen e1
      go_wp2_with (first
        | (go_at_call 13; refine DN.out.mono ?_; rintro e w3 ⟨rfl, h3⟩)
        | (go_at_call 14; refine h3.skLen.mono ?_; rintro e w4 ⟨rfl, h4⟩)
        | (go_at_call 15; refine h4.swap.rfLen.mono ?_; rintro e w5 ⟨rfl, h5⟩))
      go_roundw
      case rel => exact ⟨k + 1, by omega, by go_num, Lib.hid h5.swap⟩
      case measure => simp [intOf]; omega
    · obtain rfl : k = m := by omega
      obtain ⟨LF, hLF⟩ : ∃ l, listK ds k = l := ⟨_, rfl⟩
      rw [hLF] at HH hlen
      clear hLF H2
      obtain ⟨wo, rfl⟩ : ∃ wo : World, wo = wr := ⟨_, rfl⟩
      go_wp2_with fail
      go_loopw [6] (fun i wr => ∃ j : Nat, j ≤ k ∧ i = .int .i64 j ∧ Hid (Has w (skA q LF :: rfA b LF :: []) wr)) (fun i _ => k - (intOf i).toNat)
      case atStart => exact ⟨0, Nat.zero_le _, rfl, HH⟩
      case round =>
        obtain ⟨j, hj, rfl, HJ⟩ := hrel
        by_cases hjt : j < k
        · have e1 : j < ds.length := by rw [HLN.out]; exact hjt
          obtain ⟨bb, o, rfl, hc⟩ := (HDS.out.below HJ.out.bel).2 (by omega)
          obtain ⟨z0, y1, z2, z3⟩ := hc j e1
          obtain ⟨key, hkey⟩ : ∃ x, (ds[j]'e1).key = x := ⟨_, rfl⟩
          rw [hkey] at y1
          obtain ⟨vn, hvn⟩ := HJ.out.swap.nums key
          obtain ⟨fk, fb, hf⟩ := firstV_form LF key
          obtain ⟨lk, lb, hlv⟩ := lastV_form LF key
          obtain ⟨hb, hhb⟩ : ∃ x, khas LF key = x := ⟨_, rfl⟩
          obtain ⟨sn, hsn⟩ : ∃ x, ksteps LF key = x := ⟨_, rfl⟩
          have G1 := Lib.hid (fun W (h : Has w (skA q LF :: rfA b LF :: []) W) => h.skGet key)
          have G2 := Lib.hid (fun W (h : Has w (rfA b LF :: skA q LF :: []) W) => h.rfGet key)
          have F1 := Lib.hid (fun W (h : Has w (skA q LF :: rfA b LF :: []) W) => h.skFirst key)
          have F2 := Lib.hid (fun W (h : Has w (rfA b LF :: skA q LF :: []) W) => h.rfFirst key)
          have LA1 := Lib.hid (fun W (h : Has w (skA q LF :: rfA b LF :: []) W) => h.skLast key)
          have LA2 := Lib.hid (fun W (h : Has w (rfA b LF :: skA q LF :: []) W) => h.rfLast key)
          have S1 := Lib.hid (fun W (h : Has w (skA q LF :: rfA b LF :: []) W) => h.skSteps key)
          have S2 := Lib.hid (fun W (h : Has w (rfA b LF :: skA q LF :: []) W) => h.rfSteps key)
          rw [hvn, hhb] at G1 G2
          rw [hf] at F1 F2
          rw [hlv] at LA1 LA2
          rw [hsn] at S1 S2
          have ss1 : (fk.toList == fk.toList) = true := by simp
          have ss2 : (lk.toList == lk.toList) = true := by simp
          clear hvn hf hlv hhb hsn hlen hc hkey z0 z2 z3 e1
          go_wp2_with (first
            | (go_at_call 16; refine (G1.out _ HJ.out).mono ?_; rintro e w3 ⟨rfl, h3⟩)
            | (go_at_call 17; refine (G2.out _ h3.swap).mono ?_; rintro e w4 ⟨rfl, h4⟩; clear h3)
            | (go_at_call 18; refine (F1.out _ h4.swap).mono ?_; rintro e w5 ⟨rfl, h5⟩; clear h4)
            | (go_at_call 19; refine (F2.out _ h5.swap).mono ?_; rintro e w6 ⟨rfl, h6⟩; clear h5)
            | (go_at_call 20; refine (LA1.out _ h6.swap).mono ?_; rintro e w7 ⟨rfl, h7⟩; clear h6)
            | (go_at_call 21; refine (LA2.out _ h7.swap).mono ?_; rintro e w8 ⟨rfl, h8⟩; clear h7)
            | (go_at_call 22; refine (S1.out _ h8.swap).mono ?_; rintro e w9 ⟨rfl, h9⟩; clear h8)
            | (go_at_call 23; refine (S2.out _ h9.swap).mono ?_; rintro e w10 ⟨rfl, h10⟩; clear h9))
          go_roundw
          case rel => exact ⟨j + 1, by omega, by go_num, Lib.hid h10.swap⟩
          case measure => simp [intOf]; omega
        · obtain rfl : j = k := by omega
          obtain ⟨wo2, rfl⟩ : ∃ wo : World, wo = wr := ⟨_, rfl⟩
          have hl9 : LF.length ≤ 1000000000 := by omega
          go_wp2_with fail
          go_loopw [20] (fun i wr => ∃ r : Nat, r ≤ 20 ∧ i = .int .i64 ((r : Int) - 1) ∧ Hid (Has w (skA q LF :: rfA b LF :: []) wr)) (fun i _ => (19 - intOf i).toNat)
          case atStart => exact ⟨0, by omega, rfl, HJ⟩
          case round =>
            obtain ⟨r, hr, rfl, HR⟩ := hrel
            obtain ⟨wo3, rfl⟩ : ∃ wo : World, wo = wr := ⟨_, rfl⟩
            by_cases hrt : r < 20
            · have hn1 : -9223372036854775808 ≤ (r : Int) - 1 := by omega
              have hn2 : (r : Int) - 1 ≤ 9223372036854775807 := by omega
              have ST1 := Lib.hid (HR.out.skStep ((r : Int) - 1) hl9 hn1 hn2)
              have ST2 := Lib.hid (fun W T (h : Has w (rfA b LF :: T) W) => h.rfStep ((r : Int) - 1) hl9 hn1 hn2)
              obtain ⟨XS, hXS⟩ : ∃ x, kstepI LF ((r : Int) - 1) = x := ⟨_, rfl⟩
              rw [hXS] at ST1 ST2
              clear hXS hn1 hn2
              go_wp2_with (first
                | (go_at_call 24; refine ST1.out.mono ?_; rintro e w3 ⟨v1, rfl, h3⟩; obtain ⟨A1, c1, rfl, _, hle1, hcm1⟩ := h3.txt; have H3 := Lib.hid h3; clear h3)
                | (go_at_call 26; refine (ST2.out _ _ H3.out.rot3).mono ?_; rintro e w4 ⟨v2, rfl, h4⟩; obtain ⟨A2, c2, rfl, hat2, hle2, hcm2⟩ := h4.txt; have H5 := Lib.hid h4.tail.swap; have SM := Lib.hid (same9e A1 A2 XS.length XS.length c1 c2 XS _ h4.tail.swap.txtA hat2 (by omega) (by omega)); clear h4 hat2 hle2 hcm2)
                | (go_at_call 25; refine SM.out.mono ?_; rintro e w5 ⟨rfl, hb5⟩; have H6 := Lib.hid (H5.out.keep hb5)))
              clear SM H5 H3 ST1 ST2
              go_loopw [22] (fun i wr => ∃ (s : Nat) (ys : List ByteArray), s ≤ XS.length ∧ i = .int .i64 s ∧ Hid (ys.length = XS.length) ∧ Hid (Has w (txA (.slice A1 XS.length c1) ys :: rfA b LF :: skA q LF :: []) wr)) (fun i _ => XS.length - (intOf i).toNat)
              case atStart => exact ⟨0, XS, Nat.zero_le _, rfl, Lib.hid rfl, H6⟩
              case round =>
                obtain ⟨s, ys, hs, rfl, HYL, HY⟩ := hrel
                by_cases hst : s < XS.length
                · obtain ⟨g, c1', hsl, hle, hcm⟩ := HY.out.txSome (by rw [HYL.out]; omega)
                  rw [HYL.out] at hsl
                  injection hsl with e1 e2 e3
                  subst e1
                  clear e2 e3 hle hcm c1'
                  obtain ⟨t1, t2, t3⟩ := HY.out.txSet HYL.out hst spoilt
                  have HT := Lib.hid t1
                  have HYL2 := Lib.hid (show (ys.set s spoilt).length = XS.length from by rw [List.length_set]; exact HYL.out)
                  generalize (ys[s]'(by rw [HYL.out]; exact hst)) = old at *
                  clear t1 HY HYL
                  go_wp2_with fail
                  go_roundw
                  case rel => exact ⟨s + 1, _, by omega, by go_num, HYL2, HT⟩
                  case measure => simp [intOf]; omega
                · obtain rfl : s = XS.length := by omega
                  go_wp2_with fail
                  go_roundw
                  case rel => exact ⟨r + 1, by omega, by go_num, Lib.hid HY.out.tail.swap⟩
                  case measure => simp [intOf]; omega
            · obtain rfl : r = 20 := by omega
              have ST1 := Lib.hid (HR.out.skStep 1 hl9 (by omega) (by omega))
              have ST2 := Lib.hid (fun W T (h : Has w (rfA b LF :: T) W) => h.rfStep 1 hl9 (by omega) (by omega))
              obtain ⟨XS, hXS⟩ : ∃ x, kstepI LF 1 = x := ⟨_, rfl⟩
              rw [hXS] at ST1 ST2
              clear hXS
              go_wp2_with (first
                | (go_at_call 24; refine ST1.out.mono ?_; rintro e w3 ⟨v1, rfl, h3⟩; obtain ⟨A1, c1, rfl, _, hle1, hcm1⟩ := h3.txt; have H3 := Lib.hid h3; clear h3)
                | (go_at_call 26; refine (ST2.out _ _ H3.out.rot3).mono ?_; rintro e w4 ⟨v2, rfl, h4⟩; obtain ⟨A2, c2, rfl, hat2, hle2, hcm2⟩ := h4.txt; have H5 := Lib.hid h4; have SM := Lib.hid (same9e A1 A2 XS.length XS.length c1 c2 XS _ h4.tail.swap.txtA hat2 (by omega) (by omega)); clear h4 hat2 hle2 hcm2)
                | (go_at_call 25; refine SM.out.mono ?_; rintro e w5 ⟨rfl, hb5⟩; have H6 := Lib.hid (H5.out.keep hb5))
                | (go_at_call 27; refine (sk_works _).mono ?_; rintro e w11 ⟨rfl, hb11⟩))
              go_ret
              exact ⟨rfl, bst H6.out.bel hb11⟩
end Go.Proofs.Ytcpbcoeccplliaa
