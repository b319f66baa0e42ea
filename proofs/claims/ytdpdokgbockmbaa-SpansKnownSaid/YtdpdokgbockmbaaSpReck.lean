/-
  Layer 16, the code: reckon whole; Join, Both, Less (written by wip/genspr.py).
-/
import Derived.Test.YtdpdokgbockmbaaSpRk
set_option linter.unusedVariables false
set_option linter.unusedSimpArgs false
set_option maxRecDepth 100000
namespace Go.Proofs.Ytdpdokgbockmbaa
open Go.RowKit

theorem spClone (s : ByteArray) (w : World) (hs : s.size ≤ 281474976710656) : Calls Try.prog 29 #[.string s] w fun e w' => e = .returned (.string s) ∧ Below w.heap.size w w' := by
  have CL := Lib.hid (Try.stringslite_Clone s w hs)
  clear hs
  go_enter Try.func29, Try.ntmps29
  go_wp2_with (go_at_call 39; refine CL.out.mono ?_; rintro e w2 ⟨rfl, hb⟩)
  go_ret
  exact ⟨rfl, hb⟩
def lenV : Value → Nat
  | .slice _ n _ => n
  | _ => 0
theorem gl_eq {k : ByteArray} {e : En} {es : List En} {x y : Int} (h : e.k = k) : gl k (e :: es) x y = gl k es (x + put1 0 e) (y + put1 1 e) := by rw [gl, if_pos h]
theorem gl_ne {k : ByteArray} {e : En} {es : List En} {x y : Int} (h : e.k ≠ k) : gl k (e :: es) x y = (e :: es, x, y) := by rw [gl, if_neg h]
set_option maxHeartbeats 8000000 in
theorem spReck (W : Bool → Bool → Bool) (hW : W false false = false) (g : Nat) (eg : ∀ args w, (callFunc g args).run Try.prog w = .ok (.enter g args) w)
    (hg : ∀ x y V, Calls Try.prog g #[.bool x, .bool y] V fun e w' => e = .returned (.bool (W x y)) ∧ w' = V)
    (A B : Option Addr) (n m c d : Nat) (a b : List Sn) (w : World) (ha : SnAt w A n a) (hb : SnAt w B m b) (hn : n ≤ 9223372036854775807) (hm : m ≤ 9223372036854775807) (h0 : chkL a b = 0) :
    Calls Try.prog 23 #[.slice A n c, .slice B m d, .func (.func g) #[] #[]] w fun e w' =>
      ∃ out v, Spe W a b out ∧ e = .returned (.tuple #[v, .int .i64 0]) ∧ SnRow w' w.heap.size v out.length out ∧ Below w.heap.size w w' := by
  have HCK := Lib.hid (spChk A B n m c d a b w ha hb hn hm)
  rw [h0] at HCK
  have hla := ha.1
  have hlb := hb.1
  have hlen : n ≤ 1000 ∧ m ≤ 1000 := by
    unfold chkL at h0
    split at h0
    · cases h0
    · omega
  have hmay : MaySp a ∧ MaySp b := by
    unfold chkL at h0
    split at h0
    · cases h0
    · split at h0
      · rename_i h1
        exact ⟨fstE_may h1, fstE_may h0⟩
      · contradiction
  have HMA := Lib.hid hmay
  have HEN := Lib.hid (fun V (h : Below w.heap.size w V) => spEnds A B n m c d a b V (ha.below h) (hb.below h) hlen.1 hlen.2)
  have HCL := Lib.hid spClone
  have HG := Lib.hid hg
  have HLL := Lib.hid (And.intro hla hlb)
  obtain ⟨hn1, hm1⟩ := hlen
  clear ha hb hla hlb hmay hg h0 hn hm
  have HN := Lib.hid (And.intro hn1 hm1)
  clear hn1 hm1
  go_enter Try.func23, Try.ntmps23
  go_wp2_with (first
    | (go_at_call 36; refine HCK.out.mono ?_; rintro e w1 ⟨rfl, hb1⟩; have HB1 := Lib.hid hb1; have HB2 := Lib.hid (bsa hb1 (.cells #[.int .i64 0, .int .i64 0] 65)); have HX := Lib.hid (Blk.new w1 65 #[.int .i64 0, .int .i64 0]); clear hb1)
    | (go_at_call 37; refine (HEN.out _ HB2.out).mono ?_; rintro e V0 ⟨E0, C0, D, rfl, h1, h2, h3, h4, h5, h6⟩
       have hx := HX.out.below h6 (by simp)
       have HM0 := Lib.hid (show RkM w V0 w1.heap.size 0 0 V0 from ⟨hx, Grow.refl _ _, bst HB2.out h6, HB1.out.size, by have := h6.size; simp at this; omega⟩)
       have HE0 := Lib.hid (EnK.first (C := C0) h3 hx h1 h2)
       have HS0 := Lib.hid (RkS.start W HMA.out.1 HMA.out.2 h4)
       have HSP := Lib.hid (reck_spec W hW HMA.out.1 HMA.out.2 h4 h5)
       have HDL := Lib.hid (show D.length ≤ 4000 from by have := h4.length_eq; rw [endsAB, List.length_append, endsL_len, endsL_len, HLL.out.1, HLL.out.2] at this; have := HN.out; omega)
       generalize hRES : rk W D.length D 0 0 ⟨#[]⟩ false [] = RES at HS0 HSP
       clear hRES h1 h2 h3 h4 h5 h6 hx))
  obtain ⟨DL, hDL⟩ : ∃ DL, D.length = DL := ⟨_, rfl⟩
  rw [hDL] at HE0 HS0 HDL ⊢
  clear hDL
  have SEQ := Lib.hid (Nat.le_refl V0.heap.size)
  go_loopw [9, 11, 12, 13] (fun v9 v11 v12 v13 wr => ∃ (r : List En) (x y : Int) (fr : ByteArray) (op : Bool) (out : List Sn) (E VA : Option Addr) (N C M VC : Nat),
      v9 = .slice VA M VC ∧ v11 = .string fr ∧ v12 = .bool op ∧ v13 = .slice E N C ∧ Hid (EnK V0 w1.heap.size E N C r) ∧ Hid (RkM w V0 w1.heap.size x y wr) ∧ Hid (RkS W RES DL r x y fr op out) ∧ Hid (SnRow wr V0.heap.size (.slice VA M VC) M out))
    (fun _ _ _ v13 _ => lenV v13)
  case atStart => exact ⟨D, 0, 0, ⟨#[]⟩, false, [], E0, none, DL, C0, 0, 0, rfl, rfl, rfl, rfl, HE0, HM0, HS0, Lib.hid (SnRow.nil _ _)⟩
  case round =>
    obtain ⟨r, x, y, fr, op, out, E, VA, N, C, M, VC, rfl, rfl, rfl, rfl, HEK, HRM, HRS, HOUT⟩ := hrel
    by_cases hN : 0 < N
    · have hNi : (0 : Int) < (N : Int) := by omega
      obtain ⟨e, es, rfl⟩ : ∃ e es, r = e :: es := by
        cases r with
        | nil => have := HEK.out.1.1; simp at this; omega
        | cons e es => exact ⟨e, es, rfl⟩
      obtain ⟨K, li0, mo0⟩ := e
      obtain ⟨GL, hGL0⟩ : ∃ GL, gl K (⟨K, li0, mo0⟩ :: es) x y = GL := ⟨_, rfl⟩
      have hGL := Lib.hid hGL0
      have HL0 := Lib.hid (show es.length + 1 = N from HEK.out.1.1)
      have HRB0 := Lib.hid HRS.out.b
      obtain ⟨q0, o0, rfl, hcc⟩ := (HEK.out.at_ HRM.out).2 hN
      obtain ⟨c0, -, -⟩ := hcc 0 (by simp)
      simp at c0
      clear hcc hGL0
      go_wp2
      go_loopw [13] (fun v13 wr => ∃ (r1 : List En) (x1 y1 : Int) (E1 : Option Addr) (N1 C1 : Nat), v13 = .slice E1 N1 C1 ∧ Hid (EnK V0 w1.heap.size E1 N1 C1 r1) ∧ Hid (RkM w V0 w1.heap.size x1 y1 wr) ∧ Hid (RkB DL r1 x1 y1) ∧ Hid (gl K r1 x1 y1 = GL) ∧ Hid (SnRow wr V0.heap.size (.slice VA M VC) M out)) (fun v13 _ => lenV v13)
      case atStart => exact ⟨_, x, y, _, N, C, rfl, HEK, HRM, HRB0, hGL, HOUT⟩
      case round =>
        clear c0
        obtain ⟨r1, x1, y1, E1, N1, C1, rfl, HEK1, HRM1, HRB, HGL1, HOUT1⟩ := hrel
        by_cases hN1 : 0 < N1
        · have hNi1 : (0 : Int) < (N1 : Int) := by omega
          obtain ⟨u, us, rfl⟩ : ∃ u us, r1 = u :: us := by
            cases r1 with
            | nil => have := HEK1.out.1.1; simp at this; omega
            | cons e es => exact ⟨e, es, rfl⟩
          obtain ⟨q, o, rfl, hcc⟩ := (HEK1.out.at_ HRM1.out).2 hN1
          obtain ⟨c0, c1, c2⟩ := hcc 0 (by simp)
          clear hcc
          obtain ⟨k, li, mo⟩ := u
          simp at c0 c1 c2
          have hb0 := HRM1.out.hv.cell 0
          have hb1 := HRM1.out.hv.cell 1
          simp at hb0 hb1
          have hf0 := HRM1.out.hv.frozen 0
          have hf1 := HRM1.out.hv.frozen 1
          have hSL := fun W : World => sle_l (some ⟨q, o, none⟩) N1 C1 .i64 1 W (by omega) (by omega)
          simp only [show (1 : Int).toNat = 1 from rfl] at hSL
          by_cases hk : k = K
          · subst hk
            rcases (HRB.out.mem _ List.mem_cons_self).1 with hli | hli
            · simp only at hli
              subst hli
              have HR2 := Lib.hid (show RkB DL us (x1 + put1 0 ⟨k, 0, mo⟩) (y1 + put1 1 ⟨k, 0, mo⟩) from HRB.out.step)
              have HE2 := Lib.hid HEK1.out.tail
              have HG2 := Lib.hid (show gl k us (x1 + put1 0 ⟨k, 0, mo⟩) (y1 + put1 1 ⟨k, 0, mo⟩) = GL from (gl_eq rfl).symm.trans HGL1.out)
              have e0 : put1 0 (⟨k, 0, mo⟩ : En) = mo := rfl
              have e1 : put1 1 (⟨k, 0, mo⟩ : En) = 0 := rfl
              rw [e0, e1] at HR2 HG2
              clear e0 e1
              simp only [Int.add_zero] at HR2 HG2
              have HRM2 := Lib.hid (show RkM w V0 w1.heap.size (x1 + mo) (y1) ((wr.setCell ⟨w1.heap.size, 0, none⟩ (.int .i64 (x1 + mo))).drew) from (HRM1.out.set0).drew)
              have HOUT2 := Lib.hid (show SnRow ((wr.setCell ⟨w1.heap.size, 0, none⟩ (.int .i64 (x1 + mo))).drew) V0.heap.size (.slice VA M VC) M out from ownsRow_setCell_below HOUT1.out (by have := HRM1.out.in0; exact this) _)
              have hbd : -9223372036854775808 ≤ x1 + mo ∧ x1 + mo ≤ 9223372036854775807 := by have h1 := HRB.out.bx; have h2 := HRB.out.by_; have h3 := (HRB.out.mem ⟨k, 0, mo⟩ (by simp)).2.1; have h4 := HDL.out; simp only at h3; rw [List.length_cons] at h1 h2; omega
              obtain ⟨hbl, hbh⟩ := hbd
              go_wp2
              go_region
              go_wp2
              go_roundw
              case rel => exact ⟨us, x1 + mo, y1, cutEn (some ⟨q, o, none⟩) C1 1, N1 - 1, C1 - 1, rfl, HE2, HRM2, HR2, HG2, HOUT2⟩
              case measure => simp [lenV]; omega
            · simp only at hli
              subst hli
              have HR2 := Lib.hid (show RkB DL us (x1 + put1 0 ⟨k, 1, mo⟩) (y1 + put1 1 ⟨k, 1, mo⟩) from HRB.out.step)
              have HE2 := Lib.hid HEK1.out.tail
              have HG2 := Lib.hid (show gl k us (x1 + put1 0 ⟨k, 1, mo⟩) (y1 + put1 1 ⟨k, 1, mo⟩) = GL from (gl_eq rfl).symm.trans HGL1.out)
              have e0 : put1 0 (⟨k, 1, mo⟩ : En) = 0 := rfl
              have e1 : put1 1 (⟨k, 1, mo⟩ : En) = mo := rfl
              rw [e0, e1] at HR2 HG2
              clear e0 e1
              simp only [Int.add_zero] at HR2 HG2
              have HRM2 := Lib.hid (show RkM w V0 w1.heap.size (x1) (y1 + mo) ((wr.setCell ⟨w1.heap.size, 1, none⟩ (.int .i64 (y1 + mo))).drew) from (HRM1.out.set1).drew)
              have HOUT2 := Lib.hid (show SnRow ((wr.setCell ⟨w1.heap.size, 1, none⟩ (.int .i64 (y1 + mo))).drew) V0.heap.size (.slice VA M VC) M out from ownsRow_setCell_below HOUT1.out (by have := HRM1.out.in0; exact this) _)
              have hbd : -9223372036854775808 ≤ y1 + mo ∧ y1 + mo ≤ 9223372036854775807 := by have h1 := HRB.out.bx; have h2 := HRB.out.by_; have h3 := (HRB.out.mem ⟨k, 1, mo⟩ (by simp)).2.1; have h4 := HDL.out; simp only at h3; rw [List.length_cons] at h1 h2; omega
              obtain ⟨hbl, hbh⟩ := hbd
              go_wp2
              go_region
              go_wp2
              go_roundw
              case rel => exact ⟨us, x1, y1 + mo, cutEn (some ⟨q, o, none⟩) C1 1, N1 - 1, C1 - 1, rfl, HE2, HRM2, HR2, HG2, HOUT2⟩
              case measure => simp [lenV]; omega
          · have hgl : gl K (⟨k, li, mo⟩ :: us) x1 y1 = (⟨k, li, mo⟩ :: us, x1, y1) := gl_ne hk
            have hke : (k.toList == K.toList) = false := by rw [kbeq]; exact decide_eq_false hk
            clear hb0 hb1
            generalize hr1 : (⟨k, li, mo⟩ : En) :: us = r1 at HEK1 HRB HGL1 hgl
            clear hr1
            have hst := fun wv hw => RkS.step HRS.out HRB.out (hGL.out.trans (HGL1.out.symm.trans hgl)) wv hw
            have HLN := Lib.hid HEK1.out.1.1
            have HGC := Lib.hid (fun V => HG.out (decide (0 < x1)) (decide (0 < y1)) V)
            obtain ⟨wv, hwv⟩ : ∃ wv, W (decide (0 < x1)) (decide (0 < y1)) = wv := ⟨_, rfl⟩
            rw [hwv] at HGC
            have HST := Lib.hid (hst wv hwv)
            have hb0 := HRM1.out.hv.cell 0
            have hb1 := HRM1.out.hv.cell 1
            simp at hb0 hb1
            clear hst hgl hwv
            cases wv with
            | true =>
              cases op with
              | true =>
                have HS2 := Lib.hid HST.out.2
                have HL2 := Lib.hid HST.out.1
                clear HST
                go_wp2_with (go_at_fn g; refine (HGC.out _).mono ?_; rintro e w' ⟨rfl, rfl⟩)
                go_roundw
                case rel => exact ⟨r1, x1, y1, fr, true, out, some ⟨q, o, none⟩, VA, N1, C1, M, VC, rfl, rfl, rfl, rfl, HEK1, HRM1, HS2, HOUT1⟩
                case measure => have := HL2.out; have := HLN.out; have := HL0.out; simp [lenV]; omega
              | false =>
                have HS2 := Lib.hid HST.out.2
                have HL2 := Lib.hid HST.out.1
                clear HST
                go_wp2_with (go_at_fn g; refine (HGC.out _).mono ?_; rintro e w' ⟨rfl, rfl⟩)
                go_roundw
                case rel => exact ⟨r1, x1, y1, K, true, out, some ⟨q, o, none⟩, VA, N1, C1, M, VC, rfl, rfl, rfl, rfl, HEK1, HRM1, HS2, HOUT1⟩
                case measure => have := HL2.out; have := HLN.out; have := HL0.out; simp [lenV]; omega
            | false =>
              cases op with
              | true =>
                have HS2 := Lib.hid (show RkS W RES DL r1 x1 y1 fr false (out ++ [⟨fr, K⟩]) from HST.out.2)
                have HL2 := Lib.hid HST.out.1
                clear HST
                have HFS := Lib.hid (Nat.le_trans HRS.out.fs (show 33 ≤ 281474976710656 by decide))
                have HKS := Lib.hid (Nat.le_trans (HRS.out.b.mem ⟨K, li0, mo0⟩ (by simp)).2.2 (show 33 ≤ 281474976710656 by decide))
                have HMB := Lib.hid (show (M + 1) * 32 ≤ 140737488355328 from by have := HOUT1.out.len; have := HRS.out.cnt; have := HDL.out; omega)
                go_wp2_with (first
                  | (go_at_fn g; refine (HGC.out _).mono ?_; rintro e w' ⟨rfl, rfl⟩)
                  | (go_at_call 29; (first | (with_reducible refine (HCL.out fr _ HFS.out).mono ?_) | (with_reducible refine (HCL.out K _ HKS.out).mono ?_)); rintro e w5 ⟨rfl, hb5⟩; have HRM1 := Lib.hid (HRM1.out.keep hb5); have HOUT1 := Lib.hid (HOUT1.out.keep hb5); clear hb5)
                  | (at_builtin; refine wpList_appSn rfl _ _ rfl V0.heap.size (.slice VA M VC) M out [⟨fr, K⟩] rfl (HOUT1.out.keep (nbl w5 (.cells #[.string fr, .string K] 30))) (some ⟨w5.heap.size, 0, none⟩) 1 1 rfl (sn_one w5 fr K) HMB.out (by have := HRM1.out.gr.size; simp; omega) ?_; intro v9 w6 h6 hg6; obtain ⟨VA2, VC2, rfl, -, -, -⟩ := h6.form; have H6 := Lib.hid h6; have HRM2 := Lib.hid ((HRM1.out.keep (nbl w5 (.cells #[.string fr, .string K] 30))).grown hg6 (fun g e => (HOUT1.out.lt g e).1)); clear h6 hg6))
                go_roundw
                case rel => exact ⟨r1, x1, y1, fr, false, out ++ [⟨fr, K⟩], some ⟨q, o, none⟩, VA2, N1, C1, M + 1, VC2, rfl, rfl, rfl, rfl, HEK1, HRM2, HS2, H6⟩
                case measure => have := HL2.out; have := HLN.out; have := HL0.out; simp [lenV]; omega
              | false =>
                have HS2 := Lib.hid HST.out.2
                have HL2 := Lib.hid HST.out.1
                clear HST
                go_wp2_with (go_at_fn g; refine (HGC.out _).mono ?_; rintro e w' ⟨rfl, rfl⟩)
                go_roundw
                case rel => exact ⟨r1, x1, y1, fr, false, out, some ⟨q, o, none⟩, VA, N1, C1, M, VC, rfl, rfl, rfl, rfl, HEK1, HRM1, HS2, HOUT1⟩
                case measure => have := HL2.out; have := HLN.out; have := HL0.out; simp [lenV]; omega
        · obtain rfl : N1 = 0 := by omega
          obtain rfl : r1 = [] := List.eq_nil_of_length_eq_zero HEK1.out.1.1
          have hgl : gl K [] x1 y1 = ([], x1, y1) := rfl
          have hst := fun wv hw => RkS.step HRS.out HRB.out (hGL.out.trans (HGL1.out.symm.trans hgl)) wv hw
          have HLN := Lib.hid HEK1.out.1.1
          have HGC := Lib.hid (fun V => HG.out (decide (0 < x1)) (decide (0 < y1)) V)
          obtain ⟨wv, hwv⟩ : ∃ wv, W (decide (0 < x1)) (decide (0 < y1)) = wv := ⟨_, rfl⟩
          rw [hwv] at HGC
          have HST := Lib.hid (hst wv hwv)
          have hb0 := HRM1.out.hv.cell 0
          have hb1 := HRM1.out.hv.cell 1
          simp at hb0 hb1
          clear hst hgl hwv
          cases wv with
          | true =>
            cases op with
            | true =>
              have HS2 := Lib.hid HST.out.2
              have HL2 := Lib.hid HST.out.1
              clear HST
              go_wp2_with (go_at_fn g; refine (HGC.out _).mono ?_; rintro e w' ⟨rfl, rfl⟩)
              go_roundw
              case rel => exact ⟨[], x1, y1, fr, true, out, E1, VA, 0, C1, M, VC, rfl, rfl, rfl, rfl, HEK1, HRM1, HS2, HOUT1⟩
              case measure => have := HL2.out; have := HLN.out; have := HL0.out; simp [lenV]; omega
            | false =>
              have HS2 := Lib.hid HST.out.2
              have HL2 := Lib.hid HST.out.1
              clear HST
              go_wp2_with (go_at_fn g; refine (HGC.out _).mono ?_; rintro e w' ⟨rfl, rfl⟩)
              go_roundw
              case rel => exact ⟨[], x1, y1, K, true, out, E1, VA, 0, C1, M, VC, rfl, rfl, rfl, rfl, HEK1, HRM1, HS2, HOUT1⟩
              case measure => have := HL2.out; have := HLN.out; have := HL0.out; simp [lenV]; omega
          | false =>
            cases op with
            | true =>
              have HS2 := Lib.hid (show RkS W RES DL [] x1 y1 fr false (out ++ [⟨fr, K⟩]) from HST.out.2)
              have HL2 := Lib.hid HST.out.1
              clear HST
              have HFS := Lib.hid (Nat.le_trans HRS.out.fs (show 33 ≤ 281474976710656 by decide))
              have HKS := Lib.hid (Nat.le_trans (HRS.out.b.mem ⟨K, li0, mo0⟩ (by simp)).2.2 (show 33 ≤ 281474976710656 by decide))
              have HMB := Lib.hid (show (M + 1) * 32 ≤ 140737488355328 from by have := HOUT1.out.len; have := HRS.out.cnt; have := HDL.out; omega)
              go_wp2_with (first
                | (go_at_fn g; refine (HGC.out _).mono ?_; rintro e w' ⟨rfl, rfl⟩)
                | (go_at_call 29; (first | (with_reducible refine (HCL.out fr _ HFS.out).mono ?_) | (with_reducible refine (HCL.out K _ HKS.out).mono ?_)); rintro e w5 ⟨rfl, hb5⟩; have HRM1 := Lib.hid (HRM1.out.keep hb5); have HOUT1 := Lib.hid (HOUT1.out.keep hb5); clear hb5)
                | (at_builtin; refine wpList_appSn rfl _ _ rfl V0.heap.size (.slice VA M VC) M out [⟨fr, K⟩] rfl (HOUT1.out.keep (nbl w5 (.cells #[.string fr, .string K] 30))) (some ⟨w5.heap.size, 0, none⟩) 1 1 rfl (sn_one w5 fr K) HMB.out (by have := HRM1.out.gr.size; simp; omega) ?_; intro v9 w6 h6 hg6; obtain ⟨VA2, VC2, rfl, -, -, -⟩ := h6.form; have H6 := Lib.hid h6; have HRM2 := Lib.hid ((HRM1.out.keep (nbl w5 (.cells #[.string fr, .string K] 30))).grown hg6 (fun g e => (HOUT1.out.lt g e).1)); clear h6 hg6))
              go_roundw
              case rel => exact ⟨[], x1, y1, fr, false, out ++ [⟨fr, K⟩], E1, VA2, 0, C1, M + 1, VC2, rfl, rfl, rfl, rfl, HEK1, HRM2, HS2, H6⟩
              case measure => have := HL2.out; have := HLN.out; have := HL0.out; simp [lenV]; omega
            | false =>
              have HS2 := Lib.hid HST.out.2
              have HL2 := Lib.hid HST.out.1
              clear HST
              go_wp2_with (go_at_fn g; refine (HGC.out _).mono ?_; rintro e w' ⟨rfl, rfl⟩)
              go_roundw
              case rel => exact ⟨[], x1, y1, fr, false, out, E1, VA, 0, C1, M, VC, rfl, rfl, rfl, rfl, HEK1, HRM1, HS2, HOUT1⟩
              case measure => have := HL2.out; have := HLN.out; have := HL0.out; simp [lenV]; omega
    · obtain rfl : N = 0 := by omega
      obtain rfl : r = [] := List.eq_nil_of_length_eq_zero HEK.out.1.1
      have HR := Lib.hid HRS.out.done
      go_wp2
      go_ret2
      exact ⟨RES, .slice VA M VC, HSP.out, rfl, by rw [← HR.out, HOUT.out.len]; exact HOUT.out.base (Nat.le_trans HRM.out.lo (Nat.le_of_lt HRM.out.in0)), HRM.out.bel⟩
end Go.Proofs.Ytdpdokgbockmbaa
