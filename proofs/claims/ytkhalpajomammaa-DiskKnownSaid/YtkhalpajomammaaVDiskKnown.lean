/-
  Layer 7: DiskKnown: the walk. (Written by wip/tools/gendknown.py.)
-/
import Derived.Test.YtkhalpajomammaaDKnownM
import Derived.Test.YtkhalpajomammaaGNil
set_option linter.unusedVariables false
namespace Go.Proofs.Ytkhalpajomammaa
open Go.RowKit

section
variable {R : DRep} {w V V' : World} {g : Nat} {D D' : Dk}
theorem DOwn.appendEmp (hD : DiskOk R) (h : DOwn R w g D V) (nm : ByteArray) {E : Int} (e : app D nm [] = D' ∧ appE D nm 0 = E) (c : Nat) :
    Calls Try.prog 20 #[pt g, .string nm, .slice none 0 c] V fun e w' => e = .returned (.int .i64 E) ∧ DOwn R w g D' w' := by
  have h' := h.append hD (Below.refl _ _) nm c (At.nil V none) (fun h0 => absurd h0 (by omega)) (by omega)
  rw [e.1, show ([] : List UInt8).length = 0 from rfl, e.2] at h'
  exact h'
theorem DOwn.appendZ (hD : DiskOk R) (h : DOwn R w g D V) (nm : ByteArray) (o : Obj) (n c : Nat) {z : List UInt8} (hz : z.length = n) (hx : At (V.alloc o) (some ⟨V.heap.size, 0, none⟩) n z) (hn : n ≤ 140000000000000) {E : Int} (e : app D nm z = D' ∧ appE D nm z.length = E) :
    Calls Try.prog 20 #[pt g, .string nm, .slice (some ⟨V.heap.size, 0, none⟩) n c] (V.alloc o) fun e w' => e = .returned (.int .i64 E) ∧ DOwn R w g D' w' := by
  have h' := h.append hD (below_alloc V o) nm c hx (fun _ => Away.new_ _ (Nat.le_refl _)) hn
  rw [e.1, e.2] at h'
  exact h'
theorem DOwn.turnN (hD : DiskOk R) (h : DOwn R w g D V) (nm : ByteArray) (i b : Int) (hi : -9223372036854775808 ≤ i ∧ i ≤ 9223372036854775807) (hb : -9223372036854775808 ≤ b ∧ b ≤ 9223372036854775807) {E : Int} (e : trn D nm i b = D' ∧ trnE D nm i b = E) :
    Calls Try.prog 34 #[pt g, .string nm, .int .i64 i, .int .i64 b] V fun e w' => e = .returned (.int .i64 E) ∧ DOwn R w g D' w' := by
  have h' := h.turn_ hD nm i b hi hb
  rw [e.1, e.2] at h'
  exact h'
theorem DOwn.namesN (hD : DiskOk R) (h : DOwn R w g D V) {n : Nat} (e : (nms D).length = n) :
    Calls Try.prog 27 #[pt g] V fun e w' => ∃ A c, e = .returned (.slice A n c) ∧ DOwn R w g D w' := by
  refine (h.names hD).mono ?_
  rintro e' w' ⟨A, c, rfl, _, _, _, _, h'⟩
  rw [e]
  exact ⟨A, c, rfl, h'⟩
theorem DOwn.deadN (hD : DiskOk R) (h : DOwn R w g D V) {b : Bool} (e : D.dead = b) :
    Calls Try.prog 15 #[pt g] V fun e w' => e = .returned (.bool b) ∧ DOwn R w g D w' := by
  refine (h.dead hD).mono ?_
  rintro e' w' ⟨rfl, _, h'⟩
  rw [e]
  exact ⟨rfl, h'⟩
theorem DOwn.crashNil (hD : DiskOk R) (h : DOwn R w g D V) (e : Go.Proofs.Ytkhalpajomammaa.crash D [] = D') (c : Nat) (hc : c ≤ 9223372036854775807) :
    Calls Try.prog 23 #[pt g, .slice none 0 c] V fun e w' => e = .returned (.tuple #[]) ∧ DOwn R w g D' w' := by
  have h' := h.crash hD (c := c) (Below.refl _ _) (IAt.nil V none) (fun h0 => absurd h0 (by omega)) (fun h0 => absurd h0 (by omega)) (by omega) hc
  rw [e] at h'
  exact h'
theorem DOwn.failL (hD : DiskOk R) (h : DOwn R w g D V) (k : Int) (hk : -9223372036854775808 ≤ k ∧ k ≤ 9223372036854775807) (keep : List Int) (e : fal D k keep = D') (hn : keep.length ≤ 17592186044416) (t : TypeId) :
    Calls Try.prog 30 #[pt g, .int .i64 k, .slice (some ⟨V.heap.size, 0, none⟩) keep.length keep.length] (V.alloc (.cells (keep.map (Value.int .i64)).toArray t)) fun e w' => e = .returned (.tuple #[]) ∧ DOwn R w g D' w' := by
  have h' := h.fail hD (below_alloc V (.cells (keep.map (Value.int .i64)).toArray t)) k keep.length hk (iat_new t keep V) (fun _ => Away.new_ _ (Nat.le_refl _)) hn (Nat.le_refl _)
  rw [e] at h'
  exact h'
end
/-- 'make([]byte, n)': noughts, known by how many they are. -/
theorem make_zz (n : Nat) (h : n ≤ 281474976710656) : ∃ (M : Array Value) (z : List UInt8), z.length = n ∧ (∀ W : World, (Instr.makeSlice 27 (.int .i64 (n : Int)) (.int .i64 (n : Int))).run Try.prog W = .ok (.slice (some ⟨W.heap.size, 0, none⟩) n n) (W.alloc (.cells M 5))) ∧
    ∀ W : World, At (W.alloc (.cells M 5)) (some ⟨W.heap.size, 0, none⟩) n z := by
  obtain ⟨i0, hi, hz0, hz1, hz2⟩ := info_parts info5
  refine ⟨madeCells #[Value.int .u8 0] n, List.replicate n 0, List.length_replicate, fun W => ?_, fun W => ⟨List.length_replicate, fun _ => ⟨_, 0, rfl, fun i hi => ?_⟩⟩⟩
  · have h := run_make (P := Try.prog) W 27 5 i0 (.int .u8 0) Try.underlying27 hi hz0 .i64 .i64 (n : Int) (n : Int) (by omega) (by omega) (by rw [hz2]; omega) (by omega)
    rw [hz1] at h
    have e : ((n : Nat) : Int).toNat = n := by omega
    rw [e, Nat.mul_one] at h
    exact h
  · have e : (madeCells #[Value.int .u8 0] n)[i]? = some (Value.int .u8 0) := by
      rw [← Array.getElem?_toList, toList_madeCells_one, List.getElem?_replicate, if_pos (by simpa using hi)]
    rw [Nat.zero_add]
    simp [e]

set_option maxRecDepth 100000 in
set_option maxHeartbeats 16000000 in
theorem diskKnown_w {R : DRep} (hD : DiskOk R) (w : World)
    (hrep : ∀ V : World, Calls Try.prog 32 #[.string ⟨#[110]⟩, .int .i64 40] V fun e w' => e = .returned (.string nL) ∧ Below V.heap.size V w') :
    Calls Try.prog 8 #[] w fun e w' => e = .returned (.bool true) ∧ Below w.heap.size w w' := by
  have HD := Lib.hid hD
  have HR := Lib.hid hrep
  clear hrep
  go_enter Try.func8, Try.ntmps8
  go_wp2_with (first
    | (go_at_call 32; refine (HR.out _).mono ?_; rintro e w0 ⟨rfl, hb0⟩; have h0 := h.keep HD.out hb0; clear h hb0)
    | (go_at_call 20; refine (h0.appendEmp HD.out nL k0 0).mono ?_; rintro eh1 wh1 ⟨rfl, h1⟩; clear h0)
    | (go_at_call 20; refine (h1.appendEmp HD.out nL1 k1 0).mono ?_; rintro eh2 wh2 ⟨rfl, h2⟩; clear h1)
    | (go_at_call 20; refine (h2.appendEmp HD.out ⟨#[]⟩ k2 0).mono ?_; rintro eh3 wh3 ⟨rfl, h3⟩; clear h2)
    | (go_at_call 31; refine (h3.renameN HD.out nL ⟨#[]⟩ k3).mono ?_; rintro eh4 wh4 ⟨rfl, h4⟩; clear h3)
    | (go_at_call 31; refine (h4.renameN HD.out nL nL1 k4).mono ?_; rintro eh5 wh5 ⟨rfl, h5⟩; clear h4)
    | (go_at_call 31; refine (h5.renameN HD.out nNone_ nA_ k5).mono ?_; rintro eh6 wh6 ⟨rfl, h6⟩; clear h5)
    | (go_at_call 21; refine (h6.syncN HD.out nNone_ k6).mono ?_; rintro eh7 wh7 ⟨rfl, h7⟩; clear h6)
    | (go_at_call 33; refine (h7.removeN HD.out nNone_ k7).mono ?_; rintro eh8 wh8 ⟨rfl, h8⟩; clear h7)
    | (go_at_call 29; refine (h8.cutN HD.out nNone_ (-1) (by decide) k8).mono ?_; rintro eh9 wh9 ⟨rfl, h9⟩; clear h8)
    | (go_at_call 34; refine (h9.turnN HD.out nNone_ 9 9 (by decide) (by decide) k9).mono ?_; rintro eh10 wh10 ⟨rfl, h10⟩; clear h9)
    | (go_at_call 9; refine (DOwn.new_ HD.out (Below.refl _ _)).mono ?_; rintro e w1 ⟨g, rfl, hg, h, hb1⟩))
  go_loopw [4] (fun i wr => ∃ k : Nat, 1 ≤ k ∧ k ≤ 20 ∧ i = .int .i64 k ∧ DOwn R w g (K (k - 1)) wr) (fun i _ => 20 - (intOf i).toNat)
  case atStart => exact ⟨1, by decide, by decide, rfl, h10⟩
  case round =>
    clear h10
    obtain ⟨k, hk1, hk20, rfl, h⟩ := hrel
    by_cases hlt : k < 20
    · obtain ⟨u, hu, hnk⟩ : ∃ u : UInt8, IntKind.u8.wrap (65 + (k : Int)) = (u.toNat : Int) ∧ nI k = ⟨#[u]⟩ := ⟨UInt8.ofNat (65 + k), by rw [IntKind.wrap_u8]; simp, rfl⟩
      obtain ⟨v, hv, hvk⟩ : ∃ v : UInt8, IntKind.u8.wrap (k : Int) = (v.toNat : Int) ∧ v = UInt8.ofNat k := ⟨UInt8.ofNat k, by rw [IntKind.wrap_u8]; simp, rfl⟩
      have hkI : app (K (k - 1)) ⟨#[u]⟩ [v] = K k ∧ appE (K (k - 1)) ⟨#[u]⟩ 1 = 0 := by
        have := kI (k - 1) (by omega)
        rw [show k - 1 + 1 = k from by omega, hnk, ← hvk] at this
        exact this
      have hC : ∀ W : World, (convert 27 9 (.slice (some ⟨W.heap.size, 0, none⟩) 1 1)).run Try.prog (W.alloc (.cells #[.int .u8 (u.toNat : Int)] 5)) = .ok (.string ⟨#[u]⟩) (W.alloc (.cells #[.int .u8 (u.toNat : Int)] 5)) := fun W => (at_new 5 [u] W).conv 1 27 5 9 (by kernel_rfl) (by kernel_rfl) (by kernel_rfl)
      have hAp : ∀ V q, DOwn R w g (K (k - 1)) V → q = V.heap.size → Calls Try.prog 20 #[pt g, .string ⟨#[u]⟩, .slice (some ⟨q, 0, none⟩) 1 1] (V.alloc (.cells #[.int .u8 (v.toNat : Int)] 5)) fun e w' => e = .returned (.int .i64 0) ∧ DOwn R w g (K k) w' := fun V q hV hq => hq ▸ hV.appendN HD.out ⟨#[u]⟩ [v] hkI (by simp) 1 5
      have HA := Lib.hid hAp
      clear hAp hkI hnk hvk
      go_wp2_with (first
        | (go_at_call 20; with_reducible refine (HA.out _ _ (h.alloc HD.out _) (by simp)).mono ?_; rintro e6 w6 ⟨rfl, h6⟩))
      go_roundw
      case rel => exact ⟨k + 1, by omega, by omega, by go_num, h6⟩
      case measure => simp [intOf]; omega
    · obtain rfl : k = 20 := by omega
      clear hlt hk1 hk20
      have i0 : DOwn R w g (K 19) wr := h
      clear h
      obtain ⟨M1, z1, hz1, mk1', at1⟩ := make_zz 4194286 (by decide)
      obtain ⟨M2, z2, hz2, mk2', at2⟩ := make_zz 4194285 (by decide)
      have mk1 : ∀ W : World, (Instr.makeSlice 27 (.int .i64 4194286) (.int .i64 4194286)).run Try.prog W = .ok (.slice (some ⟨W.heap.size, 0, none⟩) 4194286 4194286) (W.alloc (.cells M1 5)) := mk1'
      have mk2 : ∀ W : World, (Instr.makeSlice 27 (.int .i64 4194285) (.int .i64 4194285)).run Try.prog W = .ok (.slice (some ⟨W.heap.size, 0, none⟩) 4194285 4194285) (W.alloc (.cells M2 5)) := mk2'
      have AT1 := Lib.hid at1
      have AT2 := Lib.hid at2
      have Z1 := Lib.hid hz1
      have Z2 := Lib.hid hz2
      clear mk1' mk2' at1 at2 hz1 hz2
      go_wp2_with (first
        | (go_at_call 20; refine (i0.appendEmp HD.out nNew m1 0).mono ?_; rintro ei1 wi1 ⟨rfl, i1⟩; clear i0)
        | (go_at_call 20; refine (i1.appendZ HD.out (nI 1) _ 4194286 4194286 Z1.out (AT1.out _) (by decide) (m2 z1 Z1.out)).mono ?_; rintro ei2 wi2 ⟨rfl, i2⟩; clear i1)
        | (go_at_call 20; refine (i2.appendZ HD.out (nI 1) _ 4194285 4194285 Z2.out (AT2.out _) (by decide) (m3 z2 Z2.out)).mono ?_; rintro ei3 wi3 ⟨rfl, i3⟩; clear i2)
        | (go_at_call 20; refine (i3.appendN HD.out (nI 1) [1] (m4 z2 Z2.out) (by decide) 1 5).mono ?_; rintro ei4 wi4 ⟨rfl, i4⟩; clear i3)
        | (go_at_call 33; refine (i4.removeN HD.out (nI 1) (m5 z2)).mono ?_; rintro ei5 wi5 ⟨rfl, i5⟩; clear i4)
        | (go_at_call 20; refine (i5.appendEmp HD.out nNew m6 0).mono ?_; rintro ei6 wi6 ⟨rfl, i6⟩; clear i5)
        | (go_at_call 27; refine (i6.namesN HD.out m7).mono ?_; rintro ei7 wi7 ⟨Ai7, ci7, rfl, i7⟩; clear i6)
        | (go_at_call 34; refine (i7.turnN HD.out (nI 2) 0 1 (by decide) (by decide) t1).mono ?_; rintro ei8 wi8 ⟨rfl, i8⟩; clear i7)
        | (go_at_call 28; refine (i8.hasN HD.out (nI 2) [0] t2 1 5).mono ?_; rintro ei9 wi9 ⟨rfl, i9⟩; clear i8)
        | (go_at_call 34; refine (i9.turnN HD.out (nI 2) 1 0 (by decide) (by decide) t3).mono ?_; rintro ei10 wi10 ⟨rfl, i10⟩; clear i9)
        | (go_at_call 34; refine (i10.turnN HD.out (nI 2) 0 8 (by decide) (by decide) t4).mono ?_; rintro ei11 wi11 ⟨rfl, i11⟩; clear i10)
        | (go_at_call 34; refine (i11.turnN HD.out (nI 2) (-1) 0 (by decide) (by decide) t5).mono ?_; rintro ei12 wi12 ⟨rfl, i12⟩; clear i11)
        | (go_at_call 34; refine (i12.turnN HD.out (nI 2) 0 (-1) (by decide) (by decide) t6).mono ?_; rintro ei13 wi13 ⟨rfl, i13⟩; clear i12)
        | (go_at_call 34; refine (i13.turnN HD.out nL 0 0 (by decide) (by decide) t7).mono ?_; rintro ei14 wi14 ⟨rfl, i14⟩; clear i13)
        | (go_at_call 23; refine (i14.crashN HD.out [-1, -1] e1 (by decide) 3).mono ?_; rintro ei15 wi15 ⟨rfl, i15⟩; clear i14)
        | (go_at_call 20; refine (i15.appendEmp HD.out (nI 2) e2 0).mono ?_; rintro ei16 wi16 ⟨rfl, i16⟩; clear i15)
        | (go_at_call 20; refine (i16.appendEmp HD.out ⟨#[]⟩ e3 0).mono ?_; rintro ei17 wi17 ⟨rfl, i17⟩; clear i16)
        | (go_at_call 21; refine (i17.syncN HD.out nNone_ e4).mono ?_; rintro ei18 wi18 ⟨rfl, i18⟩; clear i17)
        | (go_at_call 29; refine (i18.cutN HD.out (nI 2) 0 (by decide) e5).mono ?_; rintro ei19 wi19 ⟨rfl, i19⟩; clear i18)
        | (go_at_call 31; refine (i19.renameN HD.out (nI 2) (nI 3) e6).mono ?_; rintro ei20 wi20 ⟨rfl, i20⟩; clear i19)
        | (go_at_call 33; refine (i20.removeN HD.out (nI 2) e7).mono ?_; rintro ei21 wi21 ⟨rfl, i21⟩; clear i20)
        | (go_at_call 34; refine (i21.turnN HD.out (nI 2) 0 0 (by decide) (by decide) e8).mono ?_; rintro ei22 wi22 ⟨rfl, i22⟩; clear i21)
        | (go_at_call 27; refine (i22.namesN HD.out e9).mono ?_; rintro ei23 wi23 ⟨Ai23, ci23, rfl, i23⟩; clear i22)
        | (go_at_call 15; refine (i23.deadN HD.out (b := true) rfl).mono ?_; rintro ei24 wi24 ⟨rfl, i24⟩; clear i23)
        | (go_at_call 23; refine (i24.crashN HD.out [9] e10 (by decide) 3).mono ?_; rintro ei25 wi25 ⟨rfl, i25⟩; clear i24)
        | (go_at_call 30; refine (i25.failN HD.out 0 (by decide) e11 0).mono ?_; rintro ei26 wi26 ⟨rfl, i26⟩; clear i25)
        | (go_at_call 24; refine (i26.bootN HD.out e12).mono ?_; rintro ei27 wi27 ⟨rfl, i27⟩; clear i26)
        | (go_at_call 24; refine (i27.bootN HD.out e13).mono ?_; rintro ei28 wi28 ⟨rfl, i28⟩; clear i27)
        | (go_at_call 15; refine (i28.deadN HD.out (b := false) rfl).mono ?_; rintro ei29 wi29 ⟨rfl, i29⟩; clear i28)
        | (go_at_call 27; refine (i29.namesN HD.out e14).mono ?_; rintro ei30 wi30 ⟨Ai30, ci30, rfl, i30⟩; clear i29)
        | (go_at_call 28; refine (i30.hasN HD.out (nI 2) [0] e15 1 5).mono ?_; rintro ei31 wi31 ⟨rfl, i31⟩; clear i30)
        | (go_at_call 28; refine (i31.hasNil HD.out (nI 4) e16 0).mono ?_; rintro ei32 wi32 ⟨rfl, i32⟩; clear i31)
        | (go_at_call 20; refine (i32.appendN HD.out (nI 2) [1] ⟨rfl, e17⟩ (by decide) 1 5).mono ?_; rintro ei33 wi33 ⟨rfl, i33⟩; clear i32)
        | (go_at_call 9; refine (DOwn.new_ HD.out i33.bel).mono ?_; rintro e9 w9 ⟨gf, rfl, hgf, p0, _⟩; clear i33)
        | (go_at_call 20; refine (p0.appendN HD.out nA_ [1, 2, 3] s1 (by decide) 3 5).mono ?_; rintro ep1 wp1 ⟨rfl, p1⟩; clear p0)
        | (go_at_call 21; refine (p1.syncN HD.out nA_ s2).mono ?_; rintro ep2 wp2 ⟨rfl, p2⟩; clear p1)
        | (go_at_call 29; refine (p2.cutN HD.out nA_ 1 (by decide) s3).mono ?_; rintro ep3 wp3 ⟨rfl, p3⟩; clear p2)
        | (go_at_call 20; refine (p3.appendN HD.out nA_ [4, 5] s4 (by decide) 2 5).mono ?_; rintro ep4 wp4 ⟨rfl, p4⟩; clear p3)
        | (go_at_call 23; refine (p4.crashNil HD.out s5 0 (by decide)).mono ?_; rintro ep5 wp5 ⟨rfl, p5⟩; clear p4)
        | (go_at_call 24; refine (p5.bootN HD.out s6).mono ?_; rintro ep6 wp6 ⟨rfl, p6⟩; clear p5)
        | (go_at_call 28; refine (p6.hasN HD.out nA_ [1] s7 1 5).mono ?_; rintro ep7 wp7 ⟨rfl, p7⟩; clear p6)
        | (go_at_call 30; refine (p7.failL HD.out 0 (by decide) [0] s8 (by decide) 3).mono ?_; rintro ep8 wp8 ⟨rfl, p8⟩; clear p7)
        | (go_at_call 30; refine (p8.failN HD.out (-5) (by decide) s9 0).mono ?_; rintro ep9 wp9 ⟨rfl, p9⟩; clear p8)
        | (go_at_call 21; refine (p9.syncN HD.out nA_ ⟨rfl, s10⟩).mono ?_; rintro ep10 wp10 ⟨rfl, p10⟩; clear p9))
      go_loopw [12, 13] (fun v i wx => ∃ k : Nat, k ≤ 2 ∧ i = .int .i64 k ∧ NoD v wx ∧ Below w.heap.size w wx) (fun _ i _ => 2 - (intOf i).toNat)
      case atStart => exact ⟨0, by decide, rfl, .inl rfl, p10.bel⟩
      case round =>
        obtain ⟨k2, hk2, rfl, hN, hB⟩ := hrel
        by_cases hlt2 : k2 < 2
        · have b0 : Below wr.heap.size wr wr := Below.refl _ _
          have N := Lib.hid (fun V (hb : Below wr.heap.size wr V) => hN.below hb)
          clear hN
          go_wp2_with (first
            | (go_at_call 23; refine (nCrash _ _ (N.out _ b0) _).mono ?_; rintro e w1 ⟨rfl, hq⟩; have b1 := b0.trans (hq.mono b0.size); clear b0 hq)
            | (go_at_call 30; refine (nFail _ _ (N.out _ b1) 0 _).mono ?_; rintro e w2 ⟨rfl, hq⟩; have b2 := b1.trans (hq.mono b1.size); clear b1 hq)
            | (go_at_call 24; refine (nBoot _ _ (N.out _ b2) ).mono ?_; rintro e w3 ⟨rfl, hq⟩; have b3 := b2.trans (hq.mono b2.size); clear b2 hq)
            | (go_at_call 25; refine (nRead _ _ (N.out _ b3) nA_).mono ?_; rintro e w4 ⟨rfl, hq⟩; have b4 := b3.trans (hq.mono b3.size); clear b3 hq)
            | (go_at_call 26; refine (nSize _ _ (N.out _ b4) nA_).mono ?_; rintro e w5 ⟨rfl, hq⟩; have b5 := b4.trans (hq.mono b4.size); clear b4 hq)
            | (go_at_call 20; refine (nAppend _ _ (N.out _ b5) nA_ none 0 0).mono ?_; rintro e w6 ⟨rfl, hq⟩; have b6 := b5.trans (hq.mono b5.size); clear b5 hq)
            | (go_at_call 21; refine (nSync _ _ (N.out _ b6) nA_).mono ?_; rintro e w7 ⟨rfl, hq⟩; have b7 := b6.trans (hq.mono b6.size); clear b6 hq)
            | (go_at_call 29; refine (nCut _ _ (N.out _ b7) nA_ 0).mono ?_; rintro e w8 ⟨rfl, hq⟩; have b8 := b7.trans (hq.mono b7.size); clear b7 hq)
            | (go_at_call 31; refine (nRename _ _ (N.out _ b8) nA_ nB).mono ?_; rintro e w9 ⟨rfl, hq⟩; have b9 := b8.trans (hq.mono b8.size); clear b8 hq)
            | (go_at_call 33; refine (nRemove _ _ (N.out _ b9) nA_).mono ?_; rintro e w10 ⟨rfl, hq⟩; have b10 := b9.trans (hq.mono b9.size); clear b9 hq)
            | (go_at_call 27; refine (nNames _ _ (N.out _ b10) ).mono ?_; rintro e w11 ⟨rfl, hq⟩; have b11 := b10.trans (hq.mono b10.size); clear b10 hq)
            | (go_at_call 15; refine (nDead _ _ (N.out _ b11) ).mono ?_; rintro e w12 ⟨rfl, hq⟩; have b12 := b11.trans (hq.mono b11.size); clear b11 hq)
            | (go_at_call 34; refine (nTurn _ _ (N.out _ b12) nA_ 0 0).mono ?_; rintro e w13 ⟨rfl, hq⟩; have b13 := b12.trans (hq.mono b12.size); clear b12 hq))
          go_roundw
          case rel => exact ⟨k2 + 1, by omega, by go_num, .inr ⟨_, rfl, heap_alloc_new _ _⟩, (hB.trans (b13.mono hB.size)).alloc (by have := b13.size; have := hB.size; omega) _⟩
          case measure => simp [intOf]; omega
        · obtain rfl : k2 = 2 := by omega
          go_wp2_with (first
            | (go_at_call 19; refine (works_w HD.out _).mono ?_; rintro e wz ⟨rfl, hz⟩))
          go_ret
          exact ⟨rfl, hB.trans (hz.mono hB.size)⟩
end Go.Proofs.Ytkhalpajomammaa
