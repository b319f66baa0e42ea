/-
  DiskMoves: the walk, over what the code's disk owes.
-/
import Derived.Test.YtmjoaeljfhgojaaDSep
import Derived.Lib.MinMax
import Derived.Lib.SlBytesConst
set_option linter.unusedVariables false
namespace Go.Proofs.Ytmjoaeljfhgojaa
open Go.RowKit

theorem at_newF (t : TypeId) (l : List UInt8) (f : Nat × Nat) (w : World) : At (w.alloc (.cells (l.map bv).toArray t f)) (some ⟨w.heap.size, 0, none⟩) l.length l := by
  refine ⟨rfl, fun _ => ⟨_, _, rfl, fun i hi => ?_⟩⟩
  simp only [World.cell?, World.alloc, Array.getElem?_push]
  simp [bv, hi]
theorem DOwn.appendF {R : DRep} {w V : World} {g : Nat} {D D' : Dk} (hD : DiskOk R) (h : DOwn R w g D V) (nm : ByteArray) (xs : List UInt8) {E : Int} (e : app D nm xs = D' ∧ appE D nm xs.length = E) (hn : xs.length ≤ 140000000000000) (c : Nat) (t : TypeId) (f : Nat × Nat) :
    Calls Try.prog 20 #[pt g, .string nm, .slice (some ⟨V.heap.size, 0, none⟩) xs.length c] (V.alloc (.cells (xs.map bv).toArray t f)) fun e w' => e = .returned (.int .i64 E) ∧ DOwn R w g D' w' := by
  have h' := h.append hD (below_alloc V (.cells (xs.map bv).toArray t f)) nm c (at_newF t xs f V) (fun _ => Away.new_ _ (Nat.le_refl _)) hn
  rw [e.1, e.2] at h'
  exact h'
abbrev nE : ByteArray := ⟨#[101, 108, 100, 101, 114]⟩
/-! ### two files, 'a' and 'b' -/
theorem nl_ab : nl nA nB = true := by unfold nl; rw [Lib.toList_data, Lib.toList_data]; rfl
theorem app_two (x y : List UInt8) (m : Nat) (kp : List Int) (h : x.length + y.length ≤ 4194304) :
    app ⟨[⟨nA, x, m⟩], false, -1, kp⟩ nB y = ⟨[⟨nA, x, m⟩, ⟨nB, y, 0⟩], false, -1, kp⟩ ∧ appE ⟨[⟨nA, x, m⟩], false, -1, kp⟩ nB y.length = 0 := by
  have hp : pos [⟨nA, x, m⟩] nB = 1 := by unfold pos; simp [nl_ab]
  have hi : isAt [⟨nA, x, m⟩] nB = false := by unfold isAt; rw [hp]; rfl
  constructor
  · unfold app work
    simp only [may_b, hi, sum_one]
    rw [if_neg (by decide), if_neg (by decide), if_neg (by simp; omega), if_neg (by decide)]
    simp [withF, hp, hi, fileAt]
  · unfold appE workE
    simp only [may_b, hi, sum_one]
    rw [if_neg (by decide), if_neg (by decide), if_neg (by simp; omega), if_neg (by decide)]
theorem ren_two (x y : List UInt8) (m k : Nat) (kp : List Int) :
    ren ⟨[⟨nA, x, m⟩, ⟨nB, y, k⟩], false, -1, kp⟩ nA nB = ⟨[⟨nB, x, m⟩], false, -1, kp⟩ ∧ renE ⟨[⟨nA, x, m⟩, ⟨nB, y, k⟩], false, -1, kp⟩ nA nB = 0 := by
  have hp : pos [⟨nA, x, m⟩, ⟨nB, y, k⟩] nA = 0 := by unfold pos; simp [nl_irr]
  have hi : isAt [⟨nA, x, m⟩, ⟨nB, y, k⟩] nA = true := by unfold isAt; rw [hp]; simp
  have hf : fileAt [⟨nA, x, m⟩, ⟨nB, y, k⟩] nA = ⟨nA, x, m⟩ := by unfold fileAt; rw [hi, hp]; rfl
  constructor
  · unfold ren work nmE
    simp only [hi, hf, may_b]
    rw [if_pos (by simp), if_neg (by decide), if_neg (by decide)]
    simp [without, hi, hp, withF, pos_one', isAt_one']
  · unfold renE workE nmE
    simp only [hi, may_b]
    rw [if_pos (by simp), if_neg (by decide), if_neg (by decide)]
theorem crash_one (s : ByteArray) (x : List UInt8) (m : Nat) (k : Int) (hm : m ≤ x.length) :
    crash ⟨[⟨s, x, m⟩], false, -1, []⟩ [k] = ⟨[⟨s, x.take (m + (k % ((x.length - m + 1 : Nat) : Int)).toNat), m + (k % ((x.length - m + 1 : Nat) : Int)).toNat⟩], true, -1, []⟩ := by
  unfold crash fall fallF brn
  simp

theorem At.old {w : World} {A : Option Addr} {n : Nat} {xs : List UInt8} (h : At w A n xs) (h0 : 0 < n) : ∀ a, A = some a → a.block < w.heap.size := by
  obtain ⟨b, o, e, hc⟩ := h.2 h0
  intro a ea
  rw [e] at ea
  injection ea with ea
  subst ea
  exact World.block_lt_of_cell? w ⟨b, o + 0, none⟩ (hc 0 (by rw [h.1]; exact h0))
theorem DOwn.appendO {R : DRep} {w V : World} {g : Nat} {D D' : Dk} (hD : DiskOk R) (h : DOwn R w g D V) (nm : ByteArray) {A : Option Addr} {n : Nat} {xs : List UInt8} {E : Int} (e : app D nm xs = D' ∧ appE D nm xs.length = E) (hx : At w A n xs) (hn : n ≤ 140000000000000) (c : Nat) :
    Calls Try.prog 20 #[pt g, .string nm, .slice A n c] V fun e w' => e = .returned (.int .i64 E) ∧ DOwn R w g D' w' := by
  have h' := h.append hD (Below.refl _ _) nm c (hx.below' h.bel) (fun h0 => Away.old (hx.old h0)) hn
  rw [e.1, e.2] at h'
  exact h'
def wd2 (x : List UInt8) (m : Nat) : Dk := ⟨[⟨nA, x, m⟩, ⟨nB, [101, 108, 100, 101, 114], 0⟩], false, -1, []⟩

set_option maxRecDepth 100000 in
set_option maxHeartbeats 8000000 in
theorem diskMoves_w {R : DRep} (hD : DiskOk R) (A B : Option Addr) (n c m d : Nat) (xs ys : List UInt8) (kp : Int) (w : World) (hx : At w A n xs) (hnc : n ≤ c) (hk : c ≤ 140737488351232)
    (hy : At w B m ys) (hmd : m ≤ d) (hk2 : d ≤ 140737488351232) (hi : In64 kp) :
    Calls Try.prog 7 #[.slice A n c, .slice B m d, .int .i64 kp] w fun e w' => e = .returned (.bool true) ∧ Below w.heap.size w w' := by
  have kc := fun (w : World) (C : Array Value) (n c : Nat) => Lib.run_convert_bytes_const (P := Try.prog) w 27 5 C n c Try.underlying27 Try.underlying5
  have HD := Lib.hid hD
  have HW := Lib.hid (works_w hD w)
  obtain ⟨p, hp⟩ : ∃ p : Nat, p = min n 100 := ⟨_, rfl⟩
  obtain ⟨q, hq⟩ : ∃ q : Nat, q = min m 100 := ⟨_, rfl⟩
  have HP := Lib.hid (show (min (n : Int) 100).toNat = p by omega)
  have HQ := Lib.hid (show (min (m : Int) 100).toNat = q by omega)
  have hcx := hx.cut (l := 0) (k := p) (m := c) (by omega) (by omega) (by omega)
  have hcy := hy.cut (l := 0) (k := q) (m := d) (by omega) (by omega) (by omega)
  simp only [cutA_zero, Nat.sub_zero, List.drop_zero] at hcx hcy
  obtain ⟨u, hu⟩ : ∃ u, xs.take p = u := ⟨_, rfl⟩
  obtain ⟨v, hv⟩ : ∃ v, ys.take q = v := ⟨_, rfl⟩
  rw [hu] at hcx
  rw [hv] at hcy
  have hul := hcx.1
  have hvl := hcy.1
  have hp1 : p ≤ 100 := by omega
  have hq1 : q ≤ 100 := by omega
  have hpc : p ≤ c := by omega
  have hqd : q ≤ d := by omega
  clear hu hv hx hy hD hp hq
  go_enter Try.func7, Try.ntmps7
  go_wp2_with (first
    | (go_at_call 19; refine HW.out.mono ?_; rintro e1 w1 ⟨rfl, hb1⟩))
  have hcx1 := hcx.below' hb1
  have hcy1 := hcy.below' hb1
  go_quiet (fail)
  rw [HP.out, HQ.out]
  have hcx2 := hcx1.drewN nq
  have hcy2 := hcy1.drewN nq
  have hb2 := below_drewN hb1 nq
  generalize w1.drewN nq = w2 at hcx2 hcy2 hb2 ⊢
  clear hcx1 hcy1 hb1 HW hcx2 hcy2
  have hlen : (u ++ v).length = p + q := by simp; omega
  obtain ⟨x, hx⟩ : ∃ x, u ++ v = x := ⟨_, rfl⟩
  rw [hx] at hlen
  have HX := Lib.hid hx
  have a1 : Hid (app dk0 nA u = wd nA u 0 false (-1) ∧ appE dk0 nA u.length = 0) := Lib.hid (app_new nA u (-1) [] may_a (by omega) (by decide))
  have a2 : Hid (syn (wd nA u 0 false (-1)) nA = wd nA u p false (-1) ∧ synE (wd nA u 0 false (-1)) nA = 0) := Lib.hid (hul ▸ syn_one nA u 0 (-1) [] (by decide))
  have a3 : Hid (app (wd nA u p false (-1)) nA v = wd nA x p false (-1) ∧ appE (wd nA u p false (-1)) nA v.length = 0) := Lib.hid (hx ▸ app_one nA u v p (-1) [] may_a (by omega) (by decide))
  have a4 : Hid (app (wd nA x p false (-1)) nB nE.data.toList = wd2 x p ∧ appE (wd nA x p false (-1)) nB nE.data.toList.length = 0) := Lib.hid (app_two x [101, 108, 100, 101, 114] p [] (by simp; omega))
  have a5 : Hid (ren (wd2 x p) nA nB = wd nB x p false (-1) ∧ renE (wd2 x p) nA nB = 0) := Lib.hid (ren_two x [101, 108, 100, 101, 114] p 0 [])
  have a6 : Hid (rdE (wd nB x p false (-1)) nA = 70) := Lib.hid (rd_other _ _ (show nB ≠ nA by decide) _ _)
  have a7 : Hid ((rdE (wd nB x p false (-1)) nB == 0 && rdB (wd nB x p false (-1)) nB == x) = true) := Lib.hid (by unfold wd; rw [(rd_one _ _ _ _ _).1, (rd_one _ _ _ _ _).2]; simp)
  have a8 : Hid (ren (wd nB x p false (-1)) nB nB = wd nB x p false (-1) ∧ renE (wd nB x p false (-1)) nB nB = 0) := Lib.hid (ren_one nB nB x p (-1) [] may_b (by decide))
  obtain ⟨z, hz, hzl⟩ : ∃ z : Nat, kp % ((q : Int) + 1) = (z : Int) ∧ z < q + 1 := by
    have h1 := Int.emod_nonneg kp (b := (q : Int) + 1) (by omega)
    have h2 := Int.emod_lt_of_pos kp (b := (q : Int) + 1) (by omega)
    exact ⟨(kp % ((q : Int) + 1)).toNat, by omega, by omega⟩
  have a9 : Hid (crash (wd nB x p false (-1)) [kp] = wd nB (x.take (p + z)) (p + z) true (-1)) := Lib.hid (by
    have e := crash_one nB x p kp (by omega)
    rw [hlen, show ((p + q - p + 1 : Nat) : Int) = (q : Int) + 1 by omega, hz] at e
    exact e)
  have a10 : Hid (boot (wd nB (x.take (p + z)) (p + z) true (-1)) = wd nB (x.take (p + z)) (p + z) false (-1)) := Lib.hid rfl
  have a11 : Hid ((rdE (wd nB (x.take (p + z)) (p + z) false (-1)) nB == 0 && rdB (wd nB (x.take (p + z)) (p + z) false (-1)) nB == x.take (p + z)) = true) := Lib.hid (by unfold wd; rw [(rd_one _ _ _ _ _).1, (rd_one _ _ _ _ _).2]; simp)
  have BR := Lib.hid (fun V => bring kp (q + 1) V (by omega) (by omega))
  rw [hz] at BR
  have HZ := Lib.hid hz
  have hw1 : IntKind.i64.wrap ((p : Int) + (z : Int)) = ((p + z : Nat) : Int) := by rw [IntWalk.i64_in _ (by omega)]; omega
  have HUL := Lib.hid hul
  have HLEN := Lib.hid hlen
  clear hx hz
  go_wp2_with (first
    | (go_at_call 20; refine (h3.appendO HD.out nA a1.out hcx (by omega) c).mono ?_; rintro e4 w4 ⟨rfl, h4⟩; clear h3)
    | (go_at_call 21; refine (h4.syncN HD.out nA a2.out).mono ?_; rintro e5 w5 ⟨rfl, h5⟩; clear h4)
    | (go_at_call 20; refine (h5.appendO HD.out nA a3.out hcy (by omega) d).mono ?_; rintro e6 w6 ⟨rfl, h6⟩; clear h5)
    | (go_at_call 20; refine (h6.appendF HD.out nB nE.data.toList a4.out (by decide) 5 5 (5, 6)).mono ?_; rintro e7 w7 ⟨rfl, h7⟩; clear h6)
    | (go_at_call 31; refine (h7.renameN HD.out nA nB a5.out).mono ?_; rintro e8 w8 ⟨rfl, h8⟩; clear h7)
    | (go_at_call 11; refine (copyBytes A p c u _ (hcx.below' h8.bel) (by omega)).mono ?_; rintro e9 w9 ⟨v9, rfl, hown9, hb9⟩; have hr9 := Lib.hid (ownLen hown9 HUL.out); have hcy9 := hcy.below' (h8.bel.trans (hb9.mono h8.bel.size)); clear hown9)
    | (at_builtin; refine wpList_app rfl _ _ 27 rfl w8.heap.size 5 Try.underlying27 info5 v9 p u v rfl hr9.out B q d rfl hcy9 (by omega) hb9.size ?_; intro v10 w10 hr10 hg10 hat10; rw [HX.out] at hr10; have hown10 : Own w10 w8.heap.size v10 x := (by unfold Own; rw [HLEN.out]; exact hr10); have hb10 : Below w8.heap.size w8 w10 := hb9.grown hg10 hb9.size (fun k e => (rowOwn hr9.out k e).1); obtain ⟨A10, c10, rfl, ha10, hc10, hcm10, hin10⟩ := NewBytes.form (w := w8) hown10; rw [HLEN.out] at ha10 hc10 ⊢; have h10 := h8.sep HD.out hb10 (S := inB A10) (fun k ⟨a, e, ek⟩ => ek ▸ hin10 a e); have s10 := Nat.le_trans hc10 hcm10; clear hr10 hg10 hat10 h8 hr9 hcy9 hown10 hin10)
    | (go_at_call 25; refine (h10.own.readN HD.out nA a6.out).mono ?_; rintro e11 w11 ⟨A11, n11, c11, rfl, hb11, _⟩; have h11 := h10.keep HD.out hb11; have ha11 := ha10.below' hb11; clear h10 ha10)
    | (go_at_call 28; refine (h11.own.has HD.out (Below.refl _ _) nB c10 ha11).mono ?_; rintro e12 w12 ⟨rfl, hb12, _⟩; rw [a7.out]; have h12 := h11.keep HD.out hb12; have ha12 := ha11.below' hb12; clear h11 ha11)
    | (go_at_call 31; refine (h12.step (fun F hF _ => HD.out.rename w12 g _ F nB nB hF) a8.out.1 (congrArg (Value.int .i64) a8.out.2)).mono ?_; rintro e13 w13 ⟨rfl, h13, hk13⟩; have ha13 := ha12.on (inB_self A10) hk13; clear h12 ha12 hk13)
    | (go_at_call 27; refine (h13.own.names HD.out).mono ?_; rintro e14 w14 ⟨A14, c14, rfl, _, _, _, hb14, _⟩; rw [show (nms (wd nB x p false (-1))).length = 1 from rfl]; have h14 := h13.keep HD.out hb14; have ha14 := ha13.below' hb14; clear h13 ha13)
    | (go_at_call 23; refine (h14.crashL HD.out kp a9.out).mono ?_; rintro e15 w15 ⟨rfl, h15, hk15⟩; have ha15 := ha14.on (inB_self A10) hk15; clear h14 ha14 hk15)
    | (go_at_call 24; refine (h15.step (fun F hF _ => HD.out.boot w15 g _ F hF) a10.out rfl).mono ?_; rintro e16 w16 ⟨rfl, h16, hk16⟩; have ha16 := ha15.on (inB_self A10) hk16; clear h15 ha15 hk16)
    | (go_at_call 22; refine (BR.out _).mono ?_; rintro e17 w17 ⟨rfl, rfl⟩; have ha17 := ha16.cut (l := 0) (k := p + z) (m := c10) (by omega) (by omega) (by omega); simp only [cutA_zero, Nat.sub_zero, List.drop_zero] at ha17; have hpz : p + z ≤ c10 := (by omega))
    | (go_at_call 28; refine (h16.own.has HD.out (Below.refl _ _) nB c10 ha17).mono ?_; rintro e18 w18 ⟨rfl, hb18, h18⟩; rw [a11.out])
    | (go_at_call 9; refine (DOwn.new_ HD.out hb2).mono ?_; rintro e3 w3 ⟨g, rfl, hg, h3, hb3⟩; clear hb2))
  go_ret
  exact ⟨rfl, h18.bel⟩
end Go.Proofs.Ytmjoaeljfhgojaa
