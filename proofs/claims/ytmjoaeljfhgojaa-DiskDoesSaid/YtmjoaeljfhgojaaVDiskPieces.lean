/-
  DiskPieces: the walk, over what the code's disk owes.
-/
import Derived.Test.YtmjoaeljfhgojaaOwnI
import Derived.Test.YtmjoaeljfhgojaaVDiskMoves
set_option linter.unusedVariables false
namespace Go.Proofs.Ytmjoaeljfhgojaa
open Go.RowKit

/-- Lists of bytes that lie in memory, and their slices' capacities. -/
def LsB (w : World) (A : Option Addr) (m : Nat) (ls : List (List UInt8)) : Prop := ls.length = m ∧ (0 < m → ∃ b o, A = some ⟨b, o, none⟩ ∧ ∀ i, (h : i < ls.length) → ∃ Ai ci, w.cell? ⟨b, o + i, none⟩ = some (.slice Ai ls[i].length ci) ∧ At w Ai ls[i].length ls[i] ∧ ls[i].length ≤ ci ∧ ci ≤ 9223372036854775807)
/-- What a row of bytes of the walk's own holds. -/
def ownB (v : Value) : Nat → Prop := fun k => v.ownBlock = some k
theorem inB_own {A : Option Addr} {n c k : Nat} (h : inB A k) : ownB (.slice A n c) k := by
  obtain ⟨a, rfl, rfl⟩ := h
  rfl
theorem DSep.grown {R : DRep} {w V V' : World} {g : Nat} {D : Dk} {v v' : Value} {n m : Nat} {e : TypeId} {s : Nat} {zs zs' : List Value} (hD : DiskOk R) (h : DSep R w g D V (ownB v)) (hr : V.ownsRow w.heap.size e s v n zs) (hg : V.grownBy V' v.ownBlock)
    (hr' : V'.ownsRow w.heap.size e s v' m zs') (hv : v'.ownBlock = v.ownBlock ∨ v'.ownBlock = some V.heap.size) : DSep R w g D V' (ownB v') := by
  obtain ⟨F, h1, h2, h3, h4⟩ := h
  refine ⟨F, hD.on h1 hg.size (fun k e => hg.block k (hD.lt h1 k e) (fun e' => (h2 k e).2 e'.symm)), fun k e => ⟨(h2 k e).1, fun s' => ?_⟩, fun k s' => (rowOwn hr' k s').2, h4.grown hg h4.size (fun k e => (rowOwn hr k e).1)⟩
  rcases hv with hv | hv
  · exact (h2 k e).2 (hv.symm.trans s')
  · have := hD.lt h1 k e
    unfold ownB at s'
    rw [hv] at s'
    injection s' with s'
    omega

set_option maxRecDepth 100000 in
set_option maxHeartbeats 20000000 in
theorem diskPieces_w {R : DRep} (hD : DiskOk R) (A : Option Addr) (n c : Nat) (ls : List (List UInt8)) (q : Int) (w : World) (hx : LsB w A n ls) (hnc : n ≤ c) (hk : c ≤ 9223372036854775807) :
    Calls Try.prog 5 #[.slice A n c, .int .i64 q] w fun e w' => e = .returned (.bool true) ∧ Below w.heap.size w w' := by
  have HD := Lib.hid hD
  have HW := Lib.hid (works_w hD w)
  clear hD
  go_enter Try.func5, Try.ntmps5
  go_wp2_with (first
    | (go_at_call 19; refine HW.out.mono ?_; rintro e1 w1 ⟨rfl, hb1⟩)
    | (go_at_call 9; refine (DOwn.new_ HD.out hb1).mono ?_; rintro e2 w2 ⟨g, rfl, hg, h2, hb2⟩))
  have hxl := Lib.hid hx.1
  clear hb1 HW
  have hs2 : DSep R w g dk0 w2 (ownB (.slice none 0 0)) := by
    obtain ⟨F, f1, f2, f3⟩ := h2
    exact ⟨F, f1, fun k e => ⟨f2 k e, fun s => (nomatch s)⟩, fun k s => (nomatch s), f3⟩
  go_loopw [6, 7] (fun v i wr => ∃ (k : Nat) (D : Dk) (ys : List UInt8), k ≤ n ∧ k ≤ 40 ∧ i = .int .i64 k ∧ Own wr w.heap.size v ys ∧ DSep R w g D wr (ownB v) ∧ ys.length ≤ 200 * k ∧ Hid ((k = 0 → D = dk0 ∧ ys = []) ∧ (0 < k → D = wd nA ys 0 false (-1)))) (fun _ i _ => n - (intOf i).toNat)
  case atStart => exact ⟨0, dk0, [], Nat.zero_le _, by omega, rfl, World.ownsRow_nil _ _ _ _, hs2, by simp, Lib.hid ⟨fun _ => ⟨rfl, rfl⟩, fun h => absurd h (by omega)⟩⟩
  case round =>
    clear hs2 h2 hb2
    obtain ⟨k, D, ys, hkn, hk40, rfl, hown, h, hyl, HS⟩ := hrel
    by_cases hlt : k < n ∧ k < 40
    · obtain ⟨hlt1, hlt2⟩ := hlt
      obtain ⟨b, o, rfl, hc⟩ := hx.2 (by omega)
      obtain ⟨Ai, ci, hci, hat, hlc, hcm⟩ := hc k (by rw [hxl.out]; exact hlt1)
      obtain ⟨l, hl⟩ : ∃ l, ls[k]'(by rw [hxl.out]; exact hlt1) = l := ⟨_, rfl⟩
      rw [hl] at hci hat hlc
      obtain ⟨ln, hln⟩ : ∃ m, l.length = m := ⟨_, rfl⟩
      rw [hln] at hci hat hlc
      have hck := (h.bel.cell (World.block_lt_of_cell? w _ hci)).trans hci
      obtain ⟨p, hp⟩ : ∃ p : Nat, p = min ln 200 := ⟨_, rfl⟩
      have HP := Lib.hid (show (min (ln : Int) 200).toNat = p by omega)
      have hp1 : p ≤ 200 := by omega
      have hpc : p ≤ ci := by omega
      have hcut := hat.cut (l := 0) (k := p) (m := ci) (by omega) (by omega) (by omega)
      simp only [cutA_zero, Nat.sub_zero, List.drop_zero] at hcut
      obtain ⟨u, hu⟩ : ∃ u, l.take p = u := ⟨_, rfl⟩
      rw [hu] at hcut
      have hul := hcut.1
      have HA : Hid (app D nA u = wd nA (ys ++ u) 0 false (-1) ∧ appE D nA u.length = 0) := Lib.hid (by
        rcases Nat.eq_zero_or_pos k with h0 | h0
        · obtain ⟨rfl, rfl⟩ := HS.out.1 h0
          exact app_new nA u (-1) [] may_a (by omega) (by decide)
        · obtain rfl := HS.out.2 h0
          exact app_one nA ys u 0 (-1) [] may_a (by omega) (by decide))
      have HU := Lib.hid hul
      have hlen : (ys ++ u).length ≤ 200 * (k + 1) := by rw [List.length_append]; omega
      clear hc hl hln hp hu hat hci
      go_wp2_with fail
      go_quiet (fail)
      rw [HP.out]
      have hd : DSep R w g D (wr.drewN nq) (ownB u6) := h.keep HD.out (below_drewN (Below.refl _ _) nq)
      have hod : Own (wr.drewN nq) w.heap.size u6 ys := hown
      have hcd := hcut.below' hd.bel
      generalize wr.drewN nq = W at hd hod hcd ⊢
      clear hck h hown
      have hrow := Lib.hid (ownLen hod rfl)
      have hbs := hd.bel.size
      clear hod
      go_wp2_with (first
        | (at_builtin; refine wpList_app rfl _ _ 27 rfl w.heap.size 5 Try.underlying27 info5 u6 ys.length ys u rfl hrow.out Ai p ci rfl hcd (by omega) hbs ?_; intro v10 w10 hr10 hg10 hv10; have HR10 := Lib.hid hr10; have h10 : DSep R w g D w10 (ownB v10) := DSep.grown HD.out hd hrow.out hg10 hr10 hv10; have hcd10 := hcut.below' h10.bel; have ho10 : Own w10 w.heap.size v10 (ys ++ u) := (by unfold Own; rw [List.length_append, HU.out]; exact HR10.out); clear hr10 hg10 hv10 hd)
        | (go_at_call 20; refine (h10.step (fun F hF hS => HD.out.append w10 g _ F nA Ai p ci u hF hcd10 (fun h0 a e hFa => by have := hcut.old h0 a e; have := (hS _ hFa (HD.out.lt hF _ hFa)).1; omega) (by omega)) HA.out.1 (congrArg (Value.int .i64) HA.out.2)).mono ?_; rintro e11 w11 ⟨rfl, h11, hk11⟩; have ho11 := ho10.onS hk11))
      go_roundw
      case rel => exact ⟨k + 1, _, ys ++ u, by omega, by omega, by go_num, ho11, h11, hlen, Lib.hid ⟨fun h => absurd h (by omega), fun _ => rfl⟩⟩
      case measure => simp [intOf]; omega
    · by_cases hn0 : n = 0
      · have hk0 : k = 0 := by omega
        obtain ⟨rfl, rfl⟩ := HS.out.1 hk0
        subst hk0 hn0
        have e1 : rdE dk0 nA = 70 := rfl
        have E1 := Lib.hid e1
        have S1 := Lib.hid (fun V (h : DOwn R w g dk0 V) => h.size HD.out nA)
        simp only [e1] at S1
        have ho := h.own
        clear hlt HS h hown
        go_wp2_with (first
          | (go_at_call 26; refine (S1.out _ ho).mono ?_; rintro e11 w11 ⟨rfl, _, h11⟩)
          | (go_at_call 27; refine (h11.names HD.out).mono ?_; rintro e12 w12 ⟨A12, c12, rfl, _, _, _, _, h12⟩; rw [show (nms dk0).length = 0 from rfl]))
        go_ret
        exact ⟨rfl, h12.bel⟩
      · have hk0 : 0 < k := by omega
        have hDe := HS.out.2 hk0
        subst hDe
        obtain ⟨A5, c5, rfl, ha5, hc5, hcm5, _⟩ := hown.form
        obtain ⟨m, hm⟩ : ∃ m, ys.length = m := ⟨_, rfl⟩
        have HM := Lib.hid hm
        rw [hm] at ha5 hc5 h hyl ⊢
        have hm8 : m ≤ 8000 := by omega
        obtain ⟨z, hz, hzl⟩ : ∃ z : Nat, q % ((m : Int) + 1) = (z : Int) ∧ z < m + 1 := by
          have h1 := Int.emod_nonneg q (b := (m : Int) + 1) (by omega)
          have h2 := Int.emod_lt_of_pos q (b := (m : Int) + 1) (by omega)
          exact ⟨(q % ((m : Int) + 1)).toNat, by omega, by omega⟩
        have BR := Lib.hid (fun V => bring q ((m : Int) + 1) V (by omega) (by omega))
        rw [hz] at BR
        have r1 := rd_one nA ys 0 (-1) []
        have S1 := Lib.hid (fun V (h : DOwn R w g (wd nA ys 0 false (-1)) V) => h.size HD.out nA)
        simp only [show rdE (wd nA ys 0 false (-1)) nA = 0 from r1.1, show rdB (wd nA ys 0 false (-1)) nA = ys from r1.2, hm] at S1
        have a7 : Hid ((rdE (wd nA ys 0 false (-1)) nA == 0 && rdB (wd nA ys 0 false (-1)) nA == ys) = true) := Lib.hid (by unfold wd; rw [r1.1, r1.2]; simp)
        have a8 : Hid (cut (wd nA ys 0 false (-1)) nA (z : Int) = wd nA (ys.take z) 0 false (-1) ∧ cutE (wd nA ys 0 false (-1)) nA (z : Int) = 0) := Lib.hid (by
          have e := cut_one nA ys 0 (-1) [] z (by omega) (by decide)
          rw [Nat.zero_min] at e
          exact e)
        have r2 := rd_one nA (ys.take z) 0 (-1) []
        have a9 : Hid ((rdE (wd nA (ys.take z) 0 false (-1)) nA == 0 && rdB (wd nA (ys.take z) 0 false (-1)) nA == ys.take z) = true) := Lib.hid (by unfold wd; rw [r2.1, r2.2]; simp)
        have a10 : Hid (cutE (wd nA (ys.take z) 0 false (-1)) nA ((z : Int) + 1) = 9) := Lib.hid (by
          unfold cutE wd nmE
          simp only [isAt_one', fileAt_one]
          rw [if_pos (by simp), if_pos (by rw [List.length_take]; omega)])
        have hge : ¬ (k < n ∧ k < 40) := hlt
        have hnk : n ≤ k ∨ 40 ≤ k := by omega
        clear hlt HS hown hm hz r1 r2
        have hzc : z ≤ c5 := by omega
        have hzw : IntKind.i64.wrap ((z : Int) + 1) = (z : Int) + 1 := IntWalk.i64_in _ (by omega)
        by_cases h1 : k < n
        · have hge : 40 ≤ k := by omega
          clear hnk
          go_wp2_with (first
            | (go_at_call 26; refine (S1.out _ h.own).mono ?_; rintro e11 w11 ⟨rfl, hb11, _⟩; have h11 := h.keep HD.out hb11; have ha11 := ha5.below' hb11; clear h ha5)
            | (go_at_call 22; refine (BR.out _).mono ?_; rintro e12 w12 ⟨rfl, rfl⟩; have ha12 := ha11)
            | (go_at_call 28; refine (h11.own.has HD.out (Below.refl _ _) nA c5 ha12).mono ?_; rintro e13 w13 ⟨rfl, hb13, _⟩; rw [a7.out]; have h13 := h11.keep HD.out hb13; have ha13 := ha12.below' hb13; clear h11 ha12 ha11)
            | (go_at_call 29; refine (h13.step (fun F hF _ => HD.out.cut w13 g _ F nA z (by omega) hF) a8.out.1 (congrArg (Value.int .i64) a8.out.2)).mono ?_; rintro e14 w14 ⟨rfl, h14, hk14⟩; have ha14 := (ha13.on (inB_self A5) (fun k' e => hk14 k' (inB_own e))).cut (l := 0) (k := z) (m := c5) (by omega) (by omega) (by omega); simp only [cutA_zero, Nat.sub_zero, List.drop_zero] at ha14; clear h13 ha13 hk14)
            | (go_at_call 28; refine (h14.own.has HD.out (Below.refl _ _) nA c5 ha14).mono ?_; rintro e15 w15 ⟨rfl, hb15, _⟩; rw [a9.out]; have h15 := h14.keep HD.out hb15; clear h14 ha14)
            | (go_at_call 29; refine (h15.own.cut HD.out nA ((z : Int) + 1) (by omega)).mono ?_; rintro e16 w16 ⟨rfl, h16⟩; rw [a10.out]))
          go_ret
          exact ⟨rfl, h16.bel⟩
        · have hge : n ≤ k := by omega
          clear hnk
          go_wp2_with (first
            | (go_at_call 26; refine (S1.out _ h.own).mono ?_; rintro e11 w11 ⟨rfl, hb11, _⟩; have h11 := h.keep HD.out hb11; have ha11 := ha5.below' hb11; clear h ha5)
            | (go_at_call 22; refine (BR.out _).mono ?_; rintro e12 w12 ⟨rfl, rfl⟩; have ha12 := ha11)
            | (go_at_call 28; refine (h11.own.has HD.out (Below.refl _ _) nA c5 ha12).mono ?_; rintro e13 w13 ⟨rfl, hb13, _⟩; rw [a7.out]; have h13 := h11.keep HD.out hb13; have ha13 := ha12.below' hb13; clear h11 ha12 ha11)
            | (go_at_call 29; refine (h13.step (fun F hF _ => HD.out.cut w13 g _ F nA z (by omega) hF) a8.out.1 (congrArg (Value.int .i64) a8.out.2)).mono ?_; rintro e14 w14 ⟨rfl, h14, hk14⟩; have ha14 := (ha13.on (inB_self A5) (fun k' e => hk14 k' (inB_own e))).cut (l := 0) (k := z) (m := c5) (by omega) (by omega) (by omega); simp only [cutA_zero, Nat.sub_zero, List.drop_zero] at ha14; clear h13 ha13 hk14)
            | (go_at_call 28; refine (h14.own.has HD.out (Below.refl _ _) nA c5 ha14).mono ?_; rintro e15 w15 ⟨rfl, hb15, _⟩; rw [a9.out]; have h15 := h14.keep HD.out hb15; clear h14 ha14)
            | (go_at_call 29; refine (h15.own.cut HD.out nA ((z : Int) + 1) (by omega)).mono ?_; rintro e16 w16 ⟨rfl, h16⟩; rw [a10.out]))
          go_ret
          exact ⟨rfl, h16.bel⟩
end Go.Proofs.Ytmjoaeljfhgojaa
