/-
  DiskKeeps: the walk, over what the code's disk owes.
-/
import Derived.Test.YtmjoaeljfhgojaaDKeepM
import Derived.Test.YtmjoaeljfhgojaaVDiskMoves
set_option linter.unusedVariables false
namespace Go.Proofs.Ytmjoaeljfhgojaa
open Go.RowKit

/-- A deed that lies in memory. -/
structure DeedAt (w : World) (b o : Nat) (q : Dd) (BA : Option Addr) (bc : Nat) (KA : Option Addr) (kc : Nat) : Prop where
  c0 : w.cell? ⟨b, o, none⟩ = some (.int .i64 q.k)
  c1 : w.cell? ⟨b, o + 1, none⟩ = some (.string q.nm)
  c2 : w.cell? ⟨b, o + 2, none⟩ = some (.string q.tn)
  c3 : w.cell? ⟨b, o + 3, none⟩ = some (.slice BA q.bs.length bc)
  c4 : w.cell? ⟨b, o + 4, none⟩ = some (.int .i64 q.n)
  c5 : w.cell? ⟨b, o + 5, none⟩ = some (.int .i64 q.at_)
  c6 : w.cell? ⟨b, o + 6, none⟩ = some (.slice KA q.keep.length kc)
  bat : At w BA q.bs.length q.bs
  kat : IAt w KA q.keep.length q.keep
  bl : q.bs.length ≤ bc
  bm : bc ≤ 9223372036854775807
  kl : q.keep.length ≤ kc
  km : kc ≤ 9223372036854775807
  ks : q.keep.length ≤ 17592186044416
  ns : q.nm.size ≤ 9223372036854775000
  ts : q.tn.size ≤ 9223372036854775000
  k64 : In64 q.k
  n64 : In64 q.n
  a64 : In64 q.at_
theorem DeedAt.below {w w' : World} {b o : Nat} {q : Dd} {BA KA : Option Addr} {bc kc : Nat} (h : DeedAt w b o q BA bc KA kc) (hb : Below w.heap.size w w') : DeedAt w' b o q BA bc KA kc :=
  have hlt : b < w.heap.size := World.block_lt_of_cell? w _ h.c0
  have f := fun j => World.cell?_of_block (a := ⟨b, j, none⟩) (hb.block b hlt)
  ⟨(f _).trans h.c0, (f _).trans h.c1, (f _).trans h.c2, (f _).trans h.c3, (f _).trans h.c4, (f _).trans h.c5, (f _).trans h.c6, h.bat.below' hb, h.kat.keepB hb, h.bl, h.bm, h.kl, h.km, h.ks, h.ns, h.ts, h.k64, h.n64, h.a64⟩
theorem IAt.old {w : World} {A : Option Addr} {n : Nat} {xs : List Int} (h : IAt w A n xs) (h0 : 0 < n) : ∀ a, A = some a → a.block < w.heap.size := by
  obtain ⟨b, o, e, hc⟩ := h.2 h0
  intro a ea
  rw [e] at ea
  injection ea with ea
  subst ea
  exact World.block_lt_of_cell? w ⟨b, o + 0, none⟩ (hc 0 (by rw [h.1]; exact h0))
/-- A list of deeds that lies in memory. -/
def Deeds (w : World) (A : Option Addr) (n : Nat) (qs : List Dd) : Prop := qs.length = n ∧ (0 < n → ∃ b o, A = some ⟨b, o, none⟩ ∧ ∀ i, (h : i < qs.length) → ∃ BA bc KA kc, DeedAt w b (o + i * 7) qs[i] BA bc KA kc)

set_option maxRecDepth 100000 in
set_option maxHeartbeats 20000000 in
theorem diskKeeps_w {R : DRep} (hD : DiskOk R) (L : Option Addr) (ln lc : Nat) (qs : List Dd) (A B : Option Addr) (n c m d : Nat) (xs ys : List UInt8) (w : World) (hL : Deeds w L ln qs) (hlc : ln ≤ lc) (hlk : lc ≤ 9223372036854775807)
    (hx : At w A n xs) (hnc : n ≤ c) (hk : c ≤ 9223372036854775807) (hy : At w B m ys) (hmd : m ≤ d) (hk2 : d ≤ 9223372036854775807) :
    Calls Try.prog 4 #[.slice L ln lc, .slice A n c, .slice B m d] w fun e w' => e = .returned (.bool true) ∧ Below w.heap.size w w' := by
  have HD := Lib.hid hD
  have HW := Lib.hid (works_w hD w)
  obtain ⟨p, hp⟩ : ∃ p : Nat, p = min n 1000 := ⟨_, rfl⟩
  obtain ⟨q, hq⟩ : ∃ q : Nat, q = min m 1000 := ⟨_, rfl⟩
  have HP := Lib.hid (show (min (n : Int) 1000).toNat = p by omega)
  have HQ := Lib.hid (show (min (m : Int) 1000).toNat = q by omega)
  have hcx := hx.cut (l := 0) (k := p) (m := c) (by omega) (by omega) (by omega)
  have hcy := hy.cut (l := 0) (k := q) (m := d) (by omega) (by omega) (by omega)
  simp only [cutA_zero, Nat.sub_zero, List.drop_zero] at hcx hcy
  obtain ⟨u, hu⟩ : ∃ u, xs.take p = u := ⟨_, rfl⟩
  obtain ⟨v, hv⟩ : ∃ v, ys.take q = v := ⟨_, rfl⟩
  rw [hu] at hcx
  rw [hv] at hcy
  have hul := hcx.1
  have hvl := hcy.1
  have hp1 : p ≤ 1000 := by omega
  have hq1 : q ≤ 1000 := by omega
  have hpc : p ≤ c := by omega
  have hqd : q ≤ d := by omega
  clear hu hv hx hy hD hp hq
  go_enter Try.func4, Try.ntmps4
  go_wp2_with (first
    | (go_at_call 19; refine HW.out.mono ?_; rintro e1 w1 ⟨rfl, hb1⟩)
    | (go_at_call 9; refine (DOwn.new_ HD.out hb1).mono ?_; rintro e2 w2 ⟨g, rfl, hg, h2, hb2⟩; clear hb1))
  go_quiet (fail)
  rw [HP.out, HQ.out]
  have h3 := h2.drewN HD.out nq
  generalize w2.drewN nq = w3 at h3 ⊢
  clear h2 hb2 HW
  have hlen : (u ++ v).length = p + q := by simp; omega
  obtain ⟨x, hx⟩ : ∃ x, u ++ v = x := ⟨_, rfl⟩
  rw [hx] at hlen
  have HX := Lib.hid hx
  have a1 : Hid (app dk0 nK u = wd nK u 0 false (-1) ∧ appE dk0 nK u.length = 0) := Lib.hid (app_new nK u (-1) [] may_k (by omega) (by decide))
  have a2 : Hid (syn (wd nK u 0 false (-1)) nK = wd nK u p false (-1) ∧ synE (wd nK u 0 false (-1)) nK = 0) := Lib.hid (hul ▸ syn_one nK u 0 (-1) [] (by decide))
  have a3 : Hid (app (wd nK u p false (-1)) nK v = wd nK x p false (-1) ∧ appE (wd nK u p false (-1)) nK v.length = 0) := Lib.hid (hx ▸ app_one nK u v p (-1) [] may_k (by omega) (by decide))
  clear hx
  go_wp2_with (first
    | (go_at_call 20; refine (h3.appendO HD.out nK a1.out hcx (by omega) c).mono ?_; rintro e4 w4 ⟨rfl, h4⟩; clear h3)
    | (go_at_call 21; refine (h4.syncN HD.out nK a2.out).mono ?_; rintro e5 w5 ⟨rfl, h5⟩; clear h4)
    | (go_at_call 20; refine (h5.appendO HD.out nK a3.out hcy (by omega) d).mono ?_; rintro e6 w6 ⟨rfl, h6⟩; clear h5))
  have hk6 : Hid (KP (wd nK x p false (-1)) x p) := Lib.hid (KP.new_ x p)
  generalize wd nK x p false (-1) = D6 at h6 hk6
  have hql := Lib.hid hL.1
  clear a1 a2 a3 hg
  go_loopw [8, 9] (fun kv i wr => ∃ (k : Nat) (D : Dk) (KA : Option Addr) (kn kc : Nat) (ks : List Int), k ≤ ln ∧ i = .int .i64 k ∧ kv = .slice KA kn kc ∧ IAt w KA kn ks ∧ kn ≤ kc ∧ kc ≤ 9223372036854775807 ∧ DOwn R w g D wr ∧ Hid (KP D x p)) (fun _ i _ => ln - (intOf i).toNat)
  case atStart => exact ⟨0, D6, none, 0, 0, [], Nat.zero_le _, rfl, rfl, IAt.nil _ _, by omega, by omega, h6, hk6⟩
  case round =>
    clear h6 hk6
    obtain ⟨k, D, KA, kn, kc, ks, hkn, rfl, rfl, hka, hkk, hkc, h, HK⟩ := hrel
    by_cases hlt : k < ln ∧ k < 100
    · obtain ⟨hlt1, hlt2⟩ := hlt
      obtain ⟨b, o, rfl, hc⟩ := hL.2 (by omega)
      obtain ⟨BA, bc, KA', kc', hd⟩ := hc k (by rw [hql.out]; exact hlt1)
      obtain ⟨y, hy⟩ : ∃ y, qs[k]'(by rw [hql.out]; exact hlt1) = y := ⟨_, rfl⟩
      rw [hy] at hd
      obtain ⟨dk, dn, dt, db, dm, da, dp⟩ := y
      have hdw := hd.below h.bel
      obtain ⟨bl, hbl⟩ : ∃ z, db.length = z := ⟨_, rfl⟩
      obtain ⟨pl, hpl⟩ : ∃ z, dp.length = z := ⟨_, rfl⟩
      have z0 := hdw.c0
      have z1 := hdw.c1
      have z2 := hdw.c2
      have z3 := hdw.c3
      have z4 := hdw.c4
      have z5 := hdw.c5
      have z6 := hdw.c6
      have hbat := hd.bat
      have hkat := hd.kat
      have hbl1 := hd.bl
      have hpl1 := hd.kl
      simp only [hbl, hpl] at z0 z1 z2 z3 z4 z5 z6 hbat hkat hbl1 hpl1
      have hbm := hd.bm
      have hkm := hd.km
      obtain ⟨r, hr⟩ : ∃ r : Nat, r = min bl 2000 := ⟨_, rfl⟩
      have HR := Lib.hid (show (min (bl : Int) 2000).toNat = r by omega)
      have hr1 : r ≤ 2000 := by omega
      have hrc : r ≤ bc := by omega
      clear hc hy hdw
      have hns := hd.ns
      have hts := hd.ts
      simp only at hns hts
      have hs1 : ¬ 9223372036854775807 < 1 + dn.size := by omega
      have hs2 : ¬ 9223372036854775807 < 1 + dt.size := by omega
      have BR := fun V => bring dk 12 V (by omega) (by omega)
      obtain ⟨kk, hkk2⟩ : ∃ z, dk % 12 = z := ⟨_, rfl⟩
      rw [hkk2] at BR
      have B1 := Lib.hid BR
      clear BR
      by_cases h8 : kk < 8
      · obtain ⟨F, f1, f2, f3⟩ := h
        have hcut := hbat.cut (l := 0) (k := r) (m := bc) (by omega) (by omega) (by omega)
        simp only [cutA_zero, Nat.sub_zero, List.drop_zero] at hcut
        obtain ⟨eb, heb⟩ : ∃ z, db.take r = z := ⟨_, rfl⟩
        rw [heb] at hcut
        have hel := hcut.1
        have hD1 := Lib.hid (KP.deed HK.out ⟨dk, ⟨#[120]⟩ ++ dn, ⟨#[121]⟩ ++ dt, eb, dm, da, dp⟩ (by show dk % 12 < 8; omega) (cat_ne 120 dn (by decide)) (cat_ne 121 dt (by decide)))
        have hbx := below_alloc wr (.cells #[.int .i64 dk, .string (⟨#[120]⟩ ++ dn), .string (⟨#[121]⟩ ++ dt), .slice BA r bc, .int .i64 dm, .int .i64 da, .slice KA' pl kc'] 30)
        have hbw := f3.trans (hbx.mono f3.size)
        have hcutW := hcut.below' hbw
        have hkatW := hkat.keepB hbw
        have C1 := does_w HD.out _ g D F ⟨dk, ⟨#[120]⟩ ++ dn, ⟨#[121]⟩ ++ dt, eb, dm, da, dp⟩ BA KA' bc kc' (HD.out.below f1 hbx) (by rw [hel]; exact hcutW) (by rw [hpl]; exact hkatW) (fun h0 a e hF => by
            have := hcut.old (by rw [← hel]; exact h0) a e
            have := f2 _ hF
            omega) (fun h0 a e => ⟨by
            have := hkat.old (by rw [← hpl]; exact h0) a e
            have := hbw.size
            omega, fun hF => by
            have := hkat.old (by rw [← hpl]; exact h0) a e
            have := f2 _ hF
            omega⟩) hd.k64 hd.n64 hd.a64 (by simp only [hel]; omega) (by have := hd.ks; simp only at this ⊢; exact this) (by simp only [hpl]; exact hpl1) hkm
        unfold ddv at C1
        simp only [hel, hpl] at C1
        obtain ⟨E1, hE1⟩ : ∃ z, deedE D ⟨dk, ⟨#[120]⟩ ++ dn, ⟨#[121]⟩ ++ dt, eb, dm, da, dp⟩ = z := ⟨_, rfl⟩
        obtain ⟨D1, hD1e⟩ : ∃ z, deedC D ⟨dk, ⟨#[120]⟩ ++ dn, ⟨#[121]⟩ ++ dt, eb, dm, da, dp⟩ = z := ⟨_, rfl⟩
        rw [hE1, hD1e] at C1
        rw [hD1e] at hD1
        have C2 := Lib.hid C1
        have hb0 := hd.c0
        clear C1 hE1 hD1e hbat hkatW hcutW hr hd
        go_wp2_with (first
          | (go_at_call 22; rw [HR.out]; refine (B1.out _).mono ?_; rintro e7 w7 ⟨rfl, rfl⟩)
          | (go_at_call 13; refine C2.out.mono ?_; rintro e8 w8 ⟨rfl, h8⟩; have h9 : DOwn R w g D1 w8 := DOwn.turn f2 hbw h8))
        go_roundw
        case rel => exact ⟨k + 1, D1, KA', pl, kc', dp, by omega, by go_num, rfl, hkat, hpl1, hkm, h9, hD1⟩
        case measure => simp [intOf]; omega
      · have h8' : 8 ≤ kk := by omega
        have h9 := h.alloc HD.out (.cells #[.int .i64 dk, .string (⟨#[120]⟩ ++ dn), .string (⟨#[121]⟩ ++ dt), .slice BA r bc, .int .i64 dm, .int .i64 da, .slice KA' pl kc'] 30)
        clear h8 hbat hr hd
        go_wp2_with (first
          | (go_at_call 22; rw [HR.out]; refine (B1.out _).mono ?_; rintro e7 w7 ⟨rfl, rfl⟩))
        go_roundw
        case rel => exact ⟨k + 1, D, KA', pl, kc', dp, by omega, by go_num, rfl, hkat, hpl1, hkm, h9, HK⟩
        case measure => simp [intOf]; omega
    · obtain ⟨kq, hkq, e1, e2⟩ := KP.end_ HK.out (h.ok HD.out) ks
      rw [hlen, show p + q - p = q by omega] at hkq
      obtain ⟨tt, htt⟩ : ∃ z, x.take (p + kq) = z := ⟨_, rfl⟩
      have HTL := Lib.hid (show tt.length = p + kq by rw [← htt, List.length_take]; omega)
      rw [htt] at e2
      have HT := Lib.hid htt
      have HTT := Lib.hid (show (tt == tt) = true from beq_self_eq_true _)
      have HUL := Lib.hid hul
      have HLEN := Lib.hid hlen
      have S1 := Lib.hid (fun V (h : DOwn R w g (boot (crash D ks)) V) => h.read HD.out nK)
      simp only [e1, e2] at S1
      have C1 := Lib.hid (h.crash HD.out (Below.refl _ _) (hka.keepB h.bel) (fun h0 => Away.old (hka.old h0)) (fun h0 a e => Nat.lt_of_lt_of_le (hka.old h0 a e) h.bel.size) hkk hkc)
      clear e1 e2 htt HK
      by_cases h1 : k < ln
      · have hge : 100 ≤ k := by omega
        clear hlt
        go_wp2_with (first
          | (go_at_call 23; refine C1.out.mono ?_; rintro e7 w7 ⟨rfl, h7⟩)
          | (go_at_call 24; refine (h7.boot HD.out).mono ?_; rintro e8 w8 ⟨rfl, h8⟩; clear h7)
          | (go_at_call 25; refine (S1.out _ h8).mono ?_; rintro e9 w9 ⟨v9, rfl, hv9, _, h9⟩; obtain ⟨A9, c9, rfl, ha9, hc9, hcm9, _⟩ := Own.form hv9; rw [HTL.out] at ha9 hc9 ⊢; have hcy9 := hcy.below' h9.bel; have hcx9 := hcx.below' h9.bel; clear h8 hv9)
          | (go_at_call 11; refine (copyBytes A p c u _ hcx9 (by omega)).mono ?_; rintro e10 w10 ⟨v10, rfl, hown10, hb10⟩; have hr10 := Lib.hid (ownLen hown10 HUL.out); have hcy10 := hcy9.below' hb10; have ha10 := ha9.below' hb10; have hbb10 := h9.bel.trans (hb10.mono h9.bel.size); clear hown10)
          | (at_builtin; refine wpList_app rfl _ _ 27 rfl w9.heap.size 5 Try.underlying27 info5 v10 p u v rfl hr10.out B q d rfl hcy10 (by omega) hb10.size ?_; intro v11 w11 hr11 hg11 hat11; rw [HX.out] at hr11; have hown11 : Own w11 w9.heap.size v11 x := (by unfold Own; rw [HLEN.out]; exact hr11); have hb11 : Below w9.heap.size w9 w11 := hb10.grown hg11 hb10.size (fun k e => (rowOwn hr10.out k e).1); have ha11 := ha9.below' hb11; obtain ⟨A11, c11, rfl, hx11, hc11, hcm11, _⟩ := Own.form hown11; rw [HLEN.out] at hx11 hc11 ⊢; have hB11 := h9.bel.trans (hb11.mono h9.bel.size); have hx12 := hx11.cut (l := 0) (k := p + kq) (m := c11) (by omega) (by omega) (by omega); simp only [cutA_zero, Nat.sub_zero, List.drop_zero] at hx12; rw [HT.out] at hx12; have hpk : p + kq ≤ c11 := (by omega); clear hr11 hg11 hat11 hown11 hr10 hcy10)
          | (go_at_call 16; refine (eqBytes _ _ _ _ _ _ tt tt _ ha11 hx12 (by omega)).mono ?_; rintro e12 w12 ⟨rfl, j12, rfl⟩; rw [HTT.out]))
        go_ret
        exact ⟨rfl, below_drewN hB11 _⟩
      · have hge : ln ≤ k := by omega
        clear hlt
        go_wp2_with (first
          | (go_at_call 23; refine C1.out.mono ?_; rintro e7 w7 ⟨rfl, h7⟩)
          | (go_at_call 24; refine (h7.boot HD.out).mono ?_; rintro e8 w8 ⟨rfl, h8⟩; clear h7)
          | (go_at_call 25; refine (S1.out _ h8).mono ?_; rintro e9 w9 ⟨v9, rfl, hv9, _, h9⟩; obtain ⟨A9, c9, rfl, ha9, hc9, hcm9, _⟩ := Own.form hv9; rw [HTL.out] at ha9 hc9 ⊢; have hcy9 := hcy.below' h9.bel; have hcx9 := hcx.below' h9.bel; clear h8 hv9)
          | (go_at_call 11; refine (copyBytes A p c u _ hcx9 (by omega)).mono ?_; rintro e10 w10 ⟨v10, rfl, hown10, hb10⟩; have hr10 := Lib.hid (ownLen hown10 HUL.out); have hcy10 := hcy9.below' hb10; have ha10 := ha9.below' hb10; have hbb10 := h9.bel.trans (hb10.mono h9.bel.size); clear hown10)
          | (at_builtin; refine wpList_app rfl _ _ 27 rfl w9.heap.size 5 Try.underlying27 info5 v10 p u v rfl hr10.out B q d rfl hcy10 (by omega) hb10.size ?_; intro v11 w11 hr11 hg11 hat11; rw [HX.out] at hr11; have hown11 : Own w11 w9.heap.size v11 x := (by unfold Own; rw [HLEN.out]; exact hr11); have hb11 : Below w9.heap.size w9 w11 := hb10.grown hg11 hb10.size (fun k e => (rowOwn hr10.out k e).1); have ha11 := ha9.below' hb11; obtain ⟨A11, c11, rfl, hx11, hc11, hcm11, _⟩ := Own.form hown11; rw [HLEN.out] at hx11 hc11 ⊢; have hB11 := h9.bel.trans (hb11.mono h9.bel.size); have hx12 := hx11.cut (l := 0) (k := p + kq) (m := c11) (by omega) (by omega) (by omega); simp only [cutA_zero, Nat.sub_zero, List.drop_zero] at hx12; rw [HT.out] at hx12; have hpk : p + kq ≤ c11 := (by omega); clear hr11 hg11 hat11 hown11 hr10 hcy10)
          | (go_at_call 16; refine (eqBytes _ _ _ _ _ _ tt tt _ ha11 hx12 (by omega)).mono ?_; rintro e12 w12 ⟨rfl, j12, rfl⟩; rw [HTT.out]))
        go_ret
        exact ⟨rfl, below_drewN hB11 _⟩
end Go.Proofs.Ytmjoaeljfhgojaa
