/-
  DiskDoes: the walk, over what the code's disk owes.
-/
import Derived.Test.YtmjoaeljfhgojaaDDoes
set_option linter.unusedVariables false
namespace Go.Proofs.Ytmjoaeljfhgojaa
open Go.RowKit

set_option maxRecDepth 100000 in
set_option maxHeartbeats 20000000 in
theorem diskDoes_w {R : DRep} (hD : DiskOk R) (L : Option Addr) (ln lc : Nat) (qs : List Dd) (w : World) (hL : Deeds w L ln qs) (hlc : ln ≤ lc) (hlk : lc ≤ 9223372036854775807) :
    Calls Try.prog 3 #[.slice L ln lc] w fun e w' => e = .returned (.bool true) ∧ Below w.heap.size w w' := by
  have HD := Lib.hid hD
  clear hD
  go_enter Try.func3, Try.ntmps3
  have HW := Lib.hid (fun V => works_w HD.out V)
  go_wp2_with (first
    | (go_at_call 10; refine (new_ok _).mono ?_; rintro e2 w2 ⟨gb, rfl, hgb, h2, hb2⟩)
    | (go_at_call 9; refine (HD.out.new _).mono ?_; rintro e1 w1 ⟨ga, rfl, hga, h1, hb1⟩))
  have hT : Two R w ga gb dk0 w2 := ⟨_, _, HD.out.below h1 hb2, h2, fun k hk => ⟨hk.1, fun e => by have := hk.2; have := e.1; omega⟩, fun k e => by have := hb1.size; have := e.1; omega, hb1.trans (hb2.mono hb1.size)⟩
  have hql := Lib.hid hL.1
  clear h1 h2 hb1 hb2 hga hgb
  go_loopw [5] (fun i wr => ∃ (k : Nat) (D : Dk), k ≤ ln ∧ i = .int .i64 k ∧ Two R w ga gb D wr) (fun i _ => ln - (intOf i).toNat)
  case atStart => exact ⟨0, dk0, Nat.zero_le _, rfl, hT⟩
  case round =>
    clear hT
    obtain ⟨k, D, hkn, rfl, F, G, f1, f2, f3, f4, f5⟩ := hrel
    by_cases hlt : k < ln ∧ k < 100
    · obtain ⟨hlt1, hlt2⟩ := hlt
      obtain ⟨b, o, rfl, hc⟩ := hL.2 (by omega)
      obtain ⟨BA, bc, KA, kc, hd⟩ := hc k (by rw [hql.out]; exact hlt1)
      obtain ⟨y, hy⟩ : ∃ y, qs[k]'(by rw [hql.out]; exact hlt1) = y := ⟨_, rfl⟩
      rw [hy] at hd
      obtain ⟨dk, dn, dt, db, dm, da, dp⟩ := y
      have hdw := hd.below f5
      obtain ⟨bl, hbl⟩ : ∃ z, db.length = z := ⟨_, rfl⟩
      obtain ⟨pl, hpl⟩ : ∃ z, dp.length = z := ⟨_, rfl⟩
      have z0 := hdw.c0
      have z1 := hdw.c1
      have z2 := hdw.c2
      have z3 := hdw.c3
      have z4 := hdw.c4
      have z5 := hdw.c5
      have z6 := hdw.c6
      have hbat := hdw.bat
      have hkat := hdw.kat
      have hbl1 := hd.bl
      have hpl1 := hd.kl
      have hks := hd.ks
      simp only [hbl, hpl] at z0 z1 z2 z3 z4 z5 z6 hbat hkat hbl1 hpl1 hks
      have hbm := hd.bm
      have hkm := hd.km
      obtain ⟨r, hr⟩ : ∃ r : Nat, r = min bl 2000 := ⟨_, rfl⟩
      have HR := Lib.hid (show (min (bl : Int) 2000).toNat = r by omega)
      have hr1 : r ≤ 2000 := by omega
      have hrc : r ≤ bc := by omega
      have hcut := hbat.cut (l := 0) (k := r) (m := bc) (by omega) (by omega) (by omega)
      simp only [cutA_zero, Nat.sub_zero, List.drop_zero] at hcut
      obtain ⟨eb, heb⟩ : ∃ z, db.take r = z := ⟨_, rfl⟩
      rw [heb] at hcut
      have hel := Lib.hid hcut.1
      have a1 : Hid (deedE D ⟨dk, dn, dt, eb, dm, da, dp⟩ = deedE D ⟨dk, dn, dt, eb, dm, da, dp⟩) := Lib.hid rfl
      clear hc hy hdw hbat hr
      have s1 : (wr.alloc (.cells (dbx dk dn dt (.slice BA bl bc) dm da (.slice KA pl kc)) 30)).heap.size = wr.heap.size + 1 := by simp
      have b1 := below_alloc wr (.cells (dbx dk dn dt (.slice BA bl bc) dm da (.slice KA pl kc)) 30)
      go_wp2_with (first
        | (go_at_call 11; rw [HR.out]; refine (copyBO BA r bc eb _ (hcut.alloc _) (by omega)).mono ?_; rintro e2 w2 ⟨A2, c2, rfl, o2, ha2, hc2, hcm2, hin2, hb2⟩; have hx2 := (Bx.new wr 30 (dbx dk dn dt (.slice BA bl bc) dm da (.slice KA pl kc))).below hb2; have y2 := hx2.free 3; obtain ⟨m0, m1, m2, m3, m4, m5, m6⟩ := hx2.dcells; have bb2 := b1.trans (hb2.mono b1.size); have jn2 : InF (fun j => wr.heap.size + 1 ≤ j ∧ j < w2.heap.size) A2 := fun a e => ⟨by have h := (hin2 a e).1; simpa using h, (hin2 a e).2⟩; have bs2 : Below wr.heap.size wr (w2.setCell ⟨wr.heap.size, 3, none⟩ (.slice A2 r c2)) := bb2.setCell (Nat.le_refl _) _; have hx2s : Bx (w2.setCell ⟨wr.heap.size, 3, none⟩ (.slice A2 r c2)) wr.heap.size 30 (dbx dk dn dt (.slice A2 r c2) dm da (.slice KA pl kc)) := hx2.set3; have hk2 := hkat.keepB bs2)
        | (go_at_call 12; (refine (copyIO2 KA pl kc dp _ hk2 hks).mono ?_; rintro e3 w3 ⟨A3, c3, rfl, o3, hk3, hc3, hcm3, hin3, hb3⟩; have hx3 := hx2s.below hb3; obtain ⟨x0, x1, x2, x3, x4, x5, x6⟩ := hx3.dcells; have y3 := hx3.free 6; have hx3s : Bx (w3.setCell ⟨wr.heap.size, 6, none⟩ (.slice A3 pl c3)) wr.heap.size 30 (dbx dk dn dt (.slice A2 r c2) dm da (.slice A3 pl c3)) := hx3.set6; have bb3 := bs2.trans (hb3.mono bs2.size); have bs3 : Below wr.heap.size wr (w3.setCell ⟨wr.heap.size, 6, none⟩ (.slice A3 pl c3)) := bb3.setCell (Nat.le_refl _) _; have b4 := below_alloc (w3.setCell ⟨wr.heap.size, 6, none⟩ (.slice A3 pl c3)) (.cells (dbx dk dn dt (.slice A2 r c2) dm da (.slice A3 pl c3)) 30); have bb4 := bs3.trans (b4.mono bs3.size); have hx4 := hx3s.below b4; have n3 : ((w3.setCell ⟨wr.heap.size, 6, none⟩ (.slice A3 pl c3)).alloc (.cells (dbx dk dn dt (.slice A2 r c2) dm da (.slice A3 pl c3)) 30)).cell? ⟨wr.heap.size, 3, none⟩ = some (.slice A2 r c2) := hx4.cell 3; have s23 : w2.heap.size ≤ w3.heap.size := (by have := hb3.size; rw [size_set] at this; exact this); have E34 : ∀ j, j < w3.heap.size → j ≠ wr.heap.size → ((w3.setCell ⟨wr.heap.size, 6, none⟩ (.slice A3 pl c3)).alloc (.cells (dbx dk dn dt (.slice A2 r c2) dm da (.slice A3 pl c3)) 30)).heap[j]? = w3.heap[j]? := fun j hj hn => (b4.block j (by rw [size_set]; exact hj)).trans (heap_set_ne hn); have E24 : ∀ j, j < w2.heap.size → j ≠ wr.heap.size → ((w3.setCell ⟨wr.heap.size, 6, none⟩ (.slice A3 pl c3)).alloc (.cells (dbx dk dn dt (.slice A2 r c2) dm da (.slice A3 pl c3)) 30)).heap[j]? = w2.heap[j]? := fun j hj hn => (E34 j (by omega) hn).trans ((hb3.block j (by rw [size_set]; exact hj)).trans (heap_set_ne hn)); have ha4 : At ((w3.setCell ⟨wr.heap.size, 6, none⟩ (.slice A3 pl c3)).alloc (.cells (dbx dk dn dt (.slice A2 r c2) dm da (.slice A3 pl c3)) 30)) A2 r eb := ha2.on jn2 (fun j e => E24 j e.2 (by have := e.1; omega)); have hqq : wr.heap.size ≠ w3.heap.size := (by have := hx3.lt; omega); have s4 : ((w3.setCell ⟨wr.heap.size, 6, none⟩ (.slice A3 pl c3)).alloc (.cells (dbx dk dn dt (.slice A2 r c2) dm da (.slice A3 pl c3)) 30)).heap.size = w3.heap.size + 1 := (by simp); have hy4 : Bx ((w3.setCell ⟨wr.heap.size, 6, none⟩ (.slice A3 pl c3)).alloc (.cells (dbx dk dn dt (.slice A2 r c2) dm da (.slice A3 pl c3)) 30)) w3.heap.size 30 (dbx dk dn dt (.slice A2 r c2) dm da (.slice A3 pl c3)) := (by have h := Bx.new (w3.setCell ⟨wr.heap.size, 6, none⟩ (.slice A3 pl c3)) 30 (dbx dk dn dt (.slice A2 r c2) dm da (.slice A3 pl c3)); rw [size_set] at h; exact h); clear m0 m1 m2 m3 m4 m5 m6 y2 hk2))
        | (go_at_call 11; (refine (copyBO A2 r c2 eb _ ha4 (by omega)).mono ?_; rintro e5 w5 ⟨A5, c5, rfl, o5, ha5, hc5, hcm5, hin5, hb5⟩; have hy5 := hy4.below hb5; have hx5 := hx4.below hb5; obtain ⟨v0, v1, v2, v3, v4, v5, v6⟩ := hy5.dcells; have y5 := hy5.free 3; have n6 : w5.cell? ⟨wr.heap.size, 6, none⟩ = some (.slice A3 pl c3) := hx5.cell 6; have hy5s : Bx (w5.setCell ⟨w3.heap.size, 3, none⟩ (.slice A5 r c5)) w3.heap.size 30 (dbx dk dn dt (.slice A5 r c5) dm da (.slice A3 pl c3)) := hy5.set3; have bb5 := bb4.trans (hb5.mono bb4.size); have bs5 : Below wr.heap.size wr (w5.setCell ⟨w3.heap.size, 3, none⟩ (.slice A5 r c5)) := bb5.setCell (by show wr.heap.size ≤ w3.heap.size; have := bb3.size; exact this) _; have s45 : w3.heap.size < w5.heap.size := (by have := hb5.size; omega); have hk5 : IAt (w5.setCell ⟨w3.heap.size, 3, none⟩ (.slice A5 r c5)) A3 pl dp := hk3.on hin3 (fun j e => (heap_set_ne (by have := e.2; omega)).trans ((hb5.block j (by have := e.2; omega)).trans (E34 j e.2 (by have h1 := e.1; rw [size_set] at h1; have := hx2.lt; omega)))); clear x0 x1 x2 x3 x4 x5 x6 y3 n3))
        | (go_at_call 12; (refine (copyIO2 A3 pl c3 dp _ hk5 hks).mono ?_; rintro e6 w6 ⟨A6, c6, rfl, o6, hk6, hc6, hcm6, hin6, hb6⟩; have hy6 := hy5s.below hb6; have hx6 : Bx w6 wr.heap.size 30 (dbx dk dn dt (.slice A2 r c2) dm da (.slice A3 pl c3)) := (hx5.ne hqq).below hb6; obtain ⟨t0, t1, t2, t3, t4, t5, t6⟩ := hy6.dcells; obtain ⟨k0, k1, k2, k3, k4, k5, k6⟩ := hx6.dcells; have y6 := hy6.free 6; have s56 : w5.heap.size ≤ w6.heap.size := (by have := hb6.size; rw [size_set] at this; exact this); have bb6 := bs5.trans (hb6.mono bs5.size); have bs6 : Below wr.heap.size wr (w6.setCell ⟨w3.heap.size, 6, none⟩ (.slice A6 pl c6)) := bb6.setCell (by show wr.heap.size ≤ w3.heap.size; have := bb3.size; exact this) _; have E56 : ∀ j, j < w5.heap.size → j ≠ w3.heap.size → (w6.setCell ⟨w3.heap.size, 6, none⟩ (.slice A6 pl c6)).heap[j]? = w5.heap[j]? := fun j hj hn => (heap_set_ne hn).trans ((hb6.block j (by rw [size_set]; exact hj)).trans (heap_set_ne hn)); have E46 : ∀ j, j < w3.heap.size → (w6.setCell ⟨w3.heap.size, 6, none⟩ (.slice A6 pl c6)).heap[j]? = ((w3.setCell ⟨wr.heap.size, 6, none⟩ (.slice A3 pl c3)).alloc (.cells (dbx dk dn dt (.slice A2 r c2) dm da (.slice A3 pl c3)) 30)).heap[j]? := fun j hj => (E56 j (by omega) (by omega)).trans (hb5.block j (by omega)); have hv : Hv wr.heap.size (w6.setCell ⟨w3.heap.size, 6, none⟩ (.slice A6 pl c6)) wr.heap.size w3.heap.size dk dm da dn dt r pl A2 A3 A5 A6 c2 c3 c5 c6 eb dp := ⟨hx6.ne hqq, hy6.set6, (o2.base b1.size).onS (fun j e => (E46 j (by have := (rowOwn o2 j e).2; omega)).trans (E24 j (rowOwn o2 j e).2 (by have h := (rowOwn o2 j e).1; have h' := jn2.of e; omega))), (o3.base_ bs2.size).onS (fun j e => (E46 j (rowOwn o3 j e).2).trans (E34 j (rowOwn o3 j e).2 (by have h := (rowOwn o3 j e).1; rw [size_set] at h; have := hx2.lt; omega))), ha5.on hin5 (fun j e => E56 j e.2 (by have := e.1; omega)), hk6.ne (fun a e => by have h := (hin6 a e).1; rw [size_set] at h; omega), fun a e => ⟨by have := (jn2 a e).1; omega, by have := (jn2 a e).2; rw [size_set]; omega, by have := (jn2 a e).1; omega⟩, fun a e => ⟨by have h := (hin3 a e).1; rw [size_set] at h; have := bb2.size; omega, by have := (hin3 a e).2; rw [size_set]; omega, by have h := (hin3 a e).1; rw [size_set] at h; have := hx2.lt; omega⟩, fun a e => ⟨by have := (hin5 a e).1; have := bb3.size; omega, by have := (hin5 a e).2; rw [size_set]; omega⟩, fun a e => ⟨by have h := (hin6 a e).1; rw [size_set] at h; have := bb5.size; omega, by have := (hin6 a e).2; rw [size_set]; exact this⟩, Nat.le_refl _, bb3.size⟩)))
      clear E46 E56 hy6 hx6 t0 t1 t2 t3 t4 t5 t6 k0 k1 k2 k3 k4 k5 k6 y6 bb6 hb6 hin6 hk6 o6 hk5 hy5s n6 y5 v0 v1 v2 v3 v4 v5 v6 hx5 hy5 hb5 hin5 ha5 o5 s56 s45 bs5 bb5
      generalize w6.setCell ⟨w3.heap.size, 6, none⟩ (.slice A6 pl c6) = V at hv bs6 ⊢
      generalize w3.heap.size = qy at hv ⊢
      have hlF : ∀ j, F j → j < wr.heap.size := HD.out.lt f1
      have hlG : ∀ j, G j → j < wr.heap.size := fun j e => f2.lt e
      have hbV : Below w.heap.size w V := f5.trans (bs6.mono f5.size)
      have hF1 := HD.out.below (HD.out.below f1 bs6) (Below.refl V.heap.size V).drew
      have hG1 := (f2.below bs6).below (Below.refl V.heap.size V).drew
      have hdo := does_r HD.out hv.drew hF1 hlF hd.k64 hd.n64 hd.a64 hel.out hpl hr1 hks hc3 hcm3
      have hsh := fun V7 (h : Hv wr.heap.size V7 wr.heap.size qy dk dm da dn dt r pl A2 A3 A5 A6 c2 c3 c5 c6 eb dp) (g : RDk V7 gb D G) => should_r h g hlG hd.k64 hd.n64 hd.a64 hel.out hpl hr1 hks hc6 hcm6
      generalize deedE D ⟨dk, dn, dt, eb, dm, da, dp⟩ = E at hdo hsh
      generalize deedC D ⟨dk, dn, dt, eb, dm, da, dp⟩ = D1 at hdo hsh
      have DO := Lib.hid hdo
      have SH := Lib.hid hsh
      have S7F := Lib.hid (fun V7 (ht : Turns R V.drew ga F D1 V7) => S7.mk (w := w) hv.drew hbV.drew hG1 hlF (fun j e => (f3 j e).1) (fun j e => (f3 j e).2) ht)
      have S8F := Lib.hid (fun V7 V8 (ht1 : Turns R V.drew ga F D1 V7) (h7 : Hv wr.heap.size V7 wr.heap.size qy dk dm da dn dt r pl A2 A3 A5 A6 c2 c3 c5 c6 eb dp) (hb7 : Below w.heap.size w V7) (ht2 : Turns RDk V7 gb G D1 V8) => S8.mk (V := V.drew) HD.out h7 hb7 bs6.size hlF hlG (fun j e => (f3 j e).1) f4 f5.size (fun j e => (f3 j e).2) ht1 ht2)
      have hSd : SXY wr.heap.size qy dk dm da dn dt r pl A2 A3 A5 A6 c2 c3 c5 c6 V.drew := hv.drew.sxy
      have HV := Lib.hid hv
      have HPL := Lib.hid (show r ≤ 9223372036854775807 ∧ pl ≤ 9223372036854775807 from ⟨by omega, by omega⟩)
      have HF5 := Lib.hid f5.size
      have HPD := Lib.hid hpl
      clear hdo hsh hv hd hF1 hG1 hbV bs6 f1 f2 f3 f4 f5
      obtain ⟨⟨x0, x1, x2, x3, x4, x5, x6⟩, v0, v1, v2, v3, v4, v5, v6⟩ := hSd
      clear z0 z1 z2 z3 z4 z5 z6 hkat hcut s1 hb2 hx2 bb2 jn2 bs2 hx2s hk3 bb3 bs3 s23 hqq b4 bb4 hx4 E34 E24 ha4 s4 hy4 hx3 hx3s hb3 hin3 o3 o2 ha2 hin2 b1 hL heb hbl hlF hlG hpl
      go_cut [87] from 48 to 87 (fun v wx => v = .bool false ∧ Hid (S8 R w wr.heap.size ga gb D1 V.heap.size wr.heap.size qy dk dm da dn dt r pl A2 A3 A5 A6 c2 c3 c5 c6 eb dp wx))
      case first =>
        conv in (Op.load 4 _) => change id _
        go_region_held (fun V => SXY wr.heap.size qy dk dm da dn dt r pl A2 A3 A5 A6 c2 c3 c5 c6 V)
          (first | with_reducible assumption | exact ⟨⟨x0, x1, x2, x3, x4, x5, x6⟩, v0, v1, v2, v3, v4, v5, v6⟩)
          (first
            | (go_at_call 13; refine DO.out.mono ?_; rintro e7 w7 ⟨rfl, ht7⟩; have h7 := S7F.out _ ht7; have hS7 := h7.1.sxy; have HT7 := Lib.hid ht7; have H7 := Lib.hid h7; clear ht7 h7)
            | (go_at_call 14; refine (SH.out _ H7.out.1 H7.out.2.1).mono ?_; rintro e8 w8 ⟨rfl, ht8⟩; have h8 := S8F.out _ _ HT7.out H7.out.1 H7.out.2.2 ht8; have hS8 := h8.sxy; have hI8 := h8.isDead; have H8 := Lib.hid h8; clear ht8 h8)
            | (go_at_call 15; refine (S8.dead HD.out H8.out).mono ?_; rintro e9 w9 ⟨rfl, hb9⟩; have h9 := S8.below HD.out H8.out hb9; have hS9 := h9.sxy; have hI9 := h9.isDead; have H9 := Lib.hid h9; clear hb9 h9)
            | (go_at_call 16; refine (S8.eqB H9.out HPL.out.1).mono ?_; rintro e10 w10 ⟨rfl, hb10⟩; have h10 := S8.below HD.out H9.out hb10; have hS10 := h10.sxy; have H10 := Lib.hid h10; clear hb10 h10)
            | (go_at_call 17; refine (S8.eqI H10.out HPL.out.2).mono ?_; rintro e11 w11 ⟨rfl, hb11⟩; have h11 := S8.below HD.out H10.out hb11; have hS11 := h11.sxy; have H11 := Lib.hid h11; clear hb11 h11)
            | (go_at_call 18; refine (S8.same HD.out H11.out).mono ?_; rintro e12 w12 ⟨rfl, hb12⟩; have h12 := S8.below HD.out H11.out hb12; have hS12 := h12.sxy; have H12 := Lib.hid h12; clear hb12 h12))
        all_goals (try go_wp2_with fail)
        all_goals go_meet
        all_goals exact ⟨rfl, H12⟩
      case rest =>
        obtain ⟨rfl, H12⟩ := hcut
        have HL0 := Lib.hid (LS.mk HF5.out H12.out (fun a e => ⟨(HV.out.i2 a e).1, (HV.out.i2 a e).2.1⟩) (fun a e => ⟨(HV.out.i3 a e).1, (HV.out.i3 a e).2.1⟩) hel.out HPD.out)
        clear DO SH S7F S8F HV H12
        obtain ⟨qx, hqxx⟩ : ∃ z, wr.heap.size = z := ⟨_, rfl⟩
        rw [hqxx] at HL0
        rw [hqxx]
        clear hqxx
        go_wp2_with fail
        go_loopw [8] (fun iv wx => ∃ j : Nat, j ≤ r ∧ iv = .int .i64 j ∧ Hid (LS R w ga gb D1 qx dk dm da dn dt r pl A2 A3 c2 c3 wx)) (fun iv _ => r - (intOf iv).toNat)
        case atStart => exact ⟨0, Nat.zero_le _, rfl, HL0⟩
        case round =>
          obtain ⟨j, hj, rfl, HL⟩ := hrel
          obtain ⟨y0, y00⟩ := HL.out.boxes
          by_cases hjr : j < r
          · obtain ⟨q2, x, rfl, y1, y2, hqx, hset⟩ := LS.byte HD.out HL.out hjr
            have g1 : decide ((j : Int) < (r : Int)) = true := decide_eq_true (by omega)
            have hj0 : (0 : Int) ≤ (j : Int) := by omega
            have hjI : (j : Int) < (r : Int) := by omega
            have hwx : IntKind.u8.wrap ((x.toNat : Int) + 1) = ((x + 1 : UInt8).toNat : Int) := u8_succ x
            have HSET := Lib.hid (hset (x + 1))
            generalize ((x + 1 : UInt8).toNat : Int) = z at hwx HSET
            clear hset
            go_wp2_with fail
            go_region_with (fail)
            all_goals
              go_wp2_with fail
              go_roundw
              case rel => exact ⟨j + 1, by omega, by go_num, Lib.hid (LS.drewN HD.out HSET.out 1)⟩
              case measure => simp [intOf]; omega
          · have hjj : j = r := by omega
            subst hjj
            have g1 : decide ((j : Int) < (j : Int)) = false := decide_eq_false (by omega)
            clear HL0
            go_wp2_with fail
            go_loopw [9] (fun iv wx => ∃ t : Nat, t ≤ pl ∧ iv = .int .i64 t ∧ Hid (LS R w ga gb D1 qx dk dm da dn dt j pl A2 A3 c2 c3 wx)) (fun iv _ => pl - (intOf iv).toNat)
            case atStart => exact ⟨0, Nat.zero_le _, rfl, HL⟩
            case round =>
              obtain ⟨t, ht, rfl, HL⟩ := hrel
              obtain ⟨y0, y00⟩ := HL.out.boxes
              by_cases htp : t < pl
              · obtain ⟨q3, x, rfl, y1, y2, hqx, hset⟩ := LS.num HD.out HL.out htp
                have g2 : decide ((t : Int) < (pl : Int)) = true := decide_eq_true (by omega)
                have ht0 : (0 : Int) ≤ (t : Int) := by omega
                have htI : (t : Int) < (pl : Int) := by omega
                have HSET := Lib.hid (hset (IntKind.i64.wrap (x + 1)))
                generalize hwz : IntKind.i64.wrap (x + 1) = z at HSET
                clear hset
                go_wp2_with fail
                go_region_with (fail)
                all_goals
                  go_wp2_with fail
                  go_roundw
                  case rel => exact ⟨t + 1, by omega, by go_num, Lib.hid (LS.drewN HD.out HSET.out 1)⟩
                  case measure => simp [intOf]; omega
              · have htt : t = pl := by omega
                subst htt
                have g2 : decide ((t : Int) < (t : Int)) = false := decide_eq_false (by omega)
                have h2 := HL.out.two
                go_wp2_with fail
                go_roundw
                case rel => exact ⟨k + 1, D1, by omega, by go_num, h2⟩
                case measure => simp [intOf]; omega
    · have h5 : Below w.heap.size w wr := f5
      by_cases hkl : k < ln
      · have g1 : decide ((k : Int) < (ln : Int)) = true := decide_eq_true (by omega)
        have g2 : decide ((k : Int) < 100) = false := decide_eq_false (by omega)
        clear f1 f2 f3 f4 f5
        go_wp2_with (first
          | (go_at_call 19; refine (HW.out _).mono ?_; rintro e9 w9 ⟨rfl, hb9⟩))
        go_ret
        exact ⟨rfl, h5.trans (hb9.mono h5.size)⟩
      · have g1 : decide ((k : Int) < (ln : Int)) = false := decide_eq_false (by omega)
        clear f1 f2 f3 f4 f5
        go_wp2_with (first
          | (go_at_call 19; refine (HW.out _).mono ?_; rintro e9 w9 ⟨rfl, hb9⟩))
        go_ret
        exact ⟨rfl, h5.trans (hb9.mono h5.size)⟩
end Go.Proofs.Ytmjoaeljfhgojaa
