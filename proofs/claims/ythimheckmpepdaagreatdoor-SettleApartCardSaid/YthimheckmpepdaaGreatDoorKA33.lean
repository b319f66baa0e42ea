/-
  Layer 14, the code: what is asked of stamps and transactions; a table that is none.
  Layer 14, the code: a key's intent; what is asked of a record (written by wip/genset.py).
  Layer 14, plain: what was settled is settled.
  Layer 14, the code: Resolve (written by wip/genset.py).
  Layer 14, the code: Resolve, a version (written by wip/genset.py).
  Layer 14, the code: Resolve, committed else (written by wip/genset.py).
  Layer 14, the code: Resolve, aborted, staged (written by wip/genset.py).
-/
import Derived.Test.YthimheckmpepdaaGreatDoorKA32
import Derived.Test.YthimheckmpepdaaGreatDoorKA28
import Derived.Test.YthimheckmpepdaaGreatDoorKA11
import Derived.Test.YthimheckmpepdaaGreatDoorKA25
import Derived.Test.YthimheckmpepdaaGreatDoorKA29
import Derived.Test.YthimheckmpepdaaGreatDoorKA04
set_option linter.unusedVariables false
set_option linter.unusedSimpArgs false
set_option maxRecDepth 100000
namespace Go.Proofs.YthimheckmpepdaaGreatDoor
open Go.RowKit

set_option maxHeartbeats 4000000 in
theorem seIdxP {S : Type} (ok : S → Int × Int → Bool) (nx : S → Int × Int → S) (J : S → World → Prop) (A : Option Addr) (n c : Nat) (l : List (Int × Int)) (hn : n ≤ 9223372036854775807)
    (hat : ∀ s W, J s W → Stamps W A n l)
    (step : ∀ s (c : Int × Int) W, J s W → Calls Tryz.prog 199 #[(sv c.1 c.2)] W fun e w' => e = .returned (.bool (!(ok s c))) ∧ J (nx s c) w')
    (s : S) (w : World) (hJ : J s w) :
    Calls Tryz.prog 207 #[.slice A n c, .func (.func 199) #[] #[]] w fun e w' => ∃ k : Int, e = .returned (.int .i64 k) ∧ decide (0 ≤ k) = !(scan ok nx s l) ∧ ∃ s', J s' w' := by
  have ST := Lib.hid step
  have HF := Lib.hid hat
  clear step hat
  go_enter Tryz.func207, Tryz.ntmps207
  go_wp2
  go_loopw [8] (fun i wr => ∃ (k : Nat) (s' : S), k ≤ n ∧ i = .int .i64 k ∧ Hid (scan ok nx s' (l.drop k) = scan ok nx s l) ∧ J s' wr) (fun i _ => n - (intOf i).toNat)
  case atStart => exact ⟨0, s, Nat.zero_le _, rfl, rfl, hJ⟩
  case round =>
    obtain ⟨k, s', hk, rfl, hrun, hRep⟩ := hrel
    have hfa := HF.out s' wr hRep
    have hlen := hfa.1
    by_cases hlt : k < n
    · have hkl : k < l.length := by omega
      obtain ⟨b, o, rfl, hc⟩ := hfa.2 (by omega)
      obtain ⟨h1, h2⟩ := hc k hkl
      have hs := ST.out s' (l[k]'hkl) wr hRep
      have hd : l.drop k = (l[k]'hkl) :: l.drop (k + 1) := List.drop_eq_getElem_cons hkl
      have hrun' := hrun.out
      rw [hd] at hrun'
      generalize (l[k]'hkl) = x at *
      clear hc hfa HF ST hd hrun
      cases hok : ok s' x with
      | true =>
        have HR := Lib.hid (show scan ok nx (nx s' x) (l.drop (k + 1)) = scan ok nx s l by rw [← hrun', scan, hok, Bool.true_and])
        rw [hok] at hs
        clear hrun' hok
        go_wp2_with fail
        refine hs.mono ?_
        rintro e w2 ⟨rfl, h2⟩
        go_wp2
        go_roundw
        case rel => exact ⟨k + 1, _, by omega, by go_num, HR, h2⟩
        case measure => simp [intOf]; omega
      | false =>
        have HR := Lib.hid (show scan ok nx s l = false by rw [← hrun', scan, hok, Bool.false_and])
        rw [hok] at hs
        clear hrun' hok
        go_wp2_with fail
        refine hs.mono ?_
        rintro e w2 ⟨rfl, h2⟩
        go_wp2
        go_ret
        exact ⟨k, rfl, by rw [HR.out]; exact decide_eq_true (by omega), _, h2⟩
    · have HR := Lib.hid (show scan ok nx s l = true by rw [← hrun.out, List.drop_of_length_le (by omega), scan])
      clear hrun HF ST hfa
      go_wp2
      go_ret
      exact ⟨-1, rfl, by rw [HR.out]; rfl, _, hRep⟩
theorem seConP {S : Type} (ok : S → Int × Int → Bool) (nx : S → Int × Int → S) (J : S → World → Prop) (A : Option Addr) (n c : Nat) (l : List (Int × Int)) (hn : n ≤ 9223372036854775807)
    (hat : ∀ s W, J s W → Stamps W A n l)
    (step : ∀ s (c : Int × Int) W, J s W → Calls Tryz.prog 199 #[(sv c.1 c.2)] W fun e w' => e = .returned (.bool (!(ok s c))) ∧ J (nx s c) w')
    (s : S) (w : World) (hJ : J s w) :
    Calls Tryz.prog 168 #[.slice A n c, .func (.func 199) #[] #[]] w fun e w' => e = .returned (.bool (!(scan ok nx s l))) ∧ ∃ s', J s' w' := by
  have HI := Lib.hid (seIdxP ok nx J A n c l hn hat step s w hJ)
  clear step hat hJ
  go_enter Tryz.func168, Tryz.ntmps168
  go_wp2_with fail
  refine HI.out.mono ?_
  rintro e w1 ⟨k, rfl, hk, h1⟩
  have HK := Lib.hid hk
  clear hk
  go_wp2
  go_ret
  exact ⟨congrArg (fun b => Ending.returned (Value.bool b)) HK.out, h1⟩

theorem seOne (c : Int × Int) (W : World) :
    Calls Tryz.prog 199 #[sv c.1 c.2] W fun e w' => e = .returned (.bool (!(mayP c))) ∧ Below W.heap.size W w' := by
  obtain ⟨x, y⟩ := c
  have h3 := Blk.new W 26 #[.int .i64 x, .int .i64 y]
  have HO := Lib.hid (check_c x y (W.alloc (.cells #[.int .i64 x, .int .i64 y] 26)))
  have c0 := h3.cell 0
  have c1 := h3.cell 1
  simp at c0 c1
  clear h3
  have hck : (ck x y != 0) = !mayP (x, y) := by
    unfold ck mayP
    cases may x y <;> rfl
  obtain ⟨kk, hkk⟩ : ∃ kk, ck x y = kk := ⟨_, rfl⟩
  rw [hkk] at HO hck
  rw [← hck]
  clear hkk hck
  go_enter Tryz.func199, Tryz.ntmps199
  go_wp2_with (go_at_call 170; refine HO.out.mono ?_; rintro e w1 ⟨rfl, q1⟩)
  have q3 := (nbl W (.cells #[.int .i64 x, .int .i64 y] 26)).trans (q1.mono (by simp))
  go_ret
  exact ⟨rfl, q3⟩
theorem seStamps (A : Option Addr) (n c : Nat) (l : List (Int × Int)) (b : Bool) (hb : l.all mayP = b) (w : World) (hn : n ≤ 9223372036854775807) (hx : Stamps w A n l) :
    Calls Tryz.prog 150 #[.slice A n c] w fun e w' => e = .returned (.bool b) ∧ Below w.heap.size w w' := by
  have HC := Lib.hid (seConP (fun (_ : Unit) p => mayP p) (fun u _ => u) (fun _ W => Below w.heap.size w W) A n c l hn (fun s W h => hx.below' h)
    (fun s x W h => (seOne x W).mono fun e w' ⟨h1, h3⟩ => ⟨h1, h.trans (h3.mono h.size)⟩) () w (Below.refl _ _))
  rw [scan_all, hb] at HC
  clear hb hx
  go_enter Tryz.func150, Tryz.ntmps150
  go_wp2_with fail
  refine HC.out.mono ?_
  rintro e w1 ⟨rfl, s', h1⟩
  go_wp2
  go_ret
  exact ⟨by simp, h1⟩
theorem se_two (w : World) (a b c d : Int) : Stamps (w.alloc (.cells #[.int .i64 a, .int .i64 b, .int .i64 c, .int .i64 d] 26)) (some ⟨w.heap.size, 0, none⟩) 2 [(a, b), (c, d)] := by
  have h := Blk.new w 26 #[.int .i64 a, .int .i64 b, .int .i64 c, .int .i64 d]
  refine ⟨rfl, fun _ => ⟨w.heap.size, 0, rfl, fun i hi => ?_⟩⟩
  have : i = 0 ∨ i = 1 := by simp at hi; omega
  rcases this with rfl | rfl
  · exact ⟨h.cell 0, h.cell 1⟩
  · exact ⟨h.cell 2, h.cell 3⟩
set_option maxHeartbeats 2000000 in
theorem seMay (x : Tx) (w : World) : Calls Tryz.prog 149 #[txv x] w fun e w' => e = .returned (.bool (mayX x)) ∧ Below w.heap.size w w' := by
  have HA := Lib.hid (seStamps (some ⟨w.heap.size + 1, 0, none⟩) 2 2 [(x.rw, x.rl), (x.lw, x.ll)] (may x.rw x.rl && may x.lw x.ll) (by simp [mayP]) ((w.alloc (.cells (txc x) 28)).alloc (.cells #[.int .i64 x.rw, .int .i64 x.rl, .int .i64 x.lw, .int .i64 x.ll] 26)) (by decide)
    (by have := se_two (w.alloc (.cells (txc x) 28)) x.rw x.rl x.lw x.ll; simpa using this))
  have HG := Lib.hid (bsa (nbl w (.cells (txc x) 28)) (.cells #[.int .i64 x.rw, .int .i64 x.rl, .int .i64 x.lw, .int .i64 x.ll] 26))
  have HG1 := Lib.hid (nbl w (.cells (txc x) 28))
  unfold mayX idOk
  obtain ⟨bb, hbb⟩ : ∃ bb, (may x.rw x.rl && may x.lw x.ll) = bb := ⟨_, rfl⟩
  rw [hbb] at HA ⊢
  clear hbb
  obtain ⟨x0, x1, x2, x3, x4, x5, x6, x7, x8, x9, x10, x11⟩ := x
  simp only at HA HG HG1 ⊢
  by_cases c1 : 1 ≤ x0
  · by_cases c2 : x0 ≤ 9007199254740991
    · by_cases c3 : 0 ≤ x1
      · by_cases c4 : x1 ≤ 9007199254740991
        · rw [decide_eq_true (show 1 ≤ x0 ∧ x0 ≤ 9007199254740991 ∧ 0 ≤ x1 ∧ x1 ≤ 9007199254740991 from ⟨c1, c2, c3, c4⟩)]
          go_enter Tryz.func149, Tryz.ntmps149
          go_wp2_with (go_at_call 150; refine HA.out.mono ?_; rintro e w1 ⟨rfl, hb1⟩)
          go_ret
          exact ⟨by simp, bst HG.out hb1⟩
        · rw [decide_eq_false (show ¬ (1 ≤ x0 ∧ x0 ≤ 9007199254740991 ∧ 0 ≤ x1 ∧ x1 ≤ 9007199254740991) from fun h => c4 h.2.2.2)]
          go_enter Tryz.func149, Tryz.ntmps149
          go_wp2
          go_ret
          exact ⟨by simp, HG1.out⟩
      · rw [decide_eq_false (show ¬ (1 ≤ x0 ∧ x0 ≤ 9007199254740991 ∧ 0 ≤ x1 ∧ x1 ≤ 9007199254740991) from fun h => c3 h.2.2.1)]
        go_enter Tryz.func149, Tryz.ntmps149
        go_wp2
        go_ret
        exact ⟨by simp, HG1.out⟩
    · rw [decide_eq_false (show ¬ (1 ≤ x0 ∧ x0 ≤ 9007199254740991 ∧ 0 ≤ x1 ∧ x1 ≤ 9007199254740991) from fun h => c2 h.2.1)]
      go_enter Tryz.func149, Tryz.ntmps149
      go_wp2
      go_ret
      exact ⟨by simp, HG1.out⟩
  · rw [decide_eq_false (show ¬ (1 ≤ x0 ∧ x0 ≤ 9007199254740991 ∧ 0 ≤ x1 ∧ x1 ≤ 9007199254740991) from fun h => c1 h.1)]
    go_enter Tryz.func149, Tryz.ntmps149
    go_wp2
    go_ret
    exact ⟨by simp, HG1.out⟩
theorem seIsNone {w V : World} {T : List As} {p N : Nat} {r : List Rw} (h : Has w (tbA p r :: T) V) (hr : ROk N r) (hN : N ≤ 999999000) :
    Calls Tryz.prog 131 #[pt p] V fun e w' => e = .returned (.bool false) ∧ Has w (tbA p r :: T) w' := by
  have HA := Lib.hid (show Calls Tryz.prog 39 #[pt p, .slice none 0 0] V fun e w' => e = .returned (.int .i64 0) ∧ Has w (tbA p r :: T) w' from
    (Has.tbApply h hr hN none 0 0 [] ⟨rfl, fun h => absurd h (by omega)⟩ (by omega) (fun o ho => nomatch ho)).mono fun e w' hq => ⟨hq.1, hq.2.1⟩)
  clear h hr hN
  go_enter Tryz.func131, Tryz.ntmps131
  go_wp2_with (go_at_call 39; refine HA.out.mono ?_; rintro e w1 ⟨rfl, h2⟩)
  go_ret
  exact ⟨rfl, h2⟩
end Go.Proofs.YthimheckmpepdaaGreatDoor
set_option linter.unusedVariables false
set_option linter.unusedSimpArgs false
set_option maxRecDepth 100000
namespace Go.Proofs.YthimheckmpepdaaGreatDoor
open Go.RowKit

set_option maxHeartbeats 2000000 in
theorem seIntentOf {V : World} {p : Nat} {r : List Rw} {F : Nat → Prop} (h : (tbA p r).p V F) (hz : Szs r) (hM : MaxL V) (key : ByteArray) (hk : isK key = true) (id : Int) :
    Calls Tryz.prog 65 #[pt p, .string key, .int .i64 id] V fun e w' => AnsT (ownI (pint r key) id) e w' ∧ Below V.heap.size V w' := by
  have hK : ∀ W, Below V.heap.size V W → Calls Tryz.prog 15 #[.string key] W fun e w' => e = .returned (.tuple #[.string (bs (ikey (sb key))), .int .i64 0]) ∧ Below W.heap.size W w' := fun W hb => seIKey key hk W (hM.below hb)
  have hG := fun W (hb : Below V.heap.size V W) => tb_get (tbA_below h hb) (bs (ikey (sb key)))
  have hT := fun W => takeI_c (rval r (bs (ikey (sb key)))) W (by have := rval_le hz (bs (ikey (sb key))); omega)
  unfold pint
  generalize rval r (bs (ikey (sb key))) = t at *
  generalize rhas r (bs (ikey (sb key))) = hh at *
  generalize bs (ikey (sb key)) = kk at *
  have HK := Lib.hid hK
  have HG := Lib.hid hG
  have k0 := Blk.new V 38 (itc zI (.slice none 0 0))
  have g0 := nbl V (.cells (itc zI (.slice none 0 0)) 38)
  clear hK hG h hM hk hz
  cases ho : tkI (sb t) with
  | none =>
    simp only [ho, AnsI] at hT
    have HT := Lib.hid hT
    unfold ownI
    simp only
    clear ho hT
    go_enter Tryz.func65, Tryz.ntmps65
    go_wp2_with (first
      | (go_at_call 15; refine (HK.out _ g0).mono ?_; rintro e w1 ⟨rfl, hb1⟩; have g1 := bst g0 hb1; have k1 := k0.below hb1 k0.lt)
      | (go_at_call 16; refine (HG.out _ g1).mono ?_; rintro e w2 ⟨rfl, hb2⟩; have g2 := bst g1 hb2; have k2 := k1.below hb2 k1.lt)
      | (go_at_call 17; refine (HT.out _).mono ?_; rintro e w3 ⟨rfl, hb3⟩
         have k3 := (k2.below hb3 k2.lt).below (nbl w3 (.cells (itc zI (.slice none 0 0)) 38)) (k2.below hb3 k2.lt).lt
         have g3 := bsa (bst g2 hb3) (.cells (itc zI (.slice none 0 0)) 38)
         have p0 := k3.cell 0
         have f0 := k3.frozen 0
         have p1 := k3.cell 1
         have f1 := k3.frozen 1
         have p2 := k3.cell 2
         have f2 := k3.frozen 2
         have p3 := k3.cell 3
         have f3 := k3.frozen 3
         have p4 := k3.cell 4
         have f4 := k3.frozen 4
         have p5 := k3.cell 5
         have f5 := k3.frozen 5
         have p6 := k3.cell 6
         have f6 := k3.frozen 6
         have p7 := k3.cell 7
         have f7 := k3.frozen 7
         have p8 := k3.cell 8
         have f8 := k3.frozen 8
         simp at p0 p1 p2 p3 p4 p5 p6 p7 p8
         have K3 := Lib.hid k3
         have G3 := Lib.hid g3
         clear hb1 hb2 hb3 k3 g3))
    exact ret_it rfl rfl (Blk.all9 (v0 := .int .i64 zI.id) (v1 := .int .i64 zI.ep) (v2 := .int .i64 zI.pr) (v3 := .string zI.an) (v4 := .int .i64 zI.sw) (v5 := .int .i64 zI.sl) (v6 := .int .i64 zI.bw) (v7 := .int .i64 zI.bl) (v8 := .slice none 0 0) (by exact K3.out)) rfl rfl ⟨rfl, (((((((((G3.out.setCell (by exact Nat.le_refl _) _).setCell (by exact Nat.le_refl _) _).setCell (by exact Nat.le_refl _) _).setCell (by exact Nat.le_refl _) _).setCell (by exact Nat.le_refl _) _).setCell (by exact Nat.le_refl _) _).setCell (by exact Nat.le_refl _) _).setCell (by exact Nat.le_refl _) _).setCell (by exact Nat.le_refl _) _)⟩
  | some y =>
    simp only [ho, AnsI] at hT
    have HT := Lib.hid hT
    unfold ownI
    simp only
    clear ho hT
    by_cases hid : y.id = id
    · rw [if_pos hid]
      subst hid
      go_enter Tryz.func65, Tryz.ntmps65
      go_wp2_with (first
        | (go_at_call 15; refine (HK.out _ g0).mono ?_; rintro e w1 ⟨rfl, hb1⟩; have g1 := bst g0 hb1; have k1 := k0.below hb1 k0.lt)
        | (go_at_call 16; refine (HG.out _ g1).mono ?_; rintro e w2 ⟨rfl, hb2⟩; have g2 := bst g1 hb2; have k2 := k1.below hb2 k1.lt)
        | (go_at_call 17; refine (HT.out _).mono ?_; rintro e w3 ⟨⟨A, n, c, rfl, hat, hnc, hcm, hap⟩, hb3⟩
           have hne := hat.apart (k2.below hb3 k2.lt) (it_no _ _ (fun d e => nomatch e))
           have HAT := Lib.hid (hat.below (nbl w3 (.cells (itc y (.slice A n c)) 38)))
           have HNE := Lib.hid hne
           clear hat hap hne
           have k3 := (k2.below hb3 k2.lt).below (nbl w3 (.cells (itc y (.slice A n c)) 38)) (k2.below hb3 k2.lt).lt
           have g3 := bsa (bst g2 hb3) (.cells (itc y (.slice A n c)) 38)
           have p0 := k3.cell 0
           have f0 := k3.frozen 0
           have p1 := k3.cell 1
           have f1 := k3.frozen 1
           have p2 := k3.cell 2
           have f2 := k3.frozen 2
           have p3 := k3.cell 3
           have f3 := k3.frozen 3
           have p4 := k3.cell 4
           have f4 := k3.frozen 4
           have p5 := k3.cell 5
           have f5 := k3.frozen 5
           have p6 := k3.cell 6
           have f6 := k3.frozen 6
           have p7 := k3.cell 7
           have f7 := k3.frozen 7
           have p8 := k3.cell 8
           have f8 := k3.frozen 8
           simp at p0 p1 p2 p3 p4 p5 p6 p7 p8
           have K3 := Lib.hid k3
           have G3 := Lib.hid g3
           clear hb1 hb2 hb3 k3 g3))
      have HA9 := Lib.hid (((((((((HAT.out.put (g := V.heap.size) (i := 0) (u := .int .i64 y.id) HNE.out).put (g := V.heap.size) (i := 1) (u := .int .i64 y.ep) HNE.out).put (g := V.heap.size) (i := 2) (u := .int .i64 y.pr) HNE.out).put (g := V.heap.size) (i := 3) (u := .string y.an) HNE.out).put (g := V.heap.size) (i := 4) (u := .int .i64 y.sw) HNE.out).put (g := V.heap.size) (i := 5) (u := .int .i64 y.sl) HNE.out).put (g := V.heap.size) (i := 6) (u := .int .i64 y.bw) HNE.out).put (g := V.heap.size) (i := 7) (u := .int .i64 y.bl) HNE.out).put (g := V.heap.size) (i := 8) (u := .slice A n c) HNE.out)
      exact ret_it rfl rfl (Blk.all9 (v0 := .int .i64 y.id) (v1 := .int .i64 y.ep) (v2 := .int .i64 y.pr) (v3 := .string y.an) (v4 := .int .i64 y.sw) (v5 := .int .i64 y.sl) (v6 := .int .i64 y.bw) (v7 := .int .i64 y.bl) (v8 := .slice A n c) (by exact K3.out)) rfl rfl ⟨⟨A, n, c, rfl, HA9.out, by omega⟩, (((((((((G3.out.setCell (by exact Nat.le_refl _) _).setCell (by exact Nat.le_refl _) _).setCell (by exact Nat.le_refl _) _).setCell (by exact Nat.le_refl _) _).setCell (by exact Nat.le_refl _) _).setCell (by exact Nat.le_refl _) _).setCell (by exact Nat.le_refl _) _).setCell (by exact Nat.le_refl _) _).setCell (by exact Nat.le_refl _) _)⟩
    · rw [if_neg hid]
      have hid2 : (y.id == id) = false := by simpa using hid
      clear hid
      go_enter Tryz.func65, Tryz.ntmps65
      go_wp2_with (first
        | (go_at_call 15; refine (HK.out _ g0).mono ?_; rintro e w1 ⟨rfl, hb1⟩; have g1 := bst g0 hb1; have k1 := k0.below hb1 k0.lt)
        | (go_at_call 16; refine (HG.out _ g1).mono ?_; rintro e w2 ⟨rfl, hb2⟩; have g2 := bst g1 hb2; have k2 := k1.below hb2 k1.lt)
        | (go_at_call 17; refine (HT.out _).mono ?_; rintro e w3 ⟨⟨A, n, c, rfl, hat, hnc, hcm, hap⟩, hb3⟩
           clear hat hap
           have k3 := (k2.below hb3 k2.lt).below (nbl w3 (.cells (itc y (.slice A n c)) 38)) (k2.below hb3 k2.lt).lt
           have g3 := bsa (bst g2 hb3) (.cells (itc y (.slice A n c)) 38)
           have p0 := k3.cell 0
           have f0 := k3.frozen 0
           have p1 := k3.cell 1
           have f1 := k3.frozen 1
           have p2 := k3.cell 2
           have f2 := k3.frozen 2
           have p3 := k3.cell 3
           have f3 := k3.frozen 3
           have p4 := k3.cell 4
           have f4 := k3.frozen 4
           have p5 := k3.cell 5
           have f5 := k3.frozen 5
           have p6 := k3.cell 6
           have f6 := k3.frozen 6
           have p7 := k3.cell 7
           have f7 := k3.frozen 7
           have p8 := k3.cell 8
           have f8 := k3.frozen 8
           simp at p0 p1 p2 p3 p4 p5 p6 p7 p8
           have K3 := Lib.hid k3
           have G3 := Lib.hid g3
           clear hb1 hb2 hb3 k3 g3))
      exact ret_it rfl rfl (Blk.all9 (v0 := .int .i64 zI.id) (v1 := .int .i64 zI.ep) (v2 := .int .i64 zI.pr) (v3 := .string zI.an) (v4 := .int .i64 zI.sw) (v5 := .int .i64 zI.sl) (v6 := .int .i64 zI.bw) (v7 := .int .i64 zI.bl) (v8 := .slice none 0 0) (by exact K3.out)) rfl rfl ⟨rfl, (((((((((G3.out.setCell (by exact Nat.le_refl _) _).setCell (by exact Nat.le_refl _) _).setCell (by exact Nat.le_refl _) _).setCell (by exact Nat.le_refl _) _).setCell (by exact Nat.le_refl _) _).setCell (by exact Nat.le_refl _) _).setCell (by exact Nat.le_refl _) _).setCell (by exact Nat.le_refl _) _).setCell (by exact Nat.le_refl _) _)⟩

theorem se_markK (key : ByteArray) : ∃ s n, markK [105] key [] = .returned (.tuple #[.string s, .int .i64 n]) ∧ (isK key = true → n = 0) ∧ (isK key = false → n = 2) := by
  unfold markK
  cases isK key
  · exact ⟨_, _, rfl, fun h => by (cases h), fun _ => rfl⟩
  · exact ⟨_, _, rfl, fun _ => rfl, fun h => by (cases h)⟩
set_option maxHeartbeats 4000000 in
theorem seCheckRec {w V : World} {T : List As} {p N : Nat} {r : List Rw} (h : Has w (tbA p r :: T) V) (hr : ROk N r) (hN : N ≤ 999999000) (hM : MaxL w) (key : ByteArray) (x : Rc) (A : Option Addr) (n c : Nat) (hx : ∀ W, Has w (tbA p r :: T) W → WtAt W A n x.l) (hn : n ≤ 9223372036854775807) :
    Calls Tryz.prog 64 #[pt p, .string key, rcv x (.slice A n c)] V fun e w' => e = .returned (.int .i64 (chkS key x)) ∧ Has w (tbA p r :: T) w' := by
  have H1 := Lib.hid (h.newBlk 64 (rcc x (.slice A n c))).swap
  have HI := Lib.hid (fun W hW => seIsNone (w := w) (p := p) (V := W) (T := blkA V.heap.size 64 (rcc x (.slice A n c)) :: T) hW hr hN)
  have HK := Lib.hid (fun W hW => intentKey_c key W (hM.below hW))
  have HX := Lib.hid hx
  have HC := Lib.hid (fun W hW => checkR x A n c W hW hn)
  obtain ⟨s, kk, hs, h1, h2⟩ := se_markK key
  rw [hs] at HK
  clear h hr hM hx hs
  unfold chkS
  cases hk : isK key with
  | false =>
    obtain rfl := h2 hk
    rw [if_neg (fun q => by cases q.1)]
    clear h1 h2 hk
    go_enter Tryz.func64, Tryz.ntmps64
    go_wp2_with (first
      | (go_at_call 131; refine (HI.out _ H1.out).mono ?_; rintro e w1 ⟨rfl, h3⟩; have H3 := Lib.hid h3; clear h3)
      | (go_at_call 15; refine (HK.out _ H3.out.bel).mono ?_; rintro e w2 ⟨rfl, hb2⟩; have H4 := Lib.hid (H3.out.keep hb2); clear hb2))
    go_ret
    exact ⟨rfl, H4.out.swap.tail⟩
  | true =>
    obtain rfl := h1 hk
    have HC2 := Lib.hid (show (if mayR x = true then (0 : Int) else 2) = if true = true ∧ mayR x = true then 0 else 2 by cases mayR x <;> rfl)
    rw [← HC2.out]
    obtain ⟨kc, hkc⟩ : ∃ kc, (if mayR x = true then (0 : Int) else 2) = kc := ⟨_, rfl⟩
    rw [hkc] at HC ⊢
    clear h1 h2 hk HC2 hkc
    go_enter Tryz.func64, Tryz.ntmps64
    go_wp2_with (first
      | (go_at_call 131; refine (HI.out _ H1.out).mono ?_; rintro e w1 ⟨rfl, h3⟩; have H3 := Lib.hid h3; clear h3)
      | (go_at_call 15; refine (HK.out _ H3.out.bel).mono ?_; rintro e w2 ⟨rfl, hb2⟩
         have h4 := H3.out.keep hb2
         have b4 := h4.blkAt (g := V.heap.size) (t := 64) (cs := rcc x (.slice A n c)) (by simp)
         have q0 := b4.cell 0
         have q1 := b4.cell 1
         have q2 := b4.cell 2
         have q3 := b4.cell 3
         have q4 := b4.cell 4
         have q5 := b4.cell 5
         have q6 := b4.cell 6
         have q7 := b4.cell 7
         have q8 := b4.cell 8
         have q9 := b4.cell 9
         simp at q0 q1 q2 q3 q4 q5 q6 q7 q8 q9
         have H4 := Lib.hid h4
         clear hb2 h4 b4)
      | (go_at_call 132; refine (HC.out _ (HX.out _ H4.out.swap.tail)).mono ?_; rintro e w3 ⟨rfl, hb3⟩; have H5 := Lib.hid (H4.out.keep hb3); clear hb3))
    go_ret
    exact ⟨rfl, H5.out.swap.tail⟩
end Go.Proofs.YthimheckmpepdaaGreatDoor
set_option linter.unusedVariables false
set_option linter.unusedSimpArgs false
set_option maxRecDepth 100000
namespace Go.Proofs.YthimheckmpepdaaGreatDoor
open Go.RowKit

theorem chkS_ok {key : ByteArray} {x : Rc} (h : chkS key x = 0) : isK key = true ∧ mayR x = true := by
  unfold chkS at h
  split at h
  · assumption
  · cases h
theorem res_cases {r : List Rw} {key : ByteArray} {x : Rc} {ops : List Op_} (h : resC r key x = (ops, 0)) : chkS key x = 0 ∧ ops = resO (pint r key) key x := by
  unfold resC at h
  split at h
  · rename_i hc
    injection h with h1 h2
    exact ⟨hc, h1.symm⟩
  · injection h with h1 h2
    cases h2
theorem okey_sz {key : ByteArray} (h : isK key = true) : (okey (sb key)).length ≤ 66 := okey_len key (isK_iff.1 h).2
theorem goneO_sz {key : ByteArray} (h : isK key = true) : (goneO key).key.size ≤ 140737488351232 ∧ (goneO key).value.size ≤ 140737488351232 := by
  have h1 := okey_sz h
  constructor
  · show (bs (ikey (sb key))).size ≤ _
    rw [bs_size]
    unfold ikey
    simp only [List.length_cons]
    omega
  · show (⟨#[]⟩ : ByteArray).size ≤ _
    decide
theorem verO_sz {key : ByteArray} (h : isK key = true) (a b : Int) {y : It} (hy : mayI y = true) : (verO key a b y).key.size ≤ 140737488351232 ∧ (verO key a b y).value.size ≤ 140737488351232 := by
  have h1 := okey_sz h
  have h2 := odown_le a b
  have h3 := txV_len (lastS y) (!lastD y) (last_isV hy)
  constructor
  · show (bs (vkey (sb key) a b)).size ≤ _
    rw [bs_size]
    unfold vkey
    simp only [List.length_cons, List.length_append]
    omega
  · show (bs (txV (lastS y) (!lastD y))).size ≤ _
    rw [bs_size]
    omega
theorem pushO_sz {key : ByteArray} (h : isK key = true) {a b : Int} {y : It} (hy : mayI (atI y a b) = true) : (pushO key y a b).key.size ≤ 140737488351232 ∧ (pushO key y a b).value.size ≤ 140737488351232 := by
  have h1 := okey_sz h
  have h3 := txI_len (atI y a b) hy
  constructor
  · show (bs (ikey (sb key))).size ≤ _
    rw [bs_size]
    unfold ikey
    simp only [List.length_cons]
    omega
  · show (bs (txI (atI y a b))).size ≤ _
    rw [bs_size]
    omega
theorem resC_sz (r : List Rw) (key : ByteArray) (x : Rc) : OSz (resC r key x).1 := by
  have nil_ : OSz ([] : List Op_) := fun o ho => nomatch ho
  unfold resC
  split
  · rename_i hc
    obtain ⟨hk, hr⟩ := chkS_ok hc
    have g1 : OSz [goneO key] := fun o ho => by rw [List.mem_singleton.1 ho]; exact goneO_sz hk
    unfold resO
    cases hw : ownI (pint r key) x.id with
    | none => exact nil_
    | some y =>
      obtain ⟨hp, _⟩ := ownI_some hw
      have hmy := pint_may hp
      show OSz (resP y key x)
      unfold resP pushP
      split
      · split
        · intro o ho
          simp only [List.mem_cons, List.not_mem_nil, or_false] at ho
          rcases ho with rfl | rfl
          · exact verO_sz hk _ _ hmy
          · exact goneO_sz hk
        · exact g1
      · split
        · exact g1
        · split
          · split
            · exact g1
            · split
              · exact fun o ho => by rw [List.mem_singleton.1 ho]; exact pushO_sz hk (atI_may hmy (mayR_parts hr).1)
              · exact nil_
          · exact nil_
  · exact nil_
end Go.Proofs.YthimheckmpepdaaGreatDoor
set_option linter.unusedVariables false
set_option linter.unusedSimpArgs false
set_option maxRecDepth 100000
namespace Go.Proofs.YthimheckmpepdaaGreatDoor
open Go.RowKit

/-- What Resolve answers. -/
def AnsRes (o : List Op_ × Int) (w : World) (L : List As) (e : Ending) (w' : World) : Prop := ∃ A n c, e = .returned (.tuple #[.slice A n c, .int .i64 o.2]) ∧ n = o.1.length ∧ Has w (opA (.slice A n c) o.1 :: L) w'
set_option maxHeartbeats 4000000 in
theorem seRes_no {w V : World} {T : List As} {p N : Nat} {r : List Rw} (h : Has w (tbA p r :: T) V) (hr : ROk N r) (hN : N ≤ 999999000) (hM : MaxL w) (key : ByteArray) (x : Rc) (A : Option Addr) (n c : Nat) (hx : ∀ W, Has w (tbA p r :: T) W → WtAt W A n x.l) (hn : n ≤ 9223372036854775807) (hc : chkS key x = 2) :
    Calls Tryz.prog 20 #[pt p, .string key, rcv x (.slice A n c)] V fun e w' => AnsRes ([], 2) w (tbA p r :: T) e w' := by
  have h1 := (h.newBlk 64 (rcc x (.slice A n c))).swap
  have H1 := Lib.hid h1
  have HCK := Lib.hid (seCheckRec h1 hr hN hM key x A n c (fun W hW => hx W (show Has w (blkA V.heap.size 64 (rcc x (.slice A n c)) :: tbA p r :: T) W from hW.swap).tail) hn)
  have b1 := h1.blkAt (g := V.heap.size) (t := 64) (cs := rcc x (.slice A n c)) (by simp)
  have q0 := b1.cell 0
  have q1 := b1.cell 1
  have q2 := b1.cell 2
  have q3 := b1.cell 3
  have q4 := b1.cell 4
  have q5 := b1.cell 5
  have q6 := b1.cell 6
  have q7 := b1.cell 7
  have q8 := b1.cell 8
  have q9 := b1.cell 9
  simp at q0 q1 q2 q3 q4 q5 q6 q7 q8 q9
  have HIN := Lib.hid (fun (hk : isK key = true) W (hW : Has w (tbA p r :: blkA V.heap.size 64 (rcc x (.slice A n c)) :: T) W) => let ⟨F, hA, _⟩ := hW.get; seIntentOf hA hr.szs (hM.below hW.bel) key hk x.id)
  clear h h1 hr hx b1
  rw [hc] at HCK
  clear hc HIN hM
  go_enter Tryz.func20, Tryz.ntmps20
  go_wp2_with (first
      | (go_at_call 64; refine HCK.out.mono ?_; rintro e w1 ⟨rfl, h2⟩
         have b2 := h2.blkAt (g := V.heap.size) (t := 64) (cs := rcc x (.slice A n c)) (by simp)
         have q0 := b2.cell 0
         have q1 := b2.cell 1
         have q2 := b2.cell 2
         have q3 := b2.cell 3
         have q4 := b2.cell 4
         have q5 := b2.cell 5
         have q6 := b2.cell 6
         have q7 := b2.cell 7
         have q8 := b2.cell 8
         have q9 := b2.cell 9
         simp at q0 q1 q2 q3 q4 q5 q6 q7 q8 q9
         have H2 := Lib.hid h2
         clear h2 b2)
      | fail)
  go_ret2
  exact ⟨_, _, _, rfl, rfl, (show Has w (blkA V.heap.size 64 (rcc x (.slice A n c)) :: tbA p r :: T) _ from H2.out.swap).tail.newOp (World.ownsRow_nil _ _ _ _) (Below.refl _ _)⟩
set_option maxHeartbeats 4000000 in
theorem seRes_none {w V : World} {T : List As} {p N : Nat} {r : List Rw} (h : Has w (tbA p r :: T) V) (hr : ROk N r) (hN : N ≤ 999999000) (hM : MaxL w) (key : ByteArray) (x : Rc) (A : Option Addr) (n c : Nat) (hx : ∀ W, Has w (tbA p r :: T) W → WtAt W A n x.l) (hn : n ≤ 9223372036854775807) (hc : chkS key x = 0) (ho : ownI (pint r key) x.id = none) :
    Calls Tryz.prog 20 #[pt p, .string key, rcv x (.slice A n c)] V fun e w' => AnsRes ([], 0) w (tbA p r :: T) e w' := by
  have h1 := (h.newBlk 64 (rcc x (.slice A n c))).swap
  have H1 := Lib.hid h1
  have HCK := Lib.hid (seCheckRec h1 hr hN hM key x A n c (fun W hW => hx W (show Has w (blkA V.heap.size 64 (rcc x (.slice A n c)) :: tbA p r :: T) W from hW.swap).tail) hn)
  have b1 := h1.blkAt (g := V.heap.size) (t := 64) (cs := rcc x (.slice A n c)) (by simp)
  have q0 := b1.cell 0
  have q1 := b1.cell 1
  have q2 := b1.cell 2
  have q3 := b1.cell 3
  have q4 := b1.cell 4
  have q5 := b1.cell 5
  have q6 := b1.cell 6
  have q7 := b1.cell 7
  have q8 := b1.cell 8
  have q9 := b1.cell 9
  simp at q0 q1 q2 q3 q4 q5 q6 q7 q8 q9
  have HIN := Lib.hid (fun (hk : isK key = true) W (hW : Has w (tbA p r :: blkA V.heap.size 64 (rcc x (.slice A n c)) :: T) W) => let ⟨F, hA, _⟩ := hW.get; seIntentOf hA hr.szs (hM.below hW.bel) key hk x.id)
  clear h h1 hr hx b1
  have HI2 := Lib.hid (HIN.out (chkS_ok hc).1)
  rw [hc] at HCK
  rw [ho] at HI2
  unfold AnsT at HI2
  simp only at HI2
  clear hc HIN hM ho
  go_enter Tryz.func20, Tryz.ntmps20
  go_wp2_with (first
      | (go_at_call 64; refine HCK.out.mono ?_; rintro e w1 ⟨rfl, h2⟩
         have b2 := h2.blkAt (g := V.heap.size) (t := 64) (cs := rcc x (.slice A n c)) (by simp)
         have q0 := b2.cell 0
         have q1 := b2.cell 1
         have q2 := b2.cell 2
         have q3 := b2.cell 3
         have q4 := b2.cell 4
         have q5 := b2.cell 5
         have q6 := b2.cell 6
         have q7 := b2.cell 7
         have q8 := b2.cell 8
         have q9 := b2.cell 9
         simp at q0 q1 q2 q3 q4 q5 q6 q7 q8 q9
         have H2 := Lib.hid h2
         clear h2 b2)
      | (go_at_call 65; refine (HI2.out _ H2.out).mono ?_; rintro e w2 ⟨rfl, hb2⟩
         have h3 := H2.out.keep (bsa hb2 (.cells (itc zI (.slice none 0 0)) 38))
         have b3 := h3.blkAt (g := V.heap.size) (t := 64) (cs := rcc x (.slice A n c)) (by simp)
         have q0 := b3.cell 0
         have q1 := b3.cell 1
         have q2 := b3.cell 2
         have q3 := b3.cell 3
         have q4 := b3.cell 4
         have q5 := b3.cell 5
         have q6 := b3.cell 6
         have q7 := b3.cell 7
         have q8 := b3.cell 8
         have q9 := b3.cell 9
         simp at q0 q1 q2 q3 q4 q5 q6 q7 q8 q9
         have H3 := Lib.hid h3
         clear hb2 h3 b3)
      | fail)
  go_ret2
  exact ⟨_, _, _, rfl, rfl, (show Has w (blkA V.heap.size 64 (rcc x (.slice A n c)) :: tbA p r :: T) _ from H3.out.swap).tail.newOp (World.ownsRow_nil _ _ _ _) (Below.refl _ _)⟩
end Go.Proofs.YthimheckmpepdaaGreatDoor
set_option linter.unusedVariables false
set_option linter.unusedSimpArgs false
set_option maxRecDepth 100000
namespace Go.Proofs.YthimheckmpepdaaGreatDoor
open Go.RowKit

set_option maxHeartbeats 4000000 in
theorem seRes_ver {w V : World} {T : List As} {p N : Nat} {r : List Rw} (h : Has w (tbA p r :: T) V) (hr : ROk N r) (hN : N ≤ 999999000) (hM : MaxL w) (key : ByteArray) (x : Rc) (A : Option Addr) (n c : Nat) (hx : ∀ W, Has w (tbA p r :: T) W → WtAt W A n x.l) (hn : n ≤ 9223372036854775807) (hc : chkS key x = 0) (y : It) (ho : ownI (pint r key) x.id = some y) (hs : x.st = 3) (hcn : counts y x = true) :
    Calls Tryz.prog 20 #[pt p, .string key, rcv x (.slice A n c)] V fun e w' => AnsRes ([verO key x.sw x.sl y, goneO key], 0) w (tbA p r :: T) e w' := by
  have h1 := (h.newBlk 64 (rcc x (.slice A n c))).swap
  have H1 := Lib.hid h1
  have HCK := Lib.hid (seCheckRec h1 hr hN hM key x A n c (fun W hW => hx W (show Has w (blkA V.heap.size 64 (rcc x (.slice A n c)) :: tbA p r :: T) W from hW.swap).tail) hn)
  have b1 := h1.blkAt (g := V.heap.size) (t := 64) (cs := rcc x (.slice A n c)) (by simp)
  have q0 := b1.cell 0
  have q1 := b1.cell 1
  have q2 := b1.cell 2
  have q3 := b1.cell 3
  have q4 := b1.cell 4
  have q5 := b1.cell 5
  have q6 := b1.cell 6
  have q7 := b1.cell 7
  have q8 := b1.cell 8
  have q9 := b1.cell 9
  simp at q0 q1 q2 q3 q4 q5 q6 q7 q8 q9
  have HIN := Lib.hid (fun (hk : isK key = true) W (hW : Has w (tbA p r :: blkA V.heap.size 64 (rcc x (.slice A n c)) :: T) W) => let ⟨F, hA, _⟩ := hW.get; seIntentOf hA hr.szs (hM.below hW.bel) key hk x.id)
  clear h h1 hr hx b1
  have HI2 := Lib.hid (HIN.out (chkS_ok hc).1)
  have hkk := (chkS_ok hc).1
  have hmr := (mayR_parts (chkS_ok hc).2).1
  have hmy := pint_may (ownI_some ho).1
  have HGO := Lib.hid (fun W hW => seGone key hkk W (hM.below hW))
  have HCO := Lib.hid (fun v W => seCounts y v x (.slice A n c) W)
  have HVE := Lib.hid (fun A2 n2 c2 W (hW : Below w.heap.size w W) hx2 hn2 => seVersion key hkk x.sw x.sl hmr y hmy A2 n2 c2 W (hM.below hW) hx2 hn2)
  have HPU := Lib.hid (fun A2 n2 c2 W (hW : Below w.heap.size w W) hx2 hn2 => sePushed key hkk y hmy A2 n2 c2 x hmr (.slice A n c) W (hM.below hW) hx2 hn2)
  rw [hc] at HCK
  rw [ho] at HI2
  unfold AnsT at HI2
  simp only at HI2
  clear hc HIN hM ho hkk hmr hmy
  unfold verO goneO opv at *
  simp only at HGO HVE
  generalize bs (ikey (sb key)) = kk at *
  generalize bs (vkey (sb key) x.sw x.sl) = kv at *
  generalize bs (txV (lastS y) (!lastD y)) = tv at *
  rw [hcn] at HCO
  have hs3 : (x.st == 3) = true := by simpa using hs
  clear hcn HPU hs
  go_enter Tryz.func20, Tryz.ntmps20
  go_wp2_with (first
      | (go_at_call 64; refine HCK.out.mono ?_; rintro e w1 ⟨rfl, h2⟩
         have b2 := h2.blkAt (g := V.heap.size) (t := 64) (cs := rcc x (.slice A n c)) (by simp)
         have q0 := b2.cell 0
         have q1 := b2.cell 1
         have q2 := b2.cell 2
         have q3 := b2.cell 3
         have q4 := b2.cell 4
         have q5 := b2.cell 5
         have q6 := b2.cell 6
         have q7 := b2.cell 7
         have q8 := b2.cell 8
         have q9 := b2.cell 9
         simp at q0 q1 q2 q3 q4 q5 q6 q7 q8 q9
         have H2 := Lib.hid h2
         clear h2 b2)
      | (go_at_call 65; refine (HI2.out _ H2.out).mono ?_; rintro e w2 ⟨⟨A2, n2, c2, rfl, hat, hn2⟩, hb2⟩
         have h3 := H2.out.keep (bsa hb2 (.cells (itc y (.slice A2 n2 c2)) 38))
         have b3 := h3.blkAt (g := V.heap.size) (t := 64) (cs := rcc x (.slice A n c)) (by simp)
         have q0 := b3.cell 0
         have q1 := b3.cell 1
         have q2 := b3.cell 2
         have q3 := b3.cell 3
         have q4 := b3.cell 4
         have q5 := b3.cell 5
         have q6 := b3.cell 6
         have q7 := b3.cell 7
         have q8 := b3.cell 8
         have q9 := b3.cell 9
         simp at q0 q1 q2 q3 q4 q5 q6 q7 q8 q9
         have kI := Blk.new w2 38 (itc y (.slice A2 n2 c2))
         have KI := Lib.hid kI
         have HAT := Lib.hid (hat.below (nbl w2 (.cells (itc y (.slice A2 n2 c2)) 38)))
         clear hat kI
         have H3 := Lib.hid h3
         clear hb2 h3 b3)
      | (go_at_call 66; refine (HCO.out _ _).mono ?_; rintro e w3 ⟨rfl, hb3⟩
         have h4 := H3.out.keep hb3
         have b4 := h4.blkAt (g := V.heap.size) (t := 64) (cs := rcc x (.slice A n c)) (by simp)
         have q0 := b4.cell 0
         have q1 := b4.cell 1
         have q2 := b4.cell 2
         have q3 := b4.cell 3
         have q4 := b4.cell 4
         have q5 := b4.cell 5
         have q6 := b4.cell 6
         have q7 := b4.cell 7
         have q8 := b4.cell 8
         have q9 := b4.cell 9
         simp at q0 q1 q2 q3 q4 q5 q6 q7 q8 q9
         have k4 := KI.out.below hb3 KI.out.lt
         have i0 := k4.cell 0
         have i1 := k4.cell 1
         have i2 := k4.cell 2
         have i3 := k4.cell 3
         have i4 := k4.cell 4
         have i5 := k4.cell 5
         have i6 := k4.cell 6
         have i7 := k4.cell 7
         have i8 := k4.cell 8
         simp at i0 i1 i2 i3 i4 i5 i6 i7 i8
         have HAT4 := Lib.hid (HAT.out.below hb3)
         have H4 := Lib.hid h4
         clear hb3 h4 b4 k4)
      | (go_at_call 67; refine (HVE.out _ _ _ _ H4.out.bel HAT4.out hn2).mono ?_; rintro e w5 ⟨rfl, hb5⟩; have H5 := Lib.hid (H4.out.keep hb5); clear hb5)
      | (go_at_call 68; refine (HGO.out _ H5.out.bel).mono ?_; rintro e w6 ⟨rfl, hb6⟩; have H6 := Lib.hid (H5.out.keep hb6); clear hb6)
      | fail)
  have hq := Blk.new w6 91 #[.string kv, .string tv, .bool false, .string kk, .string ⟨#[]⟩, .bool true]
  go_ret2
  exact ⟨_, _, _, rfl, rfl, (show Has w (blkA V.heap.size 64 (rcc x (.slice A n c)) :: tbA p r :: T) _ from H6.out.swap).tail.newOp (orow2 hq (Nat.le_refl _)) (nbl _ _)⟩
end Go.Proofs.YthimheckmpepdaaGreatDoor
set_option linter.unusedVariables false
set_option linter.unusedSimpArgs false
set_option maxRecDepth 100000
namespace Go.Proofs.YthimheckmpepdaaGreatDoor
open Go.RowKit

set_option maxHeartbeats 4000000 in
theorem seRes_else {w V : World} {T : List As} {p N : Nat} {r : List Rw} (h : Has w (tbA p r :: T) V) (hr : ROk N r) (hN : N ≤ 999999000) (hM : MaxL w) (key : ByteArray) (x : Rc) (A : Option Addr) (n c : Nat) (hx : ∀ W, Has w (tbA p r :: T) W → WtAt W A n x.l) (hn : n ≤ 9223372036854775807) (hc : chkS key x = 0) (y : It) (ho : ownI (pint r key) x.id = some y) (hs : x.st = 3) (hcn : counts y x = false) :
    Calls Tryz.prog 20 #[pt p, .string key, rcv x (.slice A n c)] V fun e w' => AnsRes ([goneO key], 0) w (tbA p r :: T) e w' := by
  have h1 := (h.newBlk 64 (rcc x (.slice A n c))).swap
  have H1 := Lib.hid h1
  have HCK := Lib.hid (seCheckRec h1 hr hN hM key x A n c (fun W hW => hx W (show Has w (blkA V.heap.size 64 (rcc x (.slice A n c)) :: tbA p r :: T) W from hW.swap).tail) hn)
  have b1 := h1.blkAt (g := V.heap.size) (t := 64) (cs := rcc x (.slice A n c)) (by simp)
  have q0 := b1.cell 0
  have q1 := b1.cell 1
  have q2 := b1.cell 2
  have q3 := b1.cell 3
  have q4 := b1.cell 4
  have q5 := b1.cell 5
  have q6 := b1.cell 6
  have q7 := b1.cell 7
  have q8 := b1.cell 8
  have q9 := b1.cell 9
  simp at q0 q1 q2 q3 q4 q5 q6 q7 q8 q9
  have HIN := Lib.hid (fun (hk : isK key = true) W (hW : Has w (tbA p r :: blkA V.heap.size 64 (rcc x (.slice A n c)) :: T) W) => let ⟨F, hA, _⟩ := hW.get; seIntentOf hA hr.szs (hM.below hW.bel) key hk x.id)
  clear h h1 hr hx b1
  have HI2 := Lib.hid (HIN.out (chkS_ok hc).1)
  have hkk := (chkS_ok hc).1
  have hmr := (mayR_parts (chkS_ok hc).2).1
  have hmy := pint_may (ownI_some ho).1
  have HGO := Lib.hid (fun W hW => seGone key hkk W (hM.below hW))
  have HCO := Lib.hid (fun v W => seCounts y v x (.slice A n c) W)
  have HVE := Lib.hid (fun A2 n2 c2 W (hW : Below w.heap.size w W) hx2 hn2 => seVersion key hkk x.sw x.sl hmr y hmy A2 n2 c2 W (hM.below hW) hx2 hn2)
  have HPU := Lib.hid (fun A2 n2 c2 W (hW : Below w.heap.size w W) hx2 hn2 => sePushed key hkk y hmy A2 n2 c2 x hmr (.slice A n c) W (hM.below hW) hx2 hn2)
  rw [hc] at HCK
  rw [ho] at HI2
  unfold AnsT at HI2
  simp only at HI2
  clear hc HIN hM ho hkk hmr hmy
  unfold goneO opv at *
  simp only at HGO
  generalize bs (ikey (sb key)) = kk at *
  rw [hcn] at HCO
  have hs3 : (x.st == 3) = true := by simpa using hs
  clear hcn HPU HVE hs
  go_enter Tryz.func20, Tryz.ntmps20
  go_wp2_with (first
      | (go_at_call 64; refine HCK.out.mono ?_; rintro e w1 ⟨rfl, h2⟩
         have b2 := h2.blkAt (g := V.heap.size) (t := 64) (cs := rcc x (.slice A n c)) (by simp)
         have q0 := b2.cell 0
         have q1 := b2.cell 1
         have q2 := b2.cell 2
         have q3 := b2.cell 3
         have q4 := b2.cell 4
         have q5 := b2.cell 5
         have q6 := b2.cell 6
         have q7 := b2.cell 7
         have q8 := b2.cell 8
         have q9 := b2.cell 9
         simp at q0 q1 q2 q3 q4 q5 q6 q7 q8 q9
         have H2 := Lib.hid h2
         clear h2 b2)
      | (go_at_call 65; refine (HI2.out _ H2.out).mono ?_; rintro e w2 ⟨⟨A2, n2, c2, rfl, hat, hn2⟩, hb2⟩
         have h3 := H2.out.keep (bsa hb2 (.cells (itc y (.slice A2 n2 c2)) 38))
         have b3 := h3.blkAt (g := V.heap.size) (t := 64) (cs := rcc x (.slice A n c)) (by simp)
         have q0 := b3.cell 0
         have q1 := b3.cell 1
         have q2 := b3.cell 2
         have q3 := b3.cell 3
         have q4 := b3.cell 4
         have q5 := b3.cell 5
         have q6 := b3.cell 6
         have q7 := b3.cell 7
         have q8 := b3.cell 8
         have q9 := b3.cell 9
         simp at q0 q1 q2 q3 q4 q5 q6 q7 q8 q9
         have kI := Blk.new w2 38 (itc y (.slice A2 n2 c2))
         have KI := Lib.hid kI
         have HAT := Lib.hid (hat.below (nbl w2 (.cells (itc y (.slice A2 n2 c2)) 38)))
         clear hat kI
         have H3 := Lib.hid h3
         clear hb2 h3 b3)
      | (go_at_call 66; refine (HCO.out _ _).mono ?_; rintro e w3 ⟨rfl, hb3⟩
         have h4 := H3.out.keep hb3
         have b4 := h4.blkAt (g := V.heap.size) (t := 64) (cs := rcc x (.slice A n c)) (by simp)
         have q0 := b4.cell 0
         have q1 := b4.cell 1
         have q2 := b4.cell 2
         have q3 := b4.cell 3
         have q4 := b4.cell 4
         have q5 := b4.cell 5
         have q6 := b4.cell 6
         have q7 := b4.cell 7
         have q8 := b4.cell 8
         have q9 := b4.cell 9
         simp at q0 q1 q2 q3 q4 q5 q6 q7 q8 q9
         have k4 := KI.out.below hb3 KI.out.lt
         have i0 := k4.cell 0
         have i1 := k4.cell 1
         have i2 := k4.cell 2
         have i3 := k4.cell 3
         have i4 := k4.cell 4
         have i5 := k4.cell 5
         have i6 := k4.cell 6
         have i7 := k4.cell 7
         have i8 := k4.cell 8
         simp at i0 i1 i2 i3 i4 i5 i6 i7 i8
         have HAT4 := Lib.hid (HAT.out.below hb3)
         have H4 := Lib.hid h4
         clear hb3 h4 b4 k4)
      | (go_at_call 68; refine (HGO.out _ H4.out.bel).mono ?_; rintro e w6 ⟨rfl, hb6⟩; have H6 := Lib.hid (H4.out.keep hb6); clear hb6)
      | fail)
  have hq := Blk.new w6 91 #[.string kk, .string ⟨#[]⟩, .bool true]
  go_ret2
  exact ⟨_, _, _, rfl, rfl, (show Has w (blkA V.heap.size 64 (rcc x (.slice A n c)) :: tbA p r :: T) _ from H6.out.swap).tail.newOp (orow1 hq (Nat.le_refl _)) (nbl _ _)⟩
end Go.Proofs.YthimheckmpepdaaGreatDoor
set_option linter.unusedVariables false
set_option linter.unusedSimpArgs false
set_option maxRecDepth 100000
namespace Go.Proofs.YthimheckmpepdaaGreatDoor
open Go.RowKit

set_option maxHeartbeats 4000000 in
theorem seRes_ab {w V : World} {T : List As} {p N : Nat} {r : List Rw} (h : Has w (tbA p r :: T) V) (hr : ROk N r) (hN : N ≤ 999999000) (hM : MaxL w) (key : ByteArray) (x : Rc) (A : Option Addr) (n c : Nat) (hx : ∀ W, Has w (tbA p r :: T) W → WtAt W A n x.l) (hn : n ≤ 9223372036854775807) (hc : chkS key x = 0) (y : It) (ho : ownI (pint r key) x.id = some y) (hs : x.st = 4) :
    Calls Tryz.prog 20 #[pt p, .string key, rcv x (.slice A n c)] V fun e w' => AnsRes ([goneO key], 0) w (tbA p r :: T) e w' := by
  have h1 := (h.newBlk 64 (rcc x (.slice A n c))).swap
  have H1 := Lib.hid h1
  have HCK := Lib.hid (seCheckRec h1 hr hN hM key x A n c (fun W hW => hx W (show Has w (blkA V.heap.size 64 (rcc x (.slice A n c)) :: tbA p r :: T) W from hW.swap).tail) hn)
  have b1 := h1.blkAt (g := V.heap.size) (t := 64) (cs := rcc x (.slice A n c)) (by simp)
  have q0 := b1.cell 0
  have q1 := b1.cell 1
  have q2 := b1.cell 2
  have q3 := b1.cell 3
  have q4 := b1.cell 4
  have q5 := b1.cell 5
  have q6 := b1.cell 6
  have q7 := b1.cell 7
  have q8 := b1.cell 8
  have q9 := b1.cell 9
  simp at q0 q1 q2 q3 q4 q5 q6 q7 q8 q9
  have HIN := Lib.hid (fun (hk : isK key = true) W (hW : Has w (tbA p r :: blkA V.heap.size 64 (rcc x (.slice A n c)) :: T) W) => let ⟨F, hA, _⟩ := hW.get; seIntentOf hA hr.szs (hM.below hW.bel) key hk x.id)
  clear h h1 hr hx b1
  have HI2 := Lib.hid (HIN.out (chkS_ok hc).1)
  have hkk := (chkS_ok hc).1
  have hmr := (mayR_parts (chkS_ok hc).2).1
  have hmy := pint_may (ownI_some ho).1
  have HGO := Lib.hid (fun W hW => seGone key hkk W (hM.below hW))
  have HCO := Lib.hid (fun v W => seCounts y v x (.slice A n c) W)
  have HVE := Lib.hid (fun A2 n2 c2 W (hW : Below w.heap.size w W) hx2 hn2 => seVersion key hkk x.sw x.sl hmr y hmy A2 n2 c2 W (hM.below hW) hx2 hn2)
  have HPU := Lib.hid (fun A2 n2 c2 W (hW : Below w.heap.size w W) hx2 hn2 => sePushed key hkk y hmy A2 n2 c2 x hmr (.slice A n c) W (hM.below hW) hx2 hn2)
  rw [hc] at HCK
  rw [ho] at HI2
  unfold AnsT at HI2
  simp only at HI2
  clear hc HIN hM ho hkk hmr hmy
  unfold goneO opv at *
  simp only at HGO
  generalize bs (ikey (sb key)) = kk at *
  have hs3 : (x.st == 3) = false := by rw [hs]; rfl
  have hs4 : (x.st == 4) = true := by rw [hs]; rfl
  clear HPU HVE HCO hs
  go_enter Tryz.func20, Tryz.ntmps20
  go_wp2_with (first
      | (go_at_call 64; refine HCK.out.mono ?_; rintro e w1 ⟨rfl, h2⟩
         have b2 := h2.blkAt (g := V.heap.size) (t := 64) (cs := rcc x (.slice A n c)) (by simp)
         have q0 := b2.cell 0
         have q1 := b2.cell 1
         have q2 := b2.cell 2
         have q3 := b2.cell 3
         have q4 := b2.cell 4
         have q5 := b2.cell 5
         have q6 := b2.cell 6
         have q7 := b2.cell 7
         have q8 := b2.cell 8
         have q9 := b2.cell 9
         simp at q0 q1 q2 q3 q4 q5 q6 q7 q8 q9
         have H2 := Lib.hid h2
         clear h2 b2)
      | (go_at_call 65; refine (HI2.out _ H2.out).mono ?_; rintro e w2 ⟨⟨A2, n2, c2, rfl, hat, hn2⟩, hb2⟩
         have h3 := H2.out.keep (bsa hb2 (.cells (itc y (.slice A2 n2 c2)) 38))
         have b3 := h3.blkAt (g := V.heap.size) (t := 64) (cs := rcc x (.slice A n c)) (by simp)
         have q0 := b3.cell 0
         have q1 := b3.cell 1
         have q2 := b3.cell 2
         have q3 := b3.cell 3
         have q4 := b3.cell 4
         have q5 := b3.cell 5
         have q6 := b3.cell 6
         have q7 := b3.cell 7
         have q8 := b3.cell 8
         have q9 := b3.cell 9
         simp at q0 q1 q2 q3 q4 q5 q6 q7 q8 q9
         have kI := Blk.new w2 38 (itc y (.slice A2 n2 c2))
         have KI := Lib.hid kI
         have HAT := Lib.hid (hat.below (nbl w2 (.cells (itc y (.slice A2 n2 c2)) 38)))
         clear hat kI
         have H3 := Lib.hid h3
         clear hb2 h3 b3)
      | (go_at_call 68; refine (HGO.out _ H3.out.bel).mono ?_; rintro e w6 ⟨rfl, hb6⟩; have H6 := Lib.hid (H3.out.keep hb6); clear hb6)
      | fail)
  have hq := Blk.new w6 91 #[.string kk, .string ⟨#[]⟩, .bool true]
  go_ret2
  exact ⟨_, _, _, rfl, rfl, (show Has w (blkA V.heap.size 64 (rcc x (.slice A n c)) :: tbA p r :: T) _ from H6.out.swap).tail.newOp (orow1 hq (Nat.le_refl _)) (nbl _ _)⟩
set_option maxHeartbeats 4000000 in
theorem seRes_st {w V : World} {T : List As} {p N : Nat} {r : List Rw} (h : Has w (tbA p r :: T) V) (hr : ROk N r) (hN : N ≤ 999999000) (hM : MaxL w) (key : ByteArray) (x : Rc) (A : Option Addr) (n c : Nat) (hx : ∀ W, Has w (tbA p r :: T) W → WtAt W A n x.l) (hn : n ≤ 9223372036854775807) (hc : chkS key x = 0) (y : It) (ho : ownI (pint r key) x.id = some y) (hs3 : (x.st == 3) = false) (hs4 : (x.st == 4) = false) (hs1 : (x.st == 1) = false) :
    Calls Tryz.prog 20 #[pt p, .string key, rcv x (.slice A n c)] V fun e w' => AnsRes ([], 0) w (tbA p r :: T) e w' := by
  have h1 := (h.newBlk 64 (rcc x (.slice A n c))).swap
  have H1 := Lib.hid h1
  have HCK := Lib.hid (seCheckRec h1 hr hN hM key x A n c (fun W hW => hx W (show Has w (blkA V.heap.size 64 (rcc x (.slice A n c)) :: tbA p r :: T) W from hW.swap).tail) hn)
  have b1 := h1.blkAt (g := V.heap.size) (t := 64) (cs := rcc x (.slice A n c)) (by simp)
  have q0 := b1.cell 0
  have q1 := b1.cell 1
  have q2 := b1.cell 2
  have q3 := b1.cell 3
  have q4 := b1.cell 4
  have q5 := b1.cell 5
  have q6 := b1.cell 6
  have q7 := b1.cell 7
  have q8 := b1.cell 8
  have q9 := b1.cell 9
  simp at q0 q1 q2 q3 q4 q5 q6 q7 q8 q9
  have HIN := Lib.hid (fun (hk : isK key = true) W (hW : Has w (tbA p r :: blkA V.heap.size 64 (rcc x (.slice A n c)) :: T) W) => let ⟨F, hA, _⟩ := hW.get; seIntentOf hA hr.szs (hM.below hW.bel) key hk x.id)
  clear h h1 hr hx b1
  have HI2 := Lib.hid (HIN.out (chkS_ok hc).1)
  have hkk := (chkS_ok hc).1
  have hmr := (mayR_parts (chkS_ok hc).2).1
  have hmy := pint_may (ownI_some ho).1
  have HGO := Lib.hid (fun W hW => seGone key hkk W (hM.below hW))
  have HCO := Lib.hid (fun v W => seCounts y v x (.slice A n c) W)
  have HVE := Lib.hid (fun A2 n2 c2 W (hW : Below w.heap.size w W) hx2 hn2 => seVersion key hkk x.sw x.sl hmr y hmy A2 n2 c2 W (hM.below hW) hx2 hn2)
  have HPU := Lib.hid (fun A2 n2 c2 W (hW : Below w.heap.size w W) hx2 hn2 => sePushed key hkk y hmy A2 n2 c2 x hmr (.slice A n c) W (hM.below hW) hx2 hn2)
  rw [hc] at HCK
  rw [ho] at HI2
  unfold AnsT at HI2
  simp only at HI2
  clear hc HIN hM ho hkk hmr hmy
  clear HGO HVE HCO HPU
  go_enter Tryz.func20, Tryz.ntmps20
  go_wp2_with (first
      | (go_at_call 64; refine HCK.out.mono ?_; rintro e w1 ⟨rfl, h2⟩
         have b2 := h2.blkAt (g := V.heap.size) (t := 64) (cs := rcc x (.slice A n c)) (by simp)
         have q0 := b2.cell 0
         have q1 := b2.cell 1
         have q2 := b2.cell 2
         have q3 := b2.cell 3
         have q4 := b2.cell 4
         have q5 := b2.cell 5
         have q6 := b2.cell 6
         have q7 := b2.cell 7
         have q8 := b2.cell 8
         have q9 := b2.cell 9
         simp at q0 q1 q2 q3 q4 q5 q6 q7 q8 q9
         have H2 := Lib.hid h2
         clear h2 b2)
      | (go_at_call 65; refine (HI2.out _ H2.out).mono ?_; rintro e w2 ⟨⟨A2, n2, c2, rfl, hat, hn2⟩, hb2⟩
         have h3 := H2.out.keep (bsa hb2 (.cells (itc y (.slice A2 n2 c2)) 38))
         have b3 := h3.blkAt (g := V.heap.size) (t := 64) (cs := rcc x (.slice A n c)) (by simp)
         have q0 := b3.cell 0
         have q1 := b3.cell 1
         have q2 := b3.cell 2
         have q3 := b3.cell 3
         have q4 := b3.cell 4
         have q5 := b3.cell 5
         have q6 := b3.cell 6
         have q7 := b3.cell 7
         have q8 := b3.cell 8
         have q9 := b3.cell 9
         simp at q0 q1 q2 q3 q4 q5 q6 q7 q8 q9
         have kI := Blk.new w2 38 (itc y (.slice A2 n2 c2))
         have KI := Lib.hid kI
         have HAT := Lib.hid (hat.below (nbl w2 (.cells (itc y (.slice A2 n2 c2)) 38)))
         clear hat kI
         have H3 := Lib.hid h3
         clear hb2 h3 b3)
      | fail)
  go_ret2
  exact ⟨_, _, _, rfl, rfl, (show Has w (blkA V.heap.size 64 (rcc x (.slice A n c)) :: tbA p r :: T) _ from H3.out.swap).tail.newOp (World.ownsRow_nil _ _ _ _) (Below.refl _ _)⟩
end Go.Proofs.YthimheckmpepdaaGreatDoor
