/-
  Layer 13, plain: behind a write the transaction reads what it wrote; the same write changes nothing.
  Layer 13, the code: whether stamps may be (written by wip/genpo.py).
  Layer 13, the code: an intent of a transaction (written by wip/genpo.py).
  Layer 13, the code: find (written by wip/genpo.py).
  Layer 13, the code: check (written by wip/genpo.py).
  Layer 13, the code: the newest version's stamp (written by wip/genponew.py).
-/
import Derived.Test.YtldbmogondmgmaaGreatDoorPR30
import Derived.Test.YtldbmogondmgmaaGreatDoorPR29
set_option linter.unusedVariables false
set_option linter.unusedSimpArgs false
set_option maxRecDepth 100000
namespace Go.Proofs.YtldbmogondmgmaaGreatDoor
open Go.RowKit

theorem goW_ok {nv m : Int × Int} {own : It} {c : Ch} {x : Tx} {dd : Dn} (h1 : mayI (wIt x x.ww x.wl [c]) = true) (ho : own = zI ∨ mayI own = true) (h : goW nv own c x m = (dd, 0)) :
    (∃ y, dd.o = some y ∧ mayI y = true ∧ y = wIt x (atW nv m own x).1 (atW nv m own x).2 (own.l ++ [c]) ∧ (dd.a, dd.b) = atW nv m own x ∧ (∀ z ∈ own.l, z.q < c.q) ∧ (nxt (two m nv).1 (two m nv).2).2.2 = 0) ∨
    (dd.o = none ∧ dd.a = own.sw ∧ dd.b = own.sl ∧ findW own.l c = (true, 0)) := by
  cases hd : dd.o with
  | some y =>
    have h2 : (goW nv own c x m).1.o = some y := by rw [h]; exact hd
    obtain ⟨a1, _, a3, a4, a5, a6⟩ := goW_may h1 ho h2
    rw [h] at a4
    exact .inl ⟨y, rfl, a1, a3, a4, a5, a6⟩
  | none =>
    refine .inr ⟨rfl, ?_⟩
    unfold goW at h
    split at h
    · rename_i g1
      split at h
      · rename_i g2
        injection h with h _
        subst h
        exact ⟨rfl, rfl, Prod.ext g2 g1⟩
      · unfold addW at h
        split at h
        · injection h with h _
          subst h
          cases hd
        · rename_i g3
          injection h with _ h
          exact absurd h g3
    · rename_i g1
      injection h with _ h
      exact absurd h g1
theorem goW_err {nv m : Int × Int} {own : It} {c : Ch} {x : Tx} {dd : Dn} {k : Int} (h : goW nv own c x m = (dd, k)) (hk : ¬ k = 0) : dd.o = none := by
  unfold goW at h
  split at h
  · split at h
    · injection h with h h2; exact absurd h2.symm hk
    · unfold addW at h
      split at h
      · injection h with h h2; exact absurd h2.symm hk
      · injection h with h h2; subst h; rfl
  · injection h with h h2; subst h; rfl
theorem pput_err {r : List Rw} {key : ByteArray} {c : Ch} {x : Tx} {m : Int × Int} {dd : Dn} {k : Int} (h : pputC r key c x m = (dd, k)) (hk : ¬ k = 0) : dd.o = none := by
  unfold pputC at h
  split at h
  · unfold putW at h
    split at h
    · exact goW_err h hk
    · split at h
      · injection h with h h2; subst h; rfl
      · split at h
        · injection h with h h2; subst h; rfl
        · split at h
          · exact goW_err h hk
          · exact goW_err h hk
  · injection h with h h2; subst h; rfl
/-- What comes of a write that is well: a new intent, or the one that is there. -/
theorem pput_ok {r : List Rw} {key : ByteArray} {c : Ch} {x : Tx} {m : Int × Int} {dd : Dn} (h : pputC r key c x m = (dd, 0)) :
    chkW (isK key) c x m = 0 ∧ ((∃ y l, dd.o = some y ∧ mayI y = true ∧ y.id = x.id ∧ y.ep = x.ep ∧ dd.a = y.sw ∧ dd.b = y.sl ∧ y.l = l ++ [c] ∧ (∀ z ∈ l, z.q < c.q)) ∨
      (dd.o = none ∧ ∃ y, pint r key = some y ∧ y.id = x.id ∧ y.ep = x.ep ∧ dd.a = y.sw ∧ dd.b = y.sl ∧ findW y.l c = (true, 0))) := by
  unfold pputC at h
  split at h
  · rename_i hc
    refine ⟨hc, ?_⟩
    obtain ⟨hk, hmx, hmm, hmi⟩ := chkW_ok hc
    have new : ∀ own : It, own = zI ∨ mayI own = true → goW (nwV r key) own c x m = (dd, 0) → (∃ y l, dd.o = some y ∧ mayI y = true ∧ y.id = x.id ∧ y.ep = x.ep ∧ dd.a = y.sw ∧ dd.b = y.sl ∧ y.l = l ++ [c] ∧ (∀ z ∈ l, z.q < c.q)) ∨ (dd.o = none ∧ dd.a = own.sw ∧ dd.b = own.sl ∧ findW own.l c = (true, 0)) := by
      intro own ho hg
      rcases goW_ok hmi ho hg with ⟨y, a1, a2, a3, a4, a5, _⟩ | a
      · have b1 := congrArg Prod.fst a4
        have b2 := congrArg Prod.snd a4
        exact .inl ⟨y, own.l, a1, a2, by rw [a3]; rfl, by rw [a3]; rfl, by rw [a3]; exact b1, by rw [a3]; exact b2, by rw [a3]; rfl, a5⟩
      · exact .inr a
    have zno : ¬ findW zI.l c = (true, 0) := fun e => by cases e
    unfold putW at h
    split at h
    · rcases new zI (.inl rfl) h with a | ⟨_, _, _, a⟩
      · exact .inl a
      · exact absurd a zno
    · rename_i y hp
      split at h
      · injection h with _ h; cases h
      · rename_i g1
        have g1' : y.id = x.id := Classical.not_not.1 g1
        split at h
        · injection h with _ h; cases h
        · rename_i g2
          split at h
          · rcases new zI (.inl rfl) h with a | ⟨_, _, _, a⟩
            · exact .inl a
            · exact absurd a zno
          · rename_i g3
            rcases new y (.inr (tkI_back hp).1) h with a | ⟨a1, a2, a3, a4⟩
            · exact .inl a
            · exact .inr ⟨a1, y, hp, g1', by omega, a2, a3, a4⟩
  · rename_i hc
    injection h with _ h
    exact absurd h hc
theorem ikey_ne (key : ByteArray) : (bs (ikey (sb key))).toList ≠ [] := by rw [Lib.toList_data]; simp [bs, ikey]
/-- The key's intent behind the write. -/
theorem pput_int {r : List Rw} (hs : RSor r) {key : ByteArray} {c : Ch} {x : Tx} {m : Int × Int} {dd : Dn} (h : pputC r key c x m = (dd, 0)) :
    ∃ y, pint (rapp r (opsD key dd)) key = some y ∧ y.id = x.id ∧ y.ep = x.ep ∧ dd.a = y.sw ∧ dd.b = y.sl ∧ findW y.l c = (true, 0) ∧ (dd.o ≠ none → y.l.getLast? = some c) := by
  rcases (pput_ok h).2 with ⟨y, l, a1, a2, a3, a4, a5, a6, a7, a8⟩ | ⟨a1, y, a2, a3, a4, a5, a6, a7⟩
  · refine ⟨y, ?_, a3, a4, a5, a6, by rw [a7]; exact findW_snoc a8, fun _ => by rw [a7]; simp⟩
    unfold pint opsD
    rw [a1]
    simp only
    rw [rapp_val hs _ _ (ikey_ne key), sb_bs]
    exact tkI_tx _ a2
  · refine ⟨y, ?_, a3, a4, a5, a6, a7, fun e => absurd a1 e⟩
    unfold opsD
    rw [a1]
    exact a2
theorem opsD_sz {r : List Rw} {key : ByteArray} {c : Ch} {x : Tx} {m : Int × Int} {dd : Dn} {k : Int} (h : pputC r key c x m = (dd, k)) : OSz (opsD key dd) := by
  intro o ho
  by_cases hk : k = 0
  · subst hk
    obtain ⟨hc, h2⟩ := pput_ok h
    have hkk := isK_iff.1 (chkW_ok hc).1
    unfold opsD at ho
    rcases h2 with ⟨y, l, a1, a2, _⟩ | ⟨a1, _⟩
    · rw [a1] at ho
      rw [List.mem_singleton.1 ho]
      have h1 := okey_len key hkk.2
      have h3 := txI_len y a2
      refine ⟨?_, ?_⟩
      · show (ikey _).length ≤ _
        simp only [ikey, List.length_cons]
        omega
      · show (txI y).length ≤ _
        omega
    · rw [a1] at ho
      cases ho
  · unfold opsD at ho
    rw [pput_err h hk] at ho
    cases ho
theorem opsD_len (key : ByteArray) (dd : Dn) : (opsD key dd).length ≤ 1 := by
  unfold opsD
  split <;> simp
end Go.Proofs.YtldbmogondmgmaaGreatDoor
set_option linter.unusedVariables false
set_option linter.unusedSimpArgs false
set_option maxRecDepth 100000
namespace Go.Proofs.YtldbmogondmgmaaGreatDoor
open Go.RowKit

set_option maxHeartbeats 4000000 in
theorem poIdxP {S : Type} (ok : S → Int × Int → Bool) (nx : S → Int × Int → S) (J : S → World → Prop) (A : Option Addr) (n c : Nat) (l : List (Int × Int)) (hn : n ≤ 9223372036854775807)
    (hat : ∀ s W, J s W → Stamps W A n l)
    (step : ∀ s (c : Int × Int) W, J s W → Calls Tryz.prog 204 #[(sv c.1 c.2)] W fun e w' => e = .returned (.bool (!(ok s c))) ∧ J (nx s c) w')
    (s : S) (w : World) (hJ : J s w) :
    Calls Tryz.prog 215 #[.slice A n c, .func (.func 204) #[] #[]] w fun e w' => ∃ k : Int, e = .returned (.int .i64 k) ∧ decide (0 ≤ k) = !(scan ok nx s l) ∧ ∃ s', J s' w' := by
  have ST := Lib.hid step
  have HF := Lib.hid hat
  clear step hat
  go_enter Tryz.func215, Tryz.ntmps215
  go_wp2
  go_loopw [8] (fun i wr => ∃ (k : Nat) (s' : S), k ≤ n ∧ i = .int .i64 k ∧ Hid (scan ok nx s' (l.drop k) = scan ok nx s l) ∧ J s' wr) (fun i _ => n - (intOf i).toNat)
  case atStart => exact ⟨0, s, Nat.zero_le _, rfl, rfl, hJ⟩
  case round =>
    obtain ⟨k, s', hk, rfl, hrun, hRep⟩ := hrel
    have hfa := HF.out s' wr hRep
    have hlen := hfa.1
    by_cases hlt : k < n
    · have hkl : k < l.length := by omega
      obtain ⟨b, o, rfl, hc⟩ := hfa.2 (by omega)
      obtain ⟨h1, h2⟩ := hc k hkl
      have hs := ST.out s' (l[k]'hkl) wr hRep
      have hd : l.drop k = (l[k]'hkl) :: l.drop (k + 1) := List.drop_eq_getElem_cons hkl
      have hrun' := hrun.out
      rw [hd] at hrun'
      generalize (l[k]'hkl) = x at *
      clear hc hfa HF ST hd hrun
      cases hok : ok s' x with
      | true =>
        have HR := Lib.hid (show scan ok nx (nx s' x) (l.drop (k + 1)) = scan ok nx s l by rw [← hrun', scan, hok, Bool.true_and])
        rw [hok] at hs
        clear hrun' hok
        go_wp2_with fail
        refine hs.mono ?_
        rintro e w2 ⟨rfl, h2⟩
        go_wp2
        go_roundw
        case rel => exact ⟨k + 1, _, by omega, by go_num, HR, h2⟩
        case measure => simp [intOf]; omega
      | false =>
        have HR := Lib.hid (show scan ok nx s l = false by rw [← hrun', scan, hok, Bool.false_and])
        rw [hok] at hs
        clear hrun' hok
        go_wp2_with fail
        refine hs.mono ?_
        rintro e w2 ⟨rfl, h2⟩
        go_wp2
        go_ret
        exact ⟨k, rfl, by rw [HR.out]; exact decide_eq_true (by omega), _, h2⟩
    · have HR := Lib.hid (show scan ok nx s l = true by rw [← hrun.out, List.drop_of_length_le (by omega), scan])
      clear hrun HF ST hfa
      go_wp2
      go_ret
      exact ⟨-1, rfl, by rw [HR.out]; rfl, _, hRep⟩
theorem poConP {S : Type} (ok : S → Int × Int → Bool) (nx : S → Int × Int → S) (J : S → World → Prop) (A : Option Addr) (n c : Nat) (l : List (Int × Int)) (hn : n ≤ 9223372036854775807)
    (hat : ∀ s W, J s W → Stamps W A n l)
    (step : ∀ s (c : Int × Int) W, J s W → Calls Tryz.prog 204 #[(sv c.1 c.2)] W fun e w' => e = .returned (.bool (!(ok s c))) ∧ J (nx s c) w')
    (s : S) (w : World) (hJ : J s w) :
    Calls Tryz.prog 185 #[.slice A n c, .func (.func 204) #[] #[]] w fun e w' => e = .returned (.bool (!(scan ok nx s l))) ∧ ∃ s', J s' w' := by
  have HI := Lib.hid (poIdxP ok nx J A n c l hn hat step s w hJ)
  clear step hat hJ
  go_enter Tryz.func185, Tryz.ntmps185
  go_wp2_with fail
  refine HI.out.mono ?_
  rintro e w1 ⟨k, rfl, hk, h1⟩
  have HK := Lib.hid hk
  clear hk
  go_wp2
  go_ret
  exact ⟨congrArg (fun b => Ending.returned (Value.bool b)) HK.out, h1⟩

theorem poOne (c : Int × Int) (W : World) :
    Calls Tryz.prog 204 #[sv c.1 c.2] W fun e w' => e = .returned (.bool (!(mayP c))) ∧ Below W.heap.size W w' := by
  obtain ⟨x, y⟩ := c
  have h3 := Blk.new W 26 #[.int .i64 x, .int .i64 y]
  have HO := Lib.hid (check_c x y (W.alloc (.cells #[.int .i64 x, .int .i64 y] 26)))
  have c0 := h3.cell 0
  have c1 := h3.cell 1
  simp at c0 c1
  clear h3
  have hck : (ck x y != 0) = !mayP (x, y) := by
    unfold ck mayP
    cases may x y <;> rfl
  obtain ⟨kk, hkk⟩ : ∃ kk, ck x y = kk := ⟨_, rfl⟩
  rw [hkk] at HO hck
  rw [← hck]
  clear hkk hck
  go_enter Tryz.func204, Tryz.ntmps204
  go_wp2_with (go_at_call 145; refine HO.out.mono ?_; rintro e w1 ⟨rfl, q1⟩)
  have q3 := (nbl W (.cells #[.int .i64 x, .int .i64 y] 26)).trans (q1.mono (by simp))
  go_ret
  exact ⟨rfl, q3⟩
theorem poStamps (A : Option Addr) (n c : Nat) (l : List (Int × Int)) (b : Bool) (hb : l.all mayP = b) (w : World) (hn : n ≤ 9223372036854775807) (hx : Stamps w A n l) :
    Calls Tryz.prog 165 #[.slice A n c] w fun e w' => e = .returned (.bool b) ∧ Below w.heap.size w w' := by
  have HC := Lib.hid (poConP (fun (_ : Unit) p => mayP p) (fun u _ => u) (fun _ W => Below w.heap.size w W) A n c l hn (fun s W h => hx.below' h)
    (fun s x W h => (poOne x W).mono fun e w' ⟨h1, h3⟩ => ⟨h1, h.trans (h3.mono h.size)⟩) () w (Below.refl _ _))
  rw [scan_all, hb] at HC
  clear hb hx
  go_enter Tryz.func165, Tryz.ntmps165
  go_wp2_with fail
  refine HC.out.mono ?_
  rintro e w1 ⟨rfl, s', h1⟩
  go_wp2
  go_ret
  exact ⟨by simp, h1⟩
theorem three_stamps (w : World) (a b c d x y : Int) : Stamps (w.alloc (.cells #[.int .i64 a, .int .i64 b, .int .i64 c, .int .i64 d, .int .i64 x, .int .i64 y] 26)) (some ⟨w.heap.size, 0, none⟩) 3 [(a, b), (c, d), (x, y)] := by
  have h := Blk.new w 26 #[.int .i64 a, .int .i64 b, .int .i64 c, .int .i64 d, .int .i64 x, .int .i64 y]
  refine ⟨rfl, fun _ => ⟨w.heap.size, 0, rfl, fun i hi => ?_⟩⟩
  have : i = 0 ∨ i = 1 ∨ i = 2 := by simp at hi; omega
  rcases this with rfl | rfl | rfl
  · exact ⟨h.cell 0, h.cell 1⟩
  · exact ⟨h.cell 2, h.cell 3⟩
  · exact ⟨h.cell 4, h.cell 5⟩
theorem one_change (w : World) (q : Int) (s : ByteArray) (d : Bool) : ChAt (w.alloc (.cells #[.int .i64 q, .string s, .bool d] 24)) (some ⟨w.heap.size, 0, none⟩) 1 [⟨q, s, d⟩] := by
  have k := Blk.new w 24 #[.int .i64 q, .string s, .bool d]
  refine ⟨rfl, fun _ => ⟨w.heap.size, 0, rfl, fun i hi => ?_⟩⟩
  have : i = 0 := by simp at hi; omega
  subst this
  exact ⟨k.cell 0, k.cell 1, k.cell 2⟩
end Go.Proofs.YtldbmogondmgmaaGreatDoor
set_option linter.unusedVariables false
set_option linter.unusedSimpArgs false
set_option maxRecDepth 100000
namespace Go.Proofs.YtldbmogondmgmaaGreatDoor
open Go.RowKit

set_option maxHeartbeats 2000000 in
theorem intentOf_c (x : Tx) (a b : Int) (l : List Ch) (A : Option Addr) (n c : Nat) (w : World) :
    Calls Tryz.prog 166 #[txv x, sv a b, .slice A n c] w fun e w' => e = .returned (itv (wIt x a b l) (.slice A n c)) ∧ Below w.heap.size w w' := by
  have hz1 : (w.alloc (.cells (txc x) 28)).heap.size = w.heap.size + 1 := World.size_alloc _ _
  have hz2 : ((w.alloc (.cells (txc x) 28)).alloc (.cells #[.int .i64 a, .int .i64 b] 26)).heap.size = w.heap.size + 1 + 1 := (World.size_alloc _ _).trans (by rw [hz1])
  have k0 := Blk.new ((w.alloc (.cells (txc x) 28)).alloc (.cells #[.int .i64 a, .int .i64 b] 26)) 39 (itc (wIt x a b l) (.slice A n c))
  rw [hz2] at k0
  have K0 := Lib.hid k0
  have G := Lib.hid (bsa (bsa (nbl w (.cells (txc x) 28)) (.cells #[.int .i64 a, .int .i64 b] 26)) (.cells (itc (wIt x a b l) (.slice A n c)) 39))
  clear k0 hz1 hz2
  obtain ⟨x0, x1, x2, x3, x4, x5, x6, x7, x8, x9, x10, x11⟩ := x
  go_enter Tryz.func166, Tryz.ntmps166
  go_wp2_with fail
  exact ret_it1 rfl rfl K0.out rfl rfl ⟨rfl, G.out⟩
end Go.Proofs.YtldbmogondmgmaaGreatDoor
set_option linter.unusedVariables false
set_option linter.unusedSimpArgs false
set_option maxRecDepth 100000
namespace Go.Proofs.YtldbmogondmgmaaGreatDoor
open Go.RowKit

theorem find_at {α : Type} {P : α → Bool} {l : List α} {k : Nat} (hk : k < l.length) (hno : ∀ y ∈ l.take k, P y = false) (hy : P (l[k]'hk) = true) : l.find? P = some (l[k]'hk) := by
  have h : l = l.take k ++ (l[k]'hk) :: l.drop (k + 1) := by rw [← List.drop_eq_getElem_cons hk, List.take_append_drop]
  have h2 : (l.take k ++ (l[k]'hk) :: l.drop (k + 1)).find? P = some (l[k]'hk) := by
    rw [List.find?_append, List.find?_eq_none.2 (fun y h3 => by rw [hno y h3]; decide), Option.none_or, List.find?_cons_of_pos hy]
  rw [← h] at h2
  exact h2
set_option maxHeartbeats 2000000 in
theorem poSeq (g : Nat) (y c : Ch) (w : World) (hg : Blk w g 24 #[.int .i64 c.q, .string c.s, .bool c.d]) :
    Calls Tryz.prog 168 #[chv y, pt g] w fun e w' => e = .returned (.bool (decide (c.q ≤ y.q))) ∧ Below w.heap.size w w' := by
  obtain ⟨q, s, d⟩ := y
  obtain ⟨q', s', d'⟩ := c
  have hX := Blk.new w 24 #[.int .i64 q, .string s, .bool d]
  have hG := hg.below (nbl w (.cells #[.int .i64 q, .string s, .bool d] 24)) hg.lt
  have HB := Lib.hid (nbl w (.cells #[.int .i64 q, .string s, .bool d] 24))
  have x0 := hX.cell 0
  have y0 := hG.cell 0
  simp at x0 y0
  clear hX hG hg
  go_enter Tryz.func168, Tryz.ntmps168
  go_wp2_with fail
  go_ret
  exact ⟨by first | rfl | simp, HB.out⟩
set_option maxHeartbeats 4000000 in
theorem poIdx (g : Nat) (ch : Ch) (A : Option Addr) (n c : Nat) (l : List Ch) (hn : n ≤ 9223372036854775807) (w : World) (hx : ChAt w A n l) (hg : Blk w g 24 #[.int .i64 ch.q, .string ch.s, .bool ch.d]) :
    Calls Tryz.prog 167 #[.slice A n c, .func (.func 168) #[] #[pt g]] w fun e w' => (∃ k : Int, e = .returned (.int .i64 k) ∧ ((l.find? (fun h => decide (ch.q ≤ h.q)) = none ∧ k = -1) ∨ ∃ (i : Nat) (h : i < l.length), k = (i : Int) ∧ l.find? (fun h => decide (ch.q ≤ h.q)) = some (l[i]'h))) ∧ Below w.heap.size w w' := by
  have HX := Lib.hid hx
  have HG := Lib.hid hg
  have HL := Lib.hid hx.1
  clear hx hg
  go_enter Tryz.func167, Tryz.ntmps167
  go_wp2
  go_loopw [8] (fun i wr => ∃ (k : Nat), k ≤ n ∧ i = .int .i64 k ∧ Hid (∀ y ∈ l.take k, y.q < ch.q) ∧ Hid (Below w.heap.size w wr)) (fun i _ => n - (intOf i).toNat)
  case atStart => exact ⟨0, Nat.zero_le _, rfl, Lib.hid (fun y hy => (nomatch hy)), Lib.hid (Below.refl _ _)⟩
  case round =>
    obtain ⟨k, hk, rfl, HNO, HB⟩ := hrel
    by_cases hlt : k < n
    · have hkl : k < l.length := by rw [HL.out]; exact hlt
      obtain ⟨b, o, rfl, hc⟩ := (HX.out.below HB.out).2 (by omega)
      obtain ⟨h1, h2, h3⟩ := hc k hkl
      have hs := poSeq g (l[k]'hkl) ch wr (HG.out.below HB.out HG.out.lt)
      have HTK := Lib.hid (List.take_succ_eq_append_getElem hkl)
      have HFD := Lib.hid (fun (hy : ch.q ≤ (l[k]'hkl).q) => find_at (P := fun h : Ch => decide (ch.q ≤ h.q)) hkl (fun y hy2 => by have := HNO.out y hy2; simp; omega) (by simpa using hy))
      obtain ⟨y, hy⟩ : ∃ y, l[k]'hkl = y := ⟨_, rfl⟩
      rw [hy] at h1 h2 h3 hs HFD
      have HY := Lib.hid hy
      clear hc hy
      by_cases hq : ch.q ≤ y.q
      · have HF := Lib.hid (HFD.out hq)
        rw [decide_eq_true hq] at hs
        clear hq HFD HTK
        go_wp2_with fail
        refine hs.mono ?_
        rintro e w2 ⟨rfl, hb2⟩
        have HB2 := Lib.hid (bst HB.out hb2)
        clear hb2
        go_wp2
        go_ret
        exact ⟨⟨k, rfl, .inr ⟨k, hkl, rfl, by rw [HF.out, HY.out]⟩⟩, HB2.out⟩
      · have HN2 := Lib.hid (show ∀ z ∈ l.take (k + 1), z.q < ch.q from fun z hz => by
          rw [HTK.out] at hz
          rcases List.mem_append.1 hz with h | h
          · exact HNO.out z h
          · rw [List.mem_singleton.1 h, HY.out]; omega)
        rw [decide_eq_false hq] at hs
        clear hq HFD HTK HNO
        go_wp2_with fail
        refine hs.mono ?_
        rintro e w2 ⟨rfl, hb2⟩
        have HB2 := Lib.hid (bst HB.out hb2)
        clear hb2
        go_wp2
        go_roundw
        case rel => exact ⟨k + 1, by omega, by go_num, HN2, HB2⟩
        case measure => simp [intOf]; omega
    · have HF := Lib.hid (show l.find? (fun h => decide (ch.q ≤ h.q)) = none from by
        refine List.find?_eq_none.2 (fun y hy => ?_)
        have := HNO.out y (by rw [List.take_of_length_le (by have := HL.out; omega)]; exact hy)
        simpa using this)
      clear HNO
      go_wp2
      go_ret
      exact ⟨⟨-1, rfl, .inl ⟨HF.out, rfl⟩⟩, HB.out⟩
set_option maxHeartbeats 4000000 in
theorem find_c (ch : Ch) (A : Option Addr) (n c : Nat) (l : List Ch) (hn : n ≤ 9223372036854775807) (w : World) (hx : ChAt w A n l) :
    Calls Tryz.prog 103 #[.slice A n c, chv ch] w fun e w' => e = .returned (.tuple #[.bool (findW l ch).1, .int .i64 (findW l ch).2]) ∧ Below w.heap.size w w' := by
  obtain ⟨q, s, d⟩ := ch
  have g0 := nbl w (.cells #[.int .i64 q, .string s, .bool d] 24)
  have HI := Lib.hid (poIdx w.heap.size ⟨q, s, d⟩ A n c l hn (w.alloc (.cells #[.int .i64 q, .string s, .bool d] 24)) (hx.below g0) (Blk.new w _ _))
  have HX := Lib.hid (hx.below g0)
  have HL := Lib.hid hx.1
  have HK := Lib.hid (Blk.new w 24 #[.int .i64 q, .string s, .bool d])
  have HB := Lib.hid g0
  clear hx g0
  go_enter Tryz.func103, Tryz.ntmps103
  go_wp2_with fail
  refine HI.out.mono ?_
  rintro e w1 ⟨⟨k, rfl, hk⟩, hb1⟩
  have HB1 := Lib.hid (bst HB.out hb1)
  have kx := HK.out.below hb1 HK.out.lt
  have x0 := kx.cell 0
  have x1 := kx.cell 1
  have x2 := kx.cell 2
  simp at x0 x1 x2
  have HX1 := Lib.hid (HX.out.below hb1)
  clear hb1 kx
  rcases hk with ⟨hf, rfl⟩ | ⟨i, hi, rfl, hf⟩
  · by_cases h16 : n = 16
    · have HF := Lib.hid (show findW l ⟨q, s, d⟩ = (false, 7) from by unfold findW; rw [hf]; simp only; rw [if_pos (by rw [HL.out]; exact h16)])
      clear hf
      subst h16
      go_wp2_with fail
      go_ret2
      rw [HF.out]
      exact ⟨rfl, HB1.out⟩
    · have HF := Lib.hid (show findW l ⟨q, s, d⟩ = (false, 0) from by unfold findW; rw [hf]; simp only; rw [if_neg (by rw [HL.out]; exact h16)])
      have hn16 : ¬ (n : Int) = 16 := by omega
      have hn16b : ((n : Int) == 16) = false := by simpa using hn16
      clear hf
      go_wp2_with fail
      go_ret2
      rw [HF.out]
      exact ⟨rfl, HB1.out⟩
  · obtain ⟨b, o, rfl, hc⟩ := HX1.out.2 (by have := HL.out; omega)
    obtain ⟨h1, h2, h3⟩ := hc i hi
    have hin : i < n := by have := HL.out; omega
    have hi0 : ¬ (i : Int) < 0 := by omega
    have hi1 : (0 : Int) ≤ (i : Int) := by omega
    have hi2 : (i : Int) < (n : Int) := by omega
    obtain ⟨y, hy⟩ : ∃ y, l[i]'hi = y := ⟨_, rfl⟩
    rw [hy] at h1 h2 h3 hf
    obtain ⟨u0, u1, u2⟩ := y
    simp only at h1 h2 h3
    have HFD := Lib.hid (show findW l ⟨q, s, d⟩ = if u0 = q then (if u1 = s ∧ u2 = d then (true, 0) else (false, 2)) else (false, 201) from by unfold findW; rw [hf])
    clear hc hy hf HI HK
    by_cases e0 : u0 = q
    · subst e0
      by_cases e1 : u1 = s
      · subst e1
        have t1 := text_eq u1
        by_cases e2 : u2 = d
        · subst e2
          have HF := Lib.hid (HFD.out.trans (by rw [if_pos rfl, if_pos ⟨rfl, rfl⟩]))
          clear HFD
          go_wp2_with (go_quiet (fail))
          go_ret2
          rw [HF.out]
          exact ⟨rfl, by first | exact HB1.out | exact below_drewN HB1.out _⟩
        · have HF := Lib.hid (HFD.out.trans (by rw [if_pos rfl, if_neg (fun h => e2 h.2)]))
          have n2 : (u2 == d) = false := by simpa using e2
          clear HFD
          go_wp2_with (go_quiet (fail))
          go_ret2
          rw [HF.out]
          exact ⟨rfl, by first | exact HB1.out | exact below_drewN HB1.out _⟩
      · have HF := Lib.hid (HFD.out.trans (by rw [if_pos rfl, if_neg (fun h => e1 h.1)]))
        have n1 := text_ne e1
        clear HFD
        go_wp2_with (go_quiet (fail))
        go_ret2
        rw [HF.out]
        exact ⟨rfl, by first | exact HB1.out | exact below_drewN HB1.out _⟩
    · have HF := Lib.hid (HFD.out.trans (by rw [if_neg e0]))
      have n0 : (u0 == q) = false := by simpa using e0
      clear HFD
      go_wp2_with (go_quiet (fail))
      go_ret2
      rw [HF.out]
      exact ⟨rfl, by first | exact HB1.out | exact below_drewN HB1.out _⟩
end Go.Proofs.YtldbmogondmgmaaGreatDoor
set_option linter.unusedVariables false
set_option linter.unusedSimpArgs false
set_option maxRecDepth 100000
namespace Go.Proofs.YtldbmogondmgmaaGreatDoor
open Go.RowKit

theorem markK_form (key : ByteArray) : ∃ s n, markK [105] key [] = .returned (.tuple #[.string s, .int .i64 n]) ∧ (isK key = true → n = 0 ∧ s = bs (ikey (sb key))) ∧ (isK key = false → n = 2) := by
  unfold markK
  cases h : isK key
  · exact ⟨_, _, rfl, (fun h => nomatch h), fun _ => rfl⟩
  · exact ⟨_, _, rfl, (fun _ => ⟨rfl, by simp [bs, ikey]⟩), (fun h => nomatch h)⟩
set_option maxHeartbeats 4000000 in
theorem poCheck {w V : World} {T : List As} {p N : Nat} {r : List Rw} (h : Has w (tbA p r :: T) V) (hr : ROk N r) (hN : N ≤ 999999000) (hM : MaxL w) (key : ByteArray) (ch : Ch) (x : Tx) (m1 m2 : Int) :
    Calls Tryz.prog 101 #[pt p, .string key, chv ch, txv x, sv m1 m2] V fun e w' => e = .returned (.int .i64 (chkW (isK key) ch x (m1, m2))) ∧ Has w (tbA p r :: T) w' := by
  obtain ⟨q, s, d⟩ := ch
  obtain ⟨ks, kn, hks, hk1, hk2⟩ := markK_form key
  have HK := Lib.hid (fun W (hb : Below w.heap.size w W) => intentKey_c key W (hM.below hb))
  rw [hks] at HK
  have HCI := Lib.hid (fun A n c W (hA : ChAt W A n [(⟨q, s, d⟩ : Ch)]) hn => checkI (wIt x x.ww x.wl [⟨q, s, d⟩]) A n c W hA hn)
  have hst : ([(x.rw, x.rl), (x.lw, x.ll), (m1, m2)] : List (Int × Int)).all mayP = (may x.rw x.rl && may x.lw x.ll && may m1 m2) := by simp [mayP, Bool.and_assoc]
  have HS := Lib.hid (fun W => poStamps (some ⟨W.heap.size, 0, none⟩) 3 3 [(x.rw, x.rl), (x.lw, x.ll), (m1, m2)] _ hst (W.alloc (.cells #[.int .i64 x.rw, .int .i64 x.rl, .int .i64 x.lw, .int .i64 x.ll, .int .i64 m1, .int .i64 m2] 26)) (by decide) (three_stamps W x.rw x.rl x.lw x.ll m1 m2))
  have h1 := ((h.newBlk 24 #[.int .i64 q, .string s, .bool d]).newBlk 28 (txc x)).newBlk 26 #[.int .i64 m1, .int .i64 m2]
  have hz1 : (V.alloc (.cells #[.int .i64 q, .string s, .bool d] 24)).heap.size = V.heap.size + 1 := World.size_alloc _ _
  have hz2 : ((V.alloc (.cells #[.int .i64 q, .string s, .bool d] 24)).alloc (.cells (txc x) 28)).heap.size = V.heap.size + 1 + 1 := (World.size_alloc _ _).trans (by rw [hz1])
  rw [hz2, hz1] at h1
  unfold chkW
  simp only
  obtain ⟨st, hst2⟩ : ∃ st, (may x.rw x.rl && may x.lw x.ll && may m1 m2) = st := ⟨_, rfl⟩
  obtain ⟨mi, hmi⟩ : ∃ mi, mayI (wIt x x.ww x.wl [⟨q, s, d⟩]) = mi := ⟨_, rfl⟩
  rw [hst2] at HS ⊢
  rw [hmi] at HCI ⊢
  clear hst hst2 hmi hks
  obtain ⟨x0, x1, x2, x3, x4, x5, x6, x7, x8, x9, x10, x11⟩ := x
  have HA := Lib.hid (show Calls Tryz.prog 27 #[pt p, .slice none 0 0] _ fun e w' => e = .returned (.int .i64 0) ∧ Has w (blkA (V.heap.size + 1 + 1) 26 #[.int .i64 m1, .int .i64 m2] :: blkA (V.heap.size + 1) 28 (txc ⟨x0, x1, x2, x3, x4, x5, x6, x7, x8, x9, x10, x11⟩) :: blkA V.heap.size 24 #[.int .i64 q, .string s, .bool d] :: tbA p r :: T) w' from
    (Has.tbApply (h1.perm (List.perm_middle (l₁ := [_, _, _]))) hr hN none 0 0 [] ⟨rfl, fun h => absurd h (by omega)⟩ (by omega) (fun o ho => nomatch ho)).mono fun e w' hq => ⟨hq.1, hq.2.1.perm (List.perm_middle (l₁ := [_, _, _])).symm⟩)
  clear h h1 hr hN hz1 hz2
  cases hik : isK key
  · have := hk2 hik
    subst this
    clear hk1 hk2 HCI
    go_enter Tryz.func101, Tryz.ntmps101
    go_wp2_with (first
      | (go_at_call 27; refine HA.out.mono ?_; rintro e w1 ⟨rfl, h1⟩
         have H1 := Lib.hid h1
         clear h1)
      | (go_at_call 13; refine (HK.out w1 H1.out.bel).mono ?_; rintro e w2 ⟨rfl, hb2⟩
         have h2 := H1.out.keep hb2
         have b7 := h2.blkAt (g := V.heap.size) (t := 24) (cs := #[.int .i64 q, .string s, .bool d]) (by simp)
         have b8 := h2.blkAt (g := V.heap.size + 1) (t := 28) (cs := txc ⟨x0, x1, x2, x3, x4, x5, x6, x7, x8, x9, x10, x11⟩) (by simp)
         have b9 := h2.blkAt (g := V.heap.size + 1 + 1) (t := 26) (cs := #[.int .i64 m1, .int .i64 m2]) (by simp)
         have ac0 := b7.cell 0
         have ac1 := b7.cell 1
         have ac2 := b7.cell 2
         have at0 := b8.cell 0
         have at1 := b8.cell 1
         have at2 := b8.cell 2
         have at3 := b8.cell 3
         have at4 := b8.cell 4
         have at5 := b8.cell 5
         have at6 := b8.cell 6
         have at7 := b8.cell 7
         have at8 := b8.cell 8
         have at9 := b8.cell 9
         have at10 := b8.cell 10
         have at11 := b8.cell 11
         have as0 := b9.cell 0
         have as1 := b9.cell 1
         simp at ac0 ac1 ac2 at0 at1 at2 at3 at4 at5 at6 at7 at8 at9 at10 at11 as0 as1
         clear b7 b8 b9
         have HS2 := Lib.hid (HS.out w2)
         have H2 := Lib.hid h2
         have H2b := Lib.hid (h2.keep (nbl w2 (.cells #[.int .i64 x4, .int .i64 x5, .int .i64 x8, .int .i64 x9, .int .i64 m1, .int .i64 m2] 26)))
         clear hb2 h2)
      | (go_at_call 165; refine HS2.out.mono ?_; rintro e w3 ⟨rfl, hb3⟩
         have h3 := H2b.out.keep hb3
         have b7 := h3.blkAt (g := V.heap.size) (t := 24) (cs := #[.int .i64 q, .string s, .bool d]) (by simp)
         have b8 := h3.blkAt (g := V.heap.size + 1) (t := 28) (cs := txc ⟨x0, x1, x2, x3, x4, x5, x6, x7, x8, x9, x10, x11⟩) (by simp)
         have b9 := h3.blkAt (g := V.heap.size + 1 + 1) (t := 26) (cs := #[.int .i64 m1, .int .i64 m2]) (by simp)
         have bc0 := b7.cell 0
         have bc1 := b7.cell 1
         have bc2 := b7.cell 2
         have bt0 := b8.cell 0
         have bt1 := b8.cell 1
         have bt2 := b8.cell 2
         have bt3 := b8.cell 3
         have bt4 := b8.cell 4
         have bt5 := b8.cell 5
         have bt6 := b8.cell 6
         have bt7 := b8.cell 7
         have bt8 := b8.cell 8
         have bt9 := b8.cell 9
         have bt10 := b8.cell 10
         have bt11 := b8.cell 11
         have bs0 := b9.cell 0
         have bs1 := b9.cell 1
         simp at bc0 bc1 bc2 bt0 bt1 bt2 bt3 bt4 bt5 bt6 bt7 bt8 bt9 bt10 bt11 bs0 bs1
         clear b7 b8 b9
         have H3 := Lib.hid h3
         have H3b := Lib.hid (h3.keep (nbl w3 (.cells #[.int .i64 q, .string s, .bool d] 24)))
         have HO := Lib.hid (one_change w3 q s d)
         clear hb3 h3)
      | (go_at_call 166; refine (intentOf_c ⟨x0, x1, x2, x3, x4, x5, x6, x7, x8, x9, x10, x11⟩ x6 x7 [⟨q, s, d⟩] _ _ _ _).mono ?_; rintro e w4 ⟨rfl, hb4⟩
         have H4 := Lib.hid (H3b.out.keep hb4)
         have HO4 := Lib.hid (HO.out.below hb4)
         clear hb4)
      | (go_at_call 54; refine (HCI.out _ _ _ w4 HO4.out (by omega)).mono ?_; rintro e w5 ⟨rfl, hb5⟩
         have H5 := Lib.hid (H4.out.keep hb5)
         clear hb5))
    go_ret
    exact ⟨rfl, H2.out.tail.tail.tail⟩
  · obtain ⟨rfl, -⟩ := hk1 hik
    clear hk1 hk2
    cases st
    · clear HCI
      go_enter Tryz.func101, Tryz.ntmps101
      go_wp2_with (first
        | (go_at_call 27; refine HA.out.mono ?_; rintro e w1 ⟨rfl, h1⟩
           have H1 := Lib.hid h1
           clear h1)
        | (go_at_call 13; refine (HK.out w1 H1.out.bel).mono ?_; rintro e w2 ⟨rfl, hb2⟩
           have h2 := H1.out.keep hb2
           have b7 := h2.blkAt (g := V.heap.size) (t := 24) (cs := #[.int .i64 q, .string s, .bool d]) (by simp)
           have b8 := h2.blkAt (g := V.heap.size + 1) (t := 28) (cs := txc ⟨x0, x1, x2, x3, x4, x5, x6, x7, x8, x9, x10, x11⟩) (by simp)
           have b9 := h2.blkAt (g := V.heap.size + 1 + 1) (t := 26) (cs := #[.int .i64 m1, .int .i64 m2]) (by simp)
           have ac0 := b7.cell 0
           have ac1 := b7.cell 1
           have ac2 := b7.cell 2
           have at0 := b8.cell 0
           have at1 := b8.cell 1
           have at2 := b8.cell 2
           have at3 := b8.cell 3
           have at4 := b8.cell 4
           have at5 := b8.cell 5
           have at6 := b8.cell 6
           have at7 := b8.cell 7
           have at8 := b8.cell 8
           have at9 := b8.cell 9
           have at10 := b8.cell 10
           have at11 := b8.cell 11
           have as0 := b9.cell 0
           have as1 := b9.cell 1
           simp at ac0 ac1 ac2 at0 at1 at2 at3 at4 at5 at6 at7 at8 at9 at10 at11 as0 as1
           clear b7 b8 b9
           have HS2 := Lib.hid (HS.out w2)
           have H2 := Lib.hid h2
           have H2b := Lib.hid (h2.keep (nbl w2 (.cells #[.int .i64 x4, .int .i64 x5, .int .i64 x8, .int .i64 x9, .int .i64 m1, .int .i64 m2] 26)))
           clear hb2 h2)
        | (go_at_call 165; refine HS2.out.mono ?_; rintro e w3 ⟨rfl, hb3⟩
           have h3 := H2b.out.keep hb3
           have b7 := h3.blkAt (g := V.heap.size) (t := 24) (cs := #[.int .i64 q, .string s, .bool d]) (by simp)
           have b8 := h3.blkAt (g := V.heap.size + 1) (t := 28) (cs := txc ⟨x0, x1, x2, x3, x4, x5, x6, x7, x8, x9, x10, x11⟩) (by simp)
           have b9 := h3.blkAt (g := V.heap.size + 1 + 1) (t := 26) (cs := #[.int .i64 m1, .int .i64 m2]) (by simp)
           have bc0 := b7.cell 0
           have bc1 := b7.cell 1
           have bc2 := b7.cell 2
           have bt0 := b8.cell 0
           have bt1 := b8.cell 1
           have bt2 := b8.cell 2
           have bt3 := b8.cell 3
           have bt4 := b8.cell 4
           have bt5 := b8.cell 5
           have bt6 := b8.cell 6
           have bt7 := b8.cell 7
           have bt8 := b8.cell 8
           have bt9 := b8.cell 9
           have bt10 := b8.cell 10
           have bt11 := b8.cell 11
           have bs0 := b9.cell 0
           have bs1 := b9.cell 1
           simp at bc0 bc1 bc2 bt0 bt1 bt2 bt3 bt4 bt5 bt6 bt7 bt8 bt9 bt10 bt11 bs0 bs1
           clear b7 b8 b9
           have H3 := Lib.hid h3
           have H3b := Lib.hid (h3.keep (nbl w3 (.cells #[.int .i64 q, .string s, .bool d] 24)))
           have HO := Lib.hid (one_change w3 q s d)
           clear hb3 h3)
        | (go_at_call 166; refine (intentOf_c ⟨x0, x1, x2, x3, x4, x5, x6, x7, x8, x9, x10, x11⟩ x6 x7 [⟨q, s, d⟩] _ _ _ _).mono ?_; rintro e w4 ⟨rfl, hb4⟩
           have H4 := Lib.hid (H3b.out.keep hb4)
           have HO4 := Lib.hid (HO.out.below hb4)
           clear hb4)
        | (go_at_call 54; refine (HCI.out _ _ _ w4 HO4.out (by omega)).mono ?_; rintro e w5 ⟨rfl, hb5⟩
           have H5 := Lib.hid (H4.out.keep hb5)
           clear hb5))
      go_ret
      exact ⟨rfl, H3.out.tail.tail.tail⟩
    · cases mi
      · go_enter Tryz.func101, Tryz.ntmps101
        go_wp2_with (first
          | (go_at_call 27; refine HA.out.mono ?_; rintro e w1 ⟨rfl, h1⟩
             have H1 := Lib.hid h1
             clear h1)
          | (go_at_call 13; refine (HK.out w1 H1.out.bel).mono ?_; rintro e w2 ⟨rfl, hb2⟩
             have h2 := H1.out.keep hb2
             have b7 := h2.blkAt (g := V.heap.size) (t := 24) (cs := #[.int .i64 q, .string s, .bool d]) (by simp)
             have b8 := h2.blkAt (g := V.heap.size + 1) (t := 28) (cs := txc ⟨x0, x1, x2, x3, x4, x5, x6, x7, x8, x9, x10, x11⟩) (by simp)
             have b9 := h2.blkAt (g := V.heap.size + 1 + 1) (t := 26) (cs := #[.int .i64 m1, .int .i64 m2]) (by simp)
             have ac0 := b7.cell 0
             have ac1 := b7.cell 1
             have ac2 := b7.cell 2
             have at0 := b8.cell 0
             have at1 := b8.cell 1
             have at2 := b8.cell 2
             have at3 := b8.cell 3
             have at4 := b8.cell 4
             have at5 := b8.cell 5
             have at6 := b8.cell 6
             have at7 := b8.cell 7
             have at8 := b8.cell 8
             have at9 := b8.cell 9
             have at10 := b8.cell 10
             have at11 := b8.cell 11
             have as0 := b9.cell 0
             have as1 := b9.cell 1
             simp at ac0 ac1 ac2 at0 at1 at2 at3 at4 at5 at6 at7 at8 at9 at10 at11 as0 as1
             clear b7 b8 b9
             have HS2 := Lib.hid (HS.out w2)
             have H2 := Lib.hid h2
             have H2b := Lib.hid (h2.keep (nbl w2 (.cells #[.int .i64 x4, .int .i64 x5, .int .i64 x8, .int .i64 x9, .int .i64 m1, .int .i64 m2] 26)))
             clear hb2 h2)
          | (go_at_call 165; refine HS2.out.mono ?_; rintro e w3 ⟨rfl, hb3⟩
             have h3 := H2b.out.keep hb3
             have b7 := h3.blkAt (g := V.heap.size) (t := 24) (cs := #[.int .i64 q, .string s, .bool d]) (by simp)
             have b8 := h3.blkAt (g := V.heap.size + 1) (t := 28) (cs := txc ⟨x0, x1, x2, x3, x4, x5, x6, x7, x8, x9, x10, x11⟩) (by simp)
             have b9 := h3.blkAt (g := V.heap.size + 1 + 1) (t := 26) (cs := #[.int .i64 m1, .int .i64 m2]) (by simp)
             have bc0 := b7.cell 0
             have bc1 := b7.cell 1
             have bc2 := b7.cell 2
             have bt0 := b8.cell 0
             have bt1 := b8.cell 1
             have bt2 := b8.cell 2
             have bt3 := b8.cell 3
             have bt4 := b8.cell 4
             have bt5 := b8.cell 5
             have bt6 := b8.cell 6
             have bt7 := b8.cell 7
             have bt8 := b8.cell 8
             have bt9 := b8.cell 9
             have bt10 := b8.cell 10
             have bt11 := b8.cell 11
             have bs0 := b9.cell 0
             have bs1 := b9.cell 1
             simp at bc0 bc1 bc2 bt0 bt1 bt2 bt3 bt4 bt5 bt6 bt7 bt8 bt9 bt10 bt11 bs0 bs1
             clear b7 b8 b9
             have H3 := Lib.hid h3
             have H3b := Lib.hid (h3.keep (nbl w3 (.cells #[.int .i64 q, .string s, .bool d] 24)))
             have HO := Lib.hid (one_change w3 q s d)
             clear hb3 h3)
          | (go_at_call 166; refine (intentOf_c ⟨x0, x1, x2, x3, x4, x5, x6, x7, x8, x9, x10, x11⟩ x6 x7 [⟨q, s, d⟩] _ _ _ _).mono ?_; rintro e w4 ⟨rfl, hb4⟩
             have H4 := Lib.hid (H3b.out.keep hb4)
             have HO4 := Lib.hid (HO.out.below hb4)
             clear hb4)
          | (go_at_call 54; refine (HCI.out _ _ _ w4 HO4.out (by omega)).mono ?_; rintro e w5 ⟨rfl, hb5⟩
             have H5 := Lib.hid (H4.out.keep hb5)
             clear hb5))
        go_ret
        exact ⟨rfl, H5.out.tail.tail.tail⟩
      · go_enter Tryz.func101, Tryz.ntmps101
        go_wp2_with (first
          | (go_at_call 27; refine HA.out.mono ?_; rintro e w1 ⟨rfl, h1⟩
             have H1 := Lib.hid h1
             clear h1)
          | (go_at_call 13; refine (HK.out w1 H1.out.bel).mono ?_; rintro e w2 ⟨rfl, hb2⟩
             have h2 := H1.out.keep hb2
             have b7 := h2.blkAt (g := V.heap.size) (t := 24) (cs := #[.int .i64 q, .string s, .bool d]) (by simp)
             have b8 := h2.blkAt (g := V.heap.size + 1) (t := 28) (cs := txc ⟨x0, x1, x2, x3, x4, x5, x6, x7, x8, x9, x10, x11⟩) (by simp)
             have b9 := h2.blkAt (g := V.heap.size + 1 + 1) (t := 26) (cs := #[.int .i64 m1, .int .i64 m2]) (by simp)
             have ac0 := b7.cell 0
             have ac1 := b7.cell 1
             have ac2 := b7.cell 2
             have at0 := b8.cell 0
             have at1 := b8.cell 1
             have at2 := b8.cell 2
             have at3 := b8.cell 3
             have at4 := b8.cell 4
             have at5 := b8.cell 5
             have at6 := b8.cell 6
             have at7 := b8.cell 7
             have at8 := b8.cell 8
             have at9 := b8.cell 9
             have at10 := b8.cell 10
             have at11 := b8.cell 11
             have as0 := b9.cell 0
             have as1 := b9.cell 1
             simp at ac0 ac1 ac2 at0 at1 at2 at3 at4 at5 at6 at7 at8 at9 at10 at11 as0 as1
             clear b7 b8 b9
             have HS2 := Lib.hid (HS.out w2)
             have H2 := Lib.hid h2
             have H2b := Lib.hid (h2.keep (nbl w2 (.cells #[.int .i64 x4, .int .i64 x5, .int .i64 x8, .int .i64 x9, .int .i64 m1, .int .i64 m2] 26)))
             clear hb2 h2)
          | (go_at_call 165; refine HS2.out.mono ?_; rintro e w3 ⟨rfl, hb3⟩
             have h3 := H2b.out.keep hb3
             have b7 := h3.blkAt (g := V.heap.size) (t := 24) (cs := #[.int .i64 q, .string s, .bool d]) (by simp)
             have b8 := h3.blkAt (g := V.heap.size + 1) (t := 28) (cs := txc ⟨x0, x1, x2, x3, x4, x5, x6, x7, x8, x9, x10, x11⟩) (by simp)
             have b9 := h3.blkAt (g := V.heap.size + 1 + 1) (t := 26) (cs := #[.int .i64 m1, .int .i64 m2]) (by simp)
             have bc0 := b7.cell 0
             have bc1 := b7.cell 1
             have bc2 := b7.cell 2
             have bt0 := b8.cell 0
             have bt1 := b8.cell 1
             have bt2 := b8.cell 2
             have bt3 := b8.cell 3
             have bt4 := b8.cell 4
             have bt5 := b8.cell 5
             have bt6 := b8.cell 6
             have bt7 := b8.cell 7
             have bt8 := b8.cell 8
             have bt9 := b8.cell 9
             have bt10 := b8.cell 10
             have bt11 := b8.cell 11
             have bs0 := b9.cell 0
             have bs1 := b9.cell 1
             simp at bc0 bc1 bc2 bt0 bt1 bt2 bt3 bt4 bt5 bt6 bt7 bt8 bt9 bt10 bt11 bs0 bs1
             clear b7 b8 b9
             have H3 := Lib.hid h3
             have H3b := Lib.hid (h3.keep (nbl w3 (.cells #[.int .i64 q, .string s, .bool d] 24)))
             have HO := Lib.hid (one_change w3 q s d)
             clear hb3 h3)
          | (go_at_call 166; refine (intentOf_c ⟨x0, x1, x2, x3, x4, x5, x6, x7, x8, x9, x10, x11⟩ x6 x7 [⟨q, s, d⟩] _ _ _ _).mono ?_; rintro e w4 ⟨rfl, hb4⟩
             have H4 := Lib.hid (H3b.out.keep hb4)
             have HO4 := Lib.hid (HO.out.below hb4)
             clear hb4)
          | (go_at_call 54; refine (HCI.out _ _ _ w4 HO4.out (by omega)).mono ?_; rintro e w5 ⟨rfl, hb5⟩
             have H5 := Lib.hid (H4.out.keep hb5)
             clear hb5))
        go_ret
        exact ⟨rfl, H5.out.tail.tail.tail⟩
end Go.Proofs.YtldbmogondmgmaaGreatDoor
set_option linter.unusedVariables false
set_option linter.unusedSimpArgs false
set_option maxRecDepth 100000
namespace Go.Proofs.YtldbmogondmgmaaGreatDoor
open Go.RowKit Go.Shelf
attribute [local go_sem] Oper.semAt_some

def stO : Option Ver → Int × Int
  | none => (0, 0)
  | some (a, b, _) => (a, b)
theorem nwV_is (r : List Rw) (key : ByteArray) : nwV r key = stO ((btw r (bs (vkey (sb key) 1099511627776 1048575)) (bs (vkey (sb key) 0 0))).findSome? vrow) := by
  unfold nwV
  cases (btw r (bs (vkey (sb key) 1099511627776 1048575)) (bs (vkey (sb key) 0 0))).findSome? vrow with
  | none => rfl
  | some q => rfl
theorem results_st {fn : Func} {tmps : Array Value} {w : World} {p : Tmp} {g : Nat} {cs : Array Value} (hr : fn.results = #[.cell p 26]) (hp : tmps.getD p undef = .pointer (some ⟨g, 0, none⟩))
    (hB : Blk w g 26 cs) (hs : cs.size = 2) : (results fn tmps).run Tryz.prog w = .ok (.agg cs) w := by
  have hp' : tmps[p]?.getD undef = .pointer (some ⟨g, 0, none⟩) := by simpa using hp
  simp [results, hr, hp', asAddr, run_loadVar_row w g 26 26 _ (0, 0) _ hB Tryz.underlying26 rfl (by rw [hs]; kernel_rfl)]
theorem from2 {B g : Nat} {t : TypeId} {cs : Array Value} {W : World} {v0 v1 : Value} (h : Blk W g t cs) : KeepsFrom B W ((W.setCell ⟨g, 0, none⟩ v0).setCell ⟨g, 1, none⟩ v1) :=
  ((KeepsFrom.refl B W).trans (pk_from_put (i := 0) (u := v0) h)).trans (pk_from_put (i := 1) (u := v1) (h.set_ 0 v0))
theorem heap2 {W : World} {g D : Nat} {v0 v1 : Value} {o : Obj} (hne : D ≠ g) (hK : W.heap[D]? = some o) : ((W.setCell ⟨g, 0, none⟩ v0).setCell ⟨g, 1, none⟩ v1).heap[D]? = some o := by
  simp only [heap_set_ne hne]
  exact hK
theorem Has.all2 {w V : World} {l : List As} {g : Nat} {t : TypeId} {c0 c1 v0 v1 : Value} (h : Has w (blkA g t #[c0, c1] :: l) V) : Has w (blkA g t #[v0, v1] :: l) ((V.setCell ⟨g, 0, none⟩ v0).setCell ⟨g, 1, none⟩ v1) := by
  have := ((h.setBlk 0 v0).setBlk 1 v1)
  simpa using this
set_option maxHeartbeats 4000000 in
theorem newest_c {V : World} {p : Nat} {r : List Rw} {F : Nat → Prop} (h : (tbA p r).p V F) (hz : Szs r) (hM : MaxL V) (key : ByteArray) (hk : isK key = true) :
    Calls Tryz.prog 170 #[pt p, .string key] V fun e w' => e = .returned (sv (nwV r key).1 (nwV r key).2) ∧ Below V.heap.size V w' := by
  have hsor := tbA_sor h
  have HV1 := Lib.hid (fun W hW => pkVKey key 1099511627776 1048575 hk (by decide) W (hM.below hW))
  have HV2 := Lib.hid (fun W hW => pkVKey key 0 0 hk (by decide) W (hM.below hW))
  rw [nwV_is]
  generalize bs (vkey (sb key) 1099511627776 1048575) = f at *
  generalize bs (vkey (sb key) 0 0) = t at *
  obtain ⟨o, ho⟩ : ∃ o, (btw r f t).findSome? vrow = o := ⟨_, rfl⟩
  rw [ho]
  have HO := Lib.hid ho
  have H := Lib.hid h
  have HZ := Lib.hid hz
  have HS := Lib.hid hsor
  have h0 := (Has.nil (Below.refl V.heap.size V)).newBlk 26 #[.int .i64 0, .int .i64 0]
  have H0 := Lib.hid h0
  clear h hz hsor ho hk hM h0
  refine (callsIn_wide (n := 3)).1 (callsIn_of_wp_marks Tryz.func170 rfl trivial (wpIn_wide.2 ?_) rfl)
  simp only [Tryz.ntmps170, List.size_toArray, List.length_cons, List.length_nil, Nat.reduceAdd, Nat.reduceSub, Array.replicate_succ, Array.replicate_zero, List.push_toArray, List.append_toArray, List.nil_append, List.cons_append]
  go_wp2_with (first
    | (go_at_call_of 130 (Value.agg #[.int .i64 1099511627776, .int .i64 1048575]); refine (HV1.out _ H0.out.bel).mono ?_; rintro e w1 ⟨rfl, hb1⟩
       have h1 := H0.out.keep hb1
       have H1 := Lib.hid h1
       clear hb1 h1)
    | (go_at_call_of 130 (Value.agg #[.int .i64 0, .int .i64 0]); refine (HV2.out _ H1.out.bel).mono ?_; rintro e w2 ⟨rfl, hb2⟩
       have h2 := H1.out.keep hb2
       have H2 := Lib.hid h2
       clear hb2 h2)
    | (go_at_call 55; refine (Has.tbAll H2.out p f t).mono ?_; rintro e W0 ⟨g1, g2, g3, rfl, h4⟩; have H4 := Lib.hid h4; clear h4))
  have H4 := Lib.hid (show Has V [blkA g1 32 #[pt p], blkA g2 9 #[.string f], blkA g3 9 #[.string t], blkA V.heap.size 26 #[.int .i64 0, .int .i64 0]] W0 from H4.out)
  clear H2 H1 H0 HV1 HV2
  have hs0 := H4.out.size
  have hTR := Lib.hid (fun W (hh : Has V [blkA g1 32 #[pt p], blkA g2 9 #[.string f], blkA g3 9 #[.string t], blkA V.heap.size 26 #[.int .i64 0, .int .i64 0]] W) => (show TRD p g1 g2 g3 f t r W from
    ⟨⟨F, tbA_below H.out hh.bel⟩, HZ.out, hh.blkAt (by simp), hh.blkAt (by simp), hh.blkAt (by simp)⟩))
  refine wp_tours (P := Tryz.prog) rfl (fun _ _ => rfl) (tb_all_tours p g1 g2 g3 f t) rfl (btw r f t).length
    (fun bb r' n W => r' = r ∧ bb = upAt r f t n ∧ n ≤ (btw r f t).length ∧ NoV r f t n ∧ Has V [blkA g1 32 #[pt p], blkA g2 9 #[.string f], blkA g3 9 #[.string t], blkA V.heap.size 26 #[.int .i64 0, .int .i64 0]] W)
    (fun c W => c = .ret ∧ Has V [blkA g1 32 #[pt p], blkA g2 9 #[.string f], blkA g3 9 #[.string t], blkA V.heap.size 26 #[.int .i64 (stO o).1, .int .i64 (stO o).2]] W)
    (fun bb r' n X Y h hX hf => ⟨h.1, h.2.1, h.2.2.1, h.2.2.2.1, h.2.2.2.2.firm hf hs0 (fun A hA => by
      simp only [List.mem_cons, List.not_mem_nil, or_false] at hA
      rcases hA with rfl | rfl | rfl | rfl <;> exact cel_blk _ _ _)⟩)
    (fun c X Y h hX hf => ⟨h.1, h.2.firm hf hs0 (fun A hA => by
      simp only [List.mem_cons, List.not_mem_nil, or_false] at hA
      rcases hA with rfl | rfl | rfl | rfl <;> exact cel_blk _ _ _)⟩)
    (fun bb r' n X h => ⟨by rw [h.1]; exact hTR.out X h.2.2.2.2, h.2.2.1⟩)
    r ⟨rfl, rfl, Nat.zero_le _, rfl, H4.out⟩ ?a1 ?assign ?body ?done ?stop
  case assign =>
    intro l x W K hK
    gi_wp2
    exact hK
  case body =>
    rintro l b' r' n x W hsW ⟨rfl, rfl, hn, hfs, hh⟩ hx
    rw [up_next HS.out _ _ hn] at hx
    obtain ⟨hst, hlt⟩ := up_step hx
    have htk : (btw r' f t).take (n + 1) = (btw r' f t).take n ++ [x] := by
      obtain ⟨h1, h2⟩ := List.getElem?_eq_some_iff.1 hx
      rw [List.take_succ_eq_append_getElem h1, h2]
    have hxm : x ∈ r' := List.mem_of_mem_take (List.mem_of_mem_drop (List.mem_of_getElem? hx))
    have hxs := HZ.out x hxm
    have hfi : vrow x ≠ none → o = vrow x := fun hne => by
      rw [← HO.out, ← List.take_append_drop (n + 1) (btw r' f t), htk, List.findSome?_append, List.findSome?_append, show ((btw r' f t).take n).findSome? vrow = none from hfs]
      cases hv : vrow x with
      | none => exact absurd hv hne
      | some u => simp [hv]
    have hnx : vrow x = none → NoV r' f t (n + 1) := fun hv => by
      unfold NoV
      rw [htk, List.findSome?_append, show ((btw r' f t).take n).findSome? vrow = none from hfs]
      simp [hv]
    have hRV := fun W => readV_c x.key W (by have := hxs.2.1; omega)
    have hTV := fun W => takeV_c x.value W (by have := hxs.2.2; omega)
    have HST := Lib.hid hst
    have HLT := Lib.hid hlt
    clear hx hst htk hxs hn hlt hxm hfs
    obtain ⟨xk, xv⟩ := x
    simp only at hRV hTV hfi hnx HST HLT
    cases hv1 : rdVK (sb xk) with
    | none =>
      rw [hv1] at hRV
      have hvr : vrow ⟨xk, xv⟩ = none := by unfold vrow; simp only [hv1]
      obtain ⟨v, i, nn, hvf⟩ := ansV_form (tkV (sb xv))
      rw [hvf] at hTV
      have HTK := Lib.hid (hnx hvr)
      have HRV := Lib.hid (show ∀ W, Calls Tryz.prog 28 #[.string xk] W fun e w' => e = .returned (.tuple #[.string ⟨#[]⟩, sv 0 0, .int .i64 4]) ∧ Below W.heap.size W w' from hRV)
      have HTV := Lib.hid hTV
      clear hv1 hvf hvr hfi hnx hRV hTV
      gi_wp2_with (first
        | (refine ⟨trivial, ?_⟩; gi_at_call 28; refine ((callsIn_wide.2 (HRV.out _)).inRound l).mono ?_; rintro e w5 ⟨rfl, hb5⟩
           have h5 := hh.keep hb5
           have h5s := h5.size
           have H6 := Lib.hid (h5.keep (nbl w5 (.cells #[.int .i64 0, .int .i64 0] 26)))
           have KF6 := Lib.hid (bsa hb5 (.cells #[.int .i64 0, .int .i64 0] 26))
           have b6 := Blk.new w5 26 #[.int .i64 0, .int .i64 0]
           clear hb5 h5)
        | (refine ⟨trivial, ?_⟩; gi_at_call 29; refine ((callsIn_wide.2 (HTV.out _)).inRound l).mono ?_; rintro e w7 ⟨rfl, hb7⟩
           have h7 := H6.out.keep hb7
           have KF7 := Lib.hid (bst KF6.out hb7)
           have b7 := b6.below hb7 b6.lt
           have q0 := b7.cell 0
           have q1 := b7.cell 1
           simp at q0 q1
           have B4 := h7.blkAt (g := V.heap.size) (t := 26) (cs := #[.int .i64 0, .int .i64 0]) (by simp)
           have p0 := B4.cell 0
           have f0 := B4.frozen 0
           have p1 := B4.cell 1
           have f1 := B4.frozen 1
           simp at p0 p1
           have HB4 := Lib.hid B4
           have H7 := Lib.hid h7
           clear hb7 b7 B4 h7))
  
      exact ⟨keeps_below KF7.out, HST.out, HLT.out, HTK.out, H7.out⟩
    | some q =>
      obtain ⟨s2, a2, b2⟩ := q
      rw [hv1] at hRV
      have HRV := Lib.hid (show ∀ W, Calls Tryz.prog 28 #[.string xk] W fun e w' => e = .returned (.tuple #[.string ⟨s2.toArray⟩, sv a2 b2, .int .i64 0]) ∧ Below W.heap.size W w' from hRV)
      cases hv2 : tkV (sb xv) with
      | none =>
        rw [hv2] at hTV
        have hvr : vrow ⟨xk, xv⟩ = none := by unfold vrow; simp only [hv1, hv2]
        have HTK := Lib.hid (hnx hvr)
        have HTV := Lib.hid (show ∀ W, Calls Tryz.prog 29 #[.string xv] W fun e w' => e = .returned (.tuple #[.string ⟨#[]⟩, .bool false, .int .i64 4]) ∧ Below W.heap.size W w' from hTV)
        clear hv1 hv2 hvr hfi hnx hRV hTV
        gi_wp2_with (first
          | (refine ⟨trivial, ?_⟩; gi_at_call 28; refine ((callsIn_wide.2 (HRV.out _)).inRound l).mono ?_; rintro e w5 ⟨rfl, hb5⟩
             have h5 := hh.keep hb5
             have h5s := h5.size
             have H6 := Lib.hid (h5.keep (nbl w5 (.cells #[.int .i64 a2, .int .i64 b2] 26)))
             have KF6 := Lib.hid (bsa hb5 (.cells #[.int .i64 a2, .int .i64 b2] 26))
             have b6 := Blk.new w5 26 #[.int .i64 a2, .int .i64 b2]
             clear hb5 h5)
          | (refine ⟨trivial, ?_⟩; gi_at_call 29; refine ((callsIn_wide.2 (HTV.out _)).inRound l).mono ?_; rintro e w7 ⟨rfl, hb7⟩
             have h7 := H6.out.keep hb7
             have KF7 := Lib.hid (bst KF6.out hb7)
             have b7 := b6.below hb7 b6.lt
             have q0 := b7.cell 0
             have q1 := b7.cell 1
             simp at q0 q1
             have B4 := h7.blkAt (g := V.heap.size) (t := 26) (cs := #[.int .i64 0, .int .i64 0]) (by simp)
             have p0 := B4.cell 0
             have f0 := B4.frozen 0
             have p1 := B4.cell 1
             have f1 := B4.frozen 1
             simp at p0 p1
             have HB4 := Lib.hid B4
             have H7 := Lib.hid h7
             clear hb7 b7 B4 h7))
    
        exact ⟨keeps_below KF7.out, HST.out, HLT.out, HTK.out, H7.out⟩
      | some q2 =>
        obtain ⟨v, i⟩ := q2
        rw [hv2] at hTV
        have hvr : vrow ⟨xk, xv⟩ = some (a2, b2, v, i) := by unfold vrow; simp only [hv1, hv2]
        have HFI := Lib.hid (show o = some (a2, b2, v, i) from (hfi (by rw [hvr]; simp)).trans hvr)
        have HTV := Lib.hid (show ∀ W, Calls Tryz.prog 29 #[.string xv] W fun e w' => e = .returned (.tuple #[.string v, .bool i, .int .i64 0]) ∧ Below W.heap.size W w' from hTV)
        clear hv1 hv2 hvr hfi hnx hRV hTV
        gi_wp2_with (first
          | (refine ⟨trivial, ?_⟩; gi_at_call 28; refine ((callsIn_wide.2 (HRV.out _)).inRound l).mono ?_; rintro e w5 ⟨rfl, hb5⟩
             have h5 := hh.keep hb5
             have h5s := h5.size
             have H6 := Lib.hid (h5.keep (nbl w5 (.cells #[.int .i64 a2, .int .i64 b2] 26)))
             have KF6 := Lib.hid (bsa hb5 (.cells #[.int .i64 a2, .int .i64 b2] 26))
             have b6 := Blk.new w5 26 #[.int .i64 a2, .int .i64 b2]
             clear hb5 h5)
          | (refine ⟨trivial, ?_⟩; gi_at_call 29; refine ((callsIn_wide.2 (HTV.out _)).inRound l).mono ?_; rintro e w7 ⟨rfl, hb7⟩
             have h7 := H6.out.keep hb7
             have KF7 := Lib.hid (bst KF6.out hb7)
             have b7 := b6.below hb7 b6.lt
             have q0 := b7.cell 0
             have q1 := b7.cell 1
             simp at q0 q1
             have B4 := h7.blkAt (g := V.heap.size) (t := 26) (cs := #[.int .i64 0, .int .i64 0]) (by simp)
             have p0 := B4.cell 0
             have f0 := B4.frozen 0
             have p1 := B4.cell 1
             have f1 := B4.frozen 1
             simp at p0 p1
             have HB4 := Lib.hid B4
             have H7 := Lib.hid h7
             clear hb7 b7 B4 h7))
    
        have HOS := HFI.out
        subst HOS
        have H15 : Has V [blkA V.heap.size 26 #[.int .i64 a2, .int .i64 b2], blkA g1 32 #[pt p], blkA g2 9 #[.string f], blkA g3 9 #[.string t]] _ := Has.all2 (v0 := .int .i64 a2) (v1 := .int .i64 b2) (H7.out.perm (List.perm_middle (l₁ := [_, _, _])))
        have kf15 := (keeps_below (n := W0.heap.size) KF7.out).trans (from2 (v0 := .int .i64 a2) (v1 := .int .i64 b2) HB4.out)
        exact ⟨kf15, rfl, H15.perm (List.perm_middle (l₁ := [_, _, _])).symm⟩
  case done =>
    rintro D b' r' n W hD hsW hno ⟨rfl, rfl, hn, hfs, hh⟩ hK
    rw [up_next HS.out _ _ hn, List.getElem?_eq_none_iff] at hno
    have hoN : o = none := by rw [← HO.out, ← (show ((btw r' f t).take n).findSome? vrow = none from hfs), List.take_of_length_le hno]
    subst hoN
    have B4 := hh.blkAt (g := V.heap.size) (t := 26) (cs := #[.int .i64 0, .int .i64 0]) (by simp)
    have p0 := B4.cell 0
    have f0 := B4.frozen 0
    have p1 := B4.cell 1
    have f1 := B4.frozen 1
    simp at p0 p1
    have HB4 := Lib.hid B4
    have HH := Lib.hid hh
    clear B4 hh hno
    go_wp2_with fail
    have hne : D ≠ V.heap.size := by
      rintro rfl
      have := HB4.out
      unfold Blk at this
      rw [hK] at this
      cases this
    have hK2 := heap2 (v0 := .int .i64 0) (v1 := .int .i64 0) hne hK
    have H15 : Has V [blkA V.heap.size 26 #[.int .i64 0, .int .i64 0], blkA g1 32 #[pt p], blkA g2 9 #[.string f], blkA g3 9 #[.string t]] _ := Has.all2 (v0 := .int .i64 0) (v1 := .int .i64 0) (HH.out.perm (List.perm_middle (l₁ := [_, _, _])))
    refine ⟨by simp, .inl ⟨_, _, rfl, run_takeDeferred hK2, ?_⟩⟩
    have hfin := H15.firm (.put (B := V.heap.size) D (.deferred none) (by omega) hK2 rfl) (Nat.le_refl _) (fun A hA => by
      simp only [List.mem_cons, List.not_mem_nil, or_false] at hA
      rcases hA with rfl | rfl | rfl | rfl <;> exact cel_blk _ _ _)
    exact ⟨_, results_st rfl rfl (hfin.blkAt (g := V.heap.size) (t := 26) (cs := #[.int .i64 0, .int .i64 0]) (by simp)) rfl, rfl, hfin.bel⟩
  case stop =>
    rintro D c W hD hsW ⟨rfl, hh⟩ hK
    go_wp2_with fail
    refine ⟨by simp, .inl ⟨_, _, rfl, run_takeDeferred hK, ?_⟩⟩
    have hf : Firm V.heap.size W (W.putObj D (.deferred none)) := .put D _ (by omega) hK rfl
    have hfin := hh.firm hf (Nat.le_refl _) (fun A hA => by
      simp only [List.mem_cons, List.not_mem_nil, or_false] at hA
      rcases hA with rfl | rfl | rfl | rfl <;> exact cel_blk _ _ _)
    exact ⟨_, results_st rfl rfl (hfin.blkAt (g := V.heap.size) (t := 26) (cs := #[.int .i64 (stO o).1, .int .i64 (stO o).2]) (by simp)) rfl, rfl, hfin.bel⟩
end Go.Proofs.YtldbmogondmgmaaGreatDoor
