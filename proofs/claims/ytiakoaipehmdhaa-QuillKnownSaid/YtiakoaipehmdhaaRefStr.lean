/-
  The document's answers: Str, TakeStr, Join.
-/
import Derived.Test.YtiakoaipehmdhaaRefTake
import Derived.Test.YtiakoaipehmdhaaTake
set_option linter.unusedVariables false
namespace Go.Proofs.Ytiakoaipehmdhaa
open Go.RowKit

theorem StrPost.err' {w w' : World} {b : List UInt8} {most : Int} {x : Nat} (h : ts b most = ([], [], x)) (hb : Below w.heap.size w w') : StrPost w b most (.returned (.tuple #[.string ⟨#[]⟩, .slice none 0 0, .int .i64 x])) w' := by
  refine ⟨.slice none 0 0, ?_, ?_, hb⟩ <;> rw [h]
  · rfl
  · exact World.ownsRow_nil _ _ _ _

theorem refTakeStr_neg (A : Option Addr) (n c : Nat) (most : Int) (w : World) (h : most < 0) :
    Calls Try.prog 22 #[.slice A n c, .int .i64 most] w fun e w' => e = .returned (.tuple #[.string ⟨#[]⟩, .slice none 0 0, .int .i64 2]) ∧ w = w' := by
  go_enter Try.func22, Try.ntmps22
  go_wp2
  go_ret3
  exact ⟨rfl, rfl⟩

def TkP (w : World) (v : Nat) (rest : List UInt8) (x : Nat) (e : Ending) (w' : World) : Prop :=
  ∃ A m c, e = .returned (.tuple #[.int .i64 v, .slice A m c, .int .i64 x]) ∧ At w' A m rest ∧ m ≤ c ∧ c ≤ 9223372036854775807 ∧ Below w.heap.size w w'

theorem refTake' (A : Option Addr) (n c : Nat) (b rest : List UInt8) (v x : Nat) (w : World) (hx : At w A n b) (hnc : n ≤ c) (hc : c ≤ 9223372036854775807) (hn : n ≤ 225000000000000) (ht : tk b = (v, rest, x)) :
    Calls Try.prog 20 #[.slice A n c] w (TkP w v rest x) := by
  refine (refTakeNum A n c b w hx hnc hc hn).mono ?_
  rintro e w' ⟨r, rfl, hown, hb⟩
  rw [ht] at hown ⊢
  obtain ⟨A', c', rfl, h1, h2, h3, _⟩ := hown.form
  exact ⟨A', _, c', rfl, h1, h2, h3, hb⟩

set_option maxHeartbeats 1000000 in
theorem refTakeStr (A : Option Addr) (n c : Nat) (most : Int) (b : List UInt8) (w : World) (hx : At w A n b) (hnc : n ≤ c) (hc : c ≤ 9223372036854775807) (hn : n ≤ 225000000000000) (hm : 0 ≤ most) :
    Calls Try.prog 22 #[.slice A n c, .int .i64 most] w (StrPost w b most) := by
  obtain ⟨v, rest, x, ht⟩ : ∃ v rest x, tk b = (v, rest, x) := ⟨_, _, _, rfl⟩
  have HC := Lib.hid (refTake' A n c b rest v x w hx hnc hc hn ht)
  have hrl : rest.length ≤ n := by
    have := tk_rest b
    rw [ht] at this
    have := hx.1
    simp at *
    omega
  by_cases hx0 : x = 0
  · subst hx0
    by_cases h1 : most < (v : Int)
    · have HP := Lib.hid (fun w' h => StrPost.err' (w := w) (w' := w') (b := b) (most := most) (x := 5) (by simp [ts, ht, h1]) h)
      clear ht
      go_enter Try.func22, Try.ntmps22
      go_wp2_with fail
      refine HC.out.mono ?_
      rintro e w1 ⟨A', m, c', rfl, hat, h3, h4, hb⟩
      go_wp2
      go_ret3
      exact HP.out _ hb
    · by_cases h2 : rest.length < v
      · have HP := Lib.hid (fun w' h => StrPost.err' (w := w) (w' := w') (b := b) (most := most) (x := 3) (by simp [ts, ht, h1, h2]) h)
        clear ht
        go_enter Try.func22, Try.ntmps22
        go_wp2_with fail
        refine HC.out.mono ?_
        rintro e w1 ⟨A', m, c', rfl, hat, h3, h4, hb⟩
        have hml := hat.1
        have hmv : (m : Int) < (v : Int) := by omega
        clear hml h2
        go_wp2
        go_ret3
        exact HP.out _ hb
      · have HT := Lib.hid (show ts b most = (rest.take v, rest.drop v, 0) by simp only [ts, ht]; rw [if_neg (by simp), if_neg h1, if_neg h2])
        clear ht
        go_enter Try.func22, Try.ntmps22
        go_wp2_with fail
        refine HC.out.mono ?_
        rintro e w1 ⟨A', m, c', rfl, hat, h3, h4, hb⟩
        have hml := hat.1
        have hmv : v ≤ m := by omega
        have hmn : m ≤ 225000000000000 := by omega
        have HML := Lib.hid hml
        clear hml h2
        have hvn : (v : Int) ≤ (m : Int) := by omega
        have hmc : (m : Int) ≤ (c' : Int) := by omega
        have hcv : (v : Int) ≤ (c' : Int) := by omega
        have hv0 : (0 : Int) ≤ (v : Int) := by omega
        have hat1 : ∀ W : World, (∀ p : Addr, p.block < w1.heap.size → W.cell? p = w1.cell? p) → At W A' v (rest.take v) := fun W hW => by
          have h5 := (hat.cut (l := 0) (k := v) (m := c') (by omega) hmv (by omega)).keep hW
          rw [cutA_zero] at h5
          simpa using h5
        obtain ⟨A2, hA2⟩ : ∃ A2, A2 = cutA A' c' v := ⟨_, rfl⟩
        have hat2 : At w1 A2 (m - v) (rest.drop v) := by
          have h5 := hat.cut (l := v) (k := m) (m := c') hmv (Nat.le_refl _) h3
          rw [List.take_of_length_le (by rw [HML.out]; exact Nat.le_refl _), ← hA2] at h5
          exact h5
        have hsl : ∀ W, (Instr.sliceAt 22 (.slice A' m c') (some (.int .i64 (v : Int))) none none).run Try.prog W = .ok (.slice A2 (m - v) (c' - v)) W := fun W => by
          rw [run_sliceAt_slice W _ _ _ _ _ slb_under, slb_l A' m c' .i64 v W hv0 hvn, hA2]
          rfl
        have hk := fun W hW => (hat1 W hW).conv (P := Try.prog) c' 22 5 9 Try.underlying22 Try.underlying5 Try.underlying9
        have HK := Lib.hid hk
        have kc0 := HK.out w1 (fun _ _ => rfl)
        have kc1 := fun j => HK.out (w1.drewN j) (fun _ _ => rfl)
        have kc3 := HK.out w1.drew (fun _ _ => rfl)
        obtain ⟨q, hq⟩ : ∃ q, q = rest.drop v := ⟨_, rfl⟩
        rw [← hq] at hat2
        have HQ := Lib.hid hq
        have hend : ∀ r w2, Own w2 w1.heap.size r q → Below w1.heap.size w1 w2 → Own w2 w.heap.size r q ∧ Below w.heap.size w w2 := by
          intro r w2 h5 h6
          have := hb.size
          exact ⟨h5.base this, hb.trans (h6.mono this)⟩
        have HE := Lib.hid hend
        have hmvb : m - v ≤ 225000000000000 := by omega
        have HB := Lib.hid (fun (w2 : World) (h : Below w1.heap.size w1.drew w2) => (⟨h.os, h.tape, h.output, h.size, h.block⟩ : Below w1.heap.size w1 w2))
        clear hA2 hat1 hk hq hend
        go_wp2_with fail
        go_region_with (go_at_call 18; refine (copyBytes A2 (m - v) (c' - v) q _ (by exact hat2.drew) hmvb).mono ?_; rintro e w2 ⟨r, rfl, hown, hbb⟩; have hbo := HE.out r w2 hown (HB.out w2 hbb); have kc2 := HK.out w2 (fun p hp => (HB.out w2 hbb).cell hp); clear hown hbb)
        all_goals go_wp2
        all_goals go_ret3
        all_goals
          refine ⟨r, ?_, ?_, hbo.2⟩ <;> rw [HT.out]
          · rfl
          · rw [← HQ.out]
            exact hbo.1
  · have hxe : ((x : Int) == 0) = false := by simp; omega
    have hxn : ((x : Int) != 0) = true := by simp; omega
    have HP := Lib.hid (fun w' h => StrPost.err' (w := w) (w' := w') (b := b) (most := most) (x := x) (by simp [ts, ht, hx0]) h)
    clear ht hx0
    go_enter Try.func22, Try.ntmps22
    go_wp2_with fail
    refine HC.out.mono ?_
    rintro e w1 ⟨A', m, c', rfl, hat, h3, h4, hb⟩
    go_wp2
    go_ret3
    exact HP.out _ hb

theorem refStr_neg (s : ByteArray) (most : Int) (w : World) (h : most < 0) :
    Calls Try.prog 24 #[.string s, .int .i64 most] w fun e w' => e = .returned (.tuple #[.slice none 0 0, .int .i64 2]) ∧ w = w' := by
  go_enter Try.func24, Try.ntmps24
  go_wp2
  go_ret2
  exact ⟨rfl, rfl⟩
theorem refStr_long (s : ByteArray) (most : Int) (w : World) (h : 0 ≤ most) (h2 : most < s.size) :
    Calls Try.prog 24 #[.string s, .int .i64 most] w fun e w' => e = .returned (.tuple #[.slice none 0 0, .int .i64 5]) ∧ w = w' := by
  go_enter Try.func24, Try.ntmps24
  go_wp2
  go_ret2
  exact ⟨rfl, rfl⟩

set_option maxHeartbeats 400000 in
theorem refStr (s : ByteArray) (most : Int) (w : World) (h2 : (s.size : Int) ≤ most) (hs : s.size ≤ 140737488351232) :
    Calls Try.prog 24 #[.string s, .int .i64 most] w fun e w' => ∃ v, e = .returned (.tuple #[v, .int .i64 0]) ∧ Own w' w.heap.size v (enc s.size ++ sb s) ∧ Below w.heap.size w w' := by
  have h1 : (0 : Int) ≤ most := by omega
  have hsM : s.size ≤ 9007199254740991 := by omega
  obtain ⟨i0, hi0, hz0, hz1, hz2⟩ := info_parts info5
  go_enter Try.func24, Try.ntmps24
  go_wp2_with fail
  refine (refNum s.size _ hsM).mono ?_
  rintro e w1 ⟨v1, rfl, hown1, hb1⟩
  obtain ⟨l1, hl1⟩ : ∃ l, l = enc s.size := ⟨_, rfl⟩
  have hel := enc_len s.size hsM
  rw [← hl1] at hown1 hel
  have HL1 := Lib.hid hl1
  have hsz := hb1.size
  have hown1' : w1.ownsRow w.heap.size 5 1 v1 l1.length (l1.map bv) := hown1
  clear hl1 hown1
  go_wp2_with (at_builtin; refine Lib.wpList_append_own_string _ rfl _ _ 22 9 rfl w.heap.size 5 i0 Try.underlying22 Try.underlying9 hi0 hz0 hz1 hz2 v1 l1.length (l1.map bv) rfl hown1' s rfl ?h63 ?hby hsz ?_)
  case h63 => unfold maxLen; omega
  case hby => omega
  intro v' w2 hown2 hg2 _
  have hbel : Below w.heap.size w w2 := hb1.grown hg2 hsz (fun q hq => (hown1'.lt q hq).1)
  have hov : Own w2 w.heap.size v' (l1 ++ sb s) := by
    unfold Own
    rw [List.length_append, sb_len, List.map_append]
    exact hown2
  clear hown2 hg2 hown1'
  go_wp2
  go_ret2
  exact ⟨v', rfl, by rw [← HL1.out]; exact hov, hbel⟩

set_option maxHeartbeats 1000000 in
theorem refJoin (A : Option Addr) (m c : Nat) (ls : List (List UInt8)) (w : World) (hx : Lists w A m ls) (hm : m ≤ 9223372036854775807) (hn : ls.flatten.length ≤ 225000000000000) :
    Calls Try.prog 26 #[.slice A m c] w fun e w' => ∃ v, e = .returned v ∧ Own w' w.heap.size v ls.flatten ∧ Below w.heap.size w w' := by
  have hml := Lib.hid hx.1
  go_enter Try.func26, Try.ntmps26
  go_wp2
  go_loopw [3, 4] (fun v i wr => ∃ j : Nat, j ≤ m ∧ i = .int .i64 j ∧ Own wr w.heap.size v (ls.take j).flatten ∧ Below w.heap.size w wr) (fun _ i _ => m - (intOf i).toNat)
  case atStart => exact ⟨0, Nat.zero_le _, rfl, World.ownsRow_nil _ _ _ _, Below.refl _ _⟩
  case round =>
    obtain ⟨j, hj, rfl, hov, hbw⟩ := hrel
    have hxr : Lists wr A m ls := hx.keep fun p hp => hbw.cell hp
    by_cases hlt : j < m
    · obtain ⟨b, o, rfl, hc⟩ := hxr.2 (by omega)
      have hkl : j < ls.length := by rw [hml.out]; exact hlt
      obtain ⟨Ai, ci, h1, h2⟩ := hc j hkl
      have hle2 := flat_le ls (j + 1)
      rw [flat_succ ls j hkl, List.length_append] at hle2
      have hf := Lib.hid (flat_succ ls j hkl)
      obtain ⟨l, hl⟩ : ∃ l, l = ls[j] := ⟨_, rfl⟩
      rw [← hl] at h1 h2 hle2
      have HL := Lib.hid hl
      have hsz := hbw.size
      obtain ⟨t, ht⟩ : ∃ t, t = (ls.take j).flatten := ⟨_, rfl⟩
      rw [← ht] at hov hle2
      have HTT := Lib.hid ht
      obtain ⟨T, hT⟩ : ∃ T, T = ls.flatten.length := ⟨_, rfl⟩
      rw [← hT] at hle2 hn
      clear hc hl hxr ht hT
      go_wp2_with (at_builtin; refine wpList_app rfl _ _ 22 rfl w.heap.size 5 Try.underlying22 info5 u3 t.length t l rfl ?ho Ai l.length ci rfl h2 ?hb ?hs ?_)
      case ho => exact hov
      case hb => omega
      case hs => exact hsz
      intro v1 w2 hown2 hg2 hat2
      have hb2 : Below w.heap.size w w2 := hbw.grown hg2 hsz (fun q hq => (hov.lt q hq).1)
      have hov2 : Own w2 w.heap.size v1 (ls.take (j + 1)).flatten := by
        unfold Own
        rw [hf.out, ← HL.out, ← HTT.out, List.length_append]
        simpa using hown2
      clear hown2 hg2 hat2 h1 h2
      go_wp2
      go_roundw
      case rel => exact ⟨j + 1, by omega, by go_num, hov2, hb2⟩
      case measure => simp [intOf]; omega
    · have hjk : j = m := by omega
      subst hjk
      have hfin : Own wr w.heap.size u3 ls.flatten := by
        have : ls.take j = ls := by rw [← hml.out, List.take_length]
        rw [this] at hov
        exact hov
      clear hov hxr
      go_wp2
      go_ret
      exact ⟨_, rfl, hfin, hbw⟩

end Go.Proofs.Ytiakoaipehmdhaa
