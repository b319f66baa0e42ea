/-
  quill.TakeNum, quill.Str, quill.TakeStr.
-/
import Derived.Test.YtiakoaipehmdhaaCut
import Derived.Lib.ConvBytes
set_option linter.unusedVariables false
namespace Go.Proofs.Ytiakoaipehmdhaa
open Go.RowKit

def CutP (w : World) (v : Nat) (rest : List UInt8) (x : Nat) (e : Ending) (w' : World) : Prop :=
  ∃ A' m c', e = .returned (.tuple #[.int .i64 v, .slice A' m c', .int .i64 x]) ∧ At w A' m rest ∧ m ≤ c' ∧ c' ≤ 9223372036854775807 ∧ ∃ k, w' = w.drewN k

theorem cut' (A : Option Addr) (n c : Nat) (b rest : List UInt8) (v x : Nat) (w : World) (hx : At w A n b) (hnc : n ≤ c) (hc : c ≤ 9223372036854775807) (ht : tk b = (v, rest, x)) :
    Calls Try.prog 34 #[.slice A n c] w (CutP w v rest x) := by
  refine (cutNum A n c b w hx hnc hc).mono ?_
  rintro e w' ⟨A', c', rfl, h1, h2, h3, h4⟩
  rw [ht] at h1 h2 ⊢
  exact ⟨A', _, c', rfl, h1, h2, h3, h4⟩

theorem tk_rest (b : List UInt8) : (tk b).2.1.length ≤ b.length := by
  rcases tk_cases b with h | h | ⟨l, rest, hb, _, _, _, h⟩
  · rw [h]; simp
  · rw [h]; simp
  · rw [h, hb]; simp; omega

set_option maxHeartbeats 400000 in
theorem takeNum (A : Option Addr) (n c : Nat) (b rest : List UInt8) (v x : Nat) (w : World) (hx : At w A n b) (hnc : n ≤ c) (hc : c ≤ 9223372036854775807) (hn : n ≤ 225000000000000) (ht : tk b = (v, rest, x)) :
    Calls Try.prog 19 #[.slice A n c] w fun e w' => ∃ r, e = .returned (.tuple #[.int .i64 v, r, .int .i64 x]) ∧ Own w' w.heap.size r rest ∧ Below w.heap.size w w' := by
  have hrl : rest.length ≤ n := by
    have := tk_rest b
    rw [ht] at this
    have := hx.1
    simp at *
    omega
  have HC := Lib.hid (cut' A n c b rest v x w hx hnc hc ht)
  clear ht
  go_enter Try.func19, Try.ntmps19
  go_wp2_with fail
  refine HC.out.mono ?_
  rintro e w1 ⟨A', m, c', rfl, hat, h1, h2, k, rfl⟩
  have hml := hat.1
  have hm : m ≤ n := by omega
  have HL := Lib.hid (lists_one (c := c') 22 (hat.drewN k))
  clear hml
  go_wp2_with fail
  refine (join _ 1 1 [rest] _ ?hl (by omega) ?hb).mono ?_
  case hl => simpa using HL.out
  case hb => simp; omega
  rintro e w2 ⟨r, rfl, hown, hb⟩
  have hown' : Own w2 w.heap.size r rest := by
    have : [rest].flatten = rest := by simp
    rw [this] at hown
    exact hown.base (by simp)
  have hbel : Below w.heap.size w w2 := by
    have h1 : Below w.heap.size w (w.drewN k) := ⟨rfl, rfl, rfl, Nat.le_refl _, fun _ _ => rfl⟩
    exact (h1.alloc (by simp) _).trans (hb.mono (by simp))
  clear hown hb
  go_wp2
  go_ret3
  exact ⟨r, rfl, hown', hbel⟩

/-- A string's bytes. -/
abbrev sb (s : ByteArray) : List UInt8 := s.data.toList
theorem sb_len (s : ByteArray) : (sb s).length = s.size := by rw [Array.length_toList]; rfl

theorem bytesWorld_at (w : World) (e : TypeId) (s : ByteArray) : At (Lib.bytesWorld w e s) (some ⟨w.heap.size, 0, none⟩) s.size (sb s) := by
  refine ⟨sb_len s, fun h0 => ⟨_, _, rfl, fun i hi => ?_⟩⟩
  have hi' : i < s.size := by rw [← sb_len]; exact hi
  rw [Nat.zero_add, Lib.bytesWorld_cell w e s i hi']
  simp [List.getD, List.getElem?_eq_getElem hi]
theorem bytesWorld_below (w : World) (e : TypeId) (s : ByteArray) : Below w.heap.size w (Lib.bytesWorld w e s) :=
  ⟨rfl, rfl, rfl, by rw [Lib.bytesWorld_size]; omega, fun k hk => Lib.bytesWorld_at_old w e s k hk⟩

theorem str_neg (s : ByteArray) (most : Int) (w : World) (h : most < 0) :
    Calls Try.prog 23 #[.string s, .int .i64 most] w fun e w' => e = .returned (.tuple #[.slice none 0 0, .int .i64 2]) ∧ w = w' := by
  go_enter Try.func23, Try.ntmps23
  go_wp2
  go_ret2
  exact ⟨rfl, rfl⟩
theorem str_long (s : ByteArray) (most : Int) (w : World) (h : 0 ≤ most) (h2 : most < s.size) :
    Calls Try.prog 23 #[.string s, .int .i64 most] w fun e w' => e = .returned (.tuple #[.slice none 0 0, .int .i64 5]) ∧ w = w' := by
  go_enter Try.func23, Try.ntmps23
  go_wp2
  go_ret2
  exact ⟨rfl, rfl⟩

set_option maxHeartbeats 400000 in
theorem str (s : ByteArray) (most : Int) (w : World) (h2 : (s.size : Int) ≤ most) (hs : s.size ≤ 140737488351232) :
    Calls Try.prog 23 #[.string s, .int .i64 most] w fun e w' => ∃ v, e = .returned (.tuple #[v, .int .i64 0]) ∧ Own w' w.heap.size v (enc s.size ++ sb s) ∧ Below w.heap.size w w' := by
  have h1 : (0 : Int) ≤ most := by omega
  have hsM : s.size ≤ 9007199254740991 := by omega
  go_enter Try.func23, Try.ntmps23
  go_wp2_with fail
  refine (numBytes s.size _ hsM).mono ?_
  rintro e w1 ⟨v1, rfl, hown1, hb1⟩
  obtain ⟨A1, c1, rfl, hat1, _, _, _⟩ := hown1.form
  obtain ⟨l1, hl1⟩ : ∃ l, l = enc s.size := ⟨_, rfl⟩
  have hel := enc_len s.size hsM
  rw [← hl1] at hat1 hel ⊢
  have HL1 := Lib.hid hl1
  obtain ⟨n1, hn1⟩ : ∃ n, n = l1.length := ⟨_, rfl⟩
  rw [← hn1] at hat1 hel ⊢
  have HN1 := Lib.hid hn1
  clear hl1 hn1
  have kc := fun w => Lib.run_convert_string_bytes (P := Try.prog) w 9 22 5 s Try.underlying9 Try.underlying22 Try.underlying5
  have hW := bytesWorld_below w1 5 s
  have hA2 := bytesWorld_at w1 5 s
  have hA1 := hat1.below' hW
  have HLS := Lib.hid (lists_two (c := c1) (c' := grownCap w1 s.size 0 5) 22 hA1 hA2)
  have HBW := Lib.hid hW
  clear hat1 hA1 hA2 hW hown1
  go_wp2_with fail
  refine (join _ 2 2 [l1, sb s] _ ?hl (by omega) ?hb).mono ?_
  case hl => exact HLS.out
  case hb =>
    have h4 := sb_len s
    have h5 := HN1.out
    simp only [List.flatten_cons, List.flatten_nil, List.append_nil, List.length_append]
    omega
  rintro e w2 ⟨v, rfl, hown, hb⟩
  have hfl : [l1, sb s].flatten = l1 ++ sb s := by simp
  have hbel : Below w.heap.size w w2 := by
    have h3 := hb1.trans (HBW.out.mono hb1.size)
    exact (h3.alloc h3.size _).trans (hb.mono (by have := h3.size; simp; omega))
  have hown' : Own w2 w.heap.size v (l1 ++ sb s) := by
    rw [hfl] at hown
    exact hown.base (by have := (hb1.trans (HBW.out.mono hb1.size)).size; simp; omega)
  clear hown hb hfl kc
  go_wp2
  go_ret2
  exact ⟨v, rfl, by rw [← HL1.out]; exact hown', hbel⟩

theorem takeStr_neg (A : Option Addr) (n c : Nat) (most : Int) (w : World) (h : most < 0) :
    Calls Try.prog 21 #[.slice A n c, .int .i64 most] w fun e w' => e = .returned (.tuple #[.string ⟨#[]⟩, .slice none 0 0, .int .i64 2]) ∧ w = w' := by
  go_enter Try.func21, Try.ntmps21
  go_wp2
  go_ret3
  exact ⟨rfl, rfl⟩

/-- What TakeStr tells: the text, what is left, the error. -/
def ts (b : List UInt8) (most : Int) : List UInt8 × List UInt8 × Nat :=
  match tk b with
  | (v, rest, x) =>
    if x ≠ 0 then ([], [], x)
    else if most < v then ([], [], 5)
    else if rest.length < v then ([], [], 3)
    else (rest.take v, rest.drop v, 0)

def str_ (l : List UInt8) : Value := .string ⟨l.toArray⟩

/-- What TakeStr leaves. -/
def StrPost (w : World) (b : List UInt8) (most : Int) (e : Ending) (w' : World) : Prop :=
  ∃ r, e = .returned (.tuple #[str_ (ts b most).1, r, .int .i64 (ts b most).2.2]) ∧ Own w' w.heap.size r (ts b most).2.1 ∧ Below w.heap.size w w'

theorem StrPost.err {w : World} {b : List UInt8} {most : Int} {x : Nat} (k : Nat) (h : ts b most = ([], [], x)) : StrPost w b most (.returned (.tuple #[.string ⟨#[]⟩, .slice none 0 0, .int .i64 x])) (w.drewN k) := by
  refine ⟨.slice none 0 0, ?_, ?_, ⟨rfl, rfl, rfl, Nat.le_refl _, fun _ _ => rfl⟩⟩ <;> rw [h]
  · rfl
  · exact World.ownsRow_nil _ _ _ _

set_option maxHeartbeats 1000000 in
theorem takeStr (A : Option Addr) (n c : Nat) (most : Int) (b : List UInt8) (w : World) (hx : At w A n b) (hnc : n ≤ c) (hc : c ≤ 9223372036854775807) (hn : n ≤ 225000000000000) (hm : 0 ≤ most) :
    Calls Try.prog 21 #[.slice A n c, .int .i64 most] w (StrPost w b most) := by
  obtain ⟨v, rest, x, ht⟩ : ∃ v rest x, tk b = (v, rest, x) := ⟨_, _, _, rfl⟩
  have HC := Lib.hid (cut' A n c b rest v x w hx hnc hc ht)
  have hrl : rest.length ≤ n := by
    have := tk_rest b
    rw [ht] at this
    have := hx.1
    simp at *
    omega
  by_cases hx0 : x = 0
  · subst hx0
    by_cases h1 : most < (v : Int)
    · have HP := Lib.hid (StrPost.err (w := w) (b := b) (most := most) (x := 5) · (by simp [ts, ht, h1]))
      clear ht
      go_enter Try.func21, Try.ntmps21
      go_wp2_with fail
      refine HC.out.mono ?_
      rintro e w1 ⟨A', m, c', rfl, hat, h3, h4, k, rfl⟩
      go_wp2
      go_ret3
      exact HP k
    · by_cases h2 : rest.length < v
      · have HP := Lib.hid (StrPost.err (w := w) (b := b) (most := most) (x := 3) · (by simp [ts, ht, h1, h2]))
        clear ht
        go_enter Try.func21, Try.ntmps21
        go_wp2_with fail
        refine HC.out.mono ?_
        rintro e w1 ⟨A', m, c', rfl, hat, h3, h4, k, rfl⟩
        have hml := hat.1
        have hmv : (m : Int) < (v : Int) := by omega
        clear hml h2
        go_wp2
        go_ret3
        exact HP k
      · have HT := Lib.hid (show ts b most = (rest.take v, rest.drop v, 0) by simp only [ts, ht]; rw [if_neg (by simp), if_neg h1, if_neg h2])
        clear ht
        go_enter Try.func21, Try.ntmps21
        go_wp2_with fail
        refine HC.out.mono ?_
        rintro e w1 ⟨A', m, c', rfl, hat, h3, h4, k, rfl⟩
        have hml := hat.1
        have hmv : v ≤ m := by omega
        have HML := Lib.hid hml
        clear hml h2
        have hvn : (v : Int) ≤ (m : Int) := by omega
        have hmc : (m : Int) ≤ (c' : Int) := by omega
        have hcv : (v : Int) ≤ (c' : Int) := by omega
        have hv0 : (0 : Int) ≤ (v : Int) := by omega
        have hlv : (rest.take v).length = v := by rw [List.length_take, HML.out]; omega
        have hat1 : ∀ W : World, (∀ p : Addr, p.block < w.heap.size → W.cell? p = w.cell? p) → At W A' v (rest.take v) := fun W hW => by
          have h5 := (hat.cut (l := 0) (k := v) (m := c') (by omega) hmv (by omega)).keep hW
          rw [cutA_zero] at h5
          simpa using h5
        obtain ⟨A2, hA2⟩ : ∃ A2, A2 = cutA A' c' v := ⟨_, rfl⟩
        have hat2 : At w A2 (m - v) (rest.drop v) := by
          have h5 := hat.cut (l := v) (k := m) (m := c') hmv (Nat.le_refl _) h3
          rw [List.take_of_length_le (by rw [HML.out]; exact Nat.le_refl _), ← hA2] at h5
          exact h5
        have hsl : ∀ W, (Instr.sliceAt 22 (.slice A' m c') (some (.int .i64 (v : Int))) none none).run Try.prog W = .ok (.slice A2 (m - v) (c' - v)) W := fun W => by
          rw [run_sliceAt_slice W _ _ _ _ _ slb_under, slb_l A' m c' .i64 v W hv0 hvn, hA2]
          rfl
        have hk := fun W hW => (hat1 W hW).conv (P := Try.prog) c' 22 5 9 Try.underlying22 Try.underlying5 Try.underlying9
        have HK := Lib.hid hk
        have kc0 := fun j => HK.out (w.drewN j) (fun _ _ => rfl)
        have kc1 := fun j o => HK.out ((w.drewN j).alloc o) (fun p hp => World.cell?_alloc_lt (w.drewN j) o p hp)
        obtain ⟨q, hq⟩ : ∃ q, q = rest.drop v := ⟨_, rfl⟩
        rw [← hq] at hat2
        have HL : Hid (Lists ((w.drewN (k + 1)).alloc (.cells #[.slice A2 (m - v) (c' - v)] 22)) (some ⟨w.heap.size, 0, none⟩) 1 [q]) := lists_one (c := c' - v) 22 (hat2.drewN (k + 1))
        have HQL : Hid ([q].flatten.length ≤ 225000000000000) := by
          have h5 := hat2.1
          have h6 := HML.out
          show [q].flatten.length ≤ 225000000000000
          simp
          omega
        have HQ := Lib.hid hq
        have hend : ∀ r w2, Own w2 ((w.drewN (k + 1)).alloc (.cells #[.slice A2 (m - v) (c' - v)] 22)).heap.size r [q].flatten → Below ((w.drewN (k + 1)).alloc (.cells #[.slice A2 (m - v) (c' - v)] 22)).heap.size ((w.drewN (k + 1)).alloc (.cells #[.slice A2 (m - v) (c' - v)] 22)) w2 →
            Own w2 w.heap.size r q ∧ Below w.heap.size w w2 := by
          intro r w2 h5 h6
          have h7 : [q].flatten = q := by simp
          rw [h7] at h5
          have h8 : Below w.heap.size w (w.drewN (k + 1)) := ⟨rfl, rfl, rfl, Nat.le_refl _, fun _ _ => rfl⟩
          exact ⟨h5.base (by simp), (h8.alloc (by simp) _).trans (h6.mono (by simp))⟩
        have HE := Lib.hid hend
        clear hA2 hlv hat1 hk hat2 hq hend
        go_wp2_with fail
        go_region_with (go_at_call 25; refine (join _ 1 1 [q] _ HL.out (by omega) HQL.out).mono ?_; rintro e w2 ⟨r, rfl, hown, hb⟩; have hbo := HE.out r w2 hown hb; have kc2 := HK.out w2 (fun p hp => hbo.2.cell hp); clear hown hb)
        all_goals go_wp2
        all_goals go_ret3
        all_goals
          refine ⟨r, ?_, ?_, hbo.2⟩ <;> rw [HT.out]
          · rfl
          · rw [← HQ.out]
            exact hbo.1
  · have hxe : ((x : Int) == 0) = false := by simp; omega
    have hxn : ((x : Int) != 0) = true := by simp; omega
    have HP := Lib.hid (StrPost.err (w := w) (b := b) (most := most) (x := x) · (by simp [ts, ht, hx0]))
    clear ht hx0
    go_enter Try.func21, Try.ntmps21
    go_wp2_with fail
    refine HC.out.mono ?_
    rintro e w1 ⟨A', m, c', rfl, hat, h3, h4, k, rfl⟩
    go_wp2
    go_ret3
    exact HP k

end Go.Proofs.Ytiakoaipehmdhaa
