/-
  quill.TakeNum, quill.Str, quill.TakeStr.
  The document's answers: Str, TakeStr, Join.
  Contracts of the takers in one form each; a row of bytes that is one's own, read and written.
-/
import Derived.Test.YtgccichmdddbpaaGreatDoorPL18
import Derived.Lib.ConvBytes
import Derived.Test.YtgccichmdddbpaaGreatDoorPL01
set_option linter.unusedVariables false
namespace Go.Proofs.YtgccichmdddbpaaGreatDoor
open Go.RowKit

/-- A string's bytes. -/
abbrev sb (s : ByteArray) : List UInt8 := s.data.toList
theorem sb_len (s : ByteArray) : (sb s).length = s.size := by rw [Array.length_toList]; rfl

theorem bytesWorld_at (w : World) (e : TypeId) (s : ByteArray) : At (Lib.bytesWorld w e s) (some ⟨w.heap.size, 0, none⟩) s.size (sb s) := by
  refine ⟨sb_len s, fun h0 => ⟨_, _, rfl, fun i hi => ?_⟩⟩
  have hi' : i < s.size := by rw [← sb_len]; exact hi
  rw [Nat.zero_add, Lib.bytesWorld_cell w e s i hi']
  simp [List.getD, List.getElem?_eq_getElem hi]
theorem bytesWorld_below (w : World) (e : TypeId) (s : ByteArray) : Below w.heap.size w (Lib.bytesWorld w e s) :=
  ⟨rfl, rfl, rfl, by rw [Lib.bytesWorld_size]; omega, fun k hk => Lib.bytesWorld_at_old w e s k hk⟩

set_option maxHeartbeats 400000 in
theorem str (s : ByteArray) (most : Int) (w : World) (h2 : (s.size : Int) ≤ most) (hs : s.size ≤ 140737488351232) :
    Calls Tryz.prog 195 #[.string s, .int .i64 most] w fun e w' => ∃ v, e = .returned (.tuple #[v, .int .i64 0]) ∧ Own w' w.heap.size v (enc s.size ++ sb s) ∧ Below w.heap.size w w' := by
  have h1 : (0 : Int) ≤ most := by omega
  have hsM : s.size ≤ 9007199254740991 := by omega
  go_enter Tryz.func195, Tryz.ntmps195
  go_wp2_with fail
  refine (numBytes s.size _ hsM).mono ?_
  rintro e w1 ⟨v1, rfl, hown1, hb1⟩
  obtain ⟨A1, c1, rfl, hat1, _, _, _⟩ := hown1.form
  obtain ⟨l1, hl1⟩ : ∃ l, l = enc s.size := ⟨_, rfl⟩
  have hel := enc_len s.size hsM
  rw [← hl1] at hat1 hel ⊢
  have HL1 := Lib.hid hl1
  obtain ⟨n1, hn1⟩ : ∃ n, n = l1.length := ⟨_, rfl⟩
  rw [← hn1] at hat1 hel ⊢
  have HN1 := Lib.hid hn1
  clear hl1 hn1
  have kc := fun w => Lib.run_convert_string_bytes (P := Tryz.prog) w 9 164 5 s Tryz.underlying9 Tryz.underlying164 Tryz.underlying5
  have hW := bytesWorld_below w1 5 s
  have hA2 := bytesWorld_at w1 5 s
  have hA1 := hat1.below' hW
  have HLS := Lib.hid (lists_two (c := c1) (c' := grownCap w1 s.size 0 5) 164 hA1 hA2)
  have HBW := Lib.hid hW
  clear hat1 hA1 hA2 hW hown1
  go_wp2_with fail
  refine (join _ 2 2 [l1, sb s] _ ?hl (by omega) ?hb).mono ?_
  case hl => exact HLS.out
  case hb =>
    have h4 := sb_len s
    have h5 := HN1.out
    simp only [List.flatten_cons, List.flatten_nil, List.append_nil, List.length_append]
    omega
  rintro e w2 ⟨v, rfl, hown, hb⟩
  have hfl : [l1, sb s].flatten = l1 ++ sb s := by simp
  have hbel : Below w.heap.size w w2 := by
    have h3 := hb1.trans (HBW.out.mono hb1.size)
    exact (h3.alloc h3.size _).trans (hb.mono (by have := h3.size; simp; omega))
  have hown' : Own w2 w.heap.size v (l1 ++ sb s) := by
    rw [hfl] at hown
    exact hown.base (by have := (hb1.trans (HBW.out.mono hb1.size)).size; simp; omega)
  clear hown hb hfl kc
  go_wp2
  go_ret2
  exact ⟨v, rfl, by rw [← HL1.out]; exact hown', hbel⟩

theorem takeStr_neg (A : Option Addr) (n c : Nat) (most : Int) (w : World) (h : most < 0) :
    Calls Tryz.prog 190 #[.slice A n c, .int .i64 most] w fun e w' => e = .returned (.tuple #[.string ⟨#[]⟩, .slice none 0 0, .int .i64 2]) ∧ w = w' := by
  go_enter Tryz.func190, Tryz.ntmps190
  go_wp2
  go_ret3
  exact ⟨rfl, rfl⟩

/-- What TakeStr tells: the text, what is left, the error. -/
def ts (b : List UInt8) (most : Int) : List UInt8 × List UInt8 × Nat :=
  match tk b with
  | (v, rest, x) =>
    if x ≠ 0 then ([], [], x)
    else if most < v then ([], [], 5)
    else if rest.length < v then ([], [], 3)
    else (rest.take v, rest.drop v, 0)

def str_ (l : List UInt8) : Value := .string ⟨l.toArray⟩

/-- What TakeStr leaves. -/
def StrPost (w : World) (b : List UInt8) (most : Int) (e : Ending) (w' : World) : Prop :=
  ∃ r, e = .returned (.tuple #[str_ (ts b most).1, r, .int .i64 (ts b most).2.2]) ∧ Own w' w.heap.size r (ts b most).2.1 ∧ Below w.heap.size w w'

theorem StrPost.err {w : World} {b : List UInt8} {most : Int} {x : Nat} (k : Nat) (h : ts b most = ([], [], x)) : StrPost w b most (.returned (.tuple #[.string ⟨#[]⟩, .slice none 0 0, .int .i64 x])) (w.drewN k) := by
  refine ⟨.slice none 0 0, ?_, ?_, ⟨rfl, rfl, rfl, Nat.le_refl _, fun _ _ => rfl⟩⟩ <;> rw [h]
  · rfl
  · exact World.ownsRow_nil _ _ _ _

set_option maxHeartbeats 1000000 in
theorem takeStr (A : Option Addr) (n c : Nat) (most : Int) (b : List UInt8) (w : World) (hx : At w A n b) (hnc : n ≤ c) (hc : c ≤ 9223372036854775807) (hn : n ≤ 225000000000000) (hm : 0 ≤ most) :
    Calls Tryz.prog 190 #[.slice A n c, .int .i64 most] w (StrPost w b most) := by
  obtain ⟨v, rest, x, ht⟩ : ∃ v rest x, tk b = (v, rest, x) := ⟨_, _, _, rfl⟩
  have HC := Lib.hid (cut' A n c b rest v x w hx hnc hc ht)
  have hrl : rest.length ≤ n := by
    have := tk_rest b
    rw [ht] at this
    have := hx.1
    simp at *
    omega
  by_cases hx0 : x = 0
  · subst hx0
    by_cases h1 : most < (v : Int)
    · have HP := Lib.hid (StrPost.err (w := w) (b := b) (most := most) (x := 5) · (by simp [ts, ht, h1]))
      clear ht
      go_enter Tryz.func190, Tryz.ntmps190
      go_wp2_with fail
      refine HC.out.mono ?_
      rintro e w1 ⟨A', m, c', rfl, hat, h3, h4, k, rfl⟩
      go_wp2
      go_ret3
      exact HP k
    · by_cases h2 : rest.length < v
      · have HP := Lib.hid (StrPost.err (w := w) (b := b) (most := most) (x := 3) · (by simp [ts, ht, h1, h2]))
        clear ht
        go_enter Tryz.func190, Tryz.ntmps190
        go_wp2_with fail
        refine HC.out.mono ?_
        rintro e w1 ⟨A', m, c', rfl, hat, h3, h4, k, rfl⟩
        have hml := hat.1
        have hmv : (m : Int) < (v : Int) := by omega
        clear hml h2
        go_wp2
        go_ret3
        exact HP k
      · have HT := Lib.hid (show ts b most = (rest.take v, rest.drop v, 0) by simp only [ts, ht]; rw [if_neg (by simp), if_neg h1, if_neg h2])
        clear ht
        go_enter Tryz.func190, Tryz.ntmps190
        go_wp2_with fail
        refine HC.out.mono ?_
        rintro e w1 ⟨A', m, c', rfl, hat, h3, h4, k, rfl⟩
        have hml := hat.1
        have hmv : v ≤ m := by omega
        have HML := Lib.hid hml
        clear hml h2
        have hvn : (v : Int) ≤ (m : Int) := by omega
        have hmc : (m : Int) ≤ (c' : Int) := by omega
        have hcv : (v : Int) ≤ (c' : Int) := by omega
        have hv0 : (0 : Int) ≤ (v : Int) := by omega
        have hlv : (rest.take v).length = v := by rw [List.length_take, HML.out]; omega
        have hat1 : ∀ W : World, (∀ p : Addr, p.block < w.heap.size → W.cell? p = w.cell? p) → At W A' v (rest.take v) := fun W hW => by
          have h5 := (hat.cut (l := 0) (k := v) (m := c') (by omega) hmv (by omega)).keep hW
          rw [cutA_zero] at h5
          simpa using h5
        obtain ⟨A2, hA2⟩ : ∃ A2, A2 = cutA A' c' v := ⟨_, rfl⟩
        have hat2 : At w A2 (m - v) (rest.drop v) := by
          have h5 := hat.cut (l := v) (k := m) (m := c') hmv (Nat.le_refl _) h3
          rw [List.take_of_length_le (by rw [HML.out]; exact Nat.le_refl _), ← hA2] at h5
          exact h5
        have hsl : ∀ W, (Instr.sliceAt 164 (.slice A' m c') (some (.int .i64 (v : Int))) none none).run Tryz.prog W = .ok (.slice A2 (m - v) (c' - v)) W := fun W => by
          rw [run_sliceAt_slice W _ _ _ _ _ slb_under, slb_l A' m c' .i64 v W hv0 hvn, hA2]
          rfl
        have hk := fun W hW => (hat1 W hW).conv (P := Tryz.prog) c' 164 5 9 Tryz.underlying164 Tryz.underlying5 Tryz.underlying9
        have HK := Lib.hid hk
        have kc0 := fun j => HK.out (w.drewN j) (fun _ _ => rfl)
        have kc1 := fun j o => HK.out ((w.drewN j).alloc o) (fun p hp => World.cell?_alloc_lt (w.drewN j) o p hp)
        obtain ⟨q, hq⟩ : ∃ q, q = rest.drop v := ⟨_, rfl⟩
        rw [← hq] at hat2
        have HL : Hid (Lists ((w.drewN (k + 1)).alloc (.cells #[.slice A2 (m - v) (c' - v)] 164)) (some ⟨w.heap.size, 0, none⟩) 1 [q]) := lists_one (c := c' - v) 164 (hat2.drewN (k + 1))
        have HQL : Hid ([q].flatten.length ≤ 225000000000000) := by
          have h5 := hat2.1
          have h6 := HML.out
          show [q].flatten.length ≤ 225000000000000
          simp
          omega
        have HQ := Lib.hid hq
        have hend : ∀ r w2, Own w2 ((w.drewN (k + 1)).alloc (.cells #[.slice A2 (m - v) (c' - v)] 164)).heap.size r [q].flatten → Below ((w.drewN (k + 1)).alloc (.cells #[.slice A2 (m - v) (c' - v)] 164)).heap.size ((w.drewN (k + 1)).alloc (.cells #[.slice A2 (m - v) (c' - v)] 164)) w2 →
            Own w2 w.heap.size r q ∧ Below w.heap.size w w2 := by
          intro r w2 h5 h6
          have h7 : [q].flatten = q := by simp
          rw [h7] at h5
          have h8 : Below w.heap.size w (w.drewN (k + 1)) := ⟨rfl, rfl, rfl, Nat.le_refl _, fun _ _ => rfl⟩
          exact ⟨h5.base (by simp), (h8.alloc (by simp) _).trans (h6.mono (by simp))⟩
        have HE := Lib.hid hend
        clear hA2 hlv hat1 hk hat2 hq hend
        go_wp2_with fail
        go_region_with (go_at_call 209; refine (join _ 1 1 [q] _ HL.out (by omega) HQL.out).mono ?_; rintro e w2 ⟨r, rfl, hown, hb⟩; have hbo := HE.out r w2 hown hb; have kc2 := HK.out w2 (fun p hp => hbo.2.cell hp); clear hown hb)
        all_goals go_wp2
        all_goals go_ret3
        all_goals
          refine ⟨r, ?_, ?_, hbo.2⟩ <;> rw [HT.out]
          · rfl
          · rw [← HQ.out]
            exact hbo.1
  · have hxe : ((x : Int) == 0) = false := by simp; omega
    have hxn : ((x : Int) != 0) = true := by simp; omega
    have HP := Lib.hid (StrPost.err (w := w) (b := b) (most := most) (x := x) · (by simp [ts, ht, hx0]))
    clear ht hx0
    go_enter Tryz.func190, Tryz.ntmps190
    go_wp2_with fail
    refine HC.out.mono ?_
    rintro e w1 ⟨A', m, c', rfl, hat, h3, h4, k, rfl⟩
    go_wp2
    go_ret3
    exact HP k

end Go.Proofs.YtgccichmdddbpaaGreatDoor
set_option linter.unusedVariables false
set_option maxRecDepth 100000
namespace Go.Proofs.YtgccichmdddbpaaGreatDoor
open Go.RowKit

theorem StrPost.err' {w w' : World} {b : List UInt8} {most : Int} {x : Nat} (h : ts b most = ([], [], x)) (hb : Below w.heap.size w w') : StrPost w b most (.returned (.tuple #[.string ⟨#[]⟩, .slice none 0 0, .int .i64 x])) w' := by
  refine ⟨.slice none 0 0, ?_, ?_, hb⟩ <;> rw [h]
  · rfl
  · exact World.ownsRow_nil _ _ _ _

theorem refTakeStr_neg (A : Option Addr) (n c : Nat) (most : Int) (w : World) (h : most < 0) :
    Calls Tryz.prog 167 #[.slice A n c, .int .i64 most] w fun e w' => e = .returned (.tuple #[.string ⟨#[]⟩, .slice none 0 0, .int .i64 2]) ∧ w = w' := by
  go_enter Tryz.func167, Tryz.ntmps167
  go_wp2
  go_ret3
  exact ⟨rfl, rfl⟩

def TkP (w : World) (v : Nat) (rest : List UInt8) (x : Nat) (e : Ending) (w' : World) : Prop :=
  ∃ A m c, e = .returned (.tuple #[.int .i64 v, .slice A m c, .int .i64 x]) ∧ At w' A m rest ∧ m ≤ c ∧ c ≤ 9223372036854775807 ∧ Below w.heap.size w w'

theorem refTake' (A : Option Addr) (n c : Nat) (b rest : List UInt8) (v x : Nat) (w : World) (hx : At w A n b) (hnc : n ≤ c) (hc : c ≤ 9223372036854775807) (hn : n ≤ 225000000000000) (ht : tk b = (v, rest, x)) :
    Calls Tryz.prog 196 #[.slice A n c] w (TkP w v rest x) := by
  refine (refTakeNum A n c b w hx hnc hc hn).mono ?_
  rintro e w' ⟨r, rfl, hown, hb⟩
  rw [ht] at hown ⊢
  obtain ⟨A', c', rfl, h1, h2, h3, _⟩ := hown.form
  exact ⟨A', _, c', rfl, h1, h2, h3, hb⟩

set_option maxHeartbeats 1000000 in
theorem refTakeStr (A : Option Addr) (n c : Nat) (most : Int) (b : List UInt8) (w : World) (hx : At w A n b) (hnc : n ≤ c) (hc : c ≤ 9223372036854775807) (hn : n ≤ 225000000000000) (hm : 0 ≤ most) :
    Calls Tryz.prog 167 #[.slice A n c, .int .i64 most] w (StrPost w b most) := by
  obtain ⟨v, rest, x, ht⟩ : ∃ v rest x, tk b = (v, rest, x) := ⟨_, _, _, rfl⟩
  have HC := Lib.hid (refTake' A n c b rest v x w hx hnc hc hn ht)
  have hrl : rest.length ≤ n := by
    have := tk_rest b
    rw [ht] at this
    have := hx.1
    simp at *
    omega
  by_cases hx0 : x = 0
  · subst hx0
    by_cases h1 : most < (v : Int)
    · have HP := Lib.hid (fun w' h => StrPost.err' (w := w) (w' := w') (b := b) (most := most) (x := 5) (by simp [ts, ht, h1]) h)
      clear ht
      go_enter Tryz.func167, Tryz.ntmps167
      go_wp2_with fail
      refine HC.out.mono ?_
      rintro e w1 ⟨A', m, c', rfl, hat, h3, h4, hb⟩
      go_wp2
      go_ret3
      exact HP.out _ hb
    · by_cases h2 : rest.length < v
      · have HP := Lib.hid (fun w' h => StrPost.err' (w := w) (w' := w') (b := b) (most := most) (x := 3) (by simp [ts, ht, h1, h2]) h)
        clear ht
        go_enter Tryz.func167, Tryz.ntmps167
        go_wp2_with fail
        refine HC.out.mono ?_
        rintro e w1 ⟨A', m, c', rfl, hat, h3, h4, hb⟩
        have hml := hat.1
        have hmv : (m : Int) < (v : Int) := by omega
        clear hml h2
        go_wp2
        go_ret3
        exact HP.out _ hb
      · have HT := Lib.hid (show ts b most = (rest.take v, rest.drop v, 0) by simp only [ts, ht]; rw [if_neg (by simp), if_neg h1, if_neg h2])
        clear ht
        go_enter Tryz.func167, Tryz.ntmps167
        go_wp2_with fail
        refine HC.out.mono ?_
        rintro e w1 ⟨A', m, c', rfl, hat, h3, h4, hb⟩
        have hml := hat.1
        have hmv : v ≤ m := by omega
        have hmn : m ≤ 225000000000000 := by omega
        have HML := Lib.hid hml
        clear hml h2
        have hvn : (v : Int) ≤ (m : Int) := by omega
        have hmc : (m : Int) ≤ (c' : Int) := by omega
        have hcv : (v : Int) ≤ (c' : Int) := by omega
        have hv0 : (0 : Int) ≤ (v : Int) := by omega
        have hat1 : ∀ W : World, (∀ p : Addr, p.block < w1.heap.size → W.cell? p = w1.cell? p) → At W A' v (rest.take v) := fun W hW => by
          have h5 := (hat.cut (l := 0) (k := v) (m := c') (by omega) hmv (by omega)).keep hW
          rw [cutA_zero] at h5
          simpa using h5
        obtain ⟨A2, hA2⟩ : ∃ A2, A2 = cutA A' c' v := ⟨_, rfl⟩
        have hat2 : At w1 A2 (m - v) (rest.drop v) := by
          have h5 := hat.cut (l := v) (k := m) (m := c') hmv (Nat.le_refl _) h3
          rw [List.take_of_length_le (by rw [HML.out]; exact Nat.le_refl _), ← hA2] at h5
          exact h5
        have hsl : ∀ W, (Instr.sliceAt 164 (.slice A' m c') (some (.int .i64 (v : Int))) none none).run Tryz.prog W = .ok (.slice A2 (m - v) (c' - v)) W := fun W => by
          rw [run_sliceAt_slice W _ _ _ _ _ slb_under, slb_l A' m c' .i64 v W hv0 hvn, hA2]
          rfl
        have hk := fun W hW => (hat1 W hW).conv (P := Tryz.prog) c' 164 5 9 Tryz.underlying164 Tryz.underlying5 Tryz.underlying9
        have HK := Lib.hid hk
        have kc0 := HK.out w1 (fun _ _ => rfl)
        have kc1 := fun j => HK.out (w1.drewN j) (fun _ _ => rfl)
        have kc3 := HK.out w1.drew (fun _ _ => rfl)
        obtain ⟨q, hq⟩ : ∃ q, q = rest.drop v := ⟨_, rfl⟩
        rw [← hq] at hat2
        have HQ := Lib.hid hq
        have hend : ∀ r w2, Own w2 w1.heap.size r q → Below w1.heap.size w1 w2 → Own w2 w.heap.size r q ∧ Below w.heap.size w w2 := by
          intro r w2 h5 h6
          have := hb.size
          exact ⟨h5.base this, hb.trans (h6.mono this)⟩
        have HE := Lib.hid hend
        have hmvb : m - v ≤ 225000000000000 := by omega
        have HB := Lib.hid (fun (w2 : World) (h : Below w1.heap.size w1.drew w2) => (⟨h.os, h.tape, h.output, h.size, h.block⟩ : Below w1.heap.size w1 w2))
        clear hA2 hat1 hk hq hend
        go_wp2_with fail
        go_region_with (go_at_call 201; refine (copyBytes A2 (m - v) (c' - v) q _ (by exact hat2.drew) hmvb).mono ?_; rintro e w2 ⟨r, rfl, hown, hbb⟩; have hbo := HE.out r w2 hown (HB.out w2 hbb); have kc2 := HK.out w2 (fun p hp => (HB.out w2 hbb).cell hp); clear hown hbb)
        all_goals go_wp2
        all_goals go_ret3
        all_goals
          refine ⟨r, ?_, ?_, hbo.2⟩ <;> rw [HT.out]
          · rfl
          · rw [← HQ.out]
            exact hbo.1
  · have hxe : ((x : Int) == 0) = false := by simp; omega
    have hxn : ((x : Int) != 0) = true := by simp; omega
    have HP := Lib.hid (fun w' h => StrPost.err' (w := w) (w' := w') (b := b) (most := most) (x := x) (by simp [ts, ht, hx0]) h)
    clear ht hx0
    go_enter Tryz.func167, Tryz.ntmps167
    go_wp2_with fail
    refine HC.out.mono ?_
    rintro e w1 ⟨A', m, c', rfl, hat, h3, h4, hb⟩
    go_wp2
    go_ret3
    exact HP.out _ hb

set_option maxHeartbeats 400000 in
theorem refStr (s : ByteArray) (most : Int) (w : World) (h2 : (s.size : Int) ≤ most) (hs : s.size ≤ 140737488351232) :
    Calls Tryz.prog 161 #[.string s, .int .i64 most] w fun e w' => ∃ v, e = .returned (.tuple #[v, .int .i64 0]) ∧ Own w' w.heap.size v (enc s.size ++ sb s) ∧ Below w.heap.size w w' := by
  have h1 : (0 : Int) ≤ most := by omega
  have hsM : s.size ≤ 9007199254740991 := by omega
  obtain ⟨i0, hi0, hz0, hz1, hz2⟩ := info_parts info5
  go_enter Tryz.func161, Tryz.ntmps161
  go_wp2_with fail
  refine (refNum s.size _ hsM).mono ?_
  rintro e w1 ⟨v1, rfl, hown1, hb1⟩
  obtain ⟨l1, hl1⟩ : ∃ l, l = enc s.size := ⟨_, rfl⟩
  have hel := enc_len s.size hsM
  rw [← hl1] at hown1 hel
  have HL1 := Lib.hid hl1
  have hsz := hb1.size
  have hown1' : w1.ownsRow w.heap.size 5 1 v1 l1.length (l1.map bv) := hown1
  clear hl1 hown1
  go_wp2_with (at_builtin; refine Lib.wpList_append_own_string _ rfl _ _ 164 9 rfl w.heap.size 5 i0 Tryz.underlying164 Tryz.underlying9 hi0 hz0 hz1 hz2 v1 l1.length (l1.map bv) rfl hown1' s rfl ?h63 ?hby hsz ?_)
  case h63 => unfold maxLen; omega
  case hby => omega
  intro v' w2 hown2 hg2 _
  have hbel : Below w.heap.size w w2 := hb1.grown hg2 hsz (fun q hq => (hown1'.lt q hq).1)
  have hov : Own w2 w.heap.size v' (l1 ++ sb s) := by
    unfold Own
    rw [List.length_append, sb_len, List.map_append]
    exact hown2
  clear hown2 hg2 hown1'
  go_wp2
  go_ret2
  exact ⟨v', rfl, by rw [← HL1.out]; exact hov, hbel⟩


end Go.Proofs.YtgccichmdddbpaaGreatDoor
set_option linter.unusedVariables false
namespace Go.Proofs.YtgccichmdddbpaaGreatDoor
open Go.RowKit

def NumP (w : World) (v : Nat) (rest : List UInt8) (x : Nat) (e : Ending) (w' : World) : Prop :=
  ∃ A m c, e = .returned (.tuple #[.int .i64 v, .slice A m c, .int .i64 x]) ∧ Own w' w.heap.size (.slice A m c) rest ∧ m ≤ c ∧ c ≤ 9223372036854775807 ∧ Below w.heap.size w w'

def StrP (w : World) (t rest : List UInt8) (x : Nat) (e : Ending) (w' : World) : Prop :=
  ∃ A m c, e = .returned (.tuple #[str_ t, .slice A m c, .int .i64 x]) ∧ Own w' w.heap.size (.slice A m c) rest ∧ m ≤ c ∧ c ≤ 9223372036854775807 ∧ Below w.heap.size w w'

/-- What TakeStr tells, of any number. -/
def tsx (b : List UInt8) (most : Int) : List UInt8 × List UInt8 × Nat := if most < 0 then ([], [], 2) else ts b most

theorem takeNum_any (A : Option Addr) (n c : Nat) (b rest : List UInt8) (v x : Nat) (w : World) (hx : At w A n b) (hnc : n ≤ c) (hc : c ≤ 9223372036854775807) (hn : n ≤ 225000000000000) (ht : tk b = (v, rest, x)) :
    Calls Tryz.prog 188 #[.slice A n c] w (NumP w v rest x) := by
  refine (takeNum A n c b rest v x w hx hnc hc hn ht).mono ?_
  rintro e w' ⟨r, rfl, hown, hb⟩
  obtain ⟨A', c', rfl, _, h2, h3, _⟩ := hown.form
  exact ⟨A', _, c', rfl, hown, h2, h3, hb⟩
theorem refTakeNum_any (A : Option Addr) (n c : Nat) (b rest : List UInt8) (v x : Nat) (w : World) (hx : At w A n b) (hnc : n ≤ c) (hc : c ≤ 9223372036854775807) (hn : n ≤ 225000000000000) (ht : tk b = (v, rest, x)) :
    Calls Tryz.prog 196 #[.slice A n c] w (NumP w v rest x) := by
  refine (refTakeNum A n c b w hx hnc hc hn).mono ?_
  rintro e w' ⟨r, rfl, hown, hb⟩
  rw [ht] at hown ⊢
  obtain ⟨A', c', rfl, _, h2, h3, _⟩ := hown.form
  exact ⟨A', _, c', rfl, hown, h2, h3, hb⟩
theorem takeStr_any (A : Option Addr) (n c : Nat) (most : Int) (b t rest : List UInt8) (x : Nat) (w : World) (hx : At w A n b) (hnc : n ≤ c) (hc : c ≤ 9223372036854775807) (hn : n ≤ 225000000000000) (ht : tsx b most = (t, rest, x)) :
    Calls Tryz.prog 190 #[.slice A n c, .int .i64 most] w (StrP w t rest x) := by
  by_cases hm : most < 0
  · unfold tsx at ht
    rw [if_pos hm] at ht
    cases ht
    refine (takeStr_neg A n c most w hm).mono ?_
    rintro e w' ⟨rfl, rfl⟩
    exact ⟨none, 0, 0, rfl, World.ownsRow_nil _ _ _ _, Nat.le_refl _, by omega, Below.refl _ _⟩
  · unfold tsx at ht
    rw [if_neg hm] at ht
    refine (takeStr A n c most b w hx hnc hc hn (by omega)).mono ?_
    rintro e w' ⟨r, rfl, hown, hb⟩
    rw [ht] at hown ⊢
    obtain ⟨A', c', rfl, _, h2, h3, _⟩ := hown.form
    exact ⟨A', _, c', rfl, hown, h2, h3, hb⟩
theorem refTakeStr_any (A : Option Addr) (n c : Nat) (most : Int) (b t rest : List UInt8) (x : Nat) (w : World) (hx : At w A n b) (hnc : n ≤ c) (hc : c ≤ 9223372036854775807) (hn : n ≤ 225000000000000) (ht : tsx b most = (t, rest, x)) :
    Calls Tryz.prog 167 #[.slice A n c, .int .i64 most] w (StrP w t rest x) := by
  by_cases hm : most < 0
  · unfold tsx at ht
    rw [if_pos hm] at ht
    cases ht
    refine (refTakeStr_neg A n c most w hm).mono ?_
    rintro e w' ⟨rfl, rfl⟩
    exact ⟨none, 0, 0, rfl, World.ownsRow_nil _ _ _ _, Nat.le_refl _, by omega, Below.refl _ _⟩
  · unfold tsx at ht
    rw [if_neg hm] at ht
    refine (refTakeStr A n c most b w hx hnc hc hn (by omega)).mono ?_
    rintro e w' ⟨r, rfl, hown, hb⟩
    rw [ht] at hown ⊢
    obtain ⟨A', c', rfl, _, h2, h3, _⟩ := hown.form
    exact ⟨A', _, c', rfl, hown, h2, h3, hb⟩

theorem ts_rest (b : List UInt8) (most : Int) : (ts b most).2.1.length ≤ b.length := by
  have h := tk_rest b
  unfold ts
  rcases htk : tk b with ⟨v, rest, x⟩
  rw [htk] at h
  simp only at h ⊢
  split
  · simp
  · split
    · simp
    · split
      · simp
      · simp; omega
theorem tsx_rest (b : List UInt8) (most : Int) : (tsx b most).2.1.length ≤ b.length := by
  unfold tsx
  split
  · simp
  · exact ts_rest b most

theorem enc_pos (n : Nat) : 0 < (enc n).length := by simp [enc]

end Go.Proofs.YtgccichmdddbpaaGreatDoor
