/-
  Layer 2: the document's answer TakeKey.
-/
import Derived.Test.YtcphhambckohbaaDoorORefKey
set_option linter.unusedVariables false
namespace Go.Proofs.YtcphhambckohbaaDoor
open Go.RowKit

def push (l : List UInt8) (r : Except Nat (List UInt8 × List UInt8)) : Except Nat (List UInt8 × List UInt8) := r.map fun p => (l ++ p.1, p.2)
theorem push_nil (r : Except Nat (List UInt8 × List UInt8)) : push [] r = r := by cases r <;> rfl
theorem push_one (l : List UInt8) (b : UInt8) (r : Except Nat (List UInt8 × List UInt8)) : push l (r.map fun p => (b :: p.1, p.2)) = push (l ++ [b]) r := by
  cases r with
  | error e => rfl
  | ok p => simp [push, Except.map]

/-- What TakeKey answers: the text, what is behind, the error. -/
def tkt (r : Except Nat (List UInt8 × List UInt8)) : ByteArray := match r with | .ok p => ⟨p.1.toArray⟩ | .error _ => ⟨#[]⟩
def tkr (r : Except Nat (List UInt8 × List UInt8)) : ByteArray := match r with | .ok p => ⟨p.2.toArray⟩ | .error _ => ⟨#[]⟩
def tke (r : Except Nat (List UInt8 × List UInt8)) : Int := match r with | .ok _ => 0 | .error e => e
def TkAns (r : Except Nat (List UInt8 × List UInt8)) : Ending := .returned (.tuple #[.string (tkt r), .string (tkr r), .int .i64 (tke r)])
theorem TkAns_err (n : Nat) : TkAns (.error n) = .returned (.tuple #[.string ⟨#[]⟩, .string ⟨#[]⟩, .int .i64 n]) := rfl
theorem TkAns_ok (s r : List UInt8) : TkAns (.ok (s, r)) = .returned (.tuple #[.string ⟨s.toArray⟩, .string ⟨r.toArray⟩, .int .i64 0]) := rfl

theorem TkAns_end (l : List UInt8) (s : ByteArray) (k : Nat) : TkAns (.ok (l, (sb s).drop k)) = .returned (.tuple #[.string ⟨l.toArray⟩, .string (s.extract k s.size), .int .i64 0]) := by
  rw [TkAns_ok, ← sb_end, mk_sb]

/-- The ways in which what is left may begin, at a place of a string. -/
theorem ways (s : ByteArray) (k : Nat) (hk : k ≤ s.size) :
    (k = s.size ∧ (sb s).drop k = []) ∨
    (∃ h : k < s.size, k + 1 = s.size ∧ s[k]'h = 0 ∧ (sb s).drop k = [0]) ∨
    (∃ (h : k < s.size) (h1 : k + 1 < s.size) (c : UInt8), s[k]'h = 0 ∧ s[k + 1]'h1 = c ∧ (sb s).drop k = 0 :: c :: (sb s).drop (k + 2)) ∨
    (∃ (h : k < s.size) (b : UInt8), b ≠ 0 ∧ s[k]'h = b ∧ (sb s).drop k = b :: (sb s).drop (k + 1)) := by
  rcases Nat.lt_or_ge k s.size with h | h
  · have h' : k < (sb s).length := by rw [sb_len]; exact h
    have e : (sb s).drop k = (sb s)[k] :: (sb s).drop (k + 1) := List.drop_eq_getElem_cons h'
    by_cases h0 : s[k] = 0
    · have h0' : (sb s)[k] = 0 := by rw [← sb_get s k h]; exact h0
      rcases Nat.lt_or_ge (k + 1) s.size with h1 | h1
      · have h1' : k + 1 < (sb s).length := by rw [sb_len]; exact h1
        refine .inr (.inr (.inl ⟨h, h1, _, h0, rfl, ?_⟩))
        rw [e, h0', List.drop_eq_getElem_cons h1', sb_get s (k + 1) h1]
      · refine .inr (.inl ⟨h, by omega, h0, ?_⟩)
        rw [e, h0', List.drop_of_length_le (by rw [sb_len]; omega)]
    · refine .inr (.inr (.inr ⟨h, s[k]'h, h0, rfl, ?_⟩))
      rw [e, sb_get s k h]
  · refine .inl ⟨by omega, List.drop_of_length_le (by rw [sb_len]; omega)⟩

theorem u8_eq0 {b : UInt8} (h : b ≠ 0) : ((b.toNat : Int) == 0) = false := u8_ne h
theorem u8_eq1 {b : UInt8} (h : b ≠ 1) : ((b.toNat : Int) == 1) = false := u8_ne h
theorem u8_ne0 {b : UInt8} (h : b ≠ 0) : ((b.toNat : Int) != 0) = true := by rw [bne, u8_eq0 h]; rfl
theorem u8_ne1 {b : UInt8} (h : b ≠ 1) : ((b.toNat : Int) != 1) = true := by rw [bne, u8_eq1 h]; rfl

theorem push_step (l : List UInt8) (b : UInt8) (r t : Except Nat (List UInt8 × List UInt8)) (n : Nat) (hn : l.length < 1000) (u : List UInt8)
    (h : t = push l (if 1000 - l.length = 0 then .error 5 else (tkey (1000 - l.length - 1) u).map fun p => (b :: p.1, p.2))) : t = push (l ++ [b]) (tkey (1000 - (l ++ [b]).length) u) := by
  rw [h, if_neg (by omega), push_one, List.length_append, List.length_singleton, Nat.sub_sub]

set_option maxHeartbeats 4000000 in
theorem refTake (s : ByteArray) (w : World) (hs : s.size ≤ 150000000000000) :
    Calls Tryd.prog 15 #[.string s] w fun e w' => e = TkAns (tkey 1000 (sb s)) ∧ Below w.heap.size w w' := by
  go_enter Tryd.func15, Tryd.ntmps15
  go_wp2
  go_loopw [5, 6] (fun y x wr => ∃ (k : Nat) (l : List UInt8), x = .int .i64 k ∧ k ≤ s.size ∧ l.length ≤ 1000 ∧ Own wr w.heap.size y l ∧ Hid (tkey 1000 (sb s) = push l (tkey (1000 - l.length) ((sb s).drop k))) ∧ Below w.heap.size w wr) (fun _ x _ => s.size - (intOf x).toNat)
  case atStart => exact ⟨0, [], rfl, Nat.zero_le _, Nat.zero_le _, World.ownsRow_nil _ _ _ _, by simp [Hid, push_nil], Below.refl _ _⟩
  case round =>
    obtain ⟨k, l, rfl, hk, hl, hown, hd, hbw⟩ := hrel
    have hsz := hbw.size
    obtain ⟨A, c, rfl, hat, _, _, _⟩ := hown.form
    rcases ways s k hk with ⟨h1, h2⟩ | ⟨h, h1, hb, h2⟩ | ⟨h, h1, d, hb, hd1, h2⟩ | ⟨h, b, h0, hb, h2⟩
    · have H : Hid (tkey 1000 (sb s) = .error 3) := by rw [hd.out, h2, tkey_nil]; rfl
      clear h2 hd hat
      go_wp2
      go_ret3
      exact ⟨by rw [H.out]; rfl, hbw⟩
    · have H : Hid (tkey 1000 (sb s) = .error 3) := by rw [hd.out, h2, tkey_zero]; rfl
      have h3 : ((k : Int) == (s.size : Int)) = false := by simp; omega
      have h4 : ((k : Int) + 1 == (s.size : Int)) = true := by simp; omega
      clear h2 hd h1 hat
      go_wp2
      go_ret3
      exact ⟨by rw [H.out]; rfl, hbw⟩
    · have h3 : ((k : Int) == (s.size : Int)) = false := by simp; omega
      have h4 : ((k : Int) + 1 == (s.size : Int)) = false := by simp; omega
      by_cases d0 : d = 0
      · subst d0
        have H : Hid (tkey 1000 (sb s) = .ok (l, (sb s).drop (k + 2))) := by rw [hd.out, h2, tkey_end]; simp [Hid, push, Except.map]
        have kc := hat.conv (P := Tryd.prog) c 48 5 9 Tryd.underlying48 Tryd.underlying5 Tryd.underlying9
        have kd : ∀ j, (convert 48 9 (.slice A l.length c)).run Tryd.prog (wr.drewN j) = .ok (.string ⟨l.toArray⟩) (wr.drewN j) := fun j =>
          (hat.drewN j).conv (P := Tryd.prog) c 48 5 9 Tryd.underlying48 Tryd.underlying5 Tryd.underlying9
        have h5 : (k : Int) + 2 ≤ (s.size : Int) := by omega
        clear h2 hd hat
        go_wp2_with fail
        go_quiet (fail)
        go_wp2
        go_ret3
        exact ⟨by rw [H.out, TkAns_end]; rfl, below_drewN hbw _⟩
      · by_cases d1 : d = 1
        · subst d1
          rw [h2, tkey_esc] at hd
          by_cases hn : l.length = 1000
          · have H : Hid (tkey 1000 (sb s) = .error 5) := by rw [hd.out, hn]; rfl
            have h5 : ((l.length : Int) == 1000) = true := by simp; omega
            clear h2 hd hat
            go_wp2
            go_ret3
            exact ⟨by rw [H.out]; rfl, hbw⟩
          · have H := Lib.hid (push_step l 0 (.error 0) _ 0 (by omega) _ hd.out)
            have h5 : ((l.length : Int) == 1000) = false := by simp; omega
            have hl1 : l.length + 1 ≤ 1000 := by omega
            clear h2 hd hat hn
            go_wp2_with (at_builtin; refine wpList_app rfl _ _ 48 rfl w.heap.size 5 Tryd.underlying48 info5 _ l.length l [0] rfl (hown.alloc _).row_ _ 1 1 rfl (at_b _ (by simp)) ?hb ?hs ?_)
            case hb => omega
            case hs => simp; omega
            intro v1 w2 hown2 hg2 hat2
            have hb2 := hown.grew hbw hsz hg2
            have ho2 : Own w2 w.heap.size v1 (l ++ [0]) := Own.of_app (by simpa using hown2)
            clear hown2 hg2 hat2
            go_wp2
            go_roundw
            case rel => exact ⟨k + 2, l ++ [0], by go_num, by omega, by simpa using hl1, ho2, H.out, hb2⟩
            case measure => simp [intOf]; omega
        · have H : Hid (tkey 1000 (sb s) = .error 4) := by rw [hd.out, h2, tkey_bad _ d0 d1]; rfl
          have h5 := u8_eq0 d0
          have h6 := u8_ne1 d1
          clear h2 hd hat d0 d1
          go_wp2
          go_ret3
          exact ⟨by rw [H.out]; rfl, hbw⟩
    · have h3 : ((k : Int) == (s.size : Int)) = false := by simp; omega
      have h6 := u8_eq0 h0
      rw [h2, tkey_byte _ h0] at hd
      by_cases hn : l.length = 1000
      · have H : Hid (tkey 1000 (sb s) = .error 5) := by rw [hd.out, hn]; rfl
        have h5 : ((l.length : Int) == 1000) = true := by simp; omega
        clear h2 hd hat
        go_wp2
        go_ret3
        exact ⟨by rw [H.out]; rfl, hbw⟩
      · have H := Lib.hid (push_step l b (.error 0) _ 0 (by omega) _ hd.out)
        have h5 : ((l.length : Int) == 1000) = false := by simp; omega
        have hl1 : l.length + 1 ≤ 1000 := by omega
        clear h2 hd hat hn
        go_wp2_with (at_builtin; refine wpList_app rfl _ _ 48 rfl w.heap.size 5 Tryd.underlying48 info5 _ l.length l [b] rfl (hown.alloc _).row_ _ 1 1 rfl (at_b _ (by simp)) ?hb ?hs ?_)
        case hb => omega
        case hs => simp; omega
        intro v1 w2 hown2 hg2 hat2
        have hb2 := hown.grew hbw hsz hg2
        have ho2 : Own w2 w.heap.size v1 (l ++ [b]) := Own.of_app (by simpa using hown2)
        clear hown2 hg2 hat2
        go_wp2
        go_roundw
        case rel => exact ⟨k + 1, l ++ [b], by go_num, by omega, by simpa using hl1, ho2, H.out, hb2⟩
        case measure => simp [intOf]; omega

end Go.Proofs.YtcphhambckohbaaDoor
