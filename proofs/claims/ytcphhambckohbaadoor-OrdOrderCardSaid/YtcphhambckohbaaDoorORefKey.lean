/-
  Layer 2: the document's answer Key.
-/
import Derived.Test.YtcphhambckohbaaDoorOStr
set_option linter.unusedVariables false
namespace Go.Proofs.YtcphhambckohbaaDoor
open Go.RowKit

theorem esc_step (s : ByteArray) (k : Nat) (h : k < s.size) : ∃ b : UInt8, s[k]'h = b ∧ esc ((sb s).take (k + 1)) = esc ((sb s).take k) ++ (if b = 0 then [0, 1] else [b]) := by
  have h' : k < (sb s).length := by rw [sb_len]; exact h
  refine ⟨_, rfl, ?_⟩
  rw [sb_get s k h, List.take_succ_eq_append_getElem h', esc_app]
  rfl

theorem Own.grew {w wr w2 : World} {B : Nat} {v : Value} {xs : List UInt8} (hown : Own wr B v xs) (hbw : Below B w wr) (hB : B ≤ wr.heap.size) {o : Obj} (hg : (wr.alloc o).grownBy w2 v.ownBlock) : Below B w w2 :=
  (hbw.alloc hB o).grown hg (by simp; omega) (fun q hq => (hown.lt q hq).1)

theorem u8_ne {b c : UInt8} (h : b ≠ c) : ((b.toNat : Int) == (c.toNat : Int)) = false := by
  apply beq_eq_false_iff_ne.2
  intro e
  exact h (UInt8.toNat_inj.1 (by omega))

set_option maxHeartbeats 2000000 in
theorem refKey (s : ByteArray) (w : World) (hs : s.size ≤ 1000) :
    Calls Tryd.prog 13 #[.string s] w fun e w' => e = .returned (.tuple #[.string ⟨(okey (sb s)).toArray⟩, .int .i64 0]) ∧ Below w.heap.size w w' := by
  go_enter Tryd.func13, Tryd.ntmps13
  go_wp2
  go_loopw [4, 5] (fun y x wr => ∃ k : Nat, x = .int .i64 k ∧ k ≤ s.size ∧ Own wr w.heap.size y (esc ((sb s).take k)) ∧ Below w.heap.size w wr) (fun _ x _ => s.size - (intOf x).toNat)
  case atStart => exact ⟨0, rfl, Nat.zero_le _, World.ownsRow_nil _ _ _ _, Below.refl _ _⟩
  case round =>
    obtain ⟨k, rfl, hk, hown, hbw⟩ := hrel
    have hsz := hbw.size
    obtain ⟨l, hl⟩ : ∃ l, l = esc ((sb s).take k) := ⟨_, rfl⟩
    have hll : l.length ≤ 2000 := by rw [hl]; have := esc_len ((sb s).take k); rw [List.length_take] at this; omega
    rw [← hl] at hown
    by_cases hlt : k < s.size
    · obtain ⟨b, hb, hE⟩ := esc_step s k hlt
      rw [← hl] at hE
      clear hl
      by_cases h0 : b = 0
      · subst h0
        rw [if_pos rfl] at hE
        have HE := Lib.hid hE
        clear hE
        go_wp2_with (at_builtin; refine wpList_app rfl _ _ 48 rfl w.heap.size 5 Tryd.underlying48 info5 _ l.length l [0] rfl (hown.alloc _).row_ _ 1 1 rfl (at_b _ (by simp)) ?hb ?hs ?_)
        case hb => omega
        case hs => simp; omega
        intro v1 w2 hown2 hg2 hat2
        have hb2 := hown.grew hbw hsz hg2
        have ho2 : Own w2 w.heap.size v1 (l ++ [0]) := Own.of_app (by simpa using hown2)
        have hsz2 := hb2.size
        clear hown2 hg2 hat2
        go_wp2_with (at_builtin; refine wpList_app rfl _ _ 48 rfl w.heap.size 5 Tryd.underlying48 info5 _ (l ++ [0]).length (l ++ [0]) [1] rfl (ho2.alloc _).row_ _ 1 1 rfl (at_b _ (by simp)) ?hb3 ?hs3 ?_)
        case hb3 => simp; omega
        case hs3 => simp; omega
        intro v3 w3 hown3 hg3 hat3
        have hb3 := ho2.grew hb2 hsz2 hg3
        have ho3 : Own w3 w.heap.size v3 (l ++ [0, 1]) := Own.of_app (by simpa using hown3)
        clear hown3 hg3 hat3
        go_wp2
        go_roundw
        case rel => exact ⟨k + 1, by go_num, by omega, by rw [HE.out]; exact ho3, hb3⟩
        case measure => simp [intOf]; omega
      · rw [if_neg h0] at hE
        have HE := Lib.hid hE
        have hne : ((b.toNat : Int) == 0) = false := u8_ne h0
        clear hE h0
        go_wp2_with (at_builtin; refine wpList_app rfl _ _ 48 rfl w.heap.size 5 Tryd.underlying48 info5 _ l.length l [b] rfl (hown.alloc _).row_ _ 1 1 rfl (at_b _ (by simp)) ?hb ?hs ?_)
        case hb => omega
        case hs => simp; omega
        intro v1 w2 hown2 hg2 hat2
        have hb2 := hown.grew hbw hsz hg2
        have ho2 : Own w2 w.heap.size v1 (l ++ [b]) := Own.of_app (by simpa using hown2)
        clear hown2 hg2 hat2
        go_wp2
        go_roundw
        case rel => exact ⟨k + 1, by go_num, by omega, by rw [HE.out]; exact ho2, hb2⟩
        case measure => simp [intOf]; omega
    · have hkk : k = s.size := by omega
      have HL : Hid (l = esc (sb s)) := by rw [hl, hkk, ← sb_len, List.take_length]; rfl
      clear hl hkk
      go_wp2_with (at_builtin; refine wpList_app rfl _ _ 48 rfl w.heap.size 5 Tryd.underlying48 info5 _ l.length l [0, 0] rfl (hown.alloc _).row_ _ 2 2 rfl (at_b2 _) ?hb ?hs ?_)
      case hb => omega
      case hs => simp; omega
      intro v1 w2 hown2 hg2 hat2
      have hb2 := hown.grew hbw hsz hg2
      obtain ⟨q, hq⟩ : ∃ q, q = l ++ [0, 0] := ⟨_, rfl⟩
      have ho2 : Own w2 w.heap.size v1 q := Own.of_app (by rw [hq]; simpa using hown2)
      have HQ : Hid (q = okey (sb s)) := by rw [hq, HL.out]; rfl
      clear hown2 hg2 hat2 hq
      obtain ⟨A, c, rfl, hat, _, _, _⟩ := ho2.form
      have kc := hat.conv (P := Tryd.prog) c 48 5 9 Tryd.underlying48 Tryd.underlying5 Tryd.underlying9
      go_wp2
      go_ret2
      exact ⟨by rw [HQ.out]; rfl, hb2⟩

theorem refKey_no (s : ByteArray) (w : World) (hs : 1000 < s.size) :
    Calls Tryd.prog 13 #[.string s] w fun e w' => e = .returned (.tuple #[.string ⟨#[]⟩, .int .i64 5]) ∧ w = w' := by
  go_enter Tryd.func13, Tryd.ntmps13
  go_wp2
  go_ret2
  exact ⟨rfl, rfl⟩

end Go.Proofs.YtcphhambckohbaaDoor
