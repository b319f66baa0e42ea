/-
  Layer 2, the code: Check, behind, Key, TakeKey.
-/
import Derived.Test.YtgccichmdddbpaaGreatDoorPL20
import Derived.Test.YtgccichmdddbpaaGreatDoorPL06
import Derived.WalkMore
set_option linter.unusedVariables false
namespace Go.Proofs.YtgccichmdddbpaaGreatDoor
open Go.RowKit

/-- The library's own number MaxLen holds some number. -/
def MaxL (w : World) : Prop := ∃ m, w.cell? ⟨0, 0, none⟩ = some (.int .i64 m)
theorem MaxL.below {w w' : World} (h : MaxL w) (hb : Below w.heap.size w w') : MaxL w' := by
  obtain ⟨m, hm⟩ := h
  exact ⟨m, by rw [hb.cell (World.block_lt_of_cell? w _ hm)]; exact hm⟩
theorem MaxL.below' {w w' : World} {B : Nat} (h : MaxL w) (hb : Below B w w') (hB : w.heap.size ≤ B) : MaxL w' := h.below (hb.mono hB)
theorem MaxL.drewN {w : World} (h : MaxL w) (n : Nat) : MaxL (w.drewN n) := h
theorem MaxL.alloc {w : World} (h : MaxL w) (o : Obj) : MaxL (w.alloc o) := h.below ((Below.refl _ _).alloc (Nat.le_refl _) _)

theorem check (s : ByteArray) (w : World) :
    Calls Tryz.prog 203 #[.string s] w fun e w' => e = .returned (.int .i64 (if 1 ≤ s.size ∧ s.size ≤ 32 then 0 else 2)) ∧ w = w' := by
  by_cases h1 : s.size < 1
  · rw [if_neg (by omega)]
    go_enter Tryz.func203, Tryz.ntmps203
    go_wp2
    go_ret
    exact ⟨rfl, rfl⟩
  · by_cases h2 : 32 < s.size
    · rw [if_neg (by omega)]
      go_enter Tryz.func203, Tryz.ntmps203
      go_wp2
      go_ret
      exact ⟨rfl, rfl⟩
    · rw [if_pos (by omega)]
      go_enter Tryz.func203, Tryz.ntmps203
      go_wp2
      go_ret
      exact ⟨rfl, rfl⟩

theorem refCheck (s : ByteArray) (w : World) :
    Calls Tryz.prog 47 #[.string s] w fun e w' => e = .returned (.int .i64 (if 1 ≤ s.size ∧ s.size ≤ 32 then 0 else 2)) ∧ w = w' := by
  by_cases h1 : s.size < 1
  · rw [if_neg (by omega)]
    go_enter Tryz.func47, Tryz.ntmps47
    go_wp2
    go_ret
    exact ⟨rfl, rfl⟩
  · by_cases h2 : 32 < s.size
    · rw [if_neg (by omega)]
      go_enter Tryz.func47, Tryz.ntmps47
      go_wp2
      go_ret
      exact ⟨rfl, rfl⟩
    · rw [if_pos (by omega)]
      go_enter Tryz.func47, Tryz.ntmps47
      go_wp2
      go_ret
      exact ⟨rfl, rfl⟩

theorem clone (s : ByteArray) (w : World) (hs : s.size ≤ 281474976710656) :
    Calls Tryz.prog 75 #[.string s] w fun e w' => e = .returned (.string s) ∧ Below w.heap.size w w' := by
  go_enter Tryz.func75, Tryz.ntmps75
  go_wp2_with fail
  refine (Tryz.stringslite_Clone s _ hs).mono ?_
  rintro e w1 ⟨rfl, hb⟩
  go_wp2
  go_ret
  exact ⟨rfl, hb⟩

theorem behind (s : ByteArray) (k : Nat) (w : World) (hk : k ≤ s.size) (hs : s.size ≤ 150000000000000) :
    Calls Tryz.prog 215 #[.string s, .int .i64 k] w fun e w' => e = .returned (.string (s.extract k s.size)) ∧ Below w.heap.size w w' := by
  have h1 : (s.extract k s.size).size ≤ 281474976710656 := by rw [ByteArray.size_extract]; omega
  go_enter Tryz.func215, Tryz.ntmps215
  go_wp2_with fail
  refine (clone (s.extract k s.size) _ h1).mono ?_
  rintro e w1 ⟨rfl, hb⟩
  go_wp2
  go_ret
  exact ⟨rfl, hb⟩

theorem key (s : ByteArray) (w : World) (hs : s.size ≤ 1000) (hm : MaxL w) :
    Calls Tryz.prog 179 #[.string s] w fun e w' => e = .returned (.tuple #[.string ⟨(okey (ob s)).toArray⟩, .int .i64 0]) ∧ Below w.heap.size w w' := by
  obtain ⟨m, hm⟩ := hm
  have hc := count_zero_le (ob s)
  have hlen : s.size + Lib.countB s ⟨#[0]⟩ * (⟨#[0, 1]⟩ : ByteArray).size ≤ 140737488355328 := by
    show s.size + Lib.count (ob s) [0] * 2 ≤ _
    rw [ob_len] at hc
    omega
  have hE := Lib.hid (replaceAll_esc (ob s))
  have hO : (⟨(esc (ob s)).toArray⟩ : ByteArray) ++ ⟨#[0, 0]⟩ = ⟨(okey (ob s)).toArray⟩ := by
    apply ByteArray.ext
    simp [okey]
  have HO := Lib.hid hO
  clear hc hO
  go_enter Tryz.func179, Tryz.ntmps179
  go_wp2_with fail
  refine (Tryz.strings_ReplaceAll s ⟨#[0]⟩ ⟨#[0, 1]⟩ m _ (by omega) hm (by decide) hlen).mono ?_
  rintro e w1 ⟨rfl, hb⟩
  have e1 : Lib.replaceAll s.data.toList (⟨#[0]⟩ : ByteArray).data.toList (⟨#[0, 1]⟩ : ByteArray).data.toList = esc (ob s) := hE.out
  rw [e1]
  have hl := esc_len (ob s)
  rw [ob_len] at hl
  obtain ⟨q, hq⟩ : ∃ q, q = esc (ob s) := ⟨_, rfl⟩
  have hql : q.length ≤ 2000 := by rw [hq]; omega
  rw [← hq]
  have HQ := Lib.hid hq
  clear hl hq e1
  go_wp2
  go_ret2
  exact ⟨by rw [← HO.out, ← HQ.out]; rfl, hb⟩

theorem hasPre0 (s p : ByteArray) (b : Bool) (w : World) (h : Lib.hasPrefix (ob s) (ob p) = b) :
    Calls Tryz.prog 227 #[.string s, .string p] w fun e w' => e = .returned (.bool b) ∧ w = w' := by
  have hp := Lib.hasPrefix_of_take (ob s) (ob p)
  rw [h, ob_len, ob_len] at hp
  by_cases h1 : p.size ≤ s.size
  · have HB := Lib.hid (show ((s.extract 0 p.size).toList == p.toList) = b by
      rw [beq_str, ← hp, decide_eq_true h1, Bool.true_and]
      have e : ob (s.extract 0 p.size) = (ob s).take p.size := by rw [sb_ext]; simp
      by_cases h2 : (ob s).take p.size = ob p
      · rw [beq_iff_eq.2 h2]
        exact decide_eq_true (sb_inj (e.trans h2))
      · rw [beq_eq_false_iff_ne.2 h2]
        exact decide_eq_false fun h3 => h2 (by rw [← e, h3]))
    clear hp h
    go_enter Tryz.func227, Tryz.ntmps227
    go_wp2
    go_ret
    exact ⟨congrArg (fun b => Ending.returned (Value.bool b)) HB.out, rfl⟩
  · rw [decide_eq_false h1, Bool.false_and] at hp
    subst hp
    clear h
    go_enter Tryz.func227, Tryz.ntmps227
    go_wp2
    go_ret
    exact ⟨rfl, rfl⟩
theorem hasPre (s p : ByteArray) (b : Bool) (w : World) (h : Lib.hasPrefix (ob s) (ob p) = b) :
    Calls Tryz.prog 220 #[.string s, .string p] w fun e w' => e = .returned (.bool b) ∧ w = w' := by
  go_enter Tryz.func220, Tryz.ntmps220
  go_wp2_with fail
  refine (hasPre0 s p b _ h).mono ?_
  rintro e w1 ⟨rfl, rfl⟩
  go_wp2
  go_ret
  exact ⟨rfl, rfl⟩

/-- How a string may begin. -/
theorem begins (s : ByteArray) :
    (ob s = []) ∨ (ob s = [0]) ∨ (∃ (h : 0 < s.size) (c : UInt8), s[0]'h = 0 ∧ 1 < s.size ∧ ob s = 0 :: c :: (ob s).drop 2) ∨
    (∃ (h : 0 < s.size) (b : UInt8), b ≠ 0 ∧ s[0]'h = b ∧ ob s = b :: (ob s).drop 1) := by
  rcases ways s 0 (Nat.zero_le _) with ⟨_, h2⟩ | ⟨h, h1, hb, h2⟩ | ⟨h, h1, d, hb, hd1, h2⟩ | ⟨h, b, h0, hb, h2⟩
  · exact .inl (by simpa using h2)
  · exact .inr (.inl (by simpa using h2))
  · exact .inr (.inr (.inl ⟨h, d, hb, h1, by simpa using h2⟩))
  · exact .inr (.inr (.inr ⟨h, b, h0, hb, by simpa using h2⟩))

theorem size_of {s : ByteArray} {l : List UInt8} (h : ob s = l) : s.size = l.length := by rw [← h]; rfl

theorem isE {t : ByteArray} {l : List UInt8} (h : ob t = l) : t.toList.isEmpty = l.isEmpty := by rw [Lib.toList_data]; show (ob t).isEmpty = _; rw [h]
theorem isZ {t : ByteArray} {l : List UInt8} (h : ob t = l) : (t.toList == [0]) = (l == [0]) := by rw [Lib.toList_data]; show (ob t == [0]) = _; rw [h]

set_option maxRecDepth 100000 in
set_option maxHeartbeats 8000000 in
theorem take (s : ByteArray) (w : World) (hs : s.size ≤ 150000000000000) :
    Calls Tryz.prog 213 #[.string s] w fun e w' => e = TkAns (tkey 1000 (ob s)) ∧ Below w.heap.size w w' := by
  go_enter Tryz.func213, Tryz.ntmps213
  go_wp2
  go_step3
  go_wp2
  go_step3
  go_wp2
  go_loopw [0, 5] (fun x y wr => ∃ (t : ByteArray) (l : List UInt8), x = .string t ∧ t.size ≤ s.size ∧ l.length ≤ 1000 ∧ Own wr w.heap.size y l ∧ Hid (tkey 1000 (ob s) = push l (tkey (1000 - l.length) (ob t))) ∧ Below w.heap.size w wr) (fun x _ _ => match x with | .string t => t.size | _ => 0)
  case atStart => exact ⟨s, [], rfl, Nat.le_refl _, Nat.zero_le _, World.ownsRow_nil _ _ _ _, by simp [Hid, push_nil], Below.refl _ _⟩
  case round =>
    obtain ⟨t, l, rfl, htl, hl, hown, hd, hbw⟩ := hrel
    have hsz := hbw.size
    obtain ⟨A, c, rfl, hat, _, _, _⟩ := hown.form
    rcases begins t with h2 | h2 | ⟨h, d, hb, hsz2, h2⟩ | ⟨h, b, h0, hb, h2⟩
    · have H : Hid (tkey 1000 (ob s) = .error 3) := by rw [hd.out, h2, tkey_nil]; rfl
      have e1 : t.toList.isEmpty = true := isE h2
      clear h2 hd hat
      go_wp2
      rw [Exit.noGoto_ret]
      go_ret3
      exact ⟨by rw [H.out]; rfl, hbw⟩
    · have H : Hid (tkey 1000 (ob s) = .error 3) := by rw [hd.out, h2, tkey_zero]; rfl
      have e1 : t.toList.isEmpty = false := isE h2
      have e2 : (t.toList == [0]) = true := isZ h2
      have hts : 0 < t.size := by rw [size_of h2]; decide
      have hb : t[0]'hts = 0 := by rw [sb_get]; simp [h2]
      clear h2 hd hat
      go_wp2
      rw [Exit.noGoto_ret]
      go_ret3
      exact ⟨by rw [H.out]; rfl, hbw⟩
    · have e1 : t.toList.isEmpty = false := isE h2
      have e2 : (t.toList == [0]) = false := by rw [isZ h2]; simp
      by_cases d0 : d = 0
      · subst d0
        have p0 : Lib.hasPrefix (ob t) (ob ⟨#[0, 0]⟩) = true := by rw [h2]; simp [Lib.hasPrefix, ob, List.isPrefixOf]
        have H : Hid (tkey 1000 (ob s) = .ok (l, (ob t).drop 2)) := by rw [hd.out, h2, tkey_end]; simp [Hid, push, Except.map]
        have hk := fun (W : World) (hW : ∀ p : Addr, p.block < wr.heap.size → W.cell? p = wr.cell? p) => (hat.keep hW).conv (P := Tryz.prog) c 164 5 9 Tryz.underlying164 Tryz.underlying5 Tryz.underlying9
        have HK := Lib.hid hk
        have kc0 := HK.out wr (fun _ _ => rfl)
        have kc1 := fun j => HK.out (wr.drewN j) (fun _ _ => rfl)
        have kc3 := HK.out wr.drew (fun _ _ => rfl)
        have HB := Lib.hid (fun (w2 : World) (h : Below wr.heap.size wr.drew w2) => (⟨h.os, h.tape, h.output, h.size, h.block⟩ : Below wr.heap.size wr w2))
        have HE := Lib.hid (fun (w2 : World) (h : Below wr.heap.size wr w2) => hbw.trans (h.mono hsz))
        have h150 : t.size ≤ 150000000000000 := by omega
        have h2t : 2 ≤ t.size := by omega
        clear h2 hd hk hat
        go_wp2_with (go_at_call 220; refine (hasPre t ⟨#[0, 0]⟩ true _ p0).mono ?_; rintro e w1 ⟨rfl, rfl⟩)
        go_region_with (go_at_call 215; refine (behind t 2 _ h2t h150).mono ?_; rintro e w2 ⟨rfl, hbb⟩; have hbo := HB.out w2 hbb; have kc2 := HK.out w2 (fun p hp => hbo.cell hp); clear hbb)
        all_goals go_wp2
        all_goals rw [Exit.noGoto_ret]
        all_goals go_ret3
        all_goals exact ⟨by rw [H.out, TkAns_end]; rfl, HE.out _ hbo⟩
      · by_cases d1 : d = 1
        · subst d1
          have p0 : Lib.hasPrefix (ob t) (ob ⟨#[0, 0]⟩) = false := by rw [h2]; simp [Lib.hasPrefix, ob, List.isPrefixOf]
          have p1 : Lib.hasPrefix (ob t) (ob ⟨#[0, 1]⟩) = true := by rw [h2]; simp [Lib.hasPrefix, ob, List.isPrefixOf]
          rw [h2, tkey_esc] at hd
          have hx : ob (t.extract 2 t.size) = (ob t).drop 2 := sb_end t 2
          have hxs : (t.extract 2 t.size).size = t.size - 2 := by rw [ByteArray.size_extract]; omega
          by_cases hn : l.length = 1000
          · have H : Hid (tkey 1000 (ob s) = .error 5) := by rw [hd.out, hn]; rfl
            have h5 : ((l.length : Int) == 1000) = true := by simp; omega
            clear h2 hd hat hx hxs hn
            go_wp2_with (go_at_call 220; first | (refine (hasPre t ⟨#[0, 0]⟩ false _ p0).mono ?_; rintro e w1 ⟨rfl, rfl⟩) | (refine (hasPre t ⟨#[0, 1]⟩ true _ p1).mono ?_; rintro e w1 ⟨rfl, rfl⟩))
            rw [Exit.noGoto_ret]
            go_ret3
            exact ⟨by rw [H.out]; rfl, hbw⟩
          · have H := Lib.hid (push_step l 0 (.error 0) _ 0 (by omega) _ hd.out)
            rw [← hx] at H
            have h5 : ((l.length : Int) == 1000) = false := by simp; omega
            have hl1 : l.length + 1 ≤ 1000 := by omega
            obtain ⟨t2, ht2⟩ : ∃ t2, t2 = t.extract 2 t.size := ⟨_, rfl⟩
            rw [← ht2] at H hxs
            have HT := Lib.hid ht2
            clear h2 hd hat hn hx ht2
            go_wp2_with (first | (at_builtin; refine wpList_app rfl _ _ 164 rfl w.heap.size 5 Tryz.underlying164 info5 _ l.length l [0] rfl (hown.alloc _).row_ _ 1 1 rfl (at_b _ (by simp)) ?hb ?hs ?_) | (go_at_call 220; first | (refine (hasPre t ⟨#[0, 0]⟩ false _ p0).mono ?_; rintro e w1 ⟨rfl, rfl⟩) | (refine (hasPre t ⟨#[0, 1]⟩ true _ p1).mono ?_; rintro e w1 ⟨rfl, rfl⟩)))
            case hb => omega
            case hs => simp; omega
            intro v1 w2 hown2 hg2 hat2
            have hb2 := hown.grew hbw hsz hg2
            have ho2 : Own w2 w.heap.size v1 (l ++ [0]) := Own.of_app (by simpa using hown2)
            clear hown2 hg2 hat2
            go_wp2
            go_roundw
            case rel => exact ⟨t2, l ++ [0], by rw [HT.out], by omega, by simpa using hl1, ho2, H.out, hb2⟩
            case measure =>
              show (t.extract 2 t.size).size < t.size
              rw [← HT.out]
              omega
        · have p0 : Lib.hasPrefix (ob t) (ob ⟨#[0, 0]⟩) = false := by rw [h2]; simp [Lib.hasPrefix, ob, List.isPrefixOf, Ne.symm d0]
          have p1 : Lib.hasPrefix (ob t) (ob ⟨#[0, 1]⟩) = false := by rw [h2]; simp [Lib.hasPrefix, ob, List.isPrefixOf, Ne.symm d1]
          have H : Hid (tkey 1000 (ob s) = .error 4) := by rw [hd.out, h2, tkey_bad _ d0 d1]; rfl
          clear h2 hd hat d0 d1
          go_wp2_with (go_at_call 220; first | (refine (hasPre t ⟨#[0, 0]⟩ false _ p0).mono ?_; rintro e w1 ⟨rfl, rfl⟩) | (refine (hasPre t ⟨#[0, 1]⟩ false _ p1).mono ?_; rintro e w1 ⟨rfl, rfl⟩))
          rw [Exit.noGoto_ret]
          go_ret3
          exact ⟨by rw [H.out]; rfl, hbw⟩
    · have e1 : t.toList.isEmpty = false := isE h2
      have h6 := u8_ne0 h0
      have h7 := u8_eq0 h0
      rw [h2, tkey_byte _ h0] at hd
      have hx : ob (t.extract 1 t.size) = (ob t).drop 1 := sb_end t 1
      have hxs : (t.extract 1 t.size).size = t.size - 1 := by rw [ByteArray.size_extract]; omega
      by_cases hn : l.length = 1000
      · have H : Hid (tkey 1000 (ob s) = .error 5) := by rw [hd.out, hn]; rfl
        have h5 : ((l.length : Int) == 1000) = true := by simp; omega
        clear h2 hd hat hx hxs hn
        go_wp2
        rw [Exit.noGoto_ret]
        go_ret3
        exact ⟨by rw [H.out]; rfl, hbw⟩
      · have H := Lib.hid (push_step l b (.error 0) _ 0 (by omega) _ hd.out)
        rw [← hx] at H
        have h5 : ((l.length : Int) == 1000) = false := by simp; omega
        have hl1 : l.length + 1 ≤ 1000 := by omega
        obtain ⟨t2, ht2⟩ : ∃ t2, t2 = t.extract 1 t.size := ⟨_, rfl⟩
        rw [← ht2] at H hxs
        have HT := Lib.hid ht2
        clear h2 hd hat hn hx ht2
        go_wp2_with (at_builtin; refine wpList_app rfl _ _ 164 rfl w.heap.size 5 Tryz.underlying164 info5 _ l.length l [b] rfl (hown.alloc _).row_ _ 1 1 rfl (at_b _ (by simp)) ?hb ?hs ?_)
        case hb => omega
        case hs => simp; omega
        intro v1 w2 hown2 hg2 hat2
        have hb2 := hown.grew hbw hsz hg2
        have ho2 : Own w2 w.heap.size v1 (l ++ [b]) := Own.of_app (by simpa using hown2)
        clear hown2 hg2 hat2
        go_wp2
        go_roundw
        case rel => exact ⟨t2, l ++ [b], by rw [HT.out], by omega, by simpa using hl1, ho2, H.out, hb2⟩
        case measure =>
          show (t.extract 1 t.size).size < t.size
          rw [← HT.out]
          omega

end Go.Proofs.YtgccichmdddbpaaGreatDoor
