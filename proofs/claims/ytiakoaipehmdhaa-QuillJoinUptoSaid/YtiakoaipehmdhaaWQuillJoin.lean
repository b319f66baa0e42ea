/-
  QuillJoin: the walk.
-/
import Derived.Test.YtiakoaipehmdhaaAny
set_option linter.unusedVariables false
namespace Go.Proofs.Ytiakoaipehmdhaa
open Go.RowKit

theorem info22 : (Try.prog.info? 22).map (fun i => (i.zero, i.size, i.bytes)) = some (some (.slice none 0 0), 1, 24) := by kernel_rfl

/-- A list of one's own, of lists of bytes of one's own. -/
def LOwn (w : World) (B : Nat) (v : Value) (ls : List (List UInt8)) : Prop :=
  ∃ vals : List Value, w.ownsRow B 22 1 v ls.length vals ∧ ∀ i, (h : i < ls.length) → ∃ u, vals[i]? = some u ∧ Own w B u ls[i]

theorem apart_types {w : World} {B B' : Nat} {e e' : TypeId} {s s' n n' : Nat} {v v' : Value} {xs xs' : List Value} (h : w.ownsRow B e s v n xs) (h' : w.ownsRow B' e' s' v' n' xs') (hne : e ≠ e') : v.ownBlock = none ∨ v.ownBlock ≠ v'.ownBlock := by
  rcases h.2 with ⟨rfl, _⟩ | ⟨g, cap, cur, rfl, _, hg, _⟩
  · exact .inl rfl
  · right
    rcases h'.2 with ⟨rfl, _⟩ | ⟨g', cap', cur', rfl, _, hg', _⟩
    · simp [Value.ownBlock]
    · intro hh
      have : g = g' := by simpa [Value.ownBlock] using hh
      subst this
      rw [hg] at hg'
      injection hg' with hg'
      injection hg' with _ ht
      exact hne ht

theorem LOwn.below {w w' : World} {B : Nat} {v : Value} {ls : List (List UInt8)} (h : LOwn w B v ls) (hb : Below w.heap.size w w') : LOwn w' B v ls := by
  obtain ⟨vals, h1, h2⟩ := h
  refine ⟨vals, h1.kept (row := none) ⟨hb.os, hb.tape, hb.output, hb.size, fun k hk _ => hb.block k hk⟩ (by cases v.ownBlock <;> simp), fun i hi => ?_⟩
  obtain ⟨u, hu, ho⟩ := h2 i hi
  exact ⟨u, hu, ho.below hb⟩

theorem LOwn.grown {w w' : World} {B : Nat} {v v' u : Value} {ls : List (List UInt8)} {l : List UInt8} {vals : List Value} (h1 : w.ownsRow B 22 1 v ls.length vals) (h2 : ∀ i, (h : i < ls.length) → ∃ u, vals[i]? = some u ∧ Own w B u ls[i]) (hu : Own w B u l)
    (hg : w.grownBy w' v.ownBlock) (h3 : w'.ownsRow B 22 1 v' (ls.length + 1) (vals ++ [u])) : LOwn w' B v' (ls ++ [l]) := by
  have hvl : vals.length = ls.length := by simpa using h1.1
  refine ⟨vals ++ [u], by simpa using h3, fun i hi => ?_⟩
  by_cases hlt : i < ls.length
  · obtain ⟨x, hx, ho⟩ := h2 i hlt
    refine ⟨x, by rw [List.getElem?_append_left (by omega)]; exact hx, ?_⟩
    rw [List.getElem_append_left hlt]
    exact World.ownsRow.kept ho hg (apart_types ho h1 (by decide))
  · have : i = ls.length := by simp at hi; omega
    subst this
    refine ⟨u, by rw [List.getElem?_append_right (by omega)]; simp [hvl], ?_⟩
    rw [List.getElem_append_right (by omega)]
    simp only [Nat.sub_self, List.getElem_cons_zero]
    exact World.ownsRow.kept hu hg (apart_types hu h1 (by decide))

theorem LOwn.lists {w : World} {B : Nat} {v : Value} {ls : List (List UInt8)} (h : LOwn w B v ls) : ∃ A c, v = .slice A ls.length c ∧ Lists w A ls.length ls ∧ ls.length ≤ c ∧ c ≤ 9223372036854775807 := by
  obtain ⟨vals, h1, h2⟩ := h
  rcases h1.2 with ⟨rfl, hn⟩ | ⟨g, cap, cur, rfl, hb, hg, hnc, hcm, _⟩
  · exact ⟨none, 0, by rw [hn], ⟨rfl, fun h0 => by omega⟩, by omega, by omega⟩
  · refine ⟨_, cap, rfl, ⟨rfl, fun h0 => ⟨g, 0, rfl, fun i hi => ?_⟩⟩, hnc, hcm⟩
    obtain ⟨u, hu, ho⟩ := h2 i hi
    obtain ⟨A, c, rfl, hat, _⟩ := ho.form
    have hc := World.ownsRow.cells h1 (g := g) rfl i _ hu
    rw [Go.WideShapes.add_plain] at hc
    exact ⟨A, c, hc, hat⟩

theorem getElem_flat_le (ls : List (List UInt8)) (k : Nat) (h : k < ls.length) : ls[k].length ≤ ls.flatten.length := by
  have h1 := flat_le ls (k + 1)
  rw [flat_succ ls k h, List.length_append] at h1
  omega

set_option maxRecDepth 100000 in
set_option maxHeartbeats 4000000 in
theorem quillJoin_walk (A : Option Addr) (m c : Nat) (ls : List (List UInt8)) (w : World) (hx : Lists w A m ls) (hmc : m ≤ c) (hk : c ≤ 1048576 ∧ ls.flatten.length ≤ 1048576) (hz : A = none → c = 0) :
    Calls Try.prog 6 #[.slice A m c] w fun e w' => e = .returned (.bool true) ∧ Below w.heap.size w w' := by
  obtain ⟨hc, hfl⟩ := hk
  have hml := Lib.hid hx.1
  have hm : m ≤ 1048576 := by omega
  obtain ⟨i0, hi0, hz0, hz1, hz2⟩ := info_parts info22
  have HFL := Lib.hid hfl
  clear hz hfl
  go_enter Try.func6, Try.ntmps6
  go_wp2_with fail
  go_loopw [3, 4] (fun v i wr => ∃ k : Nat, k ≤ m ∧ i = .int .i64 k ∧ LOwn wr w.heap.size v (ls.take k) ∧ Below w.heap.size w wr) (fun _ i _ => m - (intOf i).toNat)
  case atStart => exact ⟨0, Nat.zero_le _, rfl, ⟨[], World.ownsRow_nil _ _ _ _, fun i h => absurd h (by simp)⟩, Below.refl _ _⟩
  case round =>
    obtain ⟨k, hkm, rfl, hlo, hbw⟩ := hrel
    have hsz := hbw.size
    by_cases hlt : k < m
    · have hxr : Lists wr A m ls := hx.keep fun p hp => hbw.cell hp
      obtain ⟨b, o, rfl, hcell⟩ := hxr.2 (by omega)
      have hkl : k < ls.length := by rw [hml.out]; exact hlt
      obtain ⟨Ai, ci, h1, h2⟩ := hcell k hkl
      have hle := getElem_flat_le ls k hkl
      have hle2 := HFL.out
      obtain ⟨l, hl⟩ : ∃ l, l = ls[k] := ⟨_, rfl⟩
      rw [← hl] at h1 h2 hle
      have hl2 : l.length ≤ 1048576 := by omega
      have hts : ls.take (k + 1) = ls.take k ++ [l] := by rw [List.take_succ_eq_append_getElem hkl, hl]
      have HTS := Lib.hid hts
      have htk : (ls.take k).length = k := by rw [List.length_take]; omega
      obtain ⟨t, ht⟩ : ∃ t, t = ls.take k := ⟨_, rfl⟩
      rw [← ht] at hlo htk hts
      have HTK := Lib.hid htk
      have HT := Lib.hid ht
      clear hcell hxr hl hts htk ht hle hle2
      go_wp2_with fail
      refine (copyBytes Ai l.length ci l _ h2 (by omega)).mono ?_
      rintro e w2 ⟨v2, rfl, hown2, hb2⟩
      obtain ⟨A9, c9, rfl, _, _, _, _⟩ := hown2.form
      have hlo2 := hlo.below hb2
      obtain ⟨vals, q1, q2⟩ := hlo2
      have hb02 : Below w.heap.size w w2 := hbw.trans (hb2.mono hsz)
      have hsz2 := hb02.size
      have hown2' := hown2.base hsz
      rw [HTK.out] at q1
      clear hown2 hlo
      have hcn := fun x => cell_one_new w2 x 22
      go_wp2_with (at_builtin; refine wpList_append_own_at _ rfl (.tmp 14) (.tmp 20) 37 rfl w.heap.size 22 i0 (.slice none 0 0) 1 24 Try.underlying37 hi0 hz0 hz1 hz2 rfl (by omega) u3 k vals rfl (q1.alloc _) ⟨w2.heap.size, 0, none⟩ 1 1 [.slice A9 l.length c9] rfl rfl (hcn _) ?hone ?h63 ?hby ?hbs ?_)
      case hone =>
        intro u hu
        have hu' : u = .slice A9 l.length c9 := by simpa using hu
        rw [hu']
        rfl
      case h63 => unfold maxLen; omega
      case hby => omega
      case hbs => simp; omega
      intro v3 w3 q3 hg3 _ hat3
      have hb3 : Below w.heap.size w w3 := (hb02.alloc hsz2 _).grown hg3 (by simp; omega) (fun i hi => (q1.lt i hi).1)
      have hlo3 : LOwn w3 w.heap.size v3 (ls.take (k + 1)) := by
        rw [HTS.out, ← HT.out]
        have q1' := q1.alloc (.cells #[.slice A9 l.length c9] 22)
        refine LOwn.grown (w := w2.alloc (.cells #[.slice A9 l.length c9] 22)) (vals := vals) (by rw [HTK.out]; exact q1') (fun i hi => ?_) (World.ownsRow.alloc hown2' _) hg3 (by rw [HTK.out]; exact q3)
        obtain ⟨x, hx1, hx2⟩ := q2 i hi
        exact ⟨x, hx1, World.ownsRow.alloc hx2 _⟩
      clear q1 q2 q3 hown2' hg3 hat3 hcn
      go_wp2
      go_roundw
      case rel => exact ⟨k + 1, by omega, by go_num, hlo3, hb3⟩
      case measure => simp [intOf]; omega
    · have hkm' : k = m := by omega
      subst hkm'
      have htk : ls.take k = ls := by rw [← hml.out, List.take_length]
      rw [htk] at hlo
      obtain ⟨Ai, ci, hu3, hli, hi1, hi2⟩ := hlo.lists
      subst hu3
      rw [hml.out] at hli hi1 ⊢
      have hxr : Lists wr A k ls := hx.keep fun p hp => hbw.cell hp
      obtain ⟨q, hq⟩ : ∃ q, q = ls.flatten := ⟨_, rfl⟩
      have hqf := HFL.out
      rw [← hq] at hqf
      have HJ : Hid (∀ w, Lists w Ai k ls → Calls Try.prog 25 #[.slice Ai k ci] w fun e w' => ∃ v, e = .returned v ∧ Own w' w.heap.size v q ∧ Below w.heap.size w w') := by
        intro w h
        rw [hq]
        exact join Ai k ci ls w h (by omega) (by have := HFL.out; omega)
      have HR : Hid (∀ w, Lists w A k ls → Calls Try.prog 26 #[.slice A k c] w fun e w' => ∃ v, e = .returned v ∧ Own w' w.heap.size v q ∧ Below w.heap.size w w') := by
        intro w h
        rw [hq]
        exact refJoin A k c ls w h (by omega) (by have := HFL.out; omega)
      have HQ := Lib.hid hq
      obtain ⟨wo, rfl⟩ : ∃ wo : World, wo = wr := ⟨_, rfl⟩
      clear hlo htk hq hkm hlt
      go_wp2_with fail
      refine (HJ.out _ hli).mono ?_
      rintro e w2 ⟨v2, rfl, ho2, hb2⟩
      obtain ⟨A2, c2, rfl, _, h21, h22, _⟩ := ho2.form
      have hx2 : Lists w2 A k ls := hxr.keep fun p hp => hb2.cell hp
      obtain ⟨n2, hn2⟩ : ∃ n, n = q.length := ⟨_, rfl⟩
      rw [← hn2] at hqf h21 ho2 ⊢
      have HN2 := Lib.hid hn2
      clear hn2
      go_wp2_with fail
      refine (HR.out _ hx2).mono ?_
      rintro e w3 ⟨v3, rfl, ho3, hb3⟩
      obtain ⟨A3, c3, rfl, hat3, h31, h32, _⟩ := ho3.form
      rw [← HN2.out] at hat3 h31 ⊢
      have hat2 := (ho2.below hb3).at_
      have ho2' := ho2.below hb3
      have esz := hb2.size
      have hb23 : Below wo.heap.size wo w3 := hb2.trans (hb3.mono esz)
      clear ho2 ho3
      go_wp2_with fail
      refine (eqBytes _ _ _ _ _ _ q q _ hat2 hat3 (by omega)).mono ?_
      rintro e w4 ⟨rfl, j, rfl⟩
      rw [show (q == q) = true by simp]
      have hst := below_drewN hb23 j
      have ho2'' := ho2'.drewN j
      clear hat2 hat3 hx2 hb2 hb3 ho2'
      go_wp2_with fail
      go_loopw [6] (fun z wr => ∃ (i : Nat) (l : List UInt8), i ≤ n2 ∧ z = .int .i64 i ∧ Own wr wo.heap.size (.slice A2 n2 c2) l ∧ Below wo.heap.size wo wr) (fun z _ => n2 - (intOf z).toNat)
      case atStart => exact ⟨0, q, Nat.zero_le _, rfl, ho2'', hst⟩
      case round =>
        obtain ⟨i, l, hi, rfl, q5, hbs⟩ := hrel
        by_cases hlt : i < n2
        · obtain ⟨g, rfl, hg1, _⟩ := q5.some_ (by omega)
          have hc1 := q5.cell i hlt
          have hc2 := q5.free i
          have hrl : i < l.length := by rw [q5.len]; exact hlt
          obtain ⟨u, hu⟩ : ∃ u, u = l[i] := ⟨_, rfl⟩
          rw [← hu] at hc1
          have n5 := q5.set i (u + 1)
          have nb := hbs.setCell (p := ⟨g, i, none⟩) hg1 (bv (u + 1))
          rw [← bv_succ] at n5 nb
          clear hu hrl
          go_wp2
          go_roundw
          case rel => exact ⟨i + 1, _, by omega, by go_num, n5, nb⟩
          case measure => simp [intOf]; omega
        · have hki : n2 ≤ i := by omega
          have q5' : wr.ownsRow wo.heap.size 5 1 (.slice A2 n2 c2) n2 (l.map bv) := by
            have h1 := q5.len
            have h2 := q5
            unfold Own at h2
            rw [h1] at h2
            exact h2
          have es1 := hbs.size
          have hseven := fun w => at_one (w := w) (x := 7) (b := 7) 5 rfl
          obtain ⟨wp, rfl⟩ : ∃ wp : World, wp = wr := ⟨_, rfl⟩
          clear hlt q5 ho2''
          go_wp2_with (at_builtin; refine wpList_app rfl (.tmp 43) (.tmp 44) 22 rfl wo.heap.size 5 Try.underlying22 info5 _ n2 l [7] rfl (q5'.alloc _) _ 1 1 rfl (hseven _) ?hb5 ?hs5 ?_)
          case hb5 => omega
          case hs5 => simp; omega
          intro v6 w6 o6' hg6 _
          have o6 : w6.ownsRow wo.heap.size 5 1 v6 (n2 + 1) ((l ++ [7]).map bv) := by simpa using o6'
          have hv6 : ∃ A6 c6, v6 = .slice A6 (n2 + 1) c6 := by
            rcases o6.2 with ⟨_, h⟩ | ⟨g, cap, cur, h, _⟩
            · omega
            · exact ⟨_, _, h⟩
          obtain ⟨A6, c6, rfl⟩ := hv6
          have hb6 : Below wo.heap.size wo w6 := (hbs.alloc es1 _).grown hg6 (by simp; omega) (fun i hi => (q5'.lt i hi).1)
          clear o6 o6' hg6 q5'
          go_wp2_with fail
          go_loopw [7] (fun z wr => ∃ i : Nat, i ≤ k ∧ z = .int .i64 i ∧ Below wo.heap.size wo wr) (fun z _ => k - (intOf z).toNat)
          case atStart => exact ⟨0, Nat.zero_le _, rfl, hb6⟩
          case round =>
            obtain ⟨i', hi', rfl, hbt⟩ := hrel
            by_cases hlt : i' < k
            · have hl1 : Lists wr Ai k ls := hli.keep fun p hp => hbt.cell hp
              have hl2 : Lists wr A k ls := hxr.keep fun p hp => hbt.cell hp
              obtain ⟨b1, o1, rfl, hce1⟩ := hl1.2 (by omega)
              obtain ⟨b2, o2, rfl, hce2⟩ := hl2.2 (by omega)
              have hkl : i' < ls.length := by rw [hml.out]; exact hlt
              obtain ⟨P1, d1, f1, g1⟩ := hce1 i' hkl
              obtain ⟨P2, d2, f2, g2⟩ := hce2 i' hkl
              obtain ⟨r, hr⟩ : ∃ r, r = ls[i'] := ⟨_, rfl⟩
              have hrl : r.length ≤ 1048576 := by rw [hr]; exact Nat.le_trans (getElem_flat_le ls i' hkl) HFL.out
              rw [← hr] at f1 g1 f2 g2
              have E : ∀ n, Hid (Calls Try.prog 16 #[.slice P1 r.length d1, .slice P2 r.length d2] (wr.drewN n) fun e w' => e = .returned (.bool true) ∧ ∃ m, w' = wr.drewN m) := fun n => by
                refine (eqBytes _ _ _ _ d1 d2 r r _ (g1.drewN n) (g2.drewN n) (by omega)).mono ?_
                rintro e w' ⟨rfl, x, rfl⟩
                exact ⟨by simp, _, World.drewN_drewN _ _ _⟩
              clear hce1 hce2 hr
              go_wp2_with fail
              go_quiet ((go_at_call 16; exact (E _).out))
              go_wp2
              go_roundw
              case rel => exact ⟨i' + 1, by omega, by go_num, below_drewN hbt _⟩
              case measure => simp [intOf]; omega
            · have hge : k ≤ i' := by omega
              have hbf : Below w.heap.size w wr := hbw.trans (hbt.mono hsz)
              have esf := hbf.size
              clear hlt
              go_wp2_with fail
              refine (works _).mono ?_
              rintro e w9 ⟨rfl, hb9⟩
              go_wp2
              go_ret
              exact ⟨rfl, hbf.trans (hb9.mono esf)⟩
end Go.Proofs.Ytiakoaipehmdhaa
