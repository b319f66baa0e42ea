/-
  Layer 10, the code: checkBatch, Apply, Get, Len.
-/
import Derived.Test.YtgakkeeeadndkaaTbApp
set_option linter.unusedVariables false
namespace Go.Proofs.Ytgakkeeeadndkaa
open Go.RowKit

theorem chk_any {l : List Op_} (h : ¬ 128 < l.length) (ha : l.any opBad = true) : chk l = 2 := by unfold chk; rw [if_neg h, if_pos ha]
set_option maxRecDepth 100000 in
set_option maxHeartbeats 4000000 in
theorem tb_check (A : Option Addr) (n c : Nat) (l : List Op_) (w : World) (hx : OAt w A n l) (hn : n ≤ 9223372036854775807) :
    Calls Try.prog 36 #[.slice A n c] w fun e w' => e = .returned (.int .i64 (chk l)) ∧ Below w.heap.size w w' := by
  have hl := hx.1
  have HX := Lib.hid hx
  clear hx
  by_cases hbig : 128 < n
  · have he : chk l = 5 := by unfold chk; rw [if_pos (by omega)]
    rw [he]
    go_enter Try.func36, Try.ntmps36
    go_wp2
    go_ret
    exact ⟨rfl, Below.refl _ _⟩
  · go_enter Try.func36, Try.ntmps36
    go_wp2
    go_loopw [4, 10] (fun _ i wr => ∃ k : Nat, k ≤ n ∧ i = .int .i64 k ∧ Hid ((l.take k).any opBad = false) ∧ Hid (Below w.heap.size w wr)) (fun _ i _ => n - (intOf i).toNat)
    case atStart => exact ⟨0, Nat.zero_le _, rfl, Lib.hid rfl, Lib.hid (Below.refl _ _)⟩
    case round =>
      obtain ⟨j, hj, rfl, HM, HB⟩ := hrel
      by_cases hlt : j < n
      · obtain ⟨b, o, rfl, hc⟩ := (HX.out.below HB.out).2 (by omega)
        obtain ⟨c0, c1, c2⟩ := hc j (by omega)
        have hs := any_take_succ opBad l j (by omega) HM.out
        have ha := any_of_get opBad l j (by omega)
        obtain ⟨⟨key, value, del⟩, hg⟩ : ∃ q, l[j]'(by omega) = q := ⟨_, rfl⟩
        rw [hg] at c0 c1 c2 hs ha
        clear hc
        have hb : opBad ⟨key, value, del⟩ = (key.toList.isEmpty || (del && !value.toList.isEmpty)) := rfl
        rw [hb] at hs ha
        have BAD := Lib.hid (fun (h : (key.toList.isEmpty || (del && !value.toList.isEmpty)) = true) => chk_any (by omega) (ha h))
        have HS := Lib.hid hs
        clear hb hs ha
        have YES := Lib.hid (fun (V : World) (h : Below wr.heap.size wr V) => (show Below w.heap.size w V from HB.out.trans (h.mono HB.out.size)))
        cases hk : key.toList.isEmpty with
        | true =>
          have hk' : key.toList = [] := by simpa using hk
          have he := BAD.out (by rw [hk]; rfl)
          have HE := Lib.hid he
          clear BAD HS he
          go_wp2
          go_ret
          exact ⟨by rw [HE.out]; rfl, YES.out _ (nbl _ _)⟩
        | false =>
          have hk' : ¬ key.toList = [] := fun e => by rw [e] at hk; cases hk
          cases del with
          | false =>
            have hs := HS.out
            rw [hk] at hs
            have HS2 := Lib.hid hs
            clear BAD HS hs
            go_wp2
            go_roundw
            case rel => exact ⟨j + 1, by omega, by go_num, HS2, Lib.hid (YES.out _ (nbl _ _))⟩
            case measure => simp [intOf]; omega
          | true =>
            cases hv : value.toList.isEmpty with
            | true =>
              have hv' : value.toList = [] := by simpa using hv
              have hs := HS.out
              rw [hk, hv] at hs
              have HS2 := Lib.hid hs
              clear BAD HS hs
              go_wp2
              go_roundw
              case rel => exact ⟨j + 1, by omega, by go_num, HS2, Lib.hid (YES.out _ (nbl _ _))⟩
              case measure => simp [intOf]; omega
            | false =>
              have hv' : ¬ value.toList = [] := fun e => by rw [e] at hv; cases hv
              have he := BAD.out (by rw [hk, hv]; rfl)
              have HE := Lib.hid he
              clear BAD HS he
              go_wp2
              go_ret
              exact ⟨by rw [HE.out]; rfl, YES.out _ (nbl _ _)⟩
      · obtain rfl : j = n := by omega
        have hm := HM.out
        rw [List.take_of_length_le (by omega)] at hm
        have he : chk l = 0 := by
          unfold chk
          rw [if_neg (by omega), if_neg (by rw [hm]; decide)]
        have HE := Lib.hid he
        clear he hm
        go_wp2
        go_ret
        exact ⟨by rw [HE.out]; rfl, HB.out⟩
section
variable {V V' w : World} {p : Nat} {r : List Rw} {F : Nat → Prop}
theorem tbA_list (h : (tbA p r).p V F) : ∃ q, V.cell? ⟨p, 0, none⟩ = some (pt q) := by
  obtain ⟨q, s, m, l, F2, h1, _, _⟩ := h
  exact ⟨q, h1.obj.cell 0⟩
theorem tbA_below (h : (tbA p r).p V F) (hb : Below V.heap.size V V') : (tbA p r).p V' F := (tbA p r).on h hb.size (fun k e => hb.block k ((tbA p r).lt h k e))
theorem rfold_succ (r : List Rw) (l : List Op_) {k : Nat} (h : k < l.length) : (l.take (k + 1)).foldl rone r = rone ((l.take k).foldl rone r) (l[k]'h) := by
  rw [List.take_succ_eq_append_getElem h, List.foldl_append]
  rfl
theorem tb_changeA (h : (tbA p r).p V F) (o : Op_) (hl : r.length ≤ 1000000000) (ho : o.key.size ≤ 140737488351232 ∧ o.value.size ≤ 140737488351232) :
    Calls Try.prog 37 #[pt p, .agg #[.string o.key, .string o.value, .bool o.del]] V fun e w' => (∃ u, e = .returned u) ∧ TbTurns p (rone r o) F V w' := by
  obtain ⟨q, s, m, l, F2, h1, rfl, hF⟩ := h
  refine (tb_change h1 o.key o.value o.del (by rw [tab_len] at hl; exact hl) (by omega) (by omega)).mono ?_
  rintro e w' ⟨hu, F', a, g, n⟩
  exact ⟨hu, F', a, g.mono (fun k e => (hF k).2 e), fun k e => (n k e).imp (fun e => (hF k).2 e) id⟩
set_option maxRecDepth 100000 in
set_option maxHeartbeats 4000000 in
theorem tb_apply (h : (tbA p r).p V F) (A : Option Addr) (n c : Nat) (l : List Op_) (hop : ∀ W, Grow F V W → OAt W A n l) (hn : n ≤ 9223372036854775807) {N : Nat} (hr : ROk N r) (hN : N ≤ 999999000) (hs : OSz l) :
    Calls Try.prog 14 #[pt p, .slice A n c] V fun e w' => e = .returned (.int .i64 (chk l)) ∧ TbTurns p (rapp r l) F V w' := by
  obtain ⟨q, hq⟩ := tbA_list h
  have IN := Lib.hid (tb_isNone p q V hq)
  have CH := Lib.hid (tb_check A n c l V (hop V (Grow.refl _ _)) hn)
  have hln := (hop V (Grow.refl _ _)).1
  have H := Lib.hid h
  have HOP := Lib.hid hop
  clear h hop hq
  by_cases hc : chk l = 0
  · obtain ⟨h128, hbad⟩ := chk_ok hc
    rw [hc] at CH
    have e0 : rapp r l = l.foldl rone r := by unfold rapp; rw [if_pos hc]
    rw [hc, e0]
    have HST := Lib.hid (fun (k : Nat) (hk : k < l.length) => (show ((l.take k).foldl rone r).length ≤ 1000000000 from by
      have := (hr.fold (l := l.take k) (fun o ho => hbad o (List.mem_of_mem_take ho)) (fun o ho => hs o (List.mem_of_mem_take ho))).len
      rw [List.length_take] at this
      omega))
    have HSZ := Lib.hid hs
    have HLN := Lib.hid hln
    clear hr hbad hs hc e0
    go_enter Try.func14, Try.ntmps14
    go_wp2_with (first
      | (go_at_call 35; refine IN.out.mono ?_; rintro e w2 ⟨rfl, hw⟩; obtain rfl : V = w2 := hw.symm)
      | (go_at_call 36; refine CH.out.mono ?_; rintro e w3 ⟨rfl, hb3⟩))
    have T0 := Lib.hid (show TbTurns p ((l.take 0).foldl rone r) F V w3 from TbTurns.below H.out hb3)
    clear hb3 IN CH
    go_loopw [7, 17] (fun _ i wr => ∃ k : Nat, k ≤ n ∧ i = .int .i64 k ∧ Hid (TbTurns p ((l.take k).foldl rone r) F V wr)) (fun _ i _ => n - (intOf i).toNat)
    case atStart => exact ⟨0, Nat.zero_le _, rfl, T0⟩
    case round =>
      obtain ⟨k, hk, rfl, HT⟩ := hrel
      by_cases hlt : k < n
      · obtain ⟨F', hA, hG, hN2⟩ := HT.out
        have hlt2 : k < l.length := by omega
        obtain ⟨b, o, rfl, hcc⟩ := (HOP.out wr hG).2 (by omega)
        obtain ⟨c0, c1, c2⟩ := hcc k hlt2
        have hb4 := nbl wr (.cells #[.string (l[k]'hlt2).key, .string (l[k]'hlt2).value, .bool (l[k]'hlt2).del] 32)
        have CHG := Lib.hid (tb_changeA (tbA_below hA hb4) (l[k]'hlt2) (HST.out k hlt2) (HSZ.out _ (List.getElem_mem hlt2)))
        have HSC := Lib.hid (rfold_succ r l hlt2)
        have HT4 := Lib.hid (HT.out.trans (fun F1 a1 => TbTurns.below a1 hb4))
        have HX := Lib.hid (fun (w5 : World) (ht : TbTurns p (rone ((l.take k).foldl rone r) (l[k]'hlt2)) F' (wr.alloc (.cells #[.string (l[k]'hlt2).key, .string (l[k]'hlt2).value, .bool (l[k]'hlt2).del] 32)) w5) => (show TbTurns p ((l.take (k + 1)).foldl rone r) F V w5 from by
          rw [HSC.out]
          obtain ⟨F5, a5, g5, n5⟩ := ht
          have hs1 := hG.size
          have g1 := hG.trans (Grow.of_below hb4)
          have hs4 := hb4.size
          refine ⟨F5, a5, g1.trans (g5.mono (fun k e => ?_)), fun k e => ?_⟩
          · rcases hN2 k e with e | e
            · exact .inl e
            · exact .inr ⟨e.1, by omega⟩
          · rcases n5 k e with e | e
            · rcases hN2 k e with e | e
              · exact .inl e
              · exact .inr ⟨e.1, by have := g5.size; omega⟩
            · exact .inr ⟨by omega, e.2⟩))
        clear hcc hA hG hN2 hb4 HSC HT4
        generalize (l[k]'hlt2) = op at *
        obtain ⟨key, value, del⟩ := op
        simp only at c0 c1 c2 CHG HX
        go_wp2_with (first
          | (go_at_call 37; refine CHG.out.mono ?_; rintro e w5 ⟨⟨u5, rfl⟩, hT5⟩))
        go_roundw
        case rel => exact ⟨k + 1, by omega, by go_num, Lib.hid (HX.out _ hT5)⟩
        case measure => simp [intOf]; omega
      · obtain rfl : k = n := by omega
        have ht := HT.out
        rw [List.take_of_length_le (by have := HLN.out; omega)] at ht
        have HT1 := Lib.hid ht
        clear ht
        go_wp2_with fail
        go_ret
        exact ⟨rfl, HT1.out⟩
  · have e0 : rapp r l = r := by unfold rapp; rw [if_neg hc]
    rw [e0]
    have hne : (((chk l : Nat) : Int) != 0) = true := by simpa using hc
    clear hr hs
    generalize chk l = e at *
    go_enter Try.func14, Try.ntmps14
    go_wp2_with (first
      | (go_at_call 35; refine IN.out.mono ?_; rintro e w2 ⟨rfl, hw⟩; obtain rfl : V = w2 := hw.symm)
      | (go_at_call 36; refine CH.out.mono ?_; rintro e w3 ⟨rfl, hb3⟩))
    go_ret
    exact ⟨rfl, TbTurns.below H.out hb3⟩
set_option maxRecDepth 100000 in
theorem tb_get (h : (tbA p r).p V F) (key : ByteArray) :
    Calls Try.prog 21 #[pt p, .string key] V fun e w' => e = .returned (.tuple #[.string (rval r key), .bool (rhas r key)]) ∧ Below V.heap.size V w' := by
  obtain ⟨q, s, m, l, F2, h1, rfl, hF⟩ := h
  have LI := Lib.hid (tb_list p q V (h1.obj.cell 0))
  have GE := Lib.hid (skA_get h1.sk key)
  rw [tab_val h1.strs] at GE
  rw [tab_has]
  clear h1 hF
  go_enter Try.func21, Try.ntmps21
  go_wp2_with (first
    | (go_at_call 40; refine LI.out.mono ?_; rintro e w2 ⟨rfl, hw⟩; obtain rfl : V = w2 := hw.symm)
    | (go_at_call 42; refine GE.out.mono ?_; rintro e w3 ⟨rfl, hb3⟩))
  go_ret2
  exact ⟨rfl, hb3⟩
set_option maxRecDepth 100000 in
theorem tb_len (h : (tbA p r).p V F) : Calls Try.prog 16 #[pt p] V fun e w' => e = .returned (.int .i64 (r.length : Int)) ∧ w' = V := by
  obtain ⟨q, s, m, l, F2, h1, rfl, hF⟩ := h
  have LI := Lib.hid (tb_list p q V (h1.obj.cell 0))
  have LE := Lib.hid (skA_len h1.sk)
  rw [tab_len]
  clear h1 hF
  go_enter Try.func16, Try.ntmps16
  go_wp2_with (first
    | (go_at_call 40; refine LI.out.mono ?_; rintro e w2 ⟨rfl, hw⟩; obtain rfl : V = w2 := hw.symm)
    | (go_at_call 41; refine LE.out.mono ?_; rintro e w3 ⟨rfl, hw3⟩; obtain rfl : V = w3 := hw3.symm))
  go_ret
  exact ⟨rfl, rfl⟩
end
end Go.Proofs.Ytgakkeeeadndkaa
