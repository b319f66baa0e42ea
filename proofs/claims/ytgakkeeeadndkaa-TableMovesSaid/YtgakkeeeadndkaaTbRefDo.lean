/-
  Layer 10: the document's table: Check, Apply, Between; Same.
-/
import Derived.Test.YtgakkeeeadndkaaTbRef
set_option linter.unusedVariables false
namespace Go.Proofs.Ytgakkeeeadndkaa
open Go.RowKit

instance decOp : DecidableEq Op_ := fun a b => by
  cases a; cases b
  simp only [Op_.mk.injEq]
  infer_instance
instance decRw : DecidableEq Rw := fun a b => by
  cases a; cases b
  simp only [Rw.mk.injEq]
  infer_instance
theorem takeSuccEq {α : Type} {l1 l2 : List α} {k : Nat} (h1 : k < l1.length) (h2 : k < l2.length) (h : l1.take k = l2.take k) (hk : l1[k]'h1 = l2[k]'h2) : l1.take (k + 1) = l2.take (k + 1) := by
  rw [List.take_succ_eq_append_getElem h1, List.take_succ_eq_append_getElem h2, h, hk]
theorem bdr' {w V : World} (h : Below w.heap.size w V) : Below w.heap.size w V.drew := h.drew
theorem run_neOp (ka va kb vb : ByteArray) (da db : Bool) (V : World) : (binOp .neq 32 (.agg #[.string ka, .string va, .bool da]) (.agg #[.string kb, .string vb, .bool db])).run Try.prog V = .ok (.bool (decide ((⟨ka, va, da⟩ : Op_) ≠ ⟨kb, vb, db⟩))) V := by
  go_simp
  by_cases h1 : ka = kb
  · subst h1
    by_cases h2 : va = vb
    · subst h2
      by_cases h3 : da = db
      · subst h3; simp
      · simp [h3]
    · have h2' : ¬ va.toList = vb.toList := fun e => h2 (ktoList_inj e)
      simp [h2, h2']
  · have h1' : ¬ ka.toList = kb.toList := fun e => h1 (ktoList_inj e)
    simp [h1, h1']
theorem run_neRw (ka va kb vb : ByteArray) (V : World) : (binOp .neq 39 (.agg #[.string ka, .string va]) (.agg #[.string kb, .string vb])).run Try.prog V = .ok (.bool (decide ((⟨ka, va⟩ : Rw) ≠ ⟨kb, vb⟩))) V := by
  go_simp
  by_cases h1 : ka = kb
  · subst h1
    by_cases h2 : va = vb
    · subst h2; simp
    · have h2' : ¬ va.toList = vb.toList := fun e => h2 (ktoList_inj e)
      simp [h2, h2']
  · have h1' : ¬ ka.toList = kb.toList := fun e => h1 (ktoList_inj e)
    simp [h1, h1']
set_option maxRecDepth 100000 in
set_option maxHeartbeats 4000000 in
theorem same10 (A B : Option Addr) (n m c d : Nat) (l1 l2 : List Rw) (w : World) (h1 : WAt w A n l1) (h2 : WAt w B m l2) (hn : n ≤ 9223372036854775807) (hm : m ≤ 9223372036854775807) :
    Calls Try.prog 19 #[.slice A n c, .slice B m d] w fun e w' => e = .returned (.bool (decide (l1 = l2))) ∧ Below w.heap.size w w' := by
  have hl1 := h1.1
  have hl2 := h2.1
  have H1 := Lib.hid h1
  have H2 := Lib.hid h2
  have HL1 := Lib.hid hl1
  have HL2 := Lib.hid hl2
  clear h1 h2 hl1 hl2
  by_cases hnm : n = m
  · subst hnm
    go_enter Try.func19, Try.ntmps19
    go_wp2
    go_loopw [5] (fun i wr => ∃ k : Nat, k ≤ n ∧ i = .int .i64 k ∧ Hid (l1.take k = l2.take k) ∧ Hid (Below w.heap.size w wr)) (fun i _ => n - (intOf i).toNat)
    case atStart => exact ⟨0, Nat.zero_le _, rfl, Lib.hid rfl, Lib.hid (Below.refl _ _)⟩
    case round =>
      obtain ⟨k, hk, rfl, HT, HB⟩ := hrel
      by_cases hlt : k < n
      · obtain ⟨b1, o1, rfl, hc1⟩ := (H1.out.below HB.out).2 (by omega)
        obtain ⟨b2, o2, rfl, hc2⟩ := (H2.out.below HB.out).2 (by omega)
        have e1 : k < l1.length := by rw [HL1.out]; exact hlt
        have e2 : k < l2.length := by rw [HL2.out]; exact hlt
        obtain ⟨x0, x1⟩ := hc1 k e1
        obtain ⟨y0, y1⟩ := hc2 k e2
        have TS := Lib.hid (fun h => takeSuccEq e1 e2 HT.out h)
        have NE := Lib.hid (fun (h : l1[k]'e1 ≠ l2[k]'e2) (h2 : l1 = l2) => h (by subst h2; rfl))
        generalize l1[k]'e1 = a at *
        generalize l2[k]'e2 = b at *
        obtain ⟨ka, va⟩ := a
        obtain ⟨kb, vb⟩ := b
        have NB := fun V => run_neRw ka va kb vb V
        clear hc1 hc2
        by_cases hab : (⟨ka, va⟩ : Rw) = ⟨kb, vb⟩
        · have HT2 := Lib.hid (TS.out hab)
          rw [decide_eq_false (fun h => h hab)] at NB
          clear TS NE hab
          go_wp2_with fail
          go_region
          all_goals
            go_wp2_with fail
            go_roundw
            case rel => exact ⟨k + 1, by omega, by go_num, HT2, Lib.hid (bdr' HB.out)⟩
            case measure => simp [intOf]; omega
        · have hd : decide (l1 = l2) = false := decide_eq_false (NE.out hab)
          rw [decide_eq_true hab] at NB
          have HD := Lib.hid hd
          clear TS NE hab hd
          go_wp2_with fail
          go_region
          all_goals
            go_wp2_with fail
            go_ret
            exact ⟨by rw [HD.out]; rfl, bdr' HB.out⟩
      · obtain rfl : k = n := by omega
        have ht := HT.out
        rw [List.take_of_length_le (by rw [HL1.out]; omega), List.take_of_length_le (by rw [HL2.out]; omega)] at ht
        have HD := Lib.hid (decide_eq_true ht)
        clear ht HT
        go_wp2_with fail
        go_ret
        exact ⟨by rw [HD.out]; rfl, HB.out⟩
  · have hd : decide (l1 = l2) = false := decide_eq_false (fun e => hnm (by rw [← HL1.out, ← HL2.out, e]))
    have hz : ((n : Int) != (m : Int)) = true := by simp; omega
    rw [hd]
    go_enter Try.func19, Try.ntmps19
    go_wp2_with fail
    go_ret
    exact ⟨rfl, Below.refl _ _⟩
set_option maxRecDepth 100000 in
set_option maxHeartbeats 4000000 in
theorem rt_check (A : Option Addr) (n c : Nat) (l : List Op_) (w : World) (hx : OAt w A n l) (hn : n ≤ 9223372036854775807) :
    Calls Try.prog 38 #[.slice A n c] w fun e w' => e = .returned (.int .i64 (chk l)) ∧ Below w.heap.size w w' := by
  have hl := hx.1
  have HX := Lib.hid hx
  clear hx
  by_cases hbig : 128 < n
  · have he : chk l = 5 := by unfold chk; rw [if_pos (by omega)]
    rw [he]
    go_enter Try.func38, Try.ntmps38
    go_wp2
    go_ret
    exact ⟨rfl, Below.refl _ _⟩
  · go_enter Try.func38, Try.ntmps38
    go_wp2
    go_loopw [3] (fun i wr => ∃ k : Nat, k ≤ n ∧ i = .int .i64 k ∧ Hid ((l.take k).any opBad = false) ∧ Hid (Below w.heap.size w wr)) (fun i _ => n - (intOf i).toNat)
    case atStart => exact ⟨0, Nat.zero_le _, rfl, Lib.hid rfl, Lib.hid (Below.refl _ _)⟩
    case round =>
      obtain ⟨j, hj, rfl, HM, HB⟩ := hrel
      by_cases hlt : j < n
      · obtain ⟨b, o, rfl, hc⟩ := (HX.out.below HB.out).2 (by omega)
        obtain ⟨c0, c1, c2⟩ := hc j (by omega)
        have hs := any_take_succ opBad l j (by omega) HM.out
        have ha := any_of_get opBad l j (by omega)
        obtain ⟨⟨key, value, del⟩, hg⟩ : ∃ q, l[j]'(by omega) = q := ⟨_, rfl⟩
        rw [hg] at c0 c1 c2 hs ha
        clear hc
        have hb : opBad ⟨key, value, del⟩ = (key.toList.isEmpty || (del && !value.toList.isEmpty)) := rfl
        rw [hb] at hs ha
        have BAD := Lib.hid (fun (h : (key.toList.isEmpty || (del && !value.toList.isEmpty)) = true) => chk_any (by omega) (ha h))
        have HS := Lib.hid hs
        clear hb hs ha
        have YES := Lib.hid (fun (V : World) (h : Below wr.heap.size wr V) => (show Below w.heap.size w V from HB.out.trans (h.mono HB.out.size)))
        cases hk : key.toList.isEmpty with
        | true =>
          have hk' : key.toList = [] := by simpa using hk
          have he := BAD.out (by rw [hk]; rfl)
          have HE := Lib.hid he
          clear BAD HS he
          go_wp2
          go_ret
          exact ⟨by rw [HE.out]; rfl, YES.out _ (Below.refl _ _)⟩
        | false =>
          have hk' : ¬ key.toList = [] := fun e => by rw [e] at hk; cases hk
          cases del with
          | false =>
            have hs := HS.out
            rw [hk] at hs
            have HS2 := Lib.hid hs
            clear BAD HS hs
            go_wp2
            go_roundw
            case rel => exact ⟨j + 1, by omega, by go_num, HS2, Lib.hid (YES.out _ (Below.refl _ _))⟩
            case measure => simp [intOf]; omega
          | true =>
            cases hv : value.toList.isEmpty with
            | true =>
              have hv' : value.toList = [] := by simpa using hv
              have hs := HS.out
              rw [hk, hv] at hs
              have HS2 := Lib.hid hs
              clear BAD HS hs
              go_wp2
              go_roundw
              case rel => exact ⟨j + 1, by omega, by go_num, HS2, Lib.hid (YES.out _ (Below.refl _ _))⟩
              case measure => simp [intOf]; omega
            | false =>
              have hv' : ¬ value.toList = [] := fun e => by rw [e] at hv; cases hv
              have he := BAD.out (by rw [hk, hv]; rfl)
              have HE := Lib.hid he
              clear BAD HS he
              go_wp2
              go_ret
              exact ⟨by rw [HE.out]; rfl, YES.out _ (Below.refl _ _)⟩
      · obtain rfl : j = n := by omega
        have hm := HM.out
        rw [List.take_of_length_le (by omega)] at hm
        have he : chk l = 0 := by
          unfold chk
          rw [if_neg (by omega), if_neg (by rw [hm]; decide)]
        have HE := Lib.hid he
        clear he hm
        go_wp2
        go_ret
        exact ⟨by rw [HE.out]; rfl, HB.out⟩

/-- The document's table, as rows. -/
def rtA (b : Nat) (r : List Rw) : As where
  p V F := ∃ v, RtR V b v r ∧ ∀ k, F k ↔ rtF b v k
  on {V V' F} h hs hk := by
    obtain ⟨v, hR, hF⟩ := h
    exact ⟨v, hR.on (fun k e2 => hk k ((hF k).2 e2)), hF⟩
  lt {V F} h k e := by
    obtain ⟨v, hR, hF⟩ := h
    exact hR.lt ((hF k).1 e)
theorem rtA_cel {V : World} {b : Nat} {r : List Rw} {F : Nat → Prop} (h : (rtA b r).p V F) : Cel V F := by
  obtain ⟨v, hR, hF⟩ := h
  intro k e
  rcases (hF k).1 e with e | e
  · subst e; exact hR.obj.cel
  · rcases hR.row.2 with ⟨rfl, _⟩ | ⟨g, cap, cur, rfl, _, hh, _⟩
    · cases e
    · have e3 : some g = some k := e
      injection e3 with e3
      subst e3
      exact ⟨_, hh, rfl⟩
/-- What a call makes of a thing. -/
def AsTurn (A' : As) (F : Nat → Prop) (V w' : World) : Prop := ∃ F', A'.p w' F' ∧ Grow F V w' ∧ ∀ k, F' k → nF F V w' k
theorem AsTurn.trans {A1 A2 : As} {F : Nat → Prop} {V V1 V2 : World} (h : AsTurn A1 F V V1) (h2 : ∀ F1, A1.p V1 F1 → AsTurn A2 F1 V1 V2) : AsTurn A2 F V V2 := by
  obtain ⟨F1, a1, g1, n1⟩ := h
  obtain ⟨F2, a2, g2, n2⟩ := h2 F1 a1
  refine ⟨F2, a2, g1.trans (g2.mono n1), fun k e => ?_⟩
  rw [← nF_trans g1.size g2.size]
  exact (n2 k e).imp (n1 k) id
theorem AsTurn.below {A : As} {F : Nat → Prop} {V V' : World} (h : A.p V F) (hb : Below V.heap.size V V') : AsTurn A F V V' :=
  ⟨F, A.on h hb.size (fun k e => hb.block k (A.lt h k e)), Grow.of_below hb, fun k e => .inl e⟩
section
variable {V V' w : World} {b : Nat} {v v' : Value} {r r' : List Rw} {F : Nat → Prop}
theorem rt_oneA (h : (rtA b r).p V F) (o : Op_) (hl : r.length ≤ 1000000000) :
    Calls Try.prog 39 #[pt b, .agg #[.string o.key, .string o.value, .bool o.del]] V fun e w' => (∃ u, e = .returned u) ∧ AsTurn (rtA b (rone r o)) F V w' := by
  obtain ⟨v, hR, hF⟩ := h
  refine (rt_one V b v r o.key o.value o.del hR hl).mono ?_
  rintro e w' ⟨hu, v', a, g, n⟩
  exact ⟨hu, rtF b v', ⟨v', a, fun k => Iff.rfl⟩, g.mono (fun k e => (hF k).2 e), fun k e => (n k e).imp (fun e => (hF k).2 e) id⟩
set_option maxRecDepth 100000 in
set_option maxHeartbeats 4000000 in
theorem rt_apply (h : (rtA b r).p V F) (A : Option Addr) (n c : Nat) (l : List Op_) (hop : ∀ W, Grow F V W → OAt W A n l) (hn : n ≤ 9223372036854775807) (hr : r.length ≤ 999999000) :
    Calls Try.prog 15 #[pt b, .slice A n c] V fun e w' => e = .returned (.int .i64 (chk l)) ∧ AsTurn (rtA b (rapp r l)) F V w' := by
  have CH := Lib.hid (rt_check A n c l V (hop V (Grow.refl _ _)) hn)
  have hln := (hop V (Grow.refl _ _)).1
  have H := Lib.hid h
  have HOP := Lib.hid hop
  clear h hop
  by_cases hc : chk l = 0
  · obtain ⟨h128, hbad⟩ := chk_ok hc
    rw [hc] at CH
    have e0 : rapp r l = l.foldl rone r := by unfold rapp; rw [if_pos hc]
    rw [hc, e0]
    have HST := Lib.hid (fun (k : Nat) (hk : k < l.length) => (show ((l.take k).foldl rone r).length ≤ 1000000000 from by
      have hg : ∀ (l : List Op_) (r : List Rw), (l.foldl rone r).length ≤ r.length + l.length := by
        intro l
        induction l with
        | nil => intro r; simp
        | cons o l ih => intro r; have h1 := ih (rone r o); have h2 := rone_len r o; rw [List.foldl_cons, List.length_cons]; omega
      have := hg (l.take k) r
      rw [List.length_take] at this
      omega))
    have HLN := Lib.hid hln
    clear hr hbad hc e0
    go_enter Try.func15, Try.ntmps15
    go_wp2_with (first
      | (go_at_call 38; refine CH.out.mono ?_; rintro e w3 ⟨rfl, hb3⟩))
    have T0 := Lib.hid (show AsTurn (rtA b ((l.take 0).foldl rone r)) F V w3 from AsTurn.below H.out hb3)
    clear hb3 CH
    go_loopw [6] (fun i wr => ∃ k : Nat, k ≤ n ∧ i = .int .i64 k ∧ Hid (AsTurn (rtA b ((l.take k).foldl rone r)) F V wr)) (fun i _ => n - (intOf i).toNat)
    case atStart => exact ⟨0, Nat.zero_le _, rfl, T0⟩
    case round =>
      obtain ⟨k, hk, rfl, HT⟩ := hrel
      by_cases hlt : k < n
      · obtain ⟨F', hA, hG, hN2⟩ := HT.out
        have hlt2 : k < l.length := by omega
        obtain ⟨bb, o, rfl, hcc⟩ := (HOP.out wr hG).2 (by omega)
        obtain ⟨c0, c1, c2⟩ := hcc k hlt2
        have CHG := Lib.hid (rt_oneA hA (l[k]'hlt2) (HST.out k hlt2))
        have HSC := Lib.hid (rfold_succ r l hlt2)
        have HX := Lib.hid (fun (w5 : World) (ht : AsTurn (rtA b (rone ((l.take k).foldl rone r) (l[k]'hlt2))) F' wr w5) => (show AsTurn (rtA b ((l.take (k + 1)).foldl rone r)) F V w5 from by
          rw [HSC.out]
          obtain ⟨F5, a5, g5, n5⟩ := ht
          refine ⟨F5, a5, hG.trans (g5.mono hN2), fun k e => ?_⟩
          rw [← nF_trans hG.size g5.size]
          exact (n5 k e).imp (hN2 k) id))
        clear hcc hA hG hN2 HSC
        generalize (l[k]'hlt2) = op at *
        obtain ⟨key, value, del⟩ := op
        simp only at c0 c1 c2 CHG HX
        go_wp2_with (first
          | (go_at_call 39; refine CHG.out.mono ?_; rintro e w5 ⟨⟨u5, rfl⟩, hT5⟩))
        go_roundw
        case rel => exact ⟨k + 1, by omega, by go_num, Lib.hid (HX.out _ hT5)⟩
        case measure => simp [intOf]; omega
      · obtain rfl : k = n := by omega
        have ht := HT.out
        rw [List.take_of_length_le (by have := HLN.out; omega)] at ht
        have HT1 := Lib.hid ht
        clear ht
        go_wp2_with fail
        go_ret
        exact ⟨rfl, HT1.out⟩
  · have e0 : rapp r l = r := by unfold rapp; rw [if_neg hc]
    rw [e0]
    have hne : (((chk l : Nat) : Int) != 0) = true := by simpa using hc
    clear hr
    generalize chk l = e at *
    go_enter Try.func15, Try.ntmps15
    go_wp2_with (first
      | (go_at_call 38; refine CH.out.mono ?_; rintro e w3 ⟨rfl, hb3⟩))
    go_ret
    exact ⟨rfl, AsTurn.below H.out hb3⟩
set_option maxRecDepth 100000 in
set_option maxHeartbeats 8000000 in
theorem rt_between (h : RtR w b v r) (hs : RSor r) (f t : ByteArray) (hL : r.length ≤ 1000000000) :
    Calls Try.prog 23 #[pt b, .string f, .string t] w fun e w' => ∃ u, e = .returned u ∧ RRow w' w.heap.size u (btw r f t).length (btw r f t) ∧ Below w.heap.size w w' := by
  obtain ⟨A, c, rfl, hat, hnc, hcm⟩ := h.row.form
  have HQ := Lib.hid (fun V (hb : Below w.heap.size w V) => (show V.cell? ⟨b, 0, none⟩ = some (.slice A r.length c) from (h.below hb).obj.cell 0))
  have HA := Lib.hid (fun V (hb : Below w.heap.size w V) => hat.below hb)
  have c0 := HQ.out w (Below.refl _ _)
  have HLT := Lib.hid (show b < w.heap.size from h.obj.lt)
  have HS := Lib.hid hs
  have hL2 : r.length < 1000000001 := by omega
  clear h hat hs hL
  go_enter Try.func23, Try.ntmps23
  go_wp2_with fail
  clear c0
  go_loopw [7, 8] (fun ov iv wr => ∃ (i n : Nat) (L : List Rw), i ≤ r.length ∧ iv = .int .i64 i ∧ n ≤ i ∧ Hid (((r.take i).take (rend r t)).drop (rpos r f) = L) ∧ Hid (RRow wr w.heap.size ov n L) ∧ Hid (Below w.heap.size w wr)) (fun _ iv _ => r.length - (intOf iv).toNat)
  case atStart => exact ⟨0, 0, [], Nat.zero_le _, rfl, Nat.le_refl _, Lib.hid (by simp), Lib.hid (RRow.nil _ _), Lib.hid (Below.refl _ _)⟩
  case round =>
    obtain ⟨i, n, L, hi, rfl, hni, HE, HR, HB⟩ := hrel
    have c0 := HQ.out wr HB.out
    by_cases hlt : i < r.length
    · obtain ⟨bb, o, rfl, hcc⟩ := (HA.out wr HB.out).2 (by omega)
      obtain ⟨c1, c2⟩ := hcc i hlt
      have hb1 := btw_take (p := rpos r f) (q := rend r t) hlt
      rw [HE.out] at hb1
      have hk1 := rpos_iff HS.out (k := f) hlt
      have hk2 := rend_iff HS.out (k := t) hlt
      unfold kl at hk1 hk2
      clear hcc
      generalize (r[i]'hlt) = x at *
      obtain ⟨key, value⟩ := x
      simp only at c1 c2 hk1 hk2
      by_cases hpf : i < rpos r f
      · rw [decide_eq_true hpf] at hk1
        rw [if_neg (fun h => by omega), List.append_nil] at hb1
        have HE2 := Lib.hid hb1
        clear hk2 hb1 hpf c2
        go_wp2_with fail
        go_roundw
        case rel => exact ⟨i + 1, n, L, by omega, by go_num, by omega, HE2, HR, HB⟩
        case measure => simp [intOf]; omega
      · rw [decide_eq_false hpf] at hk1
        by_cases hq : i < rend r t
        · rw [decide_eq_true hq] at hk2
          rw [if_pos ⟨by omega, hq⟩] at hb1
          have HE2 := Lib.hid hb1
          have HB9 := Lib.hid (bsa HB.out (.cells #[.string key, .string value] 39))
          have HR9 := Lib.hid (HR.out.keep (nbl wr (.cells #[.string key, .string value] 39)))
          have HI9 := Lib.hid (row_one wr key value)
          clear hb1 hpf hq
          obtain ⟨A9, c9, rfl, hat9, hl9, hm9⟩ := HR.out.form
          clear hat9
          by_cases ht : t.toList = []
          · have ht2 : t.toList.isEmpty = true := by rw [ht]; rfl
            clear hk2
            go_wp2_with (first
              | (at_builtin; refine wpList_appR rfl _ _ rfl w.heap.size (.slice A9 n c9) n L [⟨key, value⟩] rfl HR9.out (some ⟨wr.heap.size, 0, none⟩) 1 1 rfl HI9.out (by omega) HB9.out.size ?_; intro v1 w1 hr1 hg1; have HB1 := Lib.hid (HB9.out.grown hg1 HB9.out.size (fun k e => (World.ownsRow.lt HR9.out k e).1)); have HR1 := Lib.hid hr1; clear hr1 hg1))
            go_roundw
            case rel => exact ⟨i + 1, n + 1, L ++ [⟨key, value⟩], by omega, by go_num, by omega, HE2, HR1, HB1⟩
            case measure => simp [intOf]; omega
          · have ht2 : t.toList.isEmpty = false := by simpa using ht
            rw [decide_eq_false ht, Bool.false_or] at hk2
            go_wp2_with (first
              | (at_builtin; refine wpList_appR rfl _ _ rfl w.heap.size (.slice A9 n c9) n L [⟨key, value⟩] rfl HR9.out (some ⟨wr.heap.size, 0, none⟩) 1 1 rfl HI9.out (by omega) HB9.out.size ?_; intro v1 w1 hr1 hg1; have HB1 := Lib.hid (HB9.out.grown hg1 HB9.out.size (fun k e => (World.ownsRow.lt HR9.out k e).1)); have HR1 := Lib.hid hr1; clear hr1 hg1))
            go_roundw
            case rel => exact ⟨i + 1, n + 1, L ++ [⟨key, value⟩], by omega, by go_num, by omega, HE2, HR1, HB1⟩
            case measure => simp [intOf]; omega
        · rw [decide_eq_false hq] at hk2
          rw [if_neg (fun h => hq h.2), List.append_nil] at hb1
          have HE2 := Lib.hid hb1
          rw [Bool.or_eq_false_iff] at hk2
          obtain ⟨ht, hk3⟩ := hk2
          have ht := of_decide_eq_false ht
          have ht2 : t.toList.isEmpty = false := by simpa using ht
          clear hb1 hpf hq
          go_wp2_with fail
          go_roundw
          case rel => exact ⟨i + 1, n, L, by omega, by go_num, by omega, HE2, HR, HB⟩
          case measure => simp [intOf]; omega
    · obtain rfl : i = r.length := by omega
      have he := HE.out
      rw [List.take_of_length_le (Nat.le_refl _)] at he
      have HE2 := Lib.hid (show btw r f t = L from he)
      clear he
      go_wp2_with fail
      go_ret
      have hr := HR.out
      have hl := hr.len
      rw [← HE2.out] at hr hl
      rw [← hl] at hr
      exact ⟨_, rfl, hr, HB.out⟩
end
end Go.Proofs.Ytgakkeeeadndkaa
