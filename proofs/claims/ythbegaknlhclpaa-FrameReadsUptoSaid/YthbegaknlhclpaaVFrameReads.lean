/-
  FrameReads: the walk, over what the code's functions promise.
-/
import Derived.Test.YthbegaknlhclpaaFRefAll
import Derived.Test.YthbegaknlhclpaaFOut
import Derived.Test.YthbegaknlhclpaaFWorks
import Derived.Test.YthbegaknlhclpaaFOkN
import Derived.Test.YthbegaknlhclpaaVFrameStops
import Derived.OrdersIn
set_option linter.unusedVariables false
namespace Go.Proofs.Ythbegaknlhclpaa
open Go.RowKit Go.Shelf
attribute [local go_sem] Oper.semAt_some

theorem nx_plen {b p : List UInt8} {n e : Nat} (h : nx b = (p, n, e)) : p.length ≤ 65536 := by
  by_cases he : e = 0
  · subst he
    exact (nx_ok h).1
  · rw [(nx_err h he).1]
    simp
theorem alls_len (b : List UInt8) : 5 * (alls b).length ≤ b.length := by
  obtain ⟨p, n, e, h⟩ : ∃ p n e, nx b = (p, n, e) := ⟨_, _, _, rfl⟩
  by_cases he : e = 0
  · subst he
    have hs := nx_size h
    have h5 : 5 ≤ n := by
      obtain ⟨_, h1, _⟩ := nx_ok h
      rw [h1, fr_len]
      have : 0 < (enc p.length).length := by simp [enc]
      omega
    rw [alls_ok h, List.length_cons]
    have := alls_len (b.drop n)
    rw [List.length_drop] at this
    omega
  · rw [alls_no h he]
    simp
termination_by b.length
decreasing_by
  rw [List.length_drop]
  omega
theorem alls_small (b p : List UInt8) (hp : p ∈ alls b) : p.length ≤ 65536 := by
  obtain ⟨q, n, e, h⟩ : ∃ q n e, nx b = (q, n, e) := ⟨_, _, _, rfl⟩
  by_cases he : e = 0
  · subst he
    have hs := nx_size h
    rw [alls_ok h] at hp
    rcases List.mem_cons.1 hp with rfl | hp
    · exact nx_plen h
    · exact alls_small (b.drop n) p hp
  · rw [alls_no h he] at hp
    simp at hp
termination_by b.length
decreasing_by
  rw [List.length_drop]
  omega
theorem bv_next (u : UInt8) : Value.int .u8 (((u.toNat : Int) + 1) % 256) = bv (u + 1) := by
  unfold bv
  rw [UInt8.toNat_add]
  congr 1

/-- The list of copies, in its variable, as a round's writes to what it was handed leave it. -/
structure Hold (B5 B0 : Nat) (w5 W : World) (u : Value) (cs : List Piece) (X : World) : Prop where
  box : Blk X B5 35 #[u]
  row : X.ownsRow B5 22 1 u cs.length (cs.map (·.1))
  own : ∀ x ∈ cs, Own X B0 x.1 x.2
  keeps : KeepsOthers W X
  b5 : Below B5 w5 X
  bW : Below B5 W X
theorem Hold.grown {B5 B0 Bq n : Nat} {w5 W X Y : World} {u v : Value} {cs : List Piece} {xs : List Value} (h : Hold B5 B0 w5 W u cs X) (q : X.ownsRow Bq 5 1 v n xs) (hg : X.grownBy Y v.ownBlock) (hB : B5 < Bq)
    (hne : ∀ x ∈ cs, x.1.ownBlock = none ∨ x.1.ownBlock ≠ v.ownBlock) : Hold B5 B0 w5 W u cs Y := by
  have hlt := h.box.lt
  have hr : ∀ k, v.ownBlock = some k → B5 ≤ k := fun k hk => by have := (World.ownsRow.lt q k hk).1; omega
  refine ⟨Boxed.kept h.box hg (fun e => ?_), row_grown h.row q hg (by decide), fun x hx => World.ownsRow.kept (h.own x hx) hg (hne x hx), h.keeps.trans (KeepsOthers.of_grownBy hg fun j o ej hj => ?_), h.b5.grown hg (by omega) hr, h.bW.grown hg (by omega) hr⟩
  · have := (World.ownsRow.lt q _ e.symm).1
    omega
  · rcases q.2 with ⟨rfl, _⟩ | ⟨g, cap, cur, rfl, _, hgb, _⟩
    · simp [Value.ownBlock] at ej
    · obtain rfl : g = j := by simpa [Value.ownBlock] using ej
      rw [hgb] at hj
      cases hj
      rfl
theorem Hold.alloc {B5 B0 : Nat} {w5 W X : World} {u : Value} {cs : List Piece} (h : Hold B5 B0 w5 W u cs X) (o : Obj) : Hold B5 B0 w5 W u cs (X.alloc o) := by
  have hlt := h.box.lt
  exact ⟨Boxed.alloc h.box o, h.row.alloc o, fun x hx => World.ownsRow.alloc (h.own x hx) o, h.keeps.trans (KeepsOthers.alloc _ o), h.b5.alloc (by omega) o, h.bW.alloc (by omega) o⟩

/-- 'append' to what the call owns, as one operation of a region that draws. -/
theorem opIn_append_own {F : Fence} {n : Nat} {P : Program} (w : World) {o : Oper} {a : Act} {K : Act → World → Prop} {Q : Exit → Act → World → Prop}
    (s x : Operand) (t : TypeId) (hop : o.op = Op.call { callee := Callee.builtin Builtin.append, args := #[s, x], argTypes := #[t, t] })
    (base : Nat) (e : TypeId) (i : TypeInfo) (z : Value) (size bytes : Nat) (h1 : P.underlying t = some (.slice e)) (h2 : P.info? e = some i) (h3 : i.zero = some z) (h4 : i.size = size) (h5 : i.bytes = bytes) (h6 : z.cells.size = size) (h7 : 0 < size)
    (v : Value) (k : Nat) (xs : List Value) (hs : a.eval s = v) (hown : w.ownsRow base e size v k xs) (ad : Addr) (m c : Nat) (news : List Value) (hx : a.eval x = .slice (some ad) m c) (hn : news.length = m * size)
    (hc : ∀ j u, news[j]? = some u → w.cell? (ad.add j) = some u) (h1c : ∀ u ∈ news, u.oneCell' = true) (b1 : k + m ≤ maxLen) (b2 : (k + m) * bytes ≤ 140737488355328) (b3 : base ≤ w.heap.size)
    (hK : ∀ v' w', w'.ownsRow base e size v' (k + m) (xs ++ news) → w.grownBy w' v.ownBlock → K (a.put o.dst v') w') :
    Oper.wpIn F n P o a w K Q := by
  obtain ⟨v', w', hrun, r1, r2, _⟩ := run_append_own (P := P) w base t o.type e i z size bytes h1 h2 h3 h4 h5 h6 h7 v k xs hown ad m c news hn hc h1c b1 b2 b3
  unfold Oper.wpIn
  constructor
  · simp [Oper.about, hop, resolve, Target.leads, Sem.run_pure]
  · rw [Oper.semAt_plain F _ _ (by rw [hop]; intro c hc'; cases hc')]
    simp [execOp, hop, resolve, invoke, builtin, hs, hx, hrun, Result.andThen]
    exact hK v' w' r1 r2

set_option pp.deepTerms true in
set_option pp.maxSteps 1000000 in
set_option maxHeartbeats 4000000 in
theorem frameReads_w (hF : FrameOk) (hN : NextOk) (hall : AllOkN) (A : Option Addr) (n c : Nat) (xs : List UInt8) (w : World) (hx : At w A n xs) (hnc : n ≤ c) (hk : c ≤ 1048576) (hz : A = none → c = 0) :
    Calls Try.prog 4 #[.slice A n c] w fun e w' => e = .returned (.bool true) ∧ Below w.heap.size w w' := by
  have HW := Lib.hid (works hF hN)
  obtain ⟨p, size, e, hn⟩ : ∃ p size e, nx xs = (p, size, e) := ⟨_, _, _, rfl⟩
  have hpl := nx_plen hn
  have hal := alls_len xs
  have hxl := hx.1
  have C1 := Lib.hid (fun A c V (h : At V A n xs) (h1 : n ≤ c) (h2 : c ≤ 9223372036854775807) => hN A n c xs p size e V h h1 h2 (by omega) hn)
  have C2 := Lib.hid (fun V (h : At V A n xs) => refNext A n c xs p size e V h hnc (by omega) (by omega) hn)
  have C3 := Lib.hid (fun V (h : At V A n xs) => refAll A n c xs V h hnc (by omega) (by omega) (by omega))
  have HXL := Lib.hid hxl
  have HAL : Hid ((alls xs).length ≤ n) := Lib.hid (by omega)
  clear hn hal hxl
  refine (callsIn_wide (n := 3)).1 (callsIn_of_wp_marks Try.func4 rfl trivial (wpIn_wide.2 ?_) rfl)
  simp only [Try.ntmps4, List.size_toArray, List.length_cons, List.length_nil, Nat.reduceAdd, Nat.reduceSub, Array.replicate_succ, Array.replicate_zero, List.push_toArray, List.append_toArray, List.nil_append, List.cons_append]
  have hcmp : ∀ (fn : Fn) (f cs : Array Value) (W : World), (binOp .eql 33 (.func fn f cs) .nilFunc).run Try.prog W = .ok (.bool false) W := fun fn f cs W => by kernel_rfl
  go_wp2_with fail
  have hB0 : Below w.heap.size w (w.alloc (.cells #[.bool false] 4)) := (Below.refl _ _).alloc (Nat.le_refl _) _
  have hr0 := Blk.new w 4 #[.bool false]
  refine (copyBytes A n c xs _ (hx.below' hB0) (by omega)).mono ?_
  rintro e1 w1 ⟨v1, rfl, hown1, hb1⟩
  have hB1 := hB0.trans (hb1.mono hB0.size)
  have hr1 := hr0.below hb1 (by simp)
  obtain ⟨A1, c1, rfl, hA1, h11, h12, _⟩ := hown1.form
  rw [HXL.out] at hA1 h11 ⊢
  have hx1 := hx.below' hB1
  clear hown1 hb1 hr0 hB0 hx
  go_wp2_with fail
  refine (C1.out A1 c1 _ hA1 h11 h12).mono ?_
  rintro e2 w2 ⟨v2, rfl, hown2, hb2⟩
  have hB2 := hB1.trans (hb2.mono hB1.size)
  have hw1 := hr1.lt
  clear C1
  go_wp2_with fail
  refine (C2.out _ (hx1.below' hb2)).mono ?_
  rintro e3 w3 ⟨v3, rfl, hown3, hb3⟩
  have ho3 := hown2.below hb3
  have hb13 : Below w1.heap.size w1 w3 := hb2.trans (hb3.mono hb2.size)
  obtain ⟨A2, c2, rfl, hA2, h21, h22, _⟩ := ho3.form
  obtain ⟨A3, c3, rfl, hA3, h31, h32, _⟩ := hown3.form
  have hq1 : (p == p) = true := beq_self_eq_true _
  have hq2 : ((size : Int) != (size : Int)) = false := by simp
  have hq3 : ((e : Int) != (e : Int)) = false := by simp
  generalize hpp : p.length = pl at *
  have HPP := Lib.hid hpp
  clear hown2 hown3 hb2 hb3 C2 hB2 hpp
  go_wp2_with fail
  refine (eqBytes A2 A3 pl pl c2 c3 p p _ hA2 hA3 (by omega)).mono ?_
  rintro e4 w4 ⟨rfl, j4, rfl⟩
  rw [hq1]
  go_wp2_with fail
  have hst : Below w1.heap.size w1 (w3.drewN j4) := below_drewN hb13 j4
  have hox := ho3.drewN j4
  clear hA2 hA3 hb13 ho3 hq1 hq2 hq3
  go_loopw [10] (fun z wr => ∃ (k : Nat) (r : List UInt8), k ≤ pl ∧ z = .int .i64 k ∧ Own wr w1.heap.size (.slice A2 pl c2) r ∧ Below w1.heap.size w1 wr) (fun z _ => pl - (intOf z).toNat)
  case atStart => exact ⟨0, p, Nat.zero_le _, rfl, hox, hst⟩
  case round =>
    obtain ⟨k, r, hk', rfl, q2, hbr⟩ := hrel
    by_cases hlt : k < pl
    · obtain ⟨g, rfl, hg1, _⟩ := q2.some_ (by omega)
      have hc1 := q2.cell k hlt
      have hc2 := q2.free k
      have hrl : k < r.length := by rw [q2.len]; exact hlt
      obtain ⟨u, hu⟩ : ∃ u, u = r[k] := ⟨_, rfl⟩
      rw [← hu] at hc1
      have n2 := q2.set k (u + 1)
      have nb := hbr.setCell (p := ⟨g, k, none⟩) hg1 (bv (u + 1))
      rw [← bv_next] at n2 nb
      clear hu hrl
      go_wp2
      go_roundw
      case rel => exact ⟨k + 1, _, by omega, by go_num, n2, nb⟩
      case measure => simp [intOf]; omega
    · have hkm : pl ≤ k := by omega
      have hBr := hB1.trans (hbr.mono hB1.size)
      have hrr := hr1.below hbr hw1
      have hAr := hA1.below' hbr
      have hxr := hx1.below' hbr
      clear hlt q2 hox hst hk' hB1 hr1 hA1 hx1
      go_wp2_with fail
      refine (hall A1 n c1 xs wr _ hAr h11 h12 (by omega) (Below.refl _ _)).mono ?_
      rintro e5 w5 ⟨g1, lb1, rfl, -, hb5, -⟩
      have hb5' := hbr.trans (hb5.mono hbr.size)
      go_wp2_with fail
      have hB5 := hBr.trans (hb5.mono hBr.size)
      have hB6 : Below w.heap.size w (w5.alloc (.cells #[.slice none 0 0] 35)) := hB5.alloc hB5.size _
      have hbl : Below w5.heap.size w5 (w5.alloc (.cells #[.slice none 0 0] 35)) := (Below.refl _ _).alloc (Nat.le_refl _) _
      have hbox1 := Blk.new w5 35 #[.slice none 0 0]
      have hA5 := hAr.below' hb5
      have hx5 := hxr.below' hb5
      have hr5 := hrr.below hb5 (by have := hrr.lt; omega)
      have hge : w.heap.size + 1 ≤ w5.heap.size := by have := hb5.size; have := hrr.lt; omega
      clear hb5 hb5' hbr hBr hrr hAr hxr
      refine (hall A1 n c1 xs w5 _ hA5 h11 h12 (by omega) hbl).mono ?_
      rintro e6 W0 ⟨g, lb, rfl, hgo, hb7, htell⟩
      go_wp2_with fail
      have hB0 : Below w5.heap.size w5 W0 := hbl.trans (hb7.mono (by simp))
      have hbox : Blk W0 w5.heap.size 35 #[.slice none 0 0] := hbox1.below hb7 (by simp)
      have hT := htell W0 (Below.refl _ _)
      have hlt := hbox.lt
      have hs7 := hb7.size
      rw [World.size_alloc] at hs7
      clear hbox1 htell hb7 hB6 hbl
      obtain ⟨i0, hi0, hz0, hz1, hz2⟩ := info_parts info22
      refine wp_rangeN (P := Try.prog) rfl hgo hT (fun _ => rfl)
        (fun hX h => h.below (by omega) (by omega)) (fun h k => h.trans k) (fun _ _ _ _ h k => h.firm k)
        (fun pre W => ∃ (v : Value) (cs : List Piece), Blk W w5.heap.size 35 #[v] ∧ W.ownsRow w5.heap.size 22 1 v cs.length (cs.map (·.1)) ∧ cs.map (·.2) = pre.map (·.2) ∧ (∀ x ∈ cs, Own W W0.heap.size x.1 x.2) ∧ Below w5.heap.size w5 W)
        (fun _ _ _ => False)
        (fun s X Y h hX hf => by obtain ⟨v, cs, h1, h2, h3, h4, h5⟩ := h; exact ⟨v, cs, hf.cells h1, ownsRow_firm h2 hf, h3, fun x hx => (h4 x hx).firm hf, h5.trans (hf.below (by omega) (by omega))⟩)
        (fun _ _ _ _ h _ _ => h)
        ⟨_, [], hbox, World.ownsRow_nil _ _ _ _, rfl, fun x hx => absurd hx (by simp), hB0⟩
        (fun x => { tmps := #[.slice A n c, undef, .pointer (some ⟨w.heap.size, 0, none⟩), .slice A1 n c1, .slice A2 pl c2, .int .i64 size, .int .i64 e, .slice A3 pl c3, .int .i64 size, .int .i64 e, .int .i64 k, .pointer (some ⟨w5.heap.size, 0, none⟩), x.1, undef, .slice A n c, .slice A1 n c1, .tuple #[.slice A2 pl c2, .int .i64 size, .int .i64 e], .slice A1 n c1, .tuple #[.slice A2 pl c2, .int .i64 size, .int .i64 e], .slice A2 pl c2, .int .i64 size, .int .i64 e, .tuple #[.slice A3 pl c3, .int .i64 size, .int .i64 e], .slice A n c, .tuple #[.slice A3 pl c3, .int .i64 size, .int .i64 e], .slice A3 pl c3, .int .i64 size, .int .i64 e, .slice A2 pl c2, .slice A3 pl c3, .bool true, .bool false, .bool false, .int .i64 size, .int .i64 size, .bool false, .bool false, .bool false, .int .i64 e, .int .i64 e, .bool false, .bool false, .int .i64 k, .slice A2 pl c2, .int .i64 pl, .bool false, u46, u47, u48, u49, u50, u51, u52, u53, u54, u55, .slice A1 n c1, .func (.func g1) #[] lb1, .bool false, .slice A1 n c1, .func (.func g) #[] lb, x.1, undef, undef, undef, undef, undef, undef, undef, undef, undef, undef, undef, undef, undef, undef, undef, undef, undef, undef, undef, undef, undef, undef, undef, undef, undef, undef, undef, undef, undef, undef, undef, undef, undef, undef, undef, undef, undef], defers := [] }) ?assign ?body ?done ?stop
      case assign =>
        intro l x W K hK
        gi_wp2
        exact hK
      case body =>
        rintro l pre ⟨v, ys⟩ V W hsV ⟨u, cs, huV, hrowV, hcs, holdV, hBV⟩ hf hx hS
        have hu : Blk W w5.heap.size 35 #[u] := hf.cells huV
        have hrow := ownsRow_firm hrowV hf
        have hold := fun x hx => (holdV x hx).firm hf
        have hB := hBV.trans (hf.below (by omega) (by omega))
        have hsW := Nat.le_trans hsV hf.size
        dsimp only at hx
        have hneV : ∀ x ∈ cs, x.1.ownBlock = none ∨ x.1.ownBlock ≠ v.ownBlock := by
          intro x hxc
          cases hox : x.1.ownBlock with
          | none => exact .inl rfl
          | some q =>
            refine .inr fun h => ?_
            have h1 := (World.ownsRow.lt (holdV x hxc) q hox).2
            have h2 := (World.ownsRow.lt hx q h.symm).1
            omega
        have hltV : ∀ q, v.ownBlock = some q → q < W.heap.size := fun q h => (World.ownsRow.lt hx q h).2
        obtain ⟨Ax, cx, hv, hax, hx1, hx2, _⟩ := hx.form
        have hkl : pre.length + 1 ≤ n := by
          obtain ⟨r, hr⟩ := hS
          have := congrArg List.length hr
          have h0 := HAL.out
          simp only [List.length_map, List.length_append, List.length_singleton] at this
          omega
        have hcl : cs.length = pre.length := by
          have := congrArg List.length hcs
          simpa using this
        have hyl : ys.length ≤ 65536 := by
          obtain ⟨r, hr⟩ := hS
          refine alls_small xs ys ?_
          rw [hr]
          simp
        have c1' : W.cell? ⟨w5.heap.size, 0, none⟩ = some u := by rw [hu.cell]; rfl
        have hsB := hB.size
        have hkl' : cs.length + 1 ≤ n := by omega
        subst hv
        clear huV hrowV holdV hBV hS hcl hkl
        gi_wp2_with fail
        refine wpIn_region_any (by kernel_rfl) ?_
        change wpAnyIn _ _ _ _ _ _ _ _ _ (World.drew _)
        refine wpAnyIn_ready (rs := [0, 1]) (by kernel_rfl) (by simp) (AllReadyIn.cons rfl (fun K hK => ?_) (AllReadyIn.cons rfl (fun K hK => ?_) AllReadyIn.nil))
        all_goals (go_simp; refine hK _ _ ?_; clear hK K)
        case' refine_1 =>
          refine wpAnyIn_ready (rs := [1]) (by kernel_rfl) (by simp) (AllReadyIn.cons rfl (fun K hK => ?_) AllReadyIn.nil)
          go_simp; refine hK _ _ ?_; clear hK K
          refine wpAnyIn_ready (rs := [2]) (by kernel_rfl) (by simp) (AllReadyIn.cons rfl (fun K hK => ?_) AllReadyIn.nil)
          go_simp
          refine ⟨trivial, ((callsIn_wide.2 (copyBytes Ax ys.length cx ys _ hax.drew (by omega))).inRound l).mono ?_⟩
          rintro e2 w2 ⟨v2, rfl, hown2, hb2⟩
          obtain ⟨A5, c5, rfl, hA5, h51, h52, _⟩ := hown2.form
          have c2' : w2.cell? ⟨w5.heap.size, 0, none⟩ = some u := (hb2.cell (p := ⟨w5.heap.size, 0, none⟩) hu.lt).trans c1'
          dsimp only
          refine hK _ _ ?_; clear hK K
          refine wpAnyIn_ready (rs := [3]) (by kernel_rfl) (by simp) (AllReadyIn.cons rfl (fun K hK => ?_) AllReadyIn.nil)
          go_simp; refine hK _ _ ?_; clear hK K
        case' refine_2 =>
          refine wpAnyIn_ready (rs := [0, 2]) (by kernel_rfl) (by simp) (AllReadyIn.cons rfl (fun K hK => ?ga) (AllReadyIn.cons rfl (fun K hK => ?gb) AllReadyIn.nil))
          case' ga =>
            go_simp; refine hK _ _ ?_; clear hK K
            refine wpAnyIn_ready (rs := [2]) (by kernel_rfl) (by simp) (AllReadyIn.cons rfl (fun K hK => ?_) AllReadyIn.nil)
            go_simp
            refine ⟨trivial, ((callsIn_wide.2 (copyBytes Ax ys.length cx ys _ hax.drew (by omega))).inRound l).mono ?_⟩
            rintro e2 w2 ⟨v2, rfl, hown2, hb2⟩
            obtain ⟨A5, c5, rfl, hA5, h51, h52, _⟩ := hown2.form
            have c2' : w2.cell? ⟨w5.heap.size, 0, none⟩ = some u := (hb2.cell (p := ⟨w5.heap.size, 0, none⟩) hu.lt).trans c1'
            dsimp only
            refine hK _ _ ?_; clear hK K
            refine wpAnyIn_ready (rs := [3]) (by kernel_rfl) (by simp) (AllReadyIn.cons rfl (fun K hK => ?_) AllReadyIn.nil)
            go_simp; refine hK _ _ ?_; clear hK K
          case' gb =>
            go_simp
            refine ⟨trivial, ((callsIn_wide.2 (copyBytes Ax ys.length cx ys _ hax.drew (by omega))).inRound l).mono ?_⟩
            rintro e2 w2 ⟨v2, rfl, hown2, hb2⟩
            obtain ⟨A5, c5, rfl, hA5, h51, h52, _⟩ := hown2.form
            have c2' : w2.cell? ⟨w5.heap.size, 0, none⟩ = some u := (hb2.cell (p := ⟨w5.heap.size, 0, none⟩) hu.lt).trans c1'
            dsimp only
            refine hK _ _ ?_; clear hK K
            refine wpAnyIn_ready (rs := [0, 3]) (by kernel_rfl) (by simp) (AllReadyIn.cons rfl (fun K hK => ?gc) (AllReadyIn.cons rfl (fun K hK => ?gd) AllReadyIn.nil))
            case' gc =>
              go_simp; refine hK _ _ ?_; clear hK K
              refine wpAnyIn_ready (rs := [3]) (by kernel_rfl) (by simp) (AllReadyIn.cons rfl (fun K hK => ?_) AllReadyIn.nil)
              go_simp; refine hK _ _ ?_; clear hK K
            case' gd =>
              go_simp; refine hK _ _ ?_; clear hK K
              have c3' : (w2.alloc (.cells #[.slice A5 ys.length c5] 22)).cell? ⟨w5.heap.size, 0, none⟩ = some u := (World.cell?_alloc_lt w2 _ ⟨w5.heap.size, 0, none⟩ (Nat.lt_of_lt_of_le hu.lt hb2.size)).trans c2'
              refine wpAnyIn_ready (rs := [0]) (by kernel_rfl) (by simp) (AllReadyIn.cons rfl (fun K hK => ?_) AllReadyIn.nil)
              go_simp; refine hK _ _ ?_; clear hK K
        all_goals
          have hb2' : Below W.heap.size W w2 := ⟨hb2.os, hb2.tape, hb2.output, hb2.size, hb2.block⟩
          have hu2 := hu.below hb2' hu.lt
          have hrow2 := row_below hrow hb2'
          have hax2 := hx.below hb2'
          have hsz2 := hb2'.size
          refine wpAnyIn_ready (rs := [4]) (by kernel_rfl) (by simp) (AllReadyIn.cons rfl (fun K hK => ?_) AllReadyIn.nil)
          refine Eq.mpr (if_pos (show _ = true from rfl)) ?_
          refine opIn_append_own _ _ _ 35 rfl w5.heap.size 22 i0 (.slice none 0 0) 1 24 Try.underlying35 hi0 hz0 hz1 hz2 rfl (by decide) u cs.length _ rfl (hrow2.alloc _) ⟨w2.heap.size, 0, none⟩ 1 1 [.slice A5 ys.length c5] rfl rfl (cell_one_new _ _ _) (fun u' hu' => by rw [List.mem_singleton.1 hu']; rfl) (by unfold maxLen; omega) (by omega) (by simp; omega) ?_
          intro v' w1' hown' hgrow
          refine hK _ _ ?_
          clear hK K
          obtain ⟨g', cap', rfl⟩ := ownsRow_succ hown'
          obtain ⟨hv1, hv2, hr2, hk2, hB2⟩ := Boxed.appended (t := 35) hu2 (by decide) hrow2 (by omega) (Nat.le_refl _) hown' hgrow
          have hc1 := hv1.cell
          have hf1 := hv1.frozen
          refine wpAnyIn_ready (rs := [5]) (by kernel_rfl) (by simp) (AllReadyIn.cons rfl (fun K hK => ?_) AllReadyIn.nil)
          go_simp; refine hK _ _ ?_; clear hK K
          refine wpAnyIn_done (by kernel_rfl) ?_ _
          have step : ∀ (q : Nat) (a : Value) (b : List UInt8), w5.heap.size < q → Own w2 q a b → Own (w1'.setCell ⟨w5.heap.size, 0, none⟩ (.slice (some ⟨g', 0, none⟩) (cs.length + 1) cap')) q a b := fun q a b hq h =>
            ((h.below ((Below.refl _ w2).alloc (Nat.le_refl _) _)).grown (hrow2.alloc _) hgrow (by decide)).box hq _
          have hH : Hold w5.heap.size W0.heap.size w5 W (.slice (some ⟨g', 0, none⟩) (cs.length + 1) cap') (cs ++ [(.slice A5 ys.length c5, ys)]) (w1'.setCell ⟨w5.heap.size, 0, none⟩ (.slice (some ⟨g', 0, none⟩) (cs.length + 1) cap')) := by
            refine ⟨hv2, by simpa using hr2, ?_, (⟨hb2'.size, fun k o h _ => (hb2'.block k (lt_of_some h)).trans h⟩ : KeepsOthers W w2).trans hk2, (hB.trans (hb2'.mono hsB)).trans hB2, (hb2'.mono hsB).trans hB2⟩
            intro x hxm
            rcases List.mem_append.1 hxm with h | h
            · exact step _ _ _ (by omega) ((hold x h).below hb2')
            · rw [List.mem_singleton] at h
              subst h
              exact step _ _ _ (by omega) (hown2.base hsW)
          have hq0 := step _ _ _ (by omega) hax2
          have hne' : ∀ x ∈ cs ++ [((.slice A5 ys.length c5, ys) : Piece)], x.1.ownBlock = none ∨ x.1.ownBlock ≠ (Value.slice Ax ys.length cx).ownBlock := by
            intro x hxm
            rcases List.mem_append.1 hxm with h | h
            · exact hneV x h
            · rw [List.mem_singleton] at h
              subst h
              cases hox : (Value.slice A5 ys.length c5).ownBlock with
              | none => exact .inl rfl
              | some q =>
                refine .inr fun h => ?_
                have h1 := (World.ownsRow.lt hown2 q hox).1
                have h2 := hltV q h.symm
                have h3 : W.heap.size ≤ q := h1
                omega
          have HNE := Lib.hid hne'
          have HCS := Lib.hid (show (cs ++ [((.slice A5 ys.length c5, ys) : Piece)]).map (·.2) = (pre ++ [((.slice Ax ys.length cx, ys) : Piece)]).map (·.2) by simp [hcs])
          generalize w1'.setCell ⟨w5.heap.size, 0, none⟩ (.slice (some ⟨g', 0, none⟩) (cs.length + 1) cap') = X1 at hH hq0 ⊢
          generalize cs ++ [((.slice A5 ys.length c5, ys) : Piece)] = cs' at hH HNE HCS
          have HYS := Lib.hid (rfl : ys.length = ys.length)
          clear hne' step hv1 hv2 hr2 hk2 hB2 hc1 hf1 hown' hgrow hu2 hrow2 hax2 hb2' hb2 hown2 hA5 c2' c1' hneV hltV hu hrow hold hcs
          gi_wp2_with fail
          generalize hyll : ys.length = yl at *
          gi_loopw [13] (fun z wr => ∃ (k : Nat) (r : List UInt8), k ≤ yl ∧ z = .int .i64 k ∧ Own wr V.heap.size (.slice Ax yl cx) r ∧ Hold w5.heap.size W0.heap.size w5 W (.slice (some ⟨g', 0, none⟩) (cs.length + 1) cap') cs' wr) (fun z _ => yl - (intOf z).toNat)
          case atStart => exact ⟨0, ys, Nat.zero_le _, rfl, hq0, hH⟩
          case round =>
            obtain ⟨k', r', hk', rfl, q2, hHr⟩ := hrel
            by_cases hlt' : k' < yl
            · obtain ⟨gx, rfl, hg1, _⟩ := q2.some_ (by omega)
              have hc1 := q2.cell k' hlt'
              have hc2 := q2.free k'
              have hrl : k' < r'.length := by rw [q2.len]; exact hlt'
              obtain ⟨uu, huu⟩ : ∃ uu, uu = r'[k'] := ⟨_, rfl⟩
              rw [← huu] at hc1
              have n2 := q2.set k' (uu + 1)
              have nh := hHr.grown q2.row (q2.row.stored k' (bv (uu + 1))).2 (by omega) HNE.out
              rw [← bv_next] at n2 nh
              clear huu hrl
              gi_wp2
              go_roundw
              case rel => exact ⟨k' + 1, _, by omega, by go_num, n2, nh⟩
              case measure => simp [intOf]; omega
            · have hkm' : yl ≤ k' := by omega
              have hq3 : wr.ownsRow V.heap.size 5 1 (.slice Ax yl cx) yl (r'.map bv) := by
                have := q2
                unfold Own at this
                rw [q2.len] at this
                exact this
              obtain ⟨i8, hi8, hy0, hy1, hy2⟩ := info_parts info5
              have hvs : V.heap.size ≤ wr.heap.size := by have := hHr.keeps.size; have := hf.size; omega
              have hHa := hHr.alloc (.cells #[.int .u8 9] 5)
              gi_wp2_with (gi_at_builtin; (refine wpListIn_append_own _ rfl _ _ 22 rfl V.heap.size 5 i8 (.int .u8 0) 1 1 Try.underlying22 hi8 hy0 hy1 hy2 rfl (by decide) (.slice Ax yl cx) yl _ rfl (hq3.alloc _) ⟨wr.heap.size, 0, none⟩ 1 1 [.int .u8 9] rfl rfl (cell_one_new _ _ _) (fun u' hu' => by rw [List.mem_singleton.1 hu']; rfl) (by unfold maxLen; omega) (by omega) (by simp; omega) ?_; intro v9 w9 hown9 hg9 _; obtain ⟨g9, cap9, rfl⟩ := ownsRow_succ hown9))
              have hH9 := hHa.grown (hq3.alloc _) hg9 (by omega) HNE.out
              exact ⟨hH9.keeps.from _, hH9.bW, _, cs', hH9.box, hH9.row, HCS.out.trans (by simp), hH9.own, hH9.b5⟩
      case done =>
        rintro D ps W hD hS ⟨v, cs, hbx, hrow, hcs, hown, hB⟩ hK
        have hrl : Lists W none 0 [] := Lists.nil _ _
        have hcl : cs.map (·.2) = alls xs := hcs.trans hS
        obtain ⟨Al, cl, rfl, hL, hl1, hl2⟩ := lists_row hrow (fun x hx' => (hown x hx').reads)
        rw [hcl] at hL
        have c1' : W.cell? ⟨w5.heap.size, 0, none⟩ = some (.slice Al cs.length cl) := by rw [hbx.cell]; rfl
        have hAW := hA5.below' hB
        have hxW := hx5.below' hB
        have hrW := hr5.below hB hr5.lt
        have hsB := hB.size
        have hBw := hB5.trans (hB.mono hB5.size)
        have hal5 := HAL.out
        have hS5 := fun l (hl : l ∈ alls xs) => alls_small xs l hl
        have HQ := Lib.hid (fun (A' : Option Addr) (k' d : Nat) (V : World) (h1 : Lists V Al cs.length (alls xs)) (h2 : Lists V A' k' (alls xs)) =>
          same Al cs.length cl (alls xs) A' k' d (alls xs) V h1 h2 (by omega) (fun l hl => by have := hS5 l hl; omega))
        have hxx : (xs == xs) = true := beq_self_eq_true _
        have hll : (alls xs == alls xs) = true := beq_self_eq_true _
        have hwl := hrW.lt
        have hal0 : At W.drew A n xs := hxW
        generalize hml : cs.length = ml at *
        generalize alls xs = ls at *
        clear hrl hrow hcs hown hcl hS hbox hB0 hT hml hal5 hS5
        go_wp2_with fail
        first | go_region_with (first
          | (go_at_call 21; refine (C3.out _ ?_).mono ?_; exact hal0; rintro e2 w2 ⟨v2, ps2, rfl, hps2, hOp2, hOo2, hb2⟩; obtain ⟨A6, c6, rfl, hL6, h61, h62⟩ := lists_row hOp2 (fun x hx' => (hOo2 x hx').reads); rw [hps2] at hL6; have hb2' : Below W.heap.size W w2 := ⟨hb2.os, hb2.tape, hb2.output, hb2.size, hb2.block⟩; have hL2 := hL.below' hb2'; have hA2' := hAW.below' hb2'; have hx2' := hxW.below' hb2'; have hr2' := hrW.below hb2' hwl; have hB2' := hBw.trans (hb2'.mono (by omega)); have c2' : w2.cell? ⟨w5.heap.size, 0, none⟩ = some (.slice Al ml cl) := (hb2'.cell (p := ⟨w5.heap.size, 0, none⟩) hbx.lt).trans c1'; clear hOp2 hOo2 hps2 hb2)
          | (go_at_call 20; refine (HQ.out _ _ _ _ hL2 hL6).mono ?_; rintro e3 w3 ⟨rfl, j3, rfl⟩; rw [hll])
          | (go_at_call 15; refine (eqBytes A1 A n n c1 c xs xs _ (hA2'.drewN _) (hx2'.drewN _) (by omega)).mono ?_; rintro e4 w4 ⟨rfl, j4', rfl⟩; rw [hxx])
          | (go_at_call 16; refine (HW.out _).mono ?_; rintro e7 w7 ⟨rfl, hb7⟩; have hr7 : Blk w7 w.heap.size 4 #[.bool false] := (hb7.block w.heap.size hr2'.lt).trans hr2'; have c7 : w7.cell? ⟨w.heap.size, 0, none⟩ = some (.bool false) := (Blk.cell hr7 0).trans rfl; have f7 := Blk.frozen hr7 0)) | fail
        all_goals
          have hDW := lt_of_some hK
          have hne : w.heap.size ≠ D := by omega
          have hKD : w7.heap[D]? = some (.deferred (some [])) := (hb7.block D (Nat.lt_of_lt_of_le hDW hb2'.size)).trans ((hb2'.block D hDW).trans hK)
          have hb7' := (below_drewN hB2' _).trans (hb7.mono (Nat.le_trans (Nat.le_of_lt hwl) hb2'.size))
          have hfin : Blk ((w7.setCell ⟨w.heap.size, 0, none⟩ (.bool true)).putObj D (.deferred none)) w.heap.size 4 #[.bool true] := by
            unfold Blk
            rw [World.putObj_heap_other hne]
            exact Blk.set_ hr7 0 (.bool true)
          clear hL2 hA2' hx2' hr2' hL6 hL hbx c1' c2' hAW hxW hrW
          go_wp2_with fail
          refine ⟨by simp, .inl ⟨_, _, rfl, run_takeDeferred (by simp only [World.setCell, Array.getElem?_modify]; rw [if_neg hne]; exact hKD), ?_⟩⟩
          refine ⟨.bool true, ?_, rfl, below_obj (below_put hb7' (Nat.le_refl _)) (by omega)⟩
          have hc := Blk.cell hfin 0
          have ht : (#[Value.bool true])[0]? = some (Value.bool true) := rfl
          rw [ht] at hc
          generalize (w7.setCell ⟨w.heap.size, 0, none⟩ (.bool true)).putObj D (.deferred none) = Z at *
          simp [results, Try.results4, go_sem, asAddr, loadVar, hc]
      case stop => exact fun D c pre W _ _ h _ => h.elim
end Go.Proofs.Ythbegaknlhclpaa
