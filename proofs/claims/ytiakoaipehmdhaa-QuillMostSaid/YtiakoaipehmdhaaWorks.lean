/-
  The statements' own helpers: is, works, number.
-/
import Derived.Test.YtiakoaipehmdhaaRefStr
set_option linter.unusedVariables false
namespace Go.Proofs.Ytiakoaipehmdhaa
open Go.RowKit

theorem news_of {w : World} {ad : Addr} {m : Nat} {ys : List UInt8} (hr : At w (some ad) m ys) : ∀ j u, (ys.map bv)[j]? = some u → w.cell? (ad.add j) = some u := by
  intro j u hj
  have hjl : j < ys.length := by
    rcases Nat.lt_or_ge j ys.length with h0 | h0
    · exact h0
    · rw [List.getElem?_eq_none (by simpa using h0)] at hj
      cases hj
  obtain ⟨b, off, hh, hc⟩ := hr.2 (by have := hr.1; omega)
  injection hh with hh
  subst hh
  rw [List.getElem?_map, List.getElem?_eq_getElem hjl] at hj
  injection hj with hj
  subst hj
  rw [Go.WideShapes.add_plain]
  exact hc j hjl

/-- 'append(s, ys...)' where there is no room. -/
theorem wpList_app_full {P : Program} {w : World} {ops : Array Oper} {rest : List Oper} {o : Oper} {a : Act} {Q : Exit → Act → World → Prop} (hgd : o.guard = none) (s x : Operand) (t : TypeId)
    (ho : o.op = .call { callee := .builtin .append, args := #[s, x], argTypes := #[t, t] })
    (e : TypeId) (ht : P.underlying t = some (.slice e)) (hinfo : (P.info? e).map (fun i => (i.zero, i.size, i.bytes)) = some (some (.int .u8 0), 1, 1))
    (A : Option Addr) (n : Nat) (xs ys : List UInt8) (hs : a.eval s = .slice A n n) (hA : At w A n xs) (hnone : A = none → n = 0)
    (ad : Addr) (m c : Nat) (hx : a.eval x = .slice (some ad) m c) (hr : At w (some ad) m ys) (hm : 0 < m) (hbytes : n + m ≤ 140737488355328)
    (h : ∀ v' w', w'.ownsRow w.heap.size e 1 v' (n + m) ((xs ++ ys).map bv) → w.grownBy w' none → wpList P ops Q rest (a.put o.dst v') w') :
    wpList P ops Q (o :: rest) a w := by
  obtain ⟨i, hi, hz, hsz, hby⟩ := info_parts hinfo
  refine wpList_append_grows w hgd s x t ho e i _ 1 1 ht hi hz hsz hby rfl (by omega) A n n (xs.map bv) hs (fun h0 => ⟨hnone h0, hnone h0⟩) (by simp [hA.1]) ?_ ad m c (ys.map bv) hx (by simp [hr.1]) (news_of hr) (bv_one _) (by omega) (by unfold maxLen; omega) (by omega) ?_
  · intro b hb
    subst hb
    exact news_of hA
  · intro v' w' h1 h2
    exact h v' w' (by simpa using h1) h2

theorem take_enc (n : Nat) (x : UInt8) (h : n ≤ 9007199254740991) : tk (enc n ++ [x]) = (n, [x], 0) := tk_enc n [x] h

set_option maxHeartbeats 1000000 in
theorem is_true (n k : Nat) (A : Option Addr) (bs : List UInt8) (w : World) (hn : n ≤ 9007199254740991) (hA : At w A k bs) (hnone : A = none → k = 0) (hbs : enc n = bs) :
    Calls Try.prog 32 #[.int .i64 n, .slice A k k] w fun e w' => e = .returned (.bool true) ∧ Below w.heap.size w w' := by
  have hk8 : k ≤ 8 := by
    have := enc_len n hn
    rw [hbs, hA.1] at this
    exact this
  have htk := Lib.hid (take_enc n 9 hn)
  have HBS := Lib.hid hbs
  clear hbs
  go_enter Try.func32, Try.ntmps32
  go_wp2_with fail
  refine (num n _ hn).mono ?_
  rintro e w1 ⟨v1, rfl, hown1, hb1⟩
  obtain ⟨A1, c1, rfl, hat1, _, _, _⟩ := hown1.form
  have hA1 := hA.below' hb1
  rw [HBS.out] at hat1 ⊢
  rw [hA.1] at hat1 ⊢
  have hnine := fun w => at_one (w := w) (x := 9) (b := 9) 5 rfl
  have hA2 := fun o => hA1.alloc o
  clear hown1
  go_wp2_with (at_builtin; refine wpList_app_full rfl _ _ 22 rfl 5 Try.underlying22 info5 A k bs [9] rfl (hA2 _) hnone _ 1 1 rfl (hnine _) (by omega) ?hb ?_)
  case hb => omega
  intro v2 w2 hown2 hg2
  have hsz1 := hb1.size
  have hb2 : Below w.heap.size w w2 := (hb1.alloc hsz1 _).grown hg2 (by simp; omega) (by simp)
  have hown2' : Own w2 (w1.heap.size + 1) v2 (bs ++ [9]) := by
    unfold Own
    rw [List.length_append, hA.1]
    simpa using hown2
  have hb12 : Below w1.heap.size w1 w2 := ((Below.refl _ _).alloc (Nat.le_refl _) _).grown hg2 (by simp) (by simp)
  obtain ⟨A3, c3, rfl, hat3, hc3, hc3', _⟩ := hown2'.form
  have hat1' := hat1.below' hb12
  have htk' := htk.out
  rw [HBS.out] at htk'
  obtain ⟨n3, hn3⟩ : ∃ m, m = (bs ++ [9]).length := ⟨_, rfl⟩
  have hn9 : n3 ≤ 9 := by rw [hn3, List.length_append, hA.1]; simp; omega
  rw [← hn3] at hat3 hc3 ⊢
  have HT := Lib.hid (takeNum A3 n3 c3 (bs ++ [9]) [9] n 0 w2 hat3 hc3 hc3' (by omega) htk')
  clear hown2 hown2' hg2 htk' hn3
  go_wp2_with fail
  refine HT.out.mono ?_
  rintro e w3 ⟨r, rfl, hown4, hb4⟩
  obtain ⟨A4, c4, rfl, hat4, _, _, _⟩ := hown4.form
  have hb24 := hb2.trans (hb4.mono (by have := hb2.size; omega))
  have hx1 := hat1'.below' hb4
  have hx2 := hA.below' hb24
  have hsz3 := hb24.size
  clear hown4
  go_wp2_with fail
  refine (eqBytes _ _ k k c1 k bs bs _ hx1 hx2 (by omega)).mono ?_
  rintro e w4 ⟨rfl, j, rfl⟩
  rw [show (bs == bs) = true by simp]
  have hnn : ((n : Int) == (n : Int)) = true := by simp
  have hx4 := fun o => (hat4.drewN j).alloc o
  go_wp2_with fail
  refine (eqBytes _ _ 1 1 c4 1 [9] [9] _ (hx4 _) (by simpa using hnine (w3.drewN j)) (by omega)).mono ?_
  rintro e w5 ⟨rfl, j', rfl⟩
  rw [show (([9] : List UInt8) == [9]) = true by decide]
  go_wp2
  go_ret
  exact ⟨rfl, below_drewN ((below_drewN hb24 j).alloc (by simpa using hsz3) _) j'⟩

theorem at_list (w : World) (t : TypeId) (l : List UInt8) : At (w.alloc (.cells (l.map bv).toArray t)) (some ⟨w.heap.size, 0, none⟩) l.length l := by
  refine ⟨rfl, fun _ => ⟨_, _, rfl, fun i hi => ?_⟩⟩
  simp [bv, hi]

theorem at_list' (t : TypeId) (l : List UInt8) (w : World) (g : Nat) (hg : g = w.heap.size) : At (w.alloc (.cells (l.map bv).toArray t)) (some ⟨g, 0, none⟩) l.length l := by
  subst hg
  exact at_list w t l

theorem enc_0 : enc 0 = [0] := by simp [enc, digs]
theorem enc_1 : enc 1 = [1, 1] := by simp [enc, digs]
theorem enc_2 : enc 2 = [1, 2] := by simp [enc, digs]
theorem enc_256 : enc 256 = [2, 1, 0] := by simp [enc, digs]

def AB : ByteArray := ⟨#[97, 98]⟩
theorem str_ab (w : World) : Calls Try.prog 23 #[.string ⟨#[97, 98]⟩, .int .i64 2] w fun e w' => ∃ v, e = .returned (.tuple #[v, .int .i64 0]) ∧ Own w' w.heap.size v [1, 2, 97, 98] ∧ Below w.heap.size w w' := by
  have h := str ⟨#[97, 98]⟩ 2 w (by decide) (by decide)
  have he : enc (ByteArray.size ⟨#[97, 98]⟩) ++ sb ⟨#[97, 98]⟩ = [1, 2, 97, 98] := by
    show enc 2 ++ [97, 98] = _
    rw [enc_2]
    rfl
  rw [he] at h
  exact h
theorem ts_ab : ts [1, 2, 97, 98, 99] 2 = ([97, 98], [99], 0) := by
  have : tk [1, 2, 97, 98, 99] = (2, [97, 98, 99], 0) := by
    have := tk_enc 2 [97, 98, 99] (by omega)
    rw [enc_2] at this
    exact this
  simp [ts, this]
theorem takeStr_ab (A : Option Addr) (w : World) (h : At w A 5 [1, 2, 97, 98, 99]) :
    Calls Try.prog 21 #[.slice A 5 5, .int .i64 2] w fun e w' => ∃ v, e = .returned (.tuple #[.string ⟨#[97, 98]⟩, v, .int .i64 0]) ∧ Own w' w.heap.size v [99] ∧ Below w.heap.size w w' := by
  refine (takeStr A 5 5 2 [1, 2, 97, 98, 99] w h (by omega) (by omega) (by omega) (by omega)).mono ?_
  rintro e w' ⟨r, rfl, hown, hb⟩
  rw [ts_ab] at hown ⊢
  exact ⟨r, rfl, hown, hb⟩

set_option maxHeartbeats 1000000 in
theorem works (w : World) : Calls Try.prog 17 #[] w fun e w' => e = .returned (.bool true) ∧ Below w.heap.size w w' := by
  have l0 := at_list' 5 [0]
  have l1 := at_list' 5 [1, 1]
  have l2 := at_list' 5 [2, 1, 0]
  have l3 := at_list' 5 [1, 2, 97, 98]
  have l4 := at_list' 5 [1, 2, 97, 98, 99]
  have l5 := at_list' 5 [99]
  simp only [List.map_cons, List.map_nil, bv, List.length_cons, List.length_nil] at l0 l1 l2 l3 l4 l5
  have L0 := Lib.hid l0
  have L1 := Lib.hid l1
  have L2 := Lib.hid l2
  have L3 := Lib.hid l3
  have L4 := Lib.hid l4
  have L5 := Lib.hid l5
  clear l0 l1 l2 l3 l4 l5
  go_enter Try.func17, Try.ntmps17
  go_wp2_with fail
  refine (str_ab _).mono ?_
  rintro e w1 ⟨v1, rfl, hown1, hb1⟩
  obtain ⟨A1, c1, rfl, hat1, _, _, _⟩ := hown1.form
  simp only [List.length_cons, List.length_nil] at hat1 ⊢
  clear hown1
  go_wp2_with fail
  refine (takeStr_ab _ _ (L4.out _ _ (by simp))).mono ?_
  rintro e w2 ⟨v2, rfl, hown2, hb2⟩
  obtain ⟨A2, c2, rfl, hat2, _, _, _⟩ := hown2.form
  simp only [List.length_cons, List.length_nil] at hat2 ⊢
  have hB2 : Below w.heap.size w w2 := (hb1.alloc hb1.size _).trans (hb2.mono (by have := hb1.size; simp; omega))
  have hat1' := (hat1.alloc _).below' hb2
  clear hown2 hb2 hat1
  go_wp2_with fail
  refine (is_true 0 1 _ [0] _ (by omega) (L0.out _ _ (by simp)) (by simp) enc_0).mono ?_
  rintro e w3 ⟨rfl, hb3⟩
  have hB3 : Below w.heap.size w w3 := (hB2.alloc hB2.size _).trans (hb3.mono (by have := hB2.size; simp; omega))
  have hat1'' := (hat1'.alloc _).below' hb3
  have hat2' := (hat2.alloc _).below' hb3
  clear hb3 hat1' hat2
  go_wp2_with fail
  refine (is_true 1 2 _ [1, 1] _ (by omega) (L1.out _ _ (by simp)) (by simp) enc_1).mono ?_
  rintro e w4 ⟨rfl, hb4⟩
  have hB4 : Below w.heap.size w w4 := (hB3.alloc hB3.size _).trans (hb4.mono (by have := hB3.size; simp; omega))
  have hat1a := (hat1''.alloc _).below' hb4
  have hat2a := (hat2'.alloc _).below' hb4
  clear hb4 hat1'' hat2'
  go_wp2_with fail
  refine (is_true 256 3 _ [2, 1, 0] _ (by omega) (L2.out _ _ (by simp)) (by simp) enc_256).mono ?_
  rintro e w5 ⟨rfl, hb5⟩
  have hB5 : Below w.heap.size w w5 := (hB4.alloc hB4.size _).trans (hb5.mono (by have := hB4.size; simp; omega))
  have hat1b := (hat1a.alloc _).below' hb5
  have hat2b := (hat2a.alloc _).below' hb5
  clear hb5 hat1a hat2a
  go_wp2_with fail
  refine (eqBytes _ _ 4 4 c1 4 [1, 2, 97, 98] [1, 2, 97, 98] _ (hat1b.alloc _) (L3.out _ _ (by simp)) (by omega)).mono ?_
  rintro e w6 ⟨rfl, j, rfl⟩
  rw [show (([1, 2, 97, 98] : List UInt8) == [1, 2, 97, 98]) = true by decide]
  have hat2c := fun o o' => ((hat2b.alloc o).drewN j).alloc o'
  have hB6 := fun o => below_drewN (hB5.alloc hB5.size o) j
  go_wp2_with fail
  refine (eqBytes _ _ 1 1 c2 1 [99] [99] _ (hat2c _ _) (L5.out _ _ (by simp)) (by omega)).mono ?_
  rintro e w7 ⟨rfl, j', rfl⟩
  rw [show (([99] : List UInt8) == [99]) = true by decide]
  go_wp2
  go_ret
  exact ⟨rfl, below_drewN ((hB6 _).alloc (by have := hB5.size; simp; omega) _) j'⟩

theorem number (n : Int) (w : World) : Calls Try.prog 27 #[.int .i64 n] w fun e w' => e = .returned (.int .i64 (n % 9007199254740992)) ∧ w = w' := by
  go_enter Try.func27, Try.ntmps27
  go_wp2_with fail
  refine (bring n 9007199254740992 _ (by omega) (by omega)).mono ?_
  rintro e w1 ⟨rfl, rfl⟩
  go_wp2
  go_ret
  exact ⟨rfl, rfl⟩
end Go.Proofs.Ytiakoaipehmdhaa
