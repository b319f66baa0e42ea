/-
  Layer 9: the document's list: how it lies in memory; at, has; what it answers.
-/
import Derived.Test.YtcpbcoeccplliaaSkStep
import Derived.Maps.AppendAt
set_option linter.unusedVariables false
namespace Go.Proofs.Ytcpbcoeccplliaa
open Go.RowKit

def kfl (l : List Kv) : List Value := l.flatMap fun x => [.string x.key, x.val, .int .i64 (x.st : Int)]
theorem kfl_app (l r : List Kv) : kfl (l ++ r) = kfl l ++ kfl r := by simp [kfl]
theorem kfl_cons (x : Kv) (l : List Kv) : kfl (x :: l) = .string x.key :: x.val :: .int .i64 (x.st : Int) :: kfl l := by simp [kfl]
theorem kfl_len : ∀ l : List Kv, (kfl l).length = l.length * 3
  | [] => rfl
  | x :: l => by rw [kfl_cons, List.length_cons, List.length_cons, List.length_cons, kfl_len l, List.length_cons]; omega
theorem kfl_get : ∀ (l : List Kv) (i : Nat) (h : i < l.length), (kfl l)[i * 3]? = some (.string (l[i]'h).key) ∧ (kfl l)[i * 3 + 1]? = some (l[i]'h).val ∧ (kfl l)[i * 3 + 2]? = some (.int .i64 ((l[i]'h).st : Int))
  | x :: l, 0, _ => by rw [kfl_cons]; exact ⟨rfl, rfl, rfl⟩
  | x :: l, i + 1, h => by
    have ih := kfl_get l i (by simpa using h)
    rw [kfl_cons, show (i + 1) * 3 = i * 3 + 1 + 1 + 1 by omega]
    simpa using ih
/-- The values are numbers. -/
def Nums (l : List Kv) : Prop := ∀ x ∈ l, ∃ n : Int, x.val = .int .i64 n
theorem kfl_one {l : List Kv} (hn : Nums l) : ∀ u ∈ kfl l, u.oneCell' = true := by
  intro u hu
  obtain ⟨x, hx, h2⟩ := List.mem_flatMap.1 hu
  obtain ⟨n, e⟩ := hn x hx
  simp only [List.mem_cons, List.not_mem_nil, or_false] at h2
  rcases h2 with rfl | rfl | rfl
  · rfl
  · rw [e]; rfl
  · rfl
theorem infoK : (Try.prog.info? 69).map (fun i => (i.zero, i.size, i.bytes)) = some (some (.agg #[.string ByteArray.empty, .int .i64 0, .int .i64 0]), 3, 32) := by kernel_rfl
/-- Items that lie in memory. -/
def LAt (w : World) (A : Option Addr) (n : Nat) (l : List Kv) : Prop :=
  l.length = n ∧ (0 < n → ∃ b o, A = some ⟨b, o, none⟩ ∧ ∀ i (h : i < l.length), w.cell? ⟨b, o + i * 3, none⟩ = some (.string (l[i]'h).key) ∧ w.cell? ⟨b, o + i * 3 + 1, none⟩ = some (l[i]'h).val ∧ w.cell? ⟨b, o + i * 3 + 2, none⟩ = some (.int .i64 ((l[i]'h).st : Int)))
theorem LAt.below {w w' : World} {A : Option Addr} {n : Nat} {l : List Kv} (h : LAt w A n l) (hb : Below w.heap.size w w') : LAt w' A n l := by
  refine ⟨h.1, fun hn => ?_⟩
  obtain ⟨b, o, e, hc⟩ := h.2 hn
  exact ⟨b, o, e, fun i hi => ⟨(hb.cell (World.block_lt_of_cell? w _ (hc i hi).1)).trans (hc i hi).1, (hb.cell (World.block_lt_of_cell? w _ (hc i hi).2.1)).trans (hc i hi).2.1, (hb.cell (World.block_lt_of_cell? w _ (hc i hi).2.2)).trans (hc i hi).2.2⟩⟩
def KRow (w : World) (B : Nat) (v : Value) (n : Nat) (l : List Kv) : Prop := w.ownsRow B 69 3 v n (kfl l)
theorem KRow.len {w : World} {B n : Nat} {v : Value} {l : List Kv} (h : KRow w B v n l) : l.length = n := by
  have := h.1
  rw [kfl_len] at this
  omega
theorem KRow.form {w : World} {B n : Nat} {v : Value} {l : List Kv} (h : KRow w B v n l) : ∃ A c, v = .slice A n c ∧ LAt w A n l ∧ n ≤ c ∧ c ≤ 9223372036854775807 := by
  have hl := h.len
  rcases h.2 with ⟨rfl, h0⟩ | ⟨g, cap, cur, rfl, hb, hg, hnc, hcm, _⟩
  · exact ⟨none, 0, by rw [h0], ⟨hl, fun hm => by omega⟩, by omega, by omega⟩
  · refine ⟨_, cap, rfl, ⟨hl, fun hm => ⟨g, 0, rfl, fun i hi => ?_⟩⟩, hnc, hcm⟩
    obtain ⟨h1, h2, h3⟩ := kfl_get l i hi
    have c1 := World.ownsRow.cells h (g := g) rfl _ _ h1
    have c2 := World.ownsRow.cells h (g := g) rfl _ _ h2
    have c3 := World.ownsRow.cells h (g := g) rfl _ _ h3
    rw [Go.WideShapes.add_plain] at c1 c2 c3
    exact ⟨c1, by rw [Nat.add_assoc]; exact c2, by rw [Nat.add_assoc]; exact c3⟩
theorem KRow.keep {w w' : World} {B n : Nat} {v : Value} {l : List Kv} (h : KRow w B v n l) (hb : Below w.heap.size w w') : KRow w' B v n l :=
  World.ownsRow.kept h (row := none) ⟨hb.os, hb.tape, hb.output, hb.size, fun k hk _ => hb.block k hk⟩ (by
    cases hv : v.ownBlock with
    | none => exact .inl rfl
    | some q => exact .inr (by simp))
set_option maxRecDepth 100000 in
/-- 'append(v, l...)'. -/
theorem wpList_appK {w : World} {ops : Array Oper} {rest : List Oper} {o : Oper} {a : Act} {Q : Exit → Act → World → Prop} (hgd : o.guard = none) (s x : Operand)
    (ho : o.op = .call { callee := .builtin .append, args := #[s, x], argTypes := #[62, 62] })
    (B : Nat) (v : Value) (k : Nat) (xs l : List Kv) (hs : a.eval s = v) (hown : KRow w B v k xs)
    (A : Option Addr) (n c : Nat) (hx : a.eval x = .slice A n c) (hr : LAt w A n l) (hnum : Nums l) (hbytes : (k + n) * 32 ≤ 140737488355328) (hbase : B ≤ w.heap.size)
    (h : ∀ v' w', KRow w' B v' (k + n) (xs ++ l) → w.grownBy w' v.ownBlock → wpList Try.prog ops Q rest (a.put o.dst v') w') :
    wpList Try.prog ops Q (o :: rest) a w := by
  obtain ⟨i, hi, hz, hsz, hby⟩ := info_parts infoK
  cases A with
  | none =>
    have hm : n = 0 := by
      rcases Nat.eq_zero_or_pos n with h0 | h0
      · exact h0
      · obtain ⟨b, o, hh, _⟩ := hr.2 h0
        cases hh
    subst hm
    obtain rfl : l = [] := List.eq_nil_of_length_eq_zero hr.1
    have hrun := run_append_none (P := Try.prog) w B 62 o.type 69 i 3 Try.underlying62 hi v k _ hown c
    refine wpList_plain hgd fun K hK => ?_
    unfold Oper.wp execOp
    simp only [ho, resolve, invoke, builtin, Sem.run_bind, Sem.run_pure, Result.andThen_ok, List.map_toArray, List.map_cons, List.map_nil, hs, hx, hrun]
    exact hK _ _ (h v w (by simpa using hown) (World.grownBy.refl w _))
  | some ad =>
    have hnews : ∀ j u, (kfl l)[j]? = some u → w.cell? (ad.add j) = some u := by
      intro j u hj
      have hjl : j < (kfl l).length := by
        rcases Nat.lt_or_ge j (kfl l).length with h0 | h0
        · exact h0
        · rw [List.getElem?_eq_none h0] at hj
          cases hj
      rw [kfl_len] at hjl
      have hi2 : j / 3 < l.length := by omega
      obtain ⟨b, o2, hh, hc⟩ := hr.2 (by have := hr.1; omega)
      injection hh with hh
      subst hh
      obtain ⟨c1, c2, c3⟩ := hc (j / 3) hi2
      obtain ⟨g1, g2, g3⟩ := kfl_get l (j / 3) hi2
      rw [Go.WideShapes.add_plain]
      rcases (show j % 3 = 0 ∨ j % 3 = 1 ∨ j % 3 = 2 from by omega) with h0 | h0 | h0
      · rw [show j / 3 * 3 = j by omega] at c1 g1
        rw [hj] at g1
        injection g1 with g1
        rw [c1, g1]
      · rw [show o2 + j / 3 * 3 + 1 = o2 + j by omega] at c2
        rw [show j / 3 * 3 + 1 = j by omega] at g2
        rw [hj] at g2
        injection g2 with g2
        rw [c2, g2]
      · rw [show o2 + j / 3 * 3 + 2 = o2 + j by omega] at c3
        rw [show j / 3 * 3 + 2 = j by omega] at g3
        rw [hj] at g3
        injection g3 with g3
        rw [c3, g3]
    refine wpList_append_own w hgd s x 62 ho B 69 i _ 3 32 Try.underlying62 hi hz hsz hby rfl (by decide) v k (kfl xs) hs hown ad n c (kfl l) hx (by rw [kfl_len, hr.1]) hnews (kfl_one hnum) (by unfold maxLen; omega) hbytes hbase ?_
    intro v' w' h1 h2 _
    refine h v' w' ?_ h2
    unfold KRow
    rw [kfl_app]
    exact h1
/-- The document's list. -/
structure RfR (V : World) (b : Nat) (v : Value) (l : List Kv) : Prop where
  obj : Blk V b 64 #[v]
  row : KRow V 0 v l.length l
  ne : ∀ k, v.ownBlock = some k → k ≠ b
  nums : Nums l
  sor : Sor l
def rfF (b : Nat) (v : Value) : Nat → Prop := fun k => k = b ∨ v.ownBlock = some k
section
variable {V V' : World} {b : Nat} {v : Value} {l : List Kv}
theorem RfR.lt (h : RfR V b v l) {k : Nat} (e : rfF b v k) : k < V.heap.size := by
  rcases e with rfl | e
  · exact h.obj.lt
  · exact (World.ownsRow.lt h.row k e).2
theorem RfR.on (h : RfR V b v l) (hk : ∀ k, rfF b v k → V'.heap[k]? = V.heap[k]?) : RfR V' b v l :=
  ⟨(hk b (.inl rfl)).trans h.obj, ⟨h.row.1, h.row.2.elim .inl (fun ⟨q, cap, cur, e, hq, hh, r⟩ => .inr ⟨q, cap, cur, e, hq, (hk q (.inr (by rw [e]; rfl))).trans hh, r⟩)⟩, h.ne, h.nums, h.sor⟩
theorem RfR.below (h : RfR V b v l) (hb : Below V.heap.size V V') : RfR V' b v l := h.on (fun k e => hb.block k (h.lt e))
end
set_option maxRecDepth 100000 in
theorem rf_new (w : World) : Calls Try.prog 12 #[] w fun e w' => e = .returned (pt w.heap.size) ∧ RfR w' w.heap.size (.slice none 0 0) [] ∧ Below w.heap.size w w' := by
  have h1 := Blk.new w 64 #[.slice none 0 0]
  have hb := nbl w (.cells #[.slice none 0 0] 64)
  go_enter Try.func12, Try.ntmps12
  go_wp2_with fail
  go_ret
  exact ⟨rfl, ⟨h1, World.ownsRow_nil _ _ _ _, (fun k e => nomatch e), (fun x hx => nomatch hx), List.Pairwise.nil⟩, hb⟩
set_option maxRecDepth 100000 in
set_option maxHeartbeats 4000000 in
theorem rf_at (w : World) (b : Nat) (v : Value) (l : List Kv) (key : ByteArray) (h : RfR w b v l) : Calls Try.prog 45 #[pt b, .string key] w fun e w' => e = .returned (.int .i64 ((kpos l key : Nat) : Int)) ∧ w' = w := by
  obtain ⟨A, c, rfl, hat, hnc, hcm⟩ := h.row.form
  have c0 : w.cell? ⟨b, 0, none⟩ = some (.slice A l.length c) := h.obj.cell 0
  have hple := kpos_le l key
  have HL := Lib.hid (fun i (hi : i < kpos l key) => kpos_lt (l := l) (k := key) hi)
  have HN := Lib.hid (fun (hi : kpos l key < l.length) => kpos_at (k := key) hi)
  have HA := Lib.hid hat
  clear h hat
  generalize hp : kpos l key = p at *
  clear hp
  go_enter Try.func45, Try.ntmps45
  go_wp2_with fail
  go_loop [5] (fun i => ∃ k : Nat, k ≤ p ∧ i = .int .i64 k) (fun i => p - (intOf i).toNat)
  case atStart => exact ⟨0, Nat.zero_le _, rfl⟩
  case round =>
    obtain ⟨k, hk, rfl⟩ := hrel
    by_cases hlt : k < l.length
    · obtain ⟨bb, o, rfl, hc⟩ := HA.out.2 (by omega)
      have hc1 := (hc k hlt).1
      by_cases hkp : k < p
      · obtain ⟨_, hkl⟩ := HL.out k hkp
        unfold kl at hkl
        clear hc
        generalize (l[k]'hlt).key = key2 at *
        go_wp2_with fail
        go_round
        case rel => exact ⟨k + 1, by omega, by go_num⟩
        case measure => simp [intOf]; omega
      · obtain rfl : k = p := by omega
        have hkl := HN.out hlt
        unfold kl at hkl
        clear hc
        generalize (l[k]'hlt).key = key2 at *
        go_wp2_with fail
        go_ret
        exact ⟨rfl, rfl⟩
    · obtain rfl : k = p := by omega
      go_wp2_with fail
      go_ret
      exact ⟨rfl, rfl⟩
set_option maxRecDepth 100000 in
set_option maxHeartbeats 4000000 in
theorem rf_has (w : World) (b : Nat) (v : Value) (l : List Kv) (key : ByteArray) (h : RfR w b v l) : Calls Try.prog 46 #[pt b, .int .i64 ((kpos l key : Nat) : Int), .string key] w fun e w' => e = .returned (.bool (khas l key)) ∧ w' = w := by
  obtain ⟨A, c, rfl, hat, hnc, hcm⟩ := h.row.form
  have c0 : w.cell? ⟨b, 0, none⟩ = some (.slice A l.length c) := h.obj.cell 0
  by_cases hlt : kpos l key < l.length
  · obtain ⟨bb, o, rfl, hc⟩ := hat.2 (by omega)
    have hc1 := (hc _ hlt).1
    rw [khas_at hlt]
    clear h hc hat
    generalize (l[kpos l key]'hlt).key = key2 at *
    generalize kpos l key = p at *
    go_enter Try.func46, Try.ntmps46
    go_wp2_with fail
    go_ret
    exact ⟨by rw [← kbeq]; rfl, rfl⟩
  · rw [khas_end (by omega)]
    clear h hat
    generalize kpos l key = p at *
    go_enter Try.func46, Try.ntmps46
    go_wp2_with fail
    go_ret
    exact ⟨rfl, rfl⟩
end Go.Proofs.Ytcpbcoeccplliaa
