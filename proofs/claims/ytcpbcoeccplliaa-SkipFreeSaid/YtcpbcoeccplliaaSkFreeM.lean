/-
  Layer 9: on how many steps keys stand changes no answer but those of Steps and Step (plain); deeds that a walk makes.
-/
import Derived.Test.YtcpbcoeccplliaaSkKeys
set_option linter.unusedVariables false
namespace Go.Proofs.Ytcpbcoeccplliaa
open Go.RowKit

def pr (l : List Kv) : List (ByteArray × Value) := l.map (fun x => (x.key, x.val))
theorem pr_kpos (l : List Kv) (k : ByteArray) : kpos l k = ((pr l).takeWhile (fun p => kl p.1 k)).length := by
  unfold kpos pr
  rw [List.takeWhile_map, List.length_map]
  rfl
theorem pr_get (l : List Kv) (i : Nat) : (pr l)[i]? = l[i]?.map (fun x => (x.key, x.val)) := by unfold pr; rw [List.getElem?_map]
theorem pr_has (l : List Kv) (k : ByteArray) : khas l k = match (pr l)[kpos l k]? with | some p => decide (p.1 = k) | none => false := by
  unfold khas
  rw [pr_get]
  cases l[kpos l k]? <;> rfl
theorem pr_val (z : Value) (l : List Kv) (k : ByteArray) : kval z l k = if khas l k then ((pr l)[kpos l k]?.map Prod.snd).getD z else z := by
  unfold kval
  rw [pr_get]
  cases l[kpos l k]? <;> rfl
theorem pr_key (l : List Kv) (n : Nat) : keyAt l n = ((pr l)[n]?.map Prod.fst).getD ⟨#[]⟩ := by
  unfold keyAt
  rw [pr_get]
  cases l[n]? <;> rfl
theorem pr_put (l : List Kv) (k : ByteArray) (v : Value) (s : Nat) : pr (kput l k v s) = if khas l k then (pr l).set (kpos l k) (k, v) else (pr l).take (kpos l k) ++ (k, v) :: (pr l).drop (kpos l k) := by
  unfold kput
  split
  · unfold pr; rw [List.map_set]
  · unfold pr; rw [List.map_append, List.map_cons, List.map_take, List.map_drop]
theorem pr_drop (l : List Kv) (k : ByteArray) : pr (kdrop l k) = if khas l k then (pr l).take (kpos l k) ++ (pr l).drop (kpos l k + 1) else pr l := by
  unfold kdrop
  split
  · unfold pr; rw [List.map_append, List.map_take, List.map_drop]
  · rfl
section
variable {l l' : List Kv} (h : pr l = pr l')
include h
theorem pq_len : l.length = l'.length := by have := congrArg List.length h; simpa [pr] using this
theorem pq_pos (k : ByteArray) : kpos l k = kpos l' k := by rw [pr_kpos, pr_kpos, h]
theorem pq_has (k : ByteArray) : khas l k = khas l' k := by rw [pr_has, pr_has, pq_pos h, h]
theorem pq_val (z : Value) (k : ByteArray) : kval z l k = kval z l' k := by rw [pr_val, pr_val, pq_has h, pq_pos h, h]
theorem pq_key (n : Nat) : keyAt l n = keyAt l' n := by rw [pr_key, pr_key, h]
theorem pq_end (k : ByteArray) : kend l k = kend l' k := by unfold kend; rw [pq_len h, pq_pos h]
theorem pq_first (k : ByteArray) : firstV l k = firstV l' k := by unfold firstV; rw [pq_pos h, pq_key h, pq_len h]
theorem pq_last (k : ByteArray) : lastV l k = lastV l' k := by unfold lastV; rw [pq_end h, pq_key h]
theorem pq_keys : l.map Kv.key = l'.map Kv.key := by
  have := congrArg (List.map Prod.fst) h
  simpa [pr, List.map_map, Function.comp_def] using this
theorem pq_do (a : Int) (k : ByteArray) (v s s' : Int) : pr (doM l ⟨a, k, v, s⟩) = pr (doM l' ⟨a, k, v, s'⟩) := by
  unfold doM
  by_cases ha : a % 3 = 2
  · simp only [ha, if_true]
    rw [pr_drop, pr_drop, pq_has h, pq_pos h, h]
  · simp only [ha, if_false]
    rw [pr_put, pr_put, pq_has h, pq_pos h, h]
end
def chg (y : Int) (d : Sd9) : Sd9 := ⟨d.kind, d.key, d.val, d.st % 16 + y % 16⟩
theorem pq_fold (y : Int) : ∀ (ds : List Sd9) {l l' : List Kv}, pr l = pr l' → pr (ds.foldl doM l) = pr ((ds.map (chg y)).foldl doM l')
  | [], _, _, h => h
  | ⟨a, k, v, s⟩ :: ds, _, _, h => pq_fold y ds (pq_do h a k v s _)
theorem pq_made (y : Int) (ds : List Sd9) (m j : Nat) (hj : m ≤ j) : pr (listM ds m) = pr (listM ((ds.take m).map (chg y)) j) := by
  unfold listM
  rw [List.take_of_length_le (l := (ds.take m).map (chg y)) (by rw [List.length_map, List.length_take]; omega)]
  exact pq_fold y _ rfl

theorem Has.numsM {w V : World} {T : List As} {b c : Nat} {l : List Kv} (h : Has w (mapA b c l :: T) V) (key : ByteArray) : ∃ n, kval z9 l key = .int .i64 n := by
  obtain ⟨D, _, hM, _⟩ := h.map
  cases hh : khas l key with
  | true =>
    obtain ⟨n, _, e⟩ := hM.val key hh (.lit (.int .i64 0))
    exact ⟨n, e⟩
  | false => exact ⟨0, by unfold kval; rw [hh]; rfl⟩
/-! ### deeds in a row of the walk's own -/
def dfl (l : List Sd9) : List Value := l.flatMap fun d => [.int .i64 d.kind, .string d.key, .int .i64 d.val, .int .i64 d.st]
theorem dfl_app (l r : List Sd9) : dfl (l ++ r) = dfl l ++ dfl r := by simp [dfl]
theorem dfl_cons (x : Sd9) (l : List Sd9) : dfl (x :: l) = .int .i64 x.kind :: .string x.key :: .int .i64 x.val :: .int .i64 x.st :: dfl l := by simp [dfl]
theorem dfl_len : ∀ l : List Sd9, (dfl l).length = l.length * 4
  | [] => rfl
  | x :: l => by rw [dfl_cons, List.length_cons, List.length_cons, List.length_cons, List.length_cons, dfl_len l, List.length_cons]; omega
theorem dfl_get : ∀ (l : List Sd9) (i : Nat) (h : i < l.length), (dfl l)[i * 4]? = some (.int .i64 (l[i]'h).kind) ∧ (dfl l)[i * 4 + 1]? = some (.string (l[i]'h).key) ∧ (dfl l)[i * 4 + 2]? = some (.int .i64 (l[i]'h).val) ∧ (dfl l)[i * 4 + 3]? = some (.int .i64 (l[i]'h).st)
  | x :: l, 0, _ => by rw [dfl_cons]; exact ⟨rfl, rfl, rfl, rfl⟩
  | x :: l, i + 1, h => by
    have ih := dfl_get l i (by simpa using h)
    rw [dfl_cons, show (i + 1) * 4 = i * 4 + 1 + 1 + 1 + 1 by omega]
    simpa using ih
theorem infoDd : (Try.prog.info? 29).map (fun i => (i.zero, i.size, i.bytes)) = some (some (.agg #[.int .i64 0, .string ByteArray.empty, .int .i64 0, .int .i64 0]), 4, 40) := by kernel_rfl
def DdRow (w : World) (B : Nat) (v : Value) (n : Nat) (l : List Sd9) : Prop := w.ownsRow B 29 4 v n (dfl l)
theorem DdRow.form {w : World} {B n : Nat} {v : Value} {l : List Sd9} (h : DdRow w B v n l) : ∃ A c, v = .slice A n c ∧ SdAt w A n l ∧ n ≤ c ∧ c ≤ 9223372036854775807 := by
  have hl : l.length = n := by have := h.1; rw [dfl_len] at this; omega
  rcases h.2 with ⟨rfl, h0⟩ | ⟨g, cap, cur, rfl, hb, hg, hnc, hcm, _⟩
  · exact ⟨none, 0, by rw [h0], ⟨hl, fun hm => by omega⟩, by omega, by omega⟩
  · refine ⟨_, cap, rfl, ⟨hl, fun hm => ⟨g, 0, rfl, fun i hi => ?_⟩⟩, hnc, hcm⟩
    obtain ⟨h1, h2, h3, h4⟩ := dfl_get l i hi
    have c1 := World.ownsRow.cells h (g := g) rfl _ _ h1
    have c2 := World.ownsRow.cells h (g := g) rfl _ _ h2
    have c3 := World.ownsRow.cells h (g := g) rfl _ _ h3
    have c4 := World.ownsRow.cells h (g := g) rfl _ _ h4
    rw [Go.WideShapes.add_plain] at c1 c2 c3 c4
    exact ⟨c1, by rw [Nat.add_assoc]; exact c2, by rw [Nat.add_assoc]; exact c3, by rw [Nat.add_assoc]; exact c4⟩
theorem DdRow.keep {w w' : World} {B n : Nat} {v : Value} {l : List Sd9} (h : DdRow w B v n l) (hb : Below w.heap.size w w') : DdRow w' B v n l :=
  World.ownsRow.kept h (row := none) ⟨hb.os, hb.tape, hb.output, hb.size, fun k hk _ => hb.block k hk⟩ (by
    cases hv : v.ownBlock with
    | none => exact .inl rfl
    | some q => exact .inr (by simp))
set_option maxRecDepth 100000 in
/-- 'append(v, d)', d laid in a block. -/
theorem wpList_appDd {w : World} {ops : Array Oper} {rest : List Oper} {o : Oper} {a : Act} {Q : Exit → Act → World → Prop} (hgd : o.guard = none) (s x : Operand)
    (ho : o.op = .call { callee := .builtin .append, args := #[s, x], argTypes := #[22, 22] })
    (B : Nat) (v : Value) (k : Nat) (xs : List Sd9) (d : Sd9) (hs : a.eval s = v) (hown : DdRow w B v k xs)
    (g c : Nat) (hx : a.eval x = .slice (some ⟨g, 0, none⟩) 1 c) (hr : SdAt w (some ⟨g, 0, none⟩) 1 [d]) (hbytes : k ≤ 100) (hbase : B ≤ w.heap.size)
    (h : ∀ v' w', DdRow w' B v' (k + 1) (xs ++ [d]) → w.grownBy w' v.ownBlock → wpList Try.prog ops Q rest (a.put o.dst v') w') :
    wpList Try.prog ops Q (o :: rest) a w := by
  obtain ⟨i, hi, hz, hsz, hby⟩ := info_parts infoDd
  obtain ⟨b, o2, hh, hc⟩ := hr.2 (by decide)
  injection hh with hh
  injection hh with h1 h2
  subst h1; subst h2
  obtain ⟨z0, z1, z2, z3⟩ := hc 0 (by simp)
  have hnews : ∀ j u, (dfl [d])[j]? = some u → w.cell? ((⟨g, 0, none⟩ : Addr).add j) = some u := by
    intro j u hj
    rw [Go.WideShapes.add_plain]
    have e : dfl [d] = [.int .i64 d.kind, .string d.key, .int .i64 d.val, .int .i64 d.st] := by simp [dfl]
    rw [e] at hj
    match j, hj with
    | 0, hj => simpa using z0.trans hj
    | 1, hj => simpa using z1.trans hj
    | 2, hj => simpa using z2.trans hj
    | 3, hj => simpa using z3.trans hj
    | j + 4, hj => simp at hj
  refine wpList_append_own w hgd s x 22 ho B 29 i _ 4 40 Try.underlying22 hi hz hsz hby rfl (by decide) v k (dfl xs) hs hown ⟨g, 0, none⟩ 1 c (dfl [d]) hx (by rw [dfl_len]; rfl) hnews (fun u hu => ?_) (by unfold maxLen; omega) (by omega) hbase ?_
  · have e : dfl [d] = [.int .i64 d.kind, .string d.key, .int .i64 d.val, .int .i64 d.st] := by simp [dfl]
    rw [e] at hu
    simp only [List.mem_cons, List.not_mem_nil, or_false] at hu
    rcases hu with rfl | rfl | rfl | rfl <;> rfl
  · intro v' w' h1 h2 _
    refine h v' w' ?_ h2
    unfold DdRow
    rw [dfl_app]
    exact h1
theorem deed_one (w : World) (d : Sd9) : SdAt (w.alloc (.cells #[.int .i64 d.kind, .string d.key, .int .i64 d.val, .int .i64 d.st] 29)) (some ⟨w.heap.size, 0, none⟩) 1 [d] := by
  have hx := heap_alloc_new w (.cells #[.int .i64 d.kind, .string d.key, .int .i64 d.val, .int .i64 d.st] 29)
  refine ⟨rfl, fun _ => ⟨_, 0, rfl, fun i hi => ?_⟩⟩
  obtain rfl : i = 0 := by simp at hi; omega
  exact ⟨cell_of_row _ _ 0 _ _ (0, 0) hx, cell_of_row _ _ 1 _ _ (0, 0) hx, cell_of_row _ _ 2 _ _ (0, 0) hx, cell_of_row _ _ 3 _ _ (0, 0) hx⟩
end Go.Proofs.Ytcpbcoeccplliaa
