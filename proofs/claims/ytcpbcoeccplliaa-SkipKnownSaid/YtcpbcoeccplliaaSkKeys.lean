/-
  Layer 9, the statements' words: what the list made is; the map looked at in a walk.
-/
import Derived.Test.YtcpbcoeccplliaaSkMade
import Derived.Test.YtcpbcoeccplliaaVSkipDoes
set_option linter.unusedVariables false
namespace Go.Proofs.Ytcpbcoeccplliaa
open Go.RowKit Go.Maps Go.MapKept

/-! ### plain -/
theorem kdrop_none {l : List Kv} {k : ByteArray} (h : khas l k = false) : kdrop l k = l := by unfold kdrop; rw [h]; rfl
theorem kpos_put {l : List Kv} (k : ByteArray) (v : Value) (s : Nat) : kpos (kput l k v s) k = kpos l k := by
  have hle := kpos_le l k
  unfold kput
  split
  · rename_i h0
    obtain ⟨hp, hk⟩ := (khas_iff _ _).1 h0
    refine kpos_eq (by rw [List.length_set]; omega) (fun i hi h => ?_) (fun hn => ?_)
    · rw [List.getElem_set_ne (by omega)]
      exact (kpos_lt h).2
    · rw [List.getElem_set_self]
      exact kl_irr _
  · have e1 : (l.take (kpos l k)).length = kpos l k := by rw [List.length_take]; omega
    refine kpos_eq (by rw [List.length_append, e1]; omega) (fun i hi h => ?_) (fun hn => ?_)
    · rw [List.getElem_append_left (by rw [e1]; exact h), List.getElem_take]
      exact (kpos_lt h).2
    · rw [List.getElem_append_right (by rw [e1]; omega)]
      simp only [e1, Nat.sub_self, List.getElem_cons_zero]
      exact kl_irr _
theorem kdrop_put {l : List Kv} (hs : Sor l) {k : ByteArray} (v : Value) (s : Nat) (h : khas l k = false) : kdrop (kput l k v s) k = l := by
  have hle := kpos_le l k
  have e1 : (l.take (kpos l k)).length = kpos l k := by rw [List.length_take]; omega
  have hh : khas (kput l k v s) k = true := by rw [kput_has hs, if_pos rfl]
  unfold kdrop
  rw [if_pos hh, kpos_put]
  unfold kput
  rw [h, if_neg (by decide), List.take_append_of_le_length (by omega), List.take_of_length_le (by omega)]
  rw [List.drop_append, e1, List.drop_of_length_le (by omega), Nat.add_sub_cancel_left]
  simp
theorem listM_ok (ds : List Sd9) (k : Nat) : Sor (listM ds k) ∧ ∀ x ∈ listM ds k, 1 ≤ x.st := by
  have key : ∀ (ds : List Sd9) (l : List Kv), (Sor l ∧ ∀ x ∈ l, 1 ≤ x.st) → Sor (ds.foldl doM l) ∧ ∀ x ∈ ds.foldl doM l, 1 ≤ x.st := by
    intro ds
    induction ds with
    | nil => exact fun l h => h
    | cons d ds ih =>
      intro l h
      refine ih _ ?_
      obtain ⟨h1, h2⟩ := h
      unfold doM
      split
      · exact ⟨Sor.dropk h1 _, fun x hx => h2 x ((kdrop_mem h1 _ x).1 hx).1⟩
      · refine ⟨Sor.put h1 _ _ _, fun x hx => ?_⟩
        unfold kput at hx
        split at hx
        · rename_i hh
          obtain ⟨hp, _⟩ := (khas_iff _ _).1 hh
          rcases List.mem_or_eq_of_mem_set hx with hx | hx
          · exact h2 x hx
          · subst hx
            show 1 ≤ stAt l _
            rw [stAt_eq hp]
            exact h2 _ (List.getElem_mem hp)
        · rcases List.mem_append.1 hx with hx | hx
          · exact h2 x (List.mem_of_mem_take hx)
          · rcases List.mem_cons.1 hx with hx | hx
            · subst hx
              show 1 ≤ (1 + d.st % 16).toNat
              have := Int.emod_nonneg d.st (b := 16) (by omega)
              omega
            · exact h2 x (List.mem_of_mem_drop hx)
  exact key _ _ ⟨List.Pairwise.nil, fun x hx => nomatch hx⟩
theorem kput_sub {l : List Kv} {k : ByteArray} {v : Value} {s : Nat} {x : Kv} (hx : x ∈ kput l k v s) : x.key = k ∨ x ∈ l := by
  unfold kput at hx
  split at hx
  · rcases List.mem_or_eq_of_mem_set hx with hx | hx
    · exact .inr hx
    · subst hx; exact .inl rfl
  · rcases List.mem_append.1 hx with hx | hx
    · exact .inr (List.mem_of_mem_take hx)
    · rcases List.mem_cons.1 hx with hx | hx
      · subst hx; exact .inl rfl
      · exact .inr (List.mem_of_mem_drop hx)
theorem kdrop_sub {l : List Kv} {k : ByteArray} {x : Kv} (hx : x ∈ kdrop l k) : x ∈ l := by
  unfold kdrop at hx
  split at hx
  · rcases List.mem_append.1 hx with hx | hx
    · exact List.mem_of_mem_take hx
    · exact List.mem_of_mem_drop hx
  · exact hx
theorem listM_sz {ds : List Sd9} (hok : ∀ i (h : i < ds.length), (ds[i]'h).ok) (k : Nat) : ∀ x ∈ listM ds k, x.key.size ≤ 281474976710656 := by
  have key : ∀ (ds : List Sd9) (l : List Kv), (∀ d ∈ ds, d.ok) → (∀ x ∈ l, x.key.size ≤ 281474976710656) → ∀ x ∈ ds.foldl doM l, x.key.size ≤ 281474976710656 := by
    intro ds
    induction ds with
    | nil => exact fun l _ h => h
    | cons d ds ih =>
      intro l hd h
      refine ih _ (fun d hd2 => hd d (List.mem_cons_of_mem _ hd2)) (fun x hx => ?_)
      unfold doM at hx
      split at hx
      · exact h x (kdrop_sub hx)
      · rcases kput_sub hx with e | e
        · rw [e]; exact (hd d List.mem_cons_self).size
        · exact h x e
  refine key _ _ (fun d hd => ?_) (fun x hx => nomatch hx)
  obtain ⟨i, hi, rfl⟩ := List.mem_iff_getElem.1 (List.mem_of_mem_take hd)
  exact hok i hi
theorem kstep_all {l : List Kv} (h : ∀ x ∈ l, 1 ≤ x.st) : kstepI l 1 = l.map Kv.key := by
  unfold kstepI kstep
  rw [if_pos (by decide)]
  congr 1
  exact List.filter_eq_self.2 (fun x hx => decide_eq_true (h x hx))
theorem HKey9 (s : ByteArray) (h : s.size ≤ 281474976710656) : keyOf Try.prog 9 (.string s) = some (sk9 s) :=
  Go.WideMaps.keyOf_string_mk (P := Try.prog) Try.underlying9 (s := s) (by unfold maxLen; omega)
/-- What made gives. -/
theorem sk_made9 (A0 : Option Addr) (n0 c0 : Nat) (w : World) (ds : List Sd9) (hds : SdAt w A0 n0 ds) (hok : ∀ i (h : i < ds.length), (ds[i]'h).ok) (hn : n0 ≤ 9223372036854775807) :
    ∃ L, L = listM ds (min n0 80) ∧ L.length ≤ 80 ∧ Sor L ∧ (∀ x ∈ L, 1 ≤ x.st) ∧ (∀ x ∈ L, x.key.size ≤ 281474976710656) ∧ ∀ w1, Below w.heap.size w w1 → Calls Try.prog 28 #[.slice A0 n0 c0] w1 fun e w' => ∃ q b, e = .returned (.tuple #[pt q, .map (some b)]) ∧ Has w (skA q L :: mapA b 80 L :: []) w' := by
  obtain ⟨h1, h2⟩ := listM_ok ds (min n0 80)
  have h3 := listM_len ds (min n0 80)
  refine ⟨_, rfl, by omega, h1, h2, listM_sz hok _, fun w1 hb => (sk_made A0 n0 c0 w1 ds (hds.below hb) hok hn).mono ?_⟩
  rintro e w' ⟨q, b, rfl, h⟩
  exact ⟨q, b, rfl, h.base hb⟩

/-! ### the map, looked at -/
theorem Has.mapLen {w V : World} {T : List As} {b c : Nat} {l : List Kv} (h : Has w (mapA b c l :: T) V) {k : Nat} (hl : l.length = k) :
    (Builtin.len_ #[42] 3 #[.map (some b)]).run Try.prog V = .ok (.int .i64 (k : Int)) V := by
  obtain ⟨D, hO, hM, _⟩ := h.map
  have e := hO.len (t := 42) Try.underlying42 3
  rw [hM.size, hl] at e
  exact e
section
variable (w : World) {ops : Array Oper} {rest : List Oper} {o : Oper} {a : Act} {Q : Exit → Act → World → Prop}
theorem wpList_look9 (hg : o.guard = none) (m x : Operand) (hop : o.op = Op.lookup 42 m x true) (b n : Nat) (D : DataW Empty) (l : List Kv) (s : ByteArray) (bb : Bool)
    (hm : a.eval m = .map (some b)) (hown : w.ownsMap Try.prog 9 (plainElem Try.prog 3) b n D) (hM : MpIs D l) (hx : a.eval x = .string s) (hs : s.size ≤ 281474976710656) (hh : khas l s = bb)
    (hK : ∀ c : Int, (Lit.int .i64 c).wf = true → wpList Try.prog ops Q rest (a.put o.dst (.tuple #[.int .i64 c, .bool bb])) w) :
    wpList Try.prog ops Q (o :: rest) a w := by
  refine wpList_lookup_own_ok_int w hg m x 42 hop 9 3 .i64 mapK9 Try.underlying42 Try.underlying3 (by kernel_rfl) b n D hm hown _ (sk9 s) hx (HKey9 s hs) (fun c _ hw => ?_)
  rw [hM.has, hh]
  exact hK c hw
theorem wpList_look9v (hg : o.guard = none) (m x : Operand) (hop : o.op = Op.lookup 42 m x true) (b n : Nat) (D : DataW Empty) (l : List Kv) (s : ByteArray) (v : Int)
    (hm : a.eval m = .map (some b)) (hown : w.ownsMap Try.prog 9 (plainElem Try.prog 3) b n D) (hM : MpIs D l) (hx : a.eval x = .string s) (hs : s.size ≤ 281474976710656) (hh : khas l s = true) (hv : kval z9 l s = .int .i64 v)
    (hK : wpList Try.prog ops Q rest (a.put o.dst (.tuple #[.int .i64 v, .bool true])) w) :
    wpList Try.prog ops Q (o :: rest) a w := by
  refine wpList_lookup_own_ok_int w hg m x 42 hop 9 3 .i64 mapK9 Try.underlying42 Try.underlying3 (by kernel_rfl) b n D hm hown _ (sk9 s) hx (HKey9 s hs) (fun c hat hw => ?_)
  obtain ⟨n2, h1, h2⟩ := hM.val s hh (.lit (.int .i64 0))
  rw [hv] at h2
  rw [hat] at h1
  injection h1 with h1
  injection h1 with _ h1
  injection h2 with _ h2
  subst h2; subst h1
  rw [hM.has, hh]
  exact hK
theorem wpList_len9 (hg : o.guard = none) (m : Operand) (hop : o.op = Op.call { callee := Callee.builtin Builtin.len, args := #[m], argTypes := #[42] }) (b n : Nat) (D : DataW Empty) (l : List Kv) (k : Nat)
    (hm : a.eval m = .map (some b)) (hown : w.ownsMap Try.prog 9 (plainElem Try.prog 3) b n D) (hM : MpIs D l) (hl : l.length = k)
    (hK : wpList Try.prog ops Q rest (a.put o.dst (.int .i64 (k : Int))) w) :
    wpList Try.prog ops Q (o :: rest) a w := by
  refine wpList_len_own w hg m 42 hop 9 3 Try.underlying42 _ b n D hm hown ?_
  rw [hM.size, hl]
  exact hK
end
end Go.Proofs.Ytcpbcoeccplliaa
