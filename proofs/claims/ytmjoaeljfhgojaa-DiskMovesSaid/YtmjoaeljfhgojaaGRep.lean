/-
  Layer 7: the landed disk in memory: a struct, a map of names to files' blocks, each file's cells and bytes, what it was told of failing.
-/
import Derived.Test.YtmjoaeljfhgojaaOwnI
import Derived.Maps.RangeWalk
set_option linter.unusedVariables false
namespace Go.Proofs.Ytmjoaeljfhgojaa
open Go.RowKit Go.Maps

theorem lawK : Keyed Try.prog 9 := string_keyed Try.underlying9
/-- How a map's element reads: as a file's block. -/
def fE : Value → Option (DataW Empty × List MemPlace)
  | .pointer (some ⟨q, 0, none⟩) => some (.lit (.int .i64 (q : Int)), [])
  | .pointer none => some (.nil, [])
  | _ => none
theorem fE_pt (q : Nat) : fE (pt q) = some (.lit (.int .i64 (q : Int)), []) := rfl
theorem fE_shape {v : Value} {y : DataW Empty × List MemPlace} (h : fE v = some y) : (∃ q : Nat, v = pt q ∧ y = (.lit (.int .i64 (q : Int)), [])) ∨ (v = .pointer none ∧ y = (.nil, [])) := by
  unfold fE at h
  split at h
  · rename_i q
    injection h with h
    exact .inl ⟨q, rfl, h.symm⟩
  · injection h with h
    exact .inr ⟨rfl, h.symm⟩
  · cases h

/-- A file: what it is, its block, its bytes. -/
structure Cf where
  f : Fl
  q : Nat
  v : Value
def sk (s : ByteArray) : Lit := .string s.data.toList
theorem sk_inj {s t : ByteArray} (h : sk s = sk t) : s = t := by
  unfold sk at h
  injection h with h
  refine ByteArray.ext (Array.toList_inj.1 h)
def Cf.ent (c : Cf) : Lit × DataW Empty := (sk c.f.name, .lit (.int .i64 (c.q : Int)))
/-- Its blocks. -/
def Cf.B (c : Cf) (k : Nat) : Prop := k = c.q ∨ c.v.ownBlock = some k
structure RCf (V : World) (F : Nat → Prop) (c : Cf) : Prop where
  obj : V.heap[c.q]? = some (.cells #[c.v, .int .i64 (c.f.mark : Int)] 76 (0, 0))
  own : Own V 0 c.v c.f.bs
  sub : ∀ k, c.B k → F k
/-- What the disk was told of failing. -/
def RFail (V : World) (D : Dk) (F : Nat → Prop) (fp : Option Addr) : Prop :=
  (D.left < 0 ∧ fp = none) ∨ (0 ≤ D.left ∧ ∃ p kv, fp = some ⟨p, 0, none⟩ ∧ V.heap[p]? = some (.cells #[.int .i64 D.left, kv] 80 (0, 0)) ∧ OwnI V 0 kv (D.keep.take 20) ∧ F p ∧ ∀ k, kv.ownBlock = some k → F k)
structure RC (V : World) (g : Nat) (D : Dk) (F : Nat → Prop) (mb : Nat) (fp : Option Addr) (es : List (Lit × DataW Empty)) (qs : List Cf) : Prop where
  obj : V.heap[g]? = some (.cells #[.map (some mb), .bool D.dead, .pointer fp] 68 (0, 0))
  eq : qs.map Cf.f = D.l
  map : V.ownsMap Try.prog 9 fE mb 20 (.map es)
  perm : es.Perm (qs.map Cf.ent)
  each : ∀ c ∈ qs, RCf V F c
  sep : qs.Pairwise (fun a b => ∀ k, a.B k → ¬ b.B k)
  fail : D.dead = false → RFail V D F fp
  gone : D.dead = true → ∀ f ∈ D.l, f.mark = f.bs.length
  fg : F g
  fm : F mb
  lt : ∀ k, F k → k < V.heap.size
  ok : D.ok
def RCk (V : World) (g : Nat) (D : Dk) (F : Nat → Prop) : Prop := ∃ mb fp es qs, RC V g D F mb fp es qs

theorem ownsMap_onS {V V' : World} {P : Program} {k : TypeId} {b n : Nat} {X : DataW Empty} (h : V.ownsMap P k fE b n X) (hb : V'.heap[b]? = V.heap[b]?) : V'.ownsMap P k fE b n X := by
  obtain ⟨e0, clock, h1, h2⟩ := h
  exact ⟨e0, clock, hb.trans h1, h2⟩
theorem ownsMap_tight {V : World} {P : Program} {k : TypeId} {b n m : Nat} {es : List (Lit × DataW Empty)} (h : V.ownsMap P k fE b n (.map es)) (hm : es.length ≤ m) : V.ownsMap P k fE b m (.map es) := by
  obtain ⟨e0, clock, h1, h2, h3, h4⟩ := h
  refine ⟨e0, clock, h1, h2, ?_, h4⟩
  have e := congrArg Maps.size h4
  simp only [Maps.size, length_sorted, List.length_map, Array.length_toList] at e
  omega
theorem ownsMap_blk {V : World} {P : Program} {k : TypeId} {b n : Nat} {X : DataW Empty} (h : V.ownsMap P k fE b n X) : ∃ e0 clock, V.heap[b]? = some (.map e0 clock) := by
  obtain ⟨e0, clock, h1, _⟩ := h
  exact ⟨e0, clock, h1⟩

section
variable {V V' : World} {g : Nat} {D D' : Dk} {F G : Nat → Prop} {mb : Nat} {fp fp' : Option Addr} {es es' : List (Lit × DataW Empty)} {qs qs' : List Cf} {c : Cf}
theorem RCf.on (h : RCf V F c) (hk : ∀ k, c.B k → V'.heap[k]? = V.heap[k]?) (hG : ∀ k, c.B k → G k) : RCf V' G c := ⟨(hk _ (.inl rfl)).trans h.obj, h.own.onS (fun k e => hk k (.inr e)), hG⟩
theorem RCf.kind (h : RCf V F c) {k : Nat} (hk : c.B k) : ∃ cs t, V.heap[k]? = some (.cells cs t (0, 0)) ∧ (t = 76 ∨ t = 5) := by
  rcases hk with rfl | e
  · exact ⟨_, _, h.obj, .inl rfl⟩
  · rcases h.own.2 with ⟨hv, _⟩ | ⟨q, cap, cur, hv, _, hh, _⟩
    · rw [hv] at e
      cases e
    · rw [hv] at e
      have e' : some q = some k := e
      injection e' with e'
      subst e'
      exact ⟨_, _, hh, .inr rfl⟩
theorem RCf.ne_t (h : RCf V F c) {k : Nat} (hk : c.B k) {cs : Array Value} {t : TypeId} {z : Nat × Nat} {j : Nat} (ho : V.heap[j]? = some (.cells cs t z)) (h1 : t ≠ 76) (h2 : t ≠ 5) : k ≠ j := by
  rintro rfl
  obtain ⟨cs', t', e, ht⟩ := h.kind hk
  rw [e] at ho
  injection ho with ho
  injection ho with _ e2 _
  subst e2
  rcases ht with ht | ht
  · exact h1 ht
  · exact h2 ht
theorem RCf.ne_m (h : RCf V F c) {k : Nat} (hk : c.B k) {e0 : Array MapEntry} {cl j : Nat} (ho : V.heap[j]? = some (.map e0 cl)) : k ≠ j := by
  rintro rfl
  obtain ⟨cs', t', e, ht⟩ := h.kind hk
  rw [e] at ho
  cases ho
theorem RFail.on (h : RFail V D F fp) (hk : ∀ k, F k → (∃ cs t, V.heap[k]? = some (.cells cs t (0, 0)) ∧ (t = 80 ∨ t = 3)) → V'.heap[k]? = V.heap[k]?) (hG : ∀ k, F k → G k) (e1 : D'.left = D.left) (e2 : D'.keep = D.keep) : RFail V' D' G fp := by
  unfold RFail at h ⊢
  rw [e1, e2]
  rcases h with h | ⟨h0, p, kv, rfl, hp, hI, hF, hS⟩
  · exact .inl h
  · refine .inr ⟨h0, p, kv, rfl, (hk p hF ⟨_, _, hp, .inl rfl⟩).trans hp, hI.onS (fun k e => hk k (hS k e) ?_), hG p hF, fun k e => hG k (hS k e)⟩
    rcases hI.2 with ⟨hv, _⟩ | ⟨q, cap, cur, hv, _, hh, _⟩
    · rw [hv] at e
      cases e
    · rw [hv] at e
      have e' : some q = some k := e
      injection e' with e'
      subst e'
      exact ⟨_, _, hh, .inr rfl⟩
theorem RC.on (h : RC V g D F mb fp es qs) (hs : V.heap.size ≤ V'.heap.size) (hk : ∀ k, F k → V'.heap[k]? = V.heap[k]?) : RC V' g D F mb fp es qs :=
  ⟨(hk g h.fg).trans h.obj, h.eq, ownsMap_onS h.map (hk mb h.fm), h.perm, fun c hc => (h.each c hc).on (fun k e => hk k ((h.each c hc).sub k e)) (h.each c hc).sub, h.sep, fun hd => (h.fail hd).on (fun k e _ => hk k e) (fun _ e => e) rfl rfl, h.gone, h.fg, h.fm, fun k e => Nat.lt_of_lt_of_le (h.lt k e) hs, h.ok⟩
theorem RC.below (h : RC V g D F mb fp es qs) (hb : Below V.heap.size V V') : RC V' g D F mb fp es qs := h.on hb.size (fun k e => hb.block k (h.lt k e))
theorem RC.mono (h : RC V g D F mb fp es qs) (hs : ∀ k, F k → G k) (hl : ∀ k, G k → k < V.heap.size) : RC V g D G mb fp es qs :=
  ⟨h.obj, h.eq, h.map, h.perm, fun c hc => (h.each c hc).on (fun _ _ => rfl) (fun k e => hs k ((h.each c hc).sub k e)), h.sep, fun hd => (h.fail hd).on (fun _ _ _ => rfl) hs rfl rfl, h.gone, hs g h.fg, hs mb h.fm, hl, h.ok⟩
theorem RC.ends {w : World} (h : RC V g D F mb fp es qs) {F0 : Nat → Prop} (hF : ∀ k, F k → nF F0 w V k) (hG : Grow F0 w V) (hl : ∀ k, F0 k → k < w.heap.size) : Turns RCk w g F0 D V :=
  ⟨⟨mb, fp, es, qs, h.mono hF (fun k e => by rcases e with e | e; exact Nat.lt_of_lt_of_le (hl k e) hG.size; exact e.2)⟩, hG⟩
theorem RC.len (h : RC V g D F mb fp es qs) : qs.length = D.l.length := by rw [← h.eq, List.length_map]
theorem RC.get (h : RC V g D F mb fp es qs) {i : Nat} (hi : i < qs.length) : D.l[i]'(by rw [← h.len]; exact hi) = qs[i].f := by
  have e := h.eq
  simp only [← e, List.getElem_map]
theorem RC.c0 (h : RC V g D F mb fp es qs) : V.cell? ⟨g, 0, none⟩ = some (.map (some mb)) := cell_of_row V g 0 _ _ (0, 0) h.obj
theorem RC.c1 (h : RC V g D F mb fp es qs) : V.cell? ⟨g, 1, none⟩ = some (.bool D.dead) := cell_of_row V g 1 _ _ (0, 0) h.obj
theorem RC.c2 (h : RC V g D F mb fp es qs) : V.cell? ⟨g, 2, none⟩ = some (.pointer fp) := cell_of_row V g 2 _ _ (0, 0) h.obj
theorem RC.fz (h : RC V g D F mb fp es qs) (i : Nat) : V.frozen? ⟨g, i, none⟩ = false := by
  have h := h.obj
  simp [World.frozen?, h]
theorem RC.apart (h : RC V g D F mb fp es qs) {i j : Nat} (hi : i < qs.length) (hj : j < qs.length) (hne : i ≠ j) {k : Nat} (hk : qs[i].B k) : ¬ qs[j].B k := by
  have hp := List.pairwise_iff_getElem.1 h.sep
  rcases Nat.lt_or_gt_of_ne hne with h1 | h1
  · exact hp i j hi hj h1 k hk
  · exact fun e => hp j i hj hi h1 k e hk
theorem RC.notg (h : RC V g D F mb fp es qs) {c : Cf} (hc : c ∈ qs) {k : Nat} (hk : c.B k) : k ≠ g ∧ k ≠ mb := by
  obtain ⟨e0, cl, hm⟩ := ownsMap_blk h.map
  exact ⟨(h.each c hc).ne_t hk h.obj (by decide) (by decide), (h.each c hc).ne_m hk hm⟩
/-- A file is written: its cells, its bytes. -/
theorem RC.put (h : RC V g D F mb fp es qs) {i : Nat} (hi : i < qs.length) (hq : c.q = qs[i].q) (hn : c.f.name = qs[i].f.name) (hFG : ∀ k, F k → G k) (hGl : ∀ k, G k → k < V'.heap.size)
    (hk : ∀ k, F k → ¬ qs[i].B k → V'.heap[k]? = V.heap[k]?) (hc : RCf V' G c) (hnew : ∀ k, c.v.ownBlock = some k → qs[i].v.ownBlock = some k ∨ ¬ F k)
    (hgone : D.dead = true → c.f.mark = c.f.bs.length) (hok : ({ D with l := D.l.set i c.f } : Dk).ok) : RC V' g { D with l := D.l.set i c.f } G mb fp es (qs.set i c) := by
  have hcB : ∀ k, c.B k → qs[i].B k ∨ ¬ F k := fun k e => by
    rcases e with rfl | e
    · exact .inl (.inl hq)
    · rcases hnew k e with e | e
      · exact .inl (.inr e)
      · exact .inr e
  have hmi : qs[i] ∈ qs := List.getElem_mem hi
  have hgB : ¬ qs[i].B g := fun e => (h.notg hmi e).1 rfl
  have hmB : ¬ qs[i].B mb := fun e => (h.notg hmi e).2 rfl
  refine ⟨(hk g h.fg hgB).trans h.obj, by rw [List.map_set, h.eq], ownsMap_onS h.map (hk mb h.fm hmB), ?_, fun x hx => ?_, ?_, fun hd => (h.fail hd).on (fun k e ⟨cs, t, e1, e2⟩ => hk k e (fun e3 => (h.each _ hmi).ne_t e3 e1 (by rcases e2 with rfl | rfl <;> decide) (by rcases e2 with rfl | rfl <;> decide) rfl)) hFG rfl rfl, fun hd f hf => ?_, hFG g h.fg, hFG mb h.fm, hGl, hok⟩
  · have e : (qs.set i c).map Cf.ent = qs.map Cf.ent := by
      rw [List.map_set]
      have : c.ent = (qs.map Cf.ent)[i]'(by simpa using hi) := by
        rw [List.getElem_map]
        unfold Cf.ent
        rw [hq, hn]
      rw [this]
      exact List.set_getElem_self _
    rw [e]
    exact h.perm
  · rcases List.mem_iff_getElem.1 hx with ⟨j, hj, rfl⟩
    have hj' : j < qs.length := by simpa using hj
    rw [List.getElem_set]
    split
    · exact hc
    · rename_i hne
      have hr := h.each _ (List.getElem_mem hj')
      exact hr.on (fun k e => hk k (hr.sub k e) (fun e2 => h.apart hi hj' hne e2 e)) (fun k e => hFG k (hr.sub k e))
  · refine List.pairwise_iff_getElem.2 (fun a b ha hb hab k e1 e2 => ?_)
    have ha' : a < qs.length := by simpa using ha
    have hb' : b < qs.length := by simpa using hb
    rw [List.getElem_set] at e1 e2
    split at e1
    · rename_i ea
      subst ea
      rw [if_neg (by omega)] at e2
      rcases hcB k e1 with e3 | e3
      · exact h.apart hi hb' (by omega) e3 e2
      · exact e3 ((h.each _ (List.getElem_mem hb')).sub k e2)
    · split at e2
      · rename_i eb
        subst eb
        rcases hcB k e2 with e3 | e3
        · exact h.apart ha' hi (by omega) e1 e3
        · exact e3 ((h.each _ (List.getElem_mem ha')).sub k e1)
      · exact h.apart ha' hb' (by omega) e1 e2
  · rcases List.mem_or_eq_of_mem_set hf with h1 | rfl
    · exact h.gone hd f h1
    · exact hgone hd
/-- The struct's own cells, or what it was told of failing, are written. -/
theorem RC.obj' (h : RC V g D F mb fp es qs) (hl : D'.l = D.l) (hobj : V'.heap[g]? = some (.cells #[.map (some mb), .bool D'.dead, .pointer fp'] 68 (0, 0)))
    (hk : ∀ k, F k → k ≠ g → (∀ cs, V.heap[k]? ≠ some (.cells cs 80 (0, 0))) → V'.heap[k]? = V.heap[k]?) (hFG : ∀ k, F k → G k) (hGl : ∀ k, G k → k < V'.heap.size)
    (hfail : D'.dead = false → RFail V' D' G fp') (hgone : D'.dead = true → ∀ f ∈ D'.l, f.mark = f.bs.length) (hok : D'.ok) : RC V' g D' G mb fp' es qs := by
  obtain ⟨e0, cl, hm⟩ := ownsMap_blk h.map
  have hmg : mb ≠ g := fun e => by rw [e, h.obj] at hm; cases hm
  refine ⟨hobj, by rw [hl]; exact h.eq, ownsMap_onS h.map (hk mb h.fm hmg (fun cs e => by rw [hm] at e; cases e)), h.perm, fun c hc => ?_, h.sep, hfail, hgone, hFG g h.fg, hFG mb h.fm, hGl, hok⟩
  have hr := h.each c hc
  refine hr.on (fun k e => hk k (hr.sub k e) (h.notg hc e).1 (fun cs e2 => ?_)) (fun k e => hFG k (hr.sub k e))
  exact hr.ne_t e e2 (by decide) (by decide) rfl
/-- The map is written; files come, or go. -/
theorem RC.map' (h : RC V g D F mb fp es qs) (hd : D.dead = false) (hmap : V'.ownsMap Try.prog 9 fE mb 20 (.map es')) (hk : ∀ k, F k → k ≠ mb → V'.heap[k]? = V.heap[k]?) (hFG : ∀ k, F k → G k) (hGl : ∀ k, G k → k < V'.heap.size)
    (hperm : es'.Perm (qs'.map Cf.ent)) (heach : ∀ c ∈ qs', RCf V' G c) (hsep : qs'.Pairwise (fun a b => ∀ k, a.B k → ¬ b.B k)) {l : List Fl} (hl : qs'.map Cf.f = l) (hok : ({ D with l := l } : Dk).ok) : RC V' g { D with l := l } G mb fp es' qs' := by
  obtain ⟨e0, cl, hm⟩ := ownsMap_blk h.map
  have hmg : g ≠ mb := fun e => by rw [← e, h.obj] at hm; cases hm
  exact ⟨(hk g h.fg hmg).trans h.obj, hl, hmap, hperm, heach, hsep, fun _ => (h.fail hd).on (fun k e ⟨cs, t, e1, _⟩ => hk k e (fun e2 => by rw [e2, hm] at e1; cases e1)) hFG rfl rfl, fun e => absurd e (by rw [hd]; decide), hFG g h.fg, hFG mb h.fm, hGl, hok⟩
end

/-! ### a name is looked up -/
theorem zeroP (w : World) : (zeroValue 71).run Try.prog w = .ok (.pointer none) w := by kernel_rfl
open Go.MapKept Go.WideElems in
theorem look_run {V : World} {b n : Nat} {es : List (Lit × DataW Empty)} (h : V.ownsMap Try.prog 9 fE b n (.map es)) (s : ByteArray) (ok : Bool) :
    ((Instr.lookup 65 (.map (some b)) (.string s) ok).run Try.prog V = .ok (if ok then .tuple #[.pointer none, .bool false] else .pointer none) V ∧ ∀ p ∈ es, p.1 ≠ sk s) ∨
    ∃ v ps p, p ∈ es ∧ p.1 = sk s ∧ fE v = some (p.2, ps) ∧ (Instr.lookup 65 (.map (some b)) (.string s) ok).run Try.prog V = .ok (if ok then .tuple #[v, .bool true] else v) V := by
  obtain ⟨e0, clock, hb, Ft, hs, hD⟩ := h
  injection hD with hD
  have hks : ∀ x ∈ e0.toList, IsKey .string x.key := fun x hx => by
    obtain ⟨y, hy⟩ := Ft.reads x hx
    obtain ⟨s', e, _, _⟩ := WideMaps.string_of_keyOf Try.underlying9 (rd_key hy)
    rw [e]
    trivial
  have hck : ∀ em : Bool, (Instr.checkKey em 10000 9 (.string s)).run Try.prog V = .ok () V := fun em => run_checkKey (P := Try.prog) (w := V) Try.underlying9 (d := .string) (k := .string s) trivial em 9999
  rcases findNow_spec (d := .string) (k := .string s) trivial e0.toList 0 hks with ⟨h1, h2⟩ | ⟨j, x, h1, h2, h3⟩
  · refine .inl ⟨?_, fun p hp e => ?_⟩
    · have hf := run_findKey (P := Try.prog) (w := V) Try.underlying9 h1
      simp [Instr.lookup, run_underlying Try.underlying65, MapKept.run_getObj_map hb, hck, hf, Result.andThen]
      all_goals cases ok <;> rfl
    · rw [hD] at hp
      obtain ⟨x, hx, rfl⟩ := List.mem_map.1 (mem_sorted.1 hp)
      obtain ⟨y, hy⟩ := Ft.reads x hx
      rw [rg_of hy] at e
      obtain ⟨s', e1, e2, _⟩ := WideMaps.string_of_keyOf Try.underlying9 (rd_key hy)
      rw [e2] at e
      have : s' = s := sk_inj e
      subst this
      exact h2 x hx e1
  · have hx : x ∈ e0.toList := List.mem_of_getElem? h2
    obtain ⟨y, hy⟩ := Ft.reads x hx
    obtain ⟨z, hz, hzd⟩ := rd_val hy
    refine .inr ⟨x.val, z.2, y, ?_, ?_, ?_, ?_⟩
    · rw [hD]
      exact mem_sorted.2 (List.mem_map.2 ⟨x, hx, rg_of hy⟩)
    · obtain ⟨s', e1, e2, _⟩ := WideMaps.string_of_keyOf Try.underlying9 (rd_key hy)
      have e3 : s = s' := Value.string.inj (h3.symm.trans e1)
      subst e3
      exact e2
    · exact hz.trans (congrArg some (Prod.ext hzd.symm rfl))
    · have hf := run_findKey (P := Try.prog) (w := V) Try.underlying9 h1
      simp [Instr.lookup, run_underlying Try.underlying65, MapKept.run_getObj_map hb, hck, hf, Result.andThen]

theorem isAt_mem {l : List Fl} {s : ByteArray} (h : isAt l s = true) : ∃ hp : pos l s < l.length, l[pos l s].name = s := by
  have hp := isAt_lt h
  rw [isAt_eq rfl hp] at h
  exact ⟨hp, of_decide_eq_true h⟩
theorem isAt_of {l : List Fl} (hs : l.Pairwise (fun a b => nl a.name b.name = true)) {i : Nat} (hi : i < l.length) : pos l l[i].name = i ∧ isAt l l[i].name = true := by
  have hp : pos l l[i].name = i := pos_eq (by omega) (fun j hj => sorted_get hs hj hi) (fun _ => nl_irr _)
  exact ⟨hp, by rw [isAt_eq hp hi]; simp⟩
section
variable {V : World} {g : Nat} {D : Dk} {F : Nat → Prop} {mb : Nat} {fp : Option Addr} {es : List (Lit × DataW Empty)} {qs : List Cf}
/-- The file of a name. -/
theorem RC.at_ (h : RC V g D F mb fp es qs) {s : ByteArray} {p : Nat} (hp : pos D.l s = p) (hi : isAt D.l s = true) : ∃ hq : p < qs.length, qs[p].f.name = s ∧ fileAt D.l s = qs[p].f ∧ ∃ hl : p < D.l.length, D.l[p] = qs[p].f := by
  obtain ⟨hl, hf, hn⟩ := fileAt_eq hp hi
  have hq : p < qs.length := by rw [h.len]; exact hl
  have e := h.get hq
  exact ⟨hq, by rw [← e]; exact hn, by rw [hf, e], hl, e⟩
theorem RC.look_no (h : RC V g D F mb fp es qs) {s : ByteArray} (hi : isAt D.l s = false) (ok : Bool) : (Instr.lookup 65 (.map (some mb)) (.string s) ok).run Try.prog V = .ok (if ok then .tuple #[.pointer none, .bool false] else .pointer none) V := by
  rcases look_run h.map s ok with ⟨h1, _⟩ | ⟨v, ps, p, hp, e1, _, _⟩
  · exact h1
  · exfalso
    obtain ⟨c, hc, rfl⟩ := List.mem_map.1 (h.perm.mem_iff.1 hp)
    obtain ⟨j, hj, rfl⟩ := List.mem_iff_getElem.1 hc
    have e2 : qs[j].f.name = s := sk_inj e1
    have hj' : j < D.l.length := by rw [← h.len]; exact hj
    have e3 := (isAt_of h.ok.sorted hj').2
    rw [h.get hj, e2, hi] at e3
    cases e3
theorem RC.look_yes (h : RC V g D F mb fp es qs) {s : ByteArray} {p : Nat} (hp : pos D.l s = p) (hi : isAt D.l s = true) (ok : Bool) (hq : p < qs.length) :
    (Instr.lookup 65 (.map (some mb)) (.string s) ok).run Try.prog V = .ok (if ok then .tuple #[pt qs[p].q, .bool true] else pt qs[p].q) V := by
  obtain ⟨_, hn, _⟩ := h.at_ hp hi
  rcases look_run h.map s ok with ⟨_, h2⟩ | ⟨v, ps, x, hx, e1, hv, h1⟩
  · exfalso
    have hm : qs[p].ent ∈ es := h.perm.mem_iff.2 (List.mem_map.2 ⟨_, List.getElem_mem hq, rfl⟩)
    exact h2 _ hm (congrArg sk hn)
  · obtain ⟨c, hc, rfl⟩ := List.mem_map.1 (h.perm.mem_iff.1 hx)
    obtain ⟨j, hj, rfl⟩ := List.mem_iff_getElem.1 hc
    have e2 : qs[j].f.name = s := sk_inj e1
    have hj' : j < D.l.length := by rw [← h.len]; exact hj
    have e3 := (isAt_of h.ok.sorted hj').1
    rw [h.get hj, e2, hp] at e3
    subst e3
    rcases fE_shape hv with ⟨q, rfl, hy⟩ | ⟨rfl, hy⟩
    · have e4 : (DataW.lit (.int .i64 (qs[p].q : Int)) : DataW Empty) = .lit (.int .i64 (q : Int)) := congrArg Prod.fst hy
      have e5 : qs[p].q = q := Int.ofNat_inj.1 (Lit.int.inj (DataW.lit.inj e4)).2
      rw [e5]
      exact h1
    · have e4 : (DataW.lit (.int .i64 (qs[p].q : Int)) : DataW Empty) = .nil := congrArg Prod.fst hy
      cases e4
end
end Go.Proofs.Ytmjoaeljfhgojaa
