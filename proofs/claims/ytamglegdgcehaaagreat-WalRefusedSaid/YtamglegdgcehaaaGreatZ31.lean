/-
  Layer 7: the landed disk in memory: a struct, a map of names to files' blocks, each file's cells and bytes, what it was told of failing.
  Layer 7: the landed disk: isNone, check, mayBeName, find, names.
  Layer 7: the landed disk: how many bytes are stored.
  Layer 7: the landed disk: names; a file's fall.
  Layer 7: the landed disk: the power goes.
-/
import Derived.Test.YtamglegdgcehaaaGreatZ09
import Derived.Maps.RangeWalk
import Derived.Test.YtamglegdgcehaaaGreatIter
import Derived.WalkSpells
import Derived.Test.YtamglegdgcehaaaGreatZ01
import Derived.Sort.KeysCollected
set_option linter.unusedVariables false
namespace Go.Proofs.YtamglegdgcehaaaGreat
open Go.RowKit Go.Maps

theorem lawK : Keyed Tryz.prog 9 := string_keyed Tryz.underlying9
/-- How a map's element reads: as a file's block. -/
def fE : Value → Option (DataW Empty × List MemPlace)
  | .pointer (some ⟨q, 0, none⟩) => some (.lit (.int .i64 (q : Int)), [])
  | .pointer none => some (.nil, [])
  | _ => none
theorem fE_pt (q : Nat) : fE (pt q) = some (.lit (.int .i64 (q : Int)), []) := rfl
theorem fE_shape {v : Value} {y : DataW Empty × List MemPlace} (h : fE v = some y) : (∃ q : Nat, v = pt q ∧ y = (.lit (.int .i64 (q : Int)), [])) ∨ (v = .pointer none ∧ y = (.nil, [])) := by
  unfold fE at h
  split at h
  · rename_i q
    injection h with h
    exact .inl ⟨q, rfl, h.symm⟩
  · injection h with h
    exact .inr ⟨rfl, h.symm⟩
  · cases h

/-- A file: what it is, its block, its bytes. -/
structure Cf where
  f : Fl
  q : Nat
  v : Value
def sk (s : ByteArray) : Lit := .string s.data.toList
theorem sk_inj {s t : ByteArray} (h : sk s = sk t) : s = t := by
  unfold sk at h
  injection h with h
  refine ByteArray.ext (Array.toList_inj.1 h)
def Cf.ent (c : Cf) : Lit × DataW Empty := (sk c.f.name, .lit (.int .i64 (c.q : Int)))
/-- Its blocks. -/
def Cf.B (c : Cf) (k : Nat) : Prop := k = c.q ∨ c.v.ownBlock = some k
structure RCf (V : World) (F : Nat → Prop) (c : Cf) : Prop where
  obj : V.heap[c.q]? = some (.cells #[c.v, .int .i64 (c.f.mark : Int)] 100 (0, 0))
  own : Own V 0 c.v c.f.bs
  sub : ∀ k, c.B k → F k
/-- What the disk was told of failing. -/
def RFail (V : World) (D : Dk) (F : Nat → Prop) (fp : Option Addr) : Prop :=
  (D.left < 0 ∧ fp = none) ∨ (0 ≤ D.left ∧ ∃ p kv, fp = some ⟨p, 0, none⟩ ∧ V.heap[p]? = some (.cells #[.int .i64 D.left, kv] 123 (0, 0)) ∧ OwnI V 0 kv (D.keep.take 20) ∧ F p ∧ ∀ k, kv.ownBlock = some k → F k)
structure RC (V : World) (g : Nat) (D : Dk) (F : Nat → Prop) (mb : Nat) (fp : Option Addr) (es : List (Lit × DataW Empty)) (qs : List Cf) : Prop where
  obj : V.heap[g]? = some (.cells #[.map (some mb), .bool D.dead, .pointer fp] 82 (0, 0))
  eq : qs.map Cf.f = D.l
  map : V.ownsMap Tryz.prog 9 fE mb 20 (.map es)
  perm : es.Perm (qs.map Cf.ent)
  each : ∀ c ∈ qs, RCf V F c
  sep : qs.Pairwise (fun a b => ∀ k, a.B k → ¬ b.B k)
  fail : D.dead = false → RFail V D F fp
  gone : D.dead = true → ∀ f ∈ D.l, f.mark = f.bs.length
  fg : F g
  fm : F mb
  lt : ∀ k, F k → k < V.heap.size
  ok : D.ok
def RCk (V : World) (g : Nat) (D : Dk) (F : Nat → Prop) : Prop := ∃ mb fp es qs, RC V g D F mb fp es qs

theorem ownsMap_onS {V V' : World} {P : Program} {k : TypeId} {b n : Nat} {X : DataW Empty} (h : V.ownsMap P k fE b n X) (hb : V'.heap[b]? = V.heap[b]?) : V'.ownsMap P k fE b n X := by
  obtain ⟨e0, clock, h1, h2⟩ := h
  exact ⟨e0, clock, hb.trans h1, h2⟩
theorem ownsMap_tight {V : World} {P : Program} {k : TypeId} {b n m : Nat} {es : List (Lit × DataW Empty)} (h : V.ownsMap P k fE b n (.map es)) (hm : es.length ≤ m) : V.ownsMap P k fE b m (.map es) := by
  obtain ⟨e0, clock, h1, h2, h3, h4⟩ := h
  refine ⟨e0, clock, h1, h2, ?_, h4⟩
  have e := congrArg Maps.size h4
  simp only [Maps.size, length_sorted, List.length_map, Array.length_toList] at e
  omega
theorem ownsMap_blk {V : World} {P : Program} {k : TypeId} {b n : Nat} {X : DataW Empty} (h : V.ownsMap P k fE b n X) : ∃ e0 clock, V.heap[b]? = some (.map e0 clock) := by
  obtain ⟨e0, clock, h1, _⟩ := h
  exact ⟨e0, clock, h1⟩

section
variable {V V' : World} {g : Nat} {D D' : Dk} {F G : Nat → Prop} {mb : Nat} {fp fp' : Option Addr} {es es' : List (Lit × DataW Empty)} {qs qs' : List Cf} {c : Cf}
theorem RCf.on (h : RCf V F c) (hk : ∀ k, c.B k → V'.heap[k]? = V.heap[k]?) (hG : ∀ k, c.B k → G k) : RCf V' G c := ⟨(hk _ (.inl rfl)).trans h.obj, h.own.onS (fun k e => hk k (.inr e)), hG⟩
theorem RCf.kind (h : RCf V F c) {k : Nat} (hk : c.B k) : ∃ cs t, V.heap[k]? = some (.cells cs t (0, 0)) ∧ (t = 100 ∨ t = 5) := by
  rcases hk with rfl | e
  · exact ⟨_, _, h.obj, .inl rfl⟩
  · rcases h.own.2 with ⟨hv, _⟩ | ⟨q, cap, cur, hv, _, hh, _⟩
    · rw [hv] at e
      cases e
    · rw [hv] at e
      have e' : some q = some k := e
      injection e' with e'
      subst e'
      exact ⟨_, _, hh, .inr rfl⟩
theorem RCf.ne_t (h : RCf V F c) {k : Nat} (hk : c.B k) {cs : Array Value} {t : TypeId} {z : Nat × Nat} {j : Nat} (ho : V.heap[j]? = some (.cells cs t z)) (h1 : t ≠ 100) (h2 : t ≠ 5) : k ≠ j := by
  rintro rfl
  obtain ⟨cs', t', e, ht⟩ := h.kind hk
  rw [e] at ho
  injection ho with ho
  injection ho with _ e2 _
  subst e2
  rcases ht with ht | ht
  · exact h1 ht
  · exact h2 ht
theorem RCf.ne_m (h : RCf V F c) {k : Nat} (hk : c.B k) {e0 : Array MapEntry} {cl j : Nat} (ho : V.heap[j]? = some (.map e0 cl)) : k ≠ j := by
  rintro rfl
  obtain ⟨cs', t', e, ht⟩ := h.kind hk
  rw [e] at ho
  cases ho
theorem RFail.on (h : RFail V D F fp) (hk : ∀ k, F k → (∃ cs t, V.heap[k]? = some (.cells cs t (0, 0)) ∧ (t = 123 ∨ t = 3)) → V'.heap[k]? = V.heap[k]?) (hG : ∀ k, F k → G k) (e1 : D'.left = D.left) (e2 : D'.keep = D.keep) : RFail V' D' G fp := by
  unfold RFail at h ⊢
  rw [e1, e2]
  rcases h with h | ⟨h0, p, kv, rfl, hp, hI, hF, hS⟩
  · exact .inl h
  · refine .inr ⟨h0, p, kv, rfl, (hk p hF ⟨_, _, hp, .inl rfl⟩).trans hp, hI.onS (fun k e => hk k (hS k e) ?_), hG p hF, fun k e => hG k (hS k e)⟩
    rcases hI.2 with ⟨hv, _⟩ | ⟨q, cap, cur, hv, _, hh, _⟩
    · rw [hv] at e
      cases e
    · rw [hv] at e
      have e' : some q = some k := e
      injection e' with e'
      subst e'
      exact ⟨_, _, hh, .inr rfl⟩
theorem RC.on (h : RC V g D F mb fp es qs) (hs : V.heap.size ≤ V'.heap.size) (hk : ∀ k, F k → V'.heap[k]? = V.heap[k]?) : RC V' g D F mb fp es qs :=
  ⟨(hk g h.fg).trans h.obj, h.eq, ownsMap_onS h.map (hk mb h.fm), h.perm, fun c hc => (h.each c hc).on (fun k e => hk k ((h.each c hc).sub k e)) (h.each c hc).sub, h.sep, fun hd => (h.fail hd).on (fun k e _ => hk k e) (fun _ e => e) rfl rfl, h.gone, h.fg, h.fm, fun k e => Nat.lt_of_lt_of_le (h.lt k e) hs, h.ok⟩
theorem RC.below (h : RC V g D F mb fp es qs) (hb : Below V.heap.size V V') : RC V' g D F mb fp es qs := h.on hb.size (fun k e => hb.block k (h.lt k e))
theorem RC.mono (h : RC V g D F mb fp es qs) (hs : ∀ k, F k → G k) (hl : ∀ k, G k → k < V.heap.size) : RC V g D G mb fp es qs :=
  ⟨h.obj, h.eq, h.map, h.perm, fun c hc => (h.each c hc).on (fun _ _ => rfl) (fun k e => hs k ((h.each c hc).sub k e)), h.sep, fun hd => (h.fail hd).on (fun _ _ _ => rfl) hs rfl rfl, h.gone, hs g h.fg, hs mb h.fm, hl, h.ok⟩
theorem RC.ends {w : World} (h : RC V g D F mb fp es qs) {F0 : Nat → Prop} (hF : ∀ k, F k → nF F0 w V k) (hG : Grow F0 w V) (hl : ∀ k, F0 k → k < w.heap.size) : Turns RCk w g F0 D V :=
  ⟨⟨mb, fp, es, qs, h.mono hF (fun k e => by rcases e with e | e; exact Nat.lt_of_lt_of_le (hl k e) hG.size; exact e.2)⟩, hG⟩
theorem RC.len (h : RC V g D F mb fp es qs) : qs.length = D.l.length := by rw [← h.eq, List.length_map]
theorem RC.get (h : RC V g D F mb fp es qs) {i : Nat} (hi : i < qs.length) : D.l[i]'(by rw [← h.len]; exact hi) = qs[i].f := by
  have e := h.eq
  simp only [← e, List.getElem_map]
theorem RC.c0 (h : RC V g D F mb fp es qs) : V.cell? ⟨g, 0, none⟩ = some (.map (some mb)) := cell_of_row V g 0 _ _ (0, 0) h.obj
theorem RC.c1 (h : RC V g D F mb fp es qs) : V.cell? ⟨g, 1, none⟩ = some (.bool D.dead) := cell_of_row V g 1 _ _ (0, 0) h.obj
theorem RC.c2 (h : RC V g D F mb fp es qs) : V.cell? ⟨g, 2, none⟩ = some (.pointer fp) := cell_of_row V g 2 _ _ (0, 0) h.obj
theorem RC.fz (h : RC V g D F mb fp es qs) (i : Nat) : V.frozen? ⟨g, i, none⟩ = false := by
  have h := h.obj
  simp [World.frozen?, h]
theorem RC.apart (h : RC V g D F mb fp es qs) {i j : Nat} (hi : i < qs.length) (hj : j < qs.length) (hne : i ≠ j) {k : Nat} (hk : qs[i].B k) : ¬ qs[j].B k := by
  have hp := List.pairwise_iff_getElem.1 h.sep
  rcases Nat.lt_or_gt_of_ne hne with h1 | h1
  · exact hp i j hi hj h1 k hk
  · exact fun e => hp j i hj hi h1 k e hk
theorem RC.notg (h : RC V g D F mb fp es qs) {c : Cf} (hc : c ∈ qs) {k : Nat} (hk : c.B k) : k ≠ g ∧ k ≠ mb := by
  obtain ⟨e0, cl, hm⟩ := ownsMap_blk h.map
  exact ⟨(h.each c hc).ne_t hk h.obj (by decide) (by decide), (h.each c hc).ne_m hk hm⟩
/-- A file is written: its cells, its bytes. -/
theorem RC.put (h : RC V g D F mb fp es qs) {i : Nat} (hi : i < qs.length) (hq : c.q = qs[i].q) (hn : c.f.name = qs[i].f.name) (hFG : ∀ k, F k → G k) (hGl : ∀ k, G k → k < V'.heap.size)
    (hk : ∀ k, F k → ¬ qs[i].B k → V'.heap[k]? = V.heap[k]?) (hc : RCf V' G c) (hnew : ∀ k, c.v.ownBlock = some k → qs[i].v.ownBlock = some k ∨ ¬ F k)
    (hgone : D.dead = true → c.f.mark = c.f.bs.length) (hok : ({ D with l := D.l.set i c.f } : Dk).ok) : RC V' g { D with l := D.l.set i c.f } G mb fp es (qs.set i c) := by
  have hcB : ∀ k, c.B k → qs[i].B k ∨ ¬ F k := fun k e => by
    rcases e with rfl | e
    · exact .inl (.inl hq)
    · rcases hnew k e with e | e
      · exact .inl (.inr e)
      · exact .inr e
  have hmi : qs[i] ∈ qs := List.getElem_mem hi
  have hgB : ¬ qs[i].B g := fun e => (h.notg hmi e).1 rfl
  have hmB : ¬ qs[i].B mb := fun e => (h.notg hmi e).2 rfl
  refine ⟨(hk g h.fg hgB).trans h.obj, by rw [List.map_set, h.eq], ownsMap_onS h.map (hk mb h.fm hmB), ?_, fun x hx => ?_, ?_, fun hd => (h.fail hd).on (fun k e ⟨cs, t, e1, e2⟩ => hk k e (fun e3 => (h.each _ hmi).ne_t e3 e1 (by rcases e2 with rfl | rfl <;> decide) (by rcases e2 with rfl | rfl <;> decide) rfl)) hFG rfl rfl, fun hd f hf => ?_, hFG g h.fg, hFG mb h.fm, hGl, hok⟩
  · have e : (qs.set i c).map Cf.ent = qs.map Cf.ent := by
      rw [List.map_set]
      have : c.ent = (qs.map Cf.ent)[i]'(by simpa using hi) := by
        rw [List.getElem_map]
        unfold Cf.ent
        rw [hq, hn]
      rw [this]
      exact List.set_getElem_self _
    rw [e]
    exact h.perm
  · rcases List.mem_iff_getElem.1 hx with ⟨j, hj, rfl⟩
    have hj' : j < qs.length := by simpa using hj
    rw [List.getElem_set]
    split
    · exact hc
    · rename_i hne
      have hr := h.each _ (List.getElem_mem hj')
      exact hr.on (fun k e => hk k (hr.sub k e) (fun e2 => h.apart hi hj' hne e2 e)) (fun k e => hFG k (hr.sub k e))
  · refine List.pairwise_iff_getElem.2 (fun a b ha hb hab k e1 e2 => ?_)
    have ha' : a < qs.length := by simpa using ha
    have hb' : b < qs.length := by simpa using hb
    rw [List.getElem_set] at e1 e2
    split at e1
    · rename_i ea
      subst ea
      rw [if_neg (by omega)] at e2
      rcases hcB k e1 with e3 | e3
      · exact h.apart hi hb' (by omega) e3 e2
      · exact e3 ((h.each _ (List.getElem_mem hb')).sub k e2)
    · split at e2
      · rename_i eb
        subst eb
        rcases hcB k e2 with e3 | e3
        · exact h.apart ha' hi (by omega) e1 e3
        · exact e3 ((h.each _ (List.getElem_mem ha')).sub k e1)
      · exact h.apart ha' hb' (by omega) e1 e2
  · rcases List.mem_or_eq_of_mem_set hf with h1 | rfl
    · exact h.gone hd f h1
    · exact hgone hd
/-- The struct's own cells, or what it was told of failing, are written. -/
theorem RC.obj' (h : RC V g D F mb fp es qs) (hl : D'.l = D.l) (hobj : V'.heap[g]? = some (.cells #[.map (some mb), .bool D'.dead, .pointer fp'] 82 (0, 0)))
    (hk : ∀ k, F k → k ≠ g → (∀ cs, V.heap[k]? ≠ some (.cells cs 123 (0, 0))) → V'.heap[k]? = V.heap[k]?) (hFG : ∀ k, F k → G k) (hGl : ∀ k, G k → k < V'.heap.size)
    (hfail : D'.dead = false → RFail V' D' G fp') (hgone : D'.dead = true → ∀ f ∈ D'.l, f.mark = f.bs.length) (hok : D'.ok) : RC V' g D' G mb fp' es qs := by
  obtain ⟨e0, cl, hm⟩ := ownsMap_blk h.map
  have hmg : mb ≠ g := fun e => by rw [e, h.obj] at hm; cases hm
  refine ⟨hobj, by rw [hl]; exact h.eq, ownsMap_onS h.map (hk mb h.fm hmg (fun cs e => by rw [hm] at e; cases e)), h.perm, fun c hc => ?_, h.sep, hfail, hgone, hFG g h.fg, hFG mb h.fm, hGl, hok⟩
  have hr := h.each c hc
  refine hr.on (fun k e => hk k (hr.sub k e) (h.notg hc e).1 (fun cs e2 => ?_)) (fun k e => hFG k (hr.sub k e))
  exact hr.ne_t e e2 (by decide) (by decide) rfl
/-- The map is written; files come, or go. -/
theorem RC.map' (h : RC V g D F mb fp es qs) (hd : D.dead = false) (hmap : V'.ownsMap Tryz.prog 9 fE mb 20 (.map es')) (hk : ∀ k, F k → k ≠ mb → V'.heap[k]? = V.heap[k]?) (hFG : ∀ k, F k → G k) (hGl : ∀ k, G k → k < V'.heap.size)
    (hperm : es'.Perm (qs'.map Cf.ent)) (heach : ∀ c ∈ qs', RCf V' G c) (hsep : qs'.Pairwise (fun a b => ∀ k, a.B k → ¬ b.B k)) {l : List Fl} (hl : qs'.map Cf.f = l) (hok : ({ D with l := l } : Dk).ok) : RC V' g { D with l := l } G mb fp es' qs' := by
  obtain ⟨e0, cl, hm⟩ := ownsMap_blk h.map
  have hmg : g ≠ mb := fun e => by rw [← e, h.obj] at hm; cases hm
  exact ⟨(hk g h.fg hmg).trans h.obj, hl, hmap, hperm, heach, hsep, fun _ => (h.fail hd).on (fun k e ⟨cs, t, e1, _⟩ => hk k e (fun e2 => by rw [e2, hm] at e1; cases e1)) hFG rfl rfl, fun e => absurd e (by rw [hd]; decide), hFG g h.fg, hFG mb h.fm, hGl, hok⟩
end

/-! ### a name is looked up -/
theorem zeroP (w : World) : (zeroValue 96).run Tryz.prog w = .ok (.pointer none) w := by kernel_rfl
open Go.MapKept Go.WideElems in
theorem look_run {V : World} {b n : Nat} {es : List (Lit × DataW Empty)} (h : V.ownsMap Tryz.prog 9 fE b n (.map es)) (s : ByteArray) (ok : Bool) :
    ((Instr.lookup 79 (.map (some b)) (.string s) ok).run Tryz.prog V = .ok (if ok then .tuple #[.pointer none, .bool false] else .pointer none) V ∧ ∀ p ∈ es, p.1 ≠ sk s) ∨
    ∃ v ps p, p ∈ es ∧ p.1 = sk s ∧ fE v = some (p.2, ps) ∧ (Instr.lookup 79 (.map (some b)) (.string s) ok).run Tryz.prog V = .ok (if ok then .tuple #[v, .bool true] else v) V := by
  obtain ⟨e0, clock, hb, Ft, hs, hD⟩ := h
  injection hD with hD
  have hks : ∀ x ∈ e0.toList, IsKey .string x.key := fun x hx => by
    obtain ⟨y, hy⟩ := Ft.reads x hx
    obtain ⟨s', e, _, _⟩ := WideMaps.string_of_keyOf Tryz.underlying9 (rd_key hy)
    rw [e]
    trivial
  have hck : ∀ em : Bool, (Instr.checkKey em 10000 9 (.string s)).run Tryz.prog V = .ok () V := fun em => run_checkKey (P := Tryz.prog) (w := V) Tryz.underlying9 (d := .string) (k := .string s) trivial em 9999
  rcases findNow_spec (d := .string) (k := .string s) trivial e0.toList 0 hks with ⟨h1, h2⟩ | ⟨j, x, h1, h2, h3⟩
  · refine .inl ⟨?_, fun p hp e => ?_⟩
    · have hf := run_findKey (P := Tryz.prog) (w := V) Tryz.underlying9 h1
      simp [Instr.lookup, run_underlying Tryz.underlying79, MapKept.run_getObj_map hb, hck, hf, Result.andThen]
      all_goals cases ok <;> rfl
    · rw [hD] at hp
      obtain ⟨x, hx, rfl⟩ := List.mem_map.1 (mem_sorted.1 hp)
      obtain ⟨y, hy⟩ := Ft.reads x hx
      rw [rg_of hy] at e
      obtain ⟨s', e1, e2, _⟩ := WideMaps.string_of_keyOf Tryz.underlying9 (rd_key hy)
      rw [e2] at e
      have : s' = s := sk_inj e
      subst this
      exact h2 x hx e1
  · have hx : x ∈ e0.toList := List.mem_of_getElem? h2
    obtain ⟨y, hy⟩ := Ft.reads x hx
    obtain ⟨z, hz, hzd⟩ := rd_val hy
    refine .inr ⟨x.val, z.2, y, ?_, ?_, ?_, ?_⟩
    · rw [hD]
      exact mem_sorted.2 (List.mem_map.2 ⟨x, hx, rg_of hy⟩)
    · obtain ⟨s', e1, e2, _⟩ := WideMaps.string_of_keyOf Tryz.underlying9 (rd_key hy)
      have e3 : s = s' := Value.string.inj (h3.symm.trans e1)
      subst e3
      exact e2
    · exact hz.trans (congrArg some (Prod.ext hzd.symm rfl))
    · have hf := run_findKey (P := Tryz.prog) (w := V) Tryz.underlying9 h1
      simp [Instr.lookup, run_underlying Tryz.underlying79, MapKept.run_getObj_map hb, hck, hf, Result.andThen]

theorem isAt_mem {l : List Fl} {s : ByteArray} (h : isAt l s = true) : ∃ hp : pos l s < l.length, l[pos l s].name = s := by
  have hp := isAt_lt h
  rw [isAt_eq rfl hp] at h
  exact ⟨hp, of_decide_eq_true h⟩
theorem isAt_of {l : List Fl} (hs : l.Pairwise (fun a b => nl a.name b.name = true)) {i : Nat} (hi : i < l.length) : pos l l[i].name = i ∧ isAt l l[i].name = true := by
  have hp : pos l l[i].name = i := pos_eq (by omega) (fun j hj => sorted_get hs hj hi) (fun _ => nl_irr _)
  exact ⟨hp, by rw [isAt_eq hp hi]; simp⟩
section
variable {V : World} {g : Nat} {D : Dk} {F : Nat → Prop} {mb : Nat} {fp : Option Addr} {es : List (Lit × DataW Empty)} {qs : List Cf}
/-- The file of a name. -/
theorem RC.at_ (h : RC V g D F mb fp es qs) {s : ByteArray} {p : Nat} (hp : pos D.l s = p) (hi : isAt D.l s = true) : ∃ hq : p < qs.length, qs[p].f.name = s ∧ fileAt D.l s = qs[p].f ∧ ∃ hl : p < D.l.length, D.l[p] = qs[p].f := by
  obtain ⟨hl, hf, hn⟩ := fileAt_eq hp hi
  have hq : p < qs.length := by rw [h.len]; exact hl
  have e := h.get hq
  exact ⟨hq, by rw [← e]; exact hn, by rw [hf, e], hl, e⟩
theorem RC.look_no (h : RC V g D F mb fp es qs) {s : ByteArray} (hi : isAt D.l s = false) (ok : Bool) : (Instr.lookup 79 (.map (some mb)) (.string s) ok).run Tryz.prog V = .ok (if ok then .tuple #[.pointer none, .bool false] else .pointer none) V := by
  rcases look_run h.map s ok with ⟨h1, _⟩ | ⟨v, ps, p, hp, e1, _, _⟩
  · exact h1
  · exfalso
    obtain ⟨c, hc, rfl⟩ := List.mem_map.1 (h.perm.mem_iff.1 hp)
    obtain ⟨j, hj, rfl⟩ := List.mem_iff_getElem.1 hc
    have e2 : qs[j].f.name = s := sk_inj e1
    have hj' : j < D.l.length := by rw [← h.len]; exact hj
    have e3 := (isAt_of h.ok.sorted hj').2
    rw [h.get hj, e2, hi] at e3
    cases e3
theorem RC.look_yes (h : RC V g D F mb fp es qs) {s : ByteArray} {p : Nat} (hp : pos D.l s = p) (hi : isAt D.l s = true) (ok : Bool) (hq : p < qs.length) :
    (Instr.lookup 79 (.map (some mb)) (.string s) ok).run Tryz.prog V = .ok (if ok then .tuple #[pt qs[p].q, .bool true] else pt qs[p].q) V := by
  obtain ⟨_, hn, _⟩ := h.at_ hp hi
  rcases look_run h.map s ok with ⟨_, h2⟩ | ⟨v, ps, x, hx, e1, hv, h1⟩
  · exfalso
    have hm : qs[p].ent ∈ es := h.perm.mem_iff.2 (List.mem_map.2 ⟨_, List.getElem_mem hq, rfl⟩)
    exact h2 _ hm (congrArg sk hn)
  · obtain ⟨c, hc, rfl⟩ := List.mem_map.1 (h.perm.mem_iff.1 hx)
    obtain ⟨j, hj, rfl⟩ := List.mem_iff_getElem.1 hc
    have e2 : qs[j].f.name = s := sk_inj e1
    have hj' : j < D.l.length := by rw [← h.len]; exact hj
    have e3 := (isAt_of h.ok.sorted hj').1
    rw [h.get hj, e2, hp] at e3
    subst e3
    rcases fE_shape hv with ⟨q, rfl, hy⟩ | ⟨rfl, hy⟩
    · have e4 : (DataW.lit (.int .i64 (qs[p].q : Int)) : DataW Empty) = .lit (.int .i64 (q : Int)) := congrArg Prod.fst hy
      have e5 : qs[p].q = q := Int.ofNat_inj.1 (Lit.int.inj (DataW.lit.inj e4)).2
      rw [e5]
      exact h1
    · have e4 : (DataW.lit (.int .i64 (qs[p].q : Int)) : DataW Empty) = .nil := congrArg Prod.fst hy
      cases e4
end
end Go.Proofs.YtamglegdgcehaaaGreat

namespace Go.Proofs.YtamglegdgcehaaaGreat
open Go.RowKit Go.Maps

section
variable (w : World) (g : Nat) (D : Dk) (F : Nat → Prop) (mb : Nat) (fp : Option Addr) (es : List (Lit × DataW Empty)) (qs : List Cf) (h : RC w g D F mb fp es qs)
include h
set_option maxRecDepth 100000 in
theorem gNone : Calls Tryz.prog 84 #[pt g] w fun e w' => e = .returned (.bool false) ∧ w' = w := by
  have c0 := h.c0
  have qT : ∀ (w : World) (r : Option Nat), (binOp .eql 79 (.map r) (.map none)).run Tryz.prog w = .ok (.bool r.isNone) w := fun w r => run_eql_map_nil w _ _ _ r Tryz.underlying79
  clear h
  go_enter Tryz.func84, Tryz.ntmps84
  go_wp2
  go_ret
  exact ⟨rfl, rfl⟩
theorem gCheck : Calls Tryz.prog 51 #[pt g] w fun e w' => e = .returned (.int .i64 (if D.dead then 71 else 0)) ∧ w' = w := by
  have N := gNone w g D F mb fp es qs h
  have c1 := h.c1
  clear h
  cases hd : D.dead with
  | true =>
    rw [hd] at c1
    go_enter Tryz.func51, Tryz.ntmps51
    go_wp2_with (first | (go_at_call 84; refine N.mono ?_; rintro e w1 ⟨rfl, rfl⟩))
    go_ret
    exact ⟨rfl, rfl⟩
  | false =>
    rw [hd] at c1
    go_enter Tryz.func51, Tryz.ntmps51
    go_wp2_with (first | (go_at_call 84; refine N.mono ?_; rintro e w1 ⟨rfl, rfl⟩))
    go_ret
    exact ⟨rfl, rfl⟩
omit h in
theorem gMay (s : ByteArray) : Calls Tryz.prog 52 #[.string s] w fun e w' => e = .returned (.bool (mayN s)) ∧ w' = w := by
  obtain ⟨b, hb⟩ : ∃ b, mayN s = b := ⟨_, rfl⟩
  have hb2 := hb
  unfold mayN at hb2
  rw [hb]
  have HB := Lib.hid hb2
  clear hb hb2
  by_cases h1 : (1 : Int) ≤ (s.size : Int)
  · have e : decide ((s.size : Int) ≤ 40) = b := by rw [← HB.out]; exact decide_eq_decide.2 (by omega)
    go_enter Tryz.func52, Tryz.ntmps52
    go_wp2
    go_ret
    exact ⟨rfl, rfl⟩
  · have e : b = false := by rw [← HB.out]; simp; omega
    subst e
    go_enter Tryz.func52, Tryz.ntmps52
    go_wp2
    go_ret
    exact ⟨rfl, rfl⟩
/-- find, of a name that is not there. -/
theorem gFind_no (s : ByteArray) (hn : nmE D s ≠ 0) : Calls Tryz.prog 56 #[pt g, .string s] w fun e w' => e = .returned (.tuple #[.pointer none, .int .i64 (nmE D s)]) ∧ w' = w := by
  have C := gCheck w g D F mb fp es qs h
  have c0 := h.c0
  cases hd : D.dead with
  | true =>
    have hE : nmE D s = 71 := by unfold nmE; rw [hd]; rfl
    rw [hE]
    rw [hd] at C
    have C' := Lib.hid C
    clear C h hn
    go_enter Tryz.func56, Tryz.ntmps56
    go_wp2_with (first | (go_at_call 51; refine C'.out.mono ?_; rintro e w1 ⟨rfl, rfl⟩))
    go_ret2
    exact ⟨rfl, rfl⟩
  | false =>
    rw [hd] at C
    have C' := Lib.hid C
    cases hi : isAt D.l s with
    | true => exact absurd (by unfold nmE; rw [hd, hi]; rfl) hn
    | false =>
      have hE : nmE D s = 70 := by unfold nmE; rw [hd, hi]; rfl
      rw [hE]
      have hL := h.look_no hi true
      simp only [if_true] at hL
      clear C h hn
      go_enter Tryz.func56, Tryz.ntmps56
      go_wp2_with (first | (go_at_call 51; refine C'.out.mono ?_; rintro e w1 ⟨rfl, rfl⟩))
      go_ret2
      exact ⟨rfl, rfl⟩
/-- .. of one that is. -/
theorem gFind_yes (s : ByteArray) {p : Nat} (hp : pos D.l s = p) (hn : nmE D s = 0) (hq : p < qs.length) : Calls Tryz.prog 56 #[pt g, .string s] w fun e w' => e = .returned (.tuple #[pt qs[p].q, .int .i64 0]) ∧ w' = w := by
  have C := gCheck w g D F mb fp es qs h
  have c0 := h.c0
  have hd : D.dead = false := by
    cases hd : D.dead with
    | true => unfold nmE at hn; rw [hd, if_pos rfl] at hn; exact absurd hn (by decide)
    | false => rfl
  have hi : isAt D.l s = true := by
    cases hi : isAt D.l s with
    | true => rfl
    | false => unfold nmE at hn; rw [hd, hi, if_neg (by decide), if_pos rfl] at hn; exact absurd hn (by decide)
  rw [hd] at C
  have C' := Lib.hid C
  have hL := h.look_yes hp hi true hq
  simp only [if_true] at hL
  obtain ⟨q, hqq⟩ : ∃ q, qs[p].q = q := ⟨_, rfl⟩
  rw [hqq] at hL ⊢
  clear C h hn hqq
  go_enter Tryz.func56, Tryz.ntmps56
  go_wp2_with (first | (go_at_call 51; refine C'.out.mono ?_; rintro e w1 ⟨rfl, rfl⟩))
  go_ret2
  exact ⟨rfl, rfl⟩
end
end Go.Proofs.YtamglegdgcehaaaGreat

namespace Go.Proofs.YtamglegdgcehaaaGreat
open Go.RowKit Go.Maps

/-- The bytes of those that are no longer to come. -/
def sumL (left : Lit → Bool) (qs : List Cf) : Nat := ((qs.filter (fun c => !left (sk c.f.name))).map (fun c => c.f.bs.length)).sum
theorem sumL_none {left : Lit → Bool} : ∀ {qs : List Cf}, (∀ c ∈ qs, left (sk c.f.name) = true) → sumL left qs = 0
  | [], _ => rfl
  | c :: qs, h => by
    have h1 := h c (by simp)
    have h2 := sumL_none (qs := qs) (fun x hx => h x (by simp [hx]))
    unfold sumL at *
    simp [h1, h2]
theorem sumL_le (left : Lit → Bool) : ∀ qs : List Cf, sumL left qs ≤ sum (qs.map Cf.f)
  | [] => Nat.le_refl _
  | c :: qs => by
    have ih := sumL_le left qs
    unfold sumL sum at *
    cases h : left (sk c.f.name)
    · rw [List.filter_cons_of_pos (by simp [h])]
      simp at ih ⊢
      omega
    · rw [List.filter_cons_of_neg (by simp [h])]
      simp at ih ⊢
      omega
theorem sumL_all {left : Lit → Bool} (h : ∀ kl, left kl = false) (qs : List Cf) : sumL left qs = sum (qs.map Cf.f) := by
  unfold sumL sum
  rw [List.filter_eq_self.2 (fun c _ => by rw [h]; rfl), List.map_map]
  rfl
theorem sumL_same {left : Lit → Bool} {kl : Lit} : ∀ {qs : List Cf}, (∀ c ∈ qs, sk c.f.name ≠ kl) → sumL (fun z => left z && !z.sameKey kl) qs = sumL left qs
  | [], _ => rfl
  | c :: qs, h => by
    have h1 := Maps.sameKey_ne (h c (by simp))
    have h2 := sumL_same (left := left) (kl := kl) (qs := qs) (fun x hx => h x (by simp [hx]))
    unfold sumL at *
    cases hl : left (sk c.f.name) <;> simp [hl, h1] at h2 ⊢ <;> simp [h2]
theorem sumL_step {left : Lit → Bool} : ∀ {qs : List Cf} {j : Nat} (hj : j < qs.length), qs.Pairwise (fun a b => a.f.name ≠ b.f.name) → left (sk qs[j].f.name) = true →
    sumL (fun z => left z && !z.sameKey (sk qs[j].f.name)) qs = sumL left qs + qs[j].f.bs.length
  | c :: qs, 0, _, hp, hl => by
    obtain ⟨h1, h2⟩ := List.pairwise_cons.1 hp
    have e := sumL_same (left := left) (kl := sk c.f.name) (qs := qs) (fun x hx e => h1 x hx (sk_inj e).symm)
    have hs : (sk c.f.name).sameKey (sk c.f.name) = true := WideAt.sameKey_self trivial
    have hl' : left (sk c.f.name) = true := hl
    unfold sumL at *
    simp only [List.getElem_cons_zero]
    rw [List.filter_cons_of_pos (by simp [hs]), List.filter_cons_of_neg (by simp [hl']), List.map_cons, List.sum_cons, e]
    omega
  | c :: qs, j + 1, hj, hp, hl => by
    obtain ⟨h1, h2⟩ := List.pairwise_cons.1 hp
    have hj' : j < qs.length := by simpa using hj
    have ih := sumL_step hj' h2 hl
    have hs : (sk c.f.name).sameKey (sk qs[j].f.name) = false := Maps.sameKey_ne (fun e => h1 _ (List.getElem_mem hj') (sk_inj e))
    unfold sumL at *
    simp only [List.getElem_cons_succ]
    cases hl' : left (sk c.f.name)
    · rw [List.filter_cons_of_pos (by simp [hl']), List.filter_cons_of_pos (by simp [hl']), List.map_cons, List.sum_cons, List.map_cons, List.sum_cons, ih]
      omega
    · rw [List.filter_cons_of_neg (by simp [hl', hs]), List.filter_cons_of_neg (by simp [hl']), ih]
section
variable {w : World} {g : Nat} {D : Dk} {F : Nat → Prop} {mb : Nat} {fp : Option Addr} {es : List (Lit × DataW Empty)} {qs : List Cf}
theorem RC.names_ne (h : RC w g D F mb fp es qs) : qs.Pairwise (fun a b => a.f.name ≠ b.f.name) := by
  have h1 := h.ok.sorted
  rw [← h.eq] at h1
  exact (List.pairwise_map.1 h1).imp (fun hh => nl_ne hh)
/-- What the map says at a key is a file's block. -/
theorem RC.entry (h : RC w g D F mb fp es qs) {kl : Lit} {y : DataW Empty} (hat : ∀ zd, (DataW.map es).atKey kl zd = y) : ∃ j, ∃ hj : j < qs.length, kl = sk qs[j].f.name ∧ y = .lit (.int .i64 (qs[j].q : Int)) := by
  have hh := Maps.has_true_of_atKey hat
  obtain ⟨p, hp, hpk⟩ := List.any_eq_true.1 hh
  have e1 := WideAt.sameKey_eq hpk
  obtain ⟨c, hc, hce⟩ := List.mem_map.1 (h.perm.mem_iff.1 hp)
  obtain ⟨j, hj, rfl⟩ := List.mem_iff_getElem.1 hc
  obtain ⟨es', e, hap, hkk⟩ := h.map.entries lawK
  injection e with e
  subst e
  have e2 := WideAt.atKey_mem (entries := es) (k := p.1) (d := p.2) .nil (hkk p hp) hap hp
  rw [e1, hat] at e2
  refine ⟨j, hj, ?_, ?_⟩
  · rw [← e1, ← hce]
    rfl
  · rw [e2, ← hce]
    rfl
/-- A file's cells and bytes. -/
theorem RC.file (h : RC w g D F mb fp es qs) {j : Nat} (hj : j < qs.length) : ∃ A c, qs[j].v = .slice A qs[j].f.bs.length c ∧ w.cell? ⟨qs[j].q, 0, none⟩ = some (.slice A qs[j].f.bs.length c) ∧ w.cell? ⟨qs[j].q, 1, none⟩ = some (.int .i64 (qs[j].f.mark : Int)) ∧ At w A qs[j].f.bs.length qs[j].f.bs ∧ qs[j].f.bs.length ≤ c ∧ c ≤ 9223372036854775807 ∧ (A = none → c = 0) := by
  have hr := h.each _ (List.getElem_mem hj)
  obtain ⟨A, c, hv, h1, h2, h3, h4⟩ := hr.own.form
  refine ⟨A, c, hv, ?_, ?_, h1, h2, h3, h4⟩
  · rw [← hv]
    exact cell_of_row w _ 0 _ _ (0, 0) hr.obj
  · exact cell_of_row w _ 1 _ _ (0, 0) hr.obj
end
set_option maxRecDepth 100000 in
set_option maxHeartbeats 4000000 in
theorem gStored (w : World) (g : Nat) (D : Dk) (F : Nat → Prop) (mb : Nat) (fp : Option Addr) (es : List (Lit × DataW Empty)) (qs : List Cf) (h : RC w g D F mb fp es qs) :
    Calls Tryz.prog 53 #[pt g] w fun e w' => e = .returned (.int .i64 (sum D.l : Nat)) ∧ Below w.heap.size w w' := by
  have c0 := h.c0
  have hown := h.map
  have hgl := h.lt g h.fg
  have H := Lib.hid h
  have hsum := h.ok.sum
  clear h
  go_enter Tryz.func53, Tryz.ntmps53
  go_wp2_with (first
    | (at_range; refine wpList_range_own _ rfl _ 79 rfl 9 96 lawK Tryz.underlying79 _ mb 20 _ rfl hown ?_; intro w0 hrg0 hg0 hs0))
  go_frame
  go_loopw [3] (fun nv wr => ∃ (left : Lit → Bool) (cnt m : Nat), wr.ranges Tryz.prog 9 fE mb w.heap.size 20 (.map es) left cnt ∧ Below w.heap.size w wr ∧ nv = .int .i64 m ∧ m = sumL left qs)
    (fun _ wr => wr.rangeLeft mb w.heap.size)
  case atStart =>
    refine ⟨_, _, 0, hrg0, ⟨hg0.os, hg0.tape, hg0.output, hg0.size, fun k hk => hg0.block k hk (by simp)⟩, rfl, ?_⟩
    refine (sumL_none (fun c hc => ?_)).symm
    exact List.any_eq_true.2 ⟨c.ent, H.out.perm.mem_iff.2 (List.mem_map.2 ⟨c, hc, rfl⟩), WideAt.sameKey_self trivial⟩
  case round =>
    obtain ⟨left, cnt, m, hrg, hbl, rfl, hm⟩ := hrel
    have HM := Lib.hid hm
    clear hm
    go_wp2_with (first
      | (at_next; refine wpList_next_ranges _ rfl _ rfl 9 lawK fE Value.string Value.pointer (fun key kl hk => by obtain ⟨s, e, _⟩ := WideMaps.string_of_keyOf Tryz.underlying9 hk; exact ⟨s, e⟩) (fun v y hv => by rcases fE_shape hv with ⟨q, e, _⟩ | ⟨e, _⟩ <;> exact ⟨_, e⟩) mb w.heap.size 20 _ _ _ rfl hrg ?_ ?_))
    · intro _ hl0
      have e : (m : Int) = (sum D.l : Nat) := by rw [HM.out, sumL_all hl0, H.out.eq]
      go_wp2
      go_ret
      exact ⟨by rw [e]; rfl, hbl⟩
    · intro x c kl y yp w1 cnt1 hkx hlk hRv hat hrg1 hlt hg1 hs1 hen
      obtain ⟨j, hj, rfl, hy⟩ := H.out.entry hat
      have hc : c = some ⟨qs[j].q, 0, none⟩ := by
        rcases fE_shape hRv with ⟨q, e, e2⟩ | ⟨e, e2⟩
        · have e3 : (DataW.lit (.int .i64 (qs[j].q : Int)) : DataW Empty) = .lit (.int .i64 (q : Int)) := hy.symm.trans (congrArg Prod.fst e2)
          have e4 : qs[j].q = q := Int.ofNat_inj.1 (Lit.int.inj (DataW.lit.inj e3)).2
          rw [e4]
          injection e
        · have e3 : (DataW.lit (.int .i64 (qs[j].q : Int)) : DataW Empty) = .nil := hy.symm.trans (congrArg Prod.fst e2)
          cases e3
      subst hc
      have hbl1 : Below w.heap.size w w1 := ⟨hg1.os.trans hbl.os, hg1.tape.trans hbl.tape, hg1.output.trans hbl.output, by rw [hs1]; exact hbl.size, fun k hk => (hg1.block k (by have := hbl.size; omega) (by intro e; injection e with e; omega)).trans (hbl.block k hk)⟩
      obtain ⟨A, cc, _, hd0, _, _, _⟩ := (H.out.below hbl1).file hj
      have hst := sumL_step (left := left) hj H.out.names_ne hlk
      have hle : m + qs[j].f.bs.length ≤ 4194304 := by
        have h1 := sumL_le (fun z => left z && !z.sameKey (sk qs[j].f.name)) qs
        rw [H.out.eq, hst, ← HM.out] at h1
        omega
      have hw : IntKind.i64.wrap ((m : Int) + (qs[j].f.bs.length : Int)) = (m : Int) + (qs[j].f.bs.length : Int) := IntWalk.i64_in _ (by omega)
      have HS := Lib.hid (show m + qs[j].f.bs.length = sumL (fun z => left z && !z.sameKey (sk qs[j].f.name)) qs by rw [hst, HM.out])
      generalize hL : qs[j].f.bs.length = L at *
      generalize hQ : qs[j].q = q at *
      clear hst hat hRv hy
      go_wp2_with fail
      go_roundw
      case rel => exact ⟨_, cnt1, m + L, hrg1, hbl1, by go_num, HS.out⟩
      case measure => rw [hrg1.left_eq, hrg.left_eq]; exact hlt
end Go.Proofs.YtamglegdgcehaaaGreat
set_option linter.unusedVariables false
namespace Go.Proofs.YtamglegdgcehaaaGreat
open Go.RowKit Go.Maps

/-! ### the names, in order -/
theorem bl_lt : ∀ {x y : List UInt8}, Op.bytesLess x y = true → x < y
  | [], [], h => by simp [Op.bytesLess] at h
  | [], _ :: _, _ => List.nil_lt_cons _ _
  | _ :: _, [], h => by simp [Op.bytesLess] at h
  | a :: x, b :: y, h => by
    simp only [Op.bytesLess, Bool.or_eq_true, decide_eq_true_eq, Bool.and_eq_true, beq_iff_eq] at h
    rw [List.cons_lt_cons_iff]
    rcases h with h | ⟨h1, h2⟩
    · exact .inl h
    · exact .inr ⟨h1, bl_lt h2⟩
theorem names_sorted {l : List Fl} (hs : l.Pairwise (fun a b => nl a.name b.name = true)) {ss : List (List UInt8)} (h : ss.Perm (l.map (fun f => f.name.data.toList))) :
    (ss.mergeSort (fun x y => decide (x ≤ y))).map encStr = (l.map Fl.name).map Value.string := by
  have e1 : ss.mergeSort (fun x y => decide (x ≤ y)) = (l.map (fun f => f.name.data.toList)).mergeSort (fun x y => decide (x ≤ y)) := mergeSort_of_perm h
  have e2 : (l.map (fun f => f.name.data.toList)).mergeSort (fun x y => decide (x ≤ y)) = l.map (fun f => f.name.data.toList) := by
    refine List.mergeSort_of_pairwise (List.pairwise_map.2 (hs.imp (fun {a b} hh => ?_)))
    unfold nl at hh
    rw [Lib.toList_data, Lib.toList_data] at hh
    exact decide_eq_true (List.le_of_lt (bl_lt hh))
  rw [e1, e2, List.map_map, List.map_map]
  refine List.map_congr_left (fun f _ => ?_)
  simp [encStr]
section
variable {w : World} {g : Nat} {D : Dk} {F : Nat → Prop} {mb : Nat} {fp : Option Addr} {es : List (Lit × DataW Empty)} {qs : List Cf}
theorem RC.keys (h : RC w g D F mb fp es qs) : (strKeys (DataW.map es)).Perm (D.l.map (fun f => f.name.data.toList)) := by
  have e : D.l.map (fun f => f.name.data.toList) = (qs.map Cf.ent).map (fun p => strOf p.1) := by
    rw [← h.eq, List.map_map, List.map_map]
    rfl
  rw [e]
  exact h.perm.map _
theorem RC.size_ (h : RC w g D F mb fp es qs) : Maps.size (DataW.map es) ≤ 20 := by
  have h1 := h.perm.length_eq
  rw [List.length_map, h.len] at h1
  have := h.ok.few
  show es.length ≤ 20
  omega
end
set_option maxHeartbeats 1000000 in
theorem gNames (w : World) (g : Nat) (D : Dk) (F : Nat → Prop) (mb : Nat) (fp : Option Addr) (es : List (Lit × DataW Empty)) (qs : List Cf) (h : RC w g D F mb fp es qs) :
    Calls Tryz.prog 137 #[pt g] w fun e w' => ∃ A c, e = .returned (.slice A D.l.length c) ∧ TAt w' A D.l.length (D.l.map Fl.name) ∧ D.l.length ≤ c ∧ c ≤ 9223372036854775807 ∧ InF (fun k => w.heap.size ≤ k ∧ k < w'.heap.size) A ∧ Below w.heap.size w w' := by
  have c0 := h.c0
  have hown := h.map
  have hmax : Maps.size (DataW.map es) ≤ maxLen := Nat.le_trans h.size_ (by decide)
  have hbytes : Maps.size (DataW.map es) * 16 ≤ 140737488355328 := by have := h.size_; omega
  have hkeys := h.keys
  have hsorted := h.ok.sorted
  clear h
  refine (callsIn_wide (n := 6)).1 ?_
  have hfK : Fence.wide.fn 167 := trivial
  have hfS : Fence.wide.fn 166 := trivial
  refine callsIn_of_wp Tryz.func137 rfl trivial ?_ rfl
  simp only [Tryz.ntmps137, List.size_toArray, List.length_cons, List.length_nil, Nat.reduceAdd, Nat.reduceSub, Array.replicate_succ, Array.replicate_zero, List.push_toArray, List.append_toArray, List.nil_append, List.cons_append]
  gi_wp2_with (first
    | (gi_at_call 167; refine (Tryz.maps_Keys_167 _ _).mono ?_; rintro e w' ⟨rfl, rfl⟩)
    | (gi_at_call 166; refine (Tryz.slices_Sorted_keys_166_167 mb 20 _ fE w hown hmax hbytes).mono ?_; rintro e w' ⟨v, ss, rfl, hS, hrow, hnil, hb⟩))
  go_ret
  have hp : ss.Perm (D.l.map (fun f => f.name.data.toList)) := hS.trans hkeys
  have hl : ss.length = D.l.length := by rw [hp.length_eq, List.length_map]
  rw [names_sorted hsorted hp, hl] at hrow
  have hrow' := rowBase hrow (show w.heap.size ≤ _ by simp)
  obtain ⟨A, c, rfl, h1, h2, h3, h4⟩ := rowTexts (by rw [List.length_map]) hrow'
  exact ⟨A, c, rfl, h1, h2, h3, h4, ((Below.refl _ w).alloc (Nat.le_refl _) _).trans (hb.mono (by simp))⟩

/-! ### a file's fall -/
set_option maxHeartbeats 400000 in
theorem gRem (i n : Int) (w : World) (hn : 1 ≤ n) (hn' : n ≤ 9223372036854775807) :
    Calls Tryz.prog 168 #[.int .i64 i, .int .i64 n] w fun e w' => e = .returned (.int .i64 (i % n)) ∧ w' = w := by
  have h := emod_tmod i n hn
  have h1 := Int.emod_nonneg i (b := n) (by omega)
  have h2 := Int.emod_lt_of_pos i (b := n) (by omega)
  by_cases hp : 0 ≤ i.tmod n
  · rw [if_pos hp] at h
    have H := Lib.hid h
    have hp' : ¬ i.tmod n < 0 := by omega
    clear h h1 h2
    go_enter Tryz.func168, Tryz.ntmps168
    go_wp2
    go_ret
    exact ⟨by rw [H.out]; rfl, rfl⟩
  · rw [if_neg hp] at h
    have h3 : i.tmod n + n ≤ 9223372036854775807 := by omega
    have h4 : 0 ≤ i.tmod n + n := by omega
    have hp' : i.tmod n < 0 := by omega
    have H := Lib.hid h
    clear h h1 h2
    go_enter Tryz.func168, Tryz.ntmps168
    go_wp2
    go_ret
    exact ⟨by rw [H.out]; rfl, rfl⟩

set_option maxRecDepth 100000 in
set_option maxHeartbeats 4000000 in
theorem gLose (w : World) (q : Nat) (A : Option Addr) (L cap mk : Nat) (count : Int) (c0 : w.cell? ⟨q, 0, none⟩ = some (.slice A L cap)) (c1 : w.cell? ⟨q, 1, none⟩ = some (.int .i64 (mk : Int))) (z : ∀ i, w.frozen? ⟨q, i, none⟩ = false)
    (hm : mk ≤ L) (hL : L ≤ 4194304) (hc : L ≤ cap) :
    Calls Tryz.prog 138 #[pt q, .int .i64 count] w fun e w' => e = .returned (.tuple #[]) ∧ ∃ n, w' = ((w.setCell ⟨q, 1, none⟩ (.int .i64 ((mk + brn count (L - mk + 1) : Nat) : Int))).setCell ⟨q, 0, none⟩ (.slice A (mk + brn count (L - mk + 1)) cap)).drewN n := by
  have hb : (brn count (L - mk + 1) : Int) = count % ((L : Int) - (mk : Int) + 1) := by
    unfold brn
    rw [if_neg (by omega)]
    have h1 := Int.emod_nonneg count (b := ((L - mk + 1 : Nat) : Int)) (by omega)
    have e : ((L - mk + 1 : Nat) : Int) = (L : Int) - (mk : Int) + 1 := by omega
    rw [e] at h1 ⊢
    omega
  have hlt := brn_lt count (L - mk + 1) (by omega)
  obtain ⟨k, hk⟩ : ∃ k, brn count (L - mk + 1) = k := ⟨_, rfl⟩
  rw [hk] at hb hlt ⊢
  have RM := Lib.hid (gRem count ((L : Int) - (mk : Int) + 1))
  rw [← hb] at RM
  have HK := Lib.hid hk
  clear hb hk
  have z0 := z 0
  have z1 := z 1
  have hw1 : IntKind.i64.wrap ((L : Int) - (mk : Int)) = (L : Int) - (mk : Int) := IntWalk.i64_in _ (by omega)
  have hw2 : IntKind.i64.wrap ((L : Int) - (mk : Int) + 1) = (L : Int) - (mk : Int) + 1 := IntWalk.i64_in _ (by omega)
  have hw3 : IntKind.i64.wrap ((mk : Int) + (k : Int)) = (mk : Int) + (k : Int) := IntWalk.i64_in _ (by omega)
  have hsl : ∀ V : World, (Instr.slice 40 (.slice A L cap) none (some (.int .i64 ((mk : Int) + (k : Int)))) none).run Tryz.prog V = .ok (.slice A (mk + k) cap) V := fun V => by
    rw [slb_h A L cap .i64 ((mk : Int) + (k : Int)) V (by omega) (by omega)]
    have e : ((mk : Int) + (k : Int)).toNat = mk + k := by omega
    rw [e]
  have e0 := set_off w (g := q) (i := 1) (j := 0) (.int .i64 ((mk : Int) + (k : Int))) (by decide)
  rw [c0] at e0
  go_enter Tryz.func138, Tryz.ntmps138
  go_wp2_with fail
  go_quiet (fail)
  go_wp2_with fail
  go_region_with (first
    | (go_at_call 168; refine (RM.out _ (by omega) (by omega)).mono ?_; rintro e w1 ⟨rfl, rfl⟩))
  all_goals
    go_wp2_with fail
    go_region_with (fail)
    all_goals
      go_wp2_with fail
      first | go_end0 | (refine bodyPost_ret (results_none rfl _ _ _) rfl ?_)
      exact ⟨rfl, nq + 2, rfl⟩
end Go.Proofs.YtamglegdgcehaaaGreat
set_option linter.unusedVariables false
namespace Go.Proofs.YtamglegdgcehaaaGreat
open Go.RowKit Go.Maps

theorem Own.take {V : World} {B : Nat} {A : Option Addr} {L cap : Nat} {bs : List UInt8} (h : Own V B (.slice A L cap) bs) {n : Nat} (hn : n ≤ L) : Own V B (.slice A n cap) (bs.take n) := by
  have hl := h.len
  have hn' : (bs.take n).length = n := by rw [List.length_take]; omega
  unfold Own at h ⊢
  rw [hn']
  refine ⟨by simp; omega, ?_⟩
  rcases h.2 with ⟨e, h0⟩ | ⟨q, c, cur, e, hq, hh, h1, h2, h3, h4⟩
  · injection e with e1 e2 e3
    subst e1 e3
    exact .inl ⟨by rw [show n = 0 by omega], by omega⟩
  · injection e with e1 e2 e3
    subst e1 e3
    refine .inr ⟨q, cap, cur, rfl, hq, hh, by omega, h2, h3, ?_⟩
    rw [List.map_take, ← h4, List.take_take]
    congr 1
    omega
theorem brn_zero (n : Nat) : brn 0 n = 0 := by unfold brn; split <;> simp
theorem fall_gone {keep : List Int} {l : List Fl} (h : ∀ f ∈ l, f.mark = f.bs.length) : fall keep l = l := by
  unfold fall
  apply List.ext_getElem
  · simp
  · intro i h1 h2
    have hm := h _ (List.getElem_mem h2)
    simp only [List.getElem_mapIdx]
    obtain ⟨nm, bs, mk, e⟩ : ∃ a b c, l[i] = ⟨a, b, c⟩ := ⟨_, _, _, rfl⟩
    rw [e] at hm ⊢
    simp only at hm
    subst hm
    unfold fallF
    have hb : ∀ z, brn z 1 = 0 := fun z => by
      have := brn_lt z 1 (by omega)
      omega
    simp [hb]
section
variable {V V' : World} {g : Nat} {D : Dk} {F : Nat → Prop} {mb : Nat} {fp : Option Addr} {es : List (Lit × DataW Empty)} {qs : List Cf}
theorem fallTo_done {keep : List Int} {i : Nat} {l : List Fl} {j : Nat} (hj : j < l.length) (hji : j < i) : (fallTo keep i l)[j]'(by rw [fallTo_len]; exact hj) = fallF keep j l[j] := by simp [fallTo, hji]
theorem fallF_full {keep : List Int} {j : Nat} {f : Fl} (hm : f.mark ≤ f.bs.length) : (fallF keep j f).mark = (fallF keep j f).bs.length ∧ (fallF keep j f).bs.length ≤ f.bs.length := by
  unfold fallF
  simp only [List.length_take]
  split
  · have := brn_lt (keep.getD j 0) (f.bs.length - f.mark + 1) (by omega)
    omega
  · omega
theorem fallF_name {keep : List Int} {j : Nat} {f : Fl} : (fallF keep j f).name = f.name := rfl
/-- A file has fallen. -/
theorem RC.fell {keep : List Int} {i : Nat} (h : RC V g { D with l := fallTo keep i D.l } F mb fp es qs) (hi : i < qs.length) {A : Option Addr} {L cap mk k : Nat} (hv : qs[i].v = .slice A L cap) (hL : qs[i].f.bs.length = L) (hmk : qs[i].f.mark = mk)
    (hk : k = if i < keep.length then brn (keep.getD i 0) (L - mk + 1) else 0) (hm : mk ≤ L) (n : Nat) {f0 : Fl} (hf0 : D.l[i]? = some f0) (hof : qs[i].f = f0) :
    RC (((V.setCell ⟨qs[i].q, 1, none⟩ (.int .i64 ((mk + k : Nat) : Int))).setCell ⟨qs[i].q, 0, none⟩ (.slice A (mk + k) cap)).drewN n) g { D with l := fallTo keep (i + 1) D.l } F mb fp es (qs.set i ⟨fallF keep i qs[i].f, qs[i].q, .slice A (mk + k) cap⟩) := by
  have hlt : mk + k ≤ L := by
    rw [hk]
    split
    · have := brn_lt (keep.getD i 0) (L - mk + 1) (by omega)
      omega
    · omega
  have hfe : fallF keep i qs[i].f = ⟨qs[i].f.name, qs[i].f.bs.take (mk + k), mk + k⟩ := by
    unfold fallF
    simp only [hL, hmk, ← hk]
  have hil : i < D.l.length := (List.getElem?_eq_some_iff.1 hf0).1
  have hfl : D.l[i] = f0 := (List.getElem?_eq_some_iff.1 hf0).2
  have hr := h.each _ (List.getElem_mem hi)
  have hk' : ∀ x, x ≠ qs[i].q → (((V.setCell ⟨qs[i].q, 1, none⟩ (.int .i64 ((mk + k : Nat) : Int))).setCell ⟨qs[i].q, 0, none⟩ (.slice A (mk + k) cap)).drewN n).heap[x]? = V.heap[x]? := fun x hx => by
    show ((V.setCell ⟨qs[i].q, 1, none⟩ (.int .i64 ((mk + k : Nat) : Int))).setCell ⟨qs[i].q, 0, none⟩ (.slice A (mk + k) cap)).heap[x]? = _
    rw [set_blk _ _ _ _ hx, set_blk _ _ _ _ hx]
  have hsz : (((V.setCell ⟨qs[i].q, 1, none⟩ (.int .i64 ((mk + k : Nat) : Int))).setCell ⟨qs[i].q, 0, none⟩ (.slice A (mk + k) cap)).drewN n).heap.size = V.heap.size := by
    show ((V.setCell ⟨qs[i].q, 1, none⟩ (.int .i64 ((mk + k : Nat) : Int))).setCell ⟨qs[i].q, 0, none⟩ (.slice A (mk + k) cap)).heap.size = _
    rw [set_size, set_size]
  have hownq : ∀ x, qs[i].v.ownBlock = some x → x ≠ qs[i].q := fun x e ex => by
    rcases hr.own.2 with ⟨e2, _⟩ | ⟨y, c2, cur, e2, _, hh, _⟩
    · rw [e2] at e
      cases e
    · rw [e2] at e
      have e' : some y = some x := e
      injection e' with e'
      subst e'
      rw [ex, hr.obj] at hh
      injection hh with hh
      injection hh with _ hh _
      exact absurd hh (by decide)
  have hob : ∀ x, (Value.slice A (mk + k) cap).ownBlock = some x → qs[i].v.ownBlock = some x := fun x e => by
    rw [hv]
    cases A with
    | none => cases e
    | some a => exact e
  have hobj : (((V.setCell ⟨qs[i].q, 1, none⟩ (.int .i64 ((mk + k : Nat) : Int))).setCell ⟨qs[i].q, 0, none⟩ (.slice A (mk + k) cap)).drewN n).heap[qs[i].q]? = some (.cells #[.slice A (mk + k) cap, .int .i64 ((mk + k : Nat) : Int)] 100 (0, 0)) := by
    show ((V.setCell ⟨qs[i].q, 1, none⟩ (.int .i64 ((mk + k : Nat) : Int))).setCell ⟨qs[i].q, 0, none⟩ (.slice A (mk + k) cap)).heap[qs[i].q]? = _
    have ho := hr.obj
    simp [World.setCell, Array.getElem?_modify, ho]
  have hown := hr.own
  rw [hv] at hown
  have hown2 := hown.take hlt
  have hlen : D.l.length = qs.length := by rw [h.len]; simp [fallTo_len]
  have h2 := h.put (V' := ((V.setCell ⟨qs[i].q, 1, none⟩ (.int .i64 ((mk + k : Nat) : Int))).setCell ⟨qs[i].q, 0, none⟩ (.slice A (mk + k) cap)).drewN n) (G := F) hi (c := ⟨fallF keep i qs[i].f, qs[i].q, .slice A (mk + k) cap⟩) rfl rfl (fun _ e => e) (fun x e => by rw [hsz]; exact h.lt x e)
    (fun x _ hx => hk' x (fun e => hx (.inl e)))
    ⟨by rw [hfe]; exact hobj, by rw [hfe]; exact hown2.onS (fun x e => hk' x (hownq x (hob x e))), fun x e => hr.sub x (by rcases e with e | e; exact .inl e; exact .inr (hob x e))⟩
    (fun x e => .inl (hob x e))
    (fun _ => (fallF_full (by rw [hL, hmk]; exact hm)).1)
    (ok_set h.ok (by rw [← h.len]; exact hi) (by rw [h.get hi]; rfl) (by rw [(fallF_full (by rw [hL, hmk]; exact hm)).1]; exact Nat.le_refl _) (by
      have h1 := (fallF_full (keep := keep) (j := i) (f := qs[i].f) (by rw [hL, hmk]; exact hm)).2
      have h3 := h.ok.sum
      rw [h.get hi]
      show _ + (fallF keep i qs[i].f).bs.length ≤ 4194304 + qs[i].f.bs.length
      omega))
  have e : (fallTo keep i D.l).set i (fallF keep i qs[i].f) = fallTo keep (i + 1) D.l := by
    rw [fallTo_succ keep i D.l hil, hfl, hof]
  rw [show ({ ({ D with l := fallTo keep i D.l } : Dk) with l := ({ D with l := fallTo keep i D.l } : Dk).l.set i (fallF keep i qs[i].f) } : Dk) = { D with l := fallTo keep (i + 1) D.l } by simp only [e]] at h2
  exact h2
end

set_option maxRecDepth 100000 in
set_option maxHeartbeats 8000000 in
theorem gFall (w : World) (g : Nat) (D : Dk) (F : Nat → Prop) (mb : Nat) (fp : Option Addr) (es : List (Lit × DataW Empty)) (qs : List Cf) (h : RC w g D F mb fp es qs) (A : Option Addr) (n c : Nat) (keep : List Int) (hx : IAt w A n keep)
    (hA : 0 < n → InF (fun k => k < w.heap.size ∧ k ≠ g ∧ ∀ c ∈ qs, k ≠ c.q) A) :
    Calls Tryz.prog 86 #[pt g, .slice A n c] w fun e w' => e = .returned (.tuple #[]) ∧ Grow F w w' ∧ ∃ qs', RC w' g { D with l := fall keep D.l, dead := true } F mb fp es qs' ∧ ∀ p, p < w.heap.size → p ≠ g → (∀ c ∈ qs, p ≠ c.q) → w'.heap[p]? = w.heap[p]? := by
  have NM := Lib.hid (gNames w g D F mb fp es qs h)
  have H := Lib.hid h
  have hlen := h.len
  have hfew := h.ok.few
  have c0 := h.c0
  have HX := Lib.hid hx
  have hxl := hx.1
  obtain ⟨N, hN⟩ : ∃ N, D.l.length = N := ⟨_, rfl⟩
  rw [hN] at NM
  clear h hx
  go_enter Tryz.func86, Tryz.ntmps86
  go_wp2_with (first
    | (go_at_call 137; refine NM.out.mono ?_; rintro e w1 ⟨NA, nc, rfl, hT, hnc, hncm, hin, hb1⟩))
  go_loopw [10] (fun iv wr => ∃ (k : Nat) (ps : List Cf), k ≤ N ∧ iv = .int .i64 k ∧ Hid (RC wr g { D with l := fallTo keep k D.l } F mb fp es ps ∧ Grow F w1 wr ∧ (∃ hl : ps.length = qs.length, ∀ j, (hj : j < qs.length) → (ps[j]'(hl ▸ hj)).q = qs[j].q ∧ (k ≤ j → (ps[j]'(hl ▸ hj)).f = qs[j].f)) ∧ ∀ p, p < w.heap.size → p ≠ g → (∀ c ∈ qs, p ≠ c.q) → wr.heap[p]? = w.heap[p]?)) (fun iv _ => N - (intOf iv).toNat)
  case atStart => exact ⟨0, qs, Nat.zero_le _, rfl, Lib.hid ⟨by rw [fallTo_zero]; exact H.out.below hb1, Grow.refl _ _, ⟨rfl, fun j hj => ⟨rfl, fun _ => rfl⟩⟩, fun p hp _ _ => hb1.block p hp⟩⟩
  case round =>
    obtain ⟨k, ps, hk, rfl, HR⟩ := hrel
    obtain ⟨hR, hG, ⟨hpl, hps⟩, hkp⟩ := HR.out
    by_cases hlt : k < N
    · obtain ⟨nb, no, rfl, hcell⟩ := hT.2 (by omega)
      have hkl : k < D.l.length := by omega
      have hkq : k < qs.length := by omega
      have hkps : k < ps.length := by omega
      have hnm := hcell k (by rw [List.length_map]; omega)
      rw [List.getElem_map] at hnm
      obtain ⟨nm, hnmE⟩ : ∃ x, D.l[k].name = x := ⟨_, rfl⟩
      rw [hnmE] at hnm
      have hnb : nb < w1.heap.size ∧ ¬ F nb := by
        have := hin _ rfl
        exact ⟨this.2, fun e => by have h := H.out.lt nb e; have h2 := this.1; simp only at h2; omega⟩
      have hnmr : wr.cell? ⟨nb, no + k, none⟩ = some (.string nm) := (World.cell?_of_block (a := ⟨nb, no + k, none⟩) (hG.block nb hnb.1 hnb.2)).trans hnm
      have hlk : (fallTo keep k D.l).length = D.l.length := fallTo_len _ _ _
      have hgk : (fallTo keep k D.l)[k]'(by omega) = D.l[k] := fallTo_get keep k D.l hkl
      have hof : ps[k].f = D.l[k] := by rw [(hps k hkq).2 (Nat.le_refl _), H.out.get hkq]
      have hat := isAt_of (l := fallTo keep k D.l) hR.ok.sorted (i := k) (by omega)
      rw [hgk, hnmE] at hat
      have hL := hR.look_yes hat.1 hat.2 false hkps
      simp only [Bool.false_eq_true, if_false] at hL
      have c0r := hR.c0
      obtain ⟨FA, fc, hv, d0, d1, hfat, hfc, hfcm, _⟩ := hR.file hkps
      have hfz : ∀ i, wr.frozen? ⟨ps[k].q, i, none⟩ = false := fun i => by
        have ho := (hR.each _ (List.getElem_mem hkps)).obj
        simp [World.frozen?, ho]
      have hmk := hR.ok.marks _ (List.getElem_mem (show k < (fallTo keep k D.l).length by omega))
      rw [hgk, ← hof] at hmk
      have hsz : ps[k].f.bs.length ≤ 4194304 := by
        have h1 := sum_take_succ (fallTo keep k D.l) k (by omega)
        have h2 := sum_take_le (fallTo keep k D.l) (k + 1)
        have h3 := hR.ok.sum
        simp only at h3
        rw [hgk, ← hof] at h1
        omega
      obtain ⟨count, hcount⟩ : ∃ z : Int, z = if k < keep.length then keep.getD k 0 else 0 := ⟨_, rfl⟩
      obtain ⟨K, hK⟩ : ∃ K, brn count (ps[k].f.bs.length - ps[k].f.mark + 1) = K := ⟨_, rfl⟩
      have hKe : K = if k < keep.length then brn (keep.getD k 0) (ps[k].f.bs.length - ps[k].f.mark + 1) else 0 := by
        rw [← hK, hcount]
        split
        · rfl
        · exact brn_zero _
      have LO := Lib.hid (gLose wr ps[k].q FA ps[k].f.bs.length fc ps[k].f.mark count d0 d1 hfz hmk hsz hfc)
      have FE := Lib.hid (fun (m : Nat) => hR.fell hkps hv rfl rfl hKe hmk m (List.getElem?_eq_getElem hkl) hof)
      rw [hK] at LO
      have HPS := Lib.hid hps
      have HG := Lib.hid hG
      have HKP := Lib.hid hkp
      have hqF : F ps[k].q := (hR.each _ (List.getElem_mem hkps)).sub _ (.inl rfl)
      have HQ := Lib.hid (show F ps[k].q ∧ ps[k].q = qs[k].q from ⟨hqF, (hps k hkq).1⟩)
      generalize hLL : ps[k].f.bs.length = L at *
      generalize hMM : ps[k].f.mark = M at *
      generalize hQQ : ps[k].q = q at *
      have hrel2 : ∀ V, (∃ m, V = ((wr.setCell ⟨q, 1, none⟩ (.int .i64 ((M + K : Nat) : Int))).setCell ⟨q, 0, none⟩ (.slice FA (M + K) fc)).drewN m) → ∃ ps' : List Cf, Hid (RC V g { D with l := fallTo keep (k + 1) D.l } F mb fp es ps' ∧ Grow F w1 V ∧ (∃ hl : ps'.length = qs.length, ∀ j, (hj : j < qs.length) → (ps'[j]'(hl ▸ hj)).q = qs[j].q ∧ (k + 1 ≤ j → (ps'[j]'(hl ▸ hj)).f = qs[j].f)) ∧ ∀ p, p < w.heap.size → p ≠ g → (∀ c ∈ qs, p ≠ c.q) → V.heap[p]? = w.heap[p]?) := by
        rintro V ⟨m, rfl⟩
        refine ⟨_, Lib.hid ⟨FE.out m, ((HG.out.set (p := ⟨q, 1, none⟩) (.inl HQ.out.1) _).set (p := ⟨q, 0, none⟩) (.inl HQ.out.1) _).drewN m, ⟨by rw [List.length_set]; exact hpl, fun j hj => ?_⟩, fun p hp hpg hpq => ?_⟩⟩
        · rw [List.getElem_set]
          by_cases e : k = j
          · subst e
            rw [if_pos rfl]
            exact ⟨HQ.out.2, fun h => by omega⟩
          · rw [if_neg e]
            exact ⟨(HPS.out j hj).1, fun h => (HPS.out j hj).2 (by omega)⟩
        · have hne : p ≠ q := by rw [HQ.out.2]; exact hpq _ (List.getElem_mem hkq)
          show ((wr.setCell ⟨q, 1, none⟩ (.int .i64 ((M + K : Nat) : Int))).setCell ⟨q, 0, none⟩ (.slice FA (M + K) fc)).heap[p]? = _
          rw [set_blk _ _ _ _ hne, set_blk _ _ _ _ hne]
          exact HKP.out p hp hpg hpq
      have HR2 := Lib.hid hrel2
      clear hrel2 HR hR hG hps hkp hcell FE hat hof hgk hfat hv hKe hK hmk hsz hqF
      by_cases hkn : k < n
      · have hkl2 : k < keep.length := by omega
        obtain ⟨kb, ko, rfl, hkc⟩ := HX.out.2 (by omega)
        have hkA := hA (by omega) _ rfl
        have hkc2 : wr.cell? ⟨kb, ko + k, none⟩ = some (.int .i64 count) := by
          rw [World.cell?_of_block (a := ⟨kb, ko + k, none⟩) (HKP.out kb hkA.1 hkA.2.1 hkA.2.2), hkc k hkl2, hcount, if_pos hkl2, List.getD_eq_getElem?_getD, List.getElem?_eq_getElem hkl2]
          rfl
        have hg1 : decide ((k : Int) < (N : Int)) = true := decide_eq_true (by omega)
        have hg2 : decide ((k : Int) < (n : Int)) = true := decide_eq_true (by omega)
        clear hkc hcount
        go_wp2_with (first
          | (go_at_call 138; refine LO.out.mono ?_; rintro e w2 ⟨rfl, hw2⟩; obtain ⟨ps', HN⟩ := HR2.out _ hw2))
        go_roundw
        case rel => exact ⟨k + 1, ps', by omega, by go_num, HN⟩
        case measure => simp [intOf]; omega
      · have hcz : count = 0 := by rw [hcount, if_neg (by omega)]
        subst hcz
        have hg1 : decide ((k : Int) < (N : Int)) = true := decide_eq_true (by omega)
        have hg2 : decide ((k : Int) < (n : Int)) = false := decide_eq_false (by omega)
        clear hcount
        go_wp2_with (first
          | (go_at_call 138; refine LO.out.mono ?_; rintro e w2 ⟨rfl, hw2⟩; obtain ⟨ps', HN⟩ := HR2.out _ hw2))
        go_roundw
        case rel => exact ⟨k + 1, ps', by omega, by go_num, HN⟩
        case measure => simp [intOf]; omega
    · have hkk : k = N := by omega
      subst hkk
      have hg1 : decide ((k : Int) < (k : Int)) = false := decide_eq_false (by omega)
      have hzz := hR.fz 1
      have hc1 := hR.c1
      have HG := Lib.hid hG
      have HKP := Lib.hid hkp
      have HRR := Lib.hid hR
      clear HR hR hG hps hkp hT
      go_wp2_with fail
      first | go_end0 | (refine bodyPost_ret (results_none rfl _ _ _) rfl ?_)
      have e : fallTo keep k D.l = fall keep D.l := by rw [← hN]; exact fallTo_all _ _
      have hR2 := HRR.out
      rw [e] at hR2
      have hO := hR2.ok
      have ho := hR2.obj
      have hgl := H.out.lt g H.out.fg
      refine ⟨rfl, (Grow.of_below (F := F) hb1).trans ((HG.out.set (p := ⟨g, 1, none⟩) (.inl H.out.fg) (.bool true)).mono (fun _ e => .inl e)), ⟨ps, hR2.obj' (D' := { D with l := fall keep D.l, dead := true }) rfl (by simp [World.setCell, Array.getElem?_modify, ho]) (fun x _ hx _ => set_blk _ _ _ _ hx) (fun _ e => e) (fun x e => by rw [set_size]; exact hR2.lt x e) (fun h => by cases h) (fun _ f hf => ?_) ⟨hO.sorted, hO.marks, hO.few, hO.sum, hO.low, hO.high⟩⟩, fun p hp hpg hpq => (set_blk _ _ _ _ hpg).trans (HKP.out p hp hpg hpq)⟩
      obtain ⟨j, hj, rfl⟩ := List.mem_iff_getElem.1 hf
      have hj' : j < D.l.length := by simpa [fall] using hj
      have e2 : (fall keep D.l)[j] = fallF keep j D.l[j] := by simp [fall]
      rw [e2]
      exact (fallF_full (H.out.ok.marks _ (List.getElem_mem hj'))).1
end Go.Proofs.YtamglegdgcehaaaGreat
