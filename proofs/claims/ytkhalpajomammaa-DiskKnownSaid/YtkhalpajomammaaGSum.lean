/-
  Layer 7: the landed disk in memory: a struct, a map of names to files' blocks, each file's cells and bytes, what it was told of failing.
  Layer 7: the landed disk: isNone, check, mayBeName, find, names.
  Layer 7: the landed disk: how many bytes are stored.
-/
import Derived.Test.YtkhalpajomammaaOwnI
import Derived.Maps.RangeWalk
import Derived.Test.YtkhalpajomammaaIter
import Derived.WalkSpells
set_option linter.unusedVariables false
namespace Go.Proofs.Ytkhalpajomammaa
open Go.RowKit Go.Maps

theorem lawK : Keyed Try.prog 9 := string_keyed Try.underlying9
/-- How a map's element reads: as a file's block. -/
def fE : Value → Option (DataW Empty × List MemPlace)
  | .pointer (some ⟨q, 0, none⟩) => some (.lit (.int .i64 (q : Int)), [])
  | .pointer none => some (.nil, [])
  | _ => none
theorem fE_pt (q : Nat) : fE (pt q) = some (.lit (.int .i64 (q : Int)), []) := rfl
theorem fE_shape {v : Value} {y : DataW Empty × List MemPlace} (h : fE v = some y) : (∃ q : Nat, v = pt q ∧ y = (.lit (.int .i64 (q : Int)), [])) ∨ (v = .pointer none ∧ y = (.nil, [])) := by
  unfold fE at h
  split at h
  · rename_i q
    injection h with h
    exact .inl ⟨q, rfl, h.symm⟩
  · injection h with h
    exact .inr ⟨rfl, h.symm⟩
  · cases h

/-- A file: what it is, its block, its bytes. -/
structure Cf where
  f : Fl
  q : Nat
  v : Value
def sk (s : ByteArray) : Lit := .string s.data.toList
theorem sk_inj {s t : ByteArray} (h : sk s = sk t) : s = t := by
  unfold sk at h
  injection h with h
  refine ByteArray.ext (Array.toList_inj.1 h)
def Cf.ent (c : Cf) : Lit × DataW Empty := (sk c.f.name, .lit (.int .i64 (c.q : Int)))
/-- Its blocks. -/
def Cf.B (c : Cf) (k : Nat) : Prop := k = c.q ∨ c.v.ownBlock = some k
structure RCf (V : World) (F : Nat → Prop) (c : Cf) : Prop where
  obj : V.heap[c.q]? = some (.cells #[c.v, .int .i64 (c.f.mark : Int)] 76 (0, 0))
  own : Own V 0 c.v c.f.bs
  sub : ∀ k, c.B k → F k
/-- What the disk was told of failing. -/
def RFail (V : World) (D : Dk) (F : Nat → Prop) (fp : Option Addr) : Prop :=
  (D.left < 0 ∧ fp = none) ∨ (0 ≤ D.left ∧ ∃ p kv, fp = some ⟨p, 0, none⟩ ∧ V.heap[p]? = some (.cells #[.int .i64 D.left, kv] 80 (0, 0)) ∧ OwnI V 0 kv (D.keep.take 20) ∧ F p ∧ ∀ k, kv.ownBlock = some k → F k)
structure RC (V : World) (g : Nat) (D : Dk) (F : Nat → Prop) (mb : Nat) (fp : Option Addr) (es : List (Lit × DataW Empty)) (qs : List Cf) : Prop where
  obj : V.heap[g]? = some (.cells #[.map (some mb), .bool D.dead, .pointer fp] 68 (0, 0))
  eq : qs.map Cf.f = D.l
  map : V.ownsMap Try.prog 9 fE mb 20 (.map es)
  perm : es.Perm (qs.map Cf.ent)
  each : ∀ c ∈ qs, RCf V F c
  sep : qs.Pairwise (fun a b => ∀ k, a.B k → ¬ b.B k)
  fail : D.dead = false → RFail V D F fp
  gone : D.dead = true → ∀ f ∈ D.l, f.mark = f.bs.length
  fg : F g
  fm : F mb
  lt : ∀ k, F k → k < V.heap.size
  ok : D.ok
def RCk (V : World) (g : Nat) (D : Dk) (F : Nat → Prop) : Prop := ∃ mb fp es qs, RC V g D F mb fp es qs

theorem ownsMap_onS {V V' : World} {P : Program} {k : TypeId} {b n : Nat} {X : DataW Empty} (h : V.ownsMap P k fE b n X) (hb : V'.heap[b]? = V.heap[b]?) : V'.ownsMap P k fE b n X := by
  obtain ⟨e0, clock, h1, h2⟩ := h
  exact ⟨e0, clock, hb.trans h1, h2⟩
theorem ownsMap_tight {V : World} {P : Program} {k : TypeId} {b n m : Nat} {es : List (Lit × DataW Empty)} (h : V.ownsMap P k fE b n (.map es)) (hm : es.length ≤ m) : V.ownsMap P k fE b m (.map es) := by
  obtain ⟨e0, clock, h1, h2, h3, h4⟩ := h
  refine ⟨e0, clock, h1, h2, ?_, h4⟩
  have e := congrArg Maps.size h4
  simp only [Maps.size, length_sorted, List.length_map, Array.length_toList] at e
  omega
theorem ownsMap_blk {V : World} {P : Program} {k : TypeId} {b n : Nat} {X : DataW Empty} (h : V.ownsMap P k fE b n X) : ∃ e0 clock, V.heap[b]? = some (.map e0 clock) := by
  obtain ⟨e0, clock, h1, _⟩ := h
  exact ⟨e0, clock, h1⟩

section
variable {V V' : World} {g : Nat} {D D' : Dk} {F G : Nat → Prop} {mb : Nat} {fp fp' : Option Addr} {es es' : List (Lit × DataW Empty)} {qs qs' : List Cf} {c : Cf}
theorem RCf.on (h : RCf V F c) (hk : ∀ k, c.B k → V'.heap[k]? = V.heap[k]?) (hG : ∀ k, c.B k → G k) : RCf V' G c := ⟨(hk _ (.inl rfl)).trans h.obj, h.own.onS (fun k e => hk k (.inr e)), hG⟩
theorem RCf.kind (h : RCf V F c) {k : Nat} (hk : c.B k) : ∃ cs t, V.heap[k]? = some (.cells cs t (0, 0)) ∧ (t = 76 ∨ t = 5) := by
  rcases hk with rfl | e
  · exact ⟨_, _, h.obj, .inl rfl⟩
  · rcases h.own.2 with ⟨hv, _⟩ | ⟨q, cap, cur, hv, _, hh, _⟩
    · rw [hv] at e
      cases e
    · rw [hv] at e
      have e' : some q = some k := e
      injection e' with e'
      subst e'
      exact ⟨_, _, hh, .inr rfl⟩
theorem RCf.ne_t (h : RCf V F c) {k : Nat} (hk : c.B k) {cs : Array Value} {t : TypeId} {z : Nat × Nat} {j : Nat} (ho : V.heap[j]? = some (.cells cs t z)) (h1 : t ≠ 76) (h2 : t ≠ 5) : k ≠ j := by
  rintro rfl
  obtain ⟨cs', t', e, ht⟩ := h.kind hk
  rw [e] at ho
  injection ho with ho
  injection ho with _ e2 _
  subst e2
  rcases ht with ht | ht
  · exact h1 ht
  · exact h2 ht
theorem RCf.ne_m (h : RCf V F c) {k : Nat} (hk : c.B k) {e0 : Array MapEntry} {cl j : Nat} (ho : V.heap[j]? = some (.map e0 cl)) : k ≠ j := by
  rintro rfl
  obtain ⟨cs', t', e, ht⟩ := h.kind hk
  rw [e] at ho
  cases ho
theorem RFail.on (h : RFail V D F fp) (hk : ∀ k, F k → (∃ cs t, V.heap[k]? = some (.cells cs t (0, 0)) ∧ (t = 80 ∨ t = 3)) → V'.heap[k]? = V.heap[k]?) (hG : ∀ k, F k → G k) (e1 : D'.left = D.left) (e2 : D'.keep = D.keep) : RFail V' D' G fp := by
  unfold RFail at h ⊢
  rw [e1, e2]
  rcases h with h | ⟨h0, p, kv, rfl, hp, hI, hF, hS⟩
  · exact .inl h
  · refine .inr ⟨h0, p, kv, rfl, (hk p hF ⟨_, _, hp, .inl rfl⟩).trans hp, hI.onS (fun k e => hk k (hS k e) ?_), hG p hF, fun k e => hG k (hS k e)⟩
    rcases hI.2 with ⟨hv, _⟩ | ⟨q, cap, cur, hv, _, hh, _⟩
    · rw [hv] at e
      cases e
    · rw [hv] at e
      have e' : some q = some k := e
      injection e' with e'
      subst e'
      exact ⟨_, _, hh, .inr rfl⟩
theorem RC.on (h : RC V g D F mb fp es qs) (hs : V.heap.size ≤ V'.heap.size) (hk : ∀ k, F k → V'.heap[k]? = V.heap[k]?) : RC V' g D F mb fp es qs :=
  ⟨(hk g h.fg).trans h.obj, h.eq, ownsMap_onS h.map (hk mb h.fm), h.perm, fun c hc => (h.each c hc).on (fun k e => hk k ((h.each c hc).sub k e)) (h.each c hc).sub, h.sep, fun hd => (h.fail hd).on (fun k e _ => hk k e) (fun _ e => e) rfl rfl, h.gone, h.fg, h.fm, fun k e => Nat.lt_of_lt_of_le (h.lt k e) hs, h.ok⟩
theorem RC.below (h : RC V g D F mb fp es qs) (hb : Below V.heap.size V V') : RC V' g D F mb fp es qs := h.on hb.size (fun k e => hb.block k (h.lt k e))
theorem RC.mono (h : RC V g D F mb fp es qs) (hs : ∀ k, F k → G k) (hl : ∀ k, G k → k < V.heap.size) : RC V g D G mb fp es qs :=
  ⟨h.obj, h.eq, h.map, h.perm, fun c hc => (h.each c hc).on (fun _ _ => rfl) (fun k e => hs k ((h.each c hc).sub k e)), h.sep, fun hd => (h.fail hd).on (fun _ _ _ => rfl) hs rfl rfl, h.gone, hs g h.fg, hs mb h.fm, hl, h.ok⟩
theorem RC.ends {w : World} (h : RC V g D F mb fp es qs) {F0 : Nat → Prop} (hF : ∀ k, F k → nF F0 w V k) (hG : Grow F0 w V) (hl : ∀ k, F0 k → k < w.heap.size) : Turns RCk w g F0 D V :=
  ⟨⟨mb, fp, es, qs, h.mono hF (fun k e => by rcases e with e | e; exact Nat.lt_of_lt_of_le (hl k e) hG.size; exact e.2)⟩, hG⟩
theorem RC.len (h : RC V g D F mb fp es qs) : qs.length = D.l.length := by rw [← h.eq, List.length_map]
theorem RC.get (h : RC V g D F mb fp es qs) {i : Nat} (hi : i < qs.length) : D.l[i]'(by rw [← h.len]; exact hi) = qs[i].f := by
  have e := h.eq
  simp only [← e, List.getElem_map]
theorem RC.c0 (h : RC V g D F mb fp es qs) : V.cell? ⟨g, 0, none⟩ = some (.map (some mb)) := cell_of_row V g 0 _ _ (0, 0) h.obj
theorem RC.c1 (h : RC V g D F mb fp es qs) : V.cell? ⟨g, 1, none⟩ = some (.bool D.dead) := cell_of_row V g 1 _ _ (0, 0) h.obj
theorem RC.c2 (h : RC V g D F mb fp es qs) : V.cell? ⟨g, 2, none⟩ = some (.pointer fp) := cell_of_row V g 2 _ _ (0, 0) h.obj
theorem RC.fz (h : RC V g D F mb fp es qs) (i : Nat) : V.frozen? ⟨g, i, none⟩ = false := by
  have h := h.obj
  simp [World.frozen?, h]
theorem RC.apart (h : RC V g D F mb fp es qs) {i j : Nat} (hi : i < qs.length) (hj : j < qs.length) (hne : i ≠ j) {k : Nat} (hk : qs[i].B k) : ¬ qs[j].B k := by
  have hp := List.pairwise_iff_getElem.1 h.sep
  rcases Nat.lt_or_gt_of_ne hne with h1 | h1
  · exact hp i j hi hj h1 k hk
  · exact fun e => hp j i hj hi h1 k e hk
theorem RC.notg (h : RC V g D F mb fp es qs) {c : Cf} (hc : c ∈ qs) {k : Nat} (hk : c.B k) : k ≠ g ∧ k ≠ mb := by
  obtain ⟨e0, cl, hm⟩ := ownsMap_blk h.map
  exact ⟨(h.each c hc).ne_t hk h.obj (by decide) (by decide), (h.each c hc).ne_m hk hm⟩
/-- A file is written: its cells, its bytes. -/
theorem RC.put (h : RC V g D F mb fp es qs) {i : Nat} (hi : i < qs.length) (hq : c.q = qs[i].q) (hn : c.f.name = qs[i].f.name) (hFG : ∀ k, F k → G k) (hGl : ∀ k, G k → k < V'.heap.size)
    (hk : ∀ k, F k → ¬ qs[i].B k → V'.heap[k]? = V.heap[k]?) (hc : RCf V' G c) (hnew : ∀ k, c.v.ownBlock = some k → qs[i].v.ownBlock = some k ∨ ¬ F k)
    (hgone : D.dead = true → c.f.mark = c.f.bs.length) (hok : ({ D with l := D.l.set i c.f } : Dk).ok) : RC V' g { D with l := D.l.set i c.f } G mb fp es (qs.set i c) := by
  have hcB : ∀ k, c.B k → qs[i].B k ∨ ¬ F k := fun k e => by
    rcases e with rfl | e
    · exact .inl (.inl hq)
    · rcases hnew k e with e | e
      · exact .inl (.inr e)
      · exact .inr e
  have hmi : qs[i] ∈ qs := List.getElem_mem hi
  have hgB : ¬ qs[i].B g := fun e => (h.notg hmi e).1 rfl
  have hmB : ¬ qs[i].B mb := fun e => (h.notg hmi e).2 rfl
  refine ⟨(hk g h.fg hgB).trans h.obj, by rw [List.map_set, h.eq], ownsMap_onS h.map (hk mb h.fm hmB), ?_, fun x hx => ?_, ?_, fun hd => (h.fail hd).on (fun k e ⟨cs, t, e1, e2⟩ => hk k e (fun e3 => (h.each _ hmi).ne_t e3 e1 (by rcases e2 with rfl | rfl <;> decide) (by rcases e2 with rfl | rfl <;> decide) rfl)) hFG rfl rfl, fun hd f hf => ?_, hFG g h.fg, hFG mb h.fm, hGl, hok⟩
  · have e : (qs.set i c).map Cf.ent = qs.map Cf.ent := by
      rw [List.map_set]
      have : c.ent = (qs.map Cf.ent)[i]'(by simpa using hi) := by
        rw [List.getElem_map]
        unfold Cf.ent
        rw [hq, hn]
      rw [this]
      exact List.set_getElem_self _
    rw [e]
    exact h.perm
  · rcases List.mem_iff_getElem.1 hx with ⟨j, hj, rfl⟩
    have hj' : j < qs.length := by simpa using hj
    rw [List.getElem_set]
    split
    · exact hc
    · rename_i hne
      have hr := h.each _ (List.getElem_mem hj')
      exact hr.on (fun k e => hk k (hr.sub k e) (fun e2 => h.apart hi hj' hne e2 e)) (fun k e => hFG k (hr.sub k e))
  · refine List.pairwise_iff_getElem.2 (fun a b ha hb hab k e1 e2 => ?_)
    have ha' : a < qs.length := by simpa using ha
    have hb' : b < qs.length := by simpa using hb
    rw [List.getElem_set] at e1 e2
    split at e1
    · rename_i ea
      subst ea
      rw [if_neg (by omega)] at e2
      rcases hcB k e1 with e3 | e3
      · exact h.apart hi hb' (by omega) e3 e2
      · exact e3 ((h.each _ (List.getElem_mem hb')).sub k e2)
    · split at e2
      · rename_i eb
        subst eb
        rcases hcB k e2 with e3 | e3
        · exact h.apart ha' hi (by omega) e1 e3
        · exact e3 ((h.each _ (List.getElem_mem ha')).sub k e1)
      · exact h.apart ha' hb' (by omega) e1 e2
  · rcases List.mem_or_eq_of_mem_set hf with h1 | rfl
    · exact h.gone hd f h1
    · exact hgone hd
/-- The struct's own cells, or what it was told of failing, are written. -/
theorem RC.obj' (h : RC V g D F mb fp es qs) (hl : D'.l = D.l) (hobj : V'.heap[g]? = some (.cells #[.map (some mb), .bool D'.dead, .pointer fp'] 68 (0, 0)))
    (hk : ∀ k, F k → k ≠ g → (∀ cs, V.heap[k]? ≠ some (.cells cs 80 (0, 0))) → V'.heap[k]? = V.heap[k]?) (hFG : ∀ k, F k → G k) (hGl : ∀ k, G k → k < V'.heap.size)
    (hfail : D'.dead = false → RFail V' D' G fp') (hgone : D'.dead = true → ∀ f ∈ D'.l, f.mark = f.bs.length) (hok : D'.ok) : RC V' g D' G mb fp' es qs := by
  obtain ⟨e0, cl, hm⟩ := ownsMap_blk h.map
  have hmg : mb ≠ g := fun e => by rw [e, h.obj] at hm; cases hm
  refine ⟨hobj, by rw [hl]; exact h.eq, ownsMap_onS h.map (hk mb h.fm hmg (fun cs e => by rw [hm] at e; cases e)), h.perm, fun c hc => ?_, h.sep, hfail, hgone, hFG g h.fg, hFG mb h.fm, hGl, hok⟩
  have hr := h.each c hc
  refine hr.on (fun k e => hk k (hr.sub k e) (h.notg hc e).1 (fun cs e2 => ?_)) (fun k e => hFG k (hr.sub k e))
  exact hr.ne_t e e2 (by decide) (by decide) rfl
/-- The map is written; files come, or go. -/
theorem RC.map' (h : RC V g D F mb fp es qs) (hd : D.dead = false) (hmap : V'.ownsMap Try.prog 9 fE mb 20 (.map es')) (hk : ∀ k, F k → k ≠ mb → V'.heap[k]? = V.heap[k]?) (hFG : ∀ k, F k → G k) (hGl : ∀ k, G k → k < V'.heap.size)
    (hperm : es'.Perm (qs'.map Cf.ent)) (heach : ∀ c ∈ qs', RCf V' G c) (hsep : qs'.Pairwise (fun a b => ∀ k, a.B k → ¬ b.B k)) {l : List Fl} (hl : qs'.map Cf.f = l) (hok : ({ D with l := l } : Dk).ok) : RC V' g { D with l := l } G mb fp es' qs' := by
  obtain ⟨e0, cl, hm⟩ := ownsMap_blk h.map
  have hmg : g ≠ mb := fun e => by rw [← e, h.obj] at hm; cases hm
  exact ⟨(hk g h.fg hmg).trans h.obj, hl, hmap, hperm, heach, hsep, fun _ => (h.fail hd).on (fun k e ⟨cs, t, e1, _⟩ => hk k e (fun e2 => by rw [e2, hm] at e1; cases e1)) hFG rfl rfl, fun e => absurd e (by rw [hd]; decide), hFG g h.fg, hFG mb h.fm, hGl, hok⟩
end

/-! ### a name is looked up -/
theorem zeroP (w : World) : (zeroValue 71).run Try.prog w = .ok (.pointer none) w := by kernel_rfl
open Go.MapKept Go.WideElems in
theorem look_run {V : World} {b n : Nat} {es : List (Lit × DataW Empty)} (h : V.ownsMap Try.prog 9 fE b n (.map es)) (s : ByteArray) (ok : Bool) :
    ((Instr.lookup 65 (.map (some b)) (.string s) ok).run Try.prog V = .ok (if ok then .tuple #[.pointer none, .bool false] else .pointer none) V ∧ ∀ p ∈ es, p.1 ≠ sk s) ∨
    ∃ v ps p, p ∈ es ∧ p.1 = sk s ∧ fE v = some (p.2, ps) ∧ (Instr.lookup 65 (.map (some b)) (.string s) ok).run Try.prog V = .ok (if ok then .tuple #[v, .bool true] else v) V := by
  obtain ⟨e0, clock, hb, Ft, hs, hD⟩ := h
  injection hD with hD
  have hks : ∀ x ∈ e0.toList, IsKey .string x.key := fun x hx => by
    obtain ⟨y, hy⟩ := Ft.reads x hx
    obtain ⟨s', e, _, _⟩ := WideMaps.string_of_keyOf Try.underlying9 (rd_key hy)
    rw [e]
    trivial
  have hck : ∀ em : Bool, (Instr.checkKey em 10000 9 (.string s)).run Try.prog V = .ok () V := fun em => run_checkKey (P := Try.prog) (w := V) Try.underlying9 (d := .string) (k := .string s) trivial em 9999
  rcases findNow_spec (d := .string) (k := .string s) trivial e0.toList 0 hks with ⟨h1, h2⟩ | ⟨j, x, h1, h2, h3⟩
  · refine .inl ⟨?_, fun p hp e => ?_⟩
    · have hf := run_findKey (P := Try.prog) (w := V) Try.underlying9 h1
      simp [Instr.lookup, run_underlying Try.underlying65, MapKept.run_getObj_map hb, hck, hf, Result.andThen]
      all_goals cases ok <;> rfl
    · rw [hD] at hp
      obtain ⟨x, hx, rfl⟩ := List.mem_map.1 (mem_sorted.1 hp)
      obtain ⟨y, hy⟩ := Ft.reads x hx
      rw [rg_of hy] at e
      obtain ⟨s', e1, e2, _⟩ := WideMaps.string_of_keyOf Try.underlying9 (rd_key hy)
      rw [e2] at e
      have : s' = s := sk_inj e
      subst this
      exact h2 x hx e1
  · have hx : x ∈ e0.toList := List.mem_of_getElem? h2
    obtain ⟨y, hy⟩ := Ft.reads x hx
    obtain ⟨z, hz, hzd⟩ := rd_val hy
    refine .inr ⟨x.val, z.2, y, ?_, ?_, ?_, ?_⟩
    · rw [hD]
      exact mem_sorted.2 (List.mem_map.2 ⟨x, hx, rg_of hy⟩)
    · obtain ⟨s', e1, e2, _⟩ := WideMaps.string_of_keyOf Try.underlying9 (rd_key hy)
      have e3 : s = s' := Value.string.inj (h3.symm.trans e1)
      subst e3
      exact e2
    · exact hz.trans (congrArg some (Prod.ext hzd.symm rfl))
    · have hf := run_findKey (P := Try.prog) (w := V) Try.underlying9 h1
      simp [Instr.lookup, run_underlying Try.underlying65, MapKept.run_getObj_map hb, hck, hf, Result.andThen]

theorem isAt_mem {l : List Fl} {s : ByteArray} (h : isAt l s = true) : ∃ hp : pos l s < l.length, l[pos l s].name = s := by
  have hp := isAt_lt h
  rw [isAt_eq rfl hp] at h
  exact ⟨hp, of_decide_eq_true h⟩
theorem isAt_of {l : List Fl} (hs : l.Pairwise (fun a b => nl a.name b.name = true)) {i : Nat} (hi : i < l.length) : pos l l[i].name = i ∧ isAt l l[i].name = true := by
  have hp : pos l l[i].name = i := pos_eq (by omega) (fun j hj => sorted_get hs hj hi) (fun _ => nl_irr _)
  exact ⟨hp, by rw [isAt_eq hp hi]; simp⟩
section
variable {V : World} {g : Nat} {D : Dk} {F : Nat → Prop} {mb : Nat} {fp : Option Addr} {es : List (Lit × DataW Empty)} {qs : List Cf}
/-- The file of a name. -/
theorem RC.at_ (h : RC V g D F mb fp es qs) {s : ByteArray} {p : Nat} (hp : pos D.l s = p) (hi : isAt D.l s = true) : ∃ hq : p < qs.length, qs[p].f.name = s ∧ fileAt D.l s = qs[p].f ∧ ∃ hl : p < D.l.length, D.l[p] = qs[p].f := by
  obtain ⟨hl, hf, hn⟩ := fileAt_eq hp hi
  have hq : p < qs.length := by rw [h.len]; exact hl
  have e := h.get hq
  exact ⟨hq, by rw [← e]; exact hn, by rw [hf, e], hl, e⟩
theorem RC.look_no (h : RC V g D F mb fp es qs) {s : ByteArray} (hi : isAt D.l s = false) (ok : Bool) : (Instr.lookup 65 (.map (some mb)) (.string s) ok).run Try.prog V = .ok (if ok then .tuple #[.pointer none, .bool false] else .pointer none) V := by
  rcases look_run h.map s ok with ⟨h1, _⟩ | ⟨v, ps, p, hp, e1, _, _⟩
  · exact h1
  · exfalso
    obtain ⟨c, hc, rfl⟩ := List.mem_map.1 (h.perm.mem_iff.1 hp)
    obtain ⟨j, hj, rfl⟩ := List.mem_iff_getElem.1 hc
    have e2 : qs[j].f.name = s := sk_inj e1
    have hj' : j < D.l.length := by rw [← h.len]; exact hj
    have e3 := (isAt_of h.ok.sorted hj').2
    rw [h.get hj, e2, hi] at e3
    cases e3
theorem RC.look_yes (h : RC V g D F mb fp es qs) {s : ByteArray} {p : Nat} (hp : pos D.l s = p) (hi : isAt D.l s = true) (ok : Bool) (hq : p < qs.length) :
    (Instr.lookup 65 (.map (some mb)) (.string s) ok).run Try.prog V = .ok (if ok then .tuple #[pt qs[p].q, .bool true] else pt qs[p].q) V := by
  obtain ⟨_, hn, _⟩ := h.at_ hp hi
  rcases look_run h.map s ok with ⟨_, h2⟩ | ⟨v, ps, x, hx, e1, hv, h1⟩
  · exfalso
    have hm : qs[p].ent ∈ es := h.perm.mem_iff.2 (List.mem_map.2 ⟨_, List.getElem_mem hq, rfl⟩)
    exact h2 _ hm (congrArg sk hn)
  · obtain ⟨c, hc, rfl⟩ := List.mem_map.1 (h.perm.mem_iff.1 hx)
    obtain ⟨j, hj, rfl⟩ := List.mem_iff_getElem.1 hc
    have e2 : qs[j].f.name = s := sk_inj e1
    have hj' : j < D.l.length := by rw [← h.len]; exact hj
    have e3 := (isAt_of h.ok.sorted hj').1
    rw [h.get hj, e2, hp] at e3
    subst e3
    rcases fE_shape hv with ⟨q, rfl, hy⟩ | ⟨rfl, hy⟩
    · have e4 : (DataW.lit (.int .i64 (qs[p].q : Int)) : DataW Empty) = .lit (.int .i64 (q : Int)) := congrArg Prod.fst hy
      have e5 : qs[p].q = q := Int.ofNat_inj.1 (Lit.int.inj (DataW.lit.inj e4)).2
      rw [e5]
      exact h1
    · have e4 : (DataW.lit (.int .i64 (qs[p].q : Int)) : DataW Empty) = .nil := congrArg Prod.fst hy
      cases e4
end
end Go.Proofs.Ytkhalpajomammaa

namespace Go.Proofs.Ytkhalpajomammaa
open Go.RowKit Go.Maps

section
variable (w : World) (g : Nat) (D : Dk) (F : Nat → Prop) (mb : Nat) (fp : Option Addr) (es : List (Lit × DataW Empty)) (qs : List Cf) (h : RC w g D F mb fp es qs)
include h
set_option maxRecDepth 100000 in
theorem gNone : Calls Try.prog 44 #[pt g] w fun e w' => e = .returned (.bool false) ∧ w' = w := by
  have c0 := h.c0
  have qT : ∀ (w : World) (r : Option Nat), (binOp .eql 65 (.map r) (.map none)).run Try.prog w = .ok (.bool r.isNone) w := fun w r => run_eql_map_nil w _ _ _ r Try.underlying65
  clear h
  go_enter Try.func44, Try.ntmps44
  go_wp2
  go_ret
  exact ⟨rfl, rfl⟩
theorem gCheck : Calls Try.prog 48 #[pt g] w fun e w' => e = .returned (.int .i64 (if D.dead then 71 else 0)) ∧ w' = w := by
  have N := gNone w g D F mb fp es qs h
  have c1 := h.c1
  clear h
  cases hd : D.dead with
  | true =>
    rw [hd] at c1
    go_enter Try.func48, Try.ntmps48
    go_wp2_with (first | (go_at_call 44; refine N.mono ?_; rintro e w1 ⟨rfl, rfl⟩))
    go_ret
    exact ⟨rfl, rfl⟩
  | false =>
    rw [hd] at c1
    go_enter Try.func48, Try.ntmps48
    go_wp2_with (first | (go_at_call 44; refine N.mono ?_; rintro e w1 ⟨rfl, rfl⟩))
    go_ret
    exact ⟨rfl, rfl⟩
omit h in
theorem gMay (s : ByteArray) : Calls Try.prog 49 #[.string s] w fun e w' => e = .returned (.bool (mayN s)) ∧ w' = w := by
  obtain ⟨b, hb⟩ : ∃ b, mayN s = b := ⟨_, rfl⟩
  have hb2 := hb
  unfold mayN at hb2
  rw [hb]
  have HB := Lib.hid hb2
  clear hb hb2
  by_cases h1 : (1 : Int) ≤ (s.size : Int)
  · have e : decide ((s.size : Int) ≤ 40) = b := by rw [← HB.out]; exact decide_eq_decide.2 (by omega)
    go_enter Try.func49, Try.ntmps49
    go_wp2
    go_ret
    exact ⟨rfl, rfl⟩
  · have e : b = false := by rw [← HB.out]; simp; omega
    subst e
    go_enter Try.func49, Try.ntmps49
    go_wp2
    go_ret
    exact ⟨rfl, rfl⟩
/-- find, of a name that is not there. -/
theorem gFind_no (s : ByteArray) (hn : nmE D s ≠ 0) : Calls Try.prog 53 #[pt g, .string s] w fun e w' => e = .returned (.tuple #[.pointer none, .int .i64 (nmE D s)]) ∧ w' = w := by
  have C := gCheck w g D F mb fp es qs h
  have c0 := h.c0
  cases hd : D.dead with
  | true =>
    have hE : nmE D s = 71 := by unfold nmE; rw [hd]; rfl
    rw [hE]
    rw [hd] at C
    have C' := Lib.hid C
    clear C h hn
    go_enter Try.func53, Try.ntmps53
    go_wp2_with (first | (go_at_call 48; refine C'.out.mono ?_; rintro e w1 ⟨rfl, rfl⟩))
    go_ret2
    exact ⟨rfl, rfl⟩
  | false =>
    rw [hd] at C
    have C' := Lib.hid C
    cases hi : isAt D.l s with
    | true => exact absurd (by unfold nmE; rw [hd, hi]; rfl) hn
    | false =>
      have hE : nmE D s = 70 := by unfold nmE; rw [hd, hi]; rfl
      rw [hE]
      have hL := h.look_no hi true
      simp only [if_true] at hL
      clear C h hn
      go_enter Try.func53, Try.ntmps53
      go_wp2_with (first | (go_at_call 48; refine C'.out.mono ?_; rintro e w1 ⟨rfl, rfl⟩))
      go_ret2
      exact ⟨rfl, rfl⟩
/-- .. of one that is. -/
theorem gFind_yes (s : ByteArray) {p : Nat} (hp : pos D.l s = p) (hn : nmE D s = 0) (hq : p < qs.length) : Calls Try.prog 53 #[pt g, .string s] w fun e w' => e = .returned (.tuple #[pt qs[p].q, .int .i64 0]) ∧ w' = w := by
  have C := gCheck w g D F mb fp es qs h
  have c0 := h.c0
  have hd : D.dead = false := by
    cases hd : D.dead with
    | true => unfold nmE at hn; rw [hd, if_pos rfl] at hn; exact absurd hn (by decide)
    | false => rfl
  have hi : isAt D.l s = true := by
    cases hi : isAt D.l s with
    | true => rfl
    | false => unfold nmE at hn; rw [hd, hi, if_neg (by decide), if_pos rfl] at hn; exact absurd hn (by decide)
  rw [hd] at C
  have C' := Lib.hid C
  have hL := h.look_yes hp hi true hq
  simp only [if_true] at hL
  obtain ⟨q, hqq⟩ : ∃ q, qs[p].q = q := ⟨_, rfl⟩
  rw [hqq] at hL ⊢
  clear C h hn hqq
  go_enter Try.func53, Try.ntmps53
  go_wp2_with (first | (go_at_call 48; refine C'.out.mono ?_; rintro e w1 ⟨rfl, rfl⟩))
  go_ret2
  exact ⟨rfl, rfl⟩
end
end Go.Proofs.Ytkhalpajomammaa

namespace Go.Proofs.Ytkhalpajomammaa
open Go.RowKit Go.Maps

/-- The bytes of those that are no longer to come. -/
def sumL (left : Lit → Bool) (qs : List Cf) : Nat := ((qs.filter (fun c => !left (sk c.f.name))).map (fun c => c.f.bs.length)).sum
theorem sumL_none {left : Lit → Bool} : ∀ {qs : List Cf}, (∀ c ∈ qs, left (sk c.f.name) = true) → sumL left qs = 0
  | [], _ => rfl
  | c :: qs, h => by
    have h1 := h c (by simp)
    have h2 := sumL_none (qs := qs) (fun x hx => h x (by simp [hx]))
    unfold sumL at *
    simp [h1, h2]
theorem sumL_le (left : Lit → Bool) : ∀ qs : List Cf, sumL left qs ≤ sum (qs.map Cf.f)
  | [] => Nat.le_refl _
  | c :: qs => by
    have ih := sumL_le left qs
    unfold sumL sum at *
    cases h : left (sk c.f.name)
    · rw [List.filter_cons_of_pos (by simp [h])]
      simp at ih ⊢
      omega
    · rw [List.filter_cons_of_neg (by simp [h])]
      simp at ih ⊢
      omega
theorem sumL_all {left : Lit → Bool} (h : ∀ kl, left kl = false) (qs : List Cf) : sumL left qs = sum (qs.map Cf.f) := by
  unfold sumL sum
  rw [List.filter_eq_self.2 (fun c _ => by rw [h]; rfl), List.map_map]
  rfl
theorem sumL_same {left : Lit → Bool} {kl : Lit} : ∀ {qs : List Cf}, (∀ c ∈ qs, sk c.f.name ≠ kl) → sumL (fun z => left z && !z.sameKey kl) qs = sumL left qs
  | [], _ => rfl
  | c :: qs, h => by
    have h1 := Maps.sameKey_ne (h c (by simp))
    have h2 := sumL_same (left := left) (kl := kl) (qs := qs) (fun x hx => h x (by simp [hx]))
    unfold sumL at *
    cases hl : left (sk c.f.name) <;> simp [hl, h1] at h2 ⊢ <;> simp [h2]
theorem sumL_step {left : Lit → Bool} : ∀ {qs : List Cf} {j : Nat} (hj : j < qs.length), qs.Pairwise (fun a b => a.f.name ≠ b.f.name) → left (sk qs[j].f.name) = true →
    sumL (fun z => left z && !z.sameKey (sk qs[j].f.name)) qs = sumL left qs + qs[j].f.bs.length
  | c :: qs, 0, _, hp, hl => by
    obtain ⟨h1, h2⟩ := List.pairwise_cons.1 hp
    have e := sumL_same (left := left) (kl := sk c.f.name) (qs := qs) (fun x hx e => h1 x hx (sk_inj e).symm)
    have hs : (sk c.f.name).sameKey (sk c.f.name) = true := WideAt.sameKey_self trivial
    have hl' : left (sk c.f.name) = true := hl
    unfold sumL at *
    simp only [List.getElem_cons_zero]
    rw [List.filter_cons_of_pos (by simp [hs]), List.filter_cons_of_neg (by simp [hl']), List.map_cons, List.sum_cons, e]
    omega
  | c :: qs, j + 1, hj, hp, hl => by
    obtain ⟨h1, h2⟩ := List.pairwise_cons.1 hp
    have hj' : j < qs.length := by simpa using hj
    have ih := sumL_step hj' h2 hl
    have hs : (sk c.f.name).sameKey (sk qs[j].f.name) = false := Maps.sameKey_ne (fun e => h1 _ (List.getElem_mem hj') (sk_inj e))
    unfold sumL at *
    simp only [List.getElem_cons_succ]
    cases hl' : left (sk c.f.name)
    · rw [List.filter_cons_of_pos (by simp [hl']), List.filter_cons_of_pos (by simp [hl']), List.map_cons, List.sum_cons, List.map_cons, List.sum_cons, ih]
      omega
    · rw [List.filter_cons_of_neg (by simp [hl', hs]), List.filter_cons_of_neg (by simp [hl']), ih]
section
variable {w : World} {g : Nat} {D : Dk} {F : Nat → Prop} {mb : Nat} {fp : Option Addr} {es : List (Lit × DataW Empty)} {qs : List Cf}
theorem RC.names_ne (h : RC w g D F mb fp es qs) : qs.Pairwise (fun a b => a.f.name ≠ b.f.name) := by
  have h1 := h.ok.sorted
  rw [← h.eq] at h1
  exact (List.pairwise_map.1 h1).imp (fun hh => nl_ne hh)
/-- What the map says at a key is a file's block. -/
theorem RC.entry (h : RC w g D F mb fp es qs) {kl : Lit} {y : DataW Empty} (hat : ∀ zd, (DataW.map es).atKey kl zd = y) : ∃ j, ∃ hj : j < qs.length, kl = sk qs[j].f.name ∧ y = .lit (.int .i64 (qs[j].q : Int)) := by
  have hh := Maps.has_true_of_atKey hat
  obtain ⟨p, hp, hpk⟩ := List.any_eq_true.1 hh
  have e1 := WideAt.sameKey_eq hpk
  obtain ⟨c, hc, hce⟩ := List.mem_map.1 (h.perm.mem_iff.1 hp)
  obtain ⟨j, hj, rfl⟩ := List.mem_iff_getElem.1 hc
  obtain ⟨es', e, hap, hkk⟩ := h.map.entries lawK
  injection e with e
  subst e
  have e2 := WideAt.atKey_mem (entries := es) (k := p.1) (d := p.2) .nil (hkk p hp) hap hp
  rw [e1, hat] at e2
  refine ⟨j, hj, ?_, ?_⟩
  · rw [← e1, ← hce]
    rfl
  · rw [e2, ← hce]
    rfl
/-- A file's cells and bytes. -/
theorem RC.file (h : RC w g D F mb fp es qs) {j : Nat} (hj : j < qs.length) : ∃ A c, qs[j].v = .slice A qs[j].f.bs.length c ∧ w.cell? ⟨qs[j].q, 0, none⟩ = some (.slice A qs[j].f.bs.length c) ∧ w.cell? ⟨qs[j].q, 1, none⟩ = some (.int .i64 (qs[j].f.mark : Int)) ∧ At w A qs[j].f.bs.length qs[j].f.bs ∧ qs[j].f.bs.length ≤ c ∧ c ≤ 9223372036854775807 ∧ (A = none → c = 0) := by
  have hr := h.each _ (List.getElem_mem hj)
  obtain ⟨A, c, hv, h1, h2, h3, h4⟩ := hr.own.form
  refine ⟨A, c, hv, ?_, ?_, h1, h2, h3, h4⟩
  · rw [← hv]
    exact cell_of_row w _ 0 _ _ (0, 0) hr.obj
  · exact cell_of_row w _ 1 _ _ (0, 0) hr.obj
end
set_option maxRecDepth 100000 in
set_option maxHeartbeats 4000000 in
theorem gStored (w : World) (g : Nat) (D : Dk) (F : Nat → Prop) (mb : Nat) (fp : Option Addr) (es : List (Lit × DataW Empty)) (qs : List Cf) (h : RC w g D F mb fp es qs) :
    Calls Try.prog 50 #[pt g] w fun e w' => e = .returned (.int .i64 (sum D.l : Nat)) ∧ Below w.heap.size w w' := by
  have c0 := h.c0
  have hown := h.map
  have hgl := h.lt g h.fg
  have H := Lib.hid h
  have hsum := h.ok.sum
  clear h
  go_enter Try.func50, Try.ntmps50
  go_wp2_with (first
    | (at_range; refine wpList_range_own _ rfl _ 65 rfl 9 71 lawK Try.underlying65 _ mb 20 _ rfl hown ?_; intro w0 hrg0 hg0 hs0))
  go_frame
  go_loopw [3] (fun nv wr => ∃ (left : Lit → Bool) (cnt m : Nat), wr.ranges Try.prog 9 fE mb w.heap.size 20 (.map es) left cnt ∧ Below w.heap.size w wr ∧ nv = .int .i64 m ∧ m = sumL left qs)
    (fun _ wr => wr.rangeLeft mb w.heap.size)
  case atStart =>
    refine ⟨_, _, 0, hrg0, ⟨hg0.os, hg0.tape, hg0.output, hg0.size, fun k hk => hg0.block k hk (by simp)⟩, rfl, ?_⟩
    refine (sumL_none (fun c hc => ?_)).symm
    exact List.any_eq_true.2 ⟨c.ent, H.out.perm.mem_iff.2 (List.mem_map.2 ⟨c, hc, rfl⟩), WideAt.sameKey_self trivial⟩
  case round =>
    obtain ⟨left, cnt, m, hrg, hbl, rfl, hm⟩ := hrel
    have HM := Lib.hid hm
    clear hm
    go_wp2_with (first
      | (at_next; refine wpList_next_ranges _ rfl _ rfl 9 lawK fE Value.string Value.pointer (fun key kl hk => by obtain ⟨s, e, _⟩ := WideMaps.string_of_keyOf Try.underlying9 hk; exact ⟨s, e⟩) (fun v y hv => by rcases fE_shape hv with ⟨q, e, _⟩ | ⟨e, _⟩ <;> exact ⟨_, e⟩) mb w.heap.size 20 _ _ _ rfl hrg ?_ ?_))
    · intro _ hl0
      have e : (m : Int) = (sum D.l : Nat) := by rw [HM.out, sumL_all hl0, H.out.eq]
      go_wp2
      go_ret
      exact ⟨by rw [e]; rfl, hbl⟩
    · intro x c kl y yp w1 cnt1 hkx hlk hRv hat hrg1 hlt hg1 hs1 hen
      obtain ⟨j, hj, rfl, hy⟩ := H.out.entry hat
      have hc : c = some ⟨qs[j].q, 0, none⟩ := by
        rcases fE_shape hRv with ⟨q, e, e2⟩ | ⟨e, e2⟩
        · have e3 : (DataW.lit (.int .i64 (qs[j].q : Int)) : DataW Empty) = .lit (.int .i64 (q : Int)) := hy.symm.trans (congrArg Prod.fst e2)
          have e4 : qs[j].q = q := Int.ofNat_inj.1 (Lit.int.inj (DataW.lit.inj e3)).2
          rw [e4]
          injection e
        · have e3 : (DataW.lit (.int .i64 (qs[j].q : Int)) : DataW Empty) = .nil := hy.symm.trans (congrArg Prod.fst e2)
          cases e3
      subst hc
      have hbl1 : Below w.heap.size w w1 := ⟨hg1.os.trans hbl.os, hg1.tape.trans hbl.tape, hg1.output.trans hbl.output, by rw [hs1]; exact hbl.size, fun k hk => (hg1.block k (by have := hbl.size; omega) (by intro e; injection e with e; omega)).trans (hbl.block k hk)⟩
      obtain ⟨A, cc, _, hd0, _, _, _⟩ := (H.out.below hbl1).file hj
      have hst := sumL_step (left := left) hj H.out.names_ne hlk
      have hle : m + qs[j].f.bs.length ≤ 4194304 := by
        have h1 := sumL_le (fun z => left z && !z.sameKey (sk qs[j].f.name)) qs
        rw [H.out.eq, hst, ← HM.out] at h1
        omega
      have hw : IntKind.i64.wrap ((m : Int) + (qs[j].f.bs.length : Int)) = (m : Int) + (qs[j].f.bs.length : Int) := IntWalk.i64_in _ (by omega)
      have HS := Lib.hid (show m + qs[j].f.bs.length = sumL (fun z => left z && !z.sameKey (sk qs[j].f.name)) qs by rw [hst, HM.out])
      generalize hL : qs[j].f.bs.length = L at *
      generalize hQ : qs[j].q = q at *
      clear hst hat hRv hy
      go_wp2_with fail
      go_roundw
      case rel => exact ⟨_, cnt1, m + L, hrg1, hbl1, by go_num, HS.out⟩
      case measure => rw [hrg1.left_eq, hrg.left_eq]; exact hlt
end Go.Proofs.Ytkhalpajomammaa
