/-
  Words for memory that all texts of this seat use: a slice of bytes that reads as a list, and how that is kept.
  A row of bytes of the call's own.
  What an object's calls leave as it was.
  Blocks known whole; bytes that a literal lays; 'make([]byte, n)'.
  What a walk has of its own: things that lie apart in memory, each on blocks of its own.
  Plain facts on numbers and their bytes: no program.
  The helper Bring of the statements.
  The helpers of the statements: EqBytes, CopyBytes, Bring.
  The document's answers: Num.
  quill.Join.
-/
import Derived.Test.YtgccichmdddbpaaGreatDoorRows
import Derived.WalkKit
import Derived.WalkSpells
import Derived.WalkLawsBesides
import Derived.Deep.AppendLies
import Derived.Maps.AppendAt
import Derived.RegionTactic
import Derived.OwnWalk
import Derived.Lib.Hide
import Derived.Deep.Draws
import Derived.Deep.QuietTactic
import Derived.BigQuiet
import Derived.Outline
import Derived.Lib.AppendStr
import Derived.Laws.BytesArg
import Derived.Deep.RegionWith
import Derived.Deep.RegionHeld3
import Derived.Laws.OwnMore
import Derived.Laws.MakeOwn
set_option linter.unusedVariables false
namespace Go.Proofs.YtgccichmdddbpaaGreatDoor
open Go.RowKit

def bv (b : UInt8) : Value := .int .u8 (b.toNat : Int)

/-- 'n' bytes from A on: xs. -/
def At (w : World) (A : Option Addr) (n : Nat) (xs : List UInt8) : Prop :=
  xs.length = n ∧ (0 < n → ∃ b o, A = some ⟨b, o, none⟩ ∧ ∀ i, (h : i < xs.length) → w.cell? ⟨b, o + i, none⟩ = some (.int .u8 (xs[i].toNat : Int)))

section
variable {w w' : World} {A : Option Addr} {n : Nat} {xs : List UInt8}

theorem At.len (h : At w A n xs) : xs.length = n := h.1
theorem At.nil (w : World) (A : Option Addr) : At w A 0 [] := ⟨rfl, fun h => absurd h (by omega)⟩
theorem At.at_ (h : At w A n xs) (hn : 0 < n) : ∃ b o, A = some ⟨b, o, none⟩ ∧ ∀ i, (h : i < xs.length) → w.cell? ⟨b, o + i, none⟩ = some (.int .u8 (xs[i].toNat : Int)) := h.2 hn
theorem At.keep (h : At w A n xs) (hk : ∀ p : Addr, p.block < w.heap.size → w'.cell? p = w.cell? p) : At w' A n xs := by
  refine ⟨h.1, fun hn => ?_⟩
  obtain ⟨b, o, e, hc⟩ := h.2 hn
  refine ⟨b, o, e, fun i hi => ?_⟩
  have := hc i hi
  rw [hk _ (World.block_lt_of_cell? w _ this)]
  exact this
theorem At.below {B : Nat} (h : At w A n xs) (hb : Below B w w') (hB : w.heap.size ≤ B) : At w' A n xs := h.keep fun _ hp => hb.cell (by omega)
theorem At.below' (h : At w A n xs) (hb : Below w.heap.size w w') : At w' A n xs := h.keep fun _ hp => hb.cell hp
theorem At.drewN (h : At w A n xs) (k : Nat) : At (w.drewN k) A n xs := h
theorem At.drew (h : At w A n xs) : At w.drew A n xs := h
theorem At.alloc (h : At w A n xs) (o : Obj) : At (w.alloc o) A n xs := h.keep fun p hp => World.cell?_alloc_lt w o p hp
end

theorem bv_one (l : List UInt8) : ∀ u ∈ l.map bv, u.oneCell' = true := by
  intro u hu
  obtain ⟨b, _, rfl⟩ := List.mem_map.1 hu
  rfl


theorem run_append_none {P : Program} (w : World) (base : Nat) (t ty e : TypeId) (i : TypeInfo) (size : Nat) (ht : P.underlying t = some (.slice e)) (hi : P.info? e = some i)
    (v : Value) (n : Nat) (xs : List Value) (hown : w.ownsRow base e size v n xs) (c : Nat) :
    (Builtin.append_ #[t, t] ty #[v, .slice none 0 c]).run P w = .ok v w := by
  rcases hown.2 with ⟨rfl, rfl⟩ | ⟨g, cap, cur, rfl, _, _, hnc, _⟩
  · simp [Builtin.append_, run_underlying ht, sizeOf, typeInfo, hi, Builtin.lenOf, Builtin.firstCells]
  · simp [Builtin.append_, run_underlying ht, sizeOf, typeInfo, hi, Builtin.lenOf, Builtin.firstCells, hnc, storeCells]

theorem cap_le {need old : Nat} (h : old < need) : Builtin.nextslicecap need old ≤ need + need / 4 + 512 := by
  unfold Builtin.nextslicecap
  split
  · omega
  · split
    · omega
    · rw [growBy_four]
      repeat' split
      all_goals omega

/-- append onto a row of one's own, of bytes that lie at an address: up to 225000000000000 bytes. -/
theorem run_app {P : Program} (w : World) (base : Nat) (t ty e : TypeId) (i : TypeInfo) (ht : P.underlying t = some (.slice e)) (hi : P.info? e = some i) (hz : i.zero = some (.int .u8 0))
    (hsize : i.size = 1) (hby : i.bytes = 1) (v : Value) (n : Nat) (xs ys : List UInt8) (hown : w.ownsRow base e 1 v n (xs.map bv))
    (ad : Addr) (m c : Nat) (hr : At w (some ad) m ys) (hbytes : n + m ≤ 225000000000000) (hbase : base ≤ w.heap.size) :
    ∃ v' w', (Builtin.append_ #[t, t] ty #[v, .slice (some ad) m c]).run P w = .ok v' w' ∧ w'.ownsRow base e 1 v' (n + m) ((xs ++ ys).map bv) ∧ w.grownBy w' v.ownBlock ∧
      (v'.ownBlock = v.ownBlock ∨ v'.ownBlock = some w.heap.size) := by
  have hnews : ∀ j u, (ys.map bv)[j]? = some u → w.cell? (ad.add j) = some u := by
    intro j u hj
    have hjl : j < ys.length := by
      rcases Nat.lt_or_ge j ys.length with h0 | h0
      · exact h0
      · rw [List.getElem?_eq_none (by simpa using h0)] at hj
        cases hj
    obtain ⟨b, off, hh, hc⟩ := hr.2 (by have := hr.1; omega)
    injection hh with hh
    subst hh
    rw [List.getElem?_map, List.getElem?_eq_getElem hjl] at hj
    injection hj with hj
    subst hj
    rw [Go.WideShapes.add_plain]
    exact hc j hjl
  have hyl : (ys.map bv).length = m * i.size := by rw [hsize]; simp [hr.1]
  have hxl : (xs.map bv).length = n := by simpa using hown.1
  have hlen : ((xs ++ ys).map bv).length = (n + m) * 1 := by
    rw [List.map_append, List.length_append, hxl, hyl, hsize]
    omega
  have grown : ∀ (old : Nat), (w.drew.alloc (.cells ((xs.map bv).toArray ++ (ys.map bv).toArray ++ Builtin.zeroCells (Value.int .u8 0).cells (grownCap w (n + m) old e - (n + m))) e)).ownsRow base e 1
        (.slice (some ⟨w.heap.size, 0, none⟩) (n + m) (grownCap w (n + m) old e)) (n + m) ((xs ++ ys).map bv) := by
    intro old
    have hge := grownCap_ge w (n + m) old e
    have hcm : grownCap w (n + m) old e ≤ maxLen := grownCap_le_maxLen w (n + m) old e (by unfold maxLen; omega)
    refine ⟨hlen, .inr ⟨w.heap.size, _, _, rfl, hbase, heap_alloc_new w.drew _, hge, hcm, ?_, ?_⟩⟩
    · have hz1 : (Value.int IntKind.u8 0).cells.size = 1 := rfl
      simp only [Array.size_append, List.size_toArray, size_zeroCells, hz1, hxl, hyl, hsize]
      omega
    · simp only [Array.toList_append, List.append_assoc]
      rw [← List.append_assoc, ← List.map_append, ← hlen]
      exact List.take_left
  have grownB : ∀ (o : Obj) (row : Option Nat), w.grownBy (w.drew.alloc o) row := fun o row => ⟨rfl, rfl, rfl, by simp, fun k hk _ => heap_alloc_old w.drew o hk⟩
  rcases hown.2 with ⟨rfl, rfl⟩ | ⟨g, cap, cur, rfl, hbg, hg, hnc, hcm, hcs, htake⟩
  · obtain rfl : xs = [] := by simpa using hown.1
    by_cases hm : m = 0
    · subst hm
      obtain rfl : ys = [] := List.eq_nil_of_length_eq_zero hr.1
      refine ⟨.slice none 0 0, w, ?_, World.ownsRow_nil w base e 1, World.grownBy.refl w _, Or.inl rfl⟩
      simp [Builtin.append_, run_underlying ht, sizeOf, typeInfo, hi, Builtin.lenOf, Builtin.firstCells, loadCells, loadCellsFrom]
    · have hr' := run_append_nil (P := P) w t ty e i _ ht hi hz ad m c _ hyl hnews (by omega) (by omega) (by rw [hby]; omega)
      have hgr := grown 0
      simp only [Nat.zero_add, List.nil_append, List.map_nil, Array.empty_append] at hgr ⊢
      exact ⟨_, _, hr', hgr, grownB _ _, Or.inr rfl⟩
  · by_cases hroom : n + m ≤ cap
    · have hfit : n * i.size + (ys.map bv).length ≤ cur.size := by rw [hyl, hcs, hsize]; omega
      have hr' := run_append_room (P := P) w t ty e i ht hi g n cap cur hg ad m c _ hyl hnews (bv_one _) hroom hfit
      refine ⟨_, _, hr', ⟨hlen, .inr ⟨g, cap, _, rfl, hbg, setRow_heap w g cur _ e _ hg, hroom, hcm, ?_, ?_⟩⟩, ⟨rfl, rfl, rfl, by simp, fun k _ hk => setRow_other w g k _ (fun e => hk (by simp [Value.ownBlock, e]))⟩, Or.inl rfl⟩
      · simp only [List.size_toArray, List.length_append, List.length_take, List.length_drop, Array.length_toList]
        omega
      · rw [hsize, htake, ← hlen, List.map_append]
        exact List.take_left
    · have holds : ∀ j u, (xs.map bv)[j]? = some u → w.cell? ((⟨g, 0, none⟩ : Addr).add j) = some u := hown.cells (g := g) rfl
      have hr' := run_append_grow (P := P) w t ty e i _ ht hi hz ⟨g, 0, none⟩ n cap _ (by rw [hsize]; omega) holds ad m c _ hyl hnews (by omega) (by omega) (by
        have := cap_le (need := n + m) (old := cap) (by omega)
        rw [hby]
        omega)
      exact ⟨_, _, hr', grown cap, grownB _ _, Or.inr rfl⟩

/-- 'append(v, ys...)', v the call's own, ys bytes that lie anywhere: at the operation. -/
theorem wp_app {P : Program} {w : World} {o : Oper} {a : Act} {K : Act → World → Prop} {Q : Exit → Act → World → Prop} (s x : Operand) (t : TypeId)
    (ho : o.op = .call { callee := .builtin .append, args := #[s, x], argTypes := #[t, t] })
    (base : Nat) (e : TypeId) (ht : P.underlying t = some (.slice e)) (hinfo : (P.info? e).map (fun i => (i.zero, i.size, i.bytes)) = some (some (.int .u8 0), 1, 1))
    (v : Value) (n : Nat) (xs ys : List UInt8) (hs : a.eval s = v) (hown : w.ownsRow base e 1 v n (xs.map bv))
    (A : Option Addr) (m c : Nat) (hx : a.eval x = .slice A m c) (hr : At w A m ys) (hbytes : n + m ≤ 225000000000000) (hbase : base ≤ w.heap.size)
    (h : ∀ v' w', w'.ownsRow base e 1 v' (n + m) ((xs ++ ys).map bv) → w.grownBy w' v.ownBlock → (v'.ownBlock = v.ownBlock ∨ v'.ownBlock = some w.heap.size) → K (a.put o.dst v') w') :
    o.wp P a w K Q := by
  obtain ⟨i, hi, hz, hsz, hby⟩ := info_parts hinfo
  cases A with
  | none =>
    have hm : m = 0 := by
      rcases Nat.eq_zero_or_pos m with h0 | h0
      · exact h0
      · obtain ⟨b, o, hh, _⟩ := hr.2 h0
        cases hh
    subst hm
    obtain rfl : ys = [] := List.eq_nil_of_length_eq_zero hr.1
    have hrun := run_append_none (P := P) w base t o.type e i 1 ht hi v n _ hown c
    unfold Oper.wp execOp
    simp only [ho, resolve, invoke, builtin, Sem.run_bind, Sem.run_pure, Result.andThen_ok, List.map_toArray, List.map_cons, List.map_nil, hs, hx, hrun]
    exact h v w (by simpa using hown) (World.grownBy.refl w _) (.inl rfl)
  | some ad =>
    obtain ⟨v', w', hrun, h2, h3, h4⟩ := run_app (P := P) w base t o.type e i ht hi hz hsz hby v n xs ys hown ad m c hr hbytes hbase
    unfold Oper.wp execOp
    simp only [ho, resolve, invoke, builtin, Sem.run_bind, Sem.run_pure, Result.andThen_ok, List.map_toArray, List.map_cons, List.map_nil, hs, hx, hrun]
    exact h v' w' h2 h3 h4

theorem wpList_app {P : Program} {w : World} {ops : Array Oper} {rest : List Oper} {o : Oper} {a : Act} {Q : Exit → Act → World → Prop} (hgd : o.guard = none) (s x : Operand) (t : TypeId)
    (ho : o.op = .call { callee := .builtin .append, args := #[s, x], argTypes := #[t, t] })
    (base : Nat) (e : TypeId) (ht : P.underlying t = some (.slice e)) (hinfo : (P.info? e).map (fun i => (i.zero, i.size, i.bytes)) = some (some (.int .u8 0), 1, 1))
    (v : Value) (n : Nat) (xs ys : List UInt8) (hs : a.eval s = v) (hown : w.ownsRow base e 1 v n (xs.map bv))
    (A : Option Addr) (m c : Nat) (hx : a.eval x = .slice A m c) (hr : At w A m ys) (hbytes : n + m ≤ 225000000000000) (hbase : base ≤ w.heap.size)
    (h : ∀ v' w', w'.ownsRow base e 1 v' (n + m) ((xs ++ ys).map bv) → w.grownBy w' v.ownBlock → (v'.ownBlock = v.ownBlock ∨ v'.ownBlock = some w.heap.size) → wpList P ops Q rest (a.put o.dst v') w') :
    wpList P ops Q (o :: rest) a w :=
  wpList_plain hgd fun _ hK => wp_app s x t ho base e ht hinfo v n xs ys hs hown A m c hx hr hbytes hbase fun v' w' h1 h2 h3 => hK _ _ (h v' w' h1 h2 h3)

/-- Where 's[l:..:m]' begins. -/
def cutA (A : Option Addr) (m l : Nat) : Option Addr := if m = l then A else A.map (·.add (l * 1))

theorem sliced_cutA (A : Option Addr) (l h m : Nat) : sliced A l h m 1 = .slice (cutA A m l) (h - l) (m - l) := by
  unfold sliced cutA
  rfl
theorem cutA_zero (A : Option Addr) (m : Nat) : cutA A m 0 = A := by
  unfold cutA
  split
  · rfl
  · cases A with
    | none => rfl
    | some a => simp [Addr.add]

theorem At.cut {w : World} {A : Option Addr} {n : Nat} {xs : List UInt8} (h : At w A n xs) {l k m : Nat} (h1 : l ≤ k) (h2 : k ≤ n) (h3 : k ≤ m) : At w (cutA A m l) (k - l) ((xs.take k).drop l) := by
  have hl := h.1
  refine ⟨by rw [List.length_drop, List.length_take]; omega, fun h0 => ?_⟩
  obtain ⟨b, o, rfl, hc⟩ := h.2 (by omega)
  refine ⟨b, o + l, ?_, fun i hi => ?_⟩
  · unfold cutA
    rw [if_neg (by omega)]
    simp only [Option.map_some, Nat.mul_one]
    rw [Go.WideShapes.add_plain]
  · rw [List.length_drop, List.length_take] at hi
    rw [Nat.add_assoc, hc (l + i) (by omega)]
    simp

theorem slb_size (w : World) : (sizeOf 5).run Tryz.prog w = .ok 1 w := by kernel_rfl
theorem slb_elem : Tryz.prog.elem 164 = 5 := by kernel_rfl
theorem slb_under : Tryz.prog.underlying 164 = some (.slice (Tryz.prog.elem 164)) := by rw [slb_elem]; exact Tryz.underlying164

theorem slb_l (A : Option Addr) (n c : Nat) (kl : IntKind) (l : Int) (w : World) (h0 : 0 ≤ l) (h1 : l ≤ n) :
    (Instr.slice 164 (.slice A n c) (some (.int kl l)) none none).run Tryz.prog w = .ok (.slice (cutA A c l.toNat) (n - l.toNat) (c - l.toNat)) w := by
  rw [run_slice_l w 164 A n c slb_under kl l h0 h1, slb_elem, slb_size]
  simp only [Result.andThen, sliced_cutA]
/-- 'string(b)' of bytes that lie so. -/
theorem At.conv {P : Program} {w : World} {A : Option Addr} {n : Nat} {xs : List UInt8} (h : At w A n xs) (c : Nat) (src e dst : TypeId)
    (hs : P.underlying src = some (.slice e)) (he : P.underlying e = some (.int .u8)) (hd : P.underlying dst = some .string) :
    (convert src dst (.slice A n c)).run P w = .ok (.string ⟨xs.toArray⟩) w := by
  rcases Nat.eq_zero_or_pos n with hn | hn
  · subst hn
    obtain rfl : xs = [] := List.eq_nil_of_length_eq_zero h.1
    rw [run_convert_bytes_string w src dst e _ 0 c hs he hd]
    cases A <;> simp [Conv.bytesToString, loadCells]
    all_goals rfl
  · obtain ⟨b, o, rfl, hc⟩ := h.2 hn
    have hl := h.1
    have hr := run_convert_bytes_arg (P := P) w src e hs he b o n c (xs.map fun x => (x.toNat : Int)) (by simp [hl]) (fun i hi => by
      have hi' : i < xs.length := by omega
      rw [hc i hi']
      simp [List.getD, List.getElem?_eq_getElem hi']) dst hd
    rw [hr]
    have : strOfNums (xs.map fun x => (x.toNat : Int)) = ⟨xs.toArray⟩ := by
      unfold strOfNums
      simp [List.map_map, Function.comp_def]
    rw [this]

end Go.Proofs.YtgccichmdddbpaaGreatDoor
set_option linter.unusedVariables false
namespace Go.Proofs.YtgccichmdddbpaaGreatDoor
open Go.RowKit

theorem info5 : (Tryz.prog.info? 5).map (fun i => (i.zero, i.size, i.bytes)) = some (some (.int .u8 0), 1, 1) := by kernel_rfl

/-- What a call hands back in memory of its own. -/
def Own (w : World) (base : Nat) (v : Value) (xs : List UInt8) : Prop := w.ownsRow base 5 1 v xs.length (xs.map bv)

theorem Own.base {w : World} {B B' : Nat} {v : Value} {xs : List UInt8} (h : Own w B v xs) (hB : B' ≤ B) : Own w B' v xs := by
  refine ⟨h.1, ?_⟩
  rcases h.2 with hn | ⟨g, cap, cur, hv, hb, rest⟩
  · exact .inl hn
  · exact .inr ⟨g, cap, cur, hv, by omega, rest⟩
theorem Own.form {w : World} {B : Nat} {v : Value} {xs : List UInt8} (h : Own w B v xs) : ∃ A c, v = .slice A xs.length c ∧ At w A xs.length xs ∧ xs.length ≤ c ∧ c ≤ 9223372036854775807 ∧ (A = none → c = 0) := by
  rcases h.2 with ⟨rfl, hn⟩ | ⟨g, cap, cur, rfl, hb, hg, hnc, hcm, _⟩
  · exact ⟨none, 0, by rw [hn], ⟨rfl, fun h0 => by omega⟩, by omega, by omega, fun _ => rfl⟩
  · refine ⟨_, cap, rfl, ⟨rfl, fun h0 => ⟨g, 0, rfl, fun i hi => ?_⟩⟩, hnc, hcm, fun h => by cases h⟩
    have hc := World.ownsRow.cells h (g := g) rfl i (bv xs[i]) (by simp [hi])
    rw [Go.WideShapes.add_plain] at hc
    simpa [bv] using hc

theorem Own.at_ {w : World} {B : Nat} {A : Option Addr} {n c : Nat} {xs : List UInt8} (h : Own w B (.slice A n c) xs) : At w A n xs := by
  obtain ⟨A', c', e, hat, _⟩ := h.form
  injection e with e1 e2 _
  rw [e1, e2]
  exact hat
theorem Own.len {w : World} {B : Nat} {A : Option Addr} {n c : Nat} {xs : List UInt8} (h : Own w B (.slice A n c) xs) : xs.length = n := h.at_.1

theorem own_one {w : World} {B : Nat} {x : Int} {b : UInt8} (hB : B ≤ w.heap.size) (h : x = (b.toNat : Int)) :
    (w.alloc (.cells #[.int .u8 x] 5)).ownsRow B 5 1 (.slice (some ⟨w.heap.size, 0, none⟩) 1 1) 1 ([b].map bv) := by
  subst h
  exact World.ownsRow_lit w #[bv b] 1 hB (by decide) rfl

section
variable {w w' : World} {B g m c : Nat} {xs : List UInt8}
theorem Own.row (h : Own w B (.slice (some ⟨g, 0, none⟩) m c) xs) : w.ownsRow B 5 1 (.slice (some ⟨g, 0, none⟩) m c) m (xs.map bv) := by
  have hl := h.len
  unfold Own at h
  rw [hl] at h
  exact h
theorem Own.cell (h : Own w B (.slice (some ⟨g, 0, none⟩) m c) xs) (k : Nat) (hk : k < m) : w.cell? ⟨g, k, none⟩ = some (.int .u8 ((xs[k]'(by rw [h.len]; exact hk)).toNat : Int)) := by
  have hl := h.len
  have := h.row.cellAt k (by omega)
  rw [this, List.getElem?_map, List.getElem?_eq_getElem (by omega)]
  rfl
theorem Own.free (h : Own w B (.slice (some ⟨g, 0, none⟩) m c) xs) (k : Nat) : w.frozen? ⟨g, k, none⟩ = false := h.row.frozenAt k
theorem Own.set (h : Own w B (.slice (some ⟨g, 0, none⟩) m c) xs) (k : Nat) (y : UInt8) : Own (w.setCell ⟨g, k, none⟩ (bv y)) B (.slice (some ⟨g, 0, none⟩) m c) (xs.set k y) := by
  have h1 := (h.row.stored k (bv y)).1
  unfold Own
  rw [List.length_set, h.len, List.map_set]
  exact h1
theorem Own.far {v : Value} {p : Addr} (h : Own w B v xs) (hp : p.block < B) (u : Value) : Own (w.setCell p u) B v xs := ownsRow_setCell_below h hp u
theorem Own.below {v : Value} (h : Own w B v xs) (hb : Below w.heap.size w w') : Own w' B v xs :=
  World.ownsRow.kept h (row := none) ⟨hb.os, hb.tape, hb.output, hb.size, fun k hk _ => hb.block k hk⟩ (by
    cases hv : v.ownBlock with
    | none => exact .inl rfl
    | some q => exact .inr (by simp))
theorem Own.drewN {v : Value} (h : Own w B v xs) (k : Nat) : Own (w.drewN k) B v xs := h
theorem Own.some_ {A : Option Addr} (h : Own w B (.slice A m c) xs) (hm : 0 < m) : ∃ g, A = some ⟨g, 0, none⟩ ∧ B ≤ g ∧ g < w.heap.size := by
  obtain ⟨g, cap, hv, h1, h2⟩ := World.ownsRow.form h (by rw [h.len]; exact hm)
  injection hv with e _ _
  exact ⟨g, e, h1, h2⟩
end

end Go.Proofs.YtgccichmdddbpaaGreatDoor
set_option linter.unusedVariables false
namespace Go.Proofs.YtgccichmdddbpaaGreatDoor
open Go.RowKit

abbrev pt (g : Nat) : Value := .pointer (some ⟨g, 0, none⟩)

/-! ### an object's blocks -/
def nF (F : Nat → Prop) (V V' : World) : Nat → Prop := fun k => F k ∨ (V.heap.size ≤ k ∧ k < V'.heap.size)
/-- Only the blocks of F, and new ones, have changed. -/
structure Grow (F : Nat → Prop) (V V' : World) : Prop where
  os : V'.os = V.os
  tape : V'.tape = V.tape
  output : V'.output = V.output
  size : V.heap.size ≤ V'.heap.size
  block : ∀ k, k < V.heap.size → ¬ F k → V'.heap[k]? = V.heap[k]?
section
variable {F G : Nat → Prop} {V V1 V2 w : World} {B : Nat}
theorem Grow.refl (F : Nat → Prop) (V : World) : Grow F V V := ⟨rfl, rfl, rfl, Nat.le_refl _, fun _ _ _ => rfl⟩
theorem Grow.of_below (h : Below V.heap.size V V1) : Grow F V V1 := ⟨h.os, h.tape, h.output, h.size, fun k hk _ => h.block k hk⟩
theorem Grow.trans (h : Grow F V V1) (h2 : Grow (nF F V V1) V1 V2) : Grow F V V2 :=
  ⟨h2.os.trans h.os, h2.tape.trans h.tape, h2.output.trans h.output, Nat.le_trans h.size h2.size, fun k hk hn =>
    (h2.block k (Nat.lt_of_lt_of_le hk h.size) (fun e => e.elim hn (fun e => by omega))).trans (h.block k hk hn)⟩
theorem Grow.mono (h : Grow F V V1) (hs : ∀ k, F k → G k) : Grow G V V1 := ⟨h.os, h.tape, h.output, h.size, fun k hk hn => h.block k hk (fun e => hn (hs k e))⟩
theorem Grow.set (h : Grow F V V1) {p : Addr} (hp : F p.block ∨ V.heap.size ≤ p.block) (u : Value) : Grow F V (V1.setCell p u) :=
  ⟨h.os, h.tape, h.output, by rw [World.setCell]; simp only [Array.size_modify]; exact h.size, fun k hk hn => by
    simp only [World.setCell, Array.getElem?_modify]
    rw [if_neg (fun e => by rcases hp with hp | hp; exact hn (e ▸ hp); omega)]
    exact h.block k hk hn⟩
theorem Grow.drewN (h : Grow F V V1) (n : Nat) : Grow F V (V1.drewN n) := ⟨h.os, h.tape, h.output, h.size, h.block⟩
theorem Grow.below (hb : Below B w V) (hB : B ≤ V.heap.size) (hF : ∀ k, F k → B ≤ k) (h : Grow F V V1) : Below B w V1 :=
  ⟨h.os.trans hb.os, h.tape.trans hb.tape, h.output.trans hb.output, Nat.le_trans hb.size h.size, fun k hk => (h.block k (by omega) (fun e => by have := hF k e; omega)).trans (hb.block k hk)⟩
theorem Grow.by_ {r : Option Nat} (h : V.grownBy V1 r) (hr : ∀ k, r = some k → F k) : Grow F V V1 := ⟨h.os, h.tape, h.output, h.size, fun k hk hn => h.block k hk (fun e => hn (hr k e.symm))⟩
theorem nF_trans (h : V.heap.size ≤ V1.heap.size) (h2 : V1.heap.size ≤ V2.heap.size) : nF (nF F V V1) V1 V2 = nF F V V2 := by
  funext k
  unfold nF
  refine propext ⟨fun e => ?_, fun e => ?_⟩
  · rcases e with (e | e) | e
    · exact .inl e
    · exact .inr (by omega)
    · exact .inr (by omega)
  · rcases e with e | e
    · exact .inl (.inl e)
    · by_cases hk : k < V1.heap.size
      · exact .inl (.inr ⟨e.1, hk⟩)
      · exact .inr ⟨by omega, e.2⟩
end

/-- What a call makes of an object. -/
def Turns {S : Type} (R : World → Nat → S → (Nat → Prop) → Prop) (V : World) (g : Nat) (F : Nat → Prop) (D' : S) (V' : World) : Prop := R V' g D' (nF F V V') ∧ Grow F V V'
theorem Turns.trans {S : Type} {R : World → Nat → S → (Nat → Prop) → Prop} {V V1 V2 : World} {g : Nat} {F : Nat → Prop} {D1 D2 : S} (h : Grow F V V1) (h2 : Turns R V1 g (nF F V V1) D2 V2) : Turns R V g F D2 V2 :=
  ⟨nF_trans h.size h2.2.size ▸ h2.1, h.trans h2.2⟩

theorem nbl (V : World) (o : Obj) : Below V.heap.size V (V.alloc o) := (Below.refl _ _).alloc (Nat.le_refl _) o
theorem bst {X V Y : World} (h : Below X.heap.size X V) (hb : Below V.heap.size V Y) : Below X.heap.size X Y := h.trans (hb.mono h.size)
theorem bsa {X V : World} (h : Below X.heap.size X V) (o : Obj) : Below X.heap.size X (V.alloc o) := h.alloc h.size o
def InF (F : Nat → Prop) (A : Option Addr) : Prop := ∀ a, A = some a → F a.block
end Go.Proofs.YtgccichmdddbpaaGreatDoor
set_option linter.unusedVariables false
namespace Go.Proofs.YtgccichmdddbpaaGreatDoor
open Go.RowKit

/-- A block that is known whole. -/
def Blk (w : World) (g : Nat) (t : TypeId) (cs : Array Value) : Prop := w.heap[g]? = some (.cells cs t (0, 0))

section
variable {w w' : World} {g : Nat} {t : TypeId} {cs : Array Value}
theorem Blk.cell (h : Blk w g t cs) (i : Nat) : w.cell? ⟨g, i, none⟩ = cs[i]? := cell_of_row w g i cs t (0, 0) h
theorem Blk.frozen (h : Blk w g t cs) (i : Nat) : w.frozen? ⟨g, i, none⟩ = false := by
  unfold Blk at h
  simp [World.frozen?, h]
theorem Blk.lt (h : Blk w g t cs) : g < w.heap.size := by
  rcases Nat.lt_or_ge g w.heap.size with hlt | hge
  · exact hlt
  · unfold Blk at h; rw [Array.getElem?_eq_none hge] at h; cases h
theorem Blk.new (w : World) (t : TypeId) (cs : Array Value) : Blk (w.alloc (.cells cs t)) w.heap.size t cs := heap_alloc_new w _
theorem Blk.set_ (h : Blk w g t cs) (i : Nat) (u : Value) : Blk (w.setCell ⟨g, i, none⟩ u) g t (cs.setIfInBounds i u) := by
  unfold Blk at h ⊢
  simp [World.setCell, Array.getElem?_modify, h]
theorem Blk.below {B : Nat} (h : Blk w g t cs) (hb : Below B w w') (hg : g < B) : Blk w' g t cs := (hb.block g hg).trans h
end

/-- 'make([]byte, n)'. -/
theorem make_ (n : Nat) (h : n ≤ 281474976710656) : ∃ M : Array Value, M.size = n ∧ ∀ W : World, (Instr.makeSlice 164 (.int .i64 (n : Int)) (.int .i64 (n : Int))).run Tryz.prog W = .ok (.slice (some ⟨W.heap.size, 0, none⟩) n n) (W.alloc (.cells M 5)) := by
  obtain ⟨i0, hi, hz0, hz1, hz2⟩ := info_parts info5
  refine ⟨madeCells (Value.int .u8 0).cells (((n : Nat) : Int).toNat * i0.size), by rw [size_madeCells, hz1]; simp, fun W => ?_⟩
  have h := run_make (P := Tryz.prog) W 164 5 i0 (.int .u8 0) Tryz.underlying164 hi hz0 .i64 .i64 (n : Int) (n : Int) (by omega) (by omega) (by rw [hz2]; omega) (by omega)
  simpa using h

theorem Blk.at_ {w : World} {g : Nat} {t : TypeId} {cs : Array Value} {l : List UInt8} (h : Blk w g t cs) (o : Nat) (hc : ∀ i, i < l.length → cs[o + i]? = (l[i]?).map bv) : At w (some ⟨g, o, none⟩) l.length l := by
  refine ⟨rfl, fun _ => ⟨g, o, rfl, fun i hi => ?_⟩⟩
  rw [h.cell, hc i hi, List.getElem?_eq_getElem hi]
  rfl

theorem u8_ofNat (m : Nat) : (((UInt8.ofNat m).toNat : Nat) : Int) = (m : Int) % 256 := by rw [UInt8.toNat_ofNat']; omega
end Go.Proofs.YtgccichmdddbpaaGreatDoor
set_option linter.unusedVariables false
namespace Go.Proofs.YtgccichmdddbpaaGreatDoor
open Go.RowKit

/-- What lies in memory on the blocks F: it stays while these stay. -/
structure As where
  p : World → (Nat → Prop) → Prop
  on : ∀ {V V' : World} {F : Nat → Prop}, p V F → V.heap.size ≤ V'.heap.size → (∀ k, F k → V'.heap[k]? = V.heap[k]?) → p V' F
  lt : ∀ {V : World} {F : Nat → Prop}, p V F → ∀ k, F k → k < V.heap.size
def Sep (V : World) : List As → (Nat → Prop) → Prop
  | [], F => ∀ k, ¬ F k
  | A :: l, F => ∃ F1 F2, A.p V F1 ∧ Sep V l F2 ∧ (∀ k, F1 k → ¬ F2 k) ∧ ∀ k, F k ↔ F1 k ∨ F2 k
/-- What the walk has, each apart; nothing older has changed. -/
def Has (w : World) (l : List As) (V : World) : Prop := (∃ F, Sep V l F ∧ ∀ k, F k → w.heap.size ≤ k) ∧ Below w.heap.size w V
section
variable {w V V' : World} {l l' : List As} {A A' B C : As} {F : Nat → Prop}
theorem Sep.on {F : Nat → Prop} (h : Sep V l F) (hs : V.heap.size ≤ V'.heap.size) (hk : ∀ k, F k → V'.heap[k]? = V.heap[k]?) : Sep V' l F := by
  induction l generalizing F with
  | nil => exact h
  | cons A l ih =>
    obtain ⟨F1, F2, h1, h2, h3, h4⟩ := h
    exact ⟨F1, F2, A.on h1 hs (fun k e => hk k ((h4 k).2 (.inl e))), ih h2 (fun k e => hk k ((h4 k).2 (.inr e))), h3, h4⟩
theorem Sep.lt {F : Nat → Prop} (h : Sep V l F) : ∀ k, F k → k < V.heap.size := by
  induction l generalizing F with
  | nil => exact fun k e => absurd e (h k)
  | cons A l ih =>
    obtain ⟨F1, F2, h1, h2, h3, h4⟩ := h
    intro k e
    rcases (h4 k).1 e with e | e
    · exact A.lt h1 k e
    · exact ih h2 k e
theorem Has.bel (h : Has w l V) : Below w.heap.size w V := h.2
theorem Has.size (h : Has w l V) : w.heap.size ≤ V.heap.size := h.2.size
theorem Has.nil (h : Below w.heap.size w V) : Has w [] V := ⟨⟨fun _ => False, fun k e => e, fun k e => e.elim⟩, h⟩
theorem Has.keep (h : Has w l V) (hb : Below V.heap.size V V') : Has w l V' := by
  obtain ⟨⟨F, h1, h2⟩, h3⟩ := h
  exact ⟨⟨F, h1.on hb.size (fun k e => hb.block k (h1.lt k e)), h2⟩, h3.trans (hb.mono h3.size)⟩
theorem Has.alloc (h : Has w l V) (o : Obj) : Has w l (V.alloc o) := h.keep ((Below.refl _ _).alloc (Nat.le_refl _) o)
theorem Has.drewN (h : Has w l V) (n : Nat) : Has w l (V.drewN n) := h.keep ⟨rfl, rfl, rfl, Nat.le_refl _, fun _ _ => rfl⟩
theorem Has.drew (h : Has w l V) : Has w l V.drew := h.keep ⟨rfl, rfl, rfl, Nat.le_refl _, fun _ _ => rfl⟩
theorem Has.get (h : Has w (A :: l) V) : ∃ F, A.p V F ∧ (∀ k, F k → w.heap.size ≤ k) := by
  obtain ⟨⟨F, ⟨F1, F2, h1, h2, h3, h4⟩, h5⟩, h6⟩ := h
  exact ⟨F1, h1, fun k e => h5 k ((h4 k).2 (.inl e))⟩
/-- The first thing turns. -/
theorem Has.step (h : Has w (A :: l) V) : ∃ F, A.p V F ∧ (∀ k, F k → w.heap.size ≤ k) ∧ ∀ (V' : World) (A' : As) (F' : Nat → Prop), Grow F V V' → A'.p V' F' → (∀ k, F' k → nF F V V' k) → Has w (A' :: l) V' := by
  obtain ⟨⟨F, ⟨F1, F2, h1, h2, h3, h4⟩, h5⟩, h6⟩ := h
  refine ⟨F1, h1, fun k e => h5 k ((h4 k).2 (.inl e)), fun V' A' F' hG hA hF => ?_⟩
  have hlt2 := h2.lt
  refine ⟨⟨fun k => F' k ∨ F2 k, ⟨F', F2, hA, h2.on hG.size (fun k e => hG.block k (hlt2 k e) (fun e1 => h3 k e1 e)), fun k e e2 => ?_, fun k => Iff.rfl⟩, fun k e => ?_⟩, hG.below h6 h6.size (fun k e => h5 k ((h4 k).2 (.inl e)))⟩
  · rcases hF k e with e1 | e1
    · exact h3 k e1 e2
    · have := hlt2 k e2; omega
  · rcases e with e | e
    · rcases hF k e with e1 | e1
      · exact h5 k ((h4 k).2 (.inl e1))
      · exact Nat.le_trans h6.size e1.1
    · exact h5 k ((h4 k).2 (.inr e))
theorem Has.turn (h : Has w (A :: l) V) {f : FuncId} {args : Array Value} {v : Value}
    (hc : ∀ F, A.p V F → Calls Tryz.prog f args V fun e w' => e = .returned v ∧ ∃ F', A'.p w' F' ∧ Grow F V w' ∧ ∀ k, F' k → nF F V w' k) :
    Calls Tryz.prog f args V fun e w' => e = .returned v ∧ Has w (A' :: l) w' := by
  obtain ⟨F, h1, _, h2⟩ := h.step
  refine (hc F h1).mono ?_
  rintro e w' ⟨rfl, F', h3, h4, h5⟩
  exact ⟨rfl, h2 w' A' F' h4 h3 h5⟩
/-- A new thing. -/
theorem Has.new (h : Has w l V) (hb : Below V.heap.size V V') (hA : A.p V' F) (hF : ∀ k, F k → V.heap.size ≤ k) : Has w (A :: l) V' := by
  obtain ⟨⟨F2, h1, h2⟩, h3⟩ := h
  have hlt := h1.lt
  refine ⟨⟨fun k => F k ∨ F2 k, ⟨F, F2, hA, h1.on hb.size (fun k e => hb.block k (hlt k e)), fun k e e2 => ?_, fun k => Iff.rfl⟩, fun k e => ?_⟩, h3.trans (hb.mono h3.size)⟩
  · have := hF k e
    have := hlt k e2
    omega
  · rcases e with e | e
    · exact Nat.le_trans h3.size (hF k e)
    · exact h2 k e
theorem Has.tail (h : Has w (A :: l) V) : Has w l V := by
  obtain ⟨⟨F, ⟨F1, F2, h1, h2, h3, h4⟩, h5⟩, h6⟩ := h
  exact ⟨⟨F2, h2, fun k e => h5 k ((h4 k).2 (.inr e))⟩, h6⟩
/-- What is told of the first thing as something else. -/
theorem Has.imp (h : Has w (A :: l) V) (hi : ∀ F, A.p V F → A'.p V F) : Has w (A' :: l) V := by
  obtain ⟨⟨F, ⟨F1, F2, h1, h2, h3, h4⟩, h5⟩, h6⟩ := h
  exact ⟨⟨F, ⟨F1, F2, hi F1 h1, h2, h3, h4⟩, h5⟩, h6⟩
theorem Sep.perm (hp : l.Perm l') : ∀ {F : Nat → Prop}, Sep V l F → Sep V l' F := by
  induction hp with
  | nil => exact fun h => h
  | cons A _ ih => rintro F ⟨F1, F2, h1, h2, h3, h4⟩; exact ⟨F1, F2, h1, ih h2, h3, h4⟩
  | swap A B l =>
    rintro F ⟨F1, F2, h1, ⟨F3, F4, h2, h5, h6, h7⟩, h3, h4⟩
    refine ⟨F3, fun k => F1 k ∨ F4 k, h2, ⟨F1, F4, h1, h5, fun k e e2 => h3 k e ((h7 k).2 (.inr e2)), fun k => Iff.rfl⟩, fun k e e2 => ?_, fun k => ?_⟩
    · rcases e2 with e2 | e2
      · exact h3 k e2 ((h7 k).2 (.inl e))
      · exact h6 k e e2
    · rw [h4, h7]
      constructor
      · rintro (e | e | e)
        · exact .inr (.inl e)
        · exact .inl e
        · exact .inr (.inr e)
      · rintro (e | e | e)
        · exact .inr (.inl e)
        · exact .inl e
        · exact .inr (.inr e)
  | trans _ _ ih1 ih2 => exact fun h => ih2 (ih1 h)
theorem Has.perm (h : Has w l V) (hp : l.Perm l') : Has w l' V := ⟨let ⟨F, h1, h2⟩ := h.1; ⟨F, h1.perm hp, h2⟩, h.2⟩
theorem Has.swap (h : Has w (A :: B :: l) V) : Has w (B :: A :: l) V := h.perm (List.Perm.swap B A l)
/-- From a walk within a walk. -/
theorem Has.base (h : Has V l V') (hb : Below w.heap.size w V) : Has w l V' := ⟨let ⟨F, h1, h2⟩ := h.1; ⟨F, h1, fun k e => Nat.le_trans hb.size (h2 k e)⟩, hb.trans (h.2.mono hb.size)⟩
end

/-- A block that is known whole. -/
def blkA (g : Nat) (t : TypeId) (cs : Array Value) : As where
  p V F := Blk V g t cs ∧ ∀ k, F k ↔ k = g
  on h _ hk := ⟨(hk _ ((h.2 _).2 rfl)).trans h.1, h.2⟩
  lt h k e := ((h.2 k).1 e) ▸ h.1.lt
/-- A row of its own. -/
def rowA (E : TypeId) (size : Nat) (v : Value) (n : Nat) (xs : List Value) : As where
  p V F := V.ownsRow 0 E size v n xs ∧ ∀ k, F k ↔ v.ownBlock = some k
  on {V V' F} h _ hk := ⟨⟨h.1.1, h.1.2.elim .inl (fun ⟨q, cap, cur, e, hq, hh, r⟩ => .inr ⟨q, cap, cur, e, hq, (hk q ((h.2 q).2 (by rw [e]; rfl))).trans hh, r⟩)⟩, h.2⟩
  lt {V F} h k e := by
    have e2 := (h.2 k).1 e
    rcases h.1.2 with ⟨rfl, _⟩ | ⟨q, cap, cur, rfl, hq, hh, _⟩
    · cases e2
    · have e3 : some q = some k := e2
      injection e3 with e3
      subst e3
      exact (Array.getElem?_eq_some_iff.1 hh).1
section
variable {w V V' : World} {l : List As}
theorem Has.newBlk (h : Has w l V) (t : TypeId) (cs : Array Value) : Has w (blkA V.heap.size t cs :: l) (V.alloc (.cells cs t)) :=
  h.new (F := fun k => k = V.heap.size) ((Below.refl _ _).alloc (Nat.le_refl _) _) ⟨Blk.new V t cs, fun k => Iff.rfl⟩ (fun k e => Nat.le_of_eq e.symm)
theorem Has.blk {g : Nat} {t : TypeId} {cs : Array Value} (h : Has w (blkA g t cs :: l) V) : Blk V g t cs ∧ w.heap.size ≤ g := by
  obtain ⟨F, h1, h2⟩ := h.get
  exact ⟨h1.1, h2 g ((h1.2 g).2 rfl)⟩
theorem Has.setBlk {g : Nat} {t : TypeId} {cs : Array Value} (h : Has w (blkA g t cs :: l) V) (i : Nat) (u : Value) : Has w (blkA g t (cs.setIfInBounds i u) :: l) (V.setCell ⟨g, i, none⟩ u) := by
  obtain ⟨F, h1, _, h2⟩ := h.step
  refine h2 _ _ F ((Grow.refl F V).set (.inl ((h1.2 g).2 rfl)) u) ⟨h1.1.set_ i u, h1.2⟩ (fun k e => .inl e)
theorem Has.rowNil (h : Has w l V) (E : TypeId) (size : Nat) : Has w (rowA E size (.slice none 0 0) 0 [] :: l) V :=
  h.new (F := fun _ => False) (Below.refl _ _) ⟨World.ownsRow_nil V 0 E size, fun k => ⟨fun e => e.elim, fun e => nomatch e⟩⟩ (fun k e => e.elim)
end
end Go.Proofs.YtgccichmdddbpaaGreatDoor
set_option linter.unusedVariables false
namespace Go.Proofs.YtgccichmdddbpaaGreatDoor

/-- A number's bytes, the highest first, as few as can be. -/
def digs (n : Nat) : List UInt8 := if n = 0 then [] else digs (n / 256) ++ [UInt8.ofNat n]
termination_by n
decreasing_by omega

def val (l : List UInt8) : Nat := l.foldl (fun n b => n * 256 + b.toNat) 0

theorem val_snoc (l : List UInt8) (b : UInt8) : val (l ++ [b]) = val l * 256 + b.toNat := by simp [val]
theorem digs_zero : digs 0 = [] := by rw [digs]; rfl
theorem digs_pos (n : Nat) (h : 0 < n) : digs n = digs (n / 256) ++ [UInt8.ofNat n] := by rw [digs, if_neg (by omega)]
theorem digs_nil_iff (n : Nat) : digs n = [] ↔ n = 0 := by
  constructor
  · intro h
    rcases Nat.eq_zero_or_pos n with h0 | h0
    · exact h0
    · rw [digs_pos n h0] at h
      simp at h
  · rintro rfl
    exact digs_zero

theorem val_lt (l : List UInt8) : val l < 256 ^ l.length := by
  rcases List.eq_nil_or_concat l with rfl | ⟨r, b, rfl⟩
  · simp [val]
  · have ih := val_lt r
    have hb := b.toNat_lt
    rw [List.concat_eq_append, val_snoc, List.length_append, List.length_singleton, Nat.pow_succ]
    omega
termination_by l.length
decreasing_by subst_vars; simp

theorem digs_len (n k : Nat) (h : n < 256 ^ k) : (digs n).length ≤ k := by
  induction k generalizing n with
  | zero => have : n = 0 := by simpa using h
            subst this; rw [digs_zero]; simp
  | succ k ih =>
    rcases Nat.eq_zero_or_pos n with h0 | h0
    · subst h0; rw [digs_zero]; simp
    · rw [digs_pos n h0, List.length_append, List.length_singleton]
      have := ih (n / 256) (by rw [Nat.pow_succ] at h; omega)
      omega

theorem digs_head (n : Nat) : (digs n).head? ≠ some 0 := by
  induction n using Nat.strongRecOn with
  | _ n ih =>
    rcases Nat.eq_zero_or_pos n with h0 | h0
    · subst h0; rw [digs_zero]; simp
    · rw [digs_pos n h0, List.head?_append]
      have := ih (n / 256) (by omega)
      cases hd : (digs (n / 256)).head? with
      | some b => rw [hd] at this; simpa using this
      | none =>
        have hz : n / 256 = 0 := (digs_nil_iff _).1 (by simpa using hd)
        simp only [Option.none_or, List.head?_cons, ne_eq, Option.some.injEq]
        intro h
        have := congrArg UInt8.toNat h
        rw [UInt8.toNat_ofNat'] at this
        simp at this
        omega

/-- Bytes without a nought ahead are those of what they come to. -/
theorem digs_val (l : List UInt8) (h : l.head? ≠ some 0) : digs (val l) = l := by
  rcases List.eq_nil_or_concat l with rfl | ⟨r, b, rfl⟩
  · simp [val, digs_zero]
  · rw [List.concat_eq_append] at h ⊢
    have hr : r.head? ≠ some 0 := by
      intro hh
      apply h
      rw [List.head?_append, hh]
      rfl
    have ih := digs_val r hr
    have hb := b.toNat_lt
    rw [val_snoc]
    have hpos : 0 < val r * 256 + b.toNat := by
      rcases Nat.eq_zero_or_pos (val r) with h0 | h0
      · rw [h0] at ih
        rw [digs_zero] at ih
        subst ih
        simp only [List.nil_append, List.head?_cons, ne_eq, Option.some.injEq] at h
        have : b.toNat ≠ 0 := fun hh => h (UInt8.toNat_inj.1 (by simpa using hh))
        omega
      · omega
    rw [digs_pos _ hpos, show (val r * 256 + b.toNat) / 256 = val r from by omega, ih]
    congr 2
    apply UInt8.toNat_inj.1
    rw [UInt8.toNat_ofNat']
    omega
termination_by l.length
decreasing_by subst_vars; simp

/-- What Num writes. -/
def enc (n : Nat) : List UInt8 := UInt8.ofNat (digs n).length :: digs n

theorem digs_len7 (n : Nat) (h : n ≤ 9007199254740991) : (digs n).length ≤ 7 := digs_len n 7 (by omega)
theorem enc_len (n : Nat) (h : n ≤ 9007199254740991) : (enc n).length ≤ 8 := by
  have := digs_len7 n h
  simp [enc]; omega

/-- What TakeNum takes: the number, what is left, the error. -/
def tk (b : List UInt8) : Nat × List UInt8 × Nat :=
  match b with
  | [] => (0, [], 3)
  | c :: r =>
    if 7 < c.toNat then (0, [], 4)
    else if r.length < c.toNat then (0, [], 3)
    else if 0 < c.toNat ∧ r.head? = some 0 then (0, [], 4)
    else if 9007199254740991 < val (r.take c.toNat) then (0, [], 4)
    else (val (r.take c.toNat), r.drop c.toNat, 0)

theorem tk_cases (b : List UInt8) : (tk b = (0, [], 3)) ∨ (tk b = (0, [], 4)) ∨
    ∃ l rest, b = UInt8.ofNat l.length :: (l ++ rest) ∧ l.length ≤ 7 ∧ l.head? ≠ some 0 ∧ val l ≤ 9007199254740991 ∧ tk b = (val l, rest, 0) := by
  cases b with
  | nil => exact .inl rfl
  | cons c r =>
    unfold tk
    simp only
    by_cases h1 : 7 < c.toNat
    · rw [if_pos h1]; exact .inr (.inl rfl)
    · rw [if_neg h1]
      by_cases h2 : r.length < c.toNat
      · rw [if_pos h2]; exact .inl rfl
      · rw [if_neg h2]
        by_cases h3 : 0 < c.toNat ∧ r.head? = some 0
        · rw [if_pos h3]; exact .inr (.inl rfl)
        · rw [if_neg h3]
          by_cases h4 : 9007199254740991 < val (r.take c.toNat)
          · rw [if_pos h4]; exact .inr (.inl rfl)
          · rw [if_neg h4]
            refine .inr (.inr ⟨r.take c.toNat, r.drop c.toNat, ?_, ?_, ?_, by omega, rfl⟩)
            · have hl : (r.take c.toNat).length = c.toNat := by rw [List.length_take]; omega
              rw [hl, List.take_append_drop]
              congr 1
              apply UInt8.toNat_inj.1
              rw [UInt8.toNat_ofNat']
              have := c.toNat_lt
              omega
            · rw [List.length_take]; omega
            · intro hh
              rcases Nat.eq_zero_or_pos c.toNat with h0 | h0
              · rw [h0] at hh; simp at hh
              · apply h3
                refine ⟨h0, ?_⟩
                rw [List.head?_take, if_neg (by omega)] at hh
                exact hh

end Go.Proofs.YtgccichmdddbpaaGreatDoor
set_option linter.unusedVariables false
namespace Go.Proofs.YtgccichmdddbpaaGreatDoor
open Go.RowKit

end Go.Proofs.YtgccichmdddbpaaGreatDoor
set_option linter.unusedVariables false
namespace Go.Proofs.YtgccichmdddbpaaGreatDoor
open Go.RowKit

theorem beq_of_take {xs ys : List UInt8} (hl : xs.length = ys.length) (h : xs.take xs.length = ys.take xs.length) : (xs == ys) = true := by
  rw [List.take_length, hl, List.take_length] at h
  simp [h]
theorem take_succ_eq {xs ys : List UInt8} {k : Nat} (h : xs.take k = ys.take k) (hx : k < xs.length) (hy : k < ys.length) (he : xs[k] = ys[k]) : xs.take (k + 1) = ys.take (k + 1) := by
  rw [List.take_succ_eq_append_getElem hx, List.take_succ_eq_append_getElem hy, h, he]
theorem beq_ne {xs ys : List UInt8} {k : Nat} (hx : k < xs.length) (hy : k < ys.length) (he : xs[k] ≠ ys[k]) : (xs == ys) = false := by
  apply beq_eq_false_iff_ne.2
  rintro rfl
  exact he rfl

set_option maxHeartbeats 400000 in
theorem eqBytes (A B : Option Addr) (n m c d : Nat) (xs ys : List UInt8) (w : World) (hx : At w A n xs) (hy : At w B m ys) (hn : n ≤ 9223372036854775807) :
    Calls Tryz.prog 217 #[.slice A n c, .slice B m d] w fun e w' => e = .returned (.bool (xs == ys)) ∧ ∃ k, w' = w.drewN k := by
  by_cases hnm : n = m
  · subst hnm
    have hxl := Lib.hid hx.1
    have hyl := Lib.hid hy.1
    go_enter Tryz.func217, Tryz.ntmps217
    go_wp2
    go_loopw [5] (fun i wr => ∃ k : Nat, k ≤ n ∧ i = .int .i64 k ∧ Hid (xs.take k = ys.take k) ∧ ∃ j, wr = w.drewN j) (fun i _ => n - (intOf i).toNat)
    case atStart => exact ⟨0, Nat.zero_le _, rfl, rfl, 0, rfl⟩
    case round =>
      obtain ⟨k, hk, rfl, heq, j, rfl⟩ := hrel
      by_cases hlt : k < n
      · obtain ⟨b, o, rfl, hc⟩ := hx.at_ (by omega)
        obtain ⟨b', o', rfl, hc'⟩ := hy.at_ (by omega)
        have hxk : k < xs.length := by rw [hxl.out]; exact hlt
        have hyk : k < ys.length := by rw [hyl.out]; exact hlt
        have h1 := hc k hxk
        have h2 := hc' k hyk
        obtain ⟨u, hu⟩ : ∃ u, u = xs[k] := ⟨_, rfl⟩
        obtain ⟨v, hv⟩ : ∃ u, u = ys[k] := ⟨_, rfl⟩
        rw [← hu] at h1
        rw [← hv] at h2
        have HU := Lib.hid hu
        have HV := Lib.hid hv
        clear hc hc' hu hv
        by_cases he : u = v
        · subst he
          have heq' := Lib.hid (take_succ_eq heq.out hxk hyk (HU.out.symm.trans HV.out))
          go_wp2_with fail
          go_quiet (fail)
          go_wp2
          go_roundw
          case rel => exact ⟨k + 1, by omega, by go_num, heq'.out, _, rfl⟩
          case measure => simp [intOf]; omega
        · have hb := Lib.hid (beq_ne hxk hyk (by rw [← HU.out, ← HV.out]; exact he))
          have he' : ((u.toNat : Int) == (v.toNat : Int)) = false := by
            apply beq_eq_false_iff_ne.2
            intro h
            exact he (UInt8.toNat_inj.1 (by omega))
          clear he
          go_wp2_with fail
          go_quiet (fail)
          go_wp2
          go_ret
          exact ⟨by rw [hb.out]; rfl, _, World.drewN_drewN _ _ _⟩
      · have hkn : k = n := by omega
        have heq' := Lib.hid (beq_of_take (xs := xs) (ys := ys) (by rw [hxl.out, hyl.out]) (by rw [hxl.out, ← hkn]; exact heq.out))
        have hge : n ≤ k := by omega
        clear hkn hlt
        go_wp2
        go_ret
        exact ⟨by rw [heq'.out]; rfl, _, rfl⟩
  · have hne : ((n : Int) == (m : Int)) = false := by simp; omega
    have hf0 : (xs == ys) = false := by
      apply beq_eq_false_iff_ne.2
      rintro rfl
      exact hnm (hx.1.symm.trans hy.1)
    have hf := Lib.hid hf0
    clear hf0
    go_enter Tryz.func217, Tryz.ntmps217
    go_wp2
    go_ret
    exact ⟨by rw [hf.out]; rfl, 0, rfl⟩

set_option maxHeartbeats 400000 in
theorem copyBytes (A : Option Addr) (n c : Nat) (xs : List UInt8) (w : World) (hx : At w A n xs) (hn : n ≤ 225000000000000) :
    Calls Tryz.prog 201 #[.slice A n c] w fun e w' => ∃ v, e = .returned v ∧ Own w' w.heap.size v xs ∧ Below w.heap.size w w' := by
  go_enter Tryz.func201, Tryz.ntmps201
  go_wp2_with (at_builtin; refine wpList_app rfl _ _ 164 rfl w.heap.size 5 Tryz.underlying164 info5 (.slice none 0 0) 0 [] xs rfl ?ho A n c rfl hx ?hb (Nat.le_refl _) ?_)
  case ho => exact World.ownsRow_nil _ _ _ _
  case hb => omega
  intro v1 w1 hown hg hat
  go_wp2
  go_ret
  have hl := hx.1
  refine ⟨v1, rfl, ?_, (Below.refl _ _).grown hg (Nat.le_refl _) (by simp [Value.ownBlock])⟩
  unfold Own
  rw [hl]
  simpa using hown

end Go.Proofs.YtgccichmdddbpaaGreatDoor
set_option linter.unusedVariables false
namespace Go.Proofs.YtgccichmdddbpaaGreatDoor
open Go.RowKit

set_option maxHeartbeats 1000000 in
theorem refNum (n : Nat) (w : World) (hn : n ≤ 9007199254740991) :
    Calls Tryz.prog 160 #[.int .i64 n] w fun e w' => ∃ v, e = .returned (.tuple #[v, .int .i64 0]) ∧ Own w' w.heap.size v (enc n) ∧ Below w.heap.size w w' := by
  have hlen := digs_len7 n hn
  have h1 : (0 : Int) ≤ (n : Int) := by omega
  have h2 : (n : Int) ≤ 9007199254740991 := by omega
  go_enter Tryz.func160, Tryz.ntmps160
  go_wp2
  go_loopw [0, 4] (fun x y wr => ∃ (m : Nat) (l : List UInt8), x = .int .i64 m ∧ Own wr w.heap.size y l ∧ m ≤ n ∧ Hid (digs m ++ l = digs n) ∧ Below w.heap.size w wr) (fun x _ _ => (intOf x).toNat)
  case atStart => exact ⟨n, [], rfl, World.ownsRow_nil _ _ _ _, Nat.le_refl _, by simp [Hid], Below.refl _ _⟩
  case round =>
    obtain ⟨m, l, rfl, hown, hmn, hd, hbw⟩ := hrel
    have hl7 : l.length ≤ 7 := by
      have := congrArg List.length hd.out
      rw [List.length_append] at this
      omega
    obtain ⟨A, c, rfl, hat, _, _, _⟩ := hown.form
    have hsz := hbw.size
    by_cases hm : 0 < m
    · have hon := own_one (w := wr) (B := w.heap.size) (x := (m : Int) % 256) (b := UInt8.ofNat m) hsz (by rw [UInt8.toNat_ofNat']; omega)
      have ham := fun o => hat.alloc (w := wr) o
      have HD : Hid (digs (m / 256) ++ (UInt8.ofNat m :: l) = digs n) := by
        show _ = _
        rw [← hd.out, digs_pos m hm]
        simp
      obtain ⟨k, hk⟩ : ∃ k, k = l.length := ⟨_, rfl⟩
      rw [← hk] at hat ham hl7 ⊢
      have HK := Lib.hid hk
      clear hat hown hk
      go_wp2_with (at_builtin; refine wpList_app rfl _ _ 164 rfl w.heap.size 5 Tryz.underlying164 info5 _ 1 [UInt8.ofNat m] l rfl hon A k c rfl (ham _) ?hb ?hs ?_)
      case hb => omega
      case hs => simp; omega
      intro v1 w2 hown2 hg2 hat2
      have hb2 : Below w.heap.size w w2 := (hbw.alloc hsz _).grown hg2 (by simp; omega) (fun q hq => by simp [Value.ownBlock] at hq; omega)
      have hov : Own w2 w.heap.size v1 (UInt8.ofNat m :: l) := by
        unfold Own
        simp only [List.length_cons, ← HK.out]
        rw [Nat.add_comm]
        exact hown2
      clear hown2 hg2 hat2 hon ham
      go_wp2
      go_roundw
      case rel => exact ⟨m / 256, _, rfl, hov, by omega, HD, hb2⟩
      case measure => simp [intOf]; omega
    · obtain rfl : m = 0 := by omega
      have hld : l = digs n := by
        have := hd.out
        rw [digs_zero] at this
        exact this
      obtain ⟨k, hk⟩ : ∃ k, k = l.length := ⟨_, rfl⟩
      rw [← hk] at hat hl7 ⊢
      have hon := own_one (w := wr) (B := w.heap.size) (x := (k : Int)) (b := UInt8.ofNat k) hsz (by rw [UInt8.toNat_ofNat']; omega)
      have ham := fun o => hat.alloc (w := wr) o
      have HK := Lib.hid hk
      have HLD := Lib.hid hld
      clear hat hown hk hld
      go_wp2_with (at_builtin; refine wpList_app rfl _ _ 164 rfl w.heap.size 5 Tryz.underlying164 info5 _ 1 [UInt8.ofNat k] l rfl hon A k c rfl (ham _) ?hb1 ?hs1 ?_)
      case hb1 => omega
      case hs1 => simp; omega
      intro v1 w2 hown2 hg2 hat2
      have hb2 : Below w.heap.size w w2 := (hbw.alloc hsz _).grown hg2 (by simp; omega) (fun q hq => by simp [Value.ownBlock] at hq; omega)
      have hov : Own w2 w.heap.size v1 (enc n) := by
        unfold Own enc
        rw [← HLD.out, ← HK.out]
        simp only [List.length_cons, ← HK.out]
        rw [Nat.add_comm]
        exact hown2
      clear hown2 hg2 hat2 hon ham
      go_wp2
      go_ret2
      exact ⟨v1, rfl, hov, hb2⟩

set_option maxHeartbeats 400000 in
theorem refNum_no (n : Int) (w : World) (hn : n < 0 ∨ 9007199254740991 < n) :
    Calls Tryz.prog 160 #[.int .i64 n] w fun e w' => e = .returned (.tuple #[.slice none 0 0, .int .i64 2]) ∧ w = w' := by
  by_cases h : n < 0
  · clear hn
    go_enter Tryz.func160, Tryz.ntmps160
    go_wp2
    go_ret2
    exact ⟨rfl, rfl⟩
  · have h2 : 9007199254740991 < n := by omega
    clear hn
    go_enter Tryz.func160, Tryz.ntmps160
    go_wp2
    go_ret2
    exact ⟨rfl, rfl⟩

end Go.Proofs.YtgccichmdddbpaaGreatDoor
set_option linter.unusedVariables false
namespace Go.Proofs.YtgccichmdddbpaaGreatDoor
open Go.RowKit

/-- A list of lists of bytes. -/
def Lists (w : World) (A : Option Addr) (m : Nat) (ls : List (List UInt8)) : Prop :=
  ls.length = m ∧ (0 < m → ∃ b o, A = some ⟨b, o, none⟩ ∧ ∀ i, (h : i < ls.length) → ∃ Ai ci, w.cell? ⟨b, o + i, none⟩ = some (.slice Ai ls[i].length ci) ∧ At w Ai ls[i].length ls[i])

theorem Lists.keep {w w' : World} {A : Option Addr} {m : Nat} {ls : List (List UInt8)} (h : Lists w A m ls) (hk : ∀ p : Addr, p.block < w.heap.size → w'.cell? p = w.cell? p) : Lists w' A m ls := by
  refine ⟨h.1, fun hm => ?_⟩
  obtain ⟨b, o, e, hc⟩ := h.2 hm
  refine ⟨b, o, e, fun i hi => ?_⟩
  obtain ⟨Ai, ci, h1, h2⟩ := hc i hi
  exact ⟨Ai, ci, by rw [hk _ (World.block_lt_of_cell? w _ h1)]; exact h1, h2.keep hk⟩

theorem at_one {w : World} {x : Int} {b : UInt8} (t : TypeId) (h : x = (b.toNat : Int)) : At (w.alloc (.cells #[.int .u8 x] t)) (some ⟨w.heap.size, 0, none⟩) 1 [b] := by
  subst h
  refine ⟨rfl, fun _ => ⟨_, _, rfl, fun i hi => ?_⟩⟩
  have : i = 0 := by simp at hi; omega
  subst this
  simp
theorem lists_one {w : World} {A : Option Addr} {n c : Nat} {l : List UInt8} (t : TypeId) (h : At w A n l) :
    Lists (w.alloc (.cells #[.slice A n c] t)) (some ⟨w.heap.size, 0, none⟩) 1 [l] := by
  obtain rfl := h.1
  refine ⟨rfl, fun _ => ⟨_, _, rfl, fun i hi => ?_⟩⟩
  have : i = 0 := by simp at hi; omega
  subst this
  exact ⟨A, c, by simp, h.alloc _⟩
theorem lists_two {w : World} {A A' : Option Addr} {n n' c c' : Nat} {l l' : List UInt8} (t : TypeId) (h : At w A n l) (h' : At w A' n' l') :
    Lists (w.alloc (.cells #[.slice A n c, .slice A' n' c'] t)) (some ⟨w.heap.size, 0, none⟩) 2 [l, l'] := by
  obtain rfl := h.1
  obtain rfl := h'.1
  refine ⟨rfl, fun _ => ⟨_, _, rfl, fun i hi => ?_⟩⟩
  match i, hi with
  | 0, _ => exact ⟨A, c, by simp, h.alloc _⟩
  | 1, _ => exact ⟨A', c', by simp, h'.alloc _⟩
  | i + 2, hi => exact absurd hi (by simp)

theorem flat_succ (ls : List (List UInt8)) (k : Nat) (h : k < ls.length) : (ls.take (k + 1)).flatten = (ls.take k).flatten ++ ls[k] := by
  rw [List.take_succ_eq_append_getElem h, List.flatten_append]
  simp
theorem flat_le (ls : List (List UInt8)) (k : Nat) : (ls.take k).flatten.length ≤ ls.flatten.length := by
  conv => rhs; rw [← List.take_append_drop k ls]
  rw [List.flatten_append, List.length_append]
  omega

set_option maxHeartbeats 1000000 in
theorem join (A : Option Addr) (m c : Nat) (ls : List (List UInt8)) (w : World) (hx : Lists w A m ls) (hm : m ≤ 9223372036854775807) (hn : ls.flatten.length ≤ 225000000000000) :
    Calls Tryz.prog 209 #[.slice A m c] w fun e w' => ∃ v, e = .returned v ∧ Own w' w.heap.size v ls.flatten ∧ Below w.heap.size w w' := by
  have hml := Lib.hid hx.1
  obtain ⟨i0, hi0, hz0, hz1, hz2⟩ := info_parts info5
  go_enter Tryz.func209, Tryz.ntmps209
  go_wp2
  go_loop [3, 5, 11] (fun s x i => ∃ k : Nat, k ≤ m ∧ i = .int .i64 k ∧ s = .int .i64 (ls.take k).flatten.length) (fun _ _ i => m - (intOf i).toNat)
  case atStart => exact ⟨0, Nat.zero_le _, rfl, by simp⟩
  case round =>
    obtain ⟨k, hk, rfl, rfl⟩ := hrel
    by_cases hlt : k < m
    · obtain ⟨b, o, rfl, hc⟩ := hx.2 (by omega)
      have hkl : k < ls.length := by rw [hml.out]; exact hlt
      obtain ⟨Ai, ci, h1, h2⟩ := hc k hkl
      have hf := Lib.hid (flat_succ ls k hkl)
      have hle := flat_le ls k
      have hle2 := flat_le ls (k + 1)
      rw [hf.out, List.length_append] at hle2
      obtain ⟨l, hl⟩ : ∃ l, l = ls[k].length := ⟨_, rfl⟩
      obtain ⟨t, ht⟩ : ∃ t, t = (ls.take k).flatten.length := ⟨_, rfl⟩
      rw [← hl, ← ht] at hle2
      rw [← ht] at hle ⊢
      rw [← hl] at h1
      have hfin : (ls.take (k + 1)).flatten.length = t + l := by rw [hf.out, List.length_append, ← hl, ← ht]
      have HF := Lib.hid hfin
      clear hc hl ht hfin
      go_wp2
      go_round
      case rel => exact ⟨k + 1, by omega, by go_num, by rw [HF.out]; go_num⟩
      case measure => simp [intOf]; omega
    · have hkm : k = m := by omega
      subst hkm
      obtain ⟨T, hT⟩ : ∃ T, T = ls.flatten.length := ⟨_, rfl⟩
      have htk : (ls.take k).flatten.length = T := by rw [← hml.out, List.take_length, hT]
      rw [htk]
      rw [← hT] at hn
      have HT := Lib.hid hT
      clear hT htk
      go_wp2_with (at_make; refine wpList_make_own _ rfl _ _ 164 rfl w.heap.size 5 i0 (.int .u8 0) 1 Tryz.underlying164 hi0 hz0 hz1 _ _ _ T rfl rfl rfl ?b2 ?b3 (Nat.le_refl _) ?_)
      case b2 => first | omega | (rw [hz2]; omega)
      case b3 => unfold maxLen; omega
      intro w1 hown hg
      have hb1 : Below w.heap.size w w1 := (Below.refl _ _).grown hg (Nat.le_refl _) (by simp)
      clear hg hz0 hz1 hz2 hi0
      go_wp2
      go_loopw [6, 8, 24] (fun v x i wr => ∃ j : Nat, j ≤ k ∧ i = .int .i64 j ∧ Own wr w.heap.size v (ls.take j).flatten ∧ Below w.heap.size w wr) (fun _ _ i _ => k - (intOf i).toNat)
      case atStart => exact ⟨0, Nat.zero_le _, rfl, by simpa [Own] using hown, hb1⟩
      case round =>
        obtain ⟨j, hj, rfl, hov, hbw⟩ := hrel
        have hxr : Lists wr A k ls := hx.keep fun p hp => hbw.cell hp
        by_cases hlt : j < k
        · obtain ⟨b, o, rfl, hc⟩ := hxr.2 (by omega)
          have hkl : j < ls.length := by rw [hml.out]; exact hlt
          obtain ⟨Ai, ci, h1, h2⟩ := hc j hkl
          have hle2 := flat_le ls (j + 1)
          rw [flat_succ ls j hkl, List.length_append, ← HT.out] at hle2
          have hf := Lib.hid (flat_succ ls j hkl)
          obtain ⟨l, hl⟩ : ∃ l, l = ls[j] := ⟨_, rfl⟩
          rw [← hl] at h1 h2 hle2
          have HL := Lib.hid hl
          have hsz := hbw.size
          obtain ⟨t, ht⟩ : ∃ t, t = (ls.take j).flatten := ⟨_, rfl⟩
          rw [← ht] at hov hle2
          have HTT := Lib.hid ht
          clear hc hl hxr ht
          go_wp2_with (at_builtin; refine wpList_app rfl _ _ 164 rfl w.heap.size 5 Tryz.underlying164 info5 u6 t.length t l rfl ?ho Ai l.length ci rfl h2 ?hb ?hs ?_)
          case ho => exact hov
          case hb => omega
          case hs => exact hsz
          intro v1 w2 hown2 hg2 hat2
          have hb2 : Below w.heap.size w w2 := hbw.grown hg2 hsz (fun q hq => (hov.lt q hq).1)
          have hov2 : Own w2 w.heap.size v1 (ls.take (j + 1)).flatten := by
            unfold Own
            rw [hf.out, ← HL.out, ← HTT.out, List.length_append]
            simpa using hown2
          clear hown2 hg2 hat2 h1 h2
          go_wp2
          go_roundw
          case rel => exact ⟨j + 1, by omega, by go_num, hov2, hb2⟩
          case measure => simp [intOf]; omega
        · have hjk : j = k := by omega
          subst hjk
          have hfin : Own wr w.heap.size u6 ls.flatten := by
            have : ls.take j = ls := by rw [← hml.out, List.take_length]
            rw [this] at hov
            exact hov
          clear hov hxr
          go_wp2
          go_ret
          exact ⟨_, rfl, hfin, hbw⟩
end Go.Proofs.YtgccichmdddbpaaGreatDoor
