/-
  DiskDoes: the two disks side by side; boxes of deeds that are known whole; copies of numbers of the walk's own.
-/
import Derived.Test.YtmjoaeljfhgojaaVDiskKeeps
import Derived.Test.YtmjoaeljfhgojaaVDiskPieces
import Derived.Test.YtmjoaeljfhgojaaOwnI
set_option linter.unusedVariables false
namespace Go.Proofs.Ytmjoaeljfhgojaa
open Go.RowKit

/-- The code's disk and the document's, side by side. -/
def Two (R : DRep) (w : World) (ga gb : Nat) (D : Dk) (V : World) : Prop := ∃ F G, R V ga D F ∧ RDk V gb D G ∧ (∀ k, F k → w.heap.size ≤ k ∧ ¬ G k) ∧ (∀ k, G k → w.heap.size ≤ k) ∧ Below w.heap.size w V
/-- A box that is known whole. -/
def Bx (V : World) (q : Nat) (t : TypeId) (cs : Array Value) : Prop := V.heap[q]? = some (.cells cs t (0, 0))
section
variable {V V' : World} {q : Nat} {t : TypeId} {cs : Array Value}
theorem Bx.lt (h : Bx V q t cs) : q < V.heap.size := (Array.getElem?_eq_some_iff.1 h).1
theorem Bx.cell (h : Bx V q t cs) (i : Nat) : V.cell? ⟨q, i, none⟩ = cs[i]? := cell_of_row V q i cs t (0, 0) h
theorem Bx.free (h : Bx V q t cs) (i : Nat) : V.frozen? ⟨q, i, none⟩ = false := by
  unfold Bx at h
  simp [World.frozen?, h]
theorem Bx.new (V : World) (t : TypeId) (cs : Array Value) : Bx (V.alloc (.cells cs t)) V.heap.size t cs := heap_alloc_new V _
theorem Bx.set (h : Bx V q t cs) (i : Nat) (u : Value) : Bx (V.setCell ⟨q, i, none⟩ u) q t (cs.setIfInBounds i u) := by
  unfold Bx at h ⊢
  simp [World.setCell, Array.getElem?_modify, h]
theorem Bx.below (h : Bx V q t cs) (hb : Below V.heap.size V V') : Bx V' q t cs := (hb.block q h.lt).trans h
end

abbrev dbx (k : Int) (nm tn : ByteArray) (vB : Value) (n a : Int) (vK : Value) : Array Value := #[.int .i64 k, .string nm, .string tn, vB, .int .i64 n, .int .i64 a, vK]
section
variable {V V' : World} {q : Nat} {t : TypeId} {k n a : Int} {nm tn : ByteArray} {vB vK u : Value}
theorem Bx.dcells (h : Bx V q t (dbx k nm tn vB n a vK)) : V.cell? ⟨q, 0, none⟩ = some (.int .i64 k) ∧ V.cell? ⟨q, 1, none⟩ = some (.string nm) ∧ V.cell? ⟨q, 2, none⟩ = some (.string tn) ∧ V.cell? ⟨q, 3, none⟩ = some vB ∧ V.cell? ⟨q, 4, none⟩ = some (.int .i64 n) ∧ V.cell? ⟨q, 5, none⟩ = some (.int .i64 a) ∧ V.cell? ⟨q, 6, none⟩ = some vK :=
  ⟨h.cell 0, h.cell 1, h.cell 2, h.cell 3, h.cell 4, h.cell 5, h.cell 6⟩
theorem Bx.set3 (h : Bx V q t (dbx k nm tn vB n a vK)) : Bx (V.setCell ⟨q, 3, none⟩ u) q t (dbx k nm tn u n a vK) := h.set 3 u
theorem Bx.set6 (h : Bx V q t (dbx k nm tn vB n a vK)) : Bx (V.setCell ⟨q, 6, none⟩ u) q t (dbx k nm tn vB n a u) := h.set 6 u
theorem heap_set_ne {j i : Nat} (h : j ≠ q) : (V.setCell ⟨q, i, none⟩ u).heap[j]? = V.heap[j]? := by
  simp only [World.setCell, Array.getElem?_modify]
  rw [if_neg (fun e => h e.symm)]
theorem size_set {i : Nat} : (V.setCell ⟨q, i, none⟩ u).heap.size = V.heap.size := by simp [World.setCell]
end

set_option maxHeartbeats 4000000 in
theorem copyIO (A : Option Addr) (n c : Nat) (xs : List Int) (w : World) (hx : IAt w A n xs) (hn : n ≤ 17592186044416) :
    Calls Try.prog 12 #[.slice A n c] w fun e w' => ∃ v, e = .returned v ∧ w'.ownsRow w.heap.size 3 1 v n (xs.map (Value.int .i64)) ∧ Below w.heap.size w w' := by
  obtain ⟨i, hi, hz, hsz, hby⟩ := info_parts infoI
  have hl := hx.1
  have HX := Lib.hid (show 0 < n → ∃ b o, A = some ⟨b, o, none⟩ ∧ ∀ j u, (xs.map (Value.int .i64))[j]? = some u → w.cell? ⟨b, o + j, none⟩ = some u from fun h => by
    obtain ⟨b, o, e, hc⟩ := hx.2 h
    refine ⟨b, o, e, fun j u hj => ?_⟩
    have hj2 : j < xs.length := by simpa using (List.getElem?_eq_some_iff.1 hj).1
    rw [hc j hj2, ← hj]
    simp [List.getElem?_eq_getElem hj2])
  have HO := Lib.hid (show ∀ u ∈ xs.map (Value.int .i64), u.oneCell' = true from fun u hu => by obtain ⟨z, _, rfl⟩ := List.mem_map.1 hu; rfl)
  have HN := Lib.hid (World.ownsRow_nil w w.heap.size 3 1)
  have HLL := Lib.hid (show (xs.map (Value.int .i64)).length = n * 1 by simp [hl])
  have hm : 0 + n ≤ maxLen := by unfold maxLen; omega
  have hb8 : (0 + n) * 8 ≤ 140737488355328 := by omega
  clear hx
  go_enter Try.func12, Try.ntmps12
  go_wp2_with (at_builtin; refine wpList_appV rfl _ _ 28 rfl w.heap.size 3 i (.int .i64 0) 1 8 Try.underlying28 hi hz hsz hby rfl (by decide) (.slice none 0 0) 0 [] rfl HN.out A n c (xs.map (Value.int .i64)) rfl HLL.out HX.out HO.out hm hb8 (Nat.le_refl _) ?_; intro v' w' hr hg; have hr' := Lib.hid hr; clear hr)
  go_ret
  have hr := hr'.out
  rw [Nat.zero_add, List.nil_append] at hr
  have hb : Below w.heap.size w w' := ⟨hg.os, hg.tape, hg.output, hg.size, fun k hk => hg.block k hk (by simp [Value.ownBlock])⟩
  exact ⟨_, rfl, hr, hb⟩

theorem copyBO (A : Option Addr) (n c : Nat) (xs : List UInt8) (w : World) (hx : At w A n xs) (hn : n ≤ 225000000000000) :
    Calls Try.prog 11 #[.slice A n c] w fun e w' => ∃ A' c', e = .returned (.slice A' n c') ∧ Own w' w.heap.size (.slice A' n c') xs ∧ At w' A' n xs ∧ n ≤ c' ∧ c' ≤ 9223372036854775807 ∧ InF (fun k => w.heap.size ≤ k ∧ k < w'.heap.size) A' ∧ Below w.heap.size w w' := by
  have hl := hx.1
  refine (copyBytes A n c xs w hx hn).mono ?_
  rintro e w' ⟨v, rfl, ho, hb⟩
  obtain ⟨A', c', rfl, h1, h2, h3, h4⟩ := NewBytes.form (w := w) ho
  rw [hl] at ho h1 h2
  rw [hl]
  exact ⟨A', c', rfl, ho, h1, h2, h3, h4, hb⟩
theorem copyIO2 (A : Option Addr) (n c : Nat) (xs : List Int) (w : World) (hx : IAt w A n xs) (hn : n ≤ 17592186044416) :
    Calls Try.prog 12 #[.slice A n c] w fun e w' => ∃ A' c', e = .returned (.slice A' n c') ∧ OwnI w' w.heap.size (.slice A' n c') xs ∧ IAt w' A' n xs ∧ n ≤ c' ∧ c' ≤ 9223372036854775807 ∧ InF (fun k => w.heap.size ≤ k ∧ k < w'.heap.size) A' ∧ Below w.heap.size w w' := by
  have hl := hx.1
  refine (copyIO A n c xs w hx hn).mono ?_
  rintro e w' ⟨v, rfl, ho, hb⟩
  have ho' : OwnI w' w.heap.size v xs := by unfold OwnI; rw [hl]; exact ho
  obtain ⟨A', c', rfl, h1, h2, h3, h4⟩ := ho'.form
  rw [hl] at ho' h1 h2
  rw [hl]
  exact ⟨A', c', rfl, ho', h1, h2, h3, h4, hb⟩
section
variable {V V' : World} {q i n : Nat} {u : Value} {A : Option Addr}
theorem At.ne {xs : List UInt8} (h : At V A n xs) (hn : ∀ a, A = some a → a.block ≠ q) : At (V.setCell ⟨q, i, none⟩ u) A n xs := h.on (inB_self A) (fun j ⟨a, e, ej⟩ => heap_set_ne (ej ▸ hn a e))
theorem IAt.ne {xs : List Int} (h : IAt V A n xs) (hn : ∀ a, A = some a → a.block ≠ q) : IAt (V.setCell ⟨q, i, none⟩ u) A n xs := h.on (inB_self A) (fun j ⟨a, e, ej⟩ => heap_set_ne (ej ▸ hn a e))
theorem Bx.ne {t : TypeId} {cs : Array Value} {p : Nat} (h : Bx V p t cs) (hn : p ≠ q) : Bx (V.setCell ⟨q, i, none⟩ u) p t cs := (heap_set_ne hn).trans h
theorem own_blk {a : Addr} {n c : Nat} : (Value.slice (some a) n c).ownBlock = some a.block := rfl
end
/-- What a round of DiskDoes holds: two deeds in boxes, and their bytes and numbers. -/
structure Hv (B : Nat) (V : World) (qx qy : Nat) (k n a : Int) (nm tn : ByteArray) (r pl : Nat) (A2 A3 A5 A6 : Option Addr) (c2 c3 c5 c6 : Nat) (eb : List UInt8) (dp : List Int) : Prop where
  bx : Bx V qx 30 (dbx k nm tn (.slice A2 r c2) n a (.slice A3 pl c3))
  by_ : Bx V qy 30 (dbx k nm tn (.slice A5 r c5) n a (.slice A6 pl c6))
  o2 : Own V B (.slice A2 r c2) eb
  o3 : OwnI V B (.slice A3 pl c3) dp
  a5 : At V A5 r eb
  a6 : IAt V A6 pl dp
  i2 : InF (fun j => B ≤ j ∧ j < V.heap.size ∧ j ≠ qx) A2
  i3 : InF (fun j => B ≤ j ∧ j < V.heap.size ∧ j ≠ qx) A3
  i5 : InF (fun j => B ≤ j ∧ j < V.heap.size) A5
  i6 : InF (fun j => B ≤ j ∧ j < V.heap.size) A6
  x1 : B ≤ qx
  y1 : B ≤ qy
theorem Hv.on {B : Nat} {V V' : World} {qx qy : Nat} {k n a : Int} {nm tn : ByteArray} {r pl : Nat} {A2 A3 A5 A6 : Option Addr} {c2 c3 c5 c6 : Nat} {eb : List UInt8} {dp : List Int} (h : Hv B V qx qy k n a nm tn r pl A2 A3 A5 A6 c2 c3 c5 c6 eb dp) (hs : V.heap.size ≤ V'.heap.size) (hk : ∀ j, B ≤ j → j < V.heap.size → V'.heap[j]? = V.heap[j]?) :
    Hv B V' qx qy k n a nm tn r pl A2 A3 A5 A6 c2 c3 c5 c6 eb dp :=
  ⟨(hk _ h.x1 h.bx.lt).trans h.bx, (hk _ h.y1 h.by_.lt).trans h.by_, h.o2.onS (fun j e => hk j (rowOwn h.o2 j e).1 (rowOwn h.o2 j e).2), h.o3.onS (fun j e => hk j (rowOwn h.o3 j e).1 (rowOwn h.o3 j e).2), h.a5.on h.i5 (fun j e => hk j e.1 e.2), h.a6.on h.i6 (fun j e => hk j e.1 e.2),
    fun a e => ⟨(h.i2 a e).1, Nat.lt_of_lt_of_le (h.i2 a e).2.1 hs, (h.i2 a e).2.2⟩, fun a e => ⟨(h.i3 a e).1, Nat.lt_of_lt_of_le (h.i3 a e).2.1 hs, (h.i3 a e).2.2⟩, fun a e => ⟨(h.i5 a e).1, Nat.lt_of_lt_of_le (h.i5 a e).2 hs⟩, fun a e => ⟨(h.i6 a e).1, Nat.lt_of_lt_of_le (h.i6 a e).2 hs⟩, h.x1, h.y1⟩
end Go.Proofs.Ytmjoaeljfhgojaa
