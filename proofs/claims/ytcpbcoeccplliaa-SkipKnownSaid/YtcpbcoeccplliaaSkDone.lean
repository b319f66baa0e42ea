/-
  Layer 9, the statements' words: a deed is done to both lists.
-/
import Derived.Test.YtcpbcoeccplliaaSkSame
import Derived.Test.YtcpbcoeccplliaaBring
import Derived.Deep.RegionHeld3
set_option linter.unusedVariables false
namespace Go.Proofs.Ytcpbcoeccplliaa
open Go.RowKit

/-- A deed. -/
structure Sd9 where
  kind : Int
  key : ByteArray
  val : Int
  st : Int
structure Sd9.ok (d : Sd9) : Prop where
  size : d.key.size ≤ 281474976710656
  lo : -9223372036854775808 ≤ d.st
  hi : d.st ≤ 9223372036854775807
  val : (Lit.int .i64 d.val).wf = true
/-- Deeds that lie in memory. -/
def SdAt (w : World) (A : Option Addr) (n : Nat) (l : List Sd9) : Prop :=
  l.length = n ∧ (0 < n → ∃ b o, A = some ⟨b, o, none⟩ ∧ ∀ i (h : i < l.length), w.cell? ⟨b, o + i * 4, none⟩ = some (.int .i64 (l[i]'h).kind) ∧ w.cell? ⟨b, o + i * 4 + 1, none⟩ = some (.string (l[i]'h).key) ∧ w.cell? ⟨b, o + i * 4 + 2, none⟩ = some (.int .i64 (l[i]'h).val) ∧ w.cell? ⟨b, o + i * 4 + 3, none⟩ = some (.int .i64 (l[i]'h).st))
theorem SdAt.below {w w' : World} {A : Option Addr} {n : Nat} {l : List Sd9} (h : SdAt w A n l) (hb : Below w.heap.size w w') : SdAt w' A n l := by
  refine ⟨h.1, fun hn => ?_⟩
  obtain ⟨b, o, e, hc⟩ := h.2 hn
  refine ⟨b, o, e, fun i hi => ?_⟩
  obtain ⟨c0, c1, c2, c3⟩ := hc i hi
  exact ⟨(hb.cell (World.block_lt_of_cell? w _ c0)).trans c0, (hb.cell (World.block_lt_of_cell? w _ c1)).trans c1, (hb.cell (World.block_lt_of_cell? w _ c2)).trans c2, (hb.cell (World.block_lt_of_cell? w _ c3)).trans c3⟩
def doD (l : List Kv) (d : Sd9) : List Kv := if d.kind % 3 = 2 then kdrop l d.key else kputI l d.key (.int .i64 d.val) d.st
theorem doD_len (l : List Kv) (d : Sd9) : (doD l d).length ≤ l.length + 1 := by
  unfold doD
  split
  · have := kdrop_len2 l d.key; omega
  · exact kputI_len _ _ _ _
section
variable {w V : World} {T : List As} {q b B : Nat} {l l' : List Kv} {kind val st : Int} {key : ByteArray} {x y : Bool}
/-- Where the two lists stand. -/
def DS (w : World) (q b B : Nat) (kind : Int) (key : ByteArray) (val st : Int) (l l' : List Kv) (T : List As) (x y : Bool) (V : World) : Prop :=
  Has w (skA q (if x then l' else l) :: rfA b (if y then l' else l) :: blkA B 29 #[.int .i64 kind, .string key, .int .i64 val, .int .i64 st] :: T) V
abbrev DC (B : Nat) (key : ByteArray) (val st : Int) (V : World) : Prop := V.cell? ⟨B, 1, none⟩ = some (.string key) ∧ V.cell? ⟨B, 2, none⟩ = some (.int .i64 val) ∧ V.cell? ⟨B, 3, none⟩ = some (.int .i64 st)
theorem DS.cells (h : DS w q b B kind key val st l l' T x y V) : DC B key val st V := by
  have hb := (Has.rot3 h).blk.1
  exact ⟨hb.cell 1, hb.cell 2, hb.cell 3⟩
theorem DS.dropA (h : DS w q b B kind key val st l (kdrop l key) T false y V) (hl : l.length ≤ 1000000000) :
    Calls Try.prog 31 #[pt q, .string key] V fun e w' => e = .returned (.bool (khas l key)) ∧ DS w q b B kind key val st l (kdrop l key) T true y w' ∧ DC B key val st w' := by
  refine (Has.skDrop h key hl).mono ?_
  rintro e w' ⟨rfl, h2⟩
  exact ⟨rfl, h2, DS.cells (x := true) h2⟩
theorem DS.dropB (h : DS w q b B kind key val st l (kdrop l key) T x false V) (hl : l.length ≤ 1000000000) :
    Calls Try.prog 41 #[pt b, .string key] V fun e w' => e = .returned (.bool (khas l key)) ∧ DS w q b B kind key val st l (kdrop l key) T x true w' ∧ DC B key val st w' := by
  refine (Has.rfDrop (Has.swap h) key hl).mono ?_
  rintro e w' ⟨rfl, h2⟩
  have h3 : DS w q b B kind key val st l (kdrop l key) T x true w' := h2.swap
  exact ⟨rfl, h3, h3.cells⟩
theorem DS.putA (h : DS w q b B kind key val st l (kputI l key (.int .i64 val) st) T false y V) (hl : l.length ≤ 1000000000) (hk : key.size ≤ 281474976710656) (h1 : -9223372036854775808 ≤ st) (h2 : st ≤ 9223372036854775807) :
    Calls Try.prog 30 #[pt q, .string key, .int .i64 val, .int .i64 st] V fun e w' => e = .returned (.bool (decide (1 ≤ st ∧ st ≤ 16))) ∧ DS w q b B kind key val st l (kputI l key (.int .i64 val) st) T true y w' ∧ DC B key val st w' := by
  refine (Has.skPut h val st hl h1 h2 hk).mono ?_
  rintro e w' ⟨rfl, h2⟩
  exact ⟨rfl, h2, DS.cells (x := true) h2⟩
theorem DS.putB (h : DS w q b B kind key val st l (kputI l key (.int .i64 val) st) T x false V) (hl : l.length ≤ 1000000000) (h1 : -9223372036854775808 ≤ st) (h2 : st ≤ 9223372036854775807) :
    Calls Try.prog 42 #[pt b, .string key, .int .i64 val, .int .i64 st] V fun e w' => e = .returned (.bool (decide (1 ≤ st ∧ st ≤ 16))) ∧ DS w q b B kind key val st l (kputI l key (.int .i64 val) st) T x true w' ∧ DC B key val st w' := by
  refine (Has.rfPut (Has.swap h) val st hl h1 h2).mono ?_
  rintro e w' ⟨rfl, h2⟩
  have h3 : DS w q b B kind key val st l (kputI l key (.int .i64 val) st) T x true w' := h2.swap
  exact ⟨rfl, h3, h3.cells⟩
end
set_option maxRecDepth 100000 in
set_option maxHeartbeats 8000000 in
theorem sk_done {w V : World} {T : List As} {q b : Nat} {l : List Kv} {kind val st : Int} {key : ByteArray} (h : Has w (skA q l :: rfA b l :: T) V) (hl : l.length ≤ 1000000000) (hks : key.size ≤ 281474976710656) (hs1 : -9223372036854775808 ≤ st) (hs2 : st ≤ 9223372036854775807) :
    Calls Try.prog 13 #[pt q, pt b, .agg #[.int .i64 kind, .string key, .int .i64 val, .int .i64 st]] V fun e w' => e = .returned (.bool true) ∧ Has w (skA q (doD l ⟨kind, key, val, st⟩) :: rfA b (doD l ⟨kind, key, val, st⟩) :: T) w' := by
  have BR := Lib.hid (fun W => bring kind 3 W (by omega) (by omega))
  have h1 := h.newBlk 29 #[.int .i64 kind, .string key, .int .i64 val, .int .i64 st]
  have h2 := h1.perm (((List.Perm.swap (skA q l) (blkA V.heap.size 29 #[.int .i64 kind, .string key, .int .i64 val, .int .i64 st]) (rfA b l :: T))).trans (List.Perm.cons (skA q l) (List.Perm.swap (rfA b l) (blkA V.heap.size 29 #[.int .i64 kind, .string key, .int .i64 val, .int .i64 st]) T)))
  have HL := Lib.hid hl
  have HK := Lib.hid hks
  have H1 := Lib.hid hs1
  have H2 := Lib.hid hs2
  have HF := Lib.hid (fun (V' : World) (B : Nat) (l' : List Kv) (hh : DS w q b B kind key val st l l' T true true V') => (show Has w (skA q l' :: rfA b l' :: T) V' from (Has.rot3 hh).tail))
  have c0 : (V.alloc (.cells #[.int .i64 kind, .string key, .int .i64 val, .int .i64 st] 29)).cell? ⟨V.heap.size, 0, none⟩ = some (.int .i64 kind) := by simp
  by_cases hk : kind % 3 = 2
  · have hdo : doD l ⟨kind, key, val, st⟩ = kdrop l key := by unfold doD; rw [if_pos hk]
    rw [hdo]
    rw [hk] at BR
    have hS : DS w q b V.heap.size kind key val st l (kdrop l key) T false false (V.alloc (.cells #[.int .i64 kind, .string key, .int .i64 val, .int .i64 st] 29)) := h2
    have hC := hS.cells
    clear h h1 h2 hk hdo hl hks hs1 hs2
    go_enter Try.func13, Try.ntmps13
    go_wp2_with (first | (go_at_call 29; refine (BR.out _).mono ?_; rintro e w2 ⟨rfl, rfl⟩))
    have hPd : DS w q b V.heap.size kind key val st l (kdrop l key) T false false (V.alloc (.cells #[.int .i64 kind, .string key, .int .i64 val, .int .i64 st] 29)).drew := Has.drew hS
    have hSd : DC V.heap.size key val st (V.alloc (.cells #[.int .i64 kind, .string key, .int .i64 val, .int .i64 st] 29)).drew := hC
    clear hS hC c0
    generalize V.alloc (.cells #[.int .i64 kind, .string key, .int .i64 val, .int .i64 st] 29) = X at *
    generalize V.heap.size = B at *
    go_region_held3 (fun W => W.cell? ⟨B, 1, none⟩ = some (.string key) ∧ W.cell? ⟨B, 2, none⟩ = some (.int .i64 val) ∧ W.cell? ⟨B, 3, none⟩ = some (.int .i64 st))
      (first | with_reducible assumption | with_reducible exact hSd)
      (first
        | (go_at_call 31; (with_reducible refine (DS.dropA (by with_reducible assumption) HL.out).mono ?_); rintro e w8 ⟨rfl, hP8, hS8⟩)
        | (go_at_call 41; (with_reducible refine (DS.dropB (by with_reducible assumption) HL.out).mono ?_); rintro e w9 ⟨rfl, hP9, hS9⟩))
    all_goals
      go_wp2_with fail
      go_ret
      first
        | exact ⟨rfl, HF.out _ _ _ hP9⟩
        | exact ⟨rfl, HF.out _ _ _ hP8⟩
  · have hdo : doD l ⟨kind, key, val, st⟩ = kputI l key (.int .i64 val) st := by unfold doD; rw [if_neg hk]
    rw [hdo]
    have hk2 : (kind % 3 == 2) = false := by simpa using hk
    have hS : DS w q b V.heap.size kind key val st l (kputI l key (.int .i64 val) st) T false false (V.alloc (.cells #[.int .i64 kind, .string key, .int .i64 val, .int .i64 st] 29)) := h2
    have hC := hS.cells
    clear h h1 h2 hk hdo hl hks hs1 hs2
    go_enter Try.func13, Try.ntmps13
    go_wp2_with (first | (go_at_call 29; refine (BR.out _).mono ?_; rintro e w2 ⟨rfl, rfl⟩))
    have hPd : DS w q b V.heap.size kind key val st l (kputI l key (.int .i64 val) st) T false false (V.alloc (.cells #[.int .i64 kind, .string key, .int .i64 val, .int .i64 st] 29)).drew := Has.drew hS
    have hSd : DC V.heap.size key val st (V.alloc (.cells #[.int .i64 kind, .string key, .int .i64 val, .int .i64 st] 29)).drew := hC
    clear hS hC c0
    generalize V.alloc (.cells #[.int .i64 kind, .string key, .int .i64 val, .int .i64 st] 29) = X at *
    generalize V.heap.size = B at *
    go_region_held3 (fun W => W.cell? ⟨B, 1, none⟩ = some (.string key) ∧ W.cell? ⟨B, 2, none⟩ = some (.int .i64 val) ∧ W.cell? ⟨B, 3, none⟩ = some (.int .i64 st))
      (first | with_reducible assumption | with_reducible exact hSd)
      (first
        | (go_at_call 30; (with_reducible refine (DS.putA (by with_reducible assumption) HL.out HK.out H1.out H2.out).mono ?_); rintro e w8 ⟨rfl, hP8, hS8⟩)
        | (go_at_call 42; (with_reducible refine (DS.putB (by with_reducible assumption) HL.out H1.out H2.out).mono ?_); rintro e w9 ⟨rfl, hP9, hS9⟩))
    all_goals
      go_wp2_with fail
      go_ret
      first
        | exact ⟨rfl, HF.out _ _ _ hP9⟩
        | exact ⟨rfl, HF.out _ _ _ hP8⟩
end Go.Proofs.Ytcpbcoeccplliaa
