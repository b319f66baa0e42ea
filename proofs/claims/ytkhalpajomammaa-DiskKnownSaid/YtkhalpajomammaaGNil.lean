/-
  Layer 7: the landed disk's calls of a disk that is none (nil, or one that New did not make). (Written by wip/tools/gnil.py.)
-/
import Derived.Test.YtkhalpajomammaaGSum
set_option linter.unusedVariables false
namespace Go.Proofs.Ytkhalpajomammaa
open Go.RowKit Go.Maps

theorem nb1 (w : World) (a : Obj) : Below w.heap.size w (w.alloc a) := (Below.refl _ _).alloc (Nat.le_refl _) a
theorem nb2 (w : World) (a b : Obj) : Below w.heap.size w ((w.alloc a).alloc b) := (nb1 w a).alloc (by simp) b
theorem nb3 (w : World) (a b c : Obj) : Below w.heap.size w (((w.alloc a).alloc b).alloc c) := (nb2 w a b).alloc (by simp; omega) c
/-- A disk that is none. -/
def NoD (v : Value) (V : World) : Prop := v = .pointer none ∨ ∃ z, v = pt z ∧ V.heap[z]? = some (.cells #[.map none, .bool false, .pointer none] 68 (0, 0))
theorem NoD.below {v : Value} {V V' : World} (h : NoD v V) (hb : Below V.heap.size V V') : NoD v V' := by
  rcases h with h | ⟨z, h, hz⟩
  · exact .inl h
  · exact .inr ⟨z, h, (hb.block z (Array.getElem?_eq_some_iff.1 hz).1).trans hz⟩
set_option maxRecDepth 100000 in
theorem nNone (v : Value) (w : World) (h : NoD v w) : Calls Try.prog 44 #[v] w fun e w' => e = .returned (.bool true) ∧ Below w.heap.size w w' := by
  have qT : ∀ (w : World) (r : Option Nat), (binOp .eql 65 (.map r) (.map none)).run Try.prog w = .ok (.bool r.isNone) w := fun w r => run_eql_map_nil w _ _ _ r Try.underlying65
  rcases h with rfl | ⟨z, rfl, hz⟩
  · go_enter Try.func44, Try.ntmps44
    go_wp2
    go_ret
    exact ⟨rfl, Below.refl _ _⟩
  · have c0 : w.cell? ⟨z, 0, none⟩ = some (.map none) := cell_of_row w z 0 _ _ (0, 0) hz
    go_enter Try.func44, Try.ntmps44
    go_wp2
    go_ret
    exact ⟨rfl, Below.refl _ _⟩
theorem nNoneB (v : Value) (w V : World) (hb : Below w.heap.size w V) (h : NoD v V) : Calls Try.prog 44 #[v] V fun e w' => e = .returned (.bool true) ∧ Below w.heap.size w w' :=
  (nNone v V h).mono (fun e w' hh => ⟨hh.1, hb.trans (hh.2.mono hb.size)⟩)
set_option maxRecDepth 100000 in
set_option maxHeartbeats 1000000 in
theorem ncheck (v : Value) (w : World) (h : NoD v w) : Calls Try.prog 48 #[v] w fun e w' => e = .returned (.int .i64 1) ∧ Below w.heap.size w w' := by
  have H := Lib.hid (fun V (hb : Below w.heap.size w V) => h.below hb)
  clear h
  go_enter Try.func48, Try.ntmps48
  go_wp2_with (first
    | (go_at_call 44; refine (nNoneB v w _ (by exact Below.refl _ _) (H.out _ (by exact Below.refl _ _))).mono ?_; rintro e w1 ⟨rfl, hb1⟩))
  go_ret
  first | with_reducible exact ⟨rfl, hb1⟩ | exact ⟨rfl, hb1.alloc hb1.size _⟩
theorem ncheckB (v : Value) (w V : World) (hb : Below w.heap.size w V) (h : NoD v V) : Calls Try.prog 48 #[v] V fun e w' => e = .returned (.int .i64 1) ∧ Below w.heap.size w w' :=
  (ncheck v V h).mono (fun e w' hh => ⟨hh.1, hb.trans (hh.2.mono hb.size)⟩)
set_option maxRecDepth 100000 in
set_option maxHeartbeats 1000000 in
theorem nfind (v : Value) (w : World) (h : NoD v w) (s : ByteArray) : Calls Try.prog 53 #[v, .string s] w fun e w' => e = .returned (.tuple #[.pointer none, .int .i64 1]) ∧ Below w.heap.size w w' := by
  have H := Lib.hid (fun V (hb : Below w.heap.size w V) => h.below hb)
  clear h
  go_enter Try.func53, Try.ntmps53
  go_wp2_with (first
    | (go_at_call 48; refine (ncheckB v w _ (by exact Below.refl _ _) (H.out _ (by exact Below.refl _ _))).mono ?_; rintro e w1 ⟨rfl, hb1⟩))
  go_ret2
  first | with_reducible exact ⟨rfl, hb1⟩ | exact ⟨rfl, hb1.alloc hb1.size _⟩
theorem nfindB (v : Value) (w V : World) (hb : Below w.heap.size w V) (h : NoD v V) (s : ByteArray) : Calls Try.prog 53 #[v, .string s] V fun e w' => e = .returned (.tuple #[.pointer none, .int .i64 1]) ∧ Below w.heap.size w w' :=
  (nfind v V h s).mono (fun e w' hh => ⟨hh.1, hb.trans (hh.2.mono hb.size)⟩)
set_option maxRecDepth 100000 in
set_option maxHeartbeats 1000000 in
theorem nCrash (v : Value) (w : World) (h : NoD v w) (x : Value) : Calls Try.prog 23 #[v, x] w fun e w' => e = .returned (.tuple #[]) ∧ Below w.heap.size w w' := by
  have H := Lib.hid (fun V (hb : Below w.heap.size w V) => h.below hb)
  clear h
  go_enter Try.func23, Try.ntmps23
  go_wp2_with (first
    | (go_at_call 44; refine (nNoneB v w _ (by exact Below.refl _ _) (H.out _ (by exact Below.refl _ _))).mono ?_; rintro e w1 ⟨rfl, hb1⟩))
  first | go_end0 | (refine bodyPost_ret (results_none rfl _ _ _) rfl ?_)
  exact ⟨rfl, hb1⟩
set_option maxRecDepth 100000 in
set_option maxHeartbeats 1000000 in
theorem nFail (v : Value) (w : World) (h : NoD v w) (k : Int) (x : Value) : Calls Try.prog 30 #[v, .int .i64 k, x] w fun e w' => e = .returned (.tuple #[]) ∧ Below w.heap.size w w' := by
  have H := Lib.hid (fun V (hb : Below w.heap.size w V) => h.below hb)
  clear h
  go_enter Try.func30, Try.ntmps30
  go_wp2_with (first
    | (go_at_call 44; refine (nNoneB v w _ (by exact Below.refl _ _) (H.out _ (by exact Below.refl _ _))).mono ?_; rintro e w1 ⟨rfl, hb1⟩))
  first | go_end0 | (refine bodyPost_ret (results_none rfl _ _ _) rfl ?_)
  exact ⟨rfl, hb1⟩
set_option maxRecDepth 100000 in
set_option maxHeartbeats 1000000 in
theorem nBoot (v : Value) (w : World) (h : NoD v w) : Calls Try.prog 24 #[v] w fun e w' => e = .returned (.tuple #[]) ∧ Below w.heap.size w w' := by
  have H := Lib.hid (fun V (hb : Below w.heap.size w V) => h.below hb)
  clear h
  go_enter Try.func24, Try.ntmps24
  go_wp2_with (first
    | (go_at_call 44; refine (nNoneB v w _ (by exact Below.refl _ _) (H.out _ (by exact Below.refl _ _))).mono ?_; rintro e w1 ⟨rfl, hb1⟩))
  first | go_end0 | (refine bodyPost_ret (results_none rfl _ _ _) rfl ?_)
  exact ⟨rfl, hb1⟩
set_option maxRecDepth 100000 in
set_option maxHeartbeats 1000000 in
theorem nDead (v : Value) (w : World) (h : NoD v w) : Calls Try.prog 15 #[v] w fun e w' => e = .returned (.bool false) ∧ Below w.heap.size w w' := by
  have H := Lib.hid (fun V (hb : Below w.heap.size w V) => h.below hb)
  clear h
  go_enter Try.func15, Try.ntmps15
  go_wp2_with (first
    | (go_at_call 44; refine (nNoneB v w _ (by exact Below.refl _ _) (H.out _ (by exact Below.refl _ _))).mono ?_; rintro e w1 ⟨rfl, hb1⟩))
  go_ret
  first | with_reducible exact ⟨rfl, hb1⟩ | exact ⟨rfl, hb1.alloc hb1.size _⟩
set_option maxRecDepth 100000 in
set_option maxHeartbeats 1000000 in
theorem nNames (v : Value) (w : World) (h : NoD v w) : Calls Try.prog 27 #[v] w fun e w' => e = .returned (.slice none 0 0) ∧ Below w.heap.size w w' := by
  have H := Lib.hid (fun V (hb : Below w.heap.size w V) => h.below hb)
  clear h
  go_enter Try.func27, Try.ntmps27
  go_wp2_with (first
    | (go_at_call 48; refine (ncheckB v w _ (by exact Below.refl _ _) (H.out _ (by exact Below.refl _ _))).mono ?_; rintro e w1 ⟨rfl, hb1⟩))
  go_ret
  first | with_reducible exact ⟨rfl, hb1⟩ | exact ⟨rfl, hb1.alloc hb1.size _⟩
set_option maxRecDepth 100000 in
set_option maxHeartbeats 1000000 in
theorem nRead (v : Value) (w : World) (h : NoD v w) (s : ByteArray) : Calls Try.prog 25 #[v, .string s] w fun e w' => e = .returned (.tuple #[.slice none 0 0, .int .i64 1]) ∧ Below w.heap.size w w' := by
  have H := Lib.hid (fun V (hb : Below w.heap.size w V) => h.below hb)
  clear h
  go_enter Try.func25, Try.ntmps25
  go_wp2_with (first
    | (go_at_call 53; refine (nfindB v w _ (by exact Below.refl _ _) (H.out _ (by exact Below.refl _ _)) s).mono ?_; rintro e w1 ⟨rfl, hb1⟩))
  go_ret2
  first | with_reducible exact ⟨rfl, hb1⟩ | exact ⟨rfl, hb1.alloc hb1.size _⟩
set_option maxRecDepth 100000 in
set_option maxHeartbeats 1000000 in
theorem nSize (v : Value) (w : World) (h : NoD v w) (s : ByteArray) : Calls Try.prog 26 #[v, .string s] w fun e w' => e = .returned (.tuple #[.int .i64 0, .int .i64 1]) ∧ Below w.heap.size w w' := by
  have H := Lib.hid (fun V (hb : Below w.heap.size w V) => h.below hb)
  clear h
  go_enter Try.func26, Try.ntmps26
  go_wp2_with (first
    | (go_at_call 53; refine (nfindB v w _ (by exact Below.refl _ _) (H.out _ (by exact Below.refl _ _)) s).mono ?_; rintro e w1 ⟨rfl, hb1⟩))
  go_ret2
  first | with_reducible exact ⟨rfl, hb1⟩ | exact ⟨rfl, hb1.alloc hb1.size _⟩
set_option maxRecDepth 100000 in
set_option maxHeartbeats 1000000 in
theorem nSync (v : Value) (w : World) (h : NoD v w) (s : ByteArray) : Calls Try.prog 21 #[v, .string s] w fun e w' => e = .returned (.int .i64 1) ∧ Below w.heap.size w w' := by
  have H := Lib.hid (fun V (hb : Below w.heap.size w V) => h.below hb)
  clear h
  go_enter Try.func21, Try.ntmps21
  go_wp2_with (first
    | (go_at_call 53; refine (nfindB v w _ (by exact Below.refl _ _) (H.out _ (by exact Below.refl _ _)) s).mono ?_; rintro e w1 ⟨rfl, hb1⟩))
  go_ret
  first | with_reducible exact ⟨rfl, hb1⟩ | exact ⟨rfl, hb1.alloc hb1.size _⟩
set_option maxRecDepth 100000 in
set_option maxHeartbeats 1000000 in
theorem nCut (v : Value) (w : World) (h : NoD v w) (s : ByteArray) (k : Int) : Calls Try.prog 29 #[v, .string s, .int .i64 k] w fun e w' => e = .returned (.int .i64 1) ∧ Below w.heap.size w w' := by
  have H := Lib.hid (fun V (hb : Below w.heap.size w V) => h.below hb)
  clear h
  go_enter Try.func29, Try.ntmps29
  go_wp2_with (first
    | (go_at_call 53; refine (nfindB v w _ (by exact nb1 w _) (H.out _ (by exact nb1 w _)) s).mono ?_; rintro e w1 ⟨rfl, hb1⟩))
  go_ret
  first | with_reducible exact ⟨rfl, hb1⟩ | exact ⟨rfl, hb1.alloc hb1.size _⟩
set_option maxRecDepth 100000 in
set_option maxHeartbeats 1000000 in
theorem nRename (v : Value) (w : World) (h : NoD v w) (s t : ByteArray) : Calls Try.prog 31 #[v, .string s, .string t] w fun e w' => e = .returned (.int .i64 1) ∧ Below w.heap.size w w' := by
  obtain ⟨p, rfl⟩ : ∃ p, v = .pointer p := by
    rcases h with rfl | ⟨z, rfl, _⟩
    · exact ⟨_, rfl⟩
    · exact ⟨_, rfl⟩
  have H := Lib.hid (fun V (hb : Below w.heap.size w V) => h.below hb)
  clear h
  have hbx := nb3 w (.cells #[.pointer p] 23) (.cells #[.string s] 9) (.cells #[.string t] 9)
  have FI := Lib.hid (nfindB (.pointer p) w (((w.alloc (.cells #[.pointer p] 23)).alloc (.cells #[.string s] 9)).alloc (.cells #[.string t] 9)) hbx (H.out _ hbx) s)
  clear hbx
  go_enter Try.func31, Try.ntmps31
  go_wp2_with (first
    | (go_at_call 53; refine FI.out.mono ?_; rintro e w1 ⟨rfl, hb1⟩))
  go_ret
  first | with_reducible exact ⟨rfl, hb1⟩ | exact ⟨rfl, hb1.alloc hb1.size _⟩
set_option maxRecDepth 100000 in
set_option maxHeartbeats 1000000 in
theorem nRemove (v : Value) (w : World) (h : NoD v w) (s : ByteArray) : Calls Try.prog 33 #[v, .string s] w fun e w' => e = .returned (.int .i64 1) ∧ Below w.heap.size w w' := by
  obtain ⟨p, rfl⟩ : ∃ p, v = .pointer p := by
    rcases h with rfl | ⟨z, rfl, _⟩
    · exact ⟨_, rfl⟩
    · exact ⟨_, rfl⟩
  have H := Lib.hid (fun V (hb : Below w.heap.size w V) => h.below hb)
  clear h
  have hbx := nb2 w (.cells #[.pointer p] 23) (.cells #[.string s] 9)
  have FI := Lib.hid (nfindB (.pointer p) w ((w.alloc (.cells #[.pointer p] 23)).alloc (.cells #[.string s] 9)) hbx (H.out _ hbx) s)
  clear hbx
  go_enter Try.func33, Try.ntmps33
  go_wp2_with (first
    | (go_at_call 53; refine FI.out.mono ?_; rintro e w1 ⟨rfl, hb1⟩))
  go_ret
  first | with_reducible exact ⟨rfl, hb1⟩ | exact ⟨rfl, hb1.alloc hb1.size _⟩
set_option maxRecDepth 100000 in
set_option maxHeartbeats 1000000 in
theorem nTurn (v : Value) (w : World) (h : NoD v w) (s : ByteArray) (i b : Int) : Calls Try.prog 34 #[v, .string s, .int .i64 i, .int .i64 b] w fun e w' => e = .returned (.int .i64 1) ∧ Below w.heap.size w w' := by
  have H := Lib.hid (fun V (hb : Below w.heap.size w V) => h.below hb)
  clear h
  go_enter Try.func34, Try.ntmps34
  go_wp2_with (first
    | (go_at_call 53; refine (nfindB v w _ (by exact Below.refl _ _) (H.out _ (by exact Below.refl _ _)) s).mono ?_; rintro e w1 ⟨rfl, hb1⟩))
  go_ret
  first | with_reducible exact ⟨rfl, hb1⟩ | exact ⟨rfl, hb1.alloc hb1.size _⟩
set_option maxRecDepth 100000 in
set_option maxHeartbeats 1000000 in
theorem nAppend (v : Value) (w : World) (h : NoD v w) (s : ByteArray) (XA : Option Addr) (xn xc : Nat) : Calls Try.prog 20 #[v, .string s, .slice XA xn xc] w fun e w' => e = .returned (.int .i64 1) ∧ Below w.heap.size w w' := by
  obtain ⟨p, rfl⟩ : ∃ p, v = .pointer p := by
    rcases h with rfl | ⟨z, rfl, _⟩
    · exact ⟨_, rfl⟩
    · exact ⟨_, rfl⟩
  have H := Lib.hid (fun V (hb : Below w.heap.size w V) => h.below hb)
  clear h
  have hbx := nb3 w (.cells #[.pointer p] 23) (.cells #[.string s] 9) (.cells #[.slice XA xn xc] 27)
  have FI := Lib.hid (ncheckB (.pointer p) w (((w.alloc (.cells #[.pointer p] 23)).alloc (.cells #[.string s] 9)).alloc (.cells #[.slice XA xn xc] 27)) hbx (H.out _ hbx))
  clear hbx
  go_enter Try.func20, Try.ntmps20
  go_wp2_with (first
    | (go_at_call 48; refine FI.out.mono ?_; rintro e w1 ⟨rfl, hb1⟩))
  go_ret
  first | with_reducible exact ⟨rfl, hb1⟩ | exact ⟨rfl, hb1.alloc hb1.size _⟩
end Go.Proofs.Ytkhalpajomammaa
