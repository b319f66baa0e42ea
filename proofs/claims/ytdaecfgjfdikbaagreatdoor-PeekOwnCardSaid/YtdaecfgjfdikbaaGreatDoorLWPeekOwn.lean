/-
  PeekOwn, walked (written by wip/genpeekown.py).
-/
import Derived.Test.YtdaecfgjfdikbaaGreatDoorLWPeekOwnF
import Derived.Test.YtdaecfgjfdikbaaGreatDoorLWPeekOwnT
set_option linter.unusedVariables false
set_option linter.unusedSimpArgs false
set_option maxRecDepth 100000
namespace Go.Proofs.YtdaecfgjfdikbaaGreatDoor
open Go.RowKit

set_option maxHeartbeats 16000000 in
theorem peekOwn_walk (A : Option Addr) (n c : Nat) (l : List Th) (x : Tx) (q : Int) (s : ByteArray) (d : Bool) (w : World) (hx : ThAt w A n l) (hz : ∀ y ∈ l, TSz y) (hn : n ≤ 9223372036854775807) (hM : MaxL w) :
    Calls Tryz.prog 7 #[.slice A n c, txv x, .agg #[.int .i64 q, .string s, .bool d]] w fun e w' => e = .returned (.bool true) ∧ Below w.heap.size w w' := by
  have hmix : Tryz.prog.follows .mixedOrders = true := by kernel_rfl
  obtain ⟨m, hm⟩ : ∃ m, q % 100 = m := ⟨_, rfl⟩
  have hm1 : 0 ≤ m := by rw [← hm]; exact Int.emod_nonneg q (by omega)
  have hm2 : m < 100 := by rw [← hm]; exact Int.emod_lt_of_pos q (by omega)
  have HBR := Lib.hid (fun W => bring q 100 W (by omega) (by omega))
  rw [hm] at HBR
  clear hm
  have h0 := ((Has.nil (Below.refl w.heap.size w)).newBlk 28 (txc x)).newBlk 79 #[.int .i64 q, .string s, .bool d]
  have hz1 : (w.alloc (.cells (txc x) 28)).heap.size = w.heap.size + 1 := World.size_alloc _ _
  rw [hz1] at h0
  have H0 := Lib.hid h0
  have HX := Lib.hid hx
  have HZ := Lib.hid hz
  have HMY := Lib.hid (lawMay_c x)
  clear h0 hz1 hx hz
  obtain ⟨r, hr⟩ : ∃ r, tabP l = r := ⟨_, rfl⟩
  have HRO := Lib.hid (show ROk 7680 r from hr ▸ tabP_ok HZ.out)
  have HTB := Lib.hid (fun (W : World) (hb : Below w.heap.size w W) => tables_c A n c l W (HX.out.below hb) hn HZ.out)
  rw [hr] at HTB
  clear hr
  cases hmx : mayX x
  · rw [hmx] at HMY
    clear HTB HBR
    go_enter Tryz.func7, Tryz.ntmps7
    go_wp2_with fail
    refine (HMY.out _).mono ?_
    rintro e w1 ⟨rfl, hb1⟩
    have h1 := H0.out.keep hb1
    have H1 := Lib.hid h1
    clear hb1 h1
    go_wp2_with fail
    refine (lawAwake _ (hM.below H1.out.bel)).mono ?_
    rintro e w2 ⟨rfl, hb2⟩
    have H2 := Lib.hid (H1.out.keep hb2)
    clear hb2
    go_wp2_with fail
    go_ret
    exact ⟨rfl, H2.out.bel⟩
  · cases d
    · exact own_false A n c l x q s w HX.out HZ.out hn hM hmx
    · exact own_true A n c l x q s w HX.out HZ.out hn hM hmx
end Go.Proofs.YtdaecfgjfdikbaaGreatDoor
