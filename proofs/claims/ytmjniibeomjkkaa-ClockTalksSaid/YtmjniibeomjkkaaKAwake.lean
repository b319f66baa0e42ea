/-
  Layer 6: the chapter's examples, as the statements call them.
-/
import Derived.Test.YtmjniibeomjkkaaKDo0
set_option linter.unusedVariables false
namespace Go.Proofs.Ytmjniibeomjkkaa
open Go.RowKit

/-- What 'tells' tells. -/
def tellsV (c : Ck) (a b : Int) : Bool := (nowR c).1 == a && (nowR c).2.1 == b && (nowR c).2.2 == 0
def Told (w : World) (g : Nat) (c : Ck) (v : Bool) (e : Ending) (w' : World) : Prop := e = .returned (.bool v) ∧ Clk w' g c ∧ w.grownBy w' (some g)

set_option maxHeartbeats 4000000 in
theorem tells_w (hc : ClockOk) (w : World) (g : Nat) (c c' : Ck) (a b : Int) (h : Clk w g c) (hn : nowR c = (a, b, 0)) (hc' : nowC c = c') (h1 : c'.s1 = a) (h2 : c'.s2 = b) :
    Calls Try.prog 34 #[pt g, .int .i64 a, .int .i64 b] w (Told w g c' true) := by
  have hlt := h.lt
  have HC := Lib.hid hc
  have N1 := HC.out.now _ _ _ h
  rw [hn, hc'] at N1
  replace N1 := Lib.hid N1
  have q1 : (a == a) = true := beq_self_eq_true _
  have q2 : (b == b) = true := beq_self_eq_true _
  have L1 := Lib.hid (fun V (hV : Clk V g c') => by have h := HC.out.last _ _ _ hV; rw [h1, h2] at h; exact h)
  clear hc hn hc' h1 h2
  go_enter Try.func34, Try.ntmps34
  go_wp2_with fail
  refine N1.out.mono ?_
  rintro e w2 ⟨rfl, hC2, ho2⟩
  have hC3 := hC2.alloc (.cells #[.int .i64 a, .int .i64 b] 32)
  have hX3 := Box.new w2 a b
  have ho3 := onto_trans ho2 (onto_below ((Below.refl _ _).alloc (Nat.le_refl _) (.cells #[.int .i64 a, .int .i64 b] 32)))
  have hCd : Clk (w2.alloc (.cells #[.int .i64 a, .int .i64 b] 32)).drew g c' := hC3
  have hXd : Box (w2.alloc (.cells #[.int .i64 a, .int .i64 b] 32)).drew w2.heap.size a b := hX3
  have hS0 := And.intro hXd.c0 hXd.c1
  have ho3d : w.grownBy (w2.alloc (.cells #[.int .i64 a, .int .i64 b] 32)).drew (some g) := onto_trans ho3 (onto_below ((Below.refl _ _).drew))
  clear hC2 N1 h
  go_wp2_with fail
  go_region_held3 (fun V => V.cell? ⟨w2.heap.size, 0, none⟩ = some (.int .i64 a) ∧ V.cell? ⟨w2.heap.size, 1, none⟩ = some (.int .i64 b))
    (first | with_reducible assumption | with_reducible exact hS0)
    (first
      | (go_at_call 15; refine (L1.out _ hCd).mono ?_; rintro e w4 ⟨rfl, hb4⟩; have hC4 := hCd.below hb4; have hX4 := hXd.keep hb4; have hS4 := And.intro hX4.c0 hX4.c1))
  all_goals go_wp2
  all_goals go_ret
  all_goals exact ⟨rfl, hC4, onto_trans ho3d (onto_below hb4)⟩

/-- A clock in a block that is the call's own, and nothing older has changed. -/
def AK (w : World) (g : Nat) (c : Ck) (V : World) : Prop := Clk V g c ∧ Below w.heap.size w V ∧ w.heap.size ≤ g
section
variable {w V : World} {g : Nat} {c c' : Ck} {f : FuncId} {args : Array Value} {v : Value}
theorem AK.mut (p : AK w g c V) (hc : Calls Try.prog f args V fun e V' => e = .returned v ∧ Clk V' g c' ∧ V.grownBy V' (some g)) :
    Calls Try.prog f args V fun e V' => e = .returned v ∧ AK w g c' V' :=
  hc.mono fun _ _ hh => ⟨hh.1, hh.2.1, p.2.1.grown hh.2.2 p.2.1.size (fun _ e => Option.some.inj e ▸ p.2.2), p.2.2⟩
theorem AK.read (p : AK w g c V) (hc : Calls Try.prog f args V fun e V' => e = .returned v ∧ Below V.heap.size V V') :
    Calls Try.prog f args V fun e V' => e = .returned v ∧ AK w g c V' :=
  hc.mono fun _ _ hh => ⟨hh.1, p.1.below hh.2, p.2.1.trans (hh.2.mono p.2.1.size), p.2.2⟩
theorem AK.alloc (p : AK w g c V) (o : Obj) : AK w g c (V.alloc o) := ⟨p.1.alloc o, p.2.1.alloc p.2.1.size _, p.2.2⟩
end
section
variable {w V : World} {g : Nat} {c : Ck}
theorem k_raise (hc : ClockOk) (p : AK w g c V) (r e0 : Int) (c' : Ck) (he : rseE c r = e0) (h' : rseC c r = c') :
    Calls Try.prog 23 #[pt g, .int .i64 r] V fun e V' => e = .returned (.int .i64 e0) ∧ AK w g c' V' := by
  have h := p.mut (hc.raise V g c r p.1)
  rw [he, h'] at h
  exact h
theorem k_set (hc : ClockOk) (p : AK w g c V) (r e0 : Int) (c' : Ck) (he : setE c r = e0) (h' : setC c r = c') :
    Calls Try.prog 24 #[pt g, .int .i64 r] V fun e V' => e = .returned (.int .i64 e0) ∧ AK w g c' V' := by
  have h := p.mut (hc.set V g c r p.1)
  rw [he, h'] at h
  exact h
theorem k_see (hc : ClockOk) (p : AK w g c V) (a b e0 : Int) (c' : Ck) (he : seeE c a b = e0) (h' : seeC c a b = c') :
    Calls Try.prog 26 #[pt g, sv a b] V fun e V' => e = .returned (.int .i64 e0) ∧ AK w g c' V' := by
  have h := p.mut (hc.see V g c a b p.1)
  rw [he, h'] at h
  exact h
theorem k_now (hc : ClockOk) (p : AK w g c V) (a b e0 : Int) (c' : Ck) (he : nowR c = (a, b, e0)) (h' : nowC c = c') :
    Calls Try.prog 25 #[pt g] V fun e V' => e = .returned (.tuple #[sv a b, .int .i64 e0]) ∧ AK w g c' V' := by
  have h := p.mut (hc.now V g c p.1)
  rw [he, h'] at h
  exact h
theorem k_tells (hc : ClockOk) (p : AK w g c V) (c' : Ck) (a b : Int) (hn : nowR c = (a, b, 0)) (h' : nowC c = c') (h1 : c'.s1 = a) (h2 : c'.s2 = b) :
    Calls Try.prog 34 #[pt g, .int .i64 a, .int .i64 b] V fun e V' => e = .returned (.bool true) ∧ AK w g c' V' :=
  p.mut (tells_w hc V g c c' a b p.1 hn h' h1 h2)
end

set_option maxHeartbeats 8000000 in
theorem awakeK (hc : ClockOk) (w : World) : Calls Try.prog 17 #[] w fun e w' => e = .returned (.bool true) ∧ Below w.heap.size w w' := by
  have HC := Lib.hid hc
  go_enter Try.func17, Try.ntmps17
  go_wp2_with fail
  refine (HC.out.new 10 0 _ rfl).mono ?_
  rintro e w1 ⟨g, hg, rfl, hC, hB⟩
  go_wp2_with fail
  refine (HC.out.new 10 100 _ rfl).mono ?_
  rintro e w2 ⟨d, hd, rfl, hD, hB2⟩
  have hA : AK w g ⟨10, 0, 0, 0, 0, 0⟩ w2 := ⟨hC.below hB2, hB.trans (hB2.mono hB.size), hg⟩
  have hD2 : Clk w2 d ⟨10, 0, 100, 100, 99, 1048575⟩ := hD
  clear hC hB hB2 hD hc
  go_wp2_with fail
  refine (HC.out.last _ _ _ hD2).mono ?_
  rintro e w3 ⟨rfl, hb3⟩
  replace hA : AK w g ⟨10, 0, 0, 0, 0, 0⟩ w3 := ⟨hA.1.below hb3, hA.2.1.trans (hb3.mono hA.2.1.size), hA.2.2⟩
  replace hD2 := hD2.below hb3
  clear hb3
  go_wp2_with fail
  refine (HC.out.ready _ _ _ hD2).mono ?_
  rintro e w4 ⟨rfl, hb4⟩
  replace hA : AK w g ⟨10, 0, 0, 0, 0, 0⟩ w4 := ⟨hA.1.below hb4, hA.2.1.trans (hb4.mono hA.2.1.size), hA.2.2⟩
  clear hb4 hD2
  rw [show rdy ⟨10, 0, 100, 100, 99, 1048575⟩ = false from rfl]
  go_wp2_with fail
  refine (hA.read (HC.out.ready _ _ _ hA.1)).mono ?_
  rintro e w5 ⟨rfl, hA5⟩
  rw [show rdy ⟨10, 0, 0, 0, 0, 0⟩ = true from rfl]
  clear hA
  go_wp2_with fail
  refine (k_raise HC.out hA5 50 0 ⟨10, 0, 0, 50, 0, 0⟩ rfl rfl).mono ?_
  rintro e w6 ⟨rfl, hA6⟩
  clear hA5
  go_wp2_with fail
  refine (k_set HC.out hA6 7 0 ⟨10, 7, 0, 50, 0, 0⟩ rfl rfl).mono ?_
  rintro e w7 ⟨rfl, hA7⟩
  clear hA6
  go_wp2_with fail
  refine (k_tells HC.out hA7 ⟨10, 7, 0, 50, 7, 0⟩ 7 0 rfl rfl rfl rfl).mono ?_
  rintro e w8 ⟨rfl, hA8⟩
  clear hA7
  go_wp2_with fail
  refine (k_tells HC.out hA8 ⟨10, 7, 0, 50, 7, 1⟩ 7 1 rfl rfl rfl rfl).mono ?_
  rintro e w9 ⟨rfl, hA9⟩
  clear hA8
  go_wp2_with fail
  refine (k_see HC.out hA9 17 3 0 ⟨10, 7, 0, 50, 17, 3⟩ rfl rfl).mono ?_
  rintro e w10 ⟨rfl, hA10⟩
  clear hA9
  go_wp2_with fail
  refine (k_tells HC.out hA10 ⟨10, 7, 0, 50, 17, 4⟩ 17 4 rfl rfl rfl rfl).mono ?_
  rintro e w11 ⟨rfl, hA11⟩
  clear hA10
  go_wp2_with fail
  refine (k_see HC.out hA11 18 0 60 ⟨10, 7, 0, 50, 17, 4⟩ rfl rfl).mono ?_
  rintro e w12 ⟨rfl, hA12⟩
  clear hA11
  go_wp2_with fail
  refine (k_set HC.out hA12 50 0 ⟨10, 50, 0, 50, 17, 4⟩ rfl rfl).mono ?_
  rintro e w13 ⟨rfl, hA13⟩
  clear hA12
  go_wp2_with fail
  refine (k_now HC.out hA13 0 0 61 ⟨10, 50, 0, 50, 17, 4⟩ rfl rfl).mono ?_
  rintro e w14 ⟨rfl, hA14⟩
  clear hA13
  have hA14' := hA14.alloc (.cells #[.int .i64 0, .int .i64 0] 32)
  clear hA14
  go_wp2_with fail
  refine (k_raise HC.out hA14' 60 0 ⟨10, 50, 0, 60, 17, 4⟩ rfl rfl).mono ?_
  rintro e w15 ⟨rfl, hA15⟩
  clear hA14'
  go_wp2_with fail
  refine (k_tells HC.out hA15 ⟨10, 50, 0, 60, 50, 0⟩ 50 0 rfl rfl rfl rfl).mono ?_
  rintro e w16 ⟨rfl, hA16⟩
  go_wp2
  go_ret
  exact ⟨rfl, hA16.2.1⟩
end Go.Proofs.Ytmjniibeomjkkaa
