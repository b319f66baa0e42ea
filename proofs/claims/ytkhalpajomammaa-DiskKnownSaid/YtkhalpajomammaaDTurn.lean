/-
  Layer 7: the document's disk: Turn.
-/
import Derived.Test.YtkhalpajomammaaDNames
import Derived.Laws.BitsAllLaws
set_option linter.unusedVariables false
namespace Go.Proofs.Ytkhalpajomammaa
open Go.RowKit

/-- Blocks of one's own are added. -/
theorem RDkB.widen {V : World} {g : Nat} {D : Dk} {F Fb : Nat → Prop} {v : Value} {A : Option Addr} {n c : Nat} {qs : List Fv} (h : RDkB V g D F Fb v A n c qs) (N : Nat → Prop) (hN : ∀ k, N k → ¬ F k ∧ k < V.heap.size) :
    RDkB V g D (fun k => F k ∨ N k) (fun k => Fb k ∨ N k) v A n c qs := by
  refine ⟨h.obj, h.eq, ⟨h.list.row, fun k e => ⟨.inl (h.list.own k e).1, ?_⟩, fun q hq => (h.list.each q hq).on (fun _ _ => rfl) (fun _ e => .inl e)⟩, h.keep, fun a e => .inl (h.keepF a e), h.kcap, ⟨.inl h.fg.1, ?_, h.fg.2.2⟩, fun k e => ?_, fun k e => ?_, h.ok⟩
  · rintro (e2 | e2)
    · exact (h.list.own k e).2 e2
    · exact (hN k e2).1 (h.list.own k e).1
  · rintro (e2 | e2)
    · exact h.fg.2.1 e2
    · exact (hN g e2).1 h.fg.1
  · rcases e with e | e
    · exact .inl (h.sub k e)
    · exact .inr e
  · rcases e with e | e
    · exact h.lt k e
    · exact (hN k e).2
theorem shl_t : ∀ t : Nat, t ≤ 7 → IntKind.u8.wrap ((2 : Int) ^ t) = (((1 : UInt8) <<< UInt8.ofNat t).toNat : Int) := by
  intro t ht
  rcases (show t = 0 ∨ t = 1 ∨ t = 2 ∨ t = 3 ∨ t = 4 ∨ t = 5 ∨ t = 6 ∨ t = 7 by omega) with rfl | rfl | rfl | rfl | rfl | rfl | rfl | rfl <;> decide
theorem xor_u8 (x y : UInt8) : bits .xor .u8 (x.toNat : Int) (y.toNat : Int) = ((x ^^^ y).toNat : Int) := by
  rw [u8_xor_nat _ _ x.toNat_lt y.toNat_lt, UInt8.toNat_xor]
section
variable {w : World} {B g m c : Nat} {xs : List UInt8}
theorem Own.some_' {A : Option Addr} (h : Own w B (.slice A m c) xs) (hl : xs.length = m) (hm : 0 < m) : ∃ g, A = some ⟨g, 0, none⟩ ∧ B ≤ g ∧ g < w.heap.size := by
  subst hl
  exact h.some_ hm
theorem Own.cell' (h : Own w B (.slice (some ⟨g, 0, none⟩) m c) xs) (hl : xs.length = m) (k : Nat) (hk : k < m) : w.cell? ⟨g, k, none⟩ = some (.int .u8 ((xs[k]'(by rw [hl]; exact hk)).toNat : Int)) := h.cell k hk
theorem Own.set' (h : Own w B (.slice (some ⟨g, 0, none⟩) m c) xs) (hl : xs.length = m) (k : Nat) (y : UInt8) : At (w.setCell ⟨g, k, none⟩ (.int .u8 (y.toNat : Int))) (some ⟨g, 0, none⟩) m (xs.set k y) := by
  subst hl
  have h1 := (h.set k y).at_
  exact h1
theorem Own.free' (h : Own w B (.slice (some ⟨g, 0, none⟩) m c) xs) (hl : xs.length = m) (k : Nat) : w.frozen? ⟨g, k, none⟩ = false := h.free k
end
set_option maxRecDepth 100000 in
set_option maxHeartbeats 8000000 in
theorem turn_ok (w : World) (g : Nat) (D : Dk) (F : Nat → Prop) (nm : ByteArray) (at_ bit : Int) (ha : -9223372036854775808 ≤ at_ ∧ at_ ≤ 9223372036854775807) (hbi : -9223372036854775808 ≤ bit ∧ bit ≤ 9223372036854775807) (h : RDk w g D F) :
    Calls Try.prog 43 #[pt g, .string nm, .int .i64 at_, .int .i64 bit] w fun e w' => e = .returned (.int .i64 (trnE D nm at_ bit)) ∧ Turns RDk w g F (trn D nm at_ bit) w' := by
  obtain ⟨Fb, v, KA, kn, kc, qs, h⟩ := h
  have FI := Lib.hid (find_ok w g D F nm ⟨Fb, v, KA, kn, kc, qs, h⟩)
  obtain ⟨p, hp⟩ : ∃ p, pos D.l nm = p := ⟨_, rfl⟩
  obtain ⟨is, his⟩ : ∃ b, isAt D.l nm = b := ⟨_, rfl⟩
  obtain ⟨dd, hd⟩ : ∃ b, D.dead = b := ⟨_, rfl⟩
  have c1 := h.c1
  rw [hp, his] at FI
  rw [hd] at c1
  have HP := Lib.hid hp
  have HI := Lib.hid his
  have HD := Lib.hid hd
  have H := Lib.hid h
  clear h hp his hd
  cases dd with
  | true =>
    have hE : trnE D nm at_ bit = 71 := by unfold trnE nmE; rw [HD.out]; rfl
    have hC : trn D nm at_ bit = D := by unfold trn trnE nmE; rw [HD.out]; rfl
    rw [hE, hC]
    go_enter Try.func43, Try.ntmps43
    go_wp2_with fail
    go_ret
    exact ⟨rfl, H.out.ends (fun k e => .inl e) (Grow.refl _ _) H.out.lt⟩
  | false =>
    cases is with
    | false =>
      have hE : trnE D nm at_ bit = 70 := by unfold trnE nmE; rw [HD.out, HI.out]; rfl
      have hC : trn D nm at_ bit = D := by unfold trn trnE nmE; rw [HD.out, HI.out]; rfl
      rw [hE, hC]
      go_enter Try.func43, Try.ntmps43
      go_wp2_with (first | (go_at_call 69; refine FI.out.mono ?_; rintro e w1 ⟨rfl, hb1⟩))
      go_ret
      exact ⟨rfl, (H.out.below hb1).ends (fun k e => .inl e) (Grow.of_below hb1) H.out.lt⟩
    | true =>
      have hN : nmE D nm = 0 := by unfold nmE; rw [HD.out, HI.out]; rfl
      obtain ⟨b, m, cap, bs, mk, qA, qc, hq, rfl, hgb, hm, hmc, hqe, hfa, hrf, hmk, hbl, ⟨hdl, hde⟩, hm20⟩ := H.out.file HP.out HI.out
      obtain ⟨L, hL⟩ : ∃ L, bs.length = L := ⟨_, rfl⟩
      have HQE := Lib.hid hqe
      have HL := Lib.hid hL
      have hpI : (p : Int) < (m : Int) := by omega
      have hpI0 : (0 : Int) ≤ (p : Int) := by omega
      have HCL := Lib.hid (fun V (hb : Below w.heap.size w V) => (H.out.below hb).cells hq HQE.out)
      have HAT := Lib.hid (fun V (hb : Below w.heap.size w V) => ((H.out.below hb).bytes hq HQE.out).1)
      rw [hL] at HCL HAT hbl hmk
      by_cases hr : at_ < 0 ∨ (L : Int) ≤ at_ ∨ bit < 0 ∨ 7 < bit
      · have hr' : at_ < 0 ∨ ((fileAt D.l nm).bs.length : Int) ≤ at_ ∨ bit < 0 ∨ 7 < bit := by rw [hfa]; show at_ < 0 ∨ (bs.length : Int) ≤ at_ ∨ bit < 0 ∨ 7 < bit; rw [hL]; exact hr
        have hE : trnE D nm at_ bit = 9 := by unfold trnE; rw [hN, if_pos rfl, if_pos hr']
        have hC : trn D nm at_ bit = D := by unfold trn; rw [hE]; rfl
        rw [hE, hC]
        clear hE hC hN hr' hL hm hqe hfa hrf hde
        go_enter Try.func43, Try.ntmps43
        go_wp2_with (first
          | (go_at_call 69; refine FI.out.mono ?_; rintro e w1 ⟨rfl, hb1⟩; have c0 := (H.out.below hb1).c0; obtain ⟨d0, d1, d2⟩ := HCL.out _ hb1))
        all_goals first
          | (exfalso; omega)
          | (go_ret; exact ⟨rfl, (H.out.below hb1).ends (fun k e => .inl e) (Grow.of_below hb1) H.out.lt⟩)
      · have hr' : ¬ (at_ < 0 ∨ ((fileAt D.l nm).bs.length : Int) ≤ at_ ∨ bit < 0 ∨ 7 < bit) := by rw [hfa]; show ¬ (at_ < 0 ∨ (bs.length : Int) ≤ at_ ∨ bit < 0 ∨ 7 < bit); rw [hL]; exact hr
        have hE : trnE D nm at_ bit = 0 := by unfold trnE; rw [hN, if_pos rfl, if_neg hr']
        have hC : trn D nm at_ bit = { D with l := D.l.set p ⟨nm, flip bs at_.toNat bit.toNat, mk⟩ } := by unfold trn; rw [hE, if_pos rfl]; unfold setAt; rw [HP.out, hfa]
        obtain ⟨D', hD'⟩ : ∃ x, trn D nm at_ bit = x := ⟨_, rfl⟩
        rw [hE, hD']
        have HC := Lib.hid (hD'.symm.trans hC)
        obtain ⟨a, rfl⟩ : ∃ a : Nat, at_ = (a : Int) := ⟨at_.toNat, by omega⟩
        obtain ⟨t, rfl⟩ : ∃ t : Nat, bit = (t : Int) := ⟨bit.toNat, by omega⟩
        have haL : a < L := by omega
        have ht7 : t ≤ 7 := by omega
        have HFA := Lib.hid hfa
        have HDE := Lib.hid hde
        clear hr hr' hE hC hN hD' hL hm hqe hfa hrf hde ha hbi
        go_enter Try.func43, Try.ntmps43
        go_wp2_with (first
          | (go_at_call 69; refine FI.out.mono ?_; rintro e w1 ⟨rfl, hb1⟩; have c0 := (H.out.below hb1).c0; obtain ⟨d0, d1, d2⟩ := HCL.out _ hb1; have hat := HAT.out _ hb1)
          | (go_at_call 11; refine (copyBytes qA L qc bs _ hat (by omega)).mono ?_; rintro e w3 ⟨v1, rfl, hown, hb3⟩; obtain ⟨A1, cc1, rfl, hat1, hcc1, hcc2, hin1⟩ := ownNew HL.out (ownLen hown HL.out); have HOWN := Lib.hid hown; clear hown))
        obtain ⟨q1, rfl, hq1, hq2⟩ := HOWN.out.some_' HL.out (by omega)
        have hR3 := H.out.below (hb1.trans (hb3.mono hb1.size))
        obtain ⟨x, hx⟩ : ∃ x, bs[a]'(by rw [HL.out]; exact haL) = x := ⟨_, rfl⟩
        have hcl : w3.cell? ⟨q1, a, none⟩ = some (.int .u8 (x.toNat : Int)) := by rw [← hx]; exact HOWN.out.cell' HL.out a haL
        have hfz : w3.frozen? ⟨q1, a, none⟩ = false := HOWN.out.free' HL.out a
        have haI : (a : Int) < (L : Int) := by omega
        have haI0 : (0 : Int) ≤ (a : Int) := by omega
        have hx8 := x.toNat_lt
        have hv : bits .xor .u8 (x.toNat : Int) (IntKind.u8.wrap ((2 : Int) ^ t)) = ((x ^^^ ((1 : UInt8) <<< UInt8.ofNat t)).toNat : Int) := by rw [shl_t t ht7, xor_u8]
        have hFq : ¬ F q1 := fun e => by have := H.out.lt q1 e; have := hb1.size; omega
        have hqb : b ≠ q1 := fun e => hFq (e ▸ (H.out.list.own b rfl).1)
        have hqg : g ≠ q1 := fun e => hFq (e ▸ H.out.fg.1)
        obtain ⟨y, hy⟩ : ∃ y, x ^^^ ((1 : UInt8) <<< UInt8.ofNat t) = y := ⟨_, rfl⟩
        rw [hy] at hv
        have h4 := (HOWN.out.set' HL.out a y)
        have hR4 := hR3.far (p := ⟨q1, a, none⟩) hFq (.int .u8 (y.toNat : Int))
        have hR5 := hR4.widen (fun k => k = q1) (fun k e => by subst e; exact ⟨hFq, by rw [set_size]; exact hq2⟩)
        have hfl : flip bs a t = bs.set a y := by unfold flip; rw [List.getD_eq_getElem?_getD, List.getElem?_eq_getElem (by rw [HL.out]; exact haL), Option.getD_some, hx, hy]
        have hLs : (bs.set a y).length = L := by rw [List.length_set, HL.out]
        have hok : ({ D with l := D.l.set p ⟨nm, bs.set a y, mk⟩ } : Dk).ok := ok_set H.out.ok hdl (by rw [HDE.out]) (by show mk ≤ (bs.set a y).length; rw [hLs]; exact hmk) (by rw [HDE.out]; have := H.out.ok.sum; show sum D.l + (bs.set a y).length ≤ 4194304 + bs.length; rw [hLs, HL.out]; omega)
        have hR6 := hR5.store (i := p) (j := 1) hq (by omega) (u := .slice (some ⟨q1, 0, none⟩) L cc1) (q := ⟨⟨nm, bs.set a y, mk⟩, some ⟨q1, 0, none⟩, cc1⟩) (by rw [HQE.out]; simp only [Fv.vals]; rw [hLs]; rfl) ⟨by show At _ _ (bs.set a y).length _; rw [hLs]; exact h4, by show (bs.set a y).length ≤ cc1; rw [hLs]; exact hcc1, hcc2, fun a' e => .inr (by injection e with e; rw [← e])⟩ hok
        have u0 := hR4.c0
        obtain ⟨⟨ou, hou⟩, hofz⟩ := hR4.wr (i := p) (j := 1) hq (by omega)
        have HR6 := Lib.hid hR6
        have HFL := Lib.hid hfl
        have HQ1 := Lib.hid (And.intro hq1 hq2)
        have HFB := Lib.hid (H.out.list.own b rfl).1
        clear hR3 hR4 hR5 hR6 h4 hok hLs hfl hy hx hat1 hin1 hq1 hq2 hFq
        go_region_with (fail)
        all_goals
          go_wp2_with fail
          go_ret
          have hb3' := hb1.trans (hb3.mono hb1.size)
          have hG := (((Grow.of_below (F := F) hb3').set (p := ⟨q1, a, none⟩) (.inr (Nat.le_trans hb1.size HQ1.out.1)) (.int .u8 (y.toNat : Int))).set (p := ⟨b, p * 3 + 1, none⟩) (.inl HFB.out) (.slice (some ⟨q1, 0, none⟩) L cc1)).drewN 1
          rw [HC.out, Int.toNat_natCast, Int.toNat_natCast, HFL.out]
          refine ⟨rfl, (HR6.out.below (Below.refl _ _).drew).ends (fun k e => ?_) hG H.out.lt⟩
          rcases e with e | e
          · exact .inl e
          · subst e
            refine .inr ⟨Nat.le_trans hb1.size HQ1.out.1, ?_⟩
            show k < ((w3.setCell ⟨k, a, none⟩ (.int .u8 (y.toNat : Int))).setCell ⟨b, p * 3 + 1, none⟩ (.slice (some ⟨k, 0, none⟩) L cc1)).heap.size
            rw [set_size, set_size]
            exact HQ1.out.2
end Go.Proofs.Ytkhalpajomammaa
