/-
  Layer 11: how changes, writes, intents and records lie in memory; what is looked through by a function.
  Layer 11: are two lists of changes, of writes, the same? (slices.Equal; the document's SameWrites.)
-/
import Derived.Test.YtiafmbfeigcinaaDoorZ09
import Derived.Test.YtiafmbfeigcinaaDoorZ03
import Derived.Test.YtiafmbfeigcinaaDoorZ10
import Derived.BigQuiet
import Derived.Deep.QuietTactic
set_option linter.unusedVariables false
namespace Go.Proofs.YtiafmbfeigcinaaDoor
open Go.RowKit

abbrev chv (c : Ch) : Value := .agg #[.int .i64 c.q, .string c.s, .bool c.d]
abbrev wtv (c : Wt) : Value := .agg #[.string c.k, .int .i64 c.q]
def chc (c : Ch) : List Value := [.int .i64 c.q, .string c.s, .bool c.d]
def wtc (c : Wt) : List Value := [.string c.k, .int .i64 c.q]
abbrev itc (x : It) (v : Value) : Array Value := #[.int .i64 x.id, .int .i64 x.ep, .int .i64 x.pr, .string x.an, .int .i64 x.sw, .int .i64 x.sl, .int .i64 x.bw, .int .i64 x.bl, v]
abbrev itv (x : It) (v : Value) : Value := .agg (itc x v)
abbrev rcc (x : Rc) (v : Value) : Array Value := #[.int .i64 x.id, .int .i64 x.ep, .int .i64 x.st, .int .i64 x.pr, .string x.an, .int .i64 x.sw, .int .i64 x.sl, .int .i64 x.bw, .int .i64 x.bl, v]
abbrev rcv (x : Rc) (v : Value) : Value := .agg (rcc x v)

/-- Changes in memory; writes; numbers. -/
def ChAt (w : World) (A : Option Addr) (n : Nat) (l : List Ch) : Prop :=
  l.length = n ∧ (0 < n → ∃ b o, A = some ⟨b, o, none⟩ ∧ ∀ i (h : i < l.length), w.cell? ⟨b, o + i * 3, none⟩ = some (.int .i64 (l[i]'h).q) ∧ w.cell? ⟨b, o + i * 3 + 1, none⟩ = some (.string (l[i]'h).s) ∧ w.cell? ⟨b, o + i * 3 + 2, none⟩ = some (.bool (l[i]'h).d))
def WtAt (w : World) (A : Option Addr) (n : Nat) (l : List Wt) : Prop :=
  l.length = n ∧ (0 < n → ∃ b o, A = some ⟨b, o, none⟩ ∧ ∀ i (h : i < l.length), w.cell? ⟨b, o + i * 2, none⟩ = some (.string (l[i]'h).k) ∧ w.cell? ⟨b, o + i * 2 + 1, none⟩ = some (.int .i64 (l[i]'h).q))
def IAt (w : World) (A : Option Addr) (n : Nat) (l : List Int) : Prop :=
  l.length = n ∧ (0 < n → ∃ b o, A = some ⟨b, o, none⟩ ∧ ∀ i (h : i < l.length), w.cell? ⟨b, o + i, none⟩ = some (.int .i64 (l[i]'h)))
theorem ChAt.keep {w w' : World} {A : Option Addr} {n : Nat} {l : List Ch} (h : ChAt w A n l) (hk : ∀ a, A = some a → ∀ j v, w.cell? ⟨a.block, j, none⟩ = some v → w'.cell? ⟨a.block, j, none⟩ = some v) : ChAt w' A n l := by
  refine ⟨h.1, fun hn => ?_⟩
  obtain ⟨b, o, e, hc⟩ := h.2 hn
  refine ⟨b, o, e, fun i hi => ?_⟩
  obtain ⟨h1, h2, h3⟩ := hc i hi
  exact ⟨hk _ e _ _ h1, hk _ e _ _ h2, hk _ e _ _ h3⟩
theorem WtAt.keep {w w' : World} {A : Option Addr} {n : Nat} {l : List Wt} (h : WtAt w A n l) (hk : ∀ a, A = some a → ∀ j v, w.cell? ⟨a.block, j, none⟩ = some v → w'.cell? ⟨a.block, j, none⟩ = some v) : WtAt w' A n l := by
  refine ⟨h.1, fun hn => ?_⟩
  obtain ⟨b, o, e, hc⟩ := h.2 hn
  refine ⟨b, o, e, fun i hi => ?_⟩
  obtain ⟨h1, h2⟩ := hc i hi
  exact ⟨hk _ e _ _ h1, hk _ e _ _ h2⟩
theorem IAt.keep {w w' : World} {A : Option Addr} {n : Nat} {l : List Int} (h : IAt w A n l) (hk : ∀ a, A = some a → ∀ j v, w.cell? ⟨a.block, j, none⟩ = some v → w'.cell? ⟨a.block, j, none⟩ = some v) : IAt w' A n l := by
  refine ⟨h.1, fun hn => ?_⟩
  obtain ⟨b, o, e, hc⟩ := h.2 hn
  exact ⟨b, o, e, fun i hi => hk _ e _ _ (hc i hi)⟩
theorem kept_below {w w' : World} (hb : Below w.heap.size w w') (p : Addr) (v : Value) (h : w.cell? p = some v) : w'.cell? p = some v := (hb.cell (World.block_lt_of_cell? w _ h)).trans h
theorem ChAt.below {w w' : World} {A : Option Addr} {n : Nat} {l : List Ch} (h : ChAt w A n l) (hb : Below w.heap.size w w') : ChAt w' A n l := h.keep fun _ _ _ _ hv => kept_below hb _ _ hv
theorem WtAt.below {w w' : World} {A : Option Addr} {n : Nat} {l : List Wt} (h : WtAt w A n l) (hb : Below w.heap.size w w') : WtAt w' A n l := h.keep fun _ _ _ _ hv => kept_below hb _ _ hv
theorem IAt.below {w w' : World} {A : Option Addr} {n : Nat} {l : List Int} (h : IAt w A n l) (hb : Below w.heap.size w w') : IAt w' A n l := h.keep fun _ _ _ _ hv => kept_below hb _ _ hv
theorem ChAt.nil (w : World) (A : Option Addr) : ChAt w A 0 [] := ⟨rfl, fun h => absurd h (by omega)⟩
theorem WtAt.nil (w : World) (A : Option Addr) : WtAt w A 0 [] := ⟨rfl, fun h => absurd h (by omega)⟩

/-- What a function that looks at one behind the other says of all. -/
def scan {S E : Type} (ok : S → E → Bool) (nx : S → E → S) : S → List E → Bool
  | _, [] => true
  | s, c :: l => ok s c && scan ok nx (nx s c) l
theorem scan_rise : ∀ (a : Int) (l : List Ch), scan okCh (fun _ c => c.q) a l = rise a l
  | _, [] => rfl
  | a, c :: l => by rw [scan, rise, scan_rise]
theorem scan_riseW : ∀ (a : ByteArray) (l : List Wt), scan okWt (fun _ c => c.k) a l = riseW a l
  | _, [] => rfl
  | a, c :: l => by rw [scan, riseW, scan_riseW]
def mayP (p : Int × Int) : Bool := may p.1 p.2
theorem scan_all : ∀ (l : List (Int × Int)), scan (fun (_ : Unit) p => mayP p) (fun u _ => u) () l = l.all mayP
  | [] => rfl
  | c :: l => by rw [scan, List.all_cons, scan_all]
end Go.Proofs.YtiafmbfeigcinaaDoor
set_option linter.unusedVariables false
set_option linter.unusedSimpArgs false
set_option maxRecDepth 100000
namespace Go.Proofs.YtiafmbfeigcinaaDoor
open Go.RowKit

theorem list_is {α : Type} {l l' : List α} (hl : l.length = l'.length) (h : ∀ i (h : i < l.length) (h' : i < l'.length), l[i]'h = l'[i]'h') : l = l' := List.ext_getElem hl h
theorem text_ne {s t : ByteArray} (h : s ≠ t) : (s.toList == t.toList) = false := by
  cases hh : (s.toList == t.toList) with
  | false => rfl
  | true =>
    refine absurd ?_ h
    rw [Lib.toList_data, Lib.toList_data] at hh
    exact tb_inj (by simpa using hh)
theorem text_eq (s : ByteArray) : (s.toList == s.toList) = true := by simp

set_option maxHeartbeats 2000000 in
theorem slEqCh (l l' : List Ch) (b : Bool) (hb : b = true ↔ l = l') (A1 A2 : Option Addr) (n1 n2 c1 c2 : Nat) (w : World) (h1 : ChAt w A1 n1 l) (h2 : ChAt w A2 n2 l') (hn1 : n1 ≤ 9223372036854775807) (hn2 : n2 ≤ 9223372036854775807) :
    Calls Tryd.prog 34 #[.slice A1 n1 c1, .slice A2 n2 c2] w fun e w' => e = .returned (.bool b) ∧ Below w.heap.size w w' := by
  by_cases hn : n1 = n2
  · subst hn
    have H1 := Lib.hid h1
    have H2 := Lib.hid h2
    have HB := Lib.hid hb
    clear h1 h2 hb
    go_enter Tryd.func34, Tryd.ntmps34
    go_wp2_with fail
    go_loopw [13] (fun i wr => ∃ (j : Nat), j ≤ n1 ∧ i = .int .i64 j ∧ Hid (∀ i (h : i < l.length) (h' : i < l'.length), i < j → l[i]'h = l'[i]'h') ∧ Hid (∀ p, wr.cell? p = w.cell? p) ∧ Hid (Below w.heap.size w wr)) (fun i _ => n1 - (intOf i).toNat)
    case atStart => exact ⟨0, Nat.zero_le _, rfl, Lib.hid (fun i _ _ h => absurd h (Nat.not_lt_zero i)), Lib.hid fun _ => rfl, Lib.hid (Below.refl _ _)⟩
    case round =>
      obtain ⟨j, hj, rfl, HE, HC, HBW⟩ := hrel
      by_cases hlt : j < n1
      · have hjl : j < l.length := by rw [H1.out.1]; exact hlt
        have hjm : j < l'.length := by rw [H2.out.1]; exact hlt
        obtain ⟨b1, o1, rfl, hc1⟩ := H1.out.2 (by omega)
        obtain ⟨b2, o2, rfl, hc2⟩ := H2.out.2 (by omega)
        have p := hc1 j hjl
        have q := hc2 j hjm
        obtain ⟨cc, hcc⟩ : ∃ cc, l[j]'hjl = cc := ⟨_, rfl⟩
        obtain ⟨dd, hdd⟩ : ∃ dd, l'[j]'hjm = dd := ⟨_, rfl⟩
        rw [hcc] at p
        rw [hdd] at q
        have HCC := Lib.hid hcc
        have HDD := Lib.hid hdd
        obtain ⟨u0, u1, u2⟩ := cc
        obtain ⟨v0, v1, v2⟩ := dd
        obtain ⟨p0, p1, p2⟩ := p
        obtain ⟨q0, q1, q2⟩ := q
        have P0 := (HC.out _).trans p0
        have Q0 := (HC.out _).trans q0
        have P1 := (HC.out _).trans p1
        have Q1 := (HC.out _).trans q1
        have P2 := (HC.out _).trans p2
        have Q2 := (HC.out _).trans q2
        clear hc1 hc2 hcc hdd
        have HF : Hid (∀ h : ¬ ((⟨u0, u1, u2⟩ : Ch) = (⟨v0, v1, v2⟩ : Ch)), b = false) := Lib.hid fun h => by
          cases hh : b with
          | false => rfl
          | true =>
            exfalso
            have := HB.out.1 hh
            subst this
            exact h (HCC.out.symm.trans HDD.out)
        by_cases e_u0 : u0 = v0
        · subst e_u0
          by_cases e_u1 : u1 = v1
          · subst e_u1
            have t_u1 := text_eq u1
            by_cases e_u2 : u2 = v2
            · subst e_u2
              have HE2 := Lib.hid (fun i (h : i < l.length) (h' : i < l'.length) (hi : i < j + 1) => show l[i]'h = l'[i]'h' from by
                by_cases hij : i = j
                · subst hij; exact HCC.out.trans HDD.out.symm
                · exact HE.out i h h' (by omega))
              clear HF
              go_wp2_with fail
              go_quiet (fail)
              go_wp2
              go_roundw
              case rel => exact ⟨j + 1, by omega, by go_num, HE2, Lib.hid fun p => HC.out p, Lib.hid (below_drewN HBW.out nq)⟩
              case measure => simp [intOf]; omega
            · have n1_ := show (u2 == v2) = false from by simpa using e_u2
              go_wp2_with fail
              go_quiet (fail)
              go_wp2
              go_ret
              exact ⟨by rw [HF.out (by intro e; injection e; contradiction)]; try rfl, (below_drewN HBW.out nq)⟩
          · have n1_ := text_ne e_u1
            go_wp2_with fail
            go_quiet (fail)
            go_wp2
            go_ret
            exact ⟨by rw [HF.out (by intro e; injection e; contradiction)]; try rfl, (below_drewN HBW.out nq)⟩
        · have n1_ := show (u0 == v0) = false from by simpa using e_u0
          go_wp2_with fail
          go_quiet (fail)
          go_wp2
          go_ret
          exact ⟨by rw [HF.out (by intro e; injection e; contradiction)]; try rfl, (below_drewN HBW.out nq)⟩
      · obtain rfl : j = n1 := by omega
        have hT : b = true := HB.out.2 (list_is (H1.out.1.trans H2.out.1.symm) fun i h h' => HE.out i h h' (by have := H1.out.1; omega))
        have HT := Lib.hid hT
        clear hT
        go_wp2
        go_ret
        exact ⟨by rw [HT.out]; try rfl, HBW.out⟩
  · have hF : b = false := by
      cases hh : b with
      | false => rfl
      | true =>
        exfalso
        have := hb.1 hh
        subst this
        exact hn (h1.1.symm.trans h2.1)
    subst hF
    have hn' : ¬ ((n1 : Int) = (n2 : Int)) := by omega
    have hn'' : ((n1 : Int) == (n2 : Int)) = false := by simpa using hn'
    clear hb h1 h2 hn
    go_enter Tryd.func34, Tryd.ntmps34
    go_wp2_with fail
    go_ret
    exact ⟨rfl, Below.refl _ _⟩

set_option maxHeartbeats 2000000 in
theorem slEqWt (l l' : List Wt) (b : Bool) (hb : b = true ↔ l = l') (A1 A2 : Option Addr) (n1 n2 c1 c2 : Nat) (w : World) (h1 : WtAt w A1 n1 l) (h2 : WtAt w A2 n2 l') (hn1 : n1 ≤ 9223372036854775807) (hn2 : n2 ≤ 9223372036854775807) :
    Calls Tryd.prog 45 #[.slice A1 n1 c1, .slice A2 n2 c2] w fun e w' => e = .returned (.bool b) ∧ Below w.heap.size w w' := by
  by_cases hn : n1 = n2
  · subst hn
    have H1 := Lib.hid h1
    have H2 := Lib.hid h2
    have HB := Lib.hid hb
    clear h1 h2 hb
    go_enter Tryd.func45, Tryd.ntmps45
    go_wp2_with fail
    go_loopw [13] (fun i wr => ∃ (j : Nat), j ≤ n1 ∧ i = .int .i64 j ∧ Hid (∀ i (h : i < l.length) (h' : i < l'.length), i < j → l[i]'h = l'[i]'h') ∧ Hid (∀ p, wr.cell? p = w.cell? p) ∧ Hid (Below w.heap.size w wr)) (fun i _ => n1 - (intOf i).toNat)
    case atStart => exact ⟨0, Nat.zero_le _, rfl, Lib.hid (fun i _ _ h => absurd h (Nat.not_lt_zero i)), Lib.hid fun _ => rfl, Lib.hid (Below.refl _ _)⟩
    case round =>
      obtain ⟨j, hj, rfl, HE, HC, HBW⟩ := hrel
      by_cases hlt : j < n1
      · have hjl : j < l.length := by rw [H1.out.1]; exact hlt
        have hjm : j < l'.length := by rw [H2.out.1]; exact hlt
        obtain ⟨b1, o1, rfl, hc1⟩ := H1.out.2 (by omega)
        obtain ⟨b2, o2, rfl, hc2⟩ := H2.out.2 (by omega)
        have p := hc1 j hjl
        have q := hc2 j hjm
        obtain ⟨cc, hcc⟩ : ∃ cc, l[j]'hjl = cc := ⟨_, rfl⟩
        obtain ⟨dd, hdd⟩ : ∃ dd, l'[j]'hjm = dd := ⟨_, rfl⟩
        rw [hcc] at p
        rw [hdd] at q
        have HCC := Lib.hid hcc
        have HDD := Lib.hid hdd
        obtain ⟨u0, u1⟩ := cc
        obtain ⟨v0, v1⟩ := dd
        obtain ⟨p0, p1⟩ := p
        obtain ⟨q0, q1⟩ := q
        have P0 := (HC.out _).trans p0
        have Q0 := (HC.out _).trans q0
        have P1 := (HC.out _).trans p1
        have Q1 := (HC.out _).trans q1
        clear hc1 hc2 hcc hdd
        have HF : Hid (∀ h : ¬ ((⟨u0, u1⟩ : Wt) = (⟨v0, v1⟩ : Wt)), b = false) := Lib.hid fun h => by
          cases hh : b with
          | false => rfl
          | true =>
            exfalso
            have := HB.out.1 hh
            subst this
            exact h (HCC.out.symm.trans HDD.out)
        by_cases e_u0 : u0 = v0
        · subst e_u0
          have t_u0 := text_eq u0
          by_cases e_u1 : u1 = v1
          · subst e_u1
            have HE2 := Lib.hid (fun i (h : i < l.length) (h' : i < l'.length) (hi : i < j + 1) => show l[i]'h = l'[i]'h' from by
              by_cases hij : i = j
              · subst hij; exact HCC.out.trans HDD.out.symm
              · exact HE.out i h h' (by omega))
            clear HF
            go_wp2_with fail
            go_quiet (fail)
            go_wp2
            go_roundw
            case rel => exact ⟨j + 1, by omega, by go_num, HE2, Lib.hid fun p => HC.out p, Lib.hid (below_drewN HBW.out nq)⟩
            case measure => simp [intOf]; omega
          · have n1_ := show (u1 == v1) = false from by simpa using e_u1
            go_wp2_with fail
            go_quiet (fail)
            go_wp2
            go_ret
            exact ⟨by rw [HF.out (by intro e; injection e; contradiction)]; try rfl, (below_drewN HBW.out nq)⟩
        · have n1_ := text_ne e_u0
          go_wp2_with fail
          go_quiet (fail)
          go_wp2
          go_ret
          exact ⟨by rw [HF.out (by intro e; injection e; contradiction)]; try rfl, (below_drewN HBW.out nq)⟩
      · obtain rfl : j = n1 := by omega
        have hT : b = true := HB.out.2 (list_is (H1.out.1.trans H2.out.1.symm) fun i h h' => HE.out i h h' (by have := H1.out.1; omega))
        have HT := Lib.hid hT
        clear hT
        go_wp2
        go_ret
        exact ⟨by rw [HT.out]; try rfl, HBW.out⟩
  · have hF : b = false := by
      cases hh : b with
      | false => rfl
      | true =>
        exfalso
        have := hb.1 hh
        subst this
        exact hn (h1.1.symm.trans h2.1)
    subst hF
    have hn' : ¬ ((n1 : Int) = (n2 : Int)) := by omega
    have hn'' : ((n1 : Int) == (n2 : Int)) = false := by simpa using hn'
    clear hb h1 h2 hn
    go_enter Tryd.func45, Tryd.ntmps45
    go_wp2_with fail
    go_ret
    exact ⟨rfl, Below.refl _ _⟩

set_option maxHeartbeats 2000000 in
theorem rSameW (l l' : List Wt) (b : Bool) (hb : b = true ↔ l = l') (A1 A2 : Option Addr) (n1 n2 c1 c2 : Nat) (w : World) (h1 : WtAt w A1 n1 l) (h2 : WtAt w A2 n2 l') (hn1 : n1 ≤ 9223372036854775807) (hn2 : n2 ≤ 9223372036854775807) :
    Calls Tryd.prog 46 #[.slice A1 n1 c1, .slice A2 n2 c2] w fun e w' => e = .returned (.bool b) ∧ Below w.heap.size w w' := by
  by_cases hn : n1 = n2
  · subst hn
    have H1 := Lib.hid h1
    have H2 := Lib.hid h2
    have HB := Lib.hid hb
    clear h1 h2 hb
    go_enter Tryd.func46, Tryd.ntmps46
    go_wp2_with fail
    go_loopw [5] (fun i wr => ∃ (j : Nat), j ≤ n1 ∧ i = .int .i64 j ∧ Hid (∀ i (h : i < l.length) (h' : i < l'.length), i < j → l[i]'h = l'[i]'h') ∧ Hid (∀ p, wr.cell? p = w.cell? p) ∧ Hid (Below w.heap.size w wr)) (fun i _ => n1 - (intOf i).toNat)
    case atStart => exact ⟨0, Nat.zero_le _, rfl, Lib.hid (fun i _ _ h => absurd h (Nat.not_lt_zero i)), Lib.hid fun _ => rfl, Lib.hid (Below.refl _ _)⟩
    case round =>
      obtain ⟨j, hj, rfl, HE, HC, HBW⟩ := hrel
      by_cases hlt : j < n1
      · have hjl : j < l.length := by rw [H1.out.1]; exact hlt
        have hjm : j < l'.length := by rw [H2.out.1]; exact hlt
        obtain ⟨b1, o1, rfl, hc1⟩ := H1.out.2 (by omega)
        obtain ⟨b2, o2, rfl, hc2⟩ := H2.out.2 (by omega)
        have p := hc1 j hjl
        have q := hc2 j hjm
        obtain ⟨cc, hcc⟩ : ∃ cc, l[j]'hjl = cc := ⟨_, rfl⟩
        obtain ⟨dd, hdd⟩ : ∃ dd, l'[j]'hjm = dd := ⟨_, rfl⟩
        rw [hcc] at p
        rw [hdd] at q
        have HCC := Lib.hid hcc
        have HDD := Lib.hid hdd
        obtain ⟨u0, u1⟩ := cc
        obtain ⟨v0, v1⟩ := dd
        obtain ⟨p0, p1⟩ := p
        obtain ⟨q0, q1⟩ := q
        have P0 := (HC.out _).trans p0
        have Q0 := (HC.out _).trans q0
        have P1 := (HC.out _).trans p1
        have Q1 := (HC.out _).trans q1
        clear hc1 hc2 hcc hdd
        have HF : Hid (∀ h : ¬ ((⟨u0, u1⟩ : Wt) = (⟨v0, v1⟩ : Wt)), b = false) := Lib.hid fun h => by
          cases hh : b with
          | false => rfl
          | true =>
            exfalso
            have := HB.out.1 hh
            subst this
            exact h (HCC.out.symm.trans HDD.out)
        by_cases e_u0 : u0 = v0
        · subst e_u0
          have t_u0 := text_eq u0
          by_cases e_u1 : u1 = v1
          · subst e_u1
            have HE2 := Lib.hid (fun i (h : i < l.length) (h' : i < l'.length) (hi : i < j + 1) => show l[i]'h = l'[i]'h' from by
              by_cases hij : i = j
              · subst hij; exact HCC.out.trans HDD.out.symm
              · exact HE.out i h h' (by omega))
            clear HF
            go_wp2_with fail
            go_quiet (fail)
            go_wp2
            go_roundw
            case rel => exact ⟨j + 1, by omega, by go_num, HE2, Lib.hid fun p => HC.out p, Lib.hid (below_drewN HBW.out nq)⟩
            case measure => simp [intOf]; omega
          · have n1_ := show (u1 == v1) = false from by simpa using e_u1
            go_wp2_with fail
            go_quiet (fail)
            go_wp2
            go_ret
            exact ⟨by rw [HF.out (by intro e; injection e; contradiction)]; try rfl, (below_drewN HBW.out nq)⟩
        · have n1_ := text_ne e_u0
          go_wp2_with fail
          go_quiet (fail)
          go_wp2
          go_ret
          exact ⟨by rw [HF.out (by intro e; injection e; contradiction)]; try rfl, (below_drewN HBW.out nq)⟩
      · obtain rfl : j = n1 := by omega
        have hT : b = true := HB.out.2 (list_is (H1.out.1.trans H2.out.1.symm) fun i h h' => HE.out i h h' (by have := H1.out.1; omega))
        have HT := Lib.hid hT
        clear hT
        go_wp2
        go_ret
        exact ⟨by rw [HT.out]; try rfl, HBW.out⟩
  · have hF : b = false := by
      cases hh : b with
      | false => rfl
      | true =>
        exfalso
        have := hb.1 hh
        subst this
        exact hn (h1.1.symm.trans h2.1)
    subst hF
    have hn' : ¬ ((n1 : Int) = (n2 : Int)) := by omega
    have hn'' : ((n1 : Int) == (n2 : Int)) = false := by simpa using hn'
    clear hb h1 h2 hn
    go_enter Tryd.func46, Tryd.ntmps46
    go_wp2_with fail
    go_ret
    exact ⟨rfl, Below.refl _ _⟩
end Go.Proofs.YtiafmbfeigcinaaDoor
