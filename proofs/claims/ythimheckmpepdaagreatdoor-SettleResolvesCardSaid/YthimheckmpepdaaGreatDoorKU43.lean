/-
  Layer 14, the document's answer: Resolve (written by wip/genrr.py).
-/
import Derived.Test.YthimheckmpepdaaGreatDoorKUSeRRB
import Derived.Test.YthimheckmpepdaaGreatDoorKUSeRRC
import Derived.Test.YthimheckmpepdaaGreatDoorKUSeRRD
set_option linter.unusedVariables false
set_option linter.unusedSimpArgs false
set_option maxRecDepth 100000
namespace Go.Proofs.YthimheckmpepdaaGreatDoor
open Go.RowKit

theorem seRResolve {w V : World} {T : List As} {b : Nat} {r : List Rw} (h : Has w (rtA b r :: T) V) (hz : Szs r) (key : ByteArray) (x : Rc) (A : Option Addr) (n c : Nat) (hx : ∀ W, Has w (rtA b r :: T) W → WtAt W A n x.l) (hn : n ≤ 9223372036854775807) :
    Calls Tryz.prog 21 #[pt b, .string key, rcv x (.slice A n c)] V fun e w' => AnsRes (resC r key x) w (rtA b r :: T) e w' := by
  unfold resC
  cases hk : isK key with
  | false =>
    rw [if_neg (fun e => by have := (chkS_ok e).1; rw [hk] at this; cases this)]
    exact seRR_key h hz key x A n c hx hn hk
  | true =>
    cases hm : mayR x with
    | false =>
      rw [if_neg (fun e => by have := (chkS_ok e).2; rw [hm] at this; cases this)]
      exact seRR_mr h hz key x A n c hx hn hk hm
    | true =>
      rw [if_pos (by unfold chkS; rw [if_pos ⟨hk, hm⟩])]
      have hst := isS_iff.1 (mayR_parts hm).2.1
      unfold resO ownI
      cases ho : pint r key with
      | none => exact seRR_none h hz key x A n c hx hn hk hm ho
      | some y =>
        simp only
        by_cases hid : y.id = x.id
        · rw [if_pos hid]
          simp only
          have hid2 : (y.id == x.id) = true := by simpa using hid
          unfold resP
          by_cases h3 : x.st = 3
          · have s2 : (x.st == 2) = false := by rw [h3]; rfl
            have s4 : (x.st == 4) = false := by rw [h3]; rfl
            have s3 : (x.st == 3) = true := by rw [h3]; rfl
            rw [if_pos h3]
            unfold counts
            by_cases hep : y.ep = x.ep
            · rw [decide_eq_true hep]
              have hep2 : (y.ep == x.ep) = true := by simpa using hep
              cases hlt : lt (x.sw, x.sl) (y.sw, y.sl) with
              | true => exact seRR_clt h hz key x A n c hx hn hk hm y ho hid2 s2 s4 s3 hep2 hlt
              | false => exact seRR_ver h hz key x A n c hx hn hk hm y ho hid2 s2 s4 s3 hep2 hlt
            · rw [decide_eq_false hep]
              exact seRR_cep h hz key x A n c hx hn hk hm y ho hid2 s2 s4 s3 hep
          · rw [if_neg h3]
            have s3 : (x.st == 3) = false := by simpa using h3
            by_cases h4 : x.st = 4
            · rw [if_pos h4]
              exact seRR_ab h hz key x A n c hx hn hk hm y ho hid2 (by rw [h4]; rfl) (by rw [h4]; rfl)
            · rw [if_neg h4]
              have s4 : (x.st == 4) = false := by simpa using h4
              by_cases h1 : x.st = 1
              · have s2 : (x.st == 2) = false := by rw [h1]; rfl
                rw [if_pos h1]
                unfold pushP
                by_cases hlo : y.ep < x.ep
                · rw [if_pos hlo]
                  exact seRR_plt h hz key x A n c hx hn hk hm y ho hid2 s2 s4 s3 hlo
                · rw [if_neg hlo]
                  by_cases hep : y.ep = x.ep
                  · have hep2 : (y.ep == x.ep) = true := by simpa using hep
                    cases hlt : lt (y.sw, y.sl) (x.sw, x.sl) with
                    | true =>
                      rw [if_pos ⟨hep, rfl⟩]
                      exact seRR_psh h hz key x A n c hx hn hk hm y ho hid2 s2 s4 s3 hep2 hlt
                    | false =>
                      rw [if_neg (fun e => by cases e.2)]
                      exact seRR_pno h hz key x A n c hx hn hk hm y ho hid2 s2 s4 s3 hep2 hlt
                  · rw [if_neg (fun e => hep e.1)]
                    exact seRR_pgt h hz key x A n c hx hn hk hm y ho hid2 s2 s4 s3 hlo (by simpa using hep)
              · rw [if_neg h1]
                have h2 : x.st = 2 := by omega
                exact seRR_stg h hz key x A n c hx hn hk hm y ho hid2 (by rw [h2]; rfl)
        · rw [if_neg hid]
          exact seRR_id h hz key x A n c hx hn hk hm y ho hid
end Go.Proofs.YthimheckmpepdaaGreatDoor
