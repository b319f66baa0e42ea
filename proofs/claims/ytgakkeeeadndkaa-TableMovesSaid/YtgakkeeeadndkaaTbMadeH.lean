/-
  Layer 10: made, as a walk takes it; Copy, wherever the table stands.
-/
import Derived.Test.YtgakkeeeadndkaaTbMade
set_option linter.unusedVariables false
namespace Go.Proofs.Ytgakkeeeadndkaa
open Go.RowKit Go.Maps Go.MapKept
section
variable {w V V' : World} {l : List As} {p : Nat} {r : List Rw}
theorem Has.tbMade (h : Has w l V) (seed : Int) (A0 : Option Addr) (n0 c0 : Nat) (bs : List (List Op_)) (hb : BAt w A0 n0 bs) (hz : ∀ b ∈ bs, OSz b) (hn : n0 ≤ 9223372036854775807) (R : List Rw) (hR : tabs bs (min n0 30) = R) :
    Calls Try.prog 27 #[.int .i64 seed, .slice A0 n0 c0] V fun e w' => ∃ q b, e = .returned (.tuple #[pt q, .map (some b)]) ∧ Has w (tbA q R :: mpA b 3840 R :: l) w' := by
  subst hR
  have hbb : BAt V A0 n0 bs := by
    refine ⟨hb.1, fun h0 => ?_⟩
    obtain ⟨bb, o, e, hc⟩ := hb.2 h0
    refine ⟨bb, o, e, fun i hi => ?_⟩
    obtain ⟨Ai, ci, h1, h2, h3⟩ := hc i hi
    exact ⟨Ai, ci, (h.bel.cell (World.block_lt_of_cell? w _ h1)).trans h1, h2.below h.bel, h3⟩
  refine (tb_made seed A0 n0 c0 V bs hbb hz hn).mono ?_
  rintro e w' ⟨q, b, rfl, h2⟩
  exact ⟨q, b, rfl, h.join h2⟩
theorem Has.tbCopyM (h : Has w l V) (hm : tbA p r ∈ l) (hz : Szs r) (hl : r.length ≤ 1000000) :
    Calls Try.prog 28 #[pt p] V fun e w' => ∃ c, e = .returned (pt c) ∧ Has w (tbA c r :: l) w' ∧ Below V.heap.size V w' := by
  obtain ⟨F, hA, _⟩ := h.at_ hm
  refine (tb_copy hA hz hl).mono ?_
  rintro e w' ⟨c, rfl, h2⟩
  obtain ⟨F2, h3, h4⟩ := h2.get
  exact ⟨c, rfl, h.new h2.bel h3 h4, h2.bel⟩
end
end Go.Proofs.Ytgakkeeeadndkaa
