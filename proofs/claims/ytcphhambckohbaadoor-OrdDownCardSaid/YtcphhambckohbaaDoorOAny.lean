/-
  Layer 2: the contracts in one form each.
-/
import Derived.Test.YtcphhambckohbaaDoorOWorks
set_option linter.unusedVariables false
namespace Go.Proofs.YtcphhambckohbaaDoor
open Go.RowKit

def kS (s : ByteArray) : ByteArray := if s.size ≤ 1000 then ⟨(okey (sb s)).toArray⟩ else ⟨#[]⟩
def kE (s : ByteArray) : Int := if s.size ≤ 1000 then 0 else 5
theorem keyAny (s : ByteArray) (w : World) (hm : MaxL w) :
    Calls Tryd.prog 12 #[.string s] w fun e w' => e = .returned (.tuple #[.string (kS s), .int .i64 (kE s)]) ∧ Below w.heap.size w w' := by
  by_cases h : s.size ≤ 1000
  · rw [show kS s = _ from if_pos h, show kE s = _ from if_pos h]
    exact key s w h hm
  · rw [show kS s = _ from if_neg h, show kE s = _ from if_neg h]
    exact (key_no s w (by omega)).mono fun e w' ⟨h1, h2⟩ => ⟨h1, h2 ▸ Below.refl _ _⟩
theorem refKeyAny (s : ByteArray) (w : World) :
    Calls Tryd.prog 13 #[.string s] w fun e w' => e = .returned (.tuple #[.string (kS s), .int .i64 (kE s)]) ∧ Below w.heap.size w w' := by
  by_cases h : s.size ≤ 1000
  · rw [show kS s = _ from if_pos h, show kE s = _ from if_pos h]
    exact refKey s w h
  · rw [show kS s = _ from if_neg h, show kE s = _ from if_neg h]
    exact (refKey_no s w (by omega)).mono fun e w' ⟨h1, h2⟩ => ⟨h1, h2 ▸ Below.refl _ _⟩

def dS (a b : Int) : ByteArray := if may a b then ⟨(odown a b).toArray⟩ else ⟨#[]⟩
def dE (a b : Int) : Int := if may a b then 0 else 2
theorem downAny (a b : Int) (w : World) :
    Calls Tryd.prog 19 #[.agg #[.int .i64 a, .int .i64 b]] w fun e w' => e = .returned (.tuple #[.string (dS a b), .int .i64 (dE a b)]) ∧ Below w.heap.size w w' := by
  by_cases h : may a b = true
  · rw [show dS a b = _ from if_pos h, show dE a b = _ from if_pos h]
    exact down a b w h
  · rw [show dS a b = _ from if_neg h, show dE a b = _ from if_neg h]
    exact down_no a b w (by simpa using h)
theorem refDownAny (a b : Int) (w : World) :
    Calls Tryd.prog 20 #[.agg #[.int .i64 a, .int .i64 b]] w fun e w' => e = .returned (.tuple #[.string (dS a b), .int .i64 (dE a b)]) ∧ Below w.heap.size w w' := by
  by_cases h : may a b = true
  · rw [show dS a b = _ from if_pos h, show dE a b = _ from if_pos h]
    exact refDown a b w h
  · rw [show dS a b = _ from if_neg h, show dE a b = _ from if_neg h]
    exact refDown_no a b w (by simpa using h)

def tdA (r : Except Nat (Int × Int × List UInt8)) : Int := match r with | .ok (a, _, _) => a | .error _ => 0
def tdB (r : Except Nat (Int × Int × List UInt8)) : Int := match r with | .ok (_, b, _) => b | .error _ => 0
def tdR (r : Except Nat (Int × Int × List UInt8)) : ByteArray := match r with | .ok (_, _, l) => ⟨l.toArray⟩ | .error _ => ⟨#[]⟩
def tdE (r : Except Nat (Int × Int × List UInt8)) : Int := match r with | .ok _ => 0 | .error n => n
theorem TdAns_any (r : Except Nat (Int × Int × List UInt8)) : TdAns r = .returned (.tuple #[.agg #[.int .i64 (tdA r), .int .i64 (tdB r)], .string (tdR r), .int .i64 (tdE r)]) := by
  cases r with
  | ok p => obtain ⟨a, b, l⟩ := p; rfl
  | error n => rfl
theorem tdown_short (t : ByteArray) (h : t.size < 9) : tdown (sb t) = .error 3 := by
  unfold tdown
  rw [if_pos (by rw [sb_len]; exact h)]

theorem takeDownAny (t : ByteArray) (w : World) (hs : t.size ≤ 150000000000000) :
    Calls Tryd.prog 21 #[.string t] w fun e w' => e = .returned (.tuple #[.agg #[.int .i64 (tdA (tdown (sb t))), .int .i64 (tdB (tdown (sb t)))], .string (tdR (tdown (sb t))), .int .i64 (tdE (tdown (sb t)))]) ∧ Below w.heap.size w w' := by
  rw [← TdAns_any]
  by_cases h : t.size < 9
  · rw [tdown_short t h]
    exact takeDown_short t w h
  · exact takeDown_long t w (by omega) hs
theorem refTakeDownAny (t : ByteArray) (w : World) (hs : t.size ≤ 150000000000000) :
    Calls Tryd.prog 22 #[.string t] w fun e w' => e = .returned (.tuple #[.agg #[.int .i64 (tdA (tdown (sb t))), .int .i64 (tdB (tdown (sb t)))], .string (tdR (tdown (sb t))), .int .i64 (tdE (tdown (sb t)))]) ∧ Below w.heap.size w w' := by
  rw [← TdAns_any]
  by_cases h : t.size < 9
  · rw [tdown_short t h]
    exact refTakeDown_short t w h
  · exact refTakeDown_long t w (by omega) hs

end Go.Proofs.YtcphhambckohbaaDoor
