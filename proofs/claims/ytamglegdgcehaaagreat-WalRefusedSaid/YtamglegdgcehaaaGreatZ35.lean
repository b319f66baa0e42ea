/-
  Layer 7: the landed disk keeps what the walks ask of a disk.
-/
import Derived.Test.YtamglegdgcehaaaGreatZ33
import Derived.Test.YtamglegdgcehaaaGreatZ34
set_option linter.unusedVariables false
namespace Go.Proofs.YtamglegdgcehaaaGreat
open Go.RowKit Go.Maps

theorem disk_ok : DiskOk RCk where
  on h hs hk := by obtain ⟨mb, fp, es, qs, h⟩ := h; exact ⟨mb, fp, es, qs, h.on hs hk⟩
  mono h hs hl := by obtain ⟨mb, fp, es, qs, h⟩ := h; exact ⟨mb, fp, es, qs, h.mono hs hl⟩
  lt h := by obtain ⟨mb, fp, es, qs, h⟩ := h; exact h.lt
  ok h := by obtain ⟨mb, fp, es, qs, h⟩ := h; exact h.ok
  new := gNew
  append := gAppend
  sync := gSync
  cut w g D F nm k hk h := gCut w g D F nm k hk h
  rename := gRename
  remove := gRemove
  crash w g D F A n c keep h hx hA hnc hc := gCrash w g D F A n c keep h hx hA
  fail w g D F k A n c keep h0 h1 h hx hA hn hnc := gFail w g D F k A n c keep h0 h1 h hx hn hnc
  boot := gBoot
  turn w g D F nm i b hi hb h := gTurn w g D F nm i b hi hb h
  read := gRead
  size := gSize
  names := gNamesP
  dead := gDead
end Go.Proofs.YtamglegdgcehaaaGreat
