/-
  ReorderPlays: what the law's loop keeps (WL, and the last number that went out).
-/
import Derived.Test.YtfgfejcnkjeghaaReoRise
import Derived.Test.YtfgfejcnkjeghaaReoWaits
import Derived.Test.YtfgfejcnkjeghaaReoRmiss
namespace Go.Proofs.Ytfgfejcnkjeghaa.reo
open Go.RowKit mem
set_option linter.unusedVariables false

/-- last: the last number that went out -/
structure PL (w wr : World) (ps p : Nat) (vb : Value) (b : B) (v : Value) (now : Int) (k : Nat) (last : Int) : Prop where
  wl : WL w wr ps p vb b v now k
  zero : Zero b
  lo : -1 ≤ last
  lt : last < b.next
theorem PL.later {w wr w2 : World} {ps p k : Nat} {vb v : Value} {b : B} {now last : Int} (h : PL w wr ps p vb b v now k last) (n : New wr w2) : PL w w2 ps p vb b v now k last := ⟨h.wl.later n, h.zero, h.lo, h.lt⟩
/-- what goes out at a step: each number is above the one before it -/
theorem PL.rise {w wr : World} {ps p k : Nat} {vb v : Value} {b : B} {now last : Int} (h : PL w wr ps p vb b v now k last) (hk : k ≤ 1000) (kd by_ : Int) (s : ByteArray) :
    (∀ n, (hn : n < (stepO b kd by_ now s).length) → lastU last (stepO b kd by_ now s) n < (stepO b kd by_ now s)[n].at_) ∧ lastU last (stepO b kd by_ now s) (stepO b kd by_ now s).length < (stepB b kd by_ now s).next ∧ Zero (stepB b kd by_ now s) := by
  have hn0 := h.wl.n0
  have hn1 := h.wl.n1
  have hu : Up b.next (stepO b kd by_ now s) (stepB b kd by_ now s).next := step_up h.wl.fine h.zero (by omega) hn0 (by omega)
  exact ⟨fun n hn => hu.rise h.lt n hn, hu.last h.lt, step_zero h.wl.fine h.zero⟩
theorem lastU_lo {b : B} {last : Int} {l : List Th} (h : -1 ≤ last) (hx : ∀ x ∈ l, 0 ≤ x.at_) (n : Nat) (hn : n ≤ l.length) : -1 ≤ lastU last l n := by
  cases n with
  | zero => exact h
  | succ m =>
    rw [lastU_succ last l m (by omega)]
    have := hx _ (List.getElem_mem (show m < l.length by omega))
    omega
theorem Up.ge {l : List Th} {lo hi : Int} (h : Up lo l hi) : ∀ x ∈ l, lo ≤ x.at_ ∧ x.at_ < hi := fun x hx => by
  obtain ⟨i, hi, rfl⟩ := List.getElem_of_mem hx
  exact ⟨(h.at i hi).1, (h.at i hi).2.1⟩
/-- the step itself, for the store of the new state -/
theorem PL.step {w W w5 : World} {ps p k : Nat} {vb v v' u : Value} {b : B} {now kd by_ last : Int} {s : ByteArray} (h : PL w W ps p vb b v now k last) (hk : k ≤ 1000) (hd : Dn w W w5 p vb (stepB b kd by_ now s) v' u (stepO b kd by_ now s)) :
    Blk w5 ps (stL p b v now).toArray TS ∧ ∃ vb', PL w (puts w5 ps 0 (stL p (stepB b kd by_ now s) v' (stepN kd by_ now))) ps p vb' (stepB b kd by_ now s) v' (stepN kd by_ now) (k + 1) (lastU last (stepO b kd by_ now s) (stepO b kd by_ now s).length) := by
  obtain ⟨h1, vb', h2⟩ := h.wl.step hk hd
  obtain ⟨r1, r2, r3⟩ := h.rise hk kd by_ s
  have hu : Up b.next (stepO b kd by_ now s) (stepB b kd by_ now s).next := step_up h.wl.fine h.zero (by omega) h.wl.n0 (by have := h.wl.n1; omega)
  have hnx := h.wl.fine.ok.n1
  exact ⟨h1, vb', h2, r3, lastU_lo (b := b) h.lo (fun x hx => by have := (hu.ge x hx).1; omega) _ (Nat.le_refl _), r2⟩
theorem PL.start {w wr : World} {ps p : Nat} {vb v : Value} {most wait : Int} (h : WL w wr ps p vb (zeroB most wait) v 0 0) : PL w wr ps p vb (zeroB most wait) v 0 0 (-1) := ⟨h, zero_zero most wait, Int.le_refl _, by show (-1 : Int) < 0; decide⟩
end Go.Proofs.Ytfgfejcnkjeghaa.reo
