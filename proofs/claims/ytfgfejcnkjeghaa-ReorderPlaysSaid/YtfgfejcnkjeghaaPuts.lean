/-
  A struct stored whole: the cells of a block written one behind the other. No program.
-/
import Derived.Test.YtfgfejcnkjeghaaMem
import Derived.Deep.Draws
namespace Go.Proofs.Ytfgfejcnkjeghaa.mem
open Go.RowKit
set_option linter.unusedVariables false

/-- the cells vs are written into block p, from cell i on -/
def puts (w : World) (p : Nat) : Nat → List Value → World
  | _, [] => w
  | i, v :: vs => puts (w.setCell ⟨p, i, none⟩ v) p (i + 1) vs

theorem puts_turns {S : Nat → Prop} {a : World} {p : Nat} (hp : S p ∨ a.heap.size ≤ p) : ∀ (vs : List Value) (i : Nat) (w : World), Turns S a w → Turns S a (puts w p i vs)
  | [], _, _, h => h
  | v :: vs, i, w, h => puts_turns hp vs (i + 1) _ (h.setCell (p := ⟨p, i, none⟩) hp v)

theorem puts_other {p q : Nat} (hne : p ≠ q) {cs : Array Value} {t : TypeId} : ∀ (vs : List Value) (i : Nat) (w : World), Blk w q cs t → Blk (puts w p i vs) q cs t
  | [], _, _, h => h
  | v :: vs, i, w, h => puts_other hne vs (i + 1) _ (h.setOther (a := ⟨p, i, none⟩) hne v)

/-- l with vs written over it from i on -/
def over : List Value → Nat → List Value → List Value
  | l, _, [] => l
  | l, i, v :: vs => over (l.set i v) (i + 1) vs
theorem over_length : ∀ (vs : List Value) (l : List Value) (i : Nat), (over l i vs).length = l.length
  | [], _, _ => rfl
  | v :: vs, l, i => by rw [over, over_length, List.length_set]
theorem over_pre : ∀ (vs a b : List Value), vs.length = b.length → over (a ++ b) a.length vs = a ++ vs
  | [], a, b, h => by
    have : b = [] := List.length_eq_zero_iff.1 h.symm
    subst this; rfl
  | v :: vs, a, [], h => by simp at h
  | v :: vs, a, x :: b, h => by
    have h1 : (a ++ x :: b).set a.length v = (a ++ [v]) ++ b := by simp
    rw [over, h1, show a.length + 1 = (a ++ [v]).length by simp, over_pre vs (a ++ [v]) b (by simpa using h)]
    simp

theorem puts_over {p : Nat} {t : TypeId} : ∀ (vs : List Value) (i : Nat) (w : World) (l : List Value), Blk w p l.toArray t → Blk (puts w p i vs) p (over l i vs).toArray t
  | [], _, _, _, h => h
  | v :: vs, i, w, l, h => by
    have h1 := h.set i v
    rw [List.setIfInBounds_toArray] at h1
    exact puts_over vs (i + 1) _ _ h1
/-- the whole block is written -/
theorem puts_blk {w : World} {p : Nat} {t : TypeId} (l vs : List Value) (h : Blk w p l.toArray t) (hl : vs.length = l.length) : Blk (puts w p 0 vs) p vs.toArray t := by
  have h1 := puts_over vs 0 w l h
  have h2 := over_pre vs [] l hl
  simp only [List.nil_append, List.length_nil] at h2
  rwa [h2] at h1

theorem Blk.drewN {w : World} {p : Nat} {cs : Array Value} {t : TypeId} (h : Blk w p cs t) (n : Nat) : Blk (w.drewN n) p cs t := h
theorem Turns.drewN {S : Nat → Prop} {a w : World} (h : Turns S a w) (n : Nat) : Turns S a (w.drewN n) := ⟨h.os, h.tape, h.output, h.size, h.block⟩
theorem Turns.of_drewN {S : Nat → Prop} {a w : World} {n : Nat} (h : Turns S (a.drewN n) w) : Turns S a w := ⟨h.os, h.tape, h.output, h.size, h.block⟩
end Go.Proofs.Ytfgfejcnkjeghaa.mem
