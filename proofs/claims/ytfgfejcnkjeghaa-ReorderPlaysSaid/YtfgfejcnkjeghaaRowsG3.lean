/-
  One cell of an element that lies in an owned row is stored. No program.
-/
import Derived.Test.YtfgfejcnkjeghaaRowsG2
namespace Go.Proofs.Ytfgfejcnkjeghaa.mem
open Go.RowKit
set_option linter.unusedVariables false
section
variable {α : Type} {E : Enc α}
theorem Enc.all_set (l : List α) (j : Nat) (x y : α) (i : Nat) (u : Value) (hx : l[j]? = some x) (hi : i < E.n) (hy : E.cs y = (E.cs x).set i u) : E.all (l.set j y) = (E.all l).set (j * E.n + i) u := by
  induction l generalizing j with
  | nil => simp at hx
  | cons z l ih =>
    have hz := E.len z
    cases j with
    | zero =>
      simp at hx
      subst hx
      rw [List.set_cons_zero, E.all_cons, E.all_cons, hy, Nat.zero_mul, Nat.zero_add, List.set_append_left _ _ (by omega)]
    | succ j =>
      rw [List.set_cons_succ, E.all_cons, E.all_cons, ih j (by simpa using hx), List.set_append_right _ _ (by rw [hz, Nat.succ_mul]; omega), hz]
      congr 2
      rw [Nat.succ_mul]; omega
theorem Owns.setCell {T : TypeId} {w : World} {v : Value} {l : List α} (h : Owns E T w v l) {g j i : Nat} (hv : v.ownBlock = some g) {x y : α} (hx : l[j]? = some x) (u : Value) (hi : i < E.n) (hy : E.cs y = (E.cs x).set i u) :
    Owns E T (w.setCell ⟨g, j * E.n + i, none⟩ u) v (l.set j y) := by
  rcases h.2 with ⟨rfl, h0⟩ | ⟨g', cap, cur, rfl, hb, hg, hc, hm, hs, ht⟩
  · simp [Value.ownBlock] at hv
  · simp [Value.ownBlock] at hv
    subst hv
    have hb2 : Blk w g' cur T := hg
    have hjl : j < l.length := (List.getElem?_eq_some_iff.1 hx).1
    have hlt : j * E.n + i < l.length * E.n := by
      have : (j + 1) * E.n ≤ l.length * E.n := Nat.mul_le_mul_right _ hjl
      rw [Nat.succ_mul] at this; omega
    unfold Owns
    rw [List.length_set]
    refine ⟨by rw [E.all_length, List.length_set], .inr ⟨g', cap, cur.setIfInBounds (j * E.n + i) u, rfl, hb, hb2.set _ u, hc, hm, by simpa using hs, ?_⟩⟩
    rw [E.all_set l j x y i u hx hi hy, ← ht, Array.toList_setIfInBounds, List.take_set]
end
end Go.Proofs.Ytfgfejcnkjeghaa.mem
