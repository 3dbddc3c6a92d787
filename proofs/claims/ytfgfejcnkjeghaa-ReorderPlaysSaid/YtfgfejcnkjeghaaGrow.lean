/-
  A row of the call's own that grows: what stays. No program.
-/
import Derived.Test.YtfgfejcnkjeghaaRowsG4
namespace Go.Proofs.Ytfgfejcnkjeghaa.mem
open Go.RowKit
set_option linter.unusedVariables false

/-- a row that the call owns, in blocks made since w; nothing that was there has turned -/
structure Gr {α : Type} (E : Enc α) (T : TypeId) (w wr : World) (v : Value) (L : List α) : Prop where
  own : Owns E T wr v L
  vb : ∀ g, v.ownBlock = some g → w.heap.size ≤ g
  n : Turns (fun _ => False) w wr
section
variable {α : Type} {E : Enc α} {T : TypeId} {w w1 w2 : World} {v v' : Value} {L : List α}
theorem Gr.nil (E : Enc α) (T : TypeId) (w wr : World) (n : Turns (fun _ => False) w wr) : Gr E T w wr (.slice none 0 0) [] := ⟨Owns.nil _ _, (fun g hg => by simp [Value.ownBlock] at hg), n⟩
theorem Gr.later (h : Gr E T w w1 v L) (n : Turns (fun _ => False) w1 w2) : Gr E T w w2 v L :=
  ⟨h.own.turns n (fun _ _ h => h), h.vb, h.n.trans (n.mono (fun _ _ h => h.elim))⟩
/-- turned: the row's own block alone -/
theorem Gr.turned {o : Obj} (hg : (w1.alloc o).grownBy w2 v.ownBlock) : Turns (fun k => some k = v.ownBlock) w1 w2 := ((Turns.refl _ _).alloc _).trans ((Turns.of_grown hg).mono (fun k _ hk => .inl hk))
theorem Gr.push {l : List α} {o : Obj} (h : Gr E T w w1 v L) (ho : Owns E T w2 v' (L ++ l)) (hg : (w1.alloc o).grownBy w2 v.ownBlock) (ha : v'.ownBlock = v.ownBlock ∨ v'.ownBlock = some (w1.alloc o).heap.size) : Gr E T w w2 v' (L ++ l) := by
  refine ⟨ho, ?_, h.n.trans ((Gr.turned hg).mono (fun k _ hk => .inr (h.vb k hk.symm)))⟩
  intro g hg
  rcases ha with e | e
  · exact h.vb g (by rw [← e]; exact hg)
  · rw [e] at hg; injection hg with hg; have := h.n.size; simp at hg; omega
end
end Go.Proofs.Ytfgfejcnkjeghaa.mem
