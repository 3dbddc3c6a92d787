/-
  append of one owned row onto another: 'append(x, y...)'. No program.
-/
import Derived.Test.YtfgfejcnkjeghaaRowsG
namespace Go.Proofs.Ytfgfejcnkjeghaa.mem
open Go.RowKit
set_option linter.unusedVariables false
section
variable {α : Type} {E : Enc α}

theorem Owns.append_owns {P : Program} {T RT ty : TypeId} {z : Value} {bytes : Nat} (hu : P.underlying RT = some (.slice T)) (hi : (P.info? T).map (fun i => (i.zero, i.size, i.bytes)) = some (some z, E.n, bytes)) (hz : z.cells.size = E.n) (h0 : 0 < E.n) (hb : bytes ≤ 4096)
    {W : World} {v u : Value} {l m : List α} (hr : Owns E T W v l) (hm : Owns E T W u m) (h63 : l.length + m.length ≤ 1048576) :
    ∃ v' w', (Builtin.append_ #[RT, RT] ty #[v, u]).run P W = .ok v' w' ∧ Owns E T w' v' (l ++ m) ∧ W.grownBy w' v.ownBlock ∧ (v'.ownBlock = v.ownBlock ∨ v'.ownBlock = some W.heap.size) := by
  obtain ⟨i0, hi', hz0, hz1, hz2⟩ := infoOf hi
  have hcells := @World.ownsRow.cells _ _ _ _ _ _ _ hm
  rcases hm.2 with ⟨rfl, hn⟩ | ⟨g, cap, cur, rfl, hbl, hg, r⟩
  · have : m = [] := List.length_eq_zero_iff.1 hn
    subst this
    refine ⟨v, W, ?_, by rw [List.append_nil]; exact hr, ⟨rfl, rfl, rfl, Nat.le_refl _, fun _ _ _ => rfl⟩, .inl rfl⟩
    exact run_append_owned_none (P := P) (w := W) 0 RT ty T i0 E.n hu hi' v l.length (E.all l) hr
  · exact Owns.append hu hi hz h0 hr (m := m) g cap (fun j x hj => hcells rfl j x hj) h63 hb

theorem step_append_owns {P : Program} {T RT : TypeId} {z : Value} {bytes : Nat} (hu : P.underlying RT = some (.slice T)) (hi : (P.info? T).map (fun i => (i.zero, i.size, i.bytes)) = some (some z, E.n, bytes)) (hz : z.cells.size = E.n) (h0 : 0 < E.n) (hb : bytes ≤ 4096)
    {ops : Array Oper} {o : Oper} {a : Act} {K : Act → World → Prop} {Q : Exit → Act → World → Prop} {X : Prop} {W : World} (hgd : o.guard = none) (sl x : Operand)
    (ho : o.op = .call { callee := .builtin .append, args := #[sl, x], argTypes := #[RT, RT] }) (v u : Value) (l m : List α) (hs : a.eval sl = v) (hx : a.eval x = u) (hr : Owns E T W v l) (hm : Owns E T W u m) (h63 : l.length + m.length ≤ 1048576)
    (h : ∀ v' w', Owns E T w' v' (l ++ m) → W.grownBy w' v.ownBlock → (v'.ownBlock = v.ownBlock ∨ v'.ownBlock = some W.heap.size) → K (a.put o.dst v') w') :
    if Region.wanted o (yielded ops a.tmps) = true then Oper.wp P o a W K Q else X := by
  have hw : Region.wanted o (yielded ops a.tmps) = true := by simp [Region.wanted, hgd]
  rw [if_pos hw]
  obtain ⟨v', w', hrun, h2, h3, h4⟩ := Owns.append_owns (P := P) (ty := o.type) hu hi hz h0 hb hr hm h63
  unfold Oper.wp execOp
  simp only [ho, resolve, invoke, builtin, Sem.run_bind, Sem.run_pure, Result.andThen_ok, List.map_toArray, List.map_cons, List.map_nil, hs, hx, hrun]
  exact h v' w' h2 h3 h4
end
end Go.Proofs.Ytfgfejcnkjeghaa.mem
