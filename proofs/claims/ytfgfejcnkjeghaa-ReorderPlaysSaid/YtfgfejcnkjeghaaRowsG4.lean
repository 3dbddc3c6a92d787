/-
  Slices of structs that can be read from some place in a block on; append of such a slice onto an owned one. No program.
-/
import Derived.Test.YtfgfejcnkjeghaaRowsG3
namespace Go.Proofs.Ytfgfejcnkjeghaa.mem
open Go.RowKit
set_option linter.unusedVariables false
section
variable {α : Type} {E : Enc α}

/-- v holds the elements l, in a block from B on -/
def Lies (E : Enc α) (B : Nat) (w : World) (v : Value) (l : List α) : Prop :=
  ∃ g o c, v = .slice (some ⟨g, o, none⟩) l.length c ∧ l.length ≤ c ∧ c ≤ maxLen ∧ B ≤ g ∧ g < w.heap.size ∧ ∀ j u, (E.all l)[j]? = some u → w.cell? ⟨g, o + j, none⟩ = some u
theorem Lies.turns {B : Nat} {S : Nat → Prop} {w w' : World} {v : Value} {l : List α} (h : Lies E B w v l) (ht : Turns S w w') (hn : ∀ g, B ≤ g → ¬ S g) : Lies E B w' v l := by
  obtain ⟨g, o, c, rfl, h1, h2, h3, h4, h5⟩ := h
  exact ⟨g, o, c, rfl, h1, h2, h3, Nat.lt_of_lt_of_le h4 ht.size, fun j u hu => (ht.cell (a := ⟨g, o + j, none⟩) h4 (hn g h3)).trans (h5 j u hu)⟩
/-- the block of v is not among what has turned -/
theorem Lies.turns' {B : Nat} {S : Nat → Prop} {w w' : World} {v : Value} {l : List α} (h : Lies E B w v l) (ht : Turns S w w') (hn : ∀ g, v.ownBlock = some g → ¬ S g) : Lies E B w' v l := by
  obtain ⟨g, o, c, rfl, h1, h2, h3, h4, h5⟩ := h
  exact ⟨g, o, c, rfl, h1, h2, h3, Nat.lt_of_lt_of_le h4 ht.size, fun j u hu => (ht.cell (a := ⟨g, o + j, none⟩) h4 (hn g rfl)).trans (h5 j u hu)⟩
theorem Lies.lt {B : Nat} {w : World} {v : Value} {l : List α} (h : Lies E B w v l) : ∀ g, v.ownBlock = some g → B ≤ g ∧ g < w.heap.size := by
  obtain ⟨g, o, c, rfl, h1, h2, h3, h4, h5⟩ := h
  intro g' hg'
  have : g = g' := by simpa [Value.ownBlock] using hg'
  subst this
  exact ⟨h3, h4⟩
theorem Lies.mono {B B' : Nat} {w : World} {v : Value} {l : List α} (h : Lies E B w v l) (hB : B' ≤ B) : Lies E B' w v l := by
  obtain ⟨g, o, c, rfl, h1, h2, h3, h4, h5⟩ := h
  exact ⟨g, o, c, rfl, h1, h2, Nat.le_trans hB h3, h4, h5⟩
theorem Owns.lies {T : TypeId} {w : World} {v : Value} {l : List α} (h : Owns E T w v l) (hl : l ≠ []) (B : Nat) (hB : ∀ g, v.ownBlock = some g → B ≤ g) : Lies E B w v l := by
  have hcs := @World.ownsRow.cells _ _ _ _ _ _ _ h
  rcases h.2 with ⟨_, h0⟩ | ⟨g, cap, cur, rfl, hb, hg, hc, hm, hs, ht⟩
  · exact absurd (List.length_eq_zero_iff.1 h0) hl
  · refine ⟨g, 0, cap, rfl, hc, hm, hB g rfl, (Array.getElem?_eq_some_iff.1 hg).1, fun j u hu => ?_⟩
    have := hcs (g := g) rfl j u hu
    rw [Nat.zero_add]
    rwa [show (⟨g, 0, none⟩ : Addr).add j = ⟨g, j, none⟩ by unfold Addr.add; split <;> simp_all] at this
/-- 'l[1:]' -/
theorem Lies.tail {B g o c : Nat} {w : World} {l : List α} {x : α} (h : Lies E B w (.slice (some ⟨g, o, none⟩) (x :: l).length c) (x :: l)) : Lies E B w (.slice (some ⟨g, o + E.n, none⟩) l.length (c - 1)) l := by
  obtain ⟨g', o', c', e, h1, h2, h3, h4, h5⟩ := h
  injection e with e1 _ e3
  injection e1 with e1
  injection e1 with e1 e2
  subst e1 e2 e3
  refine ⟨g, o + E.n, c - 1, rfl, by simp at h1; omega, by omega, h3, h4, fun j u hu => ?_⟩
  have := h5 (E.n + j) u (by rw [E.all_cons, List.getElem?_append_right (by rw [E.len]; omega), E.len]; rw [show E.n + j - E.n = j by omega]; exact hu)
  rwa [Nat.add_assoc]
theorem Lies.cell {B : Nat} {w : World} {v : Value} {l : List α} (h : Lies E B w v l) : ∃ g o c, v = .slice (some ⟨g, o, none⟩) l.length c ∧ l.length ≤ c ∧ c ≤ maxLen ∧ B ≤ g ∧ g < w.heap.size ∧ ∀ (k : Nat) (u : α), l[k]? = some u → ∀ (j : Nat) (x : Value), (E.cs u)[j]? = some x → w.cell? ⟨g, o + k * E.n + j, none⟩ = some x := by
  obtain ⟨g, o, c, e, h1, h2, h3, h4, h5⟩ := h
  refine ⟨g, o, c, e, h1, h2, h3, h4, fun k u hu j x hj => ?_⟩
  have := h5 (k * E.n + j) x (E.all_at l k u hu j x hj)
  rwa [← Nat.add_assoc] at this
/-- what stands behind '[]T{}' -/
theorem Lies.made (w : World) (T : TypeId) : Lies E w.heap.size (w.alloc (.cells #[] T)) (.slice (some ⟨w.heap.size, 0, none⟩) 0 0) [] :=
  ⟨w.heap.size, 0, 0, rfl, Nat.le_refl _, Nat.zero_le _, Nat.le_refl _, by simp, fun j u hu => by simp [Enc.all] at hu⟩

/-- append of the elements m, that lie somewhere, onto an owned row: a step of a list of operations -/
theorem wpList_append_lying {P : Program} {T RT : TypeId} {z : Value} {bytes : Nat} (hu : P.underlying RT = some (.slice T)) (hi : (P.info? T).map (fun i => (i.zero, i.size, i.bytes)) = some (some z, E.n, bytes)) (hz : z.cells.size = E.n) (h0 : 0 < E.n) (hb : bytes ≤ 4096)
    {ops : Array Oper} {rest : List Oper} {o : Oper} {a : Act} {Q : Exit → Act → World → Prop} {W : World} (hgd : o.guard = none) (sl x : Operand)
    (ho : o.op = .call { callee := .builtin .append, args := #[sl, x], argTypes := #[RT, RT] }) (v : Value) (l m : List α) (hs : a.eval sl = v) (hr : Owns E T W v l) (vm : Value) (hx : a.eval x = vm) (B : Nat) (hm : Lies E B W vm m) (h63 : l.length + m.length ≤ 1048576)
    (h : ∀ v' w', Owns E T w' v' (l ++ m) → W.grownBy w' v.ownBlock → (v'.ownBlock = v.ownBlock ∨ v'.ownBlock = some W.heap.size) → wpList P ops Q rest (a.put o.dst v') w') : wpList P ops Q (o :: rest) a W := by
  refine wpList_plain hgd fun K hK => ?_
  obtain ⟨g, of, c, rfl, _, _, _, _, hcell⟩ := hm
  obtain ⟨i0, hi', hz0, hz1, hz2⟩ := infoOf hi
  have hby : (l.length + m.length) * bytes ≤ 1048576 * 4096 := Nat.mul_le_mul h63 hb
  obtain ⟨v', w', hrun, h2, h3, _, h5⟩ := run_append_own_at (P := P) W 0 RT o.type T i0 _ E.n bytes hu hi' hz0 hz1 hz2 hz h0 v l.length (E.all l) hr ⟨g, of, none⟩ m.length c (E.all m) (E.all_length m)
    (fun j u hj => by have := hcell j u hj; rwa [show (⟨g, of, none⟩ : Addr).add j = ⟨g, of + j, none⟩ by unfold Addr.add; split <;> simp_all])
    (E.all_cell m) (by unfold maxLen; omega) (by omega) (Nat.zero_le _)
  unfold Oper.wp execOp
  simp only [ho, resolve, invoke, builtin, Sem.run_bind, Sem.run_pure, Result.andThen_ok, List.map_toArray, List.map_cons, List.map_nil, hs, hx, hrun]
  refine hK _ _ (h v' w' ?_ h3 h5)
  unfold Owns
  rw [E.all_append, List.length_append]
  exact h2
end
end Go.Proofs.Ytfgfejcnkjeghaa.mem
