/-
  Slices of structs that the call owns, for any struct. No program.
-/
import Derived.Test.YtfgfejcnkjeghaaMem
import Derived.Maps.AppendAt
import Derived.Deep.AppendLies
import Derived.Laws.AppendOwnNone
import Derived.OwnWalk
namespace Go.Proofs.Ytfgfejcnkjeghaa.mem
open Go.RowKit
set_option linter.unusedVariables false

/-- how an element is stored: in n cells -/
structure Enc (α : Type) where
  n : Nat
  cs : α → List Value
  len : ∀ a, (cs a).length = n
  one : ∀ a, ∀ u ∈ cs a, u.oneCell' = true

section
variable {α : Type} (E : Enc α)
def Enc.all (l : List α) : List Value := l.flatMap E.cs
theorem Enc.all_nil : E.all [] = [] := rfl
theorem Enc.all_cons (u : α) (l : List α) : E.all (u :: l) = E.cs u ++ E.all l := rfl
theorem Enc.all_append (l m : List α) : E.all (l ++ m) = E.all l ++ E.all m := by simp [Enc.all]
theorem Enc.all_one (u : α) : E.all [u] = E.cs u := by simp [Enc.all]
theorem Enc.all_length (l : List α) : (E.all l).length = l.length * E.n := by
  induction l with
  | nil => simp [Enc.all]
  | cons u l ih => rw [E.all_cons, List.length_append, ih, E.len, List.length_cons, Nat.add_mul]; omega
theorem Enc.all_cell (l : List α) : ∀ u ∈ E.all l, u.oneCell' = true := by
  intro u hu
  simp only [Enc.all, List.mem_flatMap] at hu
  obtain ⟨y, _, hy⟩ := hu
  exact E.one y u hy
theorem Enc.all_at (l : List α) (k : Nat) (u : α) (h : l[k]? = some u) (j : Nat) (v : Value) (hj : (E.cs u)[j]? = some v) : (E.all l)[k * E.n + j]? = some v := by
  induction l generalizing k with
  | nil => simp at h
  | cons y l ih =>
    have hyl := E.len y
    have hj7 : j < E.n := by have := (List.getElem?_eq_some_iff.1 hj).1; rwa [E.len] at this
    rw [E.all_cons]
    cases k with
    | zero =>
      simp at h
      subst h
      rw [List.getElem?_append_left (by omega)]
      simpa using hj
    | succ k =>
      have e : (k + 1) * E.n = k * E.n + E.n := Nat.succ_mul _ _
      rw [List.getElem?_append_right (by omega), hyl]
      have := ih k (by simpa using h)
      rw [show (k + 1) * E.n + j - E.n = k * E.n + j by omega]
      exact this

/-- a slice that holds the elements l, in a block of its own (or nil) -/
def Owns (T : TypeId) (w : World) (v : Value) (l : List α) : Prop := w.ownsRow 0 T E.n v l.length (E.all l)
variable {E}
theorem Owns.nil (T : TypeId) (w : World) : Owns E T w (.slice none 0 0) [] := World.ownsRow_nil w 0 _ _
theorem Owns.lt {T : TypeId} {w : World} {v : Value} {l : List α} (h : Owns E T w v l) : ∀ g, v.ownBlock = some g → g < w.heap.size := fun g hg => (World.ownsRow.lt h g hg).2
theorem Owns.turns {T : TypeId} {S : Nat → Prop} {w w' : World} {v : Value} {l : List α} (h : Owns E T w v l) (ht : Turns S w w') (hn : ∀ g, v.ownBlock = some g → ¬ S g) : Owns E T w' v l := by
  have hl := h.lt
  refine ⟨h.1, ?_⟩
  rcases h.2 with h0 | ⟨g, cap, cur, rfl, hb, hg, r⟩
  · exact .inl h0
  · exact .inr ⟨g, cap, cur, rfl, hb, by rw [ht.block g (hl g rfl) (hn g rfl)]; exact hg, r⟩
/-- the elements can be read through the slice: block g, from its beginning -/
def Reads (E : Enc α) (w : World) (ao : Option Addr) (l : List α) : Prop :=
  l = [] ∨ ∃ g, ao = some ⟨g, 0, none⟩ ∧ g < w.heap.size ∧ ∀ (k : Nat) (u : α), l[k]? = some u → ∀ (j : Nat) (x : Value), (E.cs u)[j]? = some x → w.cell? ⟨g, k * E.n + j, none⟩ = some x
theorem Owns.form {T : TypeId} {w : World} {v : Value} {l : List α} (h : Owns E T w v l) :
    ∃ (ao : Option Addr) (c : Nat), v = .slice ao l.length c ∧ l.length ≤ c ∧ Reads E w ao l ∧ ∀ g, ao = some ⟨g, 0, none⟩ → v.ownBlock = some g := by
  have hlt := h.lt
  have hcs := @World.ownsRow.cells _ _ _ _ _ _ _ h
  rcases h.2 with ⟨rfl, h0⟩ | ⟨g, cap, cur, rfl, hb, hg, hc, r⟩
  · have : l = [] := List.length_eq_zero_iff.1 h0
    subst this
    exact ⟨none, 0, rfl, Nat.le_refl _, .inl rfl, fun g hg => by cases hg⟩
  · refine ⟨some ⟨g, 0, none⟩, cap, rfl, hc, .inr ⟨g, rfl, hlt g rfl, fun k u hu j x hj => ?_⟩, fun g' hg' => by cases hg'; rfl⟩
    have := hcs (g := g) rfl (k * E.n + j) x (E.all_at l k u hu j x hj)
    rwa [show (⟨g, 0, none⟩ : Addr).add (k * E.n + j) = ⟨g, k * E.n + j, none⟩ by unfold Addr.add; split <;> simp_all] at this
theorem Reads.turns {S : Nat → Prop} {w w' : World} {ao : Option Addr} {l : List α} (h : Reads E w ao l) (ht : Turns S w w') (hn : ∀ g, ao = some ⟨g, 0, none⟩ → ¬ S g) : Reads E w' ao l := by
  rcases h with h | ⟨g, rfl, hg, hc⟩
  · exact .inl h
  · exact .inr ⟨g, rfl, Nat.lt_of_lt_of_le hg ht.size, fun k u hu j x hj => (ht.cell (a := ⟨g, k * E.n + j, none⟩) hg (hn g rfl)).trans (hc k u hu j x hj)⟩
/-- a row that has just been built: one block that holds just the elements -/
theorem Reads.of_block {w : World} {g : Nat} {l : List α} {t : TypeId} {fr : Nat × Nat} (h : w.heap[g]? = some (.cells (E.all l).toArray t fr)) : Reads E w (some ⟨g, 0, none⟩) l := by
  refine .inr ⟨g, rfl, (Array.getElem?_eq_some_iff.1 h).1, fun k u hu j x hj => ?_⟩
  have := World.news_of_block h (k * E.n + j) x (E.all_at l k u hu j x hj)
  rwa [show (⟨g, 0, none⟩ : Addr).add (k * E.n + j) = ⟨g, k * E.n + j, none⟩ by unfold Addr.add; split <;> simp_all] at this

theorem infoOf {P : Program} {T : TypeId} {z : Value} {size bytes : Nat} (h : (P.info? T).map (fun i => (i.zero, i.size, i.bytes)) = some (some z, size, bytes)) : ∃ i, P.info? T = some i ∧ i.zero = some z ∧ i.size = size ∧ i.bytes = bytes := by
  cases hi : P.info? T with
  | none => rw [hi] at h; cases h
  | some i => rw [hi] at h; simp at h; exact ⟨i, rfl, h.1, h.2.1, h.2.2⟩

/-- append of the elements m, that lie readable at ao -/
theorem Owns.append {P : Program} {T RT ty : TypeId} {z : Value} {bytes : Nat} (hu : P.underlying RT = some (.slice T)) (hi : (P.info? T).map (fun i => (i.zero, i.size, i.bytes)) = some (some z, E.n, bytes)) (hz : z.cells.size = E.n) (h0 : 0 < E.n)
    {W : World} {v : Value} {l m : List α} (hr : Owns E T W v l) (g c : Nat) (hm : ∀ j u, (E.all m)[j]? = some u → W.cell? ((⟨g, 0, none⟩ : Addr).add j) = some u) (h63 : l.length + m.length ≤ 1048576) (hb : bytes ≤ 4096) :
    ∃ v' w', (Builtin.append_ #[RT, RT] ty #[v, .slice (some ⟨g, 0, none⟩) m.length c]).run P W = .ok v' w' ∧ Owns E T w' v' (l ++ m) ∧ W.grownBy w' v.ownBlock ∧ (v'.ownBlock = v.ownBlock ∨ v'.ownBlock = some W.heap.size) := by
  obtain ⟨i0, hi, hz0, hz1, hz2⟩ := infoOf hi
  have hby : (l.length + m.length) * bytes ≤ 1048576 * 4096 := Nat.mul_le_mul h63 hb
  obtain ⟨v', w', h1, h2, h3, _, h5⟩ := run_append_own_at (P := P) W 0 RT ty T i0 _ E.n bytes hu hi hz0 hz1 hz2 hz h0 v l.length (E.all l) hr ⟨g, 0, none⟩ m.length c (E.all m) (E.all_length m) hm (E.all_cell m) (by unfold maxLen; omega) (by omega) (Nat.zero_le _)
  refine ⟨v', w', h1, ?_, h3, h5⟩
  unfold Owns
  rw [E.all_append, List.length_append]
  exact h2

/-- append of one element, in a row that has just been built: a step of a list of operations -/
theorem wpList_append_one {P : Program} {T RT : TypeId} {z : Value} {bytes : Nat} (hu : P.underlying RT = some (.slice T)) (hi : (P.info? T).map (fun i => (i.zero, i.size, i.bytes)) = some (some z, E.n, bytes)) (hz : z.cells.size = E.n) (h0 : 0 < E.n) (hb : bytes ≤ 4096)
    {ops : Array Oper} {rest : List Oper} {o : Oper} {a : Act} {Q : Exit → Act → World → Prop} {W : World} (hgd : o.guard = none) (sl x : Operand)
    (ho : o.op = .call { callee := .builtin .append, args := #[sl, x], argTypes := #[RT, RT] }) (v : Value) (l : List α) (u : α) (hs : a.eval sl = v) (hr : Owns E T W v l) (g : Nat) (hx : a.eval x = .slice (some ⟨g, 0, none⟩) 1 1)
    (hg : W.heap[g]? = some (.cells (E.cs u).toArray T (0, 0))) (h63 : l.length + 1 ≤ 1048576)
    (h : ∀ v' w', Owns E T w' v' (l ++ [u]) → W.grownBy w' v.ownBlock → (v'.ownBlock = v.ownBlock ∨ v'.ownBlock = some W.heap.size) → wpList P ops Q rest (a.put o.dst v') w') : wpList P ops Q (o :: rest) a W := by
  refine wpList_plain hgd fun K hK => ?_
  obtain ⟨v', w', hrun, h2, h3, h4⟩ := Owns.append (P := P) (ty := o.type) hu hi hz h0 hr (m := [u]) g 1 (by rw [E.all_one]; exact World.news_of_block (cs := (E.cs u).toArray) hg) h63 hb
  unfold Oper.wp execOp
  simp only [ho, resolve, invoke, builtin, Sem.run_bind, Sem.run_pure, Result.andThen_ok, List.map_toArray, List.map_cons, List.map_nil, hs, hx]
  rw [show (1 : Nat) = [u].length from rfl] at *
  simp only [hrun]
  exact hK _ _ (h v' w' h2 h3 h4)
end
end Go.Proofs.Ytfgfejcnkjeghaa.mem
