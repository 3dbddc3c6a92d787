/-
  Owned rows cut in place ('slices.Delete(s, 0, n)'), slices that may be nil or lie anywhere. No program.
-/
import Derived.Test.YtfgfejcnkjeghaaGrow
import Derived.ArgAppend
import Derived.Lib.SliceRun
import Derived.Deep.RegionLaw
namespace Go.Proofs.Ytfgfejcnkjeghaa.mem
open Go.RowKit
set_option linter.unusedVariables false

theorem take_set_of_lt' {α : Type} (l : List α) (o : Nat) (v : α) (h : o < l.length) : (l.set o v).take (o + 1) = l.take o ++ [v] := by
  rw [List.take_add_one, List.getElem?_set_self (by omega)]
  simp [List.take_set]
  rw [List.set_eq_of_length_le (by simp; omega)]
theorem Blk.setCells {p : Nat} {t : TypeId} : ∀ (vs : List Value) (o : Nat) (w : World) (l : List Value), Blk w p l.toArray t → o + vs.length ≤ l.length → Blk (w.setCells p o vs) p (l.take o ++ vs ++ l.drop (o + vs.length)).toArray t
  | [], o, w, l, h, _ => by simpa [World.setCells] using h
  | v :: vs, o, w, l, h, hle => by
    have hle' : o + (vs.length + 1) ≤ l.length := by simpa using hle
    have h1 := h.set o v
    rw [List.setIfInBounds_toArray] at h1
    have h2 := Blk.setCells vs (o + 1) _ (l.set o v) h1 (by rw [List.length_set]; omega)
    rw [World.setCells]
    have e : (l.set o v).take (o + 1) ++ vs ++ (l.set o v).drop (o + 1 + vs.length) = l.take o ++ (v :: vs) ++ l.drop (o + (v :: vs).length) := by
      rw [take_set_of_lt' l o v (by omega), List.drop_set_of_lt (by omega), show o + 1 + vs.length = o + (v :: vs).length by simp; omega]
      simp
    rwa [e] at h2
theorem Turns.setCells {S : Nat → Prop} {a : World} {p : Nat} (hp : S p ∨ a.heap.size ≤ p) : ∀ (vs : List Value) (o : Nat) (w : World), Turns S a w → Turns S a (w.setCells p o vs)
  | [], _, _, h => h
  | v :: vs, o, w, h => Turns.setCells hp vs (o + 1) _ (h.setCell (p := ⟨p, o, none⟩) hp v)

/-- what 'clear' writes -/
def zerosOf (z : Value) (n : Nat) : List Value := (Builtin.zeroCells z.cells n).toList
theorem zerosOf_length (z : Value) (n : Nat) : (zerosOf z n).length = n * z.cells.size := by simp [zerosOf, Builtin.zeroCells]
theorem zerosOf_one (z : Value) (n : Nat) (h0 : 0 < z.cells.size) (h1 : ∀ u ∈ z.cells, u.oneCell' = true) : ∀ u ∈ zerosOf z n, u.oneCell' = true := by
  intro u hu
  simp only [zerosOf, Builtin.zeroCells, Array.toList_map, List.mem_map] at hu
  obtain ⟨i, _, rfl⟩ := hu
  have hlt := Nat.mod_lt i h0
  rw [getElem!_pos z.cells _ hlt]
  exact h1 _ (Array.getElem_mem hlt)

section
variable {α : Type} {E : Enc α}
theorem run_clear {P : Program} (w : World) (t e ty : TypeId) (z : Value) (ht : P.underlying t = some (.slice e)) (hv : ∀ w, (zeroValue e).run P w = .ok z w) (hs : z.cells.size = E.n) (h0 : 0 < E.n) (h1 : ∀ u ∈ z.cells, u.oneCell' = true) (b o n c : Nat) (hn : 0 < n)
    (hc : ∀ j, j < n * E.n → (w.cell? ⟨b, o + j, none⟩).isSome = true) (hf : ∀ j, j < n * E.n → w.frozen? ⟨b, o + j, none⟩ = false) :
    (Builtin.clear_ #[t] ty #[.slice (some ⟨b, o, none⟩) n c]).run P w = .ok (.tuple #[]) (w.setCells b o (zerosOf z n)) := by
  have hl := zerosOf_length z n
  rw [hs] at hl
  have hst := run_storeCells_cells (P := P) b o (zerosOf z n) 0 w (by simpa [hl] using hc) (by simpa [hl] using hf) (zerosOf_one z n (by omega) h1)
  simp only [Nat.add_zero] at hst
  unfold zerosOf at *
  obtain ⟨m, rfl⟩ : ∃ m, n = m + 1 := ⟨n - 1, by omega⟩
  simp [Builtin.clear_, run_underlying ht, hv, hst]

theorem Enc.all_drop (l : List α) (n : Nat) : E.all (l.drop n) = (E.all l).drop (n * E.n) := by
  induction n generalizing l with
  | zero => simp
  | succ n ih =>
    cases l with
    | nil => simp [Enc.all]
    | cons x l =>
      rw [List.drop_succ_cons, ih, E.all_cons, Nat.succ_mul, Nat.add_comm (n * E.n), ← List.drop_drop, List.drop_left' (E.len x)]
theorem Enc.all_take (l : List α) (n : Nat) : E.all (l.take n) = (E.all l).take (n * E.n) := by
  induction n generalizing l with
  | zero => simp [Enc.all]
  | succ n ih =>
    cases l with
    | nil => simp [Enc.all]
    | cons x l =>
      rw [List.take_succ_cons, E.all_cons, ih, E.all_cons, Nat.succ_mul, Nat.add_comm (n * E.n), List.take_append, E.len, Nat.add_sub_cancel_left, List.take_of_length_le (i := E.n + n * E.n) (l := E.cs x) (by rw [E.len]; omega)]

/-- the first n elements are cut off in place -/
theorem Owns.cut {T : TypeId} {w : World} {g cap : Nat} {l : List α} (h : Owns E T w (.slice (some ⟨g, 0, none⟩) l.length cap) l) (n : Nat) (hn : n ≤ l.length) (zs : List Value) (hz : zs.length = n * E.n) :
    Owns E T ((w.setCells g 0 (E.all (l.drop n))).setCells g ((l.length - n) * E.n) zs) (.slice (some ⟨g, 0, none⟩) (l.length - n) cap) (l.drop n) := by
  rcases h.2 with ⟨h0, _⟩ | ⟨g', cap', cur, e, hb, hg, hc, hm, hs, ht⟩
  · cases h0
  · injection e with e1 _ e3
    injection e1 with e1
    injection e1 with e1
    subst e1 e3
    have hB : Blk w g cur.toList.toArray T := by simpa [Blk] using hg
    have hla : (E.all (l.drop n)).length = (l.length - n) * E.n := by rw [E.all_length, List.length_drop]
    have hcs : cur.toList.length = cap * E.n := by simpa using hs
    have hml : (l.length - n) * E.n + n * E.n = l.length * E.n := by rw [← Nat.add_mul, Nat.sub_add_cancel hn]
    have hmc : l.length * E.n ≤ cap * E.n := Nat.mul_le_mul_right _ hc
    have h1 := Blk.setCells (E.all (l.drop n)) 0 w cur.toList hB (by rw [hla, hcs]; omega)
    have h2 := Blk.setCells zs ((l.length - n) * E.n) _ _ h1 (by
      simp only [List.length_append, List.length_take, List.length_drop, hla, hcs, hz]; omega)
    refine ⟨by rw [E.all_length, List.length_drop], ?_⟩
    rw [List.length_drop]
    refine .inr ⟨g, cap, _, rfl, Nat.zero_le _, h2, by omega, hm, ?_, ?_⟩
    · simp only [List.size_toArray, List.length_append, List.length_take, List.length_drop, hla, hcs, hz]; omega
    · rw [List.toList_toArray, List.append_assoc, List.take_append_of_le_length (by simp only [List.length_take, List.length_append, List.length_drop, hla, hcs]; omega), List.take_take, Nat.min_self]
      simp only [List.take_zero, List.nil_append]
      rw [List.take_append_of_le_length (by rw [hla]; omega), List.take_of_length_le (by rw [hla]; omega)]

/-- v holds the elements l: nil, or in a block from B on -/
def Sub (E : Enc α) (B : Nat) (w : World) (v : Value) (l : List α) : Prop := (v = .slice none 0 0 ∧ l = []) ∨ Lies E B w v l
theorem Sub.nil (E : Enc α) (B : Nat) (w : World) : Sub E B w (.slice none 0 0) [] := .inl ⟨rfl, rfl⟩
theorem Sub.turns {B : Nat} {S : Nat → Prop} {w w' : World} {v : Value} {l : List α} (h : Sub E B w v l) (ht : Turns S w w') (hn : ∀ g, B ≤ g → ¬ S g) : Sub E B w' v l := by
  rcases h with h | h
  · exact .inl h
  · exact .inr (h.turns ht hn)
theorem Sub.turns' {B : Nat} {S : Nat → Prop} {w w' : World} {v : Value} {l : List α} (h : Sub E B w v l) (ht : Turns S w w') (hn : ∀ g, v.ownBlock = some g → ¬ S g) : Sub E B w' v l := by
  rcases h with h | h
  · exact .inl h
  · exact .inr (h.turns' ht hn)
theorem Sub.lt {B : Nat} {w : World} {v : Value} {l : List α} (h : Sub E B w v l) : ∀ g, v.ownBlock = some g → B ≤ g ∧ g < w.heap.size := by
  rcases h with ⟨rfl, _⟩ | h
  · intro g hg; simp [Value.ownBlock] at hg
  · exact h.lt
theorem Sub.mono {B B' : Nat} {w : World} {v : Value} {l : List α} (h : Sub E B w v l) (hB : B' ≤ B) : Sub E B' w v l := by
  rcases h with h | h
  · exact .inl h
  · exact .inr (h.mono hB)
theorem Sub.form {B : Nat} {w : World} {v : Value} {l : List α} (h : Sub E B w v l) : ∃ ao c, v = .slice ao l.length c ∧ l.length ≤ c ∧ c ≤ maxLen := by
  rcases h with ⟨rfl, rfl⟩ | ⟨g, o, c, e, h1, h2, _⟩
  · exact ⟨none, 0, rfl, Nat.le_refl _, Nat.zero_le _⟩
  · exact ⟨_, c, e, h1, h2⟩
theorem Owns.sub {T : TypeId} {w : World} {v : Value} {l : List α} (h : Owns E T w v l) (B : Nat) (hB : ∀ g, v.ownBlock = some g → B ≤ g) : Sub E B w v l := by
  have hcs := @World.ownsRow.cells _ _ _ _ _ _ _ h
  rcases h.2 with ⟨rfl, h0⟩ | ⟨g, cap, cur, rfl, hb, hg, hc, hm, hs, ht⟩
  · exact .inl ⟨rfl, List.length_eq_zero_iff.1 h0⟩
  · refine .inr ⟨g, 0, cap, rfl, hc, hm, hB g rfl, (Array.getElem?_eq_some_iff.1 hg).1, fun j u hu => ?_⟩
    have := hcs (g := g) rfl j u hu
    rw [Nat.zero_add]
    rwa [show (⟨g, 0, none⟩ : Addr).add j = ⟨g, j, none⟩ by unfold Addr.add; split <;> simp_all] at this
/-- 'l[:n]' -/
theorem Lies.take {B g o c : Nat} {w : World} {l : List α} (h : Lies E B w (.slice (some ⟨g, o, none⟩) l.length c) l) (n : Nat) (hn : n ≤ l.length) : Lies E B w (.slice (some ⟨g, o, none⟩) n c) (l.take n) := by
  obtain ⟨g', o', c', e, h1, h2, h3, h4, h5⟩ := h
  injection e with e1 _ e3
  injection e1 with e1
  injection e1 with e1 e2
  subst e1 e2 e3
  have hl : (l.take n).length = n := by rw [List.length_take]; omega
  refine ⟨g, o, c, by rw [hl], by omega, h2, h3, h4, fun j u hu => h5 j u ?_⟩
  rw [E.all_take] at hu
  rw [List.getElem?_take] at hu
  split at hu
  · exact hu
  · cases hu
/-- 'l[n:]' -/
theorem Lies.drop {B g o c : Nat} {w : World} {l : List α} (h : Lies E B w (.slice (some ⟨g, o, none⟩) l.length c) l) (n : Nat) (hn : n ≤ l.length) : Lies E B w (.slice (if c = n then some ⟨g, o, none⟩ else some ⟨g, o + n * E.n, none⟩) (l.length - n) (c - n)) (l.drop n) := by
  obtain ⟨g', o', c', e, h1, h2, h3, h4, h5⟩ := h
  injection e with e1 _ e3
  injection e1 with e1
  injection e1 with e1 e2
  subst e1 e2 e3
  have hl : (l.drop n).length = l.length - n := by rw [List.length_drop]
  split
  next hc =>
    have : l.drop n = [] := List.drop_eq_nil_of_le (by omega)
    refine ⟨g, o, c - n, by rw [hl], by omega, by omega, h3, h4, fun j u hu => ?_⟩
    rw [this] at hu
    simp [Enc.all] at hu
  next hc =>
    refine ⟨g, o + n * E.n, c - n, by rw [hl], by omega, by omega, h3, h4, fun j u hu => ?_⟩
    rw [E.all_drop, List.getElem?_drop] at hu
    rw [Nat.add_assoc]
    exact h5 _ u hu

theorem Owns.append_sub {P : Program} {T RT ty : TypeId} {z : Value} {bytes B : Nat} (hu : P.underlying RT = some (.slice T)) (hi : (P.info? T).map (fun i => (i.zero, i.size, i.bytes)) = some (some z, E.n, bytes)) (hz : z.cells.size = E.n) (h0 : 0 < E.n) (hb : bytes ≤ 4096)
    {W : World} {v u : Value} {l m : List α} (hr : Owns E T W v l) (hm : Sub E B W u m) (h63 : l.length + m.length ≤ 1048576) :
    ∃ v' w', (Builtin.append_ #[RT, RT] ty #[v, u]).run P W = .ok v' w' ∧ Owns E T w' v' (l ++ m) ∧ W.grownBy w' v.ownBlock ∧ (v'.ownBlock = v.ownBlock ∨ v'.ownBlock = some W.heap.size) := by
  obtain ⟨i0, hi', hz0, hz1, hz2⟩ := infoOf hi
  rcases hm with ⟨rfl, rfl⟩ | ⟨g, of, c, rfl, _, _, _, _, hcell⟩
  · refine ⟨v, W, ?_, by rw [List.append_nil]; exact hr, ⟨rfl, rfl, rfl, Nat.le_refl _, fun _ _ _ => rfl⟩, .inl rfl⟩
    exact run_append_owned_none (P := P) (w := W) 0 RT ty T i0 E.n hu hi' v l.length (E.all l) hr
  · have hby : (l.length + m.length) * bytes ≤ 1048576 * 4096 := Nat.mul_le_mul h63 hb
    obtain ⟨v', w', hrun, h2, h3, _, h5⟩ := run_append_own_at (P := P) W 0 RT ty T i0 _ E.n bytes hu hi' hz0 hz1 hz2 hz h0 v l.length (E.all l) hr ⟨g, of, none⟩ m.length c (E.all m) (E.all_length m)
      (fun j u hj => by have := hcell j u hj; rwa [show (⟨g, of, none⟩ : Addr).add j = ⟨g, of + j, none⟩ by unfold Addr.add; split <;> simp_all])
      (E.all_cell m) (by unfold maxLen; omega) (by omega) (Nat.zero_le _)
    refine ⟨v', w', hrun, ?_, h3, h5⟩
    unfold Owns
    rw [E.all_append, List.length_append]
    exact h2

/-- append of such a slice: a step of a list of operations -/
theorem wpList_append_sub {P : Program} {T RT : TypeId} {z : Value} {bytes : Nat} (hu : P.underlying RT = some (.slice T)) (hi : (P.info? T).map (fun i => (i.zero, i.size, i.bytes)) = some (some z, E.n, bytes)) (hz : z.cells.size = E.n) (h0 : 0 < E.n) (hb : bytes ≤ 4096)
    {ops : Array Oper} {rest : List Oper} {o : Oper} {a : Act} {Q : Exit → Act → World → Prop} {W : World} (hgd : o.guard = none) (sl x : Operand)
    (ho : o.op = .call { callee := .builtin .append, args := #[sl, x], argTypes := #[RT, RT] }) (v : Value) (l m : List α) (hs : a.eval sl = v) (hr : Owns E T W v l) (vm : Value) (hx : a.eval x = vm) (B : Nat) (hm : Sub E B W vm m) (h63 : l.length + m.length ≤ 1048576)
    (h : ∀ v' w', Owns E T w' v' (l ++ m) → W.grownBy w' v.ownBlock → (v'.ownBlock = v.ownBlock ∨ v'.ownBlock = some W.heap.size) → wpList P ops Q rest (a.put o.dst v') w') : wpList P ops Q (o :: rest) a W := by
  refine wpList_plain hgd fun K hK => ?_
  obtain ⟨v', w', hrun, h2, h3, h4⟩ := Owns.append_sub (P := P) (ty := o.type) hu hi hz h0 hb hr hm h63
  unfold Oper.wp execOp
  simp only [ho, resolve, invoke, builtin, Sem.run_bind, Sem.run_pure, Result.andThen_ok, List.map_toArray, List.map_cons, List.map_nil, hs, hx, hrun]
  exact hK _ _ (h v' w' h2 h3 h4)

theorem step_append_sub {P : Program} {T RT : TypeId} {z : Value} {bytes : Nat} (hu : P.underlying RT = some (.slice T)) (hi : (P.info? T).map (fun i => (i.zero, i.size, i.bytes)) = some (some z, E.n, bytes)) (hz : z.cells.size = E.n) (h0 : 0 < E.n) (hb : bytes ≤ 4096)
    {ops : Array Oper} {o : Oper} {a : Act} {K : Act → World → Prop} {Q : Exit → Act → World → Prop} {X : Prop} {W : World} (hgd : o.guard = none) (sl x : Operand)
    (ho : o.op = .call { callee := .builtin .append, args := #[sl, x], argTypes := #[RT, RT] }) (v u : Value) (l m : List α) (hs : a.eval sl = v) (hx : a.eval x = u) (hr : Owns E T W v l) (B : Nat) (hm : Sub E B W u m) (h63 : l.length + m.length ≤ 1048576)
    (h : ∀ v' w', Owns E T w' v' (l ++ m) → W.grownBy w' v.ownBlock → (v'.ownBlock = v.ownBlock ∨ v'.ownBlock = some W.heap.size) → K (a.put o.dst v') w') :
    if Region.wanted o (yielded ops a.tmps) = true then Oper.wp P o a W K Q else X := by
  have hw : Region.wanted o (yielded ops a.tmps) = true := by simp [Region.wanted, hgd]
  rw [if_pos hw]
  obtain ⟨v', w', hrun, h2, h3, h4⟩ := Owns.append_sub (P := P) (ty := o.type) hu hi hz h0 hb hr hm h63
  unfold Oper.wp execOp
  simp only [ho, resolve, invoke, builtin, Sem.run_bind, Sem.run_pure, Result.andThen_ok, List.map_toArray, List.map_cons, List.map_nil, hs, hx, hrun]
  exact h v' w' h2 h3 h4
end
end Go.Proofs.Ytfgfejcnkjeghaa.mem
