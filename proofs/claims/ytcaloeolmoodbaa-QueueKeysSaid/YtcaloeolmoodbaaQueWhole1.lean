/-
  QueueWhole: what its loops keep.
-/
import Derived.Test.YtcaloeolmoodbaaQueSame
import Derived.Test.YtcaloeolmoodbaaMapU
import Derived.Test.YtcaloeolmoodbaaQactRow
namespace Go.Proofs.Ytcaloeolmoodbaa.que
open Go.RowKit mem Go.Maps
set_option linter.unusedVariables false

theorem law50 : Keyed Try.prog 3 := int_keyed Try.underlying3
theorem zeroI (w : World) : (zeroValue 3).run Try.prog w = .ok (.int .i64 0) w := by kernel_rfl
theorem keyI {n : Int} (n0 : -9223372036854775808 ≤ n) (n1 : n ≤ 9223372036854775807) : keyOf Try.prog 3 (.int .i64 n) = some (.int .i64 n) :=
  keyOf_int_mk Try.underlying3 (by simp [Lit.wf, IntKind.min, IntKind.max, IntKind.bits, IntKind.signed]; omega)

theorem elem1 : plainElem (H := Unit) Try.prog 3 (.int .i64 1) = some (.lit (.int .i64 1), []) := plainElem_int Try.underlying3 (by simp [Lit.wf, IntKind.min, IntKind.max, IntKind.bits, IntKind.signed])

def fre (D : DataW Unit) (m : Int) : Prop := D.atKey (.int .i64 m) (.lit (.int .i64 0)) = .lit (.int .i64 0)
def put1 (D : DataW Unit) (m : Int) : DataW Unit := D.put (.int .i64 m) (.lit (.int .i64 1))
theorem fre_put {D : DataW Unit} {m m' : Int} (h : fre D m') (hne : m' ≠ m) : fre (put1 D m) m' := by
  unfold fre put1
  rw [atKey_put_other (fun e => hne (by injection e))]
  exact h
theorem one_put {D : DataW Unit} {m : Int} (hD : IsMap D) : (put1 D m).atKey (.int .i64 m) (.lit (.int .i64 0)) = .lit (.int .i64 1) := by
  unfold put1
  rw [atKey_put_same hD (show WideAt.IsKeyLit (.int .i64 m) from trivial)]
theorem fre_empty (m : Int) : fre (.map []) m := rfl

/-- the numbers rise -/
def inc : List It → Prop
  | [] => True
  | x :: l => (∀ y ∈ l, x.n < y.n) ∧ inc l
theorem inc.drop : ∀ (l : List It) (n : Nat), inc l → inc (l.drop n)
  | [], n, h => by simpa using h
  | x :: l, 0, h => h
  | x :: l, n + 1, h => inc.drop l n h.2
theorem inc.snoc : ∀ (l : List It) (x : It), inc l → (∀ y ∈ l, y.n < x.n) → inc (l ++ [x])
  | [], x, _, _ => ⟨fun y hy => by simp at hy, trivial⟩
  | z :: l, x, h, hx => ⟨fun y hy => by
      rcases List.mem_append.1 hy with hy | hy
      · exact h.1 y hy
      · simp at hy; subst hy; exact hx z List.mem_cons_self, inc.snoc l x h.2 (fun y hy => hx y (List.mem_cons_of_mem _ hy))⟩
theorem inc.at' : ∀ (l : List It) (j : Nat) (x : It), inc l → l[j]? = some x → ∀ y ∈ l.drop (j + 1), x.n < y.n
  | [], j, x, _, hx => by simp at hx
  | z :: l, 0, x, h, hx => by
    simp at hx; subst hx
    exact h.1
  | z :: l, j + 1, x, h, hx => inc.at' l j x h.2 (by simpa using hx)

/-- items that leave: j of Ld are counted, rest stays -/
structure In (D : DataW Unit) (Ld rest : List It) (j : Nat) (K : Int) : Prop where
  inc : inc (Ld ++ rest)
  fr : ∀ x ∈ (Ld ++ rest).drop j, fre D x.n
  fut : ∀ m : Int, K < m → fre D m
  hi : ∀ x ∈ Ld, x.n ≤ K
theorem In.step {D : DataW Unit} {Ld rest : List It} {j : Nat} {K : Int} (h : In D Ld rest j K) {x : It} (hx : Ld[j]? = some x) : In (put1 D x.n) Ld rest (j + 1) K := by
  have hxl : (Ld ++ rest)[j]? = some x := by rw [List.getElem?_append_left (List.getElem?_eq_some_iff.1 hx).1]; exact hx
  have hxK := h.hi x (List.mem_of_getElem? hx)
  refine ⟨h.inc, fun y hy => ?_, fun m hm => fre_put (h.fut m hm) (by omega), h.hi⟩
  have h1 := inc.at' _ j x h.inc hxl y hy
  refine fre_put (h.fr y ?_) (by omega)
  rw [show j + 1 = j + 1 from rfl, ← List.drop_drop] at hy
  exact List.mem_of_mem_drop hy
theorem In.now {D : DataW Unit} {Ld rest : List It} {j : Nat} {K : Int} (h : In D Ld rest j K) {x : It} (hx : Ld[j]? = some x) : fre D x.n := by
  have hxl : (Ld ++ rest)[j]? = some x := by rw [List.getElem?_append_left (List.getElem?_eq_some_iff.1 hx).1]; exact hx
  obtain ⟨hlt, e⟩ := List.getElem?_eq_some_iff.1 hxl
  refine h.fr x ?_
  rw [List.drop_eq_getElem_cons hlt, e]
  exact List.mem_cons_self

/-- the memory of the law -/
structure Ww (w wr : World) (ps p mb : Nat) (pv : Value) (q : Q) (C : List Value) (mn : Nat) (D : DataW Unit) : Prop where
  qs : Qs wr p pv q
  box : Blk wr ps C.toArray TS
  map : wr.ownsMap Try.prog 3 (plainElem Try.prog 3) mb mn D
  n : New w wr
  p0 : w.heap.size ≤ p
  v0 : ∀ g, pv.ownBlock = some g → w.heap.size ≤ g
  s0 : w.heap.size ≤ ps
  m0 : w.heap.size ≤ mb
  sp : ps ≠ p ∧ pv.ownBlock ≠ some ps
section
variable {w wr w2 : World} {ps p mb mn : Nat} {pv : Value} {q : Q} {C : List Value} {D : DataW Unit}
theorem Ww.later (h : Ww w wr ps p mb pv q C mn D) (n : New wr w2) : Ww w w2 ps p mb pv q C mn D :=
  ⟨h.qs.later n, n.blk h.box (fun h => h), ownsMap_turns h.map n (fun h => h), h.n.trans (n.mono (fun _ _ h => h.elim)), h.p0, h.v0, h.s0, h.m0, h.sp⟩
theorem Ww.put (h : Ww w wr ps p mb pv q C mn D) {D' : DataW Unit} {mn' : Nat} (hm : w2.ownsMap Try.prog 3 (plainElem Try.prog 3) mb mn' D') (hg : wr.grownBy w2 (some mb)) : Ww w w2 ps p mb pv q C mn' D' := by
  have t : Turns (· = mb) wr w2 := (Turns.of_grown hg).mono (fun k _ hk => by injection hk)
  have h1 := ownsMap_ne h.map h.qs.blk
  have h2 := ownsMap_ne h.map h.box
  have h3 := ownsMap_ne_row h.map h.qs.own
  exact ⟨h.qs.turns t (fun e => h1 e.symm) (fun g hg e => h3 g hg e.symm), t.blk h.box (fun e => h2 e.symm), hm, h.n.trans (t.mono (fun i _ hi => .inr (by rw [hi]; exact h.m0))), h.p0, h.v0, h.s0, h.m0, h.sp⟩
theorem Ww.lft (h : Ww w wr ps p mb pv q C mn D) {q' : Q} (hl : Lft wr w2 p pv q') : ∃ pv', Ww w w2 ps p mb pv' q' C mn D := by
  obtain ⟨⟨pv', hq, hloc⟩, ht⟩ := hl
  have h1 := ownsMap_ne h.map h.qs.blk
  have h3 := ownsMap_ne_row h.map h.qs.own
  have hps := h.box.lt
  have hs := h.n.size
  refine ⟨pv', hq, ht.blk h.box (fun e => by rcases e with e | e; exact h.sp.1 e; exact h.sp.2 e), ownsMap_turns h.map ht (fun e => by rcases e with e | e; exact h1 e; exact h3 mb e rfl), h.n.trans (ht.mono (fun i _ hi => .inr (by rcases hi with hi | hi; rw [hi]; exact h.p0; exact h.v0 i hi))), h.p0, fun g hg => ?_, h.s0, h.m0, ⟨h.sp.1, fun e => ?_⟩⟩
  · rcases hloc with e | ⟨g', e, hg'⟩
    · exact h.v0 g (e ▸ hg)
    · rw [e] at hg; injection hg with hg; omega
  · rcases hloc with e2 | ⟨g', e2, hg'⟩
    · exact h.sp.2 (e2 ▸ e)
    · rw [e2] at e; injection e with e; omega
end
end Go.Proofs.Ytcaloeolmoodbaa.que
