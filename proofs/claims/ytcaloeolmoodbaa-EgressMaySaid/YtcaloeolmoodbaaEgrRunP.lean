/-
  egress.Out: what a Run does, item by item. Pure.
-/
import Derived.Test.YtcaloeolmoodbaaEgrSafe
namespace Go.Proofs.Ytcaloeolmoodbaa.egr
open Go.RowKit mem Go.Maps
open Go.Proofs.Ytcaloeolmoodbaa.itr
set_option linter.unusedVariables false

theorem choose_mem {s : drr.Sc} {l : drr.Hs} (hl : l ≠ []) (h : s.ok) (ok : drr.Ok s l) : (drr.chooseS l s).turn ∈ drr.ids l := by
  obtain ⟨h1, h2, h3⟩ := h.fir hl ok
  have hid : drr.ids l ≠ [] := fun e => hl (by unfold drr.ids at e; exact List.map_eq_nil_iff.1 e)
  cases l with
  | nil => exact absurd rfl hl
  | cons x t =>
    show (drr.runS (x :: t) (drr.firS (x :: t) s)).turn ∈ _
    unfold drr.runS
    split
    · rw [(drr.grant_turn _).1]
      exact drr.nextId_mem hid _
    · rw [(drr.grant_turn _).1]
      exact h2
/-- the flow whose turn it is has an item -/
theorem Es.next_flow {w : World} {A : Ad} {k : Nat} {e : Eo} (h : Es w A k e) (hn : (nextS e).2.1 = true) : ∃ f ∈ e.L, f.id = (nextS e).1 ∧ ∃ x, f.q.L[0]? = some x := by
  have hk := nx_ok e.L (idS e.L)
  obtain ⟨c, D, _, hss⟩ := h.sch
  have hok := h.ok_heads
  unfold nextS at hn ⊢
  generalize nx e.L (idS e.L) = s at *
  split
  next h1 =>
    obtain ⟨y, hy⟩ := Option.isSome_iff_exists.1 h1.1
    obtain ⟨f, hf, h2, _, h3⟩ := hk.b y hy
    exact ⟨f, hf, by rw [hy]; exact h2, _, h3⟩
  next h1 =>
    rw [if_neg h1] at hn
    split
    next h2 => rw [if_pos h2] at hn; cases hn
    next h2 =>
      have hm := choose_mem h2 hss.ok hok
      obtain ⟨y, hy, he⟩ := List.mem_map.1 hm
      obtain ⟨f, hf, h3, _, x, h4, _⟩ := hk.h y hy
      exact ⟨f, hf, h3.trans he, x, h4⟩
theorem next_sim (e : Eo) : drr.Sim e.s (nextS e).2.2 := by
  unfold nextS
  split
  · exact drr.Sim.refl _
  · split
    · exact drr.Sim.choose _ _
    · exact drr.Sim.choose _ _
def afterN (e : Eo) : Eo := ⟨e.frames, e.bytes, e.age, e.most, e.guard, e.credit, e.row, e.L, (nextS e).2.2⟩
def goneE (e : Eo) (f : Ef) (x : que.It) (pv : Value) : Eo := countE ⟨e.frames, e.bytes, e.age, e.most, e.guard, e.credit, e.row, setQ e.L f.id pv ⟨f.q.frames, f.q.most, f.q.L.drop 1, f.q.broken⟩, (nextS e).2.2⟩ x.size f.video
inductive Steps : Eo → List Snt → Eo → Prop
  | nil (e : Eo) : Steps e [] e
  | snoc {e : Eo} {l : List Snt} {e1 : Eo} {f : Ef} {x : que.It} (pv : Value) : Steps e l e1 → (nextS e1).2.1 = true → f ∈ e1.L → f.id = (nextS e1).1 → f.q.L[0]? = some x → x.size ≤ e1.credit → Steps e (l ++ [⟨f.id, x⟩]) (goneE e1 f x pv)
/-- a Run: it ends where nothing waits, or where there is no credit for what is next -/
def Ran (e : Eo) (l : List Snt) (e' : Eo) : Prop := ∃ e1, Steps e l e1 ∧ e' = afterN e1 ∧ ((nextS e1).2.1 = false ∨ ∃ f x, (nextS e1).2.1 = true ∧ f ∈ e1.L ∧ f.id = (nextS e1).1 ∧ f.q.L[0]? = some x ∧ e1.credit < x.size)
/-- how many items wait -/
def Tot (L : List Ef) : Nat := (L.map (fun f => f.q.L.length)).sum
theorem tot_same {L : List Ef} {id : Int} {pv : Value} {q : que.Q} (h : ∀ f ∈ L, f.id ≠ id) : setQ L id pv q = L := by
  unfold setQ
  have : ∀ f ∈ L, (if f.id = id then (⟨f.id, f.fb, f.video, f.qb, pv, q⟩ : Ef) else f) = f := fun f hf => if_neg (h f hf)
  rw [List.map_congr_left this, List.map_id']
theorem tot_set {L : List Ef} (h : Ap L) {f : Ef} (hf : f ∈ L) (pv : Value) (q : que.Q) : Tot (setQ L f.id pv q) + f.q.L.length = Tot L + q.L.length := by
  induction L with
  | nil => cases hf
  | cons g l ih =>
    obtain ⟨h1, h2⟩ := List.pairwise_cons.1 h
    have hs : setQ (g :: l) f.id pv q = (if g.id = f.id then (⟨g.id, g.fb, g.video, g.qb, pv, q⟩ : Ef) else g) :: setQ l f.id pv q := rfl
    rcases List.mem_cons.1 hf with e | hf
    · subst e
      have hl : setQ l f.id pv q = l := tot_same (fun y hy e2 => (h1 y hy).1 e2.symm)
      rw [hs, if_pos rfl, hl]
      unfold Tot
      rw [List.map_cons, List.map_cons, List.sum_cons, List.sum_cons]
      show q.L.length + _ + f.q.L.length = f.q.L.length + _ + q.L.length
      omega
    · have hne : ¬ g.id = f.id := fun e2 => (h1 f hf).1 e2
      have := ih h2 hf
      rw [hs, if_neg hne]
      unfold Tot at this ⊢
      rw [List.map_cons, List.map_cons, List.sum_cons, List.sum_cons]
      omega
theorem setQ_idm (L : List Ef) (id : Int) (pv : Value) (q : que.Q) : (setQ L id pv q).map (·.id) = L.map (·.id) := by
  unfold setQ
  rw [List.map_map]
  refine List.map_congr_left (fun f hf => ?_)
  show (if f.id = id then (⟨f.id, f.fb, f.video, f.qb, pv, q⟩ : Ef) else f).id = f.id
  split <;> rfl
theorem setQ_idS (L : List Ef) (id : Int) (pv : Value) (q : que.Q) : idS (setQ L id pv q) = idS L := by unfold idS; rw [setQ_idm]
theorem count_L (e : Eo) (n : Int) (v : Bool) : (countE e n v).L = e.L := by unfold countE; split <;> rfl
theorem count_row (e : Eo) (n : Int) (v : Bool) (h : 0 ≤ e.row) : 0 ≤ (countE e n v).row ∧ (countE e n v).row ≤ e.row + 1 := by
  unfold countE
  split
  · exact ⟨Int.le_refl _, by show (0 : Int) ≤ _; omega⟩
  · exact ⟨by show 0 ≤ e.row + 1; omega, Int.le_refl _⟩
theorem gone_L (e : Eo) (f : Ef) (x : que.It) (pv : Value) : (goneE e f x pv).L = setQ e.L f.id pv ⟨f.q.frames, f.q.most, f.q.L.drop 1, f.q.broken⟩ := count_L _ _ _
theorem gone_row (e : Eo) (f : Ef) (x : que.It) (pv : Value) (h : 0 ≤ e.row) : 0 ≤ (goneE e f x pv).row ∧ (goneE e f x pv).row ≤ e.row + 1 := count_row _ _ _ h
theorem Lo.count {b : Nat} {A : Ad} {e : Eo} (h : Lo b A e) (n : Int) (v : Bool) : Lo b A (countE e n v) := by
  unfold countE
  split
  · exact h.sim (drr.Sim.take _ _)
  · exact ⟨h.o, h.m, h.s, h.t, h.q, h.g⟩
end Go.Proofs.Ytcaloeolmoodbaa.egr
