/-
  egress.Out: whose turn it is, as a pure function of the flows.
-/
import Derived.Test.YtcaloeolmoodbaaEgrIds
import Derived.Test.YtcaloeolmoodbaaDrrFull
namespace Go.Proofs.Ytcaloeolmoodbaa.egr
open Go.RowKit mem Go.Maps
open Go.Proofs.Ytcaloeolmoodbaa.itr
set_option linter.unusedVariables false

/-- the heads of pictures, the oldest sound -/
structure Nx where
  H : drr.Hs
  b : Option Snt
def stepN (L : List Ef) (s : Nx) (id : Int) : Nx :=
  match fnd L id with
  | none => s
  | some f => match f.q.L with
    | [] => s
    | x :: _ => if f.video = true then ⟨s.H ++ [(id, x.size)], s.b⟩ else
      match s.b with
      | none => ⟨s.H, some ⟨id, x⟩⟩
      | some y => if x.tick < y.x.tick then ⟨s.H, some ⟨id, x⟩⟩ else s
def nx (L : List Ef) (l : List Int) : Nx := l.foldl (stepN L) ⟨[], none⟩
theorem nx_take {L : List Ef} {l : List Int} {k : Nat} {id : Int} (h : l[k]? = some id) : nx L (l.take (k + 1)) = stepN L (nx L (l.take k)) id := by
  rw [drr.take_succ' h]
  unfold nx
  rw [List.foldl_append]; rfl
theorem step_ids (L : List Ef) (s : Nx) (id : Int) : drr.ids (stepN L s id).H = drr.ids s.H ∨ drr.ids (stepN L s id).H = drr.ids s.H ++ [id] := by
  unfold stepN
  split
  · exact .inl rfl
  · split
    · exact .inl rfl
    · split
      · exact .inr (drr.ids_snoc _ _)
      · split
        · exact .inl rfl
        · split
          · exact .inl rfl
          · exact .inl rfl
theorem fold_sub (L : List Ef) : ∀ (l : List Int) (s : Nx), (drr.ids (l.foldl (stepN L) s).H).Sublist (drr.ids s.H ++ l)
  | [], s => by simp
  | x :: l, s => by
    have ih := fold_sub L l (stepN L s x)
    rw [List.foldl_cons]
    rcases step_ids L s x with e | e
    · rw [e] at ih
      exact ih.trans (List.Sublist.append_left (List.sublist_cons_self x l) _)
    · rw [e, List.append_assoc] at ih
      exact ih
theorem nx_sub (L : List Ef) (l : List Int) : (drr.ids (nx L l).H).Sublist l := fold_sub L l ⟨[], none⟩
theorem nx_len (L : List Ef) (l : List Int) : (nx L l).H.length ≤ l.length := by
  have := (nx_sub L l).length_le
  unfold drr.ids at this
  rwa [List.length_map] at this
/-- whence the heads come -/
structure Nok (L : List Ef) (s : Nx) : Prop where
  h : ∀ h ∈ s.H, ∃ f ∈ L, f.id = h.1 ∧ f.video = true ∧ ∃ x, f.q.L[0]? = some x ∧ h.2 = x.size
  b : ∀ y, s.b = some y → ∃ f ∈ L, f.id = y.id ∧ f.video = false ∧ f.q.L[0]? = some y.x
theorem Nok.step {L : List Ef} {s : Nx} (k : Nok L s) (id : Int) : Nok L (stepN L s id) := by
  unfold stepN
  split
  · exact k
  next f hf =>
    obtain ⟨h1, h2⟩ := fnd_some hf
    split
    · exact k
    next x l hl =>
      split
      next hv =>
        refine ⟨fun h hh => ?_, k.b⟩
        rcases List.mem_append.1 hh with hh | hh
        · exact k.h h hh
        · simp at hh; subst hh
          exact ⟨f, h1, h2, hv, x, by rw [hl]; rfl, rfl⟩
      next hv =>
        have hn : ∀ y, some (⟨id, x⟩ : Snt) = some y → ∃ f ∈ L, f.id = y.id ∧ f.video = false ∧ f.q.L[0]? = some y.x := fun y hy => by
          injection hy with hy; subst hy
          exact ⟨f, h1, h2, by simpa using hv, by rw [hl]; rfl⟩
        split
        · exact ⟨k.h, hn⟩
        · split
          · exact ⟨k.h, hn⟩
          · exact k
theorem fold_ok (L : List Ef) : ∀ (l : List Int) (s : Nx), Nok L s → Nok L (l.foldl (stepN L) s)
  | [], _, k => k
  | x :: l, s, k => fold_ok L l _ (k.step x)
theorem nx_ok (L : List Ef) (l : List Int) : Nok L (nx L l) := fold_ok L l _ ⟨fun h hh => (by cases hh), fun y hy => (by cases hy)⟩
def sdef : Option Snt → Snt
  | none => ⟨0, ⟨0, 0, 0, false⟩⟩
  | some y => y
/-- whose turn it is; false: nothing waits; the schedule then -/
def nextS (e : Eo) : Int × Bool × drr.Sc :=
  if (nx e.L (idS e.L)).b.isSome = true ∧ (e.row < e.guard ∨ (nx e.L (idS e.L)).H = []) then ((sdef (nx e.L (idS e.L)).b).id, true, e.s)
  else if (nx e.L (idS e.L)).H = [] then (0, false, drr.chooseS [] e.s)
  else ((drr.chooseS (nx e.L (idS e.L)).H e.s).turn, true, drr.chooseS (nx e.L (idS e.L)).H e.s)
theorem Es.ok_heads {w : World} {A : Ad} {k : Nat} {e : Eo} (h : Es w A k e) : drr.Ok e.s (nx e.L (idS e.L)).H := by
  have hk := nx_ok e.L (idS e.L)
  refine ⟨(idS_asc h.ap).sublist (nx_sub _ _), fun x hx => ?_, fun x hx => ?_⟩
  · obtain ⟨f, hf, h1, h2, _⟩ := hk.h x hx
    exact (h.vs x.1).2 ⟨f, hf, h1, h2⟩
  · obtain ⟨f, hf, h1, h2, y, hy, h3⟩ := hk.h x hx
    have hm := List.mem_of_getElem? hy
    rw [h3, h.sm]
    exact ⟨(h.qs f hf).ok.pos y hm, (h.fq f hf).sz y hm⟩
theorem Es.rg_heads {w : World} {A : Ad} {k : Nat} {e : Eo} (h : Es w A k e) : ∀ x ∈ drr.ids (nx e.L (idS e.L)).H, -9223372036854775808 ≤ x ∧ x ≤ 9223372036854775807 := fun x hx => by
  obtain ⟨f, hf, rfl⟩ := (idS_mem _ _).1 ((nx_sub _ _).subset hx)
  exact h.rg f hf
theorem Es.look1 {w : World} {A : Ad} {k : Nat} {e : Eo} (h : Es w A k e) {f : Ef} (hf : f ∈ e.L) : (Instr.lookup MT (.map (some A.mb)) (.int .i64 f.id) false).run Try.prog w = .ok (.pointer (some ⟨f.fb, 0, none⟩)) w := by
  obtain ⟨c, D, _, hm, hr⟩ := h.map
  obtain ⟨v, ps, hrun, hv⟩ := hm.lookup drr.lawI Try.underlying144 (zeroP w) (zd := .lit (.int .i64 (-1))) (zp := []) rfl (drr.keyI (h.rg f hf).1 (h.rg f hf).2)
  rw [hr.at_ f hf] at hv
  rw [drr.ptrE_inv hv] at hrun
  exact hrun
theorem fives {w : World} {p : Nat} {a b c d e : Value} {T : TypeId} (k : Blk w p #[a, b, c, d, e] T) :
    (w.cell? ⟨p, 0, none⟩ = some a ∧ w.cell? ⟨p, 1, none⟩ = some b ∧ w.cell? ⟨p, 2, none⟩ = some c ∧ w.cell? ⟨p, 3, none⟩ = some d ∧ w.cell? ⟨p, 4, none⟩ = some e) ∧ w.frozen? ⟨p, 0, none⟩ = false ∧ w.frozen? ⟨p, 1, none⟩ = false ∧ w.frozen? ⟨p, 2, none⟩ = false ∧ w.frozen? ⟨p, 3, none⟩ = false ∧ w.frozen? ⟨p, 4, none⟩ = false :=
  ⟨⟨k.cell 0, k.cell 1, k.cell 2, k.cell 3, k.cell 4⟩, k.free 0, k.free 1, k.free 2, k.free 3, k.free 4⟩
/-- the schedule turns: the call's own map -/
theorem Es.call {w w' : World} {A : Ad} {k : Nat} {e : Eo} (h : Es w A k e) {s' : drr.Sc} {c2 : Nat} {D2 : DataW Unit} (hc2 : c2 ≤ k) (hss : drr.Ss w A.sp A.smb c2 D2 e.s) (hs' : drr.Ss w' A.sp A.smb c2 D2 s') (t : Turns (drr.Foot A.sp A.smb e.s) w w') (sim : drr.Sim e.s s') : Es w' A k ⟨e.frames, e.bytes, e.age, e.most, e.guard, e.credit, e.row, e.L, s'⟩ := by
  obtain ⟨c, D, hc, hmp, hr⟩ := h.map
  have off : ∀ {r : Nat} {cs : Array Value} {T : TypeId}, Blk w r cs T → T ≠ 117 → T ≠ 121 → ¬ drr.Foot A.sp A.smb e.s r := fun hb h1 h2 hk => by
    rcases hk with e2 | e2 | ⟨f, hf, e2⟩
    · exact blk_ne hb hss.blk h1 e2
    · exact ownsMap_ne hss.map hb e2.symm
    · exact blk_ne hb (hss.fb f hf) h2 e2.symm
  refine ⟨t.blk h.blk (off h.blk (by decide) (by decide)), ⟨c, D, hc, ownsMap_turns hmp t (fun hk => ?_), hr⟩, fun f hf => t.blk (h.fb f hf) (off (h.fb f hf) (by decide) (by decide)), fun f hf => (h.qs f hf).turns t (off (h.qs f hf).blk (by decide) (by decide)) (fun g hg hk => ?_), ⟨c2, D2, hc2, hs'⟩, h.ap, h.mm, h.rg, ⟨h.cf.f0, h.cf.f1, h.cf.b0, h.cf.b1, h.cf.a0, h.cf.a1, h.cf.m0, h.cf.m1, h.cf.g0, h.cf.g1, h.cf.c0, h.cf.c1⟩, fun f hf => ⟨(h.fq f hf).fr, (h.fq f hf).mo, (h.fq f hf).sz⟩, sim.1.trans h.sm, fun id => ?_⟩
  · rcases hk with e2 | e2 | ⟨f, hf, e2⟩
    · exact ownsMap_ne hmp hss.blk e2
    · exact h.mm e2
    · exact ownsMap_ne hmp (hss.fb f hf) e2.symm
  · rcases hk with e2 | e2 | ⟨f', hf', e2⟩
    · exact own_ne (h.qs f hf).own hss.blk (by decide) (by rw [hg, e2])
    · exact ownsMap_ne_row hss.map (h.qs f hf).own g hg e2.symm
    · exact own_ne (h.qs f hf).own (hss.fb f' hf') (by decide) (by rw [hg, e2])
  · rw [← h.vs id]
    obtain ⟨_, F, e2⟩ := sim
    constructor
    · rintro ⟨f, hf, hid⟩
      rw [show (Eo.s ⟨e.frames, e.bytes, e.age, e.most, e.guard, e.credit, e.row, e.L, s'⟩) = s' from rfl, e2] at hf
      obtain ⟨f', hf', rfl⟩ := drr.upd_mem hf
      exact ⟨f', hf', hid⟩
    · rintro ⟨f, hf, hid⟩
      show ∃ f ∈ s'.L, _
      rw [e2]
      exact ⟨_, drr.upd_mem' hf, hid⟩
end Go.Proofs.Ytcaloeolmoodbaa.egr
