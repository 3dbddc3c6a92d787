/-
  The reference of layer 20: what its outlet keeps when an item goes out. Pure.
-/
import Derived.Test.YtcppibjllaablaaZEgrR20n
set_option linter.unusedVariables false
set_option linter.unusedSimpArgs false
namespace Go.Proofs.Ytcppibjllaablaa.drr
open Go.RowKit mem
set_option linter.unusedVariables false
theorem choose_ok {s : Sc} {l : Hs} (h : s.ok) (ap : Ap s.L) (ok : Ok s l) (hl : l ≠ []) : (chooseS l s).ok ∧ (chooseS l s).g = true ∧ (chooseS l s).turn ∈ ids l ∧ sizeOf' l (chooseS l s).turn ≤ leftOf (chooseS l s) (chooseS l s).turn := by
  have hfin : chooseS l s = runS l (firS l s) := by cases l with | nil => exact absurd rfl hl | cons _ _ => rfl
  obtain ⟨h1, h2, h3⟩ := h.fir hl ok
  have hsim : Sim s (firS l s) := by
    unfold firS
    split
    · exact Sim.beg s l
    · exact (Sim.beg s l).pass l
  have hap : Ap (firS l s).L := by rw [hsim.2.choose_spec]; exact ap.upd _
  have hid : ids l ≠ [] := by unfold ids; simpa using hl
  have hfl : ∀ x ∈ ids l, ∃ f ∈ (firS l s).L, f.id = x := fun x hx => by
    obtain ⟨y, hy, rfl⟩ := List.mem_map.1 hx
    exact hsim.fl (ok.fl y hy)
  have hsz : ∀ x ∈ ids l, sizeOf' l x ≤ (firS l s).most := fun x hx => by rw [h3]; exact size_most ok hx
  have ht := hfl _ h2
  rw [hfin]
  generalize firS l s = s1 at *
  unfold runS
  split
  next hlow =>
    obtain ⟨g1, g2, g3, g4⟩ := low_facts h1 hap ht hid hfl hsz h2 hlow
    have ht2 : ∃ f ∈ (passS l (grantS s1)).L, f.id = (passS l (grantS s1)).turn := grant_fl (hfl _ g4)
    have hap2 : Ap (passS l (grantS s1)).L := hap.grant
    refine ⟨g2.grant ht2, (grant_turn _).2.2, by rw [(grant_turn _).1]; exact g4, ?_⟩
    rw [(grant_turn _).1]
    refine grant_enough g2 hap2 ht2 rfl ?_
    show _ ≤ (grantS s1).most
    rw [(grant_turn _).2.1]
    exact hsz _ g4
  next hlow =>
    refine ⟨h1.grant ht, (grant_turn _).2.2, by rw [(grant_turn _).1]; exact h2, ?_⟩
    rw [(grant_turn _).1]
    have : ¬ (leftOf (grantS s1) s1.turn < sizeOf' l s1.turn) := fun hc => hlow (decide_eq_true hc)
    omega
theorem choose_nil_ok {s : Sc} (h : s.ok) : (chooseS [] s).ok := by
  refine ⟨h.m0, h.m1, fun g hg => ?_, fun e => by cases e⟩
  obtain ⟨f, hf, rfl⟩ := upd_mem hg
  obtain ⟨h1, h2, h3, h4, h5⟩ := h.f f hf
  have hm := h.m0
  have e : forgetF [] f = 0 := by unfold forgetF; rw [if_neg]; exact fun h => by cases h
  show s.most ≤ f.share ∧ f.share ≤ 16777216 ∧ 0 ≤ forgetF [] f ∧ forgetF [] f < s.most + f.share ∧ (f.id ≠ s.turn ∨ false = false → forgetF [] f < s.most)
  rw [e]
  exact ⟨h1, h2, Int.le_refl _, by omega, fun _ => by omega⟩
theorem Sim.sasc {s s' : Sc} (h : Sim s s') (ha : SAsc s.L) : SAsc s'.L := by
  rw [h.2.choose_spec]; exact ha.upd _
theorem Sim.ap {s s' : Sc} (h : Sim s s') (ha : Ap s.L) : Ap s'.L := by
  rw [h.2.choose_spec]; exact ha.upd _
theorem Sim.len {s s' : Sc} (h : Sim s s') : s'.L.length = s.L.length := by
  rw [h.2.choose_spec]; unfold upd; rw [List.length_map]
theorem Sim.iff {s s' : Sc} (h : Sim s s') (id : Int) : (∃ f ∈ s'.L, f.id = id) ↔ ∃ f ∈ s.L, f.id = id := by
  constructor
  · rintro ⟨f, hf, e⟩
    rw [h.2.choose_spec] at hf
    obtain ⟨g, hg, rfl⟩ := upd_mem hf
    exact ⟨g, hg, e⟩
  · exact h.fl
end Go.Proofs.Ytcppibjllaablaa.drr
namespace Go.Proofs.Ytcppibjllaablaa.egr
open Go.RowKit mem
set_option linter.unusedVariables false
/-- what the document's outlet keeps -/
structure Pd (L : List Rf) (r : Eo) : Prop where
  e : r.L = L.map toE
  asc : RAsc L
  ok : ∀ f ∈ L, f.q.ok
  fq : ∀ f ∈ L, Fq r (toE f)
  cf : Cf r
  sok : r.s.ok
  sa : drr.SAsc r.s.L
  sp : drr.Ap r.s.L
  sm : r.s.most = r.most
  vs : ∀ id, (∃ g ∈ r.s.L, g.id = id) ↔ ∃ f ∈ L, f.id = id ∧ f.video = true
theorem nxR_all (L : List Rf) : nxR L L.length = nx (L.map toE) (L.map (·.id)) := by
  unfold nxR
  rw [show L.length = (L.map (·.id)).length by rw [List.length_map], List.take_length]
theorem nxR_ok (L : List Rf) : Nok (L.map toE) (nxR L L.length) := by rw [nxR_all]; exact nx_ok _ _
section
variable {L : List Rf} {r : Eo}
theorem Pd.heads (p : Pd L r) : drr.Ok r.s (nxR L L.length).H := by
  have hk := nxR_ok L
  refine ⟨?_, fun x hx => ?_, fun x hx => ?_⟩
  · rw [nxR_all]; exact p.asc.sublist (nx_sub _ _)
  · obtain ⟨f, hf, h1, h2, _⟩ := hk.h x hx
    obtain ⟨g, hg, rfl⟩ := List.mem_map.1 hf
    exact (p.vs x.1).2 ⟨g, hg, h1, h2⟩
  · obtain ⟨f, hf, h1, h2, y, hy, h3⟩ := hk.h x hx
    obtain ⟨g, hg, rfl⟩ := List.mem_map.1 hf
    have hm : y ∈ g.q.L := List.mem_of_getElem? hy
    rw [h3, p.sm]
    exact ⟨(p.ok g hg).pos y hm, (p.fq g hg).sz y hm⟩
theorem RAsc.eq {L : List Rf} (h : RAsc L) {f g : Rf} (hf : f ∈ L) (hg : g ∈ L) (e : f.id = g.id) : f = g := by
  obtain ⟨i, hi, e1⟩ := List.getElem_of_mem hf
  obtain ⟨j, hj, e2⟩ := List.getElem_of_mem hg
  have h1 : L[i]? = some f := by rw [List.getElem?_eq_getElem hi, e1]
  have h2 : L[j]? = some g := by rw [List.getElem?_eq_getElem hj, e2]
  have := h.inj h1 h2 e
  subst this
  rw [h1] at h2
  injection h2
theorem Pd.next (p : Pd L r) : (nextI (L.map (·.id)) r).2.2.ok ∧ drr.Sim r.s (nextI (L.map (·.id)) r).2.2 := by
  unfold nextI
  rw [nx_all p.e]
  split
  · exact ⟨p.sok, drr.Sim.refl _⟩
  · split
    · exact ⟨drr.choose_nil_ok p.sok, drr.Sim.choose _ _⟩
    next hH => exact ⟨(drr.choose_ok p.sok p.sp p.heads hH).1, drr.Sim.choose _ _⟩
theorem Pd.after (p : Pd L r) : Pd L (afterI (L.map (·.id)) r) := by
  obtain ⟨h1, h2⟩ := p.next
  exact ⟨p.e, p.asc, p.ok, fun f hf => ⟨(p.fq f hf).fr, (p.fq f hf).mo, (p.fq f hf).sz⟩, ⟨p.cf.f0, p.cf.f1, p.cf.b0, p.cf.b1, p.cf.a0, p.cf.a1, p.cf.m0, p.cf.m1, p.cf.g0, p.cf.g1, p.cf.c0, p.cf.c1⟩, h1, h2.sasc p.sa, h2.ap p.sp, h2.1.trans p.sm, fun id => (h2.iff id).trans (p.vs id)⟩
/-- whose turn it is has an item -/
theorem Pd.item (p : Pd L r) (hn : (nextI (L.map (·.id)) r).2.1 = true) : ∃ (i : Nat) (f : Rf) (x : que.It), L[i]? = some f ∧ f.id = (nextI (L.map (·.id)) r).1 ∧ f.q.L[0]? = some x ∧ (f.video = true → (nextI (L.map (·.id)) r).2.2.g = true ∧ (nextI (L.map (·.id)) r).2.2.turn = f.id ∧ ∃ (j : Nat) (g : drr.Fl), (nextI (L.map (·.id)) r).2.2.L[j]? = some g ∧ g.id = f.id ∧ x.size ≤ g.left ∧ g.left ≤ 1099511627776) := by
  have hk := nxR_ok L
  have hs := p.next
  unfold nextI at hn hs ⊢
  rw [nx_all p.e] at hn hs ⊢
  split
  next h1 =>
    obtain ⟨y, hy⟩ := Option.isSome_iff_exists.1 h1.1
    obtain ⟨f, hf, h2, h3, h4⟩ := hk.b y hy
    obtain ⟨g, hg, rfl⟩ := List.mem_map.1 hf
    obtain ⟨i, hi, e⟩ := List.getElem_of_mem hg
    refine ⟨i, g, y.x, by rw [List.getElem?_eq_getElem hi, e], by rw [hy]; exact h2, h4, fun hv => ?_⟩
    rw [show g.video = false from h3] at hv; cases hv
  next h1 =>
    rw [if_neg h1] at hn hs
    split
    next h2 => rw [if_pos h2] at hn; cases hn
    next h2 =>
      rw [if_neg h2] at hs
      obtain ⟨c1, c2, c3, c4⟩ := drr.choose_ok p.sok p.sp p.heads h2
      have c5 := drr.sizeOf_mem c3
      obtain ⟨f, hf, h3, h4, x, h5, h6⟩ := hk.h _ c5
      obtain ⟨g, hg, rfl⟩ := List.mem_map.1 hf
      obtain ⟨i, hi, e⟩ := List.getElem_of_mem hg
      have h3' : g.id = (drr.chooseS (nxR L L.length).H r.s).turn := h3
      refine ⟨i, g, x, by rw [List.getElem?_eq_getElem hi, e], h3, h5, fun _ => ⟨c2, h3'.symm, ?_⟩⟩
      obtain ⟨k, hk1, hk2⟩ := c1.t c2
      obtain ⟨j, hj⟩ := drr.mem_at hk1
      have hl : drr.leftOf (drr.chooseS (nxR L L.length).H r.s) (drr.chooseS (nxR L L.length).H r.s).turn = k.left := by
        rw [← hk2]; exact drr.left_at (hs.2.ap p.sp) hj
      rw [hl] at c4
      obtain ⟨_, d2, _, d4, _⟩ := c1.f k hk1
      have d5 := c1.m1
      exact ⟨j, k, hj, hk2.trans h3'.symm, by rw [← show _ = x.size from h6]; exact c4, by omega⟩
/-- the outlet behind an item that goes out -/
theorem Pd.gone (p : Pd L r) {i : Nat} {f : Rf} {x : que.It} (hf : L[i]? = some f) (hx : f.q.L[0]? = some x) (hcr : x.size ≤ r.credit) (ao : Option Addr) (c : Nat) : Pd (L.set i (f.with ⟨f.q.frames, f.q.most, f.q.L.drop 1, f.q.broken⟩ ao c)) (goneI (L.map (·.id)) r (toE f) x) := by
  obtain ⟨h1, h2⟩ := p.next
  have hm := List.mem_of_getElem? hf
  have hxm := List.mem_of_getElem? hx
  have x0 := (p.ok f hm).pos x hxm
  have hset := toE_set p.asc hf ⟨f.q.frames, f.q.most, f.q.L.drop 1, f.q.broken⟩ ao c
  rw [← p.e] at hset
  have hq : ∀ g ∈ L.set i (f.with ⟨f.q.frames, f.q.most, f.q.L.drop 1, f.q.broken⟩ ao c), g.q.ok ∧ g.q.frames = r.frames ∧ g.q.most = r.bytes ∧ ∀ y ∈ g.q.L, y.size ≤ r.most := fun g hg => by
    rcases List.mem_or_eq_of_mem_set hg with hg | hg
    · exact ⟨p.ok g hg, (p.fq g hg).fr, (p.fq g hg).mo, (p.fq g hg).sz⟩
    · rw [hg]
      exact ⟨(p.ok f hm).drop 1 _, (p.fq f hm).fr, (p.fq f hm).mo, fun y hy => (p.fq f hm).sz y (List.mem_of_mem_drop hy)⟩
  have hv : ∀ id, (∃ g ∈ r.s.L, g.id = id) ↔ ∃ g ∈ L.set i (f.with ⟨f.q.frames, f.q.most, f.q.L.drop 1, f.q.broken⟩ ao c), g.id = id ∧ g.video = true := fun id => by
    rw [p.vs id]
    have hlt := (List.getElem?_eq_some_iff.1 hf).1
    constructor
    · rintro ⟨g, hg, e1, e2⟩
      by_cases e3 : g.id = f.id
      · have := p.asc.eq hg hm e3
        subst this
        exact ⟨g.with ⟨g.q.frames, g.q.most, g.q.L.drop 1, g.q.broken⟩ ao c, List.mem_of_getElem? (i := i) (by rw [List.getElem?_set, if_pos rfl, if_pos hlt]), e1, e2⟩
      · obtain ⟨j, hj, e4⟩ := List.getElem_of_mem hg
        refine ⟨g, ?_, e1, e2⟩
        have hji : ¬ i = j := fun e5 => by
          subst e5
          rw [List.getElem?_eq_getElem hj, e4] at hf
          injection hf with hf
          exact e3 (by rw [hf])
        exact List.mem_of_getElem? (by rw [List.getElem?_set, if_neg hji, List.getElem?_eq_getElem hj, e4])
    · rintro ⟨g, hg, e1, e2⟩
      rcases List.mem_or_eq_of_mem_set hg with hg | hg
      · exact ⟨g, hg, e1, e2⟩
      · rw [hg] at e1 e2
        exact ⟨f, hm, e1, e2⟩
  have hcf : ∀ row (s : drr.Sc), Cf ⟨r.frames, r.bytes, r.age, r.most, r.guard, r.credit - x.size, row, setQ r.L f.id (.slice none 0 0) ⟨f.q.frames, f.q.most, f.q.L.drop 1, f.q.broken⟩, s⟩ := fun row s => ⟨p.cf.f0, p.cf.f1, p.cf.b0, p.cf.b1, p.cf.a0, p.cf.a1, p.cf.m0, p.cf.m1, p.cf.g0, p.cf.g1, by show 0 ≤ r.credit - x.size; omega, by have := p.cf.c1; show r.credit - x.size ≤ _; omega⟩
  unfold goneI countE
  split
  · have h3 := h2.trans (drr.Sim.take (nextI (L.map (·.id)) r).2.2 x.size)
    exact ⟨hset.symm, p.asc.set hf _ _ _, fun g hg => (hq g hg).1, fun g hg => ⟨(hq g hg).2.1, (hq g hg).2.2.1, (hq g hg).2.2.2⟩, hcf _ _, h1.take (h2.ap p.sp) _, h3.sasc p.sa, h3.ap p.sp, h3.1.trans p.sm, fun id => (h3.iff id).trans (hv id)⟩
  · exact ⟨hset.symm, p.asc.set hf _ _ _, fun g hg => (hq g hg).1, fun g hg => ⟨(hq g hg).2.1, (hq g hg).2.2.1, (hq g hg).2.2.2⟩, hcf _ _, h1, h2.sasc p.sa, h2.ap p.sp, h2.1.trans p.sm, fun id => (h2.iff id).trans (hv id)⟩
/-- how many items wait -/
def TotR (L : List Rf) : Nat := (L.map (fun f => f.q.L.length)).sum
theorem TotR.eq {L : List Rf} : TotR L = Tot (L.map toE) := by unfold TotR Tot; rw [List.map_map]; rfl
theorem set_ids {L : List Rf} (ha : RAsc L) {i : Nat} {f : Rf} (hf : L[i]? = some f) (q : que.Q) (ao : Option Addr) (c : Nat) : (L.set i (f.with q ao c)).map (·.id) = L.map (·.id) := by
  rw [List.map_set]
  have hlt := (List.getElem?_eq_some_iff.1 hf).1
  have e : (f.with q ao c).id = (L.map (·.id))[i]'(by rw [List.length_map]; exact hlt) := by
    rw [List.getElem_map]
    have := (List.getElem?_eq_some_iff.1 hf).2
    rw [this]; rfl
  rw [e, List.set_getElem_self]
theorem sum_set (l : List Nat) (i a b : Nat) (h : l[i]? = some a) : (l.set i b).sum + a = l.sum + b := by
  induction l generalizing i with
  | nil => simp at h
  | cons x l ih =>
    cases i with
    | zero =>
      have : x = a := by simpa using h
      subst this
      rw [List.set_cons_zero, List.sum_cons, List.sum_cons]; omega
    | succ i =>
      have := ih i (by simpa using h)
      rw [List.set_cons_succ, List.sum_cons, List.sum_cons]; omega
theorem TotR.set {L : List Rf} {i : Nat} {f : Rf} (hf : L[i]? = some f) (q : que.Q) (ao : Option Addr) (c : Nat) : TotR (L.set i (f.with q ao c)) + f.q.L.length = TotR L + q.L.length := by
  unfold TotR
  rw [List.map_set]
  exact sum_set _ i _ _ (by rw [List.getElem?_map, hf]; rfl)
end
/-! ### a Run as a function of the outlet, places and all -/
def stepX (ids : List Int) (e : Eo) : Option (Snt × Eo) :=
  if (nextI ids e).2.1 = true then
    match fnd e.L (nextI ids e).1 with
    | none => none
    | some f => match f.q.L with
      | [] => none
      | x :: _ => if e.credit < x.size then none else some (⟨f.id, x⟩, goneI ids e f x)
  else none
def runX (ids : List Int) : Nat → Eo → List Snt × Eo
  | 0, e => ([], afterI ids e)
  | n + 1, e => match stepX ids e with
    | none => ([], afterI ids e)
    | some (s, e') => (s :: (runX ids n e').1, (runX ids n e').2)
theorem stepR_X (ids : List Int) (e : Eo) : stepR ids e = (stepX ids e).map (fun p => (p.1, eE p.2)) := by
  unfold stepR stepX
  split
  · cases fnd e.L (nextI ids e).1 with
    | none => rfl
    | some f =>
      dsimp only
      cases f.q.L with
      | nil => rfl
      | cons x l =>
        dsimp only
        split
        · rfl
        · rfl
  · rfl
theorem Rq.runX {e r : Eo} (h : Rq e r) (ids : List Int) : ∀ n, (egr.runR ids n e).1 = (egr.runX ids n r).1 ∧ Rq (egr.runR ids n e).2 (egr.runX ids n r).2 := by
  intro n
  induction n generalizing e r with
  | zero => exact ⟨rfl, h.afterI ids⟩
  | succ n ih =>
    unfold egr.runR egr.runX
    have hx := stepR_X ids r
    rcases h.stepR ids with ⟨e1, e2⟩ | ⟨s, e', r', e1, e2, e3⟩
    · rw [e2] at hx
      cases hs : stepX ids r with
      | some p => rw [hs] at hx; cases hx
      | none => rw [e1]; exact ⟨rfl, h.afterI ids⟩
    · rw [e2] at hx
      cases hs : stepX ids r with
      | none => rw [hs] at hx; cases hx
      | some p =>
        rw [hs] at hx
        injection hx with hx
        injection hx with h1 h2
        rw [e1]
        obtain ⟨p1, p2⟩ := p
        have h1' : s = p1 := h1
        have h2' : r' = egr.eE p2 := h2
        subst h1' h2'
        obtain ⟨k1, k2⟩ := ih (e3.trans (Rq.eE p2))
        exact ⟨by show s :: _ = s :: _; rw [k1], k2⟩
theorem runX_none {ids : List Int} {e : Eo} (h : stepX ids e = none) (m : Nat) : runX ids m e = ([], afterI ids e) := by
  cases m with
  | zero => rfl
  | succ m => unfold runX; rw [h]
theorem runX_some {ids : List Int} {e e' : Eo} {s : Snt} (h : stepX ids e = some (s, e')) (m : Nat) : runX ids (m + 1) e = (s :: (runX ids m e').1, (runX ids m e').2) := by
  rw [show runX ids (m + 1) e = (match stepX ids e with | none => ([], afterI ids e) | some (s, e') => (s :: (runX ids m e').1, (runX ids m e').2)) from rfl, h]
/-- a Run so far -/
structure Sofar (ids : List Int) (r : Eo) (o : List Snt) (rk : Eo) : Prop where
  so : ∀ m, runX ids (o.length + m) r = (o ++ (runX ids m rk).1, (runX ids m rk).2)
theorem Sofar.start (ids : List Int) (r : Eo) : Sofar ids r [] r := ⟨fun m => by simp⟩
theorem Sofar.step {ids : List Int} {r rk e' : Eo} {o : List Snt} {s : Snt} (h : Sofar ids r o rk) (hs : stepX ids rk = some (s, e')) : Sofar ids r (o ++ [s]) e' := ⟨fun m => by
  rw [List.length_append, List.length_singleton, Nat.add_assoc, h.so, Nat.add_comm 1 m, runX_some hs]
  simp⟩
theorem Sofar.end_ {ids : List Int} {r rk : Eo} {o : List Snt} (h : Sofar ids r o rk) (hs : stepX ids rk = none) {n : Nat} (hn : o.length ≤ n) : runX ids n r = (o, afterI ids rk) := by
  have := h.so (n - o.length)
  rw [runX_none hs, show o.length + (n - o.length) = n by omega, List.append_nil] at this
  exact this
section
variable {L : List Rf} {r : Eo}
theorem Pd.stepX_no (p : Pd L r) (hn : (nextI (L.map (·.id)) r).2.1 = false) : stepX (L.map (·.id)) r = none := by
  unfold stepX
  rw [if_neg (by rw [hn]; decide)]
theorem Pd.fnd (p : Pd L r) {i : Nat} {f : Rf} (hf : L[i]? = some f) : egr.fnd r.L f.id = some (toE f) := by
  rw [p.e]; exact fnd20 p.asc hf
theorem Pd.stepX_low (p : Pd L r) {i : Nat} {f : Rf} {x : que.It} (hn : (nextI (L.map (·.id)) r).2.1 = true) (hf : L[i]? = some f) (hid : f.id = (nextI (L.map (·.id)) r).1) (hx : f.q.L[0]? = some x) (hc : r.credit < x.size) : stepX (L.map (·.id)) r = none := by
  unfold stepX
  rw [if_pos hn, ← hid, p.fnd hf]
  show (match f.q.L with | [] => none | y :: _ => _) = _
  cases hq : f.q.L with
  | nil => rfl
  | cons y t =>
    rw [hq] at hx
    obtain rfl : y = x := by simpa using hx
    show (if r.credit < y.size then none else _) = _
    rw [if_pos hc]
theorem Pd.stepX_go (p : Pd L r) {i : Nat} {f : Rf} {x : que.It} (hn : (nextI (L.map (·.id)) r).2.1 = true) (hf : L[i]? = some f) (hid : f.id = (nextI (L.map (·.id)) r).1) (hx : f.q.L[0]? = some x) (hc : x.size ≤ r.credit) : stepX (L.map (·.id)) r = some (⟨f.id, x⟩, goneI (L.map (·.id)) r (toE f) x) := by
  unfold stepX
  rw [if_pos hn, ← hid, p.fnd hf]
  show (match f.q.L with | [] => none | y :: _ => _) = _
  cases hq : f.q.L with
  | nil => rw [hq] at hx; cases hx
  | cons y t =>
    rw [hq] at hx
    obtain rfl : y = x := by simpa using hx
    show (if r.credit < y.size then none else _) = _
    rw [if_neg (by omega)]
    rfl
end
end Go.Proofs.Ytcppibjllaablaa.egr
