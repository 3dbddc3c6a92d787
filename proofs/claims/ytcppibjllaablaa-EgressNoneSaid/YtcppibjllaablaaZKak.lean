/-
  Parts of the proof, one behind the other.
-/
import Derived.Test.YtcppibjllaablaaZEgrLoop
set_option linter.unusedVariables false
set_option linter.unusedSimpArgs false
/-
  Layer 20's laws: more of what their loops keep.
-/
namespace Go.Proofs.Ytcppibjllaablaa.egr
open Go.RowKit mem
set_option linter.unusedVariables false

section
variable {w wr w2 : World} {ps p : Nat} {A : Ad} {k : Nat} {e r : Eo} {vL vS : Value} {L : List Rf} {now n : Int} {i : Nat} {cs : Array Value}
/-- a block of the law's own turns -/
theorem Lq.aside (h : Lq w wr ps A k e vL vS L r now n i) {T : TypeId} (hb : Blk wr p cs T) (hp : w.heap.size ≤ p) (hps : p ≠ ps) (t : Turns (· = p) wr w2) (a1 : T ≠ OB) (a2 : T ≠ 108) (a3 : T ≠ 37) (a4 : T ≠ 111) (a5 : T ≠ 115) (a6 : T ≠ GB) (a7 : FT ≠ T) (a8 : que.OT ≠ T) (a9 : drr.GT ≠ T) : Lq w w2 ps A k e vL vS L r now n i := by
  have d := h.dv
  refine ⟨⟨⟨d.ru.es.off hb t a1 a2 a3 a4 a5 a6, d.ru.lo, d.ru.sf.grow (Nat.le_refl _) (t.mono (fun i _ hi => by rw [hi]; exact hp))⟩, ⟨d.ro.l.turns t (fun y hy e => d.ro.l.off hb a7 (by rw [hy, e])), fun f hf => (d.ro.q f hf).turns t (fun y hy e => (d.ro.q f hf).off hb a8 (by rw [hy, e])), d.ro.s.turns t (fun y hy e => d.ro.s.off hb a9 (by rw [hy, e])), d.ro.e, fun f hf => Nat.lt_of_lt_of_le (d.ro.b f hf) t.size⟩, d.asc, d.sa, d.sp, d.rq, d.tk⟩, h.dc, t.blk h.box (fun e => hps e.symm), h.p0⟩
end
/-! ### what an act leaves of the credit -/
theorem TSteps.credit {now : Int} {e : Eo} {l : List Int} {o : List Snt} {e' : Eo} (k : TSteps now e l o e') : e'.credit = e.credit := by
  induction k with
  | nil => rfl
  | snoc pv k1 hf ih => exact ih
theorem runX_none0 {L : List Rf} {r : Eo} (p : Pd L r) (hc : r.credit = 0) (m : Nat) : (runX (L.map (·.id)) m r).2.credit = 0 ∧ ∀ s ∈ (runX (L.map (·.id)) m r).1, s.x.size = 0 := by
  obtain ⟨Lk, rk, _, _, h3, h4, _⟩ := runX_ind (fun _ r o => r.credit = 0 ∧ ∀ s ∈ o, s.x.size = 0) (L.map (·.id)) (fun L r o i f x g h => by
    have h1 := (g.pu.ok f (List.mem_of_getElem? g.at_)).pos x (List.mem_of_getElem? g.hd)
    have h2 := g.cr
    have h3 := h.1
    have hx : x.size = 0 := by omega
    refine ⟨by rw [goneI_credit]; omega, fun s hs => ?_⟩
    rcases List.mem_append.1 hs with hs | hs
    · exact h.2 s hs
    · rw [List.mem_singleton.1 hs]; exact hx) m L r [] p rfl ⟨hc, fun s hs => by cases hs⟩
  rw [h4]
  exact ⟨h3.1, h3.2⟩
theorem ActR.none0 {now n : Int} {a : Arg} {L L' : List Rf} {r r' : Eo} {now' n' : Int} {o : List Snt} (h : ActR now n a L r L' r' now' n' o) (p : Pd L r) (hk : a.kd ≠ 2) (hc : r.credit = 0) : r'.credit = 0 ∧ ∀ s ∈ o, s.x.size = 0 := by
  cases h with
  | no n' h1 h2 h3 => exact ⟨hc, fun s hs => by cases hs⟩
  | put ao c h1 h2 h3 h4 => exact ⟨hc, fun s hs => by cases hs⟩
  | cred c h1 h2 => exact absurd h1 hk
  | run h1 h2 h3 =>
    have := runX_none0 p hc (TotR L)
    rw [h2] at this
    exact this
  | tick h1 h2 => exact ⟨h2.credit.trans hc, fun s hs => by cases hs⟩
  | add s h1 h2 => exact ⟨hc, fun s hs => by cases hs⟩
  | rem s h1 h2 h3 => exact ⟨hc, fun s hs => by cases hs⟩
  | brk h1 h2 h3 => exact ⟨hc, fun s hs => by cases hs⟩
end Go.Proofs.Ytcppibjllaablaa.egr

/-
  EgressAge: what a Tick leaves; how much waits. Pure.
-/
namespace Go.Proofs.Ytcppibjllaablaa.egr
open Go.RowKit mem
set_option linter.unusedVariables false

/-- a Tick of all flows: each one's queue anew -/
theorem TSteps.all {now : Int} {e : Eo} {l : List Int} {o : List Snt} {e' : Eo} (k : TSteps now e l o e') (hn : Nd e.L) (hl : l.Nodup) : ∀ g ∈ e'.L, (g.id ∈ l → ∃ f ∈ e.L, f.id = g.id ∧ f.video = g.video ∧ g.q = que.expQ f.q now e.age) ∧ (g.id ∉ l → g ∈ e.L) := by
  induction k with
  | nil => exact fun g hg => ⟨(fun h => by cases h), fun _ => hg⟩
  | snoc pv k1 hf ih =>
    rename_i l1 o1 e1 f
    have hnd := List.nodup_append.1 hl
    have ih := ih hnd.1
    have hage : e1.age = e.age := k1.cf.2.2.2.1
    have hn1 : Nd e1.L := by unfold Nd; rw [k1.cf.2.2.2.2.1]; exact hn
    intro g hg
    obtain ⟨g', hg', rfl⟩ := setQ_mem hg
    by_cases e2 : g'.id = f.id
    · rw [if_pos e2]
      have hfl : f.id ∉ l1 := fun h => hnd.2.2 f.id h f.id (List.mem_singleton.2 rfl) rfl
      refine ⟨fun _ => ?_, fun h => absurd (List.mem_append.2 (.inr (List.mem_singleton.2 (show g'.id = f.id from e2)))) h⟩
      have hf0 := (ih f hf).2 hfl
      have heq : g' = f := by
        have h1 := hn1.fnd hg'
        have h2 := hn1.fnd hf
        rw [e2, h2] at h1
        injection h1 with h1
        exact h1.symm
      subst heq
      exact ⟨g', hf0, rfl, rfl, by rw [← hage]⟩
    · rw [if_neg e2]
      refine ⟨fun h => ?_, fun h => ?_⟩
      · rcases List.mem_append.1 h with h | h
        · exact (ih g' hg').1 h
        · exact absurd (List.mem_singleton.1 h) e2
      · exact (ih g' hg').2 (fun h2 => h (List.mem_append.2 (.inl h2)))
theorem exp_head {q : que.Q} {now age : Int} {x : que.It} (h : (que.expQ q now age).L[0]? = some x) : now - x.tick < age := by
  have hl := que.shed_last (que.late now age) rfl q.L.length q.L (Nat.le_refl _)
  change que.late now age (q.L.drop (que.expK q now age)) = false at hl
  change (q.L.drop (que.expK q now age))[0]? = some x at h
  cases hc : q.L.drop (que.expK q now age) with
  | nil => rw [hc] at h; cases h
  | cons y l =>
    rw [hc] at hl h
    have : y = x := by simpa using h
    subst this
    simp only [que.late, decide_eq_false_iff_not] at hl
    omega
theorem exp_none {q : que.Q} {now age : Int} (h : ∀ x ∈ q.L, age ≤ now - x.tick) : (que.expQ q now age).L = [] := by
  cases hc : (que.expQ q now age).L with
  | nil => rfl
  | cons y l =>
    have h1 := exp_head (q := q) (now := now) (age := age) (x := y) (by rw [hc]; rfl)
    have h2 : y ∈ q.L := List.mem_of_mem_drop (show y ∈ q.L.drop (que.expK q now age) by show y ∈ (que.expQ q now age).L; rw [hc]; exact List.mem_cons_self)
    have := h y h2
    omega
theorem tot_take {L : List Rf} {m : Nat} {f : Rf} (h : L[m]? = some f) : TotR (L.take (m + 1)) = TotR (L.take m) + f.q.L.length := by
  unfold TotR
  rw [drr.take_succ' h, List.map_append, List.sum_append]
  simp
theorem tot_all (L : List Rf) : TotR (L.take L.length) = TotR L := by rw [List.take_length]
theorem tot_le (L : List Rf) (m : Nat) : TotR (L.take m) ≤ TotR L := by
  have : TotR L = TotR (L.take m) + TotR (L.drop m) := by
    unfold TotR
    rw [← List.sum_append, ← List.map_append, List.take_append_drop]
  omega
theorem Lq.len8 {w wr : World} {ps : Nat} {A : Ad} {k : Nat} {e r : Eo} {vL vS : Value} {L : List Rf} {now n : Int} {i : Nat} (h : Lq w wr ps A k e vL vS L r now n i) : ∀ f ∈ L, f.q.L.length ≤ 8 := fun f hf => by
  have p := h.dv.pu
  have h1 := (p.ok f hf).len
  have h2 : f.q.frames = r.frames := (p.fq f hf).fr
  have h3 := h.dc.fr
  omega
section
variable {w wr : World} {ps : Nat} {A : Ad} {k : Nat} {e r : Eo} {vL vS : Value} {L : List Rf} {now n : Int} {i : Nat}
theorem Lq.both (h : Lq w wr ps A k e vL vS L r now n i) {g : Ef} (hg : g ∈ e.L) : ∃ f ∈ L, f.id = g.id ∧ f.video = g.video ∧ f.q = g.q := by
  have h1 := h.dv.rq.fl
  rw [h.dv.ro.e] at h1
  have h2 := h.dv.ru.es.ap.nd.fnd hg
  rcases h1.cases g.id with ⟨e1, _⟩ | ⟨g', f', e1, e2, e3, e4⟩
  · rw [e1] at h2; cases h2
  · rw [h2] at e1
    injection e1 with e1
    subst e1
    obtain ⟨h3, h4⟩ := fnd_some e2
    obtain ⟨y, hy, rfl⟩ := List.mem_map.1 h3
    exact ⟨y, hy, h4, e3.symm, e4.symm⟩
theorem Lq.tickOk (h : Lq w wr ps A k e vL vS L r now n i) (hi : i ≤ 200) : TickOk e.L := fun g hg x hx => by
  obtain ⟨f, hf, _, _, e4⟩ := h.both hg
  rw [← e4] at hx
  have h5 := h.dv.tk f hf x hx
  have h6 := h.dc.t1
  exact ⟨h5.1, by omega⟩
theorem Lq.totE (h : Lq w wr ps A k e vL vS L r now n i) (hi : i ≤ 200) : Tot e.L ≤ 1600 ∧ e.L.length ≤ 200 := by
  have h1 := h.dv.len
  have h2 := h.dc.l
  have h3 := tot_lenE (L := e.L) (fun g hg => by
    obtain ⟨f, hf, _, _, e4⟩ := h.both hg
    rw [← e4]; exact h.len8 f hf)
  omega
/-- behind a Tick that is late enough nothing waits -/
theorem Lq.final (h : Lq w wr ps A k e vL vS L r now n i) {o : List Snt} {e' : Eo} (ht : TSteps (now + 64) e (idS e.L) o e') (ha : r.age ≤ 32) : ∀ f ∈ L, ∃ g ∈ e'.L, g.id = f.id ∧ g.q.L = [] := fun f hf => by
  obtain ⟨j, hj⟩ := List.getElem?_of_mem hf
  obtain ⟨y, hy, hyid, hyv, hyq⟩ := h.dv.flow hj
  have hids := ht.cf.2.2.2.2.1
  have hm : y.id ∈ e'.L.map (·.id) := by rw [hids]; exact List.mem_map.2 ⟨y, hy, rfl⟩
  obtain ⟨g, hg, hgid⟩ := List.mem_map.1 hm
  have hnd := h.dv.ru.es.ap.nd
  have hin : g.id ∈ idS e.L := by rw [hgid]; exact (idS_mem _ _).2 ⟨y, hy, rfl⟩
  have hnodup : (idS e.L).Nodup := (idS_ascN hnd).imp (fun h => by omega)
  obtain ⟨f0, hf0, e1, e2, e3⟩ := ((ht.all hnd hnodup) g hg).1 hin
  have heq : f0 = y := by
    have h1 := hnd.fnd hf0
    have h2 := hnd.fnd hy
    rw [e1, hgid, h2] at h1
    injection h1 with h1
    exact h1.symm
  subst heq
  refine ⟨g, hg, hgid.trans hyid, ?_⟩
  rw [e3, hyq, h.dv.rq.age]
  refine exp_none (fun x hx => ?_)
  have := h.dv.tk f hf x hx
  omega
end
theorem ActR.age {now n : Int} {a : Arg} {L L' : List Rf} {r r' : Eo} {now' n' : Int} {o : List Snt} (h : ActR now n a L r L' r' now' n' o) (p : Pd L r) : r'.age = r.age := by
  cases h with
  | no n' h1 h2 h3 => rfl
  | put ao c h1 h2 h3 h4 => rfl
  | cred c h1 h2 => rfl
  | run h1 h2 h3 =>
    obtain ⟨Lk, rk, _, _, h3, h4, _⟩ := runX_ind (fun _ r1 _ => r1.age = r.age) (L.map (·.id)) (fun L r o i f x g h => (goneI_cf _ _ _ _).2.2.1.trans h) (TotR L) L r [] p rfl rfl
    rw [h2] at h4
    have h4' : r' = afterI (L.map (·.id)) rk := h4
    rw [h4']
    exact h3
  | tick h1 h2 => exact h2.cf.2.2.2.1
  | add s h1 h2 => rfl
  | rem s h1 h2 h3 => rfl
  | brk h1 h2 h3 => rfl
theorem ActR.age4 {now n : Int} {a : Arg} {L L' : List Rf} {r r' : Eo} {now' n' : Int} {o : List Snt} (h : ActR now n a L r L' r' now' n' o) (p : Pd L r) (p' : Pd L' r') (hk : a.kd = 4) : ∀ f ∈ L', ∀ x, f.q.L[0]? = some x → now' - x.tick < r'.age := by
  cases h with
  | no n' h1 h2 h3 => exact absurd hk (fun h => h2 h)
  | put ao c h1 h2 h3 h4 => rw [hk] at h1; cases h1
  | cred c h1 h2 => rw [hk] at h1; cases h1
  | run h1 h2 h3 => rw [hk] at h1; cases h1
  | tick h1 h2 =>
    intro f hf x hx
    have hnd : Nd r.L := by
      rw [p.e]
      unfold Nd
      rw [List.map_map]
      exact (show (L.map (·.id)).Pairwise (· < ·) from p.asc).imp (fun h => by omega)
    have hnodup : (L.map (·.id)).Nodup := (show (L.map (·.id)).Pairwise (· < ·) from p.asc).imp (fun h => by omega)
    have hfm : toE f ∈ r'.L := by rw [p'.e]; exact List.mem_map_of_mem hf
    have hids := h2.cf.2.2.2.2.1
    have hin : (toE f).id ∈ L.map (·.id) := by
      have h5 : (toE f).id ∈ r'.L.map (·.id) := List.mem_map.2 ⟨_, hfm, rfl⟩
      rw [hids, p.e, List.map_map] at h5
      exact h5
    obtain ⟨f0, _, _, _, e3⟩ := ((h2.all hnd hnodup) _ hfm).1 hin
    have e4 : f.q = que.expQ f0.q (now + a.n % 16) r.age := e3
    rw [e4] at hx
    rw [h2.cf.2.2.2.1]
    exact exp_head hx
  | add s h1 h2 => rw [hk] at h1; cases h1
  | rem s h1 h2 h3 => rw [hk] at h1; cases h1
  | brk h1 h2 h3 => rw [hk] at h1; cases h1
end Go.Proofs.Ytcppibjllaablaa.egr
