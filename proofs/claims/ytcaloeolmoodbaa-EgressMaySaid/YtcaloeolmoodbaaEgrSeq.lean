/-
  egress.Out in memory: flows, each with its queue; the schedule; what a call on a part leaves of the rest.
-/
import Derived.Test.YtcaloeolmoodbaaDrrAwake
import Derived.Test.YtcaloeolmoodbaaQuePut
namespace Go.Proofs.Ytcaloeolmoodbaa.egr
open Go.RowKit mem Go.Maps
set_option linter.unusedVariables false

abbrev OB : TypeId := 146
abbrev GB : TypeId := 148
abbrev MT : TypeId := 144
abbrev New (w w' : World) : Prop := Turns (fun _ => False) w w'
theorem zeroP (w : World) : (zeroValue 142).run Try.prog w = .ok (.pointer none) w := by kernel_rfl

/-- a flow: its number, the block that holds it, is it of pictures, its queue -/
structure Ef where
  id : Int
  fb : Nat
  video : Bool
  qb : Nat
  pv : Value
  q : que.Q
structure Eo where
  frames : Int
  bytes : Int
  age : Int
  most : Int
  guard : Int
  credit : Int
  row : Int
  L : List Ef
  s : drr.Sc
/-- where an outlet lies -/
structure Ad where
  o : Nat
  mb : Nat
  sp : Nat
  smb : Nat
def fnd (L : List Ef) (id : Int) : Option Ef := L.find? (fun f => f.id == id)
theorem fnd_some {L : List Ef} {id : Int} {f : Ef} (h : fnd L id = some f) : f ∈ L ∧ f.id = id := by
  refine ⟨List.mem_of_find?_eq_some h, ?_⟩
  have := List.find?_some h
  simpa using this
theorem fnd_none {L : List Ef} {id : Int} (h : fnd L id = none) : ∀ f ∈ L, f.id ≠ id := fun f hf e => by
  have := List.find?_eq_none.1 h f hf
  simp [e] at this
/-- nothing in common -/
def Apart (f g : Ef) : Prop := f.id ≠ g.id ∧ f.fb ≠ g.fb ∧ f.qb ≠ g.qb ∧ ∀ x, f.pv.ownBlock = some x → g.pv.ownBlock ≠ some x
theorem Apart.symm {f g : Ef} (h : Apart f g) : Apart g f := ⟨fun e => h.1 e.symm, fun e => h.2.1 e.symm, fun e => h.2.2.1 e.symm, fun x e1 e2 => h.2.2.2 x e2 e1⟩
def Ap (L : List Ef) : Prop := L.Pairwise Apart
theorem Ap.two {L : List Ef} (h : Ap L) : ∀ {f g : Ef}, f ∈ L → g ∈ L → f = g ∨ Apart f g := by
  induction L with
  | nil => intro f g hf; cases hf
  | cons x l ih =>
    have hp := List.pairwise_cons.1 h
    intro f g hf hg
    rcases List.mem_cons.1 hf with hf | hf <;> rcases List.mem_cons.1 hg with hg | hg
    · exact .inl (by rw [hf, hg])
    · rw [hf]; exact .inr (hp.1 g hg)
    · rw [hg]; exact .inr (hp.1 f hf).symm
    · exact ih hp.2 hf hg
theorem Ap.fnd {L : List Ef} (h : Ap L) {f : Ef} (hf : f ∈ L) : fnd L f.id = some f := by
  unfold egr.fnd
  cases hx : L.find? (fun g => g.id == f.id) with
  | none =>
    have := List.find?_eq_none.1 hx f hf
    simp at this
  | some g =>
    obtain ⟨h1, h2⟩ := fnd_some (L := L) (id := f.id) hx
    rcases h.two h1 hf with e | e
    · rw [e]
    · exact absurd h2 e.1
abbrev cells (e : Eo) (A : Ad) : Array Value := #[.int .i64 e.frames, .int .i64 e.bytes, .int .i64 e.age, .int .i64 e.most, .int .i64 e.guard, .map (some A.mb), .pointer (some ⟨A.sp, 0, none⟩), .int .i64 e.credit, .int .i64 e.row]
abbrev fcells (f : Ef) : Array Value := #[.pointer (some ⟨f.qb, 0, none⟩), .bool f.video]
/-- the map of the flows -/
structure Rd (D : DataW Unit) (L : List Ef) : Prop where
  has : ∀ id, has D (.int .i64 id) = (fnd L id).isSome
  at_ : ∀ f ∈ L, ∀ z, D.atKey (.int .i64 f.id) z = .lit (.int .i64 (f.fb : Int))
structure Cf (e : Eo) : Prop where
  f0 : 1 ≤ e.frames
  f1 : e.frames ≤ 1024
  b0 : 1 ≤ e.bytes
  b1 : e.bytes ≤ 16777216
  a0 : 1 ≤ e.age
  a1 : e.age ≤ 1099511627776
  m0 : 1 ≤ e.most
  m1 : e.most ≤ 16777216
  g0 : 1 ≤ e.guard
  g1 : e.guard ≤ 1024
  c0 : 0 ≤ e.credit
  c1 : e.credit ≤ 1099511627776
/-- what a flow's queue keeps -/
structure Fq (e : Eo) (f : Ef) : Prop where
  fr : f.q.frames = e.frames
  mo : f.q.most = e.bytes
  sz : ∀ x ∈ f.q.L, x.size ≤ e.most
structure Es (w : World) (A : Ad) (k : Nat) (e : Eo) : Prop where
  blk : Blk w A.o (cells e A) OB
  map : ∃ c D, c ≤ k ∧ w.ownsMap Try.prog 3 drr.ptrE A.mb c D ∧ Rd D e.L
  fb : ∀ f ∈ e.L, Blk w f.fb (fcells f) GB
  qs : ∀ f ∈ e.L, que.Qs w f.qb f.pv f.q
  sch : ∃ c D, c ≤ k ∧ drr.Ss w A.sp A.smb c D e.s
  ap : Ap e.L
  mm : A.mb ≠ A.smb
  rg : ∀ f ∈ e.L, -9223372036854775808 ≤ f.id ∧ f.id ≤ 9223372036854775807
  cf : Cf e
  fq : ∀ f ∈ e.L, Fq e f
  sm : e.s.most = e.most
  vs : ∀ id, (∃ f ∈ e.s.L, f.id = id) ↔ ∃ f ∈ e.L, f.id = id ∧ f.video = true

/-! ### blocks of other types are other blocks -/
theorem blk_ne {w : World} {p r : Nat} {cs ds : Array Value} {T U : TypeId} (h : Blk w p cs T) (k : Blk w r ds U) (hT : T ≠ U) : p ≠ r := by
  rintro rfl
  unfold Blk at h k
  rw [h] at k
  injection k with k
  injection k with _ k
  exact hT k
theorem own_ne {α : Type} {E : Enc α} {w : World} {r : Nat} {v : Value} {l : List α} {ds : Array Value} {T U : TypeId} (h : Owns E T w v l) (k : Blk w r ds U) (hT : T ≠ U) : v.ownBlock ≠ some r := by
  intro e
  rcases h.2 with ⟨rfl, _⟩ | ⟨g, cap, cur, rfl, _, hb, _⟩
  · simp [Value.ownBlock] at e
  · have : g = r := by simpa [Value.ownBlock] using e
    subst this
    unfold Blk at k
    rw [hb] at k
    injection k with k
    injection k with _ k
    exact hT k
section
variable {w w' : World} {A : Ad} {k : Nat} {e : Eo} (h : Es w A k e)
include h
theorem Es.lt : A.o < w.heap.size := h.blk.lt
theorem Es.later (n : New w w') : Es w' A k e := by
  obtain ⟨c, D, hc, hm, hr⟩ := h.map
  obtain ⟨c2, D2, hc2, hs⟩ := h.sch
  exact ⟨n.blk h.blk (fun h => h), ⟨c, D, hc, ownsMap_turns hm n (fun h => h), hr⟩, fun f hf => n.blk (h.fb f hf) (fun h => h), fun f hf => (h.qs f hf).later n, ⟨c2, D2, hc2, hs.later n⟩, h.ap, h.mm, h.rg, h.cf, h.fq, h.sm, h.vs⟩
theorem Es.more {k' : Nat} (hk : k ≤ k') : Es w A k' e := by
  obtain ⟨c, D, hc, hm, hr⟩ := h.map
  obtain ⟨c2, D2, hc2, hs⟩ := h.sch
  exact ⟨h.blk, ⟨c, D, by omega, hm, hr⟩, h.fb, h.qs, ⟨c2, D2, by omega, hs⟩, h.ap, h.mm, h.rg, h.cf, h.fq, h.sm, h.vs⟩
/-- the outlet's own cells turn -/
theorem Es.self {e' : Eo} (t : Turns (· = A.o) w w') (hb : Blk w' A.o (cells e' A) OB) (hL : e'.L = e.L) (hs : e'.s = e.s) (hm : e'.most = e.most) (hf : e'.frames = e.frames) (hby : e'.bytes = e.bytes) (cf : Cf e') : Es w' A k e' := by
  obtain ⟨c, D, hc, hmp, hr⟩ := h.map
  obtain ⟨c2, D2, hc2, hss⟩ := h.sch
  refine ⟨hb, ⟨c, D, hc, ownsMap_turns hmp t (ownsMap_ne hmp h.blk), by rw [hL]; exact hr⟩, fun f hf => ?_, fun f hf => ?_, ⟨c2, D2, hc2, ?_⟩, by rw [hL]; exact h.ap, h.mm, by rw [hL]; exact h.rg, cf, fun f hf' => ?_, by rw [hs, hm]; exact h.sm, by rw [hs, hL]; exact h.vs⟩
  · rw [hL] at hf
    exact t.blk (h.fb f hf) (fun e2 => blk_ne (h.fb f hf) h.blk (by decide) e2)
  · rw [hL] at hf
    exact (h.qs f hf).turns t (fun e2 => blk_ne (h.qs f hf).blk h.blk (by decide) e2) (fun g hg e2 => own_ne (h.qs f hf).own h.blk (by decide) (by rw [hg, e2]))
  · rw [hs]
    exact hss.turns t (fun e2 => blk_ne hss.blk h.blk (by decide) e2) (ownsMap_ne hss.map h.blk) (fun f hf e2 => blk_ne (hss.fb f hf) h.blk (by decide) e2)
  · rw [hL] at hf'
    have := h.fq f hf'
    exact ⟨this.fr.trans hf.symm, this.mo.trans hby.symm, by rw [hm]; exact this.sz⟩
/-- the schedule turns -/
theorem Es.sched {s' : drr.Sc} (hl : ∀ c D, drr.Ss w A.sp A.smb c D e.s → drr.Ss w' A.sp A.smb c D s' ∧ Turns (drr.Foot A.sp A.smb e.s) w w') (sim : drr.Sim e.s s') : Es w' A k ⟨e.frames, e.bytes, e.age, e.most, e.guard, e.credit, e.row, e.L, s'⟩ := by
  obtain ⟨c, D, hc, hmp, hr⟩ := h.map
  obtain ⟨c2, D2, hc2, hss⟩ := h.sch
  obtain ⟨hs', t⟩ := hl c2 D2 hss
  have off : ∀ {r : Nat} {cs : Array Value} {T : TypeId}, Blk w r cs T → T ≠ 117 → T ≠ 121 → ¬ drr.Foot A.sp A.smb e.s r := fun hb h1 h2 hk => by
    rcases hk with e2 | e2 | ⟨f, hf, e2⟩
    · exact blk_ne hb hss.blk h1 e2
    · exact ownsMap_ne hss.map hb e2.symm
    · exact blk_ne hb (hss.fb f hf) h2 e2.symm
  refine ⟨t.blk h.blk (off h.blk (by decide) (by decide)), ⟨c, D, hc, ownsMap_turns hmp t (fun hk => ?_), hr⟩, fun f hf => t.blk (h.fb f hf) (off (h.fb f hf) (by decide) (by decide)), fun f hf => (h.qs f hf).turns t (off (h.qs f hf).blk (by decide) (by decide)) (fun g hg hk => ?_), ⟨c2, D2, hc2, hs'⟩, h.ap, h.mm, h.rg, ⟨h.cf.f0, h.cf.f1, h.cf.b0, h.cf.b1, h.cf.a0, h.cf.a1, h.cf.m0, h.cf.m1, h.cf.g0, h.cf.g1, h.cf.c0, h.cf.c1⟩, fun f hf => ⟨(h.fq f hf).fr, (h.fq f hf).mo, (h.fq f hf).sz⟩, sim.1.trans h.sm, fun id => ?_⟩
  · rcases hk with e2 | e2 | ⟨f, hf, e2⟩
    · exact ownsMap_ne hmp hss.blk e2
    · exact h.mm e2
    · exact ownsMap_ne hmp (hss.fb f hf) e2.symm
  · rcases hk with e2 | e2 | ⟨f', hf', e2⟩
    · exact own_ne (h.qs f hf).own hss.blk (by decide) (by rw [hg, e2])
    · exact ownsMap_ne_row hss.map (h.qs f hf).own g hg e2.symm
    · exact own_ne (h.qs f hf).own (hss.fb f' hf') (by decide) (by rw [hg, e2])
  · rw [← h.vs id]
    obtain ⟨_, F, e2⟩ := sim
    constructor
    · rintro ⟨f, hf, hid⟩
      rw [show (Eo.s ⟨e.frames, e.bytes, e.age, e.most, e.guard, e.credit, e.row, e.L, s'⟩) = s' from rfl, e2] at hf
      obtain ⟨f', hf', rfl⟩ := drr.upd_mem hf
      exact ⟨f', hf', hid⟩
    · rintro ⟨f, hf, hid⟩
      show ∃ f ∈ s'.L, _
      rw [e2]
      exact ⟨_, drr.upd_mem' hf, hid⟩
end
/-- a flow's queue anew -/
def setQ (L : List Ef) (id : Int) (pv : Value) (q : que.Q) : List Ef := L.map (fun g => if g.id = id then ⟨g.id, g.fb, g.video, g.qb, pv, q⟩ else g)
theorem setQ_mem {L : List Ef} {id : Int} {pv : Value} {q : que.Q} {g : Ef} (h : g ∈ setQ L id pv q) : ∃ f ∈ L, g = if f.id = id then ⟨f.id, f.fb, f.video, f.qb, pv, q⟩ else f := by
  obtain ⟨f, hf, e⟩ := List.mem_map.1 h
  exact ⟨f, hf, e.symm⟩
theorem fnd_setQ (L : List Ef) (id x : Int) (pv : Value) (q : que.Q) : (fnd (setQ L id pv q) x).isSome = (fnd L x).isSome := by
  unfold fnd setQ
  induction L with
  | nil => rfl
  | cons f l ih =>
    rw [List.map_cons, List.find?_cons, List.find?_cons]
    have e : ((if f.id = id then (⟨f.id, f.fb, f.video, f.qb, pv, q⟩ : Ef) else f).id == x) = (f.id == x) := by split <;> rfl
    rw [e]
    split
    · rfl
    · exact ih
/-- a call on a flow's queue -/
theorem Es.queue {w w' : World} {A : Ad} {k : Nat} {e : Eo} (h : Es w A k e) {f : Ef} (hf : f ∈ e.L) {q' : que.Q} (hl : que.Lft w w' f.qb f.pv q') (hfr : q'.frames = f.q.frames) (hmo : q'.most = f.q.most) (hsz : ∀ x ∈ q'.L, x.size ≤ e.most) :
    ∃ pv', (pv'.ownBlock = f.pv.ownBlock ∨ ∃ g, pv'.ownBlock = some g ∧ w.heap.size ≤ g) ∧ Es w' A k ⟨e.frames, e.bytes, e.age, e.most, e.guard, e.credit, e.row, setQ e.L f.id pv' q', e.s⟩ := by
  obtain ⟨c, D, hc, hmp, hr⟩ := h.map
  obtain ⟨c2, D2, hc2, hss⟩ := h.sch
  obtain ⟨⟨pv', hq', hloc⟩, t⟩ := hl
  have hqf := h.qs f hf
  have off : ∀ {r : Nat} {cs : Array Value} {T : TypeId}, Blk w r cs T → T ≠ 114 → T ≠ 37 → ¬ que.Foot f.qb f.pv r := fun hb h1 h2 hk => by
    rcases hk with e2 | e2
    · exact blk_ne hb hqf.blk h1 e2
    · exact own_ne hqf.own hb (fun e3 => h2 e3.symm) e2
  have same : ∀ g ∈ e.L, g.id = f.id → g = f := fun g hg e2 => by
    rcases h.ap.two hg hf with e3 | e3
    · exact e3
    · exact absurd e2 e3.1
  have part : ∀ g ∈ e.L, g.id ≠ f.id → Apart g f := fun g hg e2 => by
    rcases h.ap.two hg hf with e3 | e3
    · exact absurd (by rw [e3]) e2
    · exact e3
  refine ⟨pv', hloc, t.blk h.blk (off h.blk (by decide) (by decide)), ⟨c, D, hc, ownsMap_turns hmp t (fun hk => ?_), ⟨fun id => by rw [hr.has id]; exact (fnd_setQ _ _ _ _ _).symm, fun g hg z => ?_⟩⟩, fun g hg => ?_, fun g hg => ?_, ⟨c2, D2, hc2, hss.turns t (off hss.blk (by decide) (by decide)) (fun hk => ?_) (fun g hg => off (hss.fb g hg) (by decide) (by decide))⟩, ?_, h.mm, fun g hg => ?_, ⟨h.cf.f0, h.cf.f1, h.cf.b0, h.cf.b1, h.cf.a0, h.cf.a1, h.cf.m0, h.cf.m1, h.cf.g0, h.cf.g1, h.cf.c0, h.cf.c1⟩, fun g hg => ?_, h.sm, fun id => ?_⟩
  · rcases hk with e2 | e2
    · exact ownsMap_ne hmp hqf.blk e2
    · exact ownsMap_ne_row hmp hqf.own _ e2 rfl
  · obtain ⟨g', hg', rfl⟩ := setQ_mem hg
    by_cases e2 : g'.id = f.id
    · rw [if_pos e2]; exact hr.at_ g' hg' z
    · rw [if_neg e2]; exact hr.at_ g' hg' z
  · obtain ⟨g', hg', rfl⟩ := setQ_mem hg
    have := t.blk (h.fb g' hg') (off (h.fb g' hg') (by decide) (by decide))
    by_cases e2 : g'.id = f.id
    · rw [if_pos e2]; exact this
    · rw [if_neg e2]; exact this
  · obtain ⟨g', hg', rfl⟩ := setQ_mem hg
    by_cases e2 : g'.id = f.id
    · rw [if_pos e2]
      have := same g' hg' e2
      subst this
      exact hq'
    · rw [if_neg e2]
      have hp := part g' hg' e2
      refine (h.qs g' hg').turns t (fun hk => ?_) (fun x hx hk => ?_)
      · rcases hk with e3 | e3
        · exact hp.2.2.1 e3
        · exact own_ne hqf.own (h.qs g' hg').blk (by decide) e3
      · rcases hk with e3 | e3
        · exact own_ne (h.qs g' hg').own hqf.blk (by decide) (by rw [hx, e3])
        · exact hp.2.2.2 x hx e3
  · rcases hk with e2 | e2
    · exact ownsMap_ne hss.map hqf.blk e2
    · exact ownsMap_ne_row hss.map hqf.own _ e2 rfl
  · show (e.L.map _).Pairwise _
    rw [List.pairwise_map]
    have hmem : e.L.Pairwise (fun a b => (a ∈ e.L ∧ b ∈ e.L) ∧ Apart a b) := by
      have := List.Pairwise.and_mem.1 h.ap
      exact this.imp (fun hx => ⟨⟨hx.1, hx.2.1⟩, hx.2.2⟩)
    refine hmem.imp (fun {a b} hab => ?_)
    obtain ⟨⟨ha, hb⟩, hp⟩ := hab
    have fresh : ∀ g ∈ e.L, g.id ≠ f.id → ∀ x, g.pv.ownBlock = some x → pv'.ownBlock ≠ some x := fun g hg hne x hx hx' => by
      rcases hloc with e3 | ⟨y, e3, hy⟩
      · exact (part g hg hne).2.2.2 x hx (by rw [← e3]; exact hx')
      · rw [e3] at hx'; injection hx' with hx'
        have := (h.qs g hg).own.lt x hx
        omega
    by_cases e1 : a.id = f.id
    · have e2 : ¬ b.id = f.id := fun e2 => hp.1 (by rw [e1, e2])
      rw [if_pos e1, if_neg e2]
      exact ⟨hp.1, hp.2.1, hp.2.2.1, fun x hx hx' => fresh b hb e2 x hx' hx⟩
    · by_cases e2 : b.id = f.id
      · rw [if_neg e1, if_pos e2]
        exact ⟨hp.1, hp.2.1, hp.2.2.1, fun x hx hx' => fresh a ha e1 x hx hx'⟩
      · rw [if_neg e1, if_neg e2]; exact hp
  · obtain ⟨g', hg', rfl⟩ := setQ_mem hg
    by_cases e2 : g'.id = f.id
    · rw [if_pos e2]; exact h.rg g' hg'
    · rw [if_neg e2]; exact h.rg g' hg'
  · obtain ⟨g', hg', rfl⟩ := setQ_mem hg
    by_cases e2 : g'.id = f.id
    · rw [if_pos e2]
      have := h.fq f hf
      exact ⟨hfr.trans this.fr, hmo.trans this.mo, hsz⟩
    · rw [if_neg e2]
      have := h.fq g' hg'
      exact ⟨this.fr, this.mo, this.sz⟩
  · rw [h.vs id]
    constructor
    · rintro ⟨g, hg, hid, hv⟩
      refine ⟨_, List.mem_map.2 ⟨g, hg, rfl⟩, ?_, ?_⟩
      · split <;> exact hid
      · split <;> exact hv
    · rintro ⟨g, hg, hid, hv⟩
      obtain ⟨g', hg', rfl⟩ := setQ_mem hg
      refine ⟨g', hg', ?_, ?_⟩
      · split at hid <;> exact hid
      · split at hv <;> exact hv
end Go.Proofs.Ytcaloeolmoodbaa.egr
