/-
  egress.Out: what its calls leave of everything else.
-/
import Derived.Test.YtcaloeolmoodbaaEgrCount
namespace Go.Proofs.Ytcaloeolmoodbaa.egr
open Go.RowKit mem Go.Maps
open Go.Proofs.Ytcaloeolmoodbaa.itr
set_option linter.unusedVariables false

/-- all of an outlet lies at b or behind it -/
structure Lo (b : Nat) (A : Ad) (e : Eo) : Prop where
  o : b ≤ A.o
  m : b ≤ A.mb
  s : b ≤ A.sp
  t : b ≤ A.smb
  q : ∀ f ∈ e.L, b ≤ f.qb ∧ ∀ x, f.pv.ownBlock = some x → b ≤ x
  g : ∀ f ∈ e.s.L, b ≤ f.b
theorem Made.lo {w w' : World} {A : Ad} {k : Nat} {e : Eo} (h : Made w w' A k e) : Lo w.heap.size A e := ⟨h.o0, h.m0, h.s0, h.t0, fun f hf => (h.f0 f hf).2, h.g0⟩
theorem Lo.setQ {b : Nat} {A : Ad} {e : Eo} {f : Ef} {w : World} (h : Lo b A e) (hf : f ∈ e.L) (hw : b ≤ w.heap.size) {pv' : Value} {q' : que.Q} (hl : pv'.ownBlock = f.pv.ownBlock ∨ ∃ g, pv'.ownBlock = some g ∧ w.heap.size ≤ g) {c r : Int} : Lo b A ⟨e.frames, e.bytes, e.age, e.most, e.guard, c, r, setQ e.L f.id pv' q', e.s⟩ := by
  refine ⟨h.o, h.m, h.s, h.t, fun g hg => ?_, h.g⟩
  obtain ⟨g', hg', rfl⟩ := setQ_mem hg
  split
  · refine ⟨(h.q g' hg').1, fun x hx => ?_⟩
    rcases hl with e2 | ⟨y, e2, hy⟩
    · exact (h.q f hf).2 x (by rw [← e2]; exact hx)
    · have hx' : some y = some x := by rw [← e2]; exact hx
      injection hx' with hx'
      omega
  · exact h.q g' hg'
theorem Lo.sim {b : Nat} {A : Ad} {e : Eo} (h : Lo b A e) {s' : drr.Sc} (k : drr.Sim e.s s') {c r : Int} : Lo b A ⟨e.frames, e.bytes, e.age, e.most, e.guard, c, r, e.L, s'⟩ := by
  refine ⟨h.o, h.m, h.s, h.t, h.q, fun g hg => ?_⟩
  obtain ⟨_, F, e2⟩ := k
  have hg2 : g ∈ s'.L := hg
  rw [e2] at hg2
  obtain ⟨g', hg', rfl⟩ := drr.upd_mem hg2
  exact h.g g' hg'
/-- what is of another type stays; so do other maps; nothing ahead of b turns -/
structure Sf (b : Nat) (A : Ad) (w w' : World) : Prop where
  t : Turns (fun i => b ≤ i) w w'
  c : ∀ (r : Nat) (cs : Array Value) (T : TypeId), Blk w r cs T → T ≠ OB → T ≠ 114 → T ≠ 37 → T ≠ 117 → T ≠ 121 → w'.heap[r]? = w.heap[r]?
section
variable {b : Nat} {A : Ad} {w w1 w2 w' : World} {k : Nat} {e : Eo}
theorem Sf.refl (b : Nat) (A : Ad) (w : World) : Sf b A w w := ⟨Turns.refl _ _, fun _ _ _ _ _ _ _ _ _ => rfl⟩
theorem Sf.trans (h : Sf b A w w1) (h2 : Sf b A w1 w2) : Sf b A w w2 :=
  ⟨h.t.trans (h2.t.mono (fun _ _ hi => .inl hi)), fun r cs T hb a1 a2 a3 a4 a5 => by
    have e1 := h.c r cs T hb a1 a2 a3 a4 a5
    have hb1 : Blk w1 r cs T := by unfold Blk at hb ⊢; rw [e1]; exact hb
    rw [h2.c r cs T hb1 a1 a2 a3 a4 a5, e1]⟩
theorem Sf.new (n : New w w') : Sf b A w w' := ⟨n.mono (fun _ _ h => h.elim), fun r cs T hb _ _ _ _ _ => n.block r hb.lt (fun h => h)⟩
theorem Sf.of (t : Turns (fun i => b ≤ i) w w') {S : Nat → Prop} (t2 : Turns S w w') (hS : ∀ (r : Nat) (cs : Array Value) (T : TypeId), Blk w r cs T → T ≠ OB → T ≠ 114 → T ≠ 37 → T ≠ 117 → T ≠ 121 → ¬ S r) : Sf b A w w' :=
  ⟨t, fun r cs T hb a1 a2 a3 a4 a5 => t2.block r hb.lt (hS r cs T hb a1 a2 a3 a4 a5)⟩
theorem Sf.out (h : Es w A k e) (l : Lo b A e) (t : Turns (· = A.o) w w') : Sf b A w w' :=
  Sf.of (t.mono (fun i _ hi => by rw [hi]; exact l.o)) t (fun r cs T hb a1 _ _ _ _ hi => blk_ne hb h.blk a1 hi)
theorem Sf.que (h : Es w A k e) (l : Lo b A e) {f : Ef} (hf : f ∈ e.L) (t : Turns (que.Foot f.qb f.pv) w w') : Sf b A w w' :=
  Sf.of (t.mono (fun i _ hi => by rcases hi with hi | hi; rw [hi]; exact (l.q f hf).1; exact (l.q f hf).2 i hi)) t (fun r cs T hb _ a2 a3 _ _ hi => by
    rcases hi with hi | hi
    · exact blk_ne hb (h.qs f hf).blk a2 hi
    · exact own_ne (h.qs f hf).own hb (fun e3 => a3 e3.symm) hi)
theorem drr_lo (l : Lo b A e) : ∀ i, drr.Foot A.sp A.smb e.s i → b ≤ i := fun i hi => by
  rcases hi with hi | hi | ⟨f, hf, hi⟩
  · rw [hi]; exact l.s
  · rw [hi]; exact l.t
  · rw [← hi]; exact l.g f hf
theorem drr_off (h : Es w A k e) {r : Nat} {cs : Array Value} {T : TypeId} (hb : Blk w r cs T) (a4 : T ≠ 117) (a5 : T ≠ 121) : ¬ drr.Foot A.sp A.smb e.s r := fun hi => by
  obtain ⟨c, D, _, hss⟩ := h.sch
  rcases hi with hi | hi | ⟨f, hf, hi⟩
  · exact blk_ne hb hss.blk a4 hi
  · exact ownsMap_ne hss.map hb hi.symm
  · exact blk_ne hb (hss.fb f hf) a5 hi.symm
theorem Sf.drr (h : Es w A k e) (l : Lo b A e) (t : Turns (drr.Foot A.sp A.smb e.s) w w') : Sf b A w w' :=
  Sf.of (t.mono (fun i _ hi => drr_lo l i hi)) t (fun r cs T hb _ _ _ a4 a5 => drr_off h hb a4 a5)
theorem Sf.outdrr (h : Es w A k e) (l : Lo b A e) (t : Turns (FootO A e) w w') : Sf b A w w' :=
  Sf.of (t.mono (fun i _ hi => by rcases hi with hi | hi; rw [hi]; exact l.o; exact drr_lo l i hi)) t (fun r cs T hb a1 _ _ a4 a5 hi => by
    rcases hi with hi | hi
    · exact blk_ne hb h.blk a1 hi
    · exact drr_off h hb a4 a5 hi)
theorem Sf.maps (h : Es w A k e) (l : Lo b A e) (t : Turns (fun i => i = A.mb ∨ i = A.smb) w w') : Sf b A w w' := by
  obtain ⟨c, D, _, hm, _⟩ := h.map
  obtain ⟨c2, D2, _, hss⟩ := h.sch
  exact Sf.of (t.mono (fun i _ hi => by rcases hi with hi | hi; rw [hi]; exact l.m; rw [hi]; exact l.t)) t (fun r cs T hb _ _ _ _ _ hi => by
    rcases hi with hi | hi
    · exact ownsMap_ne hm hb hi.symm
    · exact ownsMap_ne hss.map hb hi.symm)
/-- a row of another type -/
theorem Sf.row (h : Sf b A w w') {α : Type} {E : Enc α} {T : TypeId} {v : Value} {l : List α} (ho : Owns E T w v l) (a1 : T ≠ OB) (a2 : T ≠ 114) (a3 : T ≠ 37) (a4 : T ≠ 117) (a5 : T ≠ 121) : Owns E T w' v l := by
  refine ⟨ho.1, ?_⟩
  rcases ho.2 with h0 | ⟨g, cap, cur, rfl, hb, hg, r⟩
  · exact .inl h0
  · exact .inr ⟨g, cap, cur, rfl, hb, by rw [h.c g cur T hg a1 a2 a3 a4 a5]; exact hg, r⟩
theorem Sf.blk (h : Sf b A w w') {r : Nat} {cs : Array Value} {T : TypeId} (hb : Blk w r cs T) (a1 : T ≠ OB) (a2 : T ≠ 114) (a3 : T ≠ 37) (a4 : T ≠ 117) (a5 : T ≠ 121) : Blk w' r cs T := by
  have e := h.c r cs T hb a1 a2 a3 a4 a5
  unfold Blk at hb ⊢
  rw [e]; exact hb
end
end Go.Proofs.Ytcaloeolmoodbaa.egr
