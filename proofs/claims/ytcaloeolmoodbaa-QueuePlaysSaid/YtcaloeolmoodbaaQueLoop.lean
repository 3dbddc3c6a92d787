/-
  Layer 18's laws: what their loops keep.
-/
import Derived.Test.YtcaloeolmoodbaaQueStep
import Derived.Test.YtcaloeolmoodbaaQactRow
namespace Go.Proofs.Ytcaloeolmoodbaa.que
open Go.RowKit mem
set_option linter.unusedVariables false

structure Lp (w wr : World) (ps p : Nat) (pv xv : Value) (q : Q) (now nn age : Int) (k : Nat) : Prop where
  ds : Ds wr p pv q xv
  box : Blk wr ps (stL p q xv now nn age).toArray TS
  n : New w wr
  p0 : w.heap.size ≤ p
  v0 : ∀ g, pv.ownBlock = some g → w.heap.size ≤ g
  s0 : w.heap.size ≤ ps
  sp : ps ≠ p ∧ pv.ownBlock ≠ some ps ∧ xv.ownBlock ≠ some ps
  good : Good q now
  nb : 0 ≤ nn ∧ nn ≤ k
  tb : now ≤ 15 * k
section
variable {w wr w2 : World} {ps p k : Nat} {pv xv : Value} {q : Q} {now nn age : Int}
theorem Lp.later (h : Lp w wr ps p pv xv q now nn age k) (n : New wr w2) : Lp w w2 ps p pv xv q now nn age k :=
  ⟨h.ds.later n, n.blk h.box (fun h => h), h.n.trans (n.mono (fun _ _ h => h.elim)), h.p0, h.v0, h.s0, h.sp, h.good, h.nb, h.tb⟩
theorem Lp.more {k' : Nat} (h : Lp w wr ps p pv xv q now nn age k) (hk : k ≤ k') : Lp w wr ps p pv xv q now nn age k' :=
  ⟨h.ds, h.box, h.n, h.p0, h.v0, h.s0, h.sp, h.good, ⟨h.nb.1, by have := h.nb.2; omega⟩, by have := h.tb; omega⟩
/-- a block made since w that isn't the queue's turns -/
theorem Lp.aside {pa : Nat} (h : Lp w wr ps p pv xv q now nn age k) (t : Turns (· = pa) wr w2) (h0 : w.heap.size ≤ pa) (hs : pa ≠ ps) (hp : pa ≠ p) (hv : pv.ownBlock ≠ some pa) (hx : xv.ownBlock ≠ some pa) : Lp w w2 ps p pv xv q now nn age k :=
  ⟨⟨h.ds.qs.turns t (fun e => hp e.symm) (fun g hg e => hv (by rw [hg, e])), Sub.turns' h.ds.sub t (fun g hg e => hx (by rw [hg, e])), h.ds.ap⟩, t.blk h.box (fun e => hs e.symm), h.n.trans (t.mono (fun i _ hi => .inr (by rw [hi]; exact h0))), h.p0, h.v0, h.s0, h.sp, h.good, h.nb, h.tb⟩
theorem Lp.step {w5 wz : World} {kd sz : Int} {ky : Bool} {pv' xv' : Value} (h : Lp w wr ps p pv xv q now nn age k) (hd : Dn wr w5 p pv xv (stepQ q now nn age kd sz ky) pv' xv') (hz : wz = puts w5 ps 0 (stL p (stepQ q now nn age kd sz ky) xv' (stepNow now kd sz) (stepN nn kd) age)) :
    Lp w wz ps p pv' xv' (stepQ q now nn age kd sz ky) (stepNow now kd sz) (stepN nn kd) age (k + 1) := by
  have hps := h.box.lt
  have hb5 := hd.turns.blk h.box (fun e => by
    rcases e with e | e
    · exact h.sp.1 e
    · exact h.sp.2.1 e)
  have hbz : Blk wz ps (stL p (stepQ q now nn age kd sz ky) xv' (stepNow now kd sz) (stepN nn kd) age).toArray TS := by rw [hz]; exact puts_blk _ _ hb5 rfl
  have tz : Turns (· = ps) w5 wz := by rw [hz]; exact puts_turns (S := (· = ps)) (.inl rfl) _ 0 _ (Turns.refl _ _)
  have n5 : New w w5 := h.n.trans (hd.turns.mono (fun i _ hi => .inr (by rcases hi with hi | hi; rw [hi]; exact h.p0; exact h.v0 i hi)))
  have hv0 : ∀ g, pv'.ownBlock = some g → w.heap.size ≤ g ∧ g ≠ ps := fun g hg => by
    rcases hd.loc with e | ⟨g', e, hg'⟩
    · exact ⟨h.v0 g (e ▸ hg), fun e2 => h.sp.2.1 (by rw [← e, hg, e2])⟩
    · rw [e] at hg; injection hg with hg
      have := h.n.size
      exact ⟨by omega, by omega⟩
  have hx0 : ∀ g, xv'.ownBlock = some g → g ≠ ps := fun g hg => by
    rcases hd.src g hg with e | e
    · exact fun e2 => h.sp.2.2 (by rw [e, e2])
    · omega
  have hz16 : 0 ≤ sz % 16 ∧ sz % 16 ≤ 15 := by omega
  refine ⟨⟨hd.ds.qs.turns tz (fun e => h.sp.1 e.symm) (fun g hg e => (hv0 g hg).2 e), Sub.turns' hd.ds.sub tz (fun g hg e => hx0 g hg e), hd.ds.ap⟩, hbz, n5.trans (tz.mono (fun i _ hi => .inr (by rw [hi]; exact h.s0))), h.p0, fun g hg => (hv0 g hg).1, h.s0, ⟨h.sp.1, fun e => (hv0 ps e).2 rfl, fun e => hx0 ps e rfl⟩, h.good.step, ?_, ?_⟩
  · have := h.nb
    unfold stepN
    split <;> omega
  · have := h.tb
    unfold stepNow
    split <;> omega
theorem Lp.ticks (h : Lp w wr ps p pv xv q now nn age k) (hk : k ≤ 1000) : (∀ x ∈ q.L, 0 ≤ x.tick ∧ x.tick ≤ 2199023255552) ∧ 0 ≤ now ∧ now ≤ 1048576 ∧ 0 ≤ nn ∧ nn ≤ 1048576 := by
  have h1 := h.good.t0
  have h2 := h.tb
  have h3 := h.nb
  exact ⟨fun x hx => by have := h.good.tk x hx; omega, h1, by omega, h3.1, by omega⟩
end
end Go.Proofs.Ytcaloeolmoodbaa.que
