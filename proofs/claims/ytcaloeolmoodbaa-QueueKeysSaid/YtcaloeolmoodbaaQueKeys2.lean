/-
  QueueKeys: what its loop keeps in memory; the region that calls Does and makes t.
-/
import Derived.Test.YtcaloeolmoodbaaQueKeys1
import Derived.Deep.RegionHeld3
namespace Go.Proofs.Ytcaloeolmoodbaa.que
open Go.RowKit mem Go.Maps
set_option linter.unusedVariables false

structure Mk (w wr : World) (ps p mb mn : Nat) (pv xv : Value) (q : Q) (now nn age : Int) (k : Nat) (D : DataW Unit) : Prop where
  lp : Lp w wr ps p pv xv q now nn age k
  map : wr.ownsMap Try.prog 3 (plainElem Try.prog 4) mb mn D
  m0 : w.heap.size ≤ mb
  mx : xv.ownBlock ≠ some mb
theorem Dn.base' {w W w' : World} {p : Nat} {pv xv pv' xv' : Value} {q' : Q} (n : New w W) (h : Dn W w' p pv xv q' pv' xv') : Dn w w' p pv xv q' pv' xv' := by
  have hs := n.size
  refine ⟨h.ds, ?_, fun g hg => ?_, (n.mono (fun _ _ h => h.elim)).trans (h.turns.mono (fun _ _ h => .inl h))⟩
  · rcases h.loc with e | ⟨g, e, hg⟩
    · exact .inl e
    · exact .inr ⟨g, e, by omega⟩
  · rcases h.src g hg with e | e
    · exact .inl e
    · exact .inr (by omega)
theorem Dn.more {w w1 w2 : World} {p : Nat} {pv xv pv' xv' : Value} {q' : Q} (h : Dn w w1 p pv xv q' pv' xv') (n : New w1 w2) : Dn w w2 p pv xv q' pv' xv' :=
  ⟨h.ds.later n, h.loc, h.src, h.turns.trans (n.mono (fun _ _ h => h.elim))⟩
/-- a block beside the queue's turns -/
theorem Dn.aside {w w1 w2 : World} {p pt : Nat} {pv xv pv' xv' : Value} {q' : Q} (h : Dn w w1 p pv xv q' pv' xv') (t : Turns (· = pt) w1 w2) (h0 : w.heap.size ≤ pt) (hp : pt ≠ p) (hv : pv'.ownBlock ≠ some pt) (hx : xv'.ownBlock ≠ some pt) : Dn w w2 p pv xv q' pv' xv' :=
  ⟨⟨h.ds.qs.turns t (fun e => hp e.symm) (fun g hg e => hv (by rw [hg, e])), Sub.turns' h.ds.sub t (fun g hg e => hx (by rw [hg, e])), h.ds.ap⟩, h.loc, h.src, h.turns.trans (t.mono (fun i _ hi => .inr (by rw [hi]; exact h0)))⟩
section
variable {w wr w2 : World} {ps p mb mn k : Nat} {pv xv : Value} {q : Q} {now nn age : Int} {D : DataW Unit}
theorem Mk.later (h : Mk w wr ps p mb mn pv xv q now nn age k D) (n : New wr w2) : Mk w w2 ps p mb mn pv xv q now nn age k D :=
  ⟨h.lp.later n, ownsMap_turns h.map n (fun h => h), h.m0, h.mx⟩
theorem Mk.foot (h : Mk w wr ps p mb mn pv xv q now nn age k D) : ¬ Foot p pv mb ∧ mb ≠ ps ∧ ¬ Foot p pv ps := by
  refine ⟨fun e => ?_, ownsMap_ne h.map h.lp.box, fun e => ?_⟩
  · rcases e with e | e
    · exact ownsMap_ne h.map h.lp.ds.qs.blk e
    · exact ownsMap_ne_row h.map h.lp.ds.qs.own mb e rfl
  · rcases e with e | e
    · exact h.lp.sp.1 e
    · exact h.lp.sp.2.1 e
theorem Mk.step {wx wz : World} {kd sz : Int} {ky : Bool} {pv' xv' : Value} (h : Mk w wr ps p mb mn pv xv q now nn age k D) (hd : Dn wr wx p pv xv (stepQ q now nn age kd sz ky) pv' xv') (hz : wz = puts wx ps 0 (stL p (stepQ q now nn age kd sz ky) xv' (stepNow now kd sz) (stepN nn kd) age)) :
    Mk w wz ps p mb mn pv' xv' (stepQ q now nn age kd sz ky) (stepNow now kd sz) (stepN nn kd) age (k + 1) D := by
  obtain ⟨f1, f2, _⟩ := h.foot
  have hml := h.map.lt
  have t2 : Turns (· = ps) wx wz := by rw [hz]; exact puts_turns (S := (· = ps)) (.inl rfl) _ 0 wx (Turns.refl _ wx)
  refine ⟨h.lp.step hd hz, ownsMap_turns (ownsMap_turns h.map hd.turns f1) t2 f2, h.m0, fun e => ?_⟩
  rcases hd.src mb e with e | e
  · exact h.mx e
  · omega
theorem Mk.put (h : Mk w wr ps p mb mn pv xv q now nn age k D) {D' : DataW Unit} {mn' : Nat} (hm : w2.ownsMap Try.prog 3 (plainElem Try.prog 4) mb mn' D') (hg : wr.grownBy w2 (some mb)) : Mk w w2 ps p mb mn' pv xv q now nn age k D' := by
  have t : Turns (· = mb) wr w2 := (Turns.of_grown hg).mono (fun k _ hk => by injection hk)
  obtain ⟨f1, f2, _⟩ := h.foot
  exact ⟨h.lp.aside t h.m0 f2 (fun e => f1 (.inl e)) (fun e => f1 (.inr e)) h.mx, hm, h.m0, h.mx⟩
end

/-- what the region holds on to: the state's eight cells, an act's three -/
abbrev HeldK (S : Nat → Prop) (w w' : World) (ps b o o1 o2 : Nat) (x0 x1 x2 x3 x4 x5 x6 x7 a0 a1 a2 : Value) : Prop :=
  Turns S w w' ∧ ps < w'.heap.size ∧ b < w'.heap.size ∧ w'.cell? ⟨ps, 0, none⟩ = some x0 ∧ w'.cell? ⟨ps, 1, none⟩ = some x1 ∧ w'.cell? ⟨ps, 2, none⟩ = some x2 ∧ w'.cell? ⟨ps, 3, none⟩ = some x3 ∧ w'.cell? ⟨ps, 4, none⟩ = some x4 ∧ w'.cell? ⟨ps, 5, none⟩ = some x5 ∧ w'.cell? ⟨ps, 6, none⟩ = some x6 ∧ w'.cell? ⟨ps, 7, none⟩ = some x7
    ∧ w'.cell? ⟨b, o, none⟩ = some a0 ∧ w'.cell? ⟨b, o1, none⟩ = some a1 ∧ w'.cell? ⟨b, o2, none⟩ = some a2
section
variable {S : Nat → Prop} {w w' w1 w2 : World} {ps b o o1 o2 : Nat} {x0 x1 x2 x3 x4 x5 x6 x7 a0 a1 a2 : Value}
theorem heldK_drew (h : HeldK S w w' ps b o o1 o2 x0 x1 x2 x3 x4 x5 x6 x7 a0 a1 a2) : HeldK S w w'.drew ps b o o1 o2 x0 x1 x2 x3 x4 x5 x6 x7 a0 a1 a2 := by
  obtain ⟨hn, h⟩ := h
  exact ⟨hn.drew, h⟩
theorem heldK_turns (k : Turns S w1 w2) (hx : ¬ S ps) (hb : ¬ S b) (h : HeldK S w w1 ps b o o1 o2 x0 x1 x2 x3 x4 x5 x6 x7 a0 a1 a2) : HeldK S w w2 ps b o o1 o2 x0 x1 x2 x3 x4 x5 x6 x7 a0 a1 a2 := by
  obtain ⟨hn, hl, hbl, h0, h1, h2, h3, h4, h5, h6, h7, g0, g1, g2⟩ := h
  have c := fun i => k.cell (a := ⟨ps, i, none⟩) hl hx
  have d := fun i => k.cell (a := ⟨b, i, none⟩) hbl hb
  exact ⟨hn.trans (k.mono (fun _ _ h => .inl h)), Nat.lt_of_lt_of_le hl k.size, Nat.lt_of_lt_of_le hbl k.size, (c 0).trans h0, (c 1).trans h1, (c 2).trans h2, (c 3).trans h3, (c 4).trans h4, (c 5).trans h5, (c 6).trans h6, (c 7).trans h7, (d _).trans g0, (d _).trans g1, (d _).trans g2⟩
theorem heldK_alloc (x : Obj) (h : HeldK S w w1 ps b o o1 o2 x0 x1 x2 x3 x4 x5 x6 x7 a0 a1 a2) : HeldK S w (w1.alloc x) ps b o o1 o2 x0 x1 x2 x3 x4 x5 x6 x7 a0 a1 a2 := by
  obtain ⟨hn, hl, hbl, h0, h1, h2, h3, h4, h5, h6, h7, g0, g1, g2⟩ := h
  have k : New w1 (w1.alloc x) := (Turns.refl _ _).alloc x
  have c := fun i => k.cell (a := ⟨ps, i, none⟩) hl (fun h => h)
  have d := fun i => k.cell (a := ⟨b, i, none⟩) hbl (fun h => h)
  exact ⟨hn.alloc _, Nat.lt_of_lt_of_le hl k.size, Nat.lt_of_lt_of_le hbl k.size, (c 0).trans h0, (c 1).trans h1, (c 2).trans h2, (c 3).trans h3, (c 4).trans h4, (c 5).trans h5, (c 6).trans h6, (c 7).trans h7, (d _).trans g0, (d _).trans g1, (d _).trans g2⟩
theorem heldK_nw (h : HeldK S w w' ps b o o1 o2 x0 x1 x2 x3 x4 x5 x6 x7 a0 a1 a2) : Turns S w w' := h.1
end
abbrev zeroS : Array Value := #[.pointer none, .int .i64 0, .int .i64 0, .slice none 0 0, .bool false, .int .i64 0, .int .i64 0, .int .i64 0]
/-- t's block, made ahead of the call -/
theorem new_t {w W wq : World} {p : Nat} {pv xv pv' xv' : Value} {q q' : Q} (hq : Qs w p pv q) (h : Dn W wq p pv xv q' pv' xv') (hW : W.heap = (w.alloc (.cells zeroS TS)).heap) : Blk wq w.heap.size zeroS TS := by
  have h0 : Blk W w.heap.size zeroS TS := by unfold Blk; rw [hW]; exact Blk.new w _ _
  refine h.turns.blk h0 (fun e => ?_)
  rcases e with e | e
  · have := hq.lt; omega
  · have := hq.own.lt _ e; omega
set_option maxRecDepth 10000 in
theorem Dn.off {w W wq : World} {p : Nat} {pv xv pv' xv' : Value} {q q' : Q} (hq : Ds w p pv q xv) (h : Dn W wq p pv xv q' pv' xv') (hW0 : W.heap = (w.alloc (.cells zeroS TS)).heap) : w.heap.size ≠ p ∧ pv'.ownBlock ≠ some w.heap.size ∧ xv'.ownBlock ≠ some w.heap.size := by
  have hp := hq.qs.lt
  have hW : W.heap.size = w.heap.size + 1 := by rw [hW0]; unfold World.alloc; exact Array.size_push _
  refine ⟨by omega, fun e => ?_, fun e => ?_⟩
  · rcases h.loc with e2 | ⟨g, e2, hg⟩
    · have := hq.qs.own.lt _ (e2 ▸ e); omega
    · rw [e2] at e; injection e with e; omega
  · rcases h.src _ e with e2 | e2
    · have := (hq.sub.lt _ e2).2; omega
    · omega
set_option maxRecDepth 10000 in
/-- the look-up of a number that is Key -/
theorem lookT {w : World} {mb mn : Nat} {D : DataW Unit} (h : w.ownsMap Try.prog 3 (plainElem Try.prog 4) mb mn D) {m : Int} (hy : yes D m) (m0 : -9223372036854775808 ≤ m) (m1 : m ≤ 9223372036854775807) :
    (Instr.lookup 44 (.map (some mb)) (.int .i64 m) false).run Try.prog w = .ok (.bool true) w := by
  obtain ⟨v, ps, hrun, hv⟩ := h.lookup law50 Try.underlying44 (zeroB w) (plainElem_bool Try.underlying4 false) (keyI m0 m1)
  obtain ⟨c', rfl, h2⟩ := elemB_inv Try.underlying4 hv
  rw [hy] at h2
  injection h2 with h2 _
  injection h2 with h2
  injection h2 with h2
  subst h2
  exact hrun
/-- what the region leaves -/
def Tk (wr : World) (p : Nat) (pv xv : Value) (q' : Q) (now' nn' age out : Int) (v14 v15 v17 : Value) (wx : World) : Prop :=
  ∃ pt pv' xv', v14 = .pointer (some ⟨pt, 0, none⟩) ∧ v15 = .int .i64 out ∧ v17 = .bool true ∧ Dn wr wx p pv xv q' pv' xv' ∧ wr.heap.size ≤ pt ∧ Blk wx pt (stL p q' xv' now' nn' age).toArray TS
end Go.Proofs.Ytcaloeolmoodbaa.que
