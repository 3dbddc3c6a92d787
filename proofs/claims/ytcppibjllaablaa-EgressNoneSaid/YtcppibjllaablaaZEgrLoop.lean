/-
  Layer 20's laws: what their loops keep.
-/
import Derived.Test.YtcppibjllaablaaZEgrDoes
import Derived.Test.YtcppibjllaablaaZKaj
import Derived.Test.YtcppibjllaablaaZKaa
set_option linter.unusedVariables false
set_option linter.unusedSimpArgs false
namespace Go.Proofs.Ytcppibjllaablaa.egr
open Go.RowKit mem
set_option linter.unusedVariables false

theorem Sf.lower {b b' : Nat} {A : Ad} {w w' : World} (h : Sf b A w w') (hb : b' ≤ b) : Sf b' A w w' := ⟨h.t.mono (fun i _ hi => Nat.le_trans hb hi), h.c⟩
theorem Lo.lower {b b' : Nat} {A : Ad} {e : Eo} (h : Lo b A e) (hb : b' ≤ b) : Lo b' A e :=
  ⟨Nat.le_trans hb h.o, Nat.le_trans hb h.m, Nat.le_trans hb h.s, Nat.le_trans hb h.t, fun f hf => ⟨Nat.le_trans hb (h.q f hf).1, fun x hx => Nat.le_trans hb ((h.q f hf).2 x hx)⟩, fun f hf => Nat.le_trans hb (h.g f hf)⟩
theorem Dv.lower {b b' : Nat} {w0 w wr : World} {A : Ad} {k : Nat} {e r : Eo} {vL vS : Value} {L : List Rf} {now n : Int} (h : Dv b w wr A k e vL vS L r now n) (hb : b' ≤ b) (n0 : New w0 w) : Dv b' w0 wr A k e vL vS L r now n :=
  ⟨⟨h.ru.es, h.ru.lo.lower hb, (Sf.new n0).trans (h.ru.sf.lower hb)⟩, h.ro, h.asc, h.sa, h.sp, h.rq, h.tk⟩
/-- in a law's loop -/
structure Lq (w wr : World) (ps : Nat) (A : Ad) (k : Nat) (e : Eo) (vL vS : Value) (L : List Rf) (r : Eo) (now n : Int) (i : Nat) : Prop where
  dv : Dv w.heap.size w wr A k e vL vS L r now n
  dc : Dc i k e r L now n
  box : Blk wr ps (stS A r vL vS now n) STT
  p0 : w.heap.size ≤ ps
section
variable {w wr w2 : World} {ps : Nat} {A : Ad} {k : Nat} {e r : Eo} {vL vS : Value} {L : List Rf} {now n : Int} {i : Nat}
theorem Lq.later (h : Lq w wr ps A k e vL vS L r now n i) (t : New wr w2) : Lq w w2 ps A k e vL vS L r now n i :=
  ⟨h.dv.later t, h.dc, t.blk h.box (fun h => h), h.p0⟩
theorem Lq.new (h : Lq w wr ps A k e vL vS L r now n i) : New w wr := h.dv.ru.sf.t.mono (fun k hk hi => by omega)
theorem Lq.pre (h : Lq w wr ps A k e vL vS L r now n i) (t : New wr w2) : Dv w.heap.size w2 w2 A k e vL vS L r now n := by
  have h1 := h.dv.later t
  exact ⟨⟨h1.ru.es, h1.ru.lo, Sf.refl _ _ _⟩, h1.ro, h1.asc, h1.sa, h1.sp, h1.rq, h1.tk⟩
/-- a call of Does, and the state stored -/
theorem Lq.step (h : Lq w wr ps A k e vL vS L r now n i) (t : New wr w2) {w5 : World} {k' : Nat} {e' r' : Eo} {vL' vS' : Value} {L' : List Rf} {now' n' : Int} (d : Dv w.heap.size w2 w5 A k' e' vL' vS' L' r' now' n') (c : Dc (i + 1) k' e' r' L' now' n') :
    Blk w5 ps (stS A r vL vS now n) STT ∧ Lq w (puts w5 ps 0 (stS A r' vL' vS' now' n').toList) ps A k' e' vL' vS' L' r' now' n' (i + 1) := by
  have hb2 := t.blk h.box (fun h => h)
  have hb5 : Blk w5 ps (stS A r vL vS now n) STT := d.ru.sf.blk hb2 (by decide) (by decide) (by decide) (by decide) (by decide)
  have d5 : Dv w.heap.size w w5 A k' e' vL' vS' L' r' now' n' := ⟨⟨d.ru.es, d.ru.lo, (h.later t).dv.ru.sf.trans d.ru.sf⟩, d.ro, d.asc, d.sa, d.sp, d.rq, d.tk⟩
  exact ⟨hb5, d5.off hb5 (Nat.le_refl _) h.p0 (puts_turns (S := (· = ps)) (.inl rfl) _ 0 _ (Turns.refl _ _)) rfl, c, puts_blk _ _ hb5 rfl, h.p0⟩
theorem Lq.start {w0 w1 : World} {F B G M U : Int} {b : Nat} (n0 : New w w0) (hb : w0.heap.size ≤ b) (d : Dv b w0 w1 A 0 (fresh F B G M U) (.slice none 0 0) (.slice none 0 0) [] (fresh F B G M U) 0 0) (c : Dc 0 0 (fresh F B G M U) (fresh F B G M U) [] 0 0) :
    Lq w (w1.alloc (.cells (stS A (fresh F B G M U) (.slice none 0 0) (.slice none 0 0) 0 0) STT)) w1.heap.size A 0 (fresh F B G M U) (.slice none 0 0) (.slice none 0 0) [] (fresh F B G M U) 0 0 0 := by
  have d1 : Dv w.heap.size w w1 A 0 (fresh F B G M U) (.slice none 0 0) (.slice none 0 0) [] (fresh F B G M U) 0 0 := d.lower (Nat.le_trans n0.size hb) n0
  exact ⟨d1.later ((Turns.refl _ _).alloc _), c, Blk.new _ _ _, Nat.le_trans n0.size (d.ru.sf.t.size)⟩
end
/-- an act as the row holds it -/
abbrev argOf (z : Int × Int × Int × Bool × Bool) : Arg := ⟨z.1, z.2.1, z.2.2.1, z.2.2.2.1, z.2.2.2.2⟩
theorem argOf_ra {z : Int × Int × Int × Bool × Bool} (h : args.eactOk z) : Ra (argOf z) := by
  obtain ⟨h0, h1, h2, _⟩ := h
  have b1 := bounds_i64 h1
  have b2 := bounds_i64 h2
  exact ⟨b1.1, b1.2, b2.1, b2.2⟩
end Go.Proofs.Ytcppibjllaablaa.egr
