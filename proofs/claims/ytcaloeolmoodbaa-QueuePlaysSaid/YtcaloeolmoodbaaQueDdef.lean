/-
  'Does' of layer 18's laws: what it keeps.
-/
import Derived.Test.YtcaloeolmoodbaaQueSame
import Derived.Deep.RegionHeld3
import Derived.Deep.QuietTactic
import Derived.BigQuiet
import Derived.Deep.DeepCutAuto
namespace Go.Proofs.Ytcaloeolmoodbaa.que
open Go.RowKit mem
set_option linter.unusedVariables false

abbrev AT : TypeId := 35
/-- the queue and the reference's, side by side -/
structure Ds (w : World) (p : Nat) (pv : Value) (q : Q) (xv : Value) : Prop where
  qs : Qs w p pv q
  sub : Sub IE 0 w xv q.L
  ap : ∀ g, xv.ownBlock = some g → g ≠ p ∧ pv.ownBlock ≠ some g
/-- behind a call -/
structure Dn (w w' : World) (p : Nat) (pv xv : Value) (q' : Q) (pv' xv' : Value) : Prop where
  ds : Ds w' p pv' q' xv'
  loc : pv'.ownBlock = pv.ownBlock ∨ ∃ g, pv'.ownBlock = some g ∧ w.heap.size ≤ g
  src : ∀ g, xv'.ownBlock = some g → xv.ownBlock = some g ∨ w.heap.size ≤ g
  turns : Turns (Foot p pv) w w'
theorem Ds.later {w w' : World} {p : Nat} {pv : Value} {q : Q} {xv : Value} (h : Ds w p pv q xv) (n : New w w') : Ds w' p pv q xv := ⟨h.qs.later n, Sub.new h.sub n, h.ap⟩
/-- the state's three blocks -/
structure Bx (w w' : World) (pb pa pr : Nat) (S A : List Value) : Prop where
  b : Blk w' pb S.toArray TS
  a : Blk w' pa A.toArray AT
  r : Blk w' pr [.pointer none, .int .i64 0, .int .i64 0, .slice none 0 0, .bool false, .int .i64 0, .int .i64 0, .int .i64 0].toArray TS
abbrev zrs : List Value := [.pointer none, .int .i64 0, .int .i64 0, .slice none 0 0, .bool false, .int .i64 0, .int .i64 0, .int .i64 0]
theorem Bx.new {w w1 w2 : World} {pb pa pr : Nat} {S A : List Value} (h : Bx w w1 pb pa pr S A) (n : New w1 w2) : Bx w w2 pb pa pr S A := ⟨n.blk h.b (fun h => h), n.blk h.a (fun h => h), n.blk h.r (fun h => h)⟩
theorem Bx.turns {S0 : Nat → Prop} {w w1 w2 : World} {pb pa pr : Nat} {S A : List Value} (h : Bx w w1 pb pa pr S A) (t : Turns S0 w1 w2) (h1 : ¬ S0 pb) (h2 : ¬ S0 pa) (h3 : ¬ S0 pr) : Bx w w2 pb pa pr S A := ⟨t.blk h.b h1, t.blk h.a h2, t.blk h.r h3⟩
/-- the world in which the body begins -/
theorem bx0 (w : World) (S A : List Value) :
    Bx w (((w.alloc (.cells S.toArray TS)).alloc (.cells A.toArray AT)).alloc (.cells zrs.toArray TS)) w.heap.size (w.heap.size + 1) (w.heap.size + 1 + 1) S A ∧ New w (((w.alloc (.cells S.toArray TS)).alloc (.cells A.toArray AT)).alloc (.cells zrs.toArray TS)) :=
  ⟨⟨((Blk.new _ _ _).alloc _).alloc _, (Blk.new' _ _ _ (by simp)).alloc _, Blk.new' _ _ _ (by simp)⟩, (((Turns.refl _ _).alloc _).alloc _).alloc _⟩

/-- what the last statement's region holds on to -/
abbrev HeldD (w w' : World) (pr pb : Nat) (c0 c1 c2 c3 c4 c5 c6 c7 : Value) : Prop :=
  Turns (· = pr) w w' ∧ pb < w'.heap.size ∧ w'.cell? ⟨pb, 0, none⟩ = some c0 ∧ w'.cell? ⟨pb, 1, none⟩ = some c1 ∧ w'.cell? ⟨pb, 2, none⟩ = some c2 ∧ w'.cell? ⟨pb, 3, none⟩ = some c3 ∧ w'.cell? ⟨pb, 4, none⟩ = some c4 ∧ w'.cell? ⟨pb, 5, none⟩ = some c5 ∧ w'.cell? ⟨pb, 6, none⟩ = some c6 ∧ w'.cell? ⟨pb, 7, none⟩ = some c7
section
variable {w w' w1 w2 : World} {pr pb : Nat} {c0 c1 c2 c3 c4 c5 c6 c7 : Value}
theorem heldD_drew (h : HeldD w w' pr pb c0 c1 c2 c3 c4 c5 c6 c7) : HeldD w w'.drew pr pb c0 c1 c2 c3 c4 c5 c6 c7 := by
  obtain ⟨hn, h⟩ := h
  exact ⟨hn.drew, h⟩
theorem heldD_turns (n : Turns (· = pr) w1 w2) (hne : pb ≠ pr) (h : HeldD w w1 pr pb c0 c1 c2 c3 c4 c5 c6 c7) : HeldD w w2 pr pb c0 c1 c2 c3 c4 c5 c6 c7 := by
  obtain ⟨hn, hl, h0, h1, h2, h3, h4, h5, h6, h7⟩ := h
  have c := fun i => n.cell (a := ⟨pb, i, none⟩) hl hne
  exact ⟨hn.trans (n.mono (fun _ _ h => .inl h)), Nat.lt_of_lt_of_le hl n.size, (c 0).trans h0, (c 1).trans h1, (c 2).trans h2, (c 3).trans h3, (c 4).trans h4, (c 5).trans h5, (c 6).trans h6, (c 7).trans h7⟩
theorem heldD_new (n : New w1 w2) (hne : pb ≠ pr) (h : HeldD w w1 pr pb c0 c1 c2 c3 c4 c5 c6 c7) : HeldD w w2 pr pb c0 c1 c2 c3 c4 c5 c6 c7 := heldD_turns (n.mono (fun _ _ h => h.elim)) hne h
theorem heldD_store (hne : pb ≠ pr) (v0 v1 v2 v3 v4 v5 v6 v7 : Value) (h : HeldD w w1 pr pb c0 c1 c2 c3 c4 c5 c6 c7) :
    HeldD w ((((((((w1.setCell ⟨pr, 0, none⟩ v0).setCell ⟨pr, 1, none⟩ v1).setCell ⟨pr, 2, none⟩ v2).setCell ⟨pr, 3, none⟩ v3).setCell ⟨pr, 4, none⟩ v4).setCell ⟨pr, 5, none⟩ v5).setCell ⟨pr, 6, none⟩ v6).setCell ⟨pr, 7, none⟩ v7) pr pb c0 c1 c2 c3 c4 c5 c6 c7 :=
  heldD_turns (puts_turns (S := (· = pr)) (p := pr) (.inl rfl) [v0, v1, v2, v3, v4, v5, v6, v7] 0 w1 (Turns.refl _ _)) hne h
end
end Go.Proofs.Ytcaloeolmoodbaa.que
