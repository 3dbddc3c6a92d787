/-
  What the last statements of 'Does' hold on to, with two items.
-/
import Derived.Test.YtcaloeolmoodbaaQueDdef
namespace Go.Proofs.Ytcaloeolmoodbaa.que
open Go.RowKit mem
set_option linter.unusedVariables false

/-- the same, and two items -/
abbrev HeldF (w w' : World) (pr pb px pw : Nat) (c0 c1 c2 c3 c4 c5 c6 c7 x0 x1 x2 x3 u0 u1 u2 u3 : Value) : Prop :=
  Turns (· = pr) w w' ∧ pb < w'.heap.size ∧ px < w'.heap.size ∧ pw < w'.heap.size ∧ w'.cell? ⟨pb, 0, none⟩ = some c0 ∧ w'.cell? ⟨pb, 1, none⟩ = some c1 ∧ w'.cell? ⟨pb, 2, none⟩ = some c2 ∧ w'.cell? ⟨pb, 3, none⟩ = some c3 ∧ w'.cell? ⟨pb, 4, none⟩ = some c4 ∧ w'.cell? ⟨pb, 5, none⟩ = some c5 ∧ w'.cell? ⟨pb, 6, none⟩ = some c6 ∧ w'.cell? ⟨pb, 7, none⟩ = some c7 ∧ w'.cell? ⟨px, 0, none⟩ = some x0 ∧ w'.cell? ⟨px, 1, none⟩ = some x1 ∧ w'.cell? ⟨px, 2, none⟩ = some x2 ∧ w'.cell? ⟨px, 3, none⟩ = some x3 ∧ w'.cell? ⟨pw, 0, none⟩ = some u0 ∧ w'.cell? ⟨pw, 1, none⟩ = some u1 ∧ w'.cell? ⟨pw, 2, none⟩ = some u2 ∧ w'.cell? ⟨pw, 3, none⟩ = some u3
section
variable {w w' w1 w2 : World} {pr pb px pw : Nat} {c0 c1 c2 c3 c4 c5 c6 c7 x0 x1 x2 x3 u0 u1 u2 u3 : Value}
theorem heldF_drew (h : HeldF w w' pr pb px pw c0 c1 c2 c3 c4 c5 c6 c7 x0 x1 x2 x3 u0 u1 u2 u3) : HeldF w w'.drew pr pb px pw c0 c1 c2 c3 c4 c5 c6 c7 x0 x1 x2 x3 u0 u1 u2 u3 := by
  obtain ⟨hn, h⟩ := h
  exact ⟨hn.drew, h⟩
theorem heldF_turns (n : Turns (· = pr) w1 w2) (hne : pb ≠ pr) (hx : px ≠ pr) (hu : pw ≠ pr) (h : HeldF w w1 pr pb px pw c0 c1 c2 c3 c4 c5 c6 c7 x0 x1 x2 x3 u0 u1 u2 u3) : HeldF w w2 pr pb px pw c0 c1 c2 c3 c4 c5 c6 c7 x0 x1 x2 x3 u0 u1 u2 u3 := by
  obtain ⟨hn, hl, hlx, hlu, h0, h1, h2, h3, h4, h5, h6, h7, k0, k1, k2, k3, m0, m1, m2, m3⟩ := h
  have c := fun i => n.cell (a := ⟨pb, i, none⟩) hl hne
  have d := fun i => n.cell (a := ⟨px, i, none⟩) hlx hx
  have e := fun i => n.cell (a := ⟨pw, i, none⟩) hlu hu
  exact ⟨hn.trans (n.mono (fun _ _ h => .inl h)), Nat.lt_of_lt_of_le hl n.size, Nat.lt_of_lt_of_le hlx n.size, Nat.lt_of_lt_of_le hlu n.size, (c 0).trans h0, (c 1).trans h1, (c 2).trans h2, (c 3).trans h3, (c 4).trans h4, (c 5).trans h5, (c 6).trans h6, (c 7).trans h7, (d 0).trans k0, (d 1).trans k1, (d 2).trans k2, (d 3).trans k3, (e 0).trans m0, (e 1).trans m1, (e 2).trans m2, (e 3).trans m3⟩
theorem heldF_store (hne : pb ≠ pr) (hx : px ≠ pr) (hu : pw ≠ pr) (v0 v1 v2 v3 v4 v5 v6 v7 : Value) (h : HeldF w w1 pr pb px pw c0 c1 c2 c3 c4 c5 c6 c7 x0 x1 x2 x3 u0 u1 u2 u3) :
    HeldF w ((((((((w1.setCell ⟨pr, 0, none⟩ v0).setCell ⟨pr, 1, none⟩ v1).setCell ⟨pr, 2, none⟩ v2).setCell ⟨pr, 3, none⟩ v3).setCell ⟨pr, 4, none⟩ v4).setCell ⟨pr, 5, none⟩ v5).setCell ⟨pr, 6, none⟩ v6).setCell ⟨pr, 7, none⟩ v7) pr pb px pw c0 c1 c2 c3 c4 c5 c6 c7 x0 x1 x2 x3 u0 u1 u2 u3 :=
  heldF_turns (puts_turns (S := (· = pr)) (p := pr) (.inl rfl) [v0, v1, v2, v3, v4, v5, v6, v7] 0 w1 (Turns.refl _ _)) hne hx hu h
end
end Go.Proofs.Ytcaloeolmoodbaa.que
