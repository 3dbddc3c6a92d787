/-
  Regions of layer 14's laws that call 'does'; what sounds are told.
-/
import Derived.Test.YtmnaldfknhnacaaGatPaused
import Derived.Test.YtmnaldfknhnacaaGactRow
import Derived.Deep.RegionHeld3
import Derived.Deep.QuietTactic
import Derived.BigQuiet
import Derived.Deep.DeepCutAuto
import Derived.Outline
namespace Go.Proofs.Ytmnaldfknhnacaa.gat
open Go.RowKit mem
set_option linter.unusedVariables false

theorem sound_needs {g : G} (h : g.v = false) : needsB g = false := by unfold needsB; rw [h]; rfl
theorem sound_goes {g : G} (h : g.v = false) (l : Int) (key : Bool) : passB g l key = !g.p := by
  unfold passB goesB; rw [h]; cases g.p <;> rfl
theorem pass_p (g : G) (l : Int) (key : Bool) : (passG g l key).p = g.p ∧ (passG g l key).v = g.v := by
  unfold passG turnG; split
  · exact ⟨rfl, rfl⟩
  · split <;> exact ⟨rfl, rfl⟩
theorem Gt.drewN {w : World} {p : Nat} {g : G} (h : Gt w p g) (n : Nat) : Gt (w.drewN n) p g := h
theorem step_v (g : G) (k l : Int) (key on : Bool) : (stepG g k l key on).v = g.v := by
  unfold stepG
  split
  · exact (pass_p _ _ _).2
  · split
    · rfl
    · split
      · rfl
      · split
        · unfold pauseG; cases on <;> rfl
        · rfl

/-! ### a region that calls 'does' and makes y's block -/
/-- what the region holds on to: the reference's six cells, an Act's four -/
abbrev HeldS (w w' : World) (p px b o o1 o2 o3 : Nat) (x0 x1 x2 x3 x4 x5 a0 a1 a2 a3 : Value) : Prop :=
  Turns (· = p) w w' ∧ px < w'.heap.size ∧ b < w'.heap.size ∧ w'.cell? ⟨px, 0, none⟩ = some x0 ∧ w'.cell? ⟨px, 1, none⟩ = some x1 ∧ w'.cell? ⟨px, 2, none⟩ = some x2 ∧ w'.cell? ⟨px, 3, none⟩ = some x3 ∧ w'.cell? ⟨px, 4, none⟩ = some x4 ∧ w'.cell? ⟨px, 5, none⟩ = some x5
    ∧ w'.cell? ⟨b, o, none⟩ = some a0 ∧ w'.cell? ⟨b, o1, none⟩ = some a1 ∧ w'.cell? ⟨b, o2, none⟩ = some a2 ∧ w'.cell? ⟨b, o3, none⟩ = some a3
section
variable {w w' w1 w2 : World} {p px b o o1 o2 o3 : Nat} {x0 x1 x2 x3 x4 x5 a0 a1 a2 a3 : Value}
theorem heldS_drew (h : HeldS w w' p px b o o1 o2 o3 x0 x1 x2 x3 x4 x5 a0 a1 a2 a3) : HeldS w w'.drew p px b o o1 o2 o3 x0 x1 x2 x3 x4 x5 a0 a1 a2 a3 := by
  obtain ⟨hn, h⟩ := h
  exact ⟨hn.drew, h⟩
theorem heldS_turns (k : Turns (· = p) w1 w2) (hx : px ≠ p) (hb : b ≠ p) (h : HeldS w w1 p px b o o1 o2 o3 x0 x1 x2 x3 x4 x5 a0 a1 a2 a3) : HeldS w w2 p px b o o1 o2 o3 x0 x1 x2 x3 x4 x5 a0 a1 a2 a3 := by
  obtain ⟨hn, hl, hbl, h0, h1, h2, h3, h4, h5, g0, g1, g2, g3⟩ := h
  have c := fun i => k.cell (a := ⟨px, i, none⟩) hl hx
  have d := fun i => k.cell (a := ⟨b, i, none⟩) hbl hb
  exact ⟨hn.trans (k.mono (fun _ _ h => .inl h)), Nat.lt_of_lt_of_le hl k.size, Nat.lt_of_lt_of_le hbl k.size, (c 0).trans h0, (c 1).trans h1, (c 2).trans h2, (c 3).trans h3, (c 4).trans h4, (c 5).trans h5, (d _).trans g0, (d _).trans g1, (d _).trans g2, (d _).trans g3⟩
theorem heldS_alloc (x : Obj) (h : HeldS w w1 p px b o o1 o2 o3 x0 x1 x2 x3 x4 x5 a0 a1 a2 a3) : HeldS w (w1.alloc x) p px b o o1 o2 o3 x0 x1 x2 x3 x4 x5 a0 a1 a2 a3 := by
  obtain ⟨hn, hl, hbl, h0, h1, h2, h3, h4, h5, g0, g1, g2, g3⟩ := h
  have k : New w1 (w1.alloc x) := (Turns.refl _ _).alloc x
  have c := fun i => k.cell (a := ⟨px, i, none⟩) hl (fun h => h)
  have d := fun i => k.cell (a := ⟨b, i, none⟩) hbl (fun h => h)
  exact ⟨hn.alloc _, Nat.lt_of_lt_of_le hl k.size, Nat.lt_of_lt_of_le hbl k.size, (c 0).trans h0, (c 1).trans h1, (c 2).trans h2, (c 3).trans h3, (c 4).trans h4, (c 5).trans h5, (d _).trans g0, (d _).trans g1, (d _).trans g2, (d _).trans g3⟩
end
abbrev zeroX : Array Value := #[.bool false, .bool false, .int .i64 0, .int .i64 0, .int .i64 0, .int .i64 0]
/-- y's block, made ahead of the call -/
theorem at_yb {w W wq : World} {p : Nat} {t : G} (hp : p < w.heap.size) (h : At W wq p t) (hW : W.heap = (w.alloc (.cells zeroX XG)).heap) : Blk wq w.heap.size [.bool false, .bool false, .int .i64 0, .int .i64 0, .int .i64 0, .int .i64 0].toArray XG := by
  have h0 : Blk W w.heap.size zeroX XG := by unfold Blk; rw [hW]; exact Blk.new w _ _
  exact h.2.blk h0 (by omega)
theorem at_y {w W wq : World} {p : Nat} {t : G} (hp : p < w.heap.size) (h : At W wq p t) (hW : W.heap = (w.alloc (.cells zeroX XG)).heap) :
    wq.cell? ⟨w.heap.size, 0, none⟩ = some (.bool false) ∧ wq.cell? ⟨w.heap.size, 1, none⟩ = some (.bool false) ∧ wq.cell? ⟨w.heap.size, 2, none⟩ = some (.int .i64 0) ∧ wq.cell? ⟨w.heap.size, 3, none⟩ = some (.int .i64 0) ∧ wq.cell? ⟨w.heap.size, 4, none⟩ = some (.int .i64 0) ∧ wq.cell? ⟨w.heap.size, 5, none⟩ = some (.int .i64 0)
    ∧ wq.frozen? ⟨w.heap.size, 0, none⟩ = false ∧ wq.frozen? ⟨w.heap.size, 1, none⟩ = false ∧ wq.frozen? ⟨w.heap.size, 2, none⟩ = false ∧ wq.frozen? ⟨w.heap.size, 3, none⟩ = false ∧ wq.frozen? ⟨w.heap.size, 4, none⟩ = false ∧ wq.frozen? ⟨w.heap.size, 5, none⟩ = false := by
  have hb := at_yb hp h hW
  exact ⟨hb.cell 0, hb.cell 1, hb.cell 2, hb.cell 3, hb.cell 4, hb.cell 5, hb.free 0, hb.free 1, hb.free 2, hb.free 3, hb.free 4, hb.free 5⟩
/-- what the region leaves -/
def Ys (w3 : World) (p : Nat) (t : G) (B : Bool) (v6 v7 v8 : Value) (wx : World) : Prop :=
  ∃ py, v6 = .pointer (some ⟨py, 0, none⟩) ∧ v7 = .bool B ∧ v8 = .bool true ∧ At w3 wx p t ∧ w3.heap.size ≤ py ∧ Blk wx py (rx t) XG
theorem at_sq2 {w W wq : World} {p : Nat} {t : G} (h : At W wq p t) (k : New w W) : Turns (· = p) w wq := (at_pre k h).2

end Go.Proofs.Ytmnaldfknhnacaa.gat
