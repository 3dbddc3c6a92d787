/-
  vp8.Parse: what it reads.
-/
import Derived.Test.YtcppibjllaablaaGreatVpPure
import Derived.Deep.DeepCutAuto
import Derived.Deep.QuietTactic
import Derived.BigQuiet
import Derived.Outline
namespace Go.Proofs.YtcppibjllaablaaGreat.vp
open Go.RowKit mem rd oref sq
set_option linter.unusedVariables false

abbrev DT : TypeId := 80

/-- a descriptor at pd, a reader at pr; nothing else has turned -/
def Both (w w' : World) (pd pr : Nat) (d : D) (s : St) : Prop := Blk w' pd (cells d) DT ∧ Rs w' pr s ∧ Turns (fun k => k = pd ∨ k = pr) w w'

section
variable {w : World} {p : Nat} {d : D} (h : Blk w p (cells d) DT)
include h
theorem dc0 : w.cell? ⟨p, 0, none⟩ = some (.bool d.nr) := h.cell 0
theorem dc1 : w.cell? ⟨p, 1, none⟩ = some (.bool d.st) := h.cell 1
theorem dc2 : w.cell? ⟨p, 2, none⟩ = some (.int .i64 d.part) := h.cell 2
theorem dc3 : w.cell? ⟨p, 3, none⟩ = some (.int .i64 d.pic) := h.cell 3
theorem dc4 : w.cell? ⟨p, 4, none⟩ = some (.bool d.wide) := h.cell 4
theorem dc5 : w.cell? ⟨p, 5, none⟩ = some (.int .i64 d.lev) := h.cell 5
theorem dc6 : w.cell? ⟨p, 6, none⟩ = some (.int .i64 d.lay) := h.cell 6
theorem dc7 : w.cell? ⟨p, 7, none⟩ = some (.bool d.sync) := h.cell 7
theorem dc8 : w.cell? ⟨p, 8, none⟩ = some (.int .i64 d.key) := h.cell 8
theorem ds0 (v : Bool) : Blk (w.setCell ⟨p, 0, none⟩ (.bool v)) p (cells { d with nr := v }) DT := h.set 0 _
theorem ds1 (v : Bool) : Blk (w.setCell ⟨p, 1, none⟩ (.bool v)) p (cells { d with st := v }) DT := h.set 1 _
theorem ds2 (v : Int) : Blk (w.setCell ⟨p, 2, none⟩ (.int .i64 v)) p (cells { d with part := v }) DT := h.set 2 _
theorem ds3 (v : Int) : Blk (w.setCell ⟨p, 3, none⟩ (.int .i64 v)) p (cells { d with pic := v }) DT := h.set 3 _
theorem ds4 (v : Bool) : Blk (w.setCell ⟨p, 4, none⟩ (.bool v)) p (cells { d with wide := v }) DT := h.set 4 _
theorem ds5 (v : Int) : Blk (w.setCell ⟨p, 5, none⟩ (.int .i64 v)) p (cells { d with lev := v }) DT := h.set 5 _
theorem ds6 (v : Int) : Blk (w.setCell ⟨p, 6, none⟩ (.int .i64 v)) p (cells { d with lay := v }) DT := h.set 6 _
theorem ds7 (v : Bool) : Blk (w.setCell ⟨p, 7, none⟩ (.bool v)) p (cells { d with sync := v }) DT := h.set 7 _
theorem ds8 (v : Int) : Blk (w.setCell ⟨p, 8, none⟩ (.int .i64 v)) p (cells { d with key := v }) DT := h.set 8 _
end

theorem plain_any (w : World) :
    Calls Tryz.prog 18 #[] w fun en w' => en = .returned (.agg #[.bool false, .bool false, .int .i64 0, .int .i64 (-1), .bool false, .int .i64 (-1), .int .i64 (-1), .bool false, .int .i64 (-1)]) ∧ New w w' := by
  go_enter Tryz.func18, Tryz.ntmps18
  go_wp2
  go_returns
  exact ⟨rfl, (Turns.refl _ _).alloc _⟩


theorem Both.step {w a b : World} {pd pr : Nat} {d d' : D} {s s' : St} (h : Both w a pd pr d s) (k : Both a b pd pr d' s') : Both w b pd pr d' s' :=
  ⟨k.1, k.2.1, h.2.2.trans (k.2.2.mono (fun _ _ h => .inl h))⟩


/-- nine stores into one block -/
def put9 (w : World) (p : Nat) (v0 v1 v2 v3 v4 v5 v6 v7 v8 : Value) : World :=
  ((((((((w.setCell ⟨p, 0, none⟩ v0).setCell ⟨p, 1, none⟩ v1).setCell ⟨p, 2, none⟩ v2).setCell ⟨p, 3, none⟩ v3).setCell ⟨p, 4, none⟩ v4).setCell ⟨p, 5, none⟩ v5).setCell ⟨p, 6, none⟩ v6).setCell ⟨p, 7, none⟩ v7).setCell ⟨p, 8, none⟩ v8
theorem put9_blk {w : World} {p : Nat} {a0 a1 a2 a3 a4 a5 a6 a7 a8 : Value} {t : TypeId} (h : Blk w p #[a0, a1, a2, a3, a4, a5, a6, a7, a8] t) (v0 v1 v2 v3 v4 v5 v6 v7 v8 : Value) :
    Blk (put9 w p v0 v1 v2 v3 v4 v5 v6 v7 v8) p #[v0, v1, v2, v3, v4, v5, v6, v7, v8] t := by
  have h0 : Blk (w.setCell ⟨p, 0, none⟩ v0) p #[v0, a1, a2, a3, a4, a5, a6, a7, a8] t := h.set 0 v0
  have h1 : Blk ((w.setCell ⟨p, 0, none⟩ v0).setCell ⟨p, 1, none⟩ v1) p #[v0, v1, a2, a3, a4, a5, a6, a7, a8] t := h0.set 1 v1
  have h2 : Blk (((w.setCell ⟨p, 0, none⟩ v0).setCell ⟨p, 1, none⟩ v1).setCell ⟨p, 2, none⟩ v2) p #[v0, v1, v2, a3, a4, a5, a6, a7, a8] t := h1.set 2 v2
  have h3 : Blk ((((w.setCell ⟨p, 0, none⟩ v0).setCell ⟨p, 1, none⟩ v1).setCell ⟨p, 2, none⟩ v2).setCell ⟨p, 3, none⟩ v3) p #[v0, v1, v2, v3, a4, a5, a6, a7, a8] t := h2.set 3 v3
  have h4 : Blk (((((w.setCell ⟨p, 0, none⟩ v0).setCell ⟨p, 1, none⟩ v1).setCell ⟨p, 2, none⟩ v2).setCell ⟨p, 3, none⟩ v3).setCell ⟨p, 4, none⟩ v4) p #[v0, v1, v2, v3, v4, a5, a6, a7, a8] t := h3.set 4 v4
  have h5 : Blk ((((((w.setCell ⟨p, 0, none⟩ v0).setCell ⟨p, 1, none⟩ v1).setCell ⟨p, 2, none⟩ v2).setCell ⟨p, 3, none⟩ v3).setCell ⟨p, 4, none⟩ v4).setCell ⟨p, 5, none⟩ v5) p #[v0, v1, v2, v3, v4, v5, a6, a7, a8] t := h4.set 5 v5
  have h6 : Blk (((((((w.setCell ⟨p, 0, none⟩ v0).setCell ⟨p, 1, none⟩ v1).setCell ⟨p, 2, none⟩ v2).setCell ⟨p, 3, none⟩ v3).setCell ⟨p, 4, none⟩ v4).setCell ⟨p, 5, none⟩ v5).setCell ⟨p, 6, none⟩ v6) p #[v0, v1, v2, v3, v4, v5, v6, a7, a8] t := h5.set 6 v6
  have h7 : Blk ((((((((w.setCell ⟨p, 0, none⟩ v0).setCell ⟨p, 1, none⟩ v1).setCell ⟨p, 2, none⟩ v2).setCell ⟨p, 3, none⟩ v3).setCell ⟨p, 4, none⟩ v4).setCell ⟨p, 5, none⟩ v5).setCell ⟨p, 6, none⟩ v6).setCell ⟨p, 7, none⟩ v7) p #[v0, v1, v2, v3, v4, v5, v6, v7, a8] t := h6.set 7 v7
  have h8 : Blk (((((((((w.setCell ⟨p, 0, none⟩ v0).setCell ⟨p, 1, none⟩ v1).setCell ⟨p, 2, none⟩ v2).setCell ⟨p, 3, none⟩ v3).setCell ⟨p, 4, none⟩ v4).setCell ⟨p, 5, none⟩ v5).setCell ⟨p, 6, none⟩ v6).setCell ⟨p, 7, none⟩ v7).setCell ⟨p, 8, none⟩ v8) p #[v0, v1, v2, v3, v4, v5, v6, v7, v8] t := h7.set 8 v8
  exact h8
theorem put9_turns {S : Nat → Prop} {a w : World} {p : Nat} (h : Turns S a w) (hp : S p ∨ a.heap.size ≤ p) (v0 v1 v2 v3 v4 v5 v6 v7 v8 : Value) : Turns S a (put9 w p v0 v1 v2 v3 v4 v5 v6 v7 v8) :=
  ((((((((h.setCell hp v0).setCell hp v1).setCell hp v2).setCell hp v3).setCell hp v4).setCell hp v5).setCell hp v6).setCell hp v7).setCell hp v8
section
variable {w : World} {p : Nat} {a0 a1 a2 a3 a4 a5 a6 a7 a8 : Value} {t : TypeId} (h : Blk w p #[a0, a1, a2, a3, a4, a5, a6, a7, a8] t)
include h
theorem cells9 : w.cell? ⟨p, 0, none⟩ = some a0 ∧ w.cell? ⟨p, 1, none⟩ = some a1 ∧ w.cell? ⟨p, 2, none⟩ = some a2 ∧ w.cell? ⟨p, 3, none⟩ = some a3 ∧ w.cell? ⟨p, 4, none⟩ = some a4 ∧ w.cell? ⟨p, 5, none⟩ = some a5 ∧ w.cell? ⟨p, 6, none⟩ = some a6 ∧ w.cell? ⟨p, 7, none⟩ = some a7 ∧ w.cell? ⟨p, 8, none⟩ = some a8 :=
  ⟨h.cell 0, h.cell 1, h.cell 2, h.cell 3, h.cell 4, h.cell 5, h.cell 6, h.cell 7, h.cell 8⟩
theorem frees9 : w.frozen? ⟨p, 0, none⟩ = false ∧ w.frozen? ⟨p, 1, none⟩ = false ∧ w.frozen? ⟨p, 2, none⟩ = false ∧ w.frozen? ⟨p, 3, none⟩ = false ∧ w.frozen? ⟨p, 4, none⟩ = false ∧ w.frozen? ⟨p, 5, none⟩ = false ∧ w.frozen? ⟨p, 6, none⟩ = false ∧ w.frozen? ⟨p, 7, none⟩ = false ∧ w.frozen? ⟨p, 8, none⟩ = false :=
  ⟨h.free 0, h.free 1, h.free 2, h.free 3, h.free 4, h.free 5, h.free 6, h.free 7, h.free 8⟩
end

/-- what Parse answers -/
def outD (s : St) : D := if (pS s).2 = 0 then pD s else zero
def outL (s : St) : List UInt8 := if (pS s).2 = 0 then (pS s).1 else []

end Go.Proofs.YtcppibjllaablaaGreat.vp
