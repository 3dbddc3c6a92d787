/-
  ladder.Config that came in by value.
-/
import Derived.Test.YtjiodpbgjhoakaaFields
namespace Go.Proofs.Ytjiodpbgjhoakaa.args
open Go.ChangeShapes Go.WideShapes Go.ChangeAt Go.RowKit Go.Deep
set_option linter.unusedVariables false

def lcfgOk (w : World) (x0 : Int) (x1 : Int) (x2 : Int) : Prop := (Lit.int .i64 x0).wf = true ∧ (Lit.int .i64 x1).wf = true ∧ (Lit.int .i64 x2).wf = true

set_option maxRecDepth 100000 in
theorem open_lcfg {H : Type} {enc : TypeId × Value → H} {w : World} {base : Nat} {v : Value} {d : DataW H} {ps : List MemPlace}
    (hv : Value.okWide Try.prog w .any base 64 v) (h : DataW.Trod enc Try.prog w 0 (fun _ => true) true 64 v d ps) : ∃ (x0 : Int) (x1 : Int) (x2 : Int), v = .agg #[.int .i64 x0, .int .i64 x1, .int .i64 x2] ∧ lcfgOk w x0 x1 x2 := by
  have hC : Try.prog.cellsOf 64 = 3 := by kernel_rfl
  obtain ⟨cs, rfl, hsz⟩ := okWide_struct Try.underlying64 hv
  rw [hC] at hsz
  obtain ⟨fuel, h2⟩ := h
  obtain ⟨l⟩ := cs
  have h2' : DataW.trod enc Try.prog w 0 (fun _ => true) true fuel 64 l = some (d, ps) := h2
  have hl : l.length = 3 := hsz
  obtain ⟨x0, hx0, hw0⟩ := field_int Try.underlying64 h2' 0 _ rfl 0 rfl (by kernel_rfl) Try.underlying3
  obtain ⟨x1, hx1, hw1⟩ := field_int Try.underlying64 h2' 1 _ rfl 1 rfl (by kernel_rfl) Try.underlying3
  obtain ⟨x2, hx2, hw2⟩ := field_int Try.underlying64 h2' 2 _ rfl 2 rfl (by kernel_rfl) Try.underlying3
  match l, hl with
  | [e0, e1, e2], _ =>
    obtain rfl : e0 = _ := by simpa using hx0
    obtain rfl : e1 = _ := by simpa using hx1
    obtain rfl : e2 = _ := by simpa using hx2
    exact ⟨x0, x1, x2, rfl, hw0, hw1, hw2⟩
end Go.Proofs.Ytjiodpbgjhoakaa.args
