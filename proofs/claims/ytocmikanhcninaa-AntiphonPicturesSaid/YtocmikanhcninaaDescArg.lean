/-
  vp8.Desc that came in by value.
-/
import Derived.Test.YtocmikanhcninaaFields
namespace Go.Proofs.Ytocmikanhcninaa.args
open Go.ChangeShapes Go.WideShapes Go.ChangeAt Go.RowKit Go.Deep
set_option linter.unusedVariables false

def descOk (w : World) (x0 : Bool) (x1 : Bool) (x2 : Int) (x3 : Int) (x4 : Bool) (x5 : Int) (x6 : Int) (x7 : Bool) (x8 : Int) : Prop := True ∧ True ∧ (Lit.int .i64 x2).wf = true ∧ (Lit.int .i64 x3).wf = true ∧ True ∧ (Lit.int .i64 x5).wf = true ∧ (Lit.int .i64 x6).wf = true ∧ True ∧ (Lit.int .i64 x8).wf = true

set_option maxRecDepth 100000 in
theorem open_desc {H : Type} {enc : TypeId × Value → H} {w : World} {base : Nat} {v : Value} {d : DataW H} {ps : List MemPlace}
    (hv : Value.okWide Try.prog w .any base 63 v) (h : DataW.Trod enc Try.prog w 0 (fun _ => true) true 63 v d ps) : ∃ (x0 : Bool) (x1 : Bool) (x2 : Int) (x3 : Int) (x4 : Bool) (x5 : Int) (x6 : Int) (x7 : Bool) (x8 : Int), v = .agg #[.bool x0, .bool x1, .int .i64 x2, .int .i64 x3, .bool x4, .int .i64 x5, .int .i64 x6, .bool x7, .int .i64 x8] ∧ descOk w x0 x1 x2 x3 x4 x5 x6 x7 x8 := by
  have hC : Try.prog.cellsOf 63 = 9 := by kernel_rfl
  obtain ⟨cs, rfl, hsz⟩ := okWide_struct Try.underlying63 hv
  rw [hC] at hsz
  obtain ⟨fuel, h2⟩ := h
  obtain ⟨l⟩ := cs
  have h2' : DataW.trod enc Try.prog w 0 (fun _ => true) true fuel 63 l = some (d, ps) := h2
  have hl : l.length = 9 := hsz
  obtain ⟨x0, hx0, hw0⟩ := field_bool Try.underlying63 h2' 0 _ rfl 0 rfl (by kernel_rfl) Try.underlying4
  obtain ⟨x1, hx1, hw1⟩ := field_bool Try.underlying63 h2' 1 _ rfl 1 rfl (by kernel_rfl) Try.underlying4
  obtain ⟨x2, hx2, hw2⟩ := field_int Try.underlying63 h2' 2 _ rfl 2 rfl (by kernel_rfl) Try.underlying3
  obtain ⟨x3, hx3, hw3⟩ := field_int Try.underlying63 h2' 3 _ rfl 3 rfl (by kernel_rfl) Try.underlying3
  obtain ⟨x4, hx4, hw4⟩ := field_bool Try.underlying63 h2' 4 _ rfl 4 rfl (by kernel_rfl) Try.underlying4
  obtain ⟨x5, hx5, hw5⟩ := field_int Try.underlying63 h2' 5 _ rfl 5 rfl (by kernel_rfl) Try.underlying3
  obtain ⟨x6, hx6, hw6⟩ := field_int Try.underlying63 h2' 6 _ rfl 6 rfl (by kernel_rfl) Try.underlying3
  obtain ⟨x7, hx7, hw7⟩ := field_bool Try.underlying63 h2' 7 _ rfl 7 rfl (by kernel_rfl) Try.underlying4
  obtain ⟨x8, hx8, hw8⟩ := field_int Try.underlying63 h2' 8 _ rfl 8 rfl (by kernel_rfl) Try.underlying3
  match l, hl with
  | [e0, e1, e2, e3, e4, e5, e6, e7, e8], _ =>
    obtain rfl : e0 = _ := by simpa using hx0
    obtain rfl : e1 = _ := by simpa using hx1
    obtain rfl : e2 = _ := by simpa using hx2
    obtain rfl : e3 = _ := by simpa using hx3
    obtain rfl : e4 = _ := by simpa using hx4
    obtain rfl : e5 = _ := by simpa using hx5
    obtain rfl : e6 = _ := by simpa using hx6
    obtain rfl : e7 = _ := by simpa using hx7
    obtain rfl : e8 = _ := by simpa using hx8
    exact ⟨x0, x1, x2, x3, x4, x5, x6, x7, x8, rfl, hw0, hw1, hw2, hw3, hw4, hw5, hw6, hw7, hw8⟩
end Go.Proofs.Ytocmikanhcninaa.args
