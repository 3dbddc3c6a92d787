/-
  rtp.Packet that came in by value.
-/
import Derived.Test.YtkpmdaknojlkjaaArgsCap
namespace Go.Proofs.Ytkpmdaknojlkjaa.args
open Go.ChangeShapes Go.WideShapes Go.ChangeAt Go.RowKit Go.Deep
set_option linter.unusedVariables false

def packOk (w : World) (x0 : Bool) (x1 : Int) (x2 : Int) (x3 : Int) (x4 : Int) (a5 : Option Addr) (n5 c5 : Nat) (z5 : Nat → Int) (x6 : Bool) (x7 : Int) (x8 : ByteArray) (x9 : ByteArray) (x10 : Int) : Prop := True ∧ (Lit.int .u8 x1).wf = true ∧ (Lit.int .u16 x2).wf = true ∧ (Lit.int .u32 x3).wf = true ∧ (Lit.int .u32 x4).wf = true ∧ (IntRow .u32 w a5 n5 c5 z5 ∧ n5 ≤ c5 ∧ c5 ≤ maxLen) ∧ True ∧ (Lit.int .u16 x7).wf = true ∧ x8.size ≤ maxLen ∧ x9.size ≤ maxLen ∧ (Lit.int .i64 x10).wf = true

set_option maxRecDepth 100000 in
theorem open_pack {H : Type} {enc : TypeId × Value → H} {w : World} {base : Nat} {v : Value} {d : DataW H} {ps : List MemPlace}
    (hv : Value.okWide Try.prog w .any base 44 v) (h : DataW.Trod enc Try.prog w 0 (fun _ => true) true 44 v d ps) : ∃ (x0 : Bool) (x1 : Int) (x2 : Int) (x3 : Int) (x4 : Int) (a5 : Option Addr) (n5 c5 : Nat) (z5 : Nat → Int) (x6 : Bool) (x7 : Int) (x8 : ByteArray) (x9 : ByteArray) (x10 : Int), v = .agg #[.bool x0, .int .u8 x1, .int .u16 x2, .int .u32 x3, .int .u32 x4, .slice a5 n5 c5, .bool x6, .int .u16 x7, .string x8, .string x9, .int .i64 x10] ∧ packOk w x0 x1 x2 x3 x4 a5 n5 c5 z5 x6 x7 x8 x9 x10 := by
  have hC : Try.prog.cellsOf 44 = 11 := by kernel_rfl
  obtain ⟨cs, rfl, hsz⟩ := okWide_struct Try.underlying44 hv
  rw [hC] at hsz
  obtain ⟨fuel, h2⟩ := h
  obtain ⟨l⟩ := cs
  have h2' : DataW.trod enc Try.prog w 0 (fun _ => true) true fuel 44 l = some (d, ps) := h2
  have hl : l.length = 11 := hsz
  obtain ⟨x0, hx0, hw0⟩ := field_bool Try.underlying44 h2' 0 _ rfl 0 rfl (by kernel_rfl) Try.underlying4
  obtain ⟨x1, hx1, hw1⟩ := field_int Try.underlying44 h2' 1 _ rfl 1 rfl (by kernel_rfl) Try.underlying5
  obtain ⟨x2, hx2, hw2⟩ := field_int Try.underlying44 h2' 2 _ rfl 2 rfl (by kernel_rfl) Try.underlying33
  obtain ⟨x3, hx3, hw3⟩ := field_int Try.underlying44 h2' 3 _ rfl 3 rfl (by kernel_rfl) Try.underlying35
  obtain ⟨x4, hx4, hw4⟩ := field_int Try.underlying44 h2' 4 _ rfl 4 rfl (by kernel_rfl) Try.underlying35
  obtain ⟨f5, y5, hy5⟩ := field_cell Try.underlying44 h2' 5 _ rfl 5 rfl (by kernel_rfl)
  obtain ⟨a5, n5, c5, z5, hx50, hw5⟩ := open_row_cap Try.underlying42 Try.underlying35 (by kernel_rfl) hy5
  have hx5 := take_one hx50
  obtain ⟨x6, hx6, hw6⟩ := field_bool Try.underlying44 h2' 6 _ rfl 6 rfl (by kernel_rfl) Try.underlying4
  obtain ⟨x7, hx7, hw7⟩ := field_int Try.underlying44 h2' 7 _ rfl 7 rfl (by kernel_rfl) Try.underlying33
  obtain ⟨x8, hx8, hw8⟩ := field_string Try.underlying44 h2' 8 _ rfl 8 rfl (by kernel_rfl) Try.underlying9
  obtain ⟨x9, hx9, hw9⟩ := field_string Try.underlying44 h2' 9 _ rfl 9 rfl (by kernel_rfl) Try.underlying9
  obtain ⟨x10, hx10, hw10⟩ := field_int Try.underlying44 h2' 10 _ rfl 10 rfl (by kernel_rfl) Try.underlying3
  match l, hl with
  | [e0, e1, e2, e3, e4, e5, e6, e7, e8, e9, e10], _ =>
    obtain rfl : e0 = _ := by simpa using hx0
    obtain rfl : e1 = _ := by simpa using hx1
    obtain rfl : e2 = _ := by simpa using hx2
    obtain rfl : e3 = _ := by simpa using hx3
    obtain rfl : e4 = _ := by simpa using hx4
    obtain rfl : e5 = _ := by simpa using hx5
    obtain rfl : e6 = _ := by simpa using hx6
    obtain rfl : e7 = _ := by simpa using hx7
    obtain rfl : e8 = _ := by simpa using hx8
    obtain rfl : e9 = _ := by simpa using hx9
    obtain rfl : e10 = _ := by simpa using hx10
    exact ⟨x0, x1, x2, x3, x4, a5, n5, c5, z5, x6, x7, x8, x9, x10, rfl, hw0, hw1, hw2, hw3, hw4, hw5, hw6, hw7, hw8, hw9, hw10⟩
end Go.Proofs.Ytkpmdaknojlkjaa.args
