/-
  A slice of integers that came in as an argument: its capacity.
-/
import Derived.Test.YtjiodpbgjhoakaaArgsCap
namespace Go.Proofs.Ytjiodpbgjhoakaa.args
open Go.ChangeShapes Go.WideShapes Go.ChangeAt Go.RowKit
set_option linter.unusedVariables false

theorem row_cap {H : Type} {enc : TypeId × Value → H} {w : World} {t e : TypeId} {k : IntKind} {a : Option Addr} {n c : Nat} {d : DataW H} {ps : List MemPlace}
    (ht : Try.prog.underlying t = some (.slice e)) (he : Try.prog.underlying e = some (.int k)) (hc : Try.prog.cellsOf e = 1)
    (h : DataW.Trod enc Try.prog w 0 (fun _ => true) true t (.slice a n c) d ps) : n ≤ c := by
  obtain ⟨fuel, hf⟩ := h
  obtain ⟨a', n', c', z, e, _, hle, _⟩ := open_row_cap ht he hc hf
  simp [Value.cells] at e
  obtain ⟨rfl, rfl, rfl⟩ := e
  exact hle
end Go.Proofs.Ytjiodpbgjhoakaa.args
