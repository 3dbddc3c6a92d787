/-
  A slice of integers among the cells of a struct that came in, with its capacity.
-/
import Derived.Test.YtjiodpbgjhoakaaFields
namespace Go.Proofs.Ytjiodpbgjhoakaa.args
open Go.ChangeShapes Go.WideShapes Go.ChangeAt Go.RowKit
set_option linter.unusedVariables false

theorem open_row_cap {H : Type} {enc : TypeId × Value → H} {w : World} {t e : TypeId} {k : IntKind} {cs : List Value} {fuel : Nat} {y : DataW H × List MemPlace}
    (ht : Try.prog.underlying t = some (.slice e)) (he : Try.prog.underlying e = some (.int k)) (hc : Try.prog.cellsOf e = 1)
    (h : DataW.trod enc Try.prog w 0 (fun _ => true) true fuel t cs = some y) : ∃ a n c z, cs = [.slice a n c] ∧ IntRow k w a n c z ∧ n ≤ c ∧ c ≤ maxLen := by
  have hs : ∃ a n c, cs = [.slice a n c] ∧ n ≤ c ∧ c ≤ maxLen := by
    rcases open_ints ht he hc h with ⟨hcs, _⟩ | ⟨x, l, c', zs, hcs, _, hl, hm, _⟩
    · exact ⟨_, _, _, hcs, Nat.le_refl _, Nat.zero_le _⟩
    · exact ⟨_, _, _, hcs, hl, hm⟩
  obtain ⟨a, n, c, rfl, h1, h2⟩ := hs
  obtain ⟨z, hz⟩ := open_row (d := y.1) (ps := y.2) ht he hc ⟨fuel, h⟩
  exact ⟨a, n, c, z, rfl, hz, h1, h2⟩
end Go.Proofs.Ytjiodpbgjhoakaa.args
