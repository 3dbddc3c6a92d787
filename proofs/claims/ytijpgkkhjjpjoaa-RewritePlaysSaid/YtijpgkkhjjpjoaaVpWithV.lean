/-
  A valid descriptor With numbers is valid. No program.
-/
import Derived.Test.YtijpgkkhjjpjoaaVpCheck
namespace Go.Proofs.Ytijpgkkhjjpjoaa.vp
open Go.RowKit mem
set_option linter.unusedVariables false

theorem with_V (d : D) (hv : V d) (p l : Int) : V (withD d p l) := by
  unfold withD
  have a := hv.wide
  by_cases h1 : 0 ≤ d.pic <;> by_cases h2 : 0 ≤ d.lev
  all_goals
    simp only [h1, h2, if_true, if_false]
    exact ⟨hv.part, by first | exact hv.pic | (simp only; omega), by first | exact hv.lev | (simp only; omega), hv.lay, hv.key, by first | exact hv.wide | (intro _; simp only; omega), by first | exact hv.narrow | simp, hv.sync⟩
end Go.Proofs.Ytijpgkkhjjpjoaa.vp
