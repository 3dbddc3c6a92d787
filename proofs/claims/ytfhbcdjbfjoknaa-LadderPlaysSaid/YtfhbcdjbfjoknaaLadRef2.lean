/-
  The reference of layer 23: step.
-/
import Derived.Test.YtfhbcdjbfjoknaaLadRef
namespace Go.Proofs.Ytfhbcdjbfjoknaa.lad
open Go.RowKit mem
open ints (IE IT ST infoI)
set_option linter.unusedVariables false

theorem rstep (d u sp at' most mv tt : Int) (ao : Option Addr) (nn nc : Nat) (ra : Option Addr) (rn rc : Nat) (w : World) (m0 : 0 ≤ mv) (m1 : mv ≤ 1048576) :
    Calls Try.prog 36 #[.agg (rl d u sp (.slice ao nn nc) at' most mv (.slice ra rn rc)), .int .i64 tt] w fun e w' => e = .returned (.agg (rl d u sp (.slice ao nn nc) tt most (mv + 1) (.slice none 0 0))) ∧ New w w' := by
  go_enter Try.func36, Try.ntmps36
  go_wp2
  go_returns
  exact ⟨rfl, by (repeat (first | (refine Turns.setCell ?_ (.inr (by simp; try omega)) _) | (refine Turns.alloc ?_ _) | (refine Turns.drew ?_))); exact Turns.refl _ _⟩
end Go.Proofs.Ytfhbcdjbfjoknaa.lad
