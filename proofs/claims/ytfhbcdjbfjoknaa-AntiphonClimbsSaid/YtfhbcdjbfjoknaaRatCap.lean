/-
  RateCap.
-/
import Derived.Test.YtfhbcdjbfjoknaaRatAwake
namespace Go.Proofs.Ytfhbcdjbfjoknaa.rat
open Go.RowKit mem
set_option linter.unusedVariables false

abbrev k1 (b : Int) (c : Int) : M := ⟨1000, b, c, [(5, 0)]⟩
theorem k1_ok (b c : Int) (h0 : 0 ≤ b) (h1 : b ≤ 1073741824) (h2 : 0 ≤ c) (h3 : c ≤ 1099511627776) : (k1 b c).ok := by
  refine ⟨by show (1 : Int) ≤ 1000; decide, by show (1000 : Int) ≤ 1048576; decide, h0, by show b ≤ _; omega, h2, h3, ?_, by show 1 ≤ 2000; decide, ?_⟩
  · intro i j hi hj
    simp at hj
    omega
  · intro x hx
    simp at hx
    subst hx
    exact ⟨by show (0 : Int) ≤ 0; decide, h0⟩
theorem k1_of (b : Int) (h0 : 0 ≤ b) (h1 : b ≤ 1073741824) : addQ (fresh 1000) 5 b = k1 b 0 := by
  have : clampB b = b := by unfold clampB; omega
  simp only [addQ, addM, this, Int.zero_add]
  rfl
theorem k1_rate (b c : Int) : rateQ (k1 b c) 5 = b := by
  have h : cutOf (k1 b c).L (5 - (k1 b c).win + 1) = 0 := by rfl
  simp only [rateQ, h, rateF]
  simp
theorem fresh_ok (a : Int) (h : 1 ≤ a ∧ a ≤ 1048576) : (fresh a).ok := by
  refine ⟨h.1, h.2, by show (0 : Int) ≤ 0; decide, by show (0 : Int) ≤ _; decide, by show (0 : Int) ≤ 0; decide, by show (0 : Int) ≤ _; decide, ?_, by show 0 ≤ 2000; decide, ?_⟩
  · intro i j hi hj
    simp at hj
  · intro x hx
    simp at hx

end Go.Proofs.Ytfhbcdjbfjoknaa.rat
