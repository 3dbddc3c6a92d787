/-
  RingMay: which rings may be.
-/
import Derived.Test.YtfdmgloimibioaaRngAwake
namespace Go.Proofs.Ytfdmgloimibioaa.rng
open Go.RowKit mem Go.Maps
set_option linter.unusedVariables false

theorem may_law (size most gap : Int) (w : World) (z0 : -9223372036854775808 ≤ size) (z1 : size ≤ 9223372036854775807) (m0 : -9223372036854775808 ≤ most) (m1 : most ≤ 9223372036854775807) (g0 : -9223372036854775808 ≤ gap) (g1 : gap ≤ 9223372036854775807) :
    Calls Try.prog 5 #[.int .i64 size, .int .i64 most, .int .i64 gap] w fun e w' => e = .returned (.bool true) ∧ Below w.heap.size w w' := by
  have HA := Lib.hid (fun w => awake w)
  by_cases h : size < 1 ∨ 4096 < size ∨ most < 0 ∨ gap < 0
  · have HN := Lib.hid (new_bad size most gap w h)
    have hcases : size < 1 ∨ (1 ≤ size ∧ 4096 < size) ∨ (1 ≤ size ∧ size ≤ 4096 ∧ most < 0) ∨ (1 ≤ size ∧ size ≤ 4096 ∧ 0 ≤ most ∧ gap < 0) := by omega
    clear h
    rcases hcases with h1 | ⟨h1, h2⟩ | ⟨h1, h2, h3⟩ | ⟨h1, h2, h3, h4⟩
    all_goals
      try (have d4 : decide (0 ≤ gap) = false := decide_eq_false (by omega))
      go_enter Try.func5, Try.ntmps5
      go_wp2_with fail
      refine HN.out.mono ?_
      rintro e w1 ⟨rfl, rfl⟩
      go_wp2_with fail
      refine (HA.out _).mono ?_
      rintro e w2 ⟨rfl, n2⟩
      have N2 := Lib.hid n2
      clear n2
      go_wp2
      go_ret
      exact ⟨rfl, N2.out.below (Nat.le_refl _) (fun _ _ h => h.elim)⟩
  · obtain ⟨k, rfl⟩ : ∃ k : Nat, size = k := ⟨size.toNat, by omega⟩
    have HN := Lib.hid (new k most gap w (by omega) (by omega) (by omega) (by omega) (by omega) (by omega))
    have h1 : 1 ≤ (k : Int) := by omega
    have h2 : (k : Int) ≤ 4096 := by omega
    have h3 : 0 ≤ most := by omega
    have h4 : 0 ≤ gap := by omega
    clear h
    go_enter Try.func5, Try.ntmps5
    go_wp2_with fail
    refine HN.out.mono ?_
    rintro e w1 ⟨rfl, _, n1⟩
    have N1 := Lib.hid n1
    clear n1 HN
    generalize w.heap.size + 1 = p at *
    go_wp2_with fail
    refine (HA.out _).mono ?_
    rintro e w2 ⟨rfl, n2⟩
    have N2 := Lib.hid (N1.out.trans (n2.mono (fun _ _ h => h.elim)))
    clear n2 N1
    go_wp2
    go_ret
    exact ⟨rfl, N2.out.below (Nat.le_refl _) (fun _ _ h => h.elim)⟩
end Go.Proofs.Ytfdmgloimibioaa.rng
