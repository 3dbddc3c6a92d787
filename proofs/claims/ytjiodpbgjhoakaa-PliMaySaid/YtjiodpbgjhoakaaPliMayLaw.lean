/-
  PliMay: the law.
-/
import Derived.Test.YtjiodpbgjhoakaaPliAwake
namespace Go.Proofs.Ytjiodpbgjhoakaa.pli
open Go.RowKit mem
set_option linter.unusedVariables false

theorem may_law (a b : Int) (w : World) (a0 : -9223372036854775808 ≤ a) (a1 : a ≤ 9223372036854775807) (b0 : -9223372036854775808 ≤ b) (b1 : b ≤ 9223372036854775807) :
    Calls Try.prog 6 #[.int .i64 a, .int .i64 b] w fun e w' => e = .returned (.bool true) ∧ Below w.heap.size w w' := by
  have HA := Lib.hid (fun w => awake w)
  by_cases h : Va a b
  · have HN := Lib.hid (new_ok a b w h)
    have d1 : decide (1 ≤ a) = true := decide_eq_true h.1
    have d2 : decide (a ≤ b) = true := decide_eq_true h.2.1
    have d3 : decide (b ≤ 1073741824) = true := decide_eq_true h.2.2
    clear h
    go_enter Try.func6, Try.ntmps6
    go_wp2_with fail
    refine HN.out.mono ?_
    rintro e w1 ⟨p, rfl, o1⟩
    have N1 := Lib.hid o1.n
    clear o1 HN
    go_wp2_with fail
    refine (HA.out _).mono ?_
    rintro e w2 ⟨rfl, n2⟩
    have N2 := Lib.hid (N1.out.trans (n2.mono (fun _ _ h => h.elim)))
    clear n2 N1
    go_wp2
    go_ret
    exact ⟨rfl, N2.out.below (Nat.le_refl _) (fun _ _ h => h.elim)⟩
  · have HN := Lib.hid (new_bad a b w h)
    have hc : ¬ 1 ≤ a ∨ (1 ≤ a ∧ ¬ a ≤ b) ∨ (1 ≤ a ∧ a ≤ b ∧ ¬ b ≤ 1073741824) := by
      unfold Va at h; omega
    clear h
    rcases hc with h | ⟨h1, h⟩ | ⟨h1, h2, h⟩
    all_goals
      try (have d1 : decide (1 ≤ a) = false := decide_eq_false (by assumption))
      try (have d1 : decide (1 ≤ a) = true := decide_eq_true (by assumption))
      try (have d2 : decide (a ≤ b) = false := decide_eq_false (by assumption))
      try (have d2 : decide (a ≤ b) = true := decide_eq_true (by assumption))
      try (have d3 : decide (b ≤ 1073741824) = false := decide_eq_false (by assumption))
      clear h
      go_enter Try.func6, Try.ntmps6
      go_wp2_with fail
      refine HN.out.mono ?_
      rintro e w1 ⟨rfl, n1⟩
      have N1 := Lib.hid n1
      clear n1 HN
      go_wp2_with fail
      refine (HA.out _).mono ?_
      rintro e w2 ⟨rfl, n2⟩
      have N2 := Lib.hid (N1.out.trans (n2.mono (fun _ _ h => h.elim)))
      clear n2 N1
      go_wp2
      go_ret
      exact ⟨rfl, N2.out.below (Nat.le_refl _) (fun _ _ h => h.elim)⟩
end Go.Proofs.Ytjiodpbgjhoakaa.pli
