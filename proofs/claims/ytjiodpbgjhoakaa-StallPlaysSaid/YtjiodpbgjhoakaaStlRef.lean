/-
  The reference of layer 22: Tick.
-/
import Derived.Test.YtjiodpbgjhoakaaStlAwake
import Derived.ChangeAlike
namespace Go.Proofs.Ytjiodpbgjhoakaa.stl
open Go.RowKit mem
set_option linter.unusedVariables false

abbrev sinceV (s : Q) : Int := if s.recd = true then s.since else -1
abbrev untilV (s : Q) : Int := if s.susp = true then s.since + s.rest else -1
abbrev rx (s : Q) : Array Value := #[.int .i64 s.after, .int .i64 s.rest, .int .i64 (sinceV s), .int .i64 (untilV s), .int .i64 s.times]

set_option maxHeartbeats 2000000 in
theorem rtick (s : Q) (now : Int) (waits sent : Bool) (w : World) (ho : s.ok) (hsr : s.susp = true → s.recd = false) (n0 : 0 ≤ now) (n1 : now ≤ 4398046511104) :
    Calls Try.prog 28 #[.agg (rx s), .int .i64 now, .bool waits, .bool sent] w fun e w' => e = .returned (.tuple #[.agg (rx (tickQ s now waits sent)), .int .i64 (tickA s now waits sent)]) ∧ New w w' := by
  have s0 := ho.s0
  have s1 := ho.s1
  have t0 := ho.t0
  have t1 := ho.t1
  have a0 := ho.a0
  have a1 := ho.a1
  have r0 := ho.r0
  have r1 := ho.r1
  obtain ⟨af, re, su, rc, si, ti⟩ := s
  dsimp only at *
  cases su
  · clear hsr ho
    cases waits
    · have HE : Hid (tickA ⟨af, re, false, rc, si, ti⟩ now false sent = 0 ∧ rx (tickQ ⟨af, re, false, rc, si, ti⟩ now false sent) = #[.int .i64 af, .int .i64 re, .int .i64 (-1), .int .i64 (-1), .int .i64 ti]) := Lib.hid (by simp [tickA, tickQ])
      rw [HE.out.1, HE.out.2]
      simp only [rx, sinceV, untilV, Bool.false_eq_true, if_false]
      generalize (if rc = true then si else (-1 : Int)) = sv
      go_enter Try.func28, Try.ntmps28
      go_wp2
      go_returns
      exact ⟨rfl, by (repeat (first | (refine Turns.setCell ?_ (.inr (by simp; try omega)) _) | (refine Turns.alloc ?_ _) | (refine Turns.drew ?_))); exact Turns.refl _ _⟩
    · by_cases hn : sent = true ∨ rc = false
      · have HE : Hid (tickA ⟨af, re, false, rc, si, ti⟩ now true sent = 0 ∧ rx (tickQ ⟨af, re, false, rc, si, ti⟩ now true sent) = #[.int .i64 af, .int .i64 re, .int .i64 now, .int .i64 (-1), .int .i64 ti]) := Lib.hid (by
          have h1 : now - now < af := by omega
          simp only [tickA, tickQ, noteQ, if_pos hn, lateA, lateQ, if_pos h1]; simp)
        rw [HE.out.1, HE.out.2]
        have hd : decide (now - now < af) = true := decide_eq_true (by omega)
        have hd0 : decide (0 < af) = true := decide_eq_true (by omega)
        cases sent
        · have hrc : rc = false := by simpa using hn
          subst hrc
          clear hn HE
          simp only [rx, sinceV, untilV, Bool.false_eq_true, if_false]
          go_enter Try.func28, Try.ntmps28
          go_wp2
          go_returns
          exact ⟨rfl, by (repeat (first | (refine Turns.setCell ?_ (.inr (by simp; try omega)) _) | (refine Turns.alloc ?_ _) | (refine Turns.drew ?_))); exact Turns.refl _ _⟩
        · simp only [rx, sinceV, untilV, Bool.false_eq_true, if_false]
          generalize (if rc = true then si else (-1 : Int)) = sv
          clear hn HE
          go_enter Try.func28, Try.ntmps28
          go_wp2
          go_returns
          exact ⟨rfl, by (repeat (first | (refine Turns.setCell ?_ (.inr (by simp; try omega)) _) | (refine Turns.alloc ?_ _) | (refine Turns.drew ?_))); exact Turns.refl _ _⟩
      · have hn1 : sent = false := by simpa using (fun h => hn (.inl h))
        have hn2 : rc = true := by simpa using (fun h => hn (.inr h))
        subst hn1 hn2
        clear hn
        by_cases hl : now - si < af
        · have HE : Hid (tickA ⟨af, re, false, true, si, ti⟩ now true false = 0 ∧ rx (tickQ ⟨af, re, false, true, si, ti⟩ now true false) = #[.int .i64 af, .int .i64 re, .int .i64 si, .int .i64 (-1), .int .i64 ti]) := Lib.hid (by
            simp only [tickA, tickQ, noteQ, lateA, lateQ, if_pos hl]; simp [hl])
          rw [HE.out.1, HE.out.2]
          have hd : decide (now - si < af) = true := decide_eq_true hl
          simp only [rx, sinceV, untilV, Bool.false_eq_true, if_false, if_true]
          clear hl HE
          go_enter Try.func28, Try.ntmps28
          go_wp2
          go_returns
          exact ⟨rfl, by (repeat (first | (refine Turns.setCell ?_ (.inr (by simp; try omega)) _) | (refine Turns.alloc ?_ _) | (refine Turns.drew ?_))); exact Turns.refl _ _⟩
        · have HE : Hid (tickA ⟨af, re, false, true, si, ti⟩ now true false = 1 ∧ rx (tickQ ⟨af, re, false, true, si, ti⟩ now true false) = #[.int .i64 af, .int .i64 re, .int .i64 (-1), .int .i64 (now + re), .int .i64 (ti + 1)]) := Lib.hid (by
            simp only [tickA, tickQ, noteQ, lateA, lateQ, if_neg hl]; simp [hl])
          rw [HE.out.1, HE.out.2]
          have hd : decide (now - si < af) = false := decide_eq_false hl
          simp only [rx, sinceV, untilV, Bool.false_eq_true, if_false, if_true]
          clear hl HE
          go_enter Try.func28, Try.ntmps28
          go_wp2
          go_returns
          exact ⟨rfl, by (repeat (first | (refine Turns.setCell ?_ (.inr (by simp; try omega)) _) | (refine Turns.alloc ?_ _) | (refine Turns.drew ?_))); exact Turns.refl _ _⟩
  · have hr := hsr rfl
    subst hr
    clear hsr ho
    obtain ⟨u, hu⟩ : ∃ u, si + re = u := ⟨_, rfl⟩
    by_cases hl : now - si < re
    · have HE : Hid (tickA ⟨af, re, true, false, si, ti⟩ now waits sent = 0 ∧ rx (tickQ ⟨af, re, true, false, si, ti⟩ now waits sent) = #[.int .i64 af, .int .i64 re, .int .i64 (-1), .int .i64 u, .int .i64 ti]) := Lib.hid (by
        simp only [tickA, tickQ, restA, restQ, if_pos hl]; simp [untilV, hu])
      rw [HE.out.1, HE.out.2]
      have hu0 : 0 ≤ u := by omega
      have hu1 : now < u := by omega
      simp only [rx, sinceV, untilV, Bool.false_eq_true, if_false, if_true]
      rw [hu]
      clear hl HE hu
      go_enter Try.func28, Try.ntmps28
      go_wp2
      go_returns
      exact ⟨rfl, by (repeat (first | (refine Turns.setCell ?_ (.inr (by simp; try omega)) _) | (refine Turns.alloc ?_ _) | (refine Turns.drew ?_))); exact Turns.refl _ _⟩
    · have HE : Hid (tickA ⟨af, re, true, false, si, ti⟩ now waits sent = 2 ∧ rx (tickQ ⟨af, re, true, false, si, ti⟩ now waits sent) = #[.int .i64 af, .int .i64 re, .int .i64 (-1), .int .i64 (-1), .int .i64 ti]) := Lib.hid (by
        simp only [tickA, tickQ, restA, restQ, if_neg hl]; simp)
      rw [HE.out.1, HE.out.2]
      have hu0 : 0 ≤ u := by omega
      have hu1 : ¬ now < u := by omega
      simp only [rx, sinceV, untilV, Bool.false_eq_true, if_false, if_true]
      rw [hu]
      clear hl HE hu
      go_enter Try.func28, Try.ntmps28
      go_wp2
      go_returns
      exact ⟨rfl, by (repeat (first | (refine Turns.setCell ?_ (.inr (by simp; try omega)) _) | (refine Turns.alloc ?_ _) | (refine Turns.drew ?_))); exact Turns.refl _ _⟩
end Go.Proofs.Ytjiodpbgjhoakaa.stl
