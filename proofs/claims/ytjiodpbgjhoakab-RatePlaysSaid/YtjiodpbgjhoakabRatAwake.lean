/-
  The place of the oldest as a function; 'awake' of layer 24; RateMay.
-/
import Derived.Test.YtjiodpbgjhoakabRatRate
namespace Go.Proofs.Ytjiodpbgjhoakab.rat
open Go.RowKit mem
set_option linter.unusedVariables false

def cutOf : List (Int × Int) → Int → Nat
  | [], _ => 0
  | x :: xs, t => if x.1 < t then cutOf xs t + 1 else 0
theorem Cut.is {l : List (Int × Int)} {t : Int} {n : Nat} (h : Cut l t n) : n = cutOf l t := by
  induction l generalizing n with
  | nil => have := h.1; simp at this; simp [cutOf, this]
  | cons x xs ih =>
    obtain ⟨h1, h2, h3⟩ := h
    unfold cutOf
    split
    · rename_i hx
      cases n with
      | zero => have := h3 0 (by simp) (by omega); simp at this; omega
      | succ m =>
        have := ih (n := m) ⟨by simp at h1; omega, fun k hk hm => by have := h2 (k + 1) (by simp; omega) (by omega); simpa using this, fun k hk hm => by have := h3 (k + 1) (by simp; omega) (by omega); simpa using this⟩
        omega
    · rename_i hx
      cases n with
      | zero => rfl
      | succ m => exact absurd (by have := h2 0 (by simp) (by omega); simpa using this) hx
abbrev addQ (s : M) (now bytes : Int) : M := addM s now bytes (cutOf s.L (now - s.win + 1))
abbrev rateQ (s : M) (now : Int) : Int := rateF s (cutOf s.L (now - s.win + 1))
theorem addq (p : Nat) (v : Value) (s : M) (now bytes : Int) (w : World) (h : Ms w p v s) (ho : s.ok) (n0 : 0 ≤ now) (n1 : now ≤ 4398046511104) (b0 : -9223372036854775808 ≤ bytes) (b1 : bytes ≤ 9223372036854775807) :
    Calls Try.prog 9 #[.pointer (some ⟨p, 0, none⟩), .int .i64 now, .int .i64 bytes] w fun e w' => e = .returned (.tuple #[]) ∧ ∃ v', Lft w w' p v v' (addQ s now bytes) :=
  (add p v s now bytes w h ho n0 n1 b0 b1).mono (by
    rintro e w' ⟨rfl, n, v', hc, hl⟩
    exact ⟨rfl, v', by rw [hc.is] at hl; exact hl⟩)
theorem rateq (p : Nat) (v : Value) (s : M) (now : Int) (w : World) (h : Ms w p v s) (ho : s.ok) (n0 : 0 ≤ now) (n1 : now ≤ 4398046511104) :
    Calls Try.prog 11 #[.pointer (some ⟨p, 0, none⟩), .int .i64 now] w fun e w' => e = .returned (.int .i64 (rateQ s now)) ∧ New w w' :=
  (rate p v s now w h ho n0 n1).mono (by
    rintro e w' ⟨n, rfl, hc, hl⟩
    exact ⟨by rw [hc.is], hl⟩)
theorem guessq (p : Nat) (v : Value) (s : M) (now : Int) (waits : Bool) (w : World) (h : Ms w p v s) (ho : s.ok) (n0 : 0 ≤ now) (n1 : now ≤ 4398046511104) :
    Calls Try.prog 13 #[.pointer (some ⟨p, 0, none⟩), .int .i64 now, .bool waits] w fun e w' => e = .returned (.int .i64 (guessF s waits (rateQ s now))) ∧ New w w' :=
  (guess p v s now waits w h ho n0 n1).mono (by
    rintro e w' ⟨n, rfl, hc, hl⟩
    exact ⟨by rw [hc.is], hl⟩)

theorem Own.cap {w w1 w2 : World} {p : Nat} {v : Value} {s t : M} (h : Own w w1 p v s) (k : Ms w2 p v t) (n : Turns (· = p) w1 w2) : Own w w2 p v t :=
  ⟨k, h.n.trans (n.mono (fun i _ hi => .inr (by have := h.p0; omega))), h.p0, h.v0⟩
abbrev m1 : M := ⟨10, 5, 0, [(0, 0)]⟩
abbrev m2 : M := ⟨10, 10, 0, [(0, 0), (9, 5)]⟩
theorem ok_of {s : M} (h : (decide (1 ≤ s.win) && decide (s.win ≤ 1048576) && decide (0 ≤ s.total) && decide (s.total ≤ 1125899906842624) && decide (0 ≤ s.cap) && decide (s.cap ≤ 1099511627776) && decide (s.L.length ≤ 2000) && (List.range s.L.length).all (fun j => (List.range j).all (fun i => decide ((s.L.getD i (0, 0)).1 < (s.L.getD j (0, 0)).1))) && s.L.all (fun x => decide (0 ≤ x.2) && decide (x.2 ≤ s.total))) = true) : s.ok := by
  simp only [Bool.and_eq_true, decide_eq_true_eq] at h
  obtain ⟨⟨⟨⟨⟨⟨⟨⟨h1, h2⟩, h3⟩, h4⟩, h5⟩, h6⟩, h7⟩, h8⟩, h9⟩ := h
  refine ⟨h1, h2, h3, h4, h5, h6, ?_, h7, ?_⟩
  · intro i j hi hj
    have a := List.all_eq_true.1 h8 j (List.mem_range.2 hj)
    have b := List.all_eq_true.1 a i (List.mem_range.2 hi)
    have hil : i < s.L.length := by omega
    simpa [hj, hil] using b
  · intro x hx
    have a := List.all_eq_true.1 h9 x hx
    simpa using a

theorem awake (w : World) :
    Calls Try.prog 8 #[] w fun e w' => e = .returned (.bool true) ∧ New w w' := by
  have HN := Lib.hid (new_ok 10 w (by decide))
  have H0 : Hid ((fresh 10).ok ∧ m1.ok ∧ m2.ok) := Lib.hid ⟨ok_of (by decide +kernel), ok_of (by decide +kernel), ok_of (by decide +kernel)⟩
  have H1 : Hid (addQ (fresh 10) 0 5 = m1) := Lib.hid rfl
  have H2 : Hid (addQ m1 9 5 = m2) := Lib.hid rfl
  have H3 : Hid (rateQ m2 9 = 1000) := Lib.hid (by decide +kernel)
  have H4 : Hid (rateQ m2 10 = 500) := Lib.hid (by decide +kernel)
  go_enter Try.func8, Try.ntmps8
  go_wp2_with fail
  refine HN.out.mono ?_
  rintro e w1 ⟨p, rfl, o1⟩
  have HO1 := Lib.hid o1
  have HA1 := Lib.hid (addq p _ _ 0 5 w1 o1.ms H0.out.1 (by decide) (by decide) (by decide) (by decide))
  rw [H1.out] at HA1
  clear HN o1
  go_wp2_with fail
  refine HA1.out.mono ?_
  rintro e w2 ⟨rfl, v2, l2⟩
  have HO2 := Lib.hid (HO1.out.lft l2)
  have HA2 := Lib.hid (addq p _ _ 9 5 w2 l2.ms H0.out.2.1 (by decide) (by decide) (by decide) (by decide))
  rw [H2.out] at HA2
  clear HA1 HO1 l2
  go_wp2_with fail
  refine HA2.out.mono ?_
  rintro e w3 ⟨rfl, v3, l3⟩
  have HO3 := Lib.hid (HO2.out.lft l3)
  have HR1 := Lib.hid (rateq p _ _ 9 w3 l3.ms H0.out.2.2 (by decide) (by decide))
  rw [H3.out] at HR1
  clear HA2 HO2 l3
  go_wp2_with fail
  refine HR1.out.mono ?_
  rintro e w4 ⟨rfl, n4⟩
  have HO4 := Lib.hid (HO3.out.later n4)
  have HR2 := Lib.hid (rateq p _ _ 10 w4 HO4.out.ms H0.out.2.2 (by decide) (by decide))
  rw [H4.out] at HR2
  clear HR1 HO3 n4
  go_wp2_with fail
  refine HR2.out.mono ?_
  rintro e w5 ⟨rfl, n5⟩
  have HO5 := Lib.hid (HO4.out.later n5)
  have HT := Lib.hid (total p _ _ w5 HO5.out.ms)
  clear HR2 HO4 n5
  go_wp2_with fail
  refine HT.out.mono ?_
  rintro e w6 ⟨rfl, rfl⟩
  go_wp2
  go_ret
  exact ⟨rfl, HO5.out.n⟩

theorem may_law (a0 : Int) (W : World) (g0 : -9223372036854775808 ≤ a0) (g0' : a0 ≤ 9223372036854775807) :
    Calls Try.prog 6 #[.int .i64 a0] W fun e W' => e = .returned (.bool true) ∧ Below W.heap.size W W' := by
  by_cases hv : 1 ≤ a0 ∧ a0 ≤ 1048576
  · have HN := Lib.hid (new_ok a0 W hv)
    have d1 : decide (1 ≤ a0) = true := decide_eq_true hv.1
    have d2 : decide (a0 ≤ 1048576) = true := decide_eq_true hv.2
    clear hv g0 g0'
    go_enter Try.func6, Try.ntmps6
    go_wp2_with fail
    refine HN.out.mono ?_
    rintro e w1 ⟨p, rfl, o1⟩
    have HO1 := Lib.hid o1
    have HW := Lib.hid (awake w1)
    clear HN o1
    go_wp2_with fail
    refine HW.out.mono ?_
    rintro e w2 ⟨rfl, n2⟩
    have HO2 := Lib.hid (HO1.out.later n2)
    clear HW HO1 n2
    go_wp2
    go_ret
    exact ⟨rfl, HO2.out.below⟩
  · have HN := Lib.hid (new_bad a0 W hv)
    have HD : Hid (∀ W', New W W' → Below W.heap.size W W') := Lib.hid (fun W' n => n.below (Nat.le_refl _) (fun _ _ h => h.elim))
    have hc : decide (1 ≤ a0) = false ∨ (decide (1 ≤ a0) = true ∧ decide (a0 ≤ 1048576) = false) := by
      by_cases h : 1 ≤ a0
      · exact .inr ⟨decide_eq_true h, decide_eq_false (fun h' => hv ⟨h, h'⟩)⟩
      · exact .inl (decide_eq_false h)
    have HW := Lib.hid (awake W)
    clear hv g0 g0'
    rcases hc with d1 | ⟨d1, d2⟩
    all_goals
      go_enter Try.func6, Try.ntmps6
      go_wp2_with fail
      refine HN.out.mono ?_
      rintro e w1 ⟨rfl, rfl⟩
      go_wp2_with fail
      refine HW.out.mono ?_
      rintro e w2 ⟨rfl, n2⟩
      have HB := Lib.hid (HD.out _ n2)
      clear HW n2
      go_wp2
      go_ret
      exact ⟨rfl, HB.out⟩
end Go.Proofs.Ytjiodpbgjhoakab.rat
