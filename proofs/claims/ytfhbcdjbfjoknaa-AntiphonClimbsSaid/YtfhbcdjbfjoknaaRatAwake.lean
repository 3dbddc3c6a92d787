/-
  The place of the oldest as a function; 'awake' of layer 24; RateMay.
-/
import Derived.Test.YtfhbcdjbfjoknaaRatRate
namespace Go.Proofs.Ytfhbcdjbfjoknaa.rat
open Go.RowKit mem
set_option linter.unusedVariables false

def cutOf : List (Int × Int) → Int → Nat
  | [], _ => 0
  | x :: xs, t => if x.1 < t then cutOf xs t + 1 else 0
theorem Cut.is {l : List (Int × Int)} {t : Int} {n : Nat} (h : Cut l t n) : n = cutOf l t := by
  induction l generalizing n with
  | nil => have := h.1; simp at this; simp [cutOf, this]
  | cons x xs ih =>
    obtain ⟨h1, h2, h3⟩ := h
    unfold cutOf
    split
    · rename_i hx
      cases n with
      | zero => have := h3 0 (by simp) (by omega); simp at this; omega
      | succ m =>
        have := ih (n := m) ⟨by simp at h1; omega, fun k hk hm => by have := h2 (k + 1) (by simp; omega) (by omega); simpa using this, fun k hk hm => by have := h3 (k + 1) (by simp; omega) (by omega); simpa using this⟩
        omega
    · rename_i hx
      cases n with
      | zero => rfl
      | succ m => exact absurd (by have := h2 0 (by simp) (by omega); simpa using this) hx
abbrev addQ (s : M) (now bytes : Int) : M := addM s now bytes (cutOf s.L (now - s.win + 1))
abbrev rateQ (s : M) (now : Int) : Int := rateF s (cutOf s.L (now - s.win + 1))
theorem addq (p : Nat) (v : Value) (s : M) (now bytes : Int) (w : World) (h : Ms w p v s) (ho : s.ok) (n0 : 0 ≤ now) (n1 : now ≤ 4398046511104) (b0 : -9223372036854775808 ≤ bytes) (b1 : bytes ≤ 9223372036854775807) :
    Calls Try.prog 27 #[.pointer (some ⟨p, 0, none⟩), .int .i64 now, .int .i64 bytes] w fun e w' => e = .returned (.tuple #[]) ∧ ∃ v', Lft w w' p v v' (addQ s now bytes) :=
  (add p v s now bytes w h ho n0 n1 b0 b1).mono (by
    rintro e w' ⟨rfl, n, v', hc, hl⟩
    exact ⟨rfl, v', by rw [hc.is] at hl; exact hl⟩)
theorem rateq (p : Nat) (v : Value) (s : M) (now : Int) (w : World) (h : Ms w p v s) (ho : s.ok) (n0 : 0 ≤ now) (n1 : now ≤ 4398046511104) :
    Calls Try.prog 49 #[.pointer (some ⟨p, 0, none⟩), .int .i64 now] w fun e w' => e = .returned (.int .i64 (rateQ s now)) ∧ New w w' :=
  (rate p v s now w h ho n0 n1).mono (by
    rintro e w' ⟨n, rfl, hc, hl⟩
    exact ⟨by rw [hc.is], hl⟩)
theorem guessq (p : Nat) (v : Value) (s : M) (now : Int) (waits : Bool) (w : World) (h : Ms w p v s) (ho : s.ok) (n0 : 0 ≤ now) (n1 : now ≤ 4398046511104) :
    Calls Try.prog 28 #[.pointer (some ⟨p, 0, none⟩), .int .i64 now, .bool waits] w fun e w' => e = .returned (.int .i64 (guessF s waits (rateQ s now))) ∧ New w w' :=
  (guess p v s now waits w h ho n0 n1).mono (by
    rintro e w' ⟨n, rfl, hc, hl⟩
    exact ⟨by rw [hc.is], hl⟩)

theorem Own.cap {w w1 w2 : World} {p : Nat} {v : Value} {s t : M} (h : Own w w1 p v s) (k : Ms w2 p v t) (n : Turns (· = p) w1 w2) : Own w w2 p v t :=
  ⟨k, h.n.trans (n.mono (fun i _ hi => .inr (by have := h.p0; omega))), h.p0, h.v0⟩
abbrev m1 : M := ⟨10, 5, 0, [(0, 0)]⟩
abbrev m2 : M := ⟨10, 10, 0, [(0, 0), (9, 5)]⟩
theorem ok_of {s : M} (h : (decide (1 ≤ s.win) && decide (s.win ≤ 1048576) && decide (0 ≤ s.total) && decide (s.total ≤ 1125899906842624) && decide (0 ≤ s.cap) && decide (s.cap ≤ 1099511627776) && decide (s.L.length ≤ 2000) && (List.range s.L.length).all (fun j => (List.range j).all (fun i => decide ((s.L.getD i (0, 0)).1 < (s.L.getD j (0, 0)).1))) && s.L.all (fun x => decide (0 ≤ x.2) && decide (x.2 ≤ s.total))) = true) : s.ok := by
  simp only [Bool.and_eq_true, decide_eq_true_eq] at h
  obtain ⟨⟨⟨⟨⟨⟨⟨⟨h1, h2⟩, h3⟩, h4⟩, h5⟩, h6⟩, h7⟩, h8⟩, h9⟩ := h
  refine ⟨h1, h2, h3, h4, h5, h6, ?_, h7, ?_⟩
  · intro i j hi hj
    have a := List.all_eq_true.1 h8 j (List.mem_range.2 hj)
    have b := List.all_eq_true.1 a i (List.mem_range.2 hi)
    have hil : i < s.L.length := by omega
    simpa [hj, hil] using b
  · intro x hx
    have a := List.all_eq_true.1 h9 x hx
    simpa using a


end Go.Proofs.Ytfhbcdjbfjoknaa.rat
