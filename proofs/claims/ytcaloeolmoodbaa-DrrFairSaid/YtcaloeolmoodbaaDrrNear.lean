/-
  DrrFair: near; rows of whole numbers known as blocks.
-/
import Derived.Test.YtcaloeolmoodbaaDrrFairP
import Derived.Test.YtcaloeolmoodbaaDrrWaitsLaw
import Derived.Laws.CopyOwn
import Derived.Laws.MakeOwn
namespace Go.Proofs.Ytcaloeolmoodbaa.drr
open Go.RowKit mem Go.Maps
set_option linter.unusedVariables false

theorem mul_bd {a q A Q : Int} (a0 : -A ≤ a) (a1 : a ≤ A) (q0 : 0 ≤ q) (q1 : q ≤ Q) (hA : 0 ≤ A) : -(A * Q) ≤ a * q ∧ a * q ≤ A * Q := by
  have h1 : a * q ≤ A * q := Int.mul_le_mul_of_nonneg_right a1 q0
  have h2 : A * q ≤ A * Q := Int.mul_le_mul_of_nonneg_left q1 hA
  have h3 : (-A) * q ≤ a * q := Int.mul_le_mul_of_nonneg_right a0 q0
  rw [Int.neg_mul] at h3
  omega
set_option maxHeartbeats 1000000 in
theorem near_ok (a b p q m : Int) (w : World) (a0 : -100000 ≤ a) (a1 : a ≤ 100000) (b0 : -100000 ≤ b) (b1 : b ≤ 100000) (p0 : 0 ≤ p) (p1 : p ≤ 1000) (q0 : 0 ≤ q) (q1 : q ≤ 1000) (m0 : 0 ≤ m) (m1 : m ≤ 100) (h : nearP a b p q m) :
    Calls Try.prog 27 #[.int .i64 a, .int .i64 b, .int .i64 p, .int .i64 q, .int .i64 m] w fun e w' => e = .returned (.bool true) ∧ w' = w := by
  obtain ⟨h1, h2⟩ := h
  obtain ⟨x0, x1⟩ := mul_bd (A := 100000) (Q := 1000) a0 a1 q0 q1 (by omega)
  obtain ⟨y0, y1⟩ := mul_bd (A := 100000) (Q := 1000) b0 b1 p0 p1 (by omega)
  obtain ⟨u0, u1⟩ := mul_bd (A := 1000) (Q := 1000) (a := p) (by omega) p1 q0 q1 (by omega)
  obtain ⟨v0, v1⟩ := mul_bd (A := 100) (Q := 1000) (a := m) (by omega) m1 q0 q1 (by omega)
  obtain ⟨t0, t1⟩ := mul_bd (A := 100) (Q := 1000) (a := m) (by omega) m1 p0 p1 (by omega)
  have W1 : IntKind.i64.wrap (a * q) = a * q := IntWalk.i64_in _ (by omega)
  have W2 : IntKind.i64.wrap (b * p) = b * p := IntWalk.i64_in _ (by omega)
  have W3 : IntKind.i64.wrap (a * q - b * p) = a * q - b * p := IntWalk.i64_in _ (by omega)
  have W4 : IntKind.i64.wrap (p * q) = p * q := IntWalk.i64_in _ (by omega)
  have W5 : IntKind.i64.wrap (m * q) = m * q := IntWalk.i64_in _ (by omega)
  have W6 : IntKind.i64.wrap (p * q + m * q) = p * q + m * q := IntWalk.i64_in _ (by omega)
  have W7 : IntKind.i64.wrap (m * p) = m * p := IntWalk.i64_in _ (by omega)
  have W8 : IntKind.i64.wrap (p * q + m * q + m * p) = p * q + m * q + m * p := IntWalk.i64_in _ (by omega)
  have W9 : IntKind.i64.wrap (-(a * q - b * p)) = -(a * q - b * p) := IntWalk.i64_in _ (by omega)
  have d1 : decide (a * q - b * p ≤ p * q + m * q + m * p) = true := decide_eq_true h1
  have d2 : decide (-(a * q - b * p) ≤ p * q + m * q + m * p) = true := decide_eq_true h2
  clear h1 h2 x0 x1 y0 y1 u0 u1 v0 v1 t0 t1 a0 a1 b0 b1 p0 p1 q0 q1 m0 m1
  go_enter Try.func27, Try.ntmps27
  go_wp2
  go_ret
  exact ⟨rfl, rfl⟩

/-- a block of whole numbers -/
abbrev nums (L : List Int) : Array Value := (L.map (Value.int .i64)).toArray
theorem nums_at (L : List Int) (j : Nat) (h : j < L.length) : (nums L)[j]? = some (.int .i64 (L.getD j 0)) := by
  simp [nums, h, List.getD]
theorem nums_set (L : List Int) (j : Nat) (x : Int) : (nums L).setIfInBounds j (.int .i64 x) = nums (L.set j x) := by
  apply Array.ext'
  simp [nums, List.map_set]
theorem getD_set (L : List Int) (j i : Nat) (x : Int) (h : j < L.length) : (L.set j x).getD i 0 = if i = j then x else L.getD i 0 := by
  rw [List.getD_eq_getElem?_getD, List.getElem?_set]
  by_cases e : i = j
  · subst e
    simp [h]
  · have : ¬ j = i := fun e2 => e e2.symm
    simp [e, this, List.getD]
theorem make_int (n : Nat) (hn : n ≤ 100) (w : World) : (Instr.makeSlice 45 (.int .i64 (n : Int)) (.int .i64 (n : Int))).run Try.prog w = .ok (.slice (some ⟨w.heap.size, 0, none⟩) n n) (w.alloc (.cells (nums (List.replicate n 0)) 3)) := by
  obtain ⟨i0, hi, hz0, hz1, hz2⟩ := info_parts infoI
  have h := run_make (P := Try.prog) w 45 3 i0 (.int .i64 0) Try.underlying45 hi hz0 .i64 .i64 n n (by omega) (Int.le_refl _) (by rw [hz2]; omega) (by omega)
  simp only [Int.toNat_natCast] at h
  rw [hz1] at h
  have e : madeCells (Value.cells (.int .i64 0)) (n * 1) = nums (List.replicate n 0) := by
    apply Array.ext'
    show (madeCells #[.int .i64 0] (n * 1)).toList = _
    rw [Nat.mul_one, toList_madeCells_one]
    simp [nums]
  rw [e] at h
  exact h
def qL (k : Nat) (q : Nat → Int) : List Int := (List.range k).map q
theorem qL_succ (k : Nat) (q : Nat → Int) : qL (k + 1) q = qL k q ++ [q k] := by
  unfold qL
  rw [List.range_succ, List.map_append]; rfl
theorem qL_len (k : Nat) (q : Nat → Int) : (qL k q).length = k := by unfold qL; rw [List.length_map, List.length_range]
theorem qL_get (k : Nat) (q : Nat → Int) (i : Nat) (h : i < k) : (qL k q).getD i 0 = q i := by
  unfold qL
  rw [List.getD_eq_getElem?_getD, List.getElem?_map, List.getElem?_range h]; rfl
end Go.Proofs.Ytcaloeolmoodbaa.drr
