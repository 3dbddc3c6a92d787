/-
  StallEnds: the law.
-/
import Derived.Test.YtjiodpbgjhoakaaStlAwake
import Derived.Test.YtjiodpbgjhoakaaMask
namespace Go.Proofs.Ytjiodpbgjhoakaa.stl
open Go.RowKit mem
set_option linter.unusedVariables false

/-- something has been waiting since 0, and k ticks have been told -/
def wt (a b : Int) (k : Nat) : Q := if k = 0 then fresh a b else ⟨a, b, false, true, 0, 0⟩
abbrev sus (a b : Int) : Q := ⟨a, b, true, false, a, 1⟩
theorem wt_ok (a b : Int) (h : Va a b) (k : Nat) : (wt a b k).ok := by
  unfold wt
  obtain ⟨h1, h2, h3, h4⟩ := h
  split
  · exact ⟨h1, h2, h3, h4, (by show (0 : Int) ≤ 0; omega), (by show (0 : Int) ≤ _; omega), (by show (0 : Int) ≤ 0; omega), (by show (0 : Int) ≤ _; omega)⟩
  · exact ⟨h1, h2, h3, h4, (by show (0 : Int) ≤ 0; omega), (by show (0 : Int) ≤ _; omega), (by show (0 : Int) ≤ 0; omega), (by show (0 : Int) ≤ _; omega)⟩
theorem sus_ok (a b : Int) (h : Va a b) : (sus a b).ok := by
  obtain ⟨h1, h2, h3, h4⟩ := h
  exact ⟨h1, h2, h3, h4, (by show 0 ≤ a; omega), (by show a ≤ _; omega), (by show (0 : Int) ≤ 1; omega), (by show (1 : Int) ≤ _; omega)⟩
theorem wt_step (a b : Int) (k : Nat) (ha : 1 ≤ a) (hk : (k : Int) < a) : tickA (wt a b k) k true false = 0 ∧ tickQ (wt a b k) k true false = wt a b (k + 1) := by
  by_cases h : k = 0
  · subst h
    have h1 : (0 : Int) < a := by omega
    simp [wt, tickA, tickQ, noteQ, lateA, lateQ, h1]
  · simp [wt, h, tickA, tickQ, noteQ, lateA, lateQ, hk]
theorem wt_last (a b : Int) (k : Nat) (ha : 1 ≤ a) (hk : (k : Int) = a) : tickA (wt a b k) k true false = 1 ∧ tickQ (wt a b k) k true false = sus a b := by
  have h : ¬ k = 0 := by omega
  have h2 : ¬ ((k : Int) < a) := by omega
  simp [wt, h, tickA, tickQ, noteQ, lateA, lateQ, h2, hk]
theorem sus_step (a b t : Int) (waits sent : Bool) (h : t - a < b) : tickA (sus a b) t waits sent = 0 ∧ tickQ (sus a b) t waits sent = sus a b := by
  simp [tickA, tickQ, restA, restQ, h]
theorem sus_last (a b t : Int) (waits sent : Bool) (h : ¬ t - a < b) : tickA (sus a b) t waits sent = 2 ∧ tickQ (sus a b) t waits sent = ⟨a, b, false, false, a, 1⟩ := by
  simp [tickA, tickQ, restA, restQ, h]

set_option maxHeartbeats 1000000 in
theorem ends_law (a b : Int) (waits : Bool) (w : World) (ha : -9223372036854775808 ≤ a) (ha' : a ≤ 9223372036854775807) (hb : -9223372036854775808 ≤ b) (hb' : b ≤ 9223372036854775807) :
    Calls Try.prog 9 #[.int .i64 a, .int .i64 b, .bool waits] w fun e w' => e = .returned (.bool true) ∧ Below w.heap.size w w' := by
  have m1 := mask.mask4 a
  have m2 := mask.mask5 b
  have x0 : 0 ≤ a % 16 ∧ a % 16 ≤ 15 := by omega
  have y0 : 0 ≤ b % 32 ∧ b % 32 ≤ 31 := by omega
  obtain ⟨x, hx, hx1⟩ : ∃ x : Nat, a % 16 = (x : Int) ∧ x ≤ 15 := ⟨(a % 16).toNat, by omega, by omega⟩
  obtain ⟨y, hy, hy1⟩ : ∃ y : Nat, b % 32 = (y : Int) ∧ y ≤ 31 := ⟨(b % 32).toNat, by omega, by omega⟩
  rw [hx] at m1
  rw [hy] at m2
  have HV : Hid (Va (1 + (x : Int)) (1 + (y : Int))) := Lib.hid ⟨by omega, by omega, by omega, by omega⟩
  have HN := Lib.hid (fun w => new_ok (1 + (x : Int)) (1 + (y : Int)) w HV.out)
  have HA := Lib.hid (fun w => awake w)
  clear hx hy x0 y0
  go_enter Try.func9, Try.ntmps9
  go_wp2_with fail
  refine (HN.out _).mono ?_
  rintro e w1 ⟨p, rfl, o1⟩
  have HO1 := Lib.hid o1
  clear HN o1
  go_wp2_with fail
  refine (HA.out _).mono ?_
  rintro e w2 ⟨rfl, n2⟩
  have HO2 := Lib.hid (HO1.out.later n2)
  clear HO1 n2
  go_wp2_with fail
  go_loopw [9] (fun i wr => ∃ k : Nat, k ≤ x + 1 ∧ i = .int .i64 k ∧ Own w wr p (wt (1 + (x : Int)) (1 + (y : Int)) k)) (fun i _ => 100 - (intOf i).toNat)
  case atStart => exact ⟨0, by omega, rfl, HO2.out⟩
  case round =>
    obtain ⟨k, hk, rfl, h3⟩ := hrel
    clear HO2
    have H3 := Lib.hid h3
    clear h3
    have d1 : decide ((k : Int) < 100) = true := decide_eq_true (by omega)
    have HT := Lib.hid (tick p _ (k : Int) true false wr H3.out.sq (wt_ok _ _ HV.out k) (by omega) (by omega))
    by_cases hgo : k < x + 1
    · have hs := wt_step (1 + (x : Int)) (1 + (y : Int)) k (by omega) (by omega)
      rw [hs.1, hs.2] at HT
      clear hs
      go_wp2_with fail
      refine HT.out.mono ?_
      rintro e w3 ⟨rfl, a3⟩
      have H4 := Lib.hid (H3.out.at_ a3)
      clear HT H3 a3
      go_wp2
      go_roundw
      case rel => exact ⟨k + 1, by omega, by go_num, H4.out⟩
      case measure => simp [intOf]; omega
    · have hs := wt_last (1 + (x : Int)) (1 + (y : Int)) k (by omega) (by omega)
      rw [hs.1, hs.2] at HT
      obtain rfl : k = x + 1 := by omega
      clear hs
      go_wp2_with fail
      refine HT.out.mono ?_
      rintro e w3 ⟨rfl, a3⟩
      have H4 := Lib.hid (H3.out.at_ a3)
      clear HT H3 a3
      have HS := Lib.hid (suspended p _ w3 H4.out.sq)
      rw [show (sus (1 + (x : Int)) (1 + (y : Int))).susp = true from rfl] at HS
      have d2 : (((x + 1 : Nat) : Int) != 1 + (x : Int)) = false := by simp; omega
      have d3 : ((x : Int) + 1 != 1 + (x : Int)) = false := by simp; omega
      go_wp2_with fail
      refine HS.out.mono ?_
      rintro e w4 ⟨rfl, rfl⟩
      clear HS
      go_wp2_with fail
      go_loopw [10] (fun i wr => ∃ j : Nat, j ≤ y ∧ i = .int .i64 (j + 1 : Nat) ∧ Own w wr p (sus (1 + (x : Int)) (1 + (y : Int)))) (fun i _ => y + 1 - (intOf i).toNat)
      case atStart => exact ⟨0, by omega, rfl, H4.out⟩
      case round =>
        obtain ⟨j, hj, rfl, h5⟩ := hrel
        clear H4
        have H5 := Lib.hid h5
        clear h5
        by_cases hgo2 : j < y
        · have d4 : decide (((j + 1 : Nat) : Int) < 1 + (y : Int)) = true := decide_eq_true (by omega)
          have HT := Lib.hid (tick p _ ((x : Int) + 1 + ((j : Int) + 1)) waits true wr H5.out.sq (sus_ok _ _ HV.out) (by omega) (by omega))
          have hs := sus_step (1 + (x : Int)) (1 + (y : Int)) ((x : Int) + 1 + ((j : Int) + 1)) waits true (by omega)
          rw [hs.1, hs.2] at HT
          clear hs
          go_wp2_with fail
          refine HT.out.mono ?_
          rintro e w5 ⟨rfl, a5⟩
          have H6 := Lib.hid (H5.out.at_ a5)
          clear HT H5 a5
          go_wp2
          go_roundw
          case rel => exact ⟨j + 1, by omega, by go_num, H6.out⟩
          case measure => simp [intOf]; omega
        · obtain rfl : j = y := by omega
          have d4 : decide (((j + 1 : Nat) : Int) < 1 + (j : Int)) = false := decide_eq_false (by omega)
          have HT := Lib.hid (tick p _ ((x : Int) + 1 + (1 + (j : Int))) waits false wr H5.out.sq (sus_ok _ _ HV.out) (by omega) (by omega))
          have hs := sus_last (1 + (x : Int)) (1 + (j : Int)) ((x : Int) + 1 + (1 + (j : Int))) waits false (by omega)
          rw [hs.1, hs.2] at HT
          clear hs
          go_wp2_with fail
          refine HT.out.mono ?_
          rintro e w5 ⟨rfl, a5⟩
          have H6 := Lib.hid (H5.out.at_ a5)
          clear HT H5 a5
          have HS := Lib.hid (suspended p _ w5 H6.out.sq)
          go_wp2_with fail
          refine HS.out.mono ?_
          rintro e w6 ⟨rfl, rfl⟩
          go_wp2
          go_ret
          exact ⟨rfl, H6.out.below⟩
end Go.Proofs.Ytjiodpbgjhoakaa.stl
