/-
  ReorderNone: what comes in its order waits for nothing; a gap is told, and closed.
-/
import Derived.Test.YtodnalkgbnkdjaaReoAwake
import Derived.Test.YtodnalkgbnkdjaaMask
namespace Go.Proofs.Ytodnalkgbnkdjaa.reo
open Go.RowKit mem
open ints (IE)
set_option linter.unusedVariables false

/-- behind k things in their order -/
def upA : Nat → B
  | 0 => zeroB 50 9
  | k + 1 => putB (upA k) (th (k : Int))
/-- behind the one far ahead; then j more, downward -/
def gapB (n g : Nat) : B := putB (upA (n + 1)) (th ((n : Int) + 1 + (1 + (g : Int))))
def dnB (n g : Nat) : Nat → B
  | 0 => gapB n g
  | j + 1 => putB (dnB n g j) (th ((n : Int) + 1 + ((g : Int) - (j : Int))))
def chkA : Bool := (List.range 32).all fun k => putE (upA k) (th (k : Int)) == 0 && (putO (upA k) (th (k : Int))).length == 1 && (upA (k + 1)).L.length == 0
def chkB (n g : Nat) : Bool :=
  (putO (upA (n + 1)) (th ((n : Int) + 1 + (1 + (g : Int))))).length == 0 && (missA (gapB n g)).take 99 == gapsN ((n : Int) + 1) (g + 1) &&
  (List.range g).all (fun j => (putO (dnB n g j) (th ((n : Int) + 1 + ((g : Int) - (j : Int))))).length == 0) &&
  (putO (dnB n g g) (th ((n : Int) + 1))).length == g + 2 && (putB (dnB n g g) (th ((n : Int) + 1))).L.length == 0 && (putB (dnB n g g) (th ((n : Int) + 1))).lost == 0
theorem chkA_all : chkA = true := by kernel_rfl
theorem chkB_all : ((List.range 32).all fun n => (List.range 16).all fun g => chkB n g) = true := by kernel_rfl
theorem chkA_at (k : Nat) (hk : k < 32) : putE (upA k) (th (k : Int)) = 0 ∧ (putO (upA k) (th (k : Int))).length = 1 ∧ (upA (k + 1)).L.length = 0 := by
  have h := List.all_eq_true.1 chkA_all k (List.mem_range.2 hk)
  simp only [Bool.and_eq_true, beq_iff_eq] at h
  exact ⟨h.1.1, h.1.2, h.2⟩
theorem chkB_at (n g : Nat) (hn : n < 32) (hg : g < 16) : (putO (upA (n + 1)) (th ((n : Int) + 1 + (1 + (g : Int))))).length = 0 ∧ (missA (gapB n g)).take 99 = gapsN ((n : Int) + 1) (g + 1) ∧
    (∀ j, j < g → (putO (dnB n g j) (th ((n : Int) + 1 + ((g : Int) - (j : Int))))).length = 0) ∧
    (putO (dnB n g g) (th ((n : Int) + 1))).length = g + 2 ∧ (putB (dnB n g g) (th ((n : Int) + 1))).L.length = 0 ∧ (putB (dnB n g g) (th ((n : Int) + 1))).lost = 0 := by
  have h := List.all_eq_true.1 (List.all_eq_true.1 chkB_all n (List.mem_range.2 hn)) g (List.mem_range.2 hg)
  unfold chkB at h
  simp only [Bool.and_eq_true, beq_iff_eq] at h
  obtain ⟨⟨⟨⟨⟨h1, h2⟩, h3⟩, h4⟩, h5⟩, h6⟩ := h
  refine ⟨h1, h2, fun j hj => ?_, h4, h5, h6⟩
  have := List.all_eq_true.1 h3 j (List.mem_range.2 hj)
  simpa using this
theorem tk0 (a : Int) : 0 ≤ (th a).tick := Int.le_refl 0
theorem tk1 (a : Int) : (th a).tick ≤ 1099511627776 := by show (0 : Int) ≤ _; decide
theorem upA_fine : ∀ k : Nat, k ≤ 40 → Fine (upA k) 1000
  | 0, _ => zero_fine (by decide) (by decide)
  | k + 1, h => put_fine (upA_fine k (by omega)) (by show (0 : Int) ≤ (k : Int); omega) (by show (k : Int) ≤ 1000; omega) (tk0 _) (tk1 _)
theorem dnB_fine (n g : Nat) (hn : n < 32) (hg : g < 16) : ∀ j : Nat, j ≤ g → Fine (dnB n g j) 1000
  | 0, _ => put_fine (upA_fine (n + 1) (by omega)) (by show (0 : Int) ≤ (n : Int) + 1 + (1 + (g : Int)); omega) (by show (n : Int) + 1 + (1 + (g : Int)) ≤ 1000; omega) (tk0 _) (tk1 _)
  | j + 1, h => put_fine (dnB_fine n g hn hg j (by omega)) (by show (0 : Int) ≤ (n : Int) + 1 + ((g : Int) - (j : Int)); omega) (by show (n : Int) + 1 + ((g : Int) - (j : Int)) ≤ 1000; omega) (tk0 _) (tk1 _)

set_option maxRecDepth 10000 in
set_option maxHeartbeats 4000000 in
theorem none_law (a b : Int) (W : World) (g0 : -9223372036854775808 ≤ a) (g0' : a ≤ 9223372036854775807) (g1 : -9223372036854775808 ≤ b) (g1' : b ≤ 9223372036854775807) :
    Calls Try.prog 7 #[.int .i64 a, .int .i64 b] W fun e W' => e = .returned (.bool true) ∧ Below W.heap.size W W' := by
  have HA := Lib.hid (awake W)
  have HN := Lib.hid (fun w (n : New W w) => new_own 50 9 W w n (by decide))
  have m1 := mask.mask5 a
  have m2 := mask.mask4 b
  obtain ⟨n, hn, hn2⟩ : ∃ n : Nat, a % 32 = (n : Int) ∧ n < 32 := ⟨(a % 32).toNat, by omega, by omega⟩
  obtain ⟨g, hg, hg2⟩ : ∃ g : Nat, b % 16 = (g : Int) ∧ g < 16 := ⟨(b % 16).toNat, by omega, by omega⟩
  rw [hn] at m1
  rw [hg] at m2
  have HC := Lib.hid (chkB_at n g hn2 hg2)
  clear hn hg g0 g0' g1 g1'
  have s1 : IntKind.i64.wrap (1 + (g : Int)) = 1 + (g : Int) := IntWalk.i64_in _ (by omega)
  have s2 : IntKind.i64.wrap ((n : Int) + 1) = (n : Int) + 1 := IntWalk.i64_in _ (by omega)
  have s3 : IntKind.i64.wrap ((n : Int) + 1 + (1 + (g : Int))) = (n : Int) + 1 + (1 + (g : Int)) := IntWalk.i64_in _ (by omega)
  go_enter Try.func7, Try.ntmps7
  go_wp2_with fail
  refine HA.out.mono ?_
  rintro e w1 ⟨rfl, n1⟩
  have HN1 := Lib.hid (HN.out w1 n1)
  clear n1 HA HN
  go_wp2_with fail
  refine HN1.out.mono ?_
  rintro e w2 ⟨p, rfl, o2⟩
  have O2 := Lib.hid o2
  clear o2 HN1
  go_wp2_with fail
  go_loopw [35] (fun i wr => ∃ (k : Nat) (v : Value), k ≤ n + 1 ∧ i = .int .i64 k ∧ Own W wr p v (upA k)) (fun i _ => n + 1 - (intOf i).toNat)
  case atStart => exact ⟨0, _, by omega, rfl, O2.out⟩
  case round =>
    obtain ⟨k, v, hk, rfl, ho⟩ := hrel
    have O := Lib.hid ho
    clear O2 ho
    by_cases hlt : k < n + 1
    · have d1 : decide ((k : Int) < (n : Int) + 1) = true := decide_eq_true (by omega)
      obtain ⟨h1, h2, h3⟩ := chkA_at k (by omega)
      have F := Lib.hid (upA_fine k (by omega))
      go_wp2_with fail
      refine (own_put (th (k : Int)) O.out F.out (by decide) (by show (0 : Int) ≤ (k : Int); omega) (by show (k : Int) ≤ 1000; omega) (tk0 _) (tk1 _)).mono ?_
      rintro e w4 ⟨v4, ao, c, rfl, o4, t4⟩
      change Own W w4 p v4 (upA (k + 1)) at o4
      have O4 := Lib.hid o4
      rw [h1, h2]
      clear o4 t4
      go_wp2_with fail
      refine (len_ p v4 (upA (k + 1)) w4 O4.out.bs).mono ?_
      rintro e w5 ⟨rfl, rfl⟩
      rw [h3]
      go_wp2_with fail
      go_roundw
      case rel => exact ⟨k + 1, v4, by omega, by go_num, O4.out⟩
      case measure => simp [intOf]; omega
    · obtain rfl : k = n + 1 := by omega
      have d1 : decide (((n + 1 : Nat) : Int) < (n : Int) + 1) = false := decide_eq_false (by omega)
      obtain ⟨q1, q2, q3, q4, q5, q6⟩ := HC.out
      have F := Lib.hid (upA_fine (n + 1) (by omega))
      have FD := Lib.hid (fun j hj => dnB_fine n g hn2 hg2 j hj)
      have Q3 := Lib.hid q3
      clear hlt q3 HC
      go_wp2_with fail
      refine (own_put (th ((n : Int) + 1 + (1 + (g : Int)))) O.out F.out (by decide) (by show (0 : Int) ≤ (n : Int) + 1 + (1 + (g : Int)); omega) (by show (n : Int) + 1 + (1 + (g : Int)) ≤ 1000; omega) (tk0 _) (tk1 _)).mono ?_
      rintro e w4 ⟨v4, ao, c, rfl, o4, t4⟩
      change Own W w4 p v4 (gapB n g) at o4
      have O4 := Lib.hid o4
      rw [q1]
      clear o4 t4 q1
      go_wp2_with fail
      refine (missing_ p v4 (gapB n g) 99 1000 w4 O4.out.bs (FD.out 0 (Nat.zero_le _)).ok (by decide) (by decide)).mono ?_
      rintro e w5 ⟨u, rfl, g5⟩
      rw [show (99 : Int).toNat = 99 from rfl, q2] at g5
      obtain ⟨am, cm, hu, _, hrm, _⟩ := g5.own.form
      rw [gapsN_length] at hu
      have O5 := Lib.hid (O4.out.later g5.n)
      have hne : gapsN ((n : Int) + 1) (g + 1) ≠ [] := fun e => by have := congrArg List.length e; rw [gapsN_length] at this; cases this
      rcases hrm with h0 | ⟨gm, rfl, _, hcm⟩
      · exact absurd h0 hne
      have x0 : w5.cell? ⟨gm, 0, none⟩ = some (.int .i64 ((n : Int) + 1)) := by simpa using hcm 0 ((n : Int) + 1) (by simp [gapsN]) 0 _ rfl
      have x1 : w5.cell? ⟨gm, g, none⟩ = some (.int .i64 ((n : Int) + 1 + (g : Int))) := by simpa [IE] using hcm g ((n : Int) + 1 + (g : Int)) (by simp [gapsN]) 0 _ rfl
      subst hu
      have hl1 : (((g + 1 : Nat) : Int) != 1 + (g : Int)) = false := by simp; omega
      have hl2 : (((n : Int) + 1 + (g : Int)) != (n : Int) + 1 + (1 + (g : Int)) - 1) = false := by simp; omega
      have hl3 : (1 : Int) + (g : Int) - 1 = (g : Int) := by omega
      have s4 : IntKind.i64.wrap (1 + (g : Int) - 1) = (g : Int) := by rw [hl3]; exact IntWalk.i64_in _ (by omega)
      have s5 : IntKind.i64.wrap ((n : Int) + 1 + (1 + (g : Int)) - 1) = (n : Int) + 1 + (1 + (g : Int)) - 1 := IntWalk.i64_in _ (by omega)
      have hl4 : (g : Int) < ((g + 1 : Nat) : Int) := by omega
      have hl5 : (0 : Int) < ((g + 1 : Nat) : Int) := by omega
      have hl6 : g < g + 1 := by omega
      clear g5 hcm hne q2 O4
      go_wp2_with fail
      go_loopw [14] (fun i wr => ∃ (j : Nat) (v : Value), j ≤ g ∧ i = .int .i64 ((g : Int) - (j : Int)) ∧ Own W wr p v (dnB n g j)) (fun i _ => (intOf i).toNat)
      case atStart => exact ⟨0, _, by omega, by simp, O5.out⟩
      case round =>
        obtain ⟨j, v6, hj, rfl, ho⟩ := hrel
        have O6 := Lib.hid ho
        clear O5 ho x0 x1
        by_cases hjd : j < g
        · have d2 : decide (0 < (g : Int) - (j : Int)) = true := decide_eq_true (by omega)
          have q3 := Q3.out j hjd
          have s6 : IntKind.i64.wrap ((n : Int) + 1 + ((g : Int) - (j : Int))) = (n : Int) + 1 + ((g : Int) - (j : Int)) := IntWalk.i64_in _ (by omega)
          have s7 : IntKind.i64.wrap ((g : Int) - (j : Int) - 1) = (g : Int) - (j : Int) - 1 := IntWalk.i64_in _ (by omega)
          go_wp2_with fail
          refine (own_put (th ((n : Int) + 1 + ((g : Int) - (j : Int)))) O6.out (FD.out j hj) (by decide) (by show (0 : Int) ≤ (n : Int) + 1 + ((g : Int) - (j : Int)); omega) (by show (n : Int) + 1 + ((g : Int) - (j : Int)) ≤ 1000; omega) (tk0 _) (tk1 _)).mono ?_
          rintro e w7 ⟨v7, ao7, c7, rfl, o7, t7⟩
          change Own W w7 p v7 (dnB n g (j + 1)) at o7
          have O7 := Lib.hid o7
          rw [q3]
          clear o7 t7 q3
          go_wp2_with fail
          go_roundw
          case rel => exact ⟨j + 1, v7, by omega, by push_cast; congr 1; omega, O7.out⟩
          case measure => simp [intOf]; omega
        · obtain rfl : j = g := by omega
          have d2 : decide (0 < (j : Int) - (j : Int)) = false := decide_eq_false (by omega)
          have s8 : IntKind.i64.wrap (1 + (j : Int) + 1) = 1 + (j : Int) + 1 := IntWalk.i64_in _ (by omega)
          have hl7 : (((j + 2 : Nat) : Int) == 1 + (j : Int) + 1) = true := by simp; omega
          clear hjd
          go_wp2_with fail
          refine (own_put (th ((n : Int) + 1)) O6.out (FD.out j hj) (by decide) (by show (0 : Int) ≤ (n : Int) + 1; omega) (by show (n : Int) + 1 ≤ 1000; omega) (tk0 _) (tk1 _)).mono ?_
          rintro e w7 ⟨v7, ao7, c7, rfl, o7, t7⟩
          have O7 := Lib.hid o7
          have Q := Lib.hid (And.intro q5 q6)
          rw [q4]
          clear o7 t7 q4 q5 q6
          go_wp2_with fail
          refine (len_ p v7 _ w7 O7.out.bs).mono ?_
          rintro e w8 ⟨rfl, rfl⟩
          rw [Q.out.1]
          go_wp2_with fail
          refine (lost_ p v7 _ w8 O7.out.bs).mono ?_
          rintro e w9 ⟨rfl, rfl⟩
          rw [Q.out.2]
          go_wp2
          go_ret
          exact ⟨rfl, O7.out.below⟩
end Go.Proofs.Ytodnalkgbnkdjaa.reo
