/-
  The functions of package serial, and those of its reference, over this translation: what each call returns.
-/
import Derived.Test.YtijpgkkhjjpjoaaRows
import Derived.WalkKit
import Derived.WalkSpells
import Derived.WalkLawsBesides
import Derived.Handy
import Derived.Lib.Hide
namespace Go.Proofs.Ytijpgkkhjjpjoaa.ser
open Go.RowKit
set_option linter.unusedVariables false

/-- how far a is ahead of b, where the numbers wrap around at m -/
def sd (m a b : Int) : Int := if (a - b) % m < m / 2 then (a - b) % m else (a - b) % m - m

theorem w16 (n : Int) : IntKind.u16.wrap n = n % 65536 := by simp [IntKind.wrap, IntKind.bits, IntKind.signed]
theorem w32 (n : Int) : IntKind.u32.wrap n = n % 4294967296 := by simp [IntKind.wrap, IntKind.bits, IntKind.signed]

theorem ret_int {k : IntKind} {a b : Int} (h : a = b) : Ending.returned (.int k a) = .returned (.int k b) := by rw [h]
theorem ret_bool {a b : Bool} (h : a = b) : Ending.returned (.bool a) = .returned (.bool b) := by rw [h]

theorem sd_bd16 (a b : Int) : -32768 ≤ sd 65536 a b ∧ sd 65536 a b ≤ 32767 := by unfold sd; split <;> omega
theorem sd_bd32 (a b : Int) : -2147483648 ≤ sd 4294967296 a b ∧ sd 4294967296 a b ≤ 2147483647 := by unfold sd; split <;> omega


theorem modulus32 (w : World) :
    Calls Try.prog 33 #[] w fun e w' => e = .returned (.int .i64 4294967296) ∧ w = w' := by
  go_enter Try.func33, Try.ntmps33
  go_wp2
  go_ret
  exact ⟨by kernel_rfl, rfl⟩


theorem dist32 (a b : Int) (w : World) :
    Calls Try.prog 19 #[.int .u32 a, .int .u32 b] w fun e w' => e = .returned (.int .i64 (sd 4294967296 a b)) ∧ w = w' := by
  have e1 : wrap64 (IntKind.u32.wrap (a - b)) = (a - b) % 4294967296 := by rw [w32]; unfold wrap64; omega
  have e2 : wrap64 ((a - b) % 4294967296 - 4294967296) = (a - b) % 4294967296 - 4294967296 := by unfold wrap64; omega
  by_cases h : 2147483648 ≤ (a - b) % 4294967296
  all_goals
    go_enter Try.func19, Try.ntmps19
    go_wp2_with (go_at_call 33; refine (modulus32 _).mono ?_; rintro e w' ⟨rfl, rfl⟩)
    go_ret
    exact ⟨ret_int (by unfold sd; first | rw [if_neg (by omega)] | rw [if_pos (by omega)]), rfl⟩




theorem mod_in16 (a b : Int) : (a + b % 65536) % 65536 = (a + b) % 65536 := by omega
theorem mod_in32 (a b : Int) : (a + b % 4294967296) % 4294967296 = (a + b) % 4294967296 := by omega
theorem ret_int' {k : IntKind} {a b : Int} (h : a = b) : Ending.returned (.int k a) = .returned (.int k b) := by rw [h]


theorem tmod_neg (n m : Int) (hm : 0 < m) (h : n.tmod m < 0) : n.tmod m + m = n % m := by
  have h1 := Int.tmod_add_mul_tdiv n m
  have h2 : -m < n.tmod m := Int.lt_tmod_of_pos n hm
  have e : n = (n.tmod m + m) + m * (n.tdiv m - 1) := by rw [Int.mul_sub]; omega
  rw [show n % m = ((n.tmod m + m) + m * (n.tdiv m - 1)) % m from by rw [← e], Int.add_mul_emod_self_left, Int.emod_eq_of_lt (by omega) (by omega)]

theorem tmod_pos (n m : Int) (hm : 0 < m) (h : 0 ≤ n.tmod m) : n.tmod m = n % m := by
  have h1 := Int.tmod_add_mul_tdiv n m
  have h2 : n.tmod m < m := Int.tmod_lt_of_pos n hm
  have e : n = n.tmod m + m * n.tdiv m := by omega
  rw [show n % m = (n.tmod m + m * n.tdiv m) % m from by rw [← e], Int.add_mul_emod_self_left, Int.emod_eq_of_lt (by omega) (by omega)]


theorem emod_sd (m d : Int) (hm : m = 65536 ∨ m = 4294967296) (a b : Int) (h : d = (a - b) % m) : (if d < m / 2 then d else d - m) = sd m a b := by subst h; rfl




end Go.Proofs.Ytijpgkkhjjpjoaa.ser
