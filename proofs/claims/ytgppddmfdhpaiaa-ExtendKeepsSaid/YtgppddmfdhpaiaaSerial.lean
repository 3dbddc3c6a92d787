/-
  The functions of package serial, and those of its reference, over this translation: what each call returns.
-/
import Derived.Test.YtgppddmfdhpaiaaRows
import Derived.WalkKit
import Derived.WalkSpells
import Derived.WalkLawsBesides
import Derived.Handy
import Derived.Lib.Hide
namespace Go.Proofs.Ytgppddmfdhpaiaa.ser
open Go.RowKit
set_option linter.unusedVariables false

/-- how far a is ahead of b, where the numbers wrap around at m -/
def sd (m a b : Int) : Int := if (a - b) % m < m / 2 then (a - b) % m else (a - b) % m - m

theorem w16 (n : Int) : IntKind.u16.wrap n = n % 65536 := by simp [IntKind.wrap, IntKind.bits, IntKind.signed]
theorem w32 (n : Int) : IntKind.u32.wrap n = n % 4294967296 := by simp [IntKind.wrap, IntKind.bits, IntKind.signed]

theorem ret_int {k : IntKind} {a b : Int} (h : a = b) : Ending.returned (.int k a) = .returned (.int k b) := by rw [h]
theorem ret_bool {a b : Bool} (h : a = b) : Ending.returned (.bool a) = .returned (.bool b) := by rw [h]

theorem sd_bd16 (a b : Int) : -32768 ≤ sd 65536 a b ∧ sd 65536 a b ≤ 32767 := by unfold sd; split <;> omega
theorem sd_bd32 (a b : Int) : -2147483648 ≤ sd 4294967296 a b ∧ sd 4294967296 a b ≤ 2147483647 := by unfold sd; split <;> omega

theorem modulus16 (w : World) :
    Calls Try.prog 60 #[] w fun e w' => e = .returned (.int .i64 65536) ∧ w = w' := by
  go_enter Try.func60, Try.ntmps60
  go_wp2
  go_ret
  exact ⟨by kernel_rfl, rfl⟩

theorem modulus32 (w : World) :
    Calls Try.prog 61 #[] w fun e w' => e = .returned (.int .i64 4294967296) ∧ w = w' := by
  go_enter Try.func61, Try.ntmps61
  go_wp2
  go_ret
  exact ⟨by kernel_rfl, rfl⟩

theorem dist16 (a b : Int) (w : World) :
    Calls Try.prog 48 #[.int .u16 a, .int .u16 b] w fun e w' => e = .returned (.int .i64 (sd 65536 a b)) ∧ w = w' := by
  have e1 : wrap64 (IntKind.u16.wrap (a - b)) = (a - b) % 65536 := by rw [w16]; unfold wrap64; omega
  have e2 : wrap64 ((a - b) % 65536 - 65536) = (a - b) % 65536 - 65536 := by unfold wrap64; omega
  by_cases h : 32768 ≤ (a - b) % 65536
  all_goals
    go_enter Try.func48, Try.ntmps48
    go_wp2_with (go_at_call 60; refine (modulus16 _).mono ?_; rintro e w' ⟨rfl, rfl⟩)
    go_ret
    exact ⟨ret_int (by unfold sd; first | rw [if_neg (by omega)] | rw [if_pos (by omega)]), rfl⟩

theorem dist32 (a b : Int) (w : World) :
    Calls Try.prog 51 #[.int .u32 a, .int .u32 b] w fun e w' => e = .returned (.int .i64 (sd 4294967296 a b)) ∧ w = w' := by
  have e1 : wrap64 (IntKind.u32.wrap (a - b)) = (a - b) % 4294967296 := by rw [w32]; unfold wrap64; omega
  have e2 : wrap64 ((a - b) % 4294967296 - 4294967296) = (a - b) % 4294967296 - 4294967296 := by unfold wrap64; omega
  by_cases h : 2147483648 ≤ (a - b) % 4294967296
  all_goals
    go_enter Try.func51, Try.ntmps51
    go_wp2_with (go_at_call 61; refine (modulus32 _).mono ?_; rintro e w' ⟨rfl, rfl⟩)
    go_ret
    exact ⟨ret_int (by unfold sd; first | rw [if_neg (by omega)] | rw [if_pos (by omega)]), rfl⟩


theorem near16 (at' a : Int) (h0 : -1125899906842624 ≤ at') (h1 : at' ≤ 1125899906842624) (w : World) :
    Calls Try.prog 32 #[.int .i64 at', .int .u16 a] w fun e w' => e = .returned (.int .i64 (at' + sd 65536 a (at' % 65536))) ∧ w = w' := by
  have hb := sd_bd16 a (at' % 65536)
  obtain ⟨hb1, hb2⟩ := hb
  have e1 : IntKind.u16.wrap at' = at' % 65536 := w16 _
  go_enter Try.func32, Try.ntmps32
  go_wp2_with (go_at_call 48; refine (dist16 _ _ _).mono ?_; rintro e w' ⟨rfl, rfl⟩)
  go_ret
  exact ⟨rfl, rfl⟩

theorem near32 (at' a : Int) (h0 : -1125899906842624 ≤ at') (h1 : at' ≤ 1125899906842624) (w : World) :
    Calls Try.prog 36 #[.int .i64 at', .int .u32 a] w fun e w' => e = .returned (.int .i64 (at' + sd 4294967296 a (at' % 4294967296))) ∧ w = w' := by
  have hb := sd_bd32 a (at' % 4294967296)
  obtain ⟨hb1, hb2⟩ := hb
  have e1 : IntKind.u32.wrap at' = at' % 4294967296 := w32 _
  go_enter Try.func36, Try.ntmps36
  go_wp2_with (go_at_call 51; refine (dist32 _ _ _).mono ?_; rintro e w' ⟨rfl, rfl⟩)
  go_ret
  exact ⟨rfl, rfl⟩

theorem mod_in16 (a b : Int) : (a + b % 65536) % 65536 = (a + b) % 65536 := by omega
theorem mod_in32 (a b : Int) : (a + b % 4294967296) % 4294967296 = (a + b) % 4294967296 := by omega
theorem ret_int' {k : IntKind} {a b : Int} (h : a = b) : Ending.returned (.int k a) = .returned (.int k b) := by rw [h]


theorem tmod_neg (n m : Int) (hm : 0 < m) (h : n.tmod m < 0) : n.tmod m + m = n % m := by
  have h1 := Int.tmod_add_mul_tdiv n m
  have h2 : -m < n.tmod m := Int.lt_tmod_of_pos n hm
  have e : n = (n.tmod m + m) + m * (n.tdiv m - 1) := by rw [Int.mul_sub]; omega
  rw [show n % m = ((n.tmod m + m) + m * (n.tdiv m - 1)) % m from by rw [← e], Int.add_mul_emod_self_left, Int.emod_eq_of_lt (by omega) (by omega)]

theorem tmod_pos (n m : Int) (hm : 0 < m) (h : 0 ≤ n.tmod m) : n.tmod m = n % m := by
  have h1 := Int.tmod_add_mul_tdiv n m
  have h2 : n.tmod m < m := Int.tmod_lt_of_pos n hm
  have e : n = n.tmod m + m * n.tdiv m := by omega
  rw [show n % m = (n.tmod m + m * n.tdiv m) % m from by rw [← e], Int.add_mul_emod_self_left, Int.emod_eq_of_lt (by omega) (by omega)]

theorem mod (n m : Int) (hm : 0 < m) (hm' : m ≤ 4294967296) (hn : -9223372036854775808 ≤ n) (hn' : n ≤ 9223372036854775807) (w : World) :
    Calls Try.prog 50 #[.int .i64 n, .int .i64 m] w fun e w' => e = .returned (.int .i64 (n % m)) ∧ w = w' := by
  have h2 : -m < n.tmod m := Int.lt_tmod_of_pos n hm
  have h3 : n.tmod m < m := Int.tmod_lt_of_pos n hm
  have hp := tmod_pos n m hm
  have hq := tmod_neg n m hm
  have HP := Lib.hid hp
  have HQ := Lib.hid hq
  clear hp hq
  generalize hr : n.tmod m = r at *
  have HR := Lib.hid hr
  have e0 : wrap64 r = r := by unfold wrap64; omega
  have hz : (m == 0) = false := by simp; omega
  by_cases h : r < 0
  all_goals
    go_enter Try.func50, Try.ntmps50
    go_wp2
    go_ret
    exact ⟨ret_int (by first | exact HQ.out h | exact HP.out (by omega)), rfl⟩

theorem emod_sd (m d : Int) (hm : m = 65536 ∨ m = 4294967296) (a b : Int) (h : d = (a - b) % m) : (if d < m / 2 then d else d - m) = sd m a b := by subst h; rfl

theorem rdist (a b m : Int) (hm : m = 65536 ∨ m = 4294967296) (ha : -2251799813685248 ≤ a) (ha' : a ≤ 2251799813685248) (hb : -2251799813685248 ≤ b) (hb' : b ≤ 2251799813685248) (w : World) :
    Calls Try.prog 49 #[.int .i64 a, .int .i64 b, .int .i64 m] w fun e w' => e = .returned (.int .i64 (sd m a b)) ∧ w = w' := by
  rcases hm with rfl | rfl
  · have h0 : 0 ≤ (a - b) % 65536 := by omega
    have h1 : (a - b) % 65536 < 65536 := by omega
    have hc := mod (a - b) 65536 (by omega) (by omega) (by omega) (by omega)
    have HC := Lib.hid hc
    clear hc
    by_cases h : (a - b) % 65536 < 32768
    all_goals
      go_enter Try.func49, Try.ntmps49
      go_wp2_with (go_at_call 50; refine (HC.out _).mono ?_; rintro e w' ⟨rfl, rfl⟩)
      go_ret
      exact ⟨ret_int (by unfold sd; first | (rw [if_pos (by omega)]; done) | (rw [if_neg (by omega)]; done)), rfl⟩
  · have h0 : 0 ≤ (a - b) % 4294967296 := by omega
    have h1 : (a - b) % 4294967296 < 4294967296 := by omega
    have hc := mod (a - b) 4294967296 (by omega) (by omega) (by omega) (by omega)
    have HC := Lib.hid hc
    clear hc
    by_cases h : (a - b) % 4294967296 < 2147483648
    all_goals
      go_enter Try.func49, Try.ntmps49
      go_wp2_with (go_at_call 50; refine (HC.out _).mono ?_; rintro e w' ⟨rfl, rfl⟩)
      go_ret
      exact ⟨ret_int (by unfold sd; first | (rw [if_pos (by omega)]; done) | (rw [if_neg (by omega)]; done)), rfl⟩



end Go.Proofs.Ytgppddmfdhpaiaa.ser
