/-
  The functions of package serial, and those of its reference, over this translation: what each call returns.
-/
import Derived.Test.YtefhhilaadmghaaRows
import Derived.WalkKit
import Derived.WalkSpells
import Derived.WalkLawsBesides
import Derived.Handy
import Derived.Lib.Hide
namespace Go.Proofs.Ytefhhilaadmghaa.ser
open Go.RowKit

/-- how far a is ahead of b, where the numbers wrap around at m -/
def sd (m a b : Int) : Int := if (a - b) % m < m / 2 then (a - b) % m else (a - b) % m - m

theorem w16 (n : Int) : IntKind.u16.wrap n = n % 65536 := by simp [IntKind.wrap, IntKind.bits, IntKind.signed]
theorem w32 (n : Int) : IntKind.u32.wrap n = n % 4294967296 := by simp [IntKind.wrap, IntKind.bits, IntKind.signed]

theorem ret_int {k : IntKind} {a b : Int} (h : a = b) : Ending.returned (.int k a) = .returned (.int k b) := by rw [h]
theorem ret_bool {a b : Bool} (h : a = b) : Ending.returned (.bool a) = .returned (.bool b) := by rw [h]

theorem sd_bd16 (a b : Int) : -32768 ≤ sd 65536 a b ∧ sd 65536 a b ≤ 32767 := by unfold sd; split <;> omega
theorem sd_bd32 (a b : Int) : -2147483648 ≤ sd 4294967296 a b ∧ sd 4294967296 a b ≤ 2147483647 := by unfold sd; split <;> omega

theorem modulus16 (w : World) :
    Calls Try.prog 30 #[] w fun e w' => e = .returned (.int .i64 65536) ∧ w = w' := by
  go_enter Try.func30, Try.ntmps30
  go_wp2
  go_ret
  exact ⟨by kernel_rfl, rfl⟩

theorem modulus32 (w : World) :
    Calls Try.prog 31 #[] w fun e w' => e = .returned (.int .i64 4294967296) ∧ w = w' := by
  go_enter Try.func31, Try.ntmps31
  go_wp2
  go_ret
  exact ⟨by kernel_rfl, rfl⟩

theorem dist16 (a b : Int) (w : World) :
    Calls Try.prog 11 #[.int .u16 a, .int .u16 b] w fun e w' => e = .returned (.int .i64 (sd 65536 a b)) ∧ w = w' := by
  have e1 : wrap64 (IntKind.u16.wrap (a - b)) = (a - b) % 65536 := by rw [w16]; unfold wrap64; omega
  have e2 : wrap64 ((a - b) % 65536 - 65536) = (a - b) % 65536 - 65536 := by unfold wrap64; omega
  by_cases h : 32768 ≤ (a - b) % 65536
  all_goals
    go_enter Try.func11, Try.ntmps11
    go_wp2_with (go_at_call 30; refine (modulus16 _).mono ?_; rintro e w' ⟨rfl, rfl⟩)
    go_ret
    exact ⟨ret_int (by unfold sd; first | rw [if_neg (by omega)] | rw [if_pos (by omega)]), rfl⟩

theorem dist32 (a b : Int) (w : World) :
    Calls Try.prog 13 #[.int .u32 a, .int .u32 b] w fun e w' => e = .returned (.int .i64 (sd 4294967296 a b)) ∧ w = w' := by
  have e1 : wrap64 (IntKind.u32.wrap (a - b)) = (a - b) % 4294967296 := by rw [w32]; unfold wrap64; omega
  have e2 : wrap64 ((a - b) % 4294967296 - 4294967296) = (a - b) % 4294967296 - 4294967296 := by unfold wrap64; omega
  by_cases h : 2147483648 ≤ (a - b) % 4294967296
  all_goals
    go_enter Try.func13, Try.ntmps13
    go_wp2_with (go_at_call 31; refine (modulus32 _).mono ?_; rintro e w' ⟨rfl, rfl⟩)
    go_ret
    exact ⟨ret_int (by unfold sd; first | rw [if_neg (by omega)] | rw [if_pos (by omega)]), rfl⟩

theorem ahead16 (a b : Int) (w : World) :
    Calls Try.prog 12 #[.int .u16 a, .int .u16 b] w fun e w' => e = .returned (.bool (decide (0 < sd 65536 a b))) ∧ w = w' := by
  go_enter Try.func12, Try.ntmps12
  go_wp2_with (go_at_call 11; refine (dist16 _ _ _).mono ?_; rintro e w' ⟨rfl, rfl⟩)
  go_ret
  exact ⟨rfl, rfl⟩

theorem ahead32 (a b : Int) (w : World) :
    Calls Try.prog 14 #[.int .u32 a, .int .u32 b] w fun e w' => e = .returned (.bool (decide (0 < sd 4294967296 a b))) ∧ w = w' := by
  go_enter Try.func14, Try.ntmps14
  go_wp2_with (go_at_call 13; refine (dist32 _ _ _).mono ?_; rintro e w' ⟨rfl, rfl⟩)
  go_ret
  exact ⟨rfl, rfl⟩

theorem near16 (at' a : Int) (h0 : -1125899906842624 ≤ at') (h1 : at' ≤ 1125899906842624) (w : World) :
    Calls Try.prog 18 #[.int .i64 at', .int .u16 a] w fun e w' => e = .returned (.int .i64 (at' + sd 65536 a (at' % 65536))) ∧ w = w' := by
  have hb := sd_bd16 a (at' % 65536)
  obtain ⟨hb1, hb2⟩ := hb
  have e1 : IntKind.u16.wrap at' = at' % 65536 := w16 _
  go_enter Try.func18, Try.ntmps18
  go_wp2_with (go_at_call 11; refine (dist16 _ _ _).mono ?_; rintro e w' ⟨rfl, rfl⟩)
  go_ret
  exact ⟨rfl, rfl⟩

theorem near32 (at' a : Int) (h0 : -1125899906842624 ≤ at') (h1 : at' ≤ 1125899906842624) (w : World) :
    Calls Try.prog 19 #[.int .i64 at', .int .u32 a] w fun e w' => e = .returned (.int .i64 (at' + sd 4294967296 a (at' % 4294967296))) ∧ w = w' := by
  have hb := sd_bd32 a (at' % 4294967296)
  obtain ⟨hb1, hb2⟩ := hb
  have e1 : IntKind.u32.wrap at' = at' % 4294967296 := w32 _
  go_enter Try.func19, Try.ntmps19
  go_wp2_with (go_at_call 13; refine (dist32 _ _ _).mono ?_; rintro e w' ⟨rfl, rfl⟩)
  go_ret
  exact ⟨rfl, rfl⟩

theorem mod_in16 (a b : Int) : (a + b % 65536) % 65536 = (a + b) % 65536 := by omega
theorem mod_in32 (a b : Int) : (a + b % 4294967296) % 4294967296 = (a + b) % 4294967296 := by omega
theorem ret_int' {k : IntKind} {a b : Int} (h : a = b) : Ending.returned (.int k a) = .returned (.int k b) := by rw [h]
theorem add16 (a by' : Int) (w : World) :
    Calls Try.prog 15 #[.int .u16 a, .int .i64 by'] w fun e w' => e = .returned (.int .u16 ((a + by') % 65536)) ∧ w = w' := by
  have e1 : IntKind.u16.wrap by' = by' % 65536 := w16 _
  have e2 : IntKind.u16.wrap (a + by' % 65536) = (a + by' % 65536) % 65536 := w16 _
  go_enter Try.func15, Try.ntmps15
  go_wp2
  go_ret
  exact ⟨by first | rfl | exact ret_int' (mod_in16 _ _), rfl⟩

theorem add32 (a by' : Int) (w : World) :
    Calls Try.prog 16 #[.int .u32 a, .int .i64 by'] w fun e w' => e = .returned (.int .u32 ((a + by') % 4294967296)) ∧ w = w' := by
  go_enter Try.func16, Try.ntmps16
  go_wp2
  go_ret
  exact ⟨by first | rfl | exact ret_int' (mod_in32 _ _), rfl⟩

theorem tmod_neg (n m : Int) (hm : 0 < m) (h : n.tmod m < 0) : n.tmod m + m = n % m := by
  have h1 := Int.tmod_add_mul_tdiv n m
  have h2 : -m < n.tmod m := Int.lt_tmod_of_pos n hm
  have e : n = (n.tmod m + m) + m * (n.tdiv m - 1) := by rw [Int.mul_sub]; omega
  rw [show n % m = ((n.tmod m + m) + m * (n.tdiv m - 1)) % m from by rw [← e], Int.add_mul_emod_self_left, Int.emod_eq_of_lt (by omega) (by omega)]

theorem tmod_pos (n m : Int) (hm : 0 < m) (h : 0 ≤ n.tmod m) : n.tmod m = n % m := by
  have h1 := Int.tmod_add_mul_tdiv n m
  have h2 : n.tmod m < m := Int.tmod_lt_of_pos n hm
  have e : n = n.tmod m + m * n.tdiv m := by omega
  rw [show n % m = (n.tmod m + m * n.tdiv m) % m from by rw [← e], Int.add_mul_emod_self_left, Int.emod_eq_of_lt (by omega) (by omega)]

theorem mod (n m : Int) (hm : 0 < m) (hm' : m ≤ 4294967296) (hn : -9223372036854775808 ≤ n) (hn' : n ≤ 9223372036854775807) (w : World) :
    Calls Try.prog 17 #[.int .i64 n, .int .i64 m] w fun e w' => e = .returned (.int .i64 (n % m)) ∧ w = w' := by
  have h2 : -m < n.tmod m := Int.lt_tmod_of_pos n hm
  have h3 : n.tmod m < m := Int.tmod_lt_of_pos n hm
  have hp := tmod_pos n m hm
  have hq := tmod_neg n m hm
  have HP := Lib.hid hp
  have HQ := Lib.hid hq
  clear hp hq
  generalize hr : n.tmod m = r at *
  have HR := Lib.hid hr
  have e0 : wrap64 r = r := by unfold wrap64; omega
  have hz : (m == 0) = false := by simp; omega
  by_cases h : r < 0
  all_goals
    go_enter Try.func17, Try.ntmps17
    go_wp2
    go_ret
    exact ⟨ret_int (by first | exact HQ.out h | exact HP.out (by omega)), rfl⟩

theorem emod_sd (m d : Int) (hm : m = 65536 ∨ m = 4294967296) (a b : Int) (h : d = (a - b) % m) : (if d < m / 2 then d else d - m) = sd m a b := by subst h; rfl

theorem rdist (a b m : Int) (hm : m = 65536 ∨ m = 4294967296) (ha : -2251799813685248 ≤ a) (ha' : a ≤ 2251799813685248) (hb : -2251799813685248 ≤ b) (hb' : b ≤ 2251799813685248) (w : World) :
    Calls Try.prog 9 #[.int .i64 a, .int .i64 b, .int .i64 m] w fun e w' => e = .returned (.int .i64 (sd m a b)) ∧ w = w' := by
  rcases hm with rfl | rfl
  · have h0 : 0 ≤ (a - b) % 65536 := by omega
    have h1 : (a - b) % 65536 < 65536 := by omega
    have hc := mod (a - b) 65536 (by omega) (by omega) (by omega) (by omega)
    have HC := Lib.hid hc
    clear hc
    by_cases h : (a - b) % 65536 < 32768
    all_goals
      go_enter Try.func9, Try.ntmps9
      go_wp2_with (go_at_call 17; refine (HC.out _).mono ?_; rintro e w' ⟨rfl, rfl⟩)
      go_ret
      exact ⟨ret_int (by unfold sd; first | (rw [if_pos (by omega)]; done) | (rw [if_neg (by omega)]; done)), rfl⟩
  · have h0 : 0 ≤ (a - b) % 4294967296 := by omega
    have h1 : (a - b) % 4294967296 < 4294967296 := by omega
    have hc := mod (a - b) 4294967296 (by omega) (by omega) (by omega) (by omega)
    have HC := Lib.hid hc
    clear hc
    by_cases h : (a - b) % 4294967296 < 2147483648
    all_goals
      go_enter Try.func9, Try.ntmps9
      go_wp2_with (go_at_call 17; refine (HC.out _).mono ?_; rintro e w' ⟨rfl, rfl⟩)
      go_ret
      exact ⟨ret_int (by unfold sd; first | (rw [if_pos (by omega)]; done) | (rw [if_neg (by omega)]; done)), rfl⟩

theorem awake (w : World) :
    Calls Try.prog 10 #[] w fun e w' => e = .returned (.bool true) ∧ w = w' := by
  have e1 : sd 65536 2 65535 = 3 := by decide +kernel
  have e2 : 65530 + sd 65536 4 (65530 % 65536) = 65540 := by decide +kernel
  have e3 : decide (0 < sd 4294967296 1 0) = true := by decide +kernel
  have c1 := dist16 2 65535
  have c2 := near16 65530 4 (by omega) (by omega)
  have c3 := ahead32 1 0
  rw [e1] at c1
  rw [e2] at c2
  rw [e3] at c3
  have C1 := Lib.hid c1
  have C2 := Lib.hid c2
  have C3 := Lib.hid c3
  clear c1 c2 c3 e1 e2 e3
  go_enter Try.func10, Try.ntmps10
  go_wp2_with (first
    | (go_at_call 11; refine (C1.out _).mono ?_; rintro e w' ⟨rfl, rfl⟩)
    | (go_at_call 18; refine (C2.out _).mono ?_; rintro e w' ⟨rfl, rfl⟩)
    | (go_at_call 14; refine (C3.out _).mono ?_; rintro e w' ⟨rfl, rfl⟩))
  go_ret
  exact ⟨rfl, rfl⟩

theorem dist_law (a b c d : Int) (w : World) (ha : 0 ≤ a) (ha' : a ≤ 65535) (hb : 0 ≤ b) (hb' : b ≤ 65535) (hc : 0 ≤ c) (hc' : c ≤ 4294967295) (hd : 0 ≤ d) (hd' : d ≤ 4294967295) :
    Calls Try.prog 3 #[.int .u16 a, .int .u16 b, .int .u32 c, .int .u32 d] w fun e w' => e = .returned (.bool true) ∧ w = w' := by
  have r1 := rdist a b 65536 (.inl rfl) (by omega) (by omega) (by omega) (by omega)
  have r2 := rdist c d 4294967296 (.inr rfl) (by omega) (by omega) (by omega) (by omega)
  have R1 := Lib.hid r1
  have R2 := Lib.hid r2
  clear r1 r2
  go_enter Try.func3, Try.ntmps3
  go_wp2_with fail
  refine (R1.out _).mono ?_; rintro e w' ⟨rfl, rfl⟩
  go_wp2_with fail
  refine (R2.out _).mono ?_; rintro e w' ⟨rfl, rfl⟩
  go_wp2_with (first
    | (go_at_call 10; refine (awake _).mono ?_; rintro e w' ⟨rfl, rfl⟩)
    | (go_at_call 11; refine (dist16 _ _ _).mono ?_; rintro e w' ⟨rfl, rfl⟩)
    | (go_at_call 13; refine (dist32 _ _ _).mono ?_; rintro e w' ⟨rfl, rfl⟩)
    | (go_at_call 12; refine (ahead16 _ _ _).mono ?_; rintro e w' ⟨rfl, rfl⟩)
    | (go_at_call 14; refine (ahead32 _ _ _).mono ?_; rintro e w' ⟨rfl, rfl⟩))
  go_ret
  exact ⟨rfl, rfl⟩
end Go.Proofs.Ytefhhilaadmghaa.ser
