/-
  SerialAdds, SerialNear: what is added is the distance; the nearest extended number.
-/
import Derived.Test.YtefhhilaadmghaaSerial
namespace Go.Proofs.Ytefhhilaadmghaa.ser
open Go.RowKit

theorem sd_add16 (a m : Int) (h : -32768 ≤ m) (h' : m ≤ 32767) : sd 65536 ((a + m) % 65536) a = m := by unfold sd; split <;> omega
theorem sd_add32 (a m : Int) (h : -2147483648 ≤ m) (h' : m ≤ 2147483647) : sd 4294967296 ((a + m) % 4294967296) a = m := by unfold sd; split <;> omega

theorem adds_core (a c by' m n : Int) (ha : 0 ≤ a) (ha' : a ≤ 65535) (hc : 0 ≤ c) (hc' : c ≤ 4294967295)
    (hm : IntKind.i16.wrap by' = m) (hm1 : -32768 ≤ m) (hm2 : m ≤ 32767) (hn : IntKind.i32.wrap by' = n) (hn1 : -2147483648 ≤ n) (hn2 : n ≤ 2147483647) (w : World) :
    Calls Try.prog 5 #[.int .u16 a, .int .u32 c, .int .i64 by'] w fun e w' => e = .returned (.bool true) ∧ w = w' := by
  have A16 := add16 a m
  have A32 := add32 c n
  have hw32 : wrap32 by' = n := by rw [← hn, IntKind.wrap_i32]; unfold wrap32; rfl
  have D16 : ∀ w, Calls Try.prog 11 #[.int .u16 ((a + m) % 65536), .int .u16 a] w fun e w' => e = .returned (.int .i64 m) ∧ w = w' := by
    have := dist16 ((a + m) % 65536) a
    rwa [sd_add16 a m hm1 hm2] at this
  have D32 : ∀ w, Calls Try.prog 13 #[.int .u32 ((c + n) % 4294967296), .int .u32 c] w fun e w' => e = .returned (.int .i64 n) ∧ w = w' := by
    have := dist32 ((c + n) % 4294967296) c
    rwa [sd_add32 c n hn1 hn2] at this
  have M16 := mod (a + m) 65536 (by omega) (by omega) (by omega) (by omega)
  have M32 := mod (c + n) 4294967296 (by omega) (by omega) (by omega) (by omega)
  have B16 : ∀ w, Calls Try.prog 15 #[.int .u16 ((a + m) % 65536), .int .i64 (-m)] w fun e w' => e = .returned (.int .u16 a) ∧ w = w' := by
    have := add16 ((a + m) % 65536) (-m)
    rwa [show ((a + m) % 65536 + -m) % 65536 = a from by omega] at this
  have hA16 := Lib.hid A16
  have hA32 := Lib.hid A32
  have hD16 := Lib.hid D16
  have hD32 := Lib.hid D32
  have hM16 := Lib.hid M16
  have hM32 := Lib.hid M32
  have hB16 := Lib.hid B16
  clear A16 A32 D16 D32 M16 M32 B16
  generalize hr : (a + m) % 65536 = r at *
  generalize hs : (c + n) % 4294967296 = s at *
  have r0 : 0 ≤ r := by omega
  have r1 : r ≤ 65535 := by omega
  have s0 : 0 ≤ s := by omega
  have s1 : s ≤ 4294967295 := by omega
  have Hr := Lib.hid hr
  have Hs := Lib.hid hs
  clear hr hs
  go_enter Try.func5, Try.ntmps5
  go_wp2_with (first
    | (go_at_call 10; refine (awake _).mono ?_; rintro e w' ⟨rfl, rfl⟩)
    | (go_at_call 15; (with_reducible refine (hA16.out _).mono ?_); rintro e w' ⟨rfl, rfl⟩)
    | (go_at_call 15; (with_reducible refine (hB16.out _).mono ?_); rintro e w' ⟨rfl, rfl⟩)
    | (go_at_call 16; (with_reducible refine (hA32.out _).mono ?_); rintro e w' ⟨rfl, rfl⟩)
    | (go_at_call 11; (with_reducible refine (hD16.out _).mono ?_); rintro e w' ⟨rfl, rfl⟩)
    | (go_at_call 13; (with_reducible refine (hD32.out _).mono ?_); rintro e w' ⟨rfl, rfl⟩)
    | (go_at_call 17; (with_reducible refine (hM16.out _).mono ?_); rintro e w' ⟨rfl, rfl⟩)
    | (go_at_call 17; (with_reducible refine (hM32.out _).mono ?_); rintro e w' ⟨rfl, rfl⟩))
  go_ret
  exact ⟨rfl, rfl⟩

theorem adds_law (a c by' : Int) (w : World) (ha : 0 ≤ a) (ha' : a ≤ 65535) (hc : 0 ≤ c) (hc' : c ≤ 4294967295) (hb : -9223372036854775808 ≤ by') (hb' : by' ≤ 9223372036854775807) :
    Calls Try.prog 5 #[.int .u16 a, .int .u32 c, .int .i64 by'] w fun e w' => e = .returned (.bool true) ∧ w = w' := by
  have h1 : -32768 ≤ IntKind.i16.wrap by' ∧ IntKind.i16.wrap by' ≤ 32767 := by simp only [IntKind.wrap, IntKind.bits, IntKind.signed]; simp; split <;> omega
  have h2 : -2147483648 ≤ IntKind.i32.wrap by' ∧ IntKind.i32.wrap by' ≤ 2147483647 := by rw [IntKind.wrap_i32]; omega
  exact adds_core a c by' _ _ ha ha' hc hc' rfl h1.1 h1.2 rfl h2.1 h2.2 w

/-! ### SerialNear -/
theorem rnear (at' a m : Int) (hm : m = 65536 ∨ m = 4294967296) (h0 : -1125899906842624 ≤ at') (h1 : at' ≤ 1125899906842624) (ha : 0 ≤ a) (ha' : a ≤ 4294967295) (w : World) :
    Calls Try.prog 20 #[.int .i64 at', .int .i64 a, .int .i64 m] w fun e w' => e = .returned (.int .i64 (at' + sd m a (at' % m))) ∧ w = w' := by
  have hb : -2147483648 ≤ sd m a (at' % m) ∧ sd m a (at' % m) ≤ 2147483647 := by
    rcases hm with rfl | rfl
    · have := sd_bd16 a (at' % 65536); omega
    · exact sd_bd32 a (at' % 4294967296)
  have hq : 0 ≤ at' % m ∧ at' % m ≤ 4294967295 := by rcases hm with rfl | rfl <;> omega
  have M := mod at' m (by rcases hm with rfl | rfl <;> omega) (by rcases hm with rfl | rfl <;> omega) (by omega) (by omega)
  have R := rdist a (at' % m) m hm (by omega) (by omega) (by omega) (by omega)
  have hM := Lib.hid M
  have hR := Lib.hid R
  clear M R hm
  obtain ⟨hb1, hb2⟩ := hb
  generalize at' % m = q at *
  go_enter Try.func20, Try.ntmps20
  go_wp2_with (first
    | (go_at_call 17; (with_reducible refine (hM.out _).mono ?_); rintro e w' ⟨rfl, rfl⟩)
    | (go_at_call 9; (with_reducible refine (hR.out _).mono ?_); rintro e w' ⟨rfl, rfl⟩))
  go_ret
  exact ⟨rfl, rfl⟩

theorem near_core (at' a c x y : Int) (h0 : -1125899906842624 ≤ at') (h1 : at' ≤ 1125899906842624) (ha : 0 ≤ a) (ha' : a ≤ 65535) (hc : 0 ≤ c) (hc' : c ≤ 4294967295)
    (hx : sd 65536 a (at' % 65536) = x) (hy : sd 4294967296 c (at' % 4294967296) = y) (hx1 : -32768 ≤ x) (hx2 : x ≤ 32767) (hy1 : -2147483648 ≤ y) (hy2 : y ≤ 2147483647)
    (hxa : IntKind.u16.wrap (at' + x) = a) (hyc : IntKind.u32.wrap (at' + y) = c) (w : World) :
    Calls Try.prog 6 #[.int .i64 at', .int .u16 a, .int .u32 c] w fun e w' => e = .returned (.bool true) ∧ w = w' := by
  have N16 := near16 at' a h0 h1
  have N32 := near32 at' c h0 h1
  have R16 := rnear at' a 65536 (.inl rfl) h0 h1 ha (by omega)
  have R32 := rnear at' c 4294967296 (.inr rfl) h0 h1 hc hc'
  rw [hx] at N16 R16
  rw [hy] at N32 R32
  clear hx hy
  have H16 := Lib.hid N16
  have H32 := Lib.hid N32
  have K16 := Lib.hid R16
  have K32 := Lib.hid R32
  clear N16 N32 R16 R32
  have hyc' : (at' + y) % 4294967296 = c := by rw [← hyc, w32]
  go_enter Try.func6, Try.ntmps6
  go_wp2_with (first
    | (go_at_call 10; refine (awake _).mono ?_; rintro e w' ⟨rfl, rfl⟩)
    | (go_at_call 18; (with_reducible refine (H16.out _).mono ?_); rintro e w' ⟨rfl, rfl⟩)
    | (go_at_call 19; (with_reducible refine (H32.out _).mono ?_); rintro e w' ⟨rfl, rfl⟩)
    | (go_at_call 20; (with_reducible refine (K16.out _).mono ?_); rintro e w' ⟨rfl, rfl⟩)
    | (go_at_call 20; (with_reducible refine (K32.out _).mono ?_); rintro e w' ⟨rfl, rfl⟩))
  go_ret
  exact ⟨ret_bool (decide_eq_true (show at' + x - at' < 32768 by omega)), rfl⟩

theorem near_law (at' a c : Int) (w : World) (_ : -9223372036854775808 ≤ at') (_ : at' ≤ 9223372036854775807) (ha : 0 ≤ a) (ha' : a ≤ 65535) (hc : 0 ≤ c) (hc' : c ≤ 4294967295) :
    Calls Try.prog 6 #[.int .i64 at', .int .u16 a, .int .u32 c] w fun e w' => e = .returned (.bool true) ∧ w = w' := by
  by_cases h1 : 1125899906842624 < at'
  · go_enter Try.func6, Try.ntmps6
    go_wp2_with (go_at_call 10; refine (awake _).mono ?_; rintro e w' ⟨rfl, rfl⟩)
    go_ret
    exact ⟨rfl, rfl⟩
  by_cases h2 : at' < -1125899906842624
  · go_enter Try.func6, Try.ntmps6
    go_wp2_with (go_at_call 10; refine (awake _).mono ?_; rintro e w' ⟨rfl, rfl⟩)
    go_ret
    exact ⟨rfl, rfl⟩
  have b16 := sd_bd16 a (at' % 65536)
  have b32 := sd_bd32 c (at' % 4294967296)
  exact near_core at' a c _ _ (by omega) (by omega) ha ha' hc hc' rfl rfl b16.1 b16.2 b32.1 b32.2 (by rw [w16]; unfold sd; split <;> omega) (by rw [w32]; unfold sd; split <;> omega) w
end Go.Proofs.Ytefhhilaadmghaa.ser
