/-
  SerialOne: of two unlike numbers exactly one is ahead of the other, unless they are half of the way round apart.
-/
import Derived.Test.YtefhhilaadmghaaSerial
namespace Go.Proofs.Ytefhhilaadmghaa.ser
open Go.RowKit

/-- what the law's last line says of two numbers of 32 bits -/
theorem one_law32 (a b c d : Int) (hc : 0 ≤ c) (hc' : c ≤ 4294967295) (hd : 0 ≤ d) (hd' : d ≤ 4294967295)
    (X Y Z : Bool) (h : (X, Y, Z) = (decide (0 < sd 4294967296 c d), decide (0 < sd 4294967296 d c), decide ((c - d) % 4294967296 = 2147483648))) (hne : c ≠ d) :
    (X, Y, Z) = (true, false, false) ∨ (X, Y, Z) = (false, true, false) ∨ (X, Y, Z) = (false, false, true) := by
  rw [h]
  simp only [Prod.mk.injEq, decide_eq_true_eq, decide_eq_false_iff_not]
  unfold sd
  split <;> split <;> omega

theorem one_law16 (a b : Int) (hc : 0 ≤ a) (hc' : a ≤ 65535) (hd : 0 ≤ b) (hd' : b ≤ 65535)
    (X Y Z : Bool) (h : (X, Y, Z) = (decide (0 < sd 65536 a b), decide (0 < sd 65536 b a), decide ((a - b) % 65536 = 32768))) (hne : a ≠ b) :
    (X, Y, Z) = (true, false, false) ∨ (X, Y, Z) = (false, true, false) ∨ (X, Y, Z) = (false, false, true) := by
  rw [h]
  simp only [Prod.mk.injEq, decide_eq_true_eq, decide_eq_false_iff_not]
  unfold sd
  split <;> split <;> omega

theorem sd_self (m a : Int) (hm : m = 65536 ∨ m = 4294967296) : sd m a a = 0 := by
  rcases hm with rfl | rfl <;> (unfold sd; rw [if_pos (by omega)]; omega)

/-- the law, where the answers of its calls are known -/
theorem one_core (a b c d : Int) (A1 A2 A3 A4 Z1 Z2 E1 E2 : Bool) (x : Int)
    (c0 : ∀ w, Calls Try.prog 11 #[.int .u16 a, .int .u16 b] w fun e w' => e = .returned (.int .i64 x) ∧ w = w')
    (c1 : ∀ w, Calls Try.prog 12 #[.int .u16 a, .int .u16 b] w fun e w' => e = .returned (.bool A1) ∧ w = w')
    (c2 : ∀ w, Calls Try.prog 12 #[.int .u16 b, .int .u16 a] w fun e w' => e = .returned (.bool A2) ∧ w = w')
    (c3 : ∀ w, Calls Try.prog 14 #[.int .u32 c, .int .u32 d] w fun e w' => e = .returned (.bool A3) ∧ w = w')
    (c4 : ∀ w, Calls Try.prog 14 #[.int .u32 d, .int .u32 c] w fun e w' => e = .returned (.bool A4) ∧ w = w')
    (h1 : (a == b) = E1) (h1' : (a != b) = !E1) (h2 : (c == d) = E2) (hz1 : ((a - b) % 65536 == 32768) = Z1) (hz2 : ((c - d) % 4294967296 == 2147483648) = Z2)
    (ok1 : (E1 = true ∧ A1 = false ∧ x = 0) ∨ (E1 = false ∧ (A1, A2, Z1) ∈ [(true, false, false), (false, true, false), (false, false, true)]))
    (ok2 : E2 = true ∨ (E2 = false ∧ (A3, A4, Z2) ∈ [(true, false, false), (false, true, false), (false, false, true)])) (w : World) :
    Calls Try.prog 4 #[.int .u16 a, .int .u16 b, .int .u32 c, .int .u32 d] w fun e w' => e = .returned (.bool true) ∧ w = w' := by
  have m16 : IntKind.u16.wrap (a - b) = (a - b) % 65536 := w16 _
  have m32 : IntKind.u32.wrap (c - d) = (c - d) % 4294967296 := w32 _
  have C0 := Lib.hid c0
  have C1 := Lib.hid c1
  have C2 := Lib.hid c2
  have C3 := Lib.hid c3
  have C4 := Lib.hid c4
  clear c0 c1 c2 c3 c4
  simp only [List.mem_cons, Prod.mk.injEq, List.not_mem_nil, or_false] at ok1 ok2
  rcases ok1 with ⟨rfl, rfl, rfl⟩ | ⟨rfl, ⟨rfl, rfl, rfl⟩ | ⟨rfl, rfl, rfl⟩ | ⟨rfl, rfl, rfl⟩⟩ <;> rcases ok2 with rfl | ⟨rfl, ⟨rfl, rfl, rfl⟩ | ⟨rfl, rfl, rfl⟩ | ⟨rfl, rfl, rfl⟩⟩
  all_goals
    simp only [Bool.not_true, Bool.not_false] at h1'
    go_enter Try.func4, Try.ntmps4
    go_wp2_with (first
      | (go_at_call 10; refine (awake _).mono ?_; rintro e w' ⟨rfl, rfl⟩)
      | (go_at_call 11; refine (C0.out _).mono ?_; rintro e w' ⟨rfl, rfl⟩)
      | (go_at_call 12; (with_reducible refine (C1.out _).mono ?_); rintro e w' ⟨rfl, rfl⟩)
      | (go_at_call 12; (with_reducible refine (C2.out _).mono ?_); rintro e w' ⟨rfl, rfl⟩)
      | (go_at_call 14; (with_reducible refine (C3.out _).mono ?_); rintro e w' ⟨rfl, rfl⟩)
      | (go_at_call 14; (with_reducible refine (C4.out _).mono ?_); rintro e w' ⟨rfl, rfl⟩))
    go_ret
    exact ⟨rfl, rfl⟩

theorem one_law (a b c d : Int) (w : World) (ha : 0 ≤ a) (ha' : a ≤ 65535) (hb : 0 ≤ b) (hb' : b ≤ 65535) (hc : 0 ≤ c) (hc' : c ≤ 4294967295) (hd : 0 ≤ d) (hd' : d ≤ 4294967295) :
    Calls Try.prog 4 #[.int .u16 a, .int .u16 b, .int .u32 c, .int .u32 d] w fun e w' => e = .returned (.bool true) ∧ w = w' := by
  refine one_core a b c d _ _ _ _ _ _ _ _ _ (dist16 a b) (ahead16 a b) (ahead16 b a) (ahead32 c d) (ahead32 d c) rfl (by simp [bne]) rfl rfl rfl ?_ ?_ w
  · by_cases h : a = b
    · subst h
      exact .inl ⟨by simp, by rw [sd_self _ _ (.inl rfl)]; rfl, sd_self _ _ (.inl rfl)⟩
    · refine .inr ⟨by simpa using h, ?_⟩
      have := one_law16 a b ha ha' hb hb' _ _ _ rfl h
      have eb : ∀ p q : Int, (p == q) = decide (p = q) := fun p q => by by_cases h : p = q <;> simp [h]
      rw [eb]
      simpa using this
  · by_cases h : c = d
    · exact .inl (by simpa using h)
    · refine .inr ⟨by simpa using h, ?_⟩
      have := one_law32 c d c d hc hc' hd hd' _ _ _ rfl h
      have eb : ∀ p q : Int, (p == q) = decide (p = q) := fun p q => by by_cases h : p = q <;> simp [h]
      rw [eb]
      simpa using this
end Go.Proofs.Ytefhhilaadmghaa.ser
