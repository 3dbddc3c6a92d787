/-
  'x & (2^n - 1)' of an int, of whatever sign: x modulo 2^n.
-/
import Derived.Test.YtcppibjllaablaaGreatRows
import Derived.WalkKit
namespace Go.Proofs.YtcppibjllaablaaGreat.mask
set_option linter.unusedVariables false

theorem toNat_mask (x : Int) (n : Nat) : ((x % 18446744073709551616).toNat &&& (2 ^ n - 1)) = (x % 18446744073709551616).toNat % 2 ^ n := Nat.and_two_pow_sub_one_eq_mod _ n

theorem and_mask (x m : Int) (n : Nat) (hn : n ≤ 62) (hm : m = ((2 ^ n - 1 : Nat) : Int)) : bits .and .i64 x m = x % ((2 ^ n : Nat) : Int) := by
  subst hm
  have hp : 2 ^ n ≤ 2 ^ 62 := Nat.pow_le_pow_right (by omega) hn
  have hpos : 0 < 2 ^ n := Nat.two_pow_pos n
  have h1 : (BitVec.ofInt 64 x).toNat = (x % 18446744073709551616).toNat := by simp [BitVec.toNat_ofInt]
  have h2 : (BitVec.ofInt 64 ((2 ^ n - 1 : Nat) : Int)).toNat = 2 ^ n - 1 := by
    rw [BitVec.toNat_ofInt]
    omega
  have h3 : ((BitVec.ofInt 64 x &&& BitVec.ofInt 64 ((2 ^ n - 1 : Nat) : Int)).toNat : Int) = x % ((2 ^ n : Nat) : Int) := by
    rw [BitVec.toNat_and, h1, h2, toNat_mask]
    obtain ⟨d, hd⟩ := Nat.pow_dvd_pow 2 (show n ≤ 64 by omega)
    have e : (18446744073709551616 : Int) = ((2 ^ n : Nat) : Int) * (d : Int) := by
      have : (18446744073709551616 : Nat) = 2 ^ n * d := by rw [← hd]
      omega
    have h0 : 0 ≤ x % 18446744073709551616 := by omega
    rw [Int.natCast_emod, Int.toNat_of_nonneg h0, e, Int.emod_emod_of_dvd _ ⟨d, rfl⟩]
  show IntKind.i64.wrap ((BitVec.ofInt IntKind.i64.bits x &&& BitVec.ofInt IntKind.i64.bits ((2 ^ n - 1 : Nat) : Int)).toNat : Int) = _
  rw [show IntKind.i64.bits = 64 from rfl, h3]
  have hb : 0 ≤ x % ((2 ^ n : Nat) : Int) ∧ x % ((2 ^ n : Nat) : Int) < ((2 ^ n : Nat) : Int) := ⟨Int.emod_nonneg _ (by omega), Int.emod_lt_of_pos _ (by omega)⟩
  exact IntWalk.i64_in _ (by omega)

theorem mask1 (x : Int) : bits .and .i64 x 1 = x % 2 := and_mask x 1 1 (by omega) rfl
theorem mask2 (x : Int) : bits .and .i64 x 3 = x % 4 := and_mask x 3 2 (by omega) rfl
theorem mask3 (x : Int) : bits .and .i64 x 7 = x % 8 := and_mask x 7 3 (by omega) rfl
theorem mask4 (x : Int) : bits .and .i64 x 15 = x % 16 := and_mask x 15 4 (by omega) rfl
theorem mask5 (x : Int) : bits .and .i64 x 31 = x % 32 := and_mask x 31 5 (by omega) rfl
theorem mask6 (x : Int) : bits .and .i64 x 63 = x % 64 := and_mask x 63 6 (by omega) rfl
theorem mask7 (x : Int) : bits .and .i64 x 127 = x % 128 := and_mask x 127 7 (by omega) rfl
theorem mask8 (x : Int) : bits .and .i64 x 255 = x % 256 := and_mask x 255 8 (by omega) rfl
theorem mask10 (x : Int) : bits .and .i64 x 1023 = x % 1024 := and_mask x 1023 10 (by omega) rfl
theorem mask11 (x : Int) : bits .and .i64 x 2047 = x % 2048 := and_mask x 2047 11 (by omega) rfl
theorem mask14 (x : Int) : bits .and .i64 x 16383 = x % 16384 := and_mask x 16383 14 (by omega) rfl
theorem mask9 (x : Int) : bits .and .i64 x 511 = x % 512 := and_mask x 511 9 (by omega) rfl
theorem mask12 (x : Int) : bits .and .i64 x 4095 = x % 4096 := and_mask x 4095 12 (by omega) rfl
theorem mask16 (x : Int) : bits .and .i64 x 65535 = x % 65536 := and_mask x 65535 16 (by omega) rfl
theorem mask20 (x : Int) : bits .and .i64 x 1048575 = x % 1048576 := and_mask x 1048575 20 (by omega) rfl
end Go.Proofs.YtcppibjllaablaaGreat.mask
