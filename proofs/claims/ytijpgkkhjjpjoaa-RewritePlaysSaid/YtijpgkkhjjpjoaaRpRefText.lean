/-
  rtp: the reference's bit; its Num at 1, 2, 4 bytes.
-/
import Derived.Test.YtijpgkkhjjpjoaaRpTextA
namespace Go.Proofs.Ytijpgkkhjjpjoaa.rp
open Go.RowKit mem rd wr oref sq
set_option linter.unusedVariables false

theorem rbit (b : Bool) (n : Int) (w : World) :
    Calls Try.prog 58 #[.bool b, .int .i64 n] w fun e w' => e = .returned (.int .i64 (bitI b n)) ∧ w = w' := by
  cases b
  · go_enter Try.func58, Try.ntmps58
    go_wp2
    go_ret
    exact ⟨rfl, rfl⟩
  · go_enter Try.func58, Try.ntmps58
    go_wp2
    go_ret
    exact ⟨rfl, rfl⟩

theorem rnum1 (x : Int) (hx : 0 ≤ x) (hx' : x ≤ 18446744073709551615) (w : World) :
    Calls Try.prog 49 #[.int .i64 1, .int .u64 x] w fun en w' => en = .returned (.string ⟨(be 1 x).toArray⟩) ∧ New w w' := rnum 1 x 1 (by decide) hx hx' w
theorem rnum2 (x : Int) (hx : 0 ≤ x) (hx' : x ≤ 18446744073709551615) (w : World) :
    Calls Try.prog 49 #[.int .i64 2, .int .u64 x] w fun en w' => en = .returned (.string ⟨(be 2 x).toArray⟩) ∧ New w w' := rnum 2 x 2 (by decide) hx hx' w
theorem rnum4 (x : Int) (hx : 0 ≤ x) (hx' : x ≤ 18446744073709551615) (w : World) :
    Calls Try.prog 49 #[.int .i64 4, .int .u64 x] w fun en w' => en = .returned (.string ⟨(be 4 x).toArray⟩) ∧ New w w' := rnum 4 x 4 (by decide) hx hx' w
theorem u64_lo (x : Int) : 0 ≤ IntKind.u64.wrap x := by rw [IntKind.wrap_u64]; omega
theorem u64_hi (x : Int) : IntKind.u64.wrap x ≤ 18446744073709551615 := by rw [IntKind.wrap_u64]; omega
theorem bitI_bd (b : Bool) (v : Int) (h : 0 ≤ v) : 0 ≤ bitI b v ∧ bitI b v ≤ v := by unfold bitI; split <;> omega

end Go.Proofs.Ytijpgkkhjjpjoaa.rp
