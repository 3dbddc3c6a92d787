/-
  antiphonlaw01.Cut.
-/
import Derived.Test.YtfgfejcnkjeghaaRows
import Derived.Test.YtfgfejcnkjeghaaMem
import Derived.Handy
import Derived.Lib.Hide
import Derived.Outline
namespace Go.Proofs.Ytfgfejcnkjeghaa.cutl
open Go.RowKit mem
set_option linter.unusedVariables false

def cutS (s : ByteArray) (n : Nat) : ByteArray := if n < s.size then s.extract 0 n else s
theorem cutS_size (s : ByteArray) (n : Nat) : (cutS s n).size ≤ n ∧ (cutS s n).size ≤ s.size := by
  unfold cutS; split
  · rw [ByteArray.size_extract]; omega
  · omega
theorem cut (s : ByteArray) (n : Nat) (hn : n ≤ 1048576) (w : World) :
    Calls Try.prog 19 #[.string s, .int .i64 n] w fun en w' => en = .returned (.string (cutS s n)) ∧ w = w' := by
  have HC : Hid (cutS s n = if n < s.size then s.extract 0 n else s) := Lib.hid rfl
  generalize cutS s n = c at *
  by_cases h : n < s.size
  · have h' : (n : Int) < (s.size : Int) := by omega
    go_enter Try.func19, Try.ntmps19
    go_wp2
    go_ret
    rw [HC.out, if_pos h]
    exact ⟨rfl, rfl⟩
  · have h' : ¬ (n : Int) < (s.size : Int) := by omega
    go_enter Try.func19, Try.ntmps19
    go_wp2
    go_ret
    rw [HC.out, if_neg h]
    exact ⟨rfl, rfl⟩
end Go.Proofs.Ytfgfejcnkjeghaa.cutl
