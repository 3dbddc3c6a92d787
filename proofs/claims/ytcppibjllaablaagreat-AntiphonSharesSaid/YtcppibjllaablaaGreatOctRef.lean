/-
  The reference's functions of layer 2 over this translation.
-/
import Derived.Test.YtcppibjllaablaaGreatWriter
namespace Go.Proofs.YtcppibjllaablaaGreat.oref
open Go.RowKit mem rd wr
set_option linter.unusedVariables false

/-- new blocks alone -/
abbrev New (w w' : World) : Prop := Turns (fun _ => False) w w'

def cutS (s : ByteArray) (n : Nat) : ByteArray := if n < s.size then s.extract 0 n else s
theorem cutS_size (s : ByteArray) (n : Nat) : (cutS s n).size ≤ n ∧ (cutS s n).size ≤ s.size := by
  unfold cutS; split
  · rw [ByteArray.size_extract]; omega
  · omega



theorem lim_cases (n : Int) : (n < 1 ∧ lim n = 1) ∨ (1 ≤ n ∧ n ≤ 8 ∧ lim n = n) ∨ (8 < n ∧ lim n = 8) := by unfold lim; omega

end Go.Proofs.YtcppibjllaablaaGreat.oref
