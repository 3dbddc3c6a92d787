/-
  'awake' of layer 2.
-/
import Derived.Test.YtcppibjllaablaaGreatOctTake
namespace Go.Proofs.YtcppibjllaablaaGreat.oref
open Go.RowKit mem rd wr
set_option linter.unusedVariables false

theorem fresh {w : World} {p : Nat} (h : Blk w p #[.slice none 0 0] 130) : Wr w p none [] :=
  ⟨_, rfl, h, World.ownsRow_nil _ _ _ _, by simp⟩

theorem awake_text : (([] ++ (List.range 1).flatMap fun _ => be 2 258 : List UInt8)) = [1, 2] := by decide +kernel
theorem awake_num : numV ⟨#[1, 2, 3]⟩ 2 = 258 := by decide +kernel
theorem awake_left : (takeS ⟨#[1, 2, 3]⟩ 0 2).size = 1 := by decide +kernel

end Go.Proofs.YtcppibjllaablaaGreat.oref
