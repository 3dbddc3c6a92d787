/-
  No cell of these rows narrows 'for every input' (looked for: loops, veiled, ifaces, maps, wideKeys, modest, calm, conditions, laid).
  DERIVED. THE GIVEN ROWS OF THIS SEAT. 3 by the template 'for every input the law returns true; each argument reads behind the call as it read before'; 0 by the template 'total and deterministic' (their statements: YtcppibjllaablaaGreatTotals.lean).
  GIVEN WITH THE SEED: the statements are not yours to turn. If you find one false, say at which input.
  Laid BY PROGRAM, IN A SANDBOX (cutbox-rows.mjs): the forced cells as the released guide's own fill.sh prints them over the translation d0842cd60170915c… (all of the seat's roots in one cut). By AI agents, Wed Nov 11 2026. No macro, syntax, notation, axiom, sorry.
-/
import Derived.Test.YtcppibjllaablaaGreatChecked
import GoSem.Claim
import GoSem.ClaimJoined
import GoSem.ClaimMapViews
import Derived.JoinedTies
import Derived.KernelRfl
namespace Go.Proofs.YtcppibjllaablaaGreat
/- THE CELL 'sum', in the pinned program and in every row, IS THE sha256 OF THE DUMP (.gsa) THAT YtcppibjllaablaaGreatProg.lean LOADS. Nothing in Lean hashes anything: it is a label: what it is worth is what the hold of that sum in a sandbox is worth. -/
noncomputable def Tryz.pinned : Pinned := { name := "ytcppibjllaablaagreat", sum := "d0842cd60170915c5f3356e80edc88e583fcd144712f13d0dc7d17eaaea424b9", checked := Tryz.checked }
namespace Rows
def none {H : Type} : Left H := { results := [], args := [] }

/-- 'antiphontop.AntiphonOrder': WHATEVER THE INPUT: true; the input reads as it did. -/
def antiphonOrderSpec : ChangeSpec := { name := "antiphonOrder", fn := fun _ => fun
  | [d1, d2, d3] => { results := [.lit (.bool true)], args := [d1, d2, d3] }
  | _ => none }
def antiphonOrderRow : OpenClaim := { program := "ytcppibjllaablaagreat", sum := "d0842cd60170915c5f3356e80edc88e583fcd144712f13d0dc7d17eaaea424b9", func := "antiphon/antiphontop.AntiphonOrder", spec := "antiphonOrder", inPlace := ["internal/abi.NoEscape", "internal/bytealg.MakeNoZero"], unfollowed := true, recurses := true, apart := false }
def AntiphonOrderSaid : Prop := antiphonOrderRow.holds Tryz.pinned (OpenSpec.ofChange antiphonOrderSpec)

/-- ITS FALSE NEIGHBOUR: 'it returns false'. Refute it at one input. -/
def antiphonOrderWrong : ChangeSpec := { name := "antiphonOrder", fn := fun _ => fun
  | [d1, d2, d3] => { results := [.lit (.bool false)], args := [d1, d2, d3] }
  | _ => none }
def AntiphonOrderWrongFalsely : Prop := antiphonOrderRow.holds Tryz.pinned (OpenSpec.ofChange antiphonOrderWrong)

/-- 'antiphontop.AntiphonEnough': WHATEVER THE INPUT: true; the input reads as it did. -/
def antiphonEnoughSpec : ChangeSpec := { name := "antiphonEnough", fn := fun _ => fun
  | [d1, d2, d3] => { results := [.lit (.bool true)], args := [d1, d2, d3] }
  | _ => none }
def antiphonEnoughRow : OpenClaim := { program := "ytcppibjllaablaagreat", sum := "d0842cd60170915c5f3356e80edc88e583fcd144712f13d0dc7d17eaaea424b9", func := "antiphon/antiphontop.AntiphonEnough", spec := "antiphonEnough", inPlace := ["internal/abi.NoEscape", "internal/bytealg.MakeNoZero"], unfollowed := true, recurses := true, apart := false }
def AntiphonEnoughSaid : Prop := antiphonEnoughRow.holds Tryz.pinned (OpenSpec.ofChange antiphonEnoughSpec)

/-- ITS FALSE NEIGHBOUR: 'it returns false'. Refute it at one input. -/
def antiphonEnoughWrong : ChangeSpec := { name := "antiphonEnough", fn := fun _ => fun
  | [d1, d2, d3] => { results := [.lit (.bool false)], args := [d1, d2, d3] }
  | _ => none }
def AntiphonEnoughWrongFalsely : Prop := antiphonEnoughRow.holds Tryz.pinned (OpenSpec.ofChange antiphonEnoughWrong)

/-- 'antiphontop.AntiphonShares': WHATEVER THE INPUT: true; the input reads as it did. -/
def antiphonSharesSpec : ChangeSpec := { name := "antiphonShares", fn := fun _ => fun
  | [d1, d2, d3, d4] => { results := [.lit (.bool true)], args := [d1, d2, d3, d4] }
  | _ => none }
def antiphonSharesRow : OpenClaim := { program := "ytcppibjllaablaagreat", sum := "d0842cd60170915c5f3356e80edc88e583fcd144712f13d0dc7d17eaaea424b9", func := "antiphon/antiphontop.AntiphonShares", spec := "antiphonShares", inPlace := ["internal/abi.NoEscape", "internal/bytealg.MakeNoZero"], unfollowed := true, recurses := true, apart := false }
def AntiphonSharesSaid : Prop := antiphonSharesRow.holds Tryz.pinned (OpenSpec.ofChange antiphonSharesSpec)

/-- ITS FALSE NEIGHBOUR: 'it returns false'. Refute it at one input. -/
def antiphonSharesWrong : ChangeSpec := { name := "antiphonShares", fn := fun _ => fun
  | [d1, d2, d3, d4] => { results := [.lit (.bool false)], args := [d1, d2, d3, d4] }
  | _ => none }
def AntiphonSharesWrongFalsely : Prop := antiphonSharesRow.holds Tryz.pinned (OpenSpec.ofChange antiphonSharesWrong)

/- THE SECOND FORM. 'bulk': how many values and letters a reading holds, each counted each time it is reached (what is shared counts as often as it is met; a slice's spare places count too). A statement '..UptoSaid' is the law's where the arguments, and the package variables that the reading takes, are together of bulk at most 1048576: NARROWER than '..Said'. Prove '..Said' where nothing that the law and all that it calls make is longer than what came in: it says more and counts as full. Else prove '..UptoSaid'. A law counts once. -/
mutual
def uptoBulk {H : Type} : DataW H → Nat
  | .lit (.string bytes) => bytes.length + 1
  | .lit _ => 1
  | .nil => 1
  | .ptr d => uptoBulk d + 1
  | .slice elems spare => uptoBulkAll elems + uptoBulkAll spare + 1
  | .agg parts => uptoBulkAll parts + 1
  | .iface _ d => uptoBulk d + 1
  | .map entries => uptoBulkEntries entries + 1
  | .held _ => 1
def uptoBulkAll {H : Type} : List (DataW H) → Nat
  | [] => 0
  | d :: r => uptoBulk d + uptoBulkAll r
def uptoBulkEntries {H : Type} : List (Lit × DataW H) → Nat
  | [] => 0
  | x :: r => uptoBulkEntry x + uptoBulkEntries r
def uptoBulkEntry {H : Type} : Lit × DataW H → Nat
  | (.string bytes, d) => bytes.length + uptoBulk d + 1
  | (_, d) => uptoBulk d + 1
 end
def uptoSmall : (H : Type) → List (DataW H) → Bool := fun _ ds => decide (uptoBulkAll ds ≤ 1048576)
def OpenSpec.upto (s : _root_.Go.ChangeSpec) : _root_.Go.OpenSpec := { _root_.Go.OpenSpec.ofChange s with cond := some uptoSmall }

/-- 'antiphontop.AntiphonOrder', WHERE WHAT IT READS IS OF BULK AT MOST 1048576: true; the input reads as it did. -/
def antiphonOrderUptoRow : OpenClaim := { program := "ytcppibjllaablaagreat", sum := "d0842cd60170915c5f3356e80edc88e583fcd144712f13d0dc7d17eaaea424b9", func := "antiphon/antiphontop.AntiphonOrder", spec := "antiphonOrder", inPlace := ["internal/abi.NoEscape", "internal/bytealg.MakeNoZero"], unfollowed := true, recurses := true, apart := false, narrowed := true }
def AntiphonOrderUptoSaid : Prop := antiphonOrderUptoRow.holds Tryz.pinned (OpenSpec.upto antiphonOrderSpec)

/-- 'antiphontop.AntiphonEnough', WHERE WHAT IT READS IS OF BULK AT MOST 1048576: true; the input reads as it did. -/
def antiphonEnoughUptoRow : OpenClaim := { program := "ytcppibjllaablaagreat", sum := "d0842cd60170915c5f3356e80edc88e583fcd144712f13d0dc7d17eaaea424b9", func := "antiphon/antiphontop.AntiphonEnough", spec := "antiphonEnough", inPlace := ["internal/abi.NoEscape", "internal/bytealg.MakeNoZero"], unfollowed := true, recurses := true, apart := false, narrowed := true }
def AntiphonEnoughUptoSaid : Prop := antiphonEnoughUptoRow.holds Tryz.pinned (OpenSpec.upto antiphonEnoughSpec)

/-- 'antiphontop.AntiphonShares', WHERE WHAT IT READS IS OF BULK AT MOST 1048576: true; the input reads as it did. -/
def antiphonSharesUptoRow : OpenClaim := { program := "ytcppibjllaablaagreat", sum := "d0842cd60170915c5f3356e80edc88e583fcd144712f13d0dc7d17eaaea424b9", func := "antiphon/antiphontop.AntiphonShares", spec := "antiphonShares", inPlace := ["internal/abi.NoEscape", "internal/bytealg.MakeNoZero"], unfollowed := true, recurses := true, apart := false, narrowed := true }
def AntiphonSharesUptoSaid : Prop := antiphonSharesUptoRow.holds Tryz.pinned (OpenSpec.upto antiphonSharesSpec)

end Rows
end Go.Proofs.YtcppibjllaablaaGreat
