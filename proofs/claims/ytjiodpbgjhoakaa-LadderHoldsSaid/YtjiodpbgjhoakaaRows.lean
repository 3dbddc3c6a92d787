/-
  No cell of these rows narrows 'for every input' (looked for: loops, veiled, ifaces, maps, wideKeys, modest, calm, conditions, laid).
  DERIVED. THE GIVEN ROWS OF THIS SEAT. 12 by the template 'for every input the law returns true; each argument reads behind the call as it read before'; 0 by the template 'total and deterministic' (their statements: YtjiodpbgjhoakaaTotals.lean).
  GIVEN WITH THE SEED: the statements are not yours to turn. If you find one false, say at which input.
  Laid BY PROGRAM, IN A SANDBOX (cutbox-rows.mjs): the forced cells as the released guide's own fill.sh prints them over the translation f63ad15723ab0d21… (all of the seat's roots in one cut). By AI agents, Wed Nov 11 2026. No macro, syntax, notation, axiom, sorry.
-/
import Derived.Test.YtjiodpbgjhoakaaChecked
import GoSem.Claim
import GoSem.ClaimJoined
import GoSem.ClaimMapViews
import Derived.JoinedTies
import Derived.KernelRfl
namespace Go.Proofs.Ytjiodpbgjhoakaa
/- THE CELL 'sum', in the pinned program and in every row, IS THE sha256 OF THE DUMP (.gsa) THAT YtjiodpbgjhoakaaProg.lean LOADS. Nothing in Lean hashes anything: it is a label: what it is worth is what the hold of that sum in a sandbox is worth. -/
noncomputable def Try.pinned : Pinned := { name := "ytjiodpbgjhoakaa", sum := "f63ad15723ab0d2146ca839efbaf16261f6d5ff303d39618718e5596433ef4b5", checked := Try.checked }
namespace Rows
def none {H : Type} : Left H := { results := [], args := [] }

/-- 'antiphonlaw21.PliPlays': WHATEVER THE INPUT: true; the input reads as it did. -/
def pliPlaysSpec : ChangeSpec := { name := "pliPlays", fn := fun _ => fun
  | [d1, d2, d3] => { results := [.lit (.bool true)], args := [d1, d2, d3] }
  | _ => none }
def pliPlaysRow : OpenClaim := { program := "ytjiodpbgjhoakaa", sum := "f63ad15723ab0d2146ca839efbaf16261f6d5ff303d39618718e5596433ef4b5", func := "antiphon/antiphonlaw21.PliPlays", spec := "pliPlays", apart := false }
def PliPlaysSaid : Prop := pliPlaysRow.holds Try.pinned (OpenSpec.ofChange pliPlaysSpec)

/-- ITS FALSE NEIGHBOUR: 'it returns false'. Refute it at one input. -/
def pliPlaysWrong : ChangeSpec := { name := "pliPlays", fn := fun _ => fun
  | [d1, d2, d3] => { results := [.lit (.bool false)], args := [d1, d2, d3] }
  | _ => none }
def PliPlaysWrongFalsely : Prop := pliPlaysRow.holds Try.pinned (OpenSpec.ofChange pliPlaysWrong)

/-- 'antiphonlaw21.PliBackoff': WHATEVER THE INPUT: true; the input reads as it did. -/
def pliBackoffSpec : ChangeSpec := { name := "pliBackoff", fn := fun _ => fun
  | [d1, d2, d3] => { results := [.lit (.bool true)], args := [d1, d2, d3] }
  | _ => none }
def pliBackoffRow : OpenClaim := { program := "ytjiodpbgjhoakaa", sum := "f63ad15723ab0d2146ca839efbaf16261f6d5ff303d39618718e5596433ef4b5", func := "antiphon/antiphonlaw21.PliBackoff", spec := "pliBackoff", apart := false }
def PliBackoffSaid : Prop := pliBackoffRow.holds Try.pinned (OpenSpec.ofChange pliBackoffSpec)

/-- ITS FALSE NEIGHBOUR: 'it returns false'. Refute it at one input. -/
def pliBackoffWrong : ChangeSpec := { name := "pliBackoff", fn := fun _ => fun
  | [d1, d2, d3] => { results := [.lit (.bool false)], args := [d1, d2, d3] }
  | _ => none }
def PliBackoffWrongFalsely : Prop := pliBackoffRow.holds Try.pinned (OpenSpec.ofChange pliBackoffWrong)

/-- 'antiphonlaw21.PliAgain': WHATEVER THE INPUT: true; the input reads as it did. -/
def pliAgainSpec : ChangeSpec := { name := "pliAgain", fn := fun _ => fun
  | [d1, d2, d3] => { results := [.lit (.bool true)], args := [d1, d2, d3] }
  | _ => none }
def pliAgainRow : OpenClaim := { program := "ytjiodpbgjhoakaa", sum := "f63ad15723ab0d2146ca839efbaf16261f6d5ff303d39618718e5596433ef4b5", func := "antiphon/antiphonlaw21.PliAgain", spec := "pliAgain", apart := false }
def PliAgainSaid : Prop := pliAgainRow.holds Try.pinned (OpenSpec.ofChange pliAgainSpec)

/-- ITS FALSE NEIGHBOUR: 'it returns false'. Refute it at one input. -/
def pliAgainWrong : ChangeSpec := { name := "pliAgain", fn := fun _ => fun
  | [d1, d2, d3] => { results := [.lit (.bool false)], args := [d1, d2, d3] }
  | _ => none }
def PliAgainWrongFalsely : Prop := pliAgainRow.holds Try.pinned (OpenSpec.ofChange pliAgainWrong)

/-- 'antiphonlaw21.PliMay': WHATEVER THE INPUT: true; the input reads as it did. -/
def pliMaySpec : ChangeSpec := { name := "pliMay", fn := fun _ => fun
  | [d1, d2] => { results := [.lit (.bool true)], args := [d1, d2] }
  | _ => none }
def pliMayRow : OpenClaim := { program := "ytjiodpbgjhoakaa", sum := "f63ad15723ab0d2146ca839efbaf16261f6d5ff303d39618718e5596433ef4b5", func := "antiphon/antiphonlaw21.PliMay", spec := "pliMay", apart := false }
def PliMaySaid : Prop := pliMayRow.holds Try.pinned (OpenSpec.ofChange pliMaySpec)

/-- ITS FALSE NEIGHBOUR: 'it returns false'. Refute it at one input. -/
def pliMayWrong : ChangeSpec := { name := "pliMay", fn := fun _ => fun
  | [d1, d2] => { results := [.lit (.bool false)], args := [d1, d2] }
  | _ => none }
def PliMayWrongFalsely : Prop := pliMayRow.holds Try.pinned (OpenSpec.ofChange pliMayWrong)

/-- 'antiphonlaw22.StallPlays': WHATEVER THE INPUT: true; the input reads as it did. -/
def stallPlaysSpec : ChangeSpec := { name := "stallPlays", fn := fun _ => fun
  | [d1, d2, d3] => { results := [.lit (.bool true)], args := [d1, d2, d3] }
  | _ => none }
def stallPlaysRow : OpenClaim := { program := "ytjiodpbgjhoakaa", sum := "f63ad15723ab0d2146ca839efbaf16261f6d5ff303d39618718e5596433ef4b5", func := "antiphon/antiphonlaw22.StallPlays", spec := "stallPlays", apart := false }
def StallPlaysSaid : Prop := stallPlaysRow.holds Try.pinned (OpenSpec.ofChange stallPlaysSpec)

/-- ITS FALSE NEIGHBOUR: 'it returns false'. Refute it at one input. -/
def stallPlaysWrong : ChangeSpec := { name := "stallPlays", fn := fun _ => fun
  | [d1, d2, d3] => { results := [.lit (.bool false)], args := [d1, d2, d3] }
  | _ => none }
def StallPlaysWrongFalsely : Prop := stallPlaysRow.holds Try.pinned (OpenSpec.ofChange stallPlaysWrong)

/-- 'antiphonlaw22.StallNever': WHATEVER THE INPUT: true; the input reads as it did. -/
def stallNeverSpec : ChangeSpec := { name := "stallNever", fn := fun _ => fun
  | [d1, d2] => { results := [.lit (.bool true)], args := [d1, d2] }
  | _ => none }
def stallNeverRow : OpenClaim := { program := "ytjiodpbgjhoakaa", sum := "f63ad15723ab0d2146ca839efbaf16261f6d5ff303d39618718e5596433ef4b5", func := "antiphon/antiphonlaw22.StallNever", spec := "stallNever", apart := false }
def StallNeverSaid : Prop := stallNeverRow.holds Try.pinned (OpenSpec.ofChange stallNeverSpec)

/-- ITS FALSE NEIGHBOUR: 'it returns false'. Refute it at one input. -/
def stallNeverWrong : ChangeSpec := { name := "stallNever", fn := fun _ => fun
  | [d1, d2] => { results := [.lit (.bool false)], args := [d1, d2] }
  | _ => none }
def StallNeverWrongFalsely : Prop := stallNeverRow.holds Try.pinned (OpenSpec.ofChange stallNeverWrong)

/-- 'antiphonlaw22.StallEnds': WHATEVER THE INPUT: true; the input reads as it did. -/
def stallEndsSpec : ChangeSpec := { name := "stallEnds", fn := fun _ => fun
  | [d1, d2, d3] => { results := [.lit (.bool true)], args := [d1, d2, d3] }
  | _ => none }
def stallEndsRow : OpenClaim := { program := "ytjiodpbgjhoakaa", sum := "f63ad15723ab0d2146ca839efbaf16261f6d5ff303d39618718e5596433ef4b5", func := "antiphon/antiphonlaw22.StallEnds", spec := "stallEnds", apart := false }
def StallEndsSaid : Prop := stallEndsRow.holds Try.pinned (OpenSpec.ofChange stallEndsSpec)

/-- ITS FALSE NEIGHBOUR: 'it returns false'. Refute it at one input. -/
def stallEndsWrong : ChangeSpec := { name := "stallEnds", fn := fun _ => fun
  | [d1, d2, d3] => { results := [.lit (.bool false)], args := [d1, d2, d3] }
  | _ => none }
def StallEndsWrongFalsely : Prop := stallEndsRow.holds Try.pinned (OpenSpec.ofChange stallEndsWrong)

/-- 'antiphonlaw22.StallMay': WHATEVER THE INPUT: true; the input reads as it did. -/
def stallMaySpec : ChangeSpec := { name := "stallMay", fn := fun _ => fun
  | [d1, d2] => { results := [.lit (.bool true)], args := [d1, d2] }
  | _ => none }
def stallMayRow : OpenClaim := { program := "ytjiodpbgjhoakaa", sum := "f63ad15723ab0d2146ca839efbaf16261f6d5ff303d39618718e5596433ef4b5", func := "antiphon/antiphonlaw22.StallMay", spec := "stallMay", apart := false }
def StallMaySaid : Prop := stallMayRow.holds Try.pinned (OpenSpec.ofChange stallMaySpec)

/-- ITS FALSE NEIGHBOUR: 'it returns false'. Refute it at one input. -/
def stallMayWrong : ChangeSpec := { name := "stallMay", fn := fun _ => fun
  | [d1, d2] => { results := [.lit (.bool false)], args := [d1, d2] }
  | _ => none }
def StallMayWrongFalsely : Prop := stallMayRow.holds Try.pinned (OpenSpec.ofChange stallMayWrong)

/-- 'antiphonlaw23.LadderPlays': WHATEVER THE INPUT: true; the input reads as it did. -/
def ladderPlaysSpec : ChangeSpec := { name := "ladderPlays", fn := fun _ => fun
  | [d1, d2, d3, d4, d5, d6] => { results := [.lit (.bool true)], args := [d1, d2, d3, d4, d5, d6] }
  | _ => none }
def ladderPlaysRow : OpenClaim := { program := "ytjiodpbgjhoakaa", sum := "f63ad15723ab0d2146ca839efbaf16261f6d5ff303d39618718e5596433ef4b5", func := "antiphon/antiphonlaw23.LadderPlays", spec := "ladderPlays", apart := false }
def LadderPlaysSaid : Prop := ladderPlaysRow.holds Try.pinned (OpenSpec.ofChange ladderPlaysSpec)

/-- ITS FALSE NEIGHBOUR: 'it returns false'. Refute it at one input. -/
def ladderPlaysWrong : ChangeSpec := { name := "ladderPlays", fn := fun _ => fun
  | [d1, d2, d3, d4, d5, d6] => { results := [.lit (.bool false)], args := [d1, d2, d3, d4, d5, d6] }
  | _ => none }
def LadderPlaysWrongFalsely : Prop := ladderPlaysRow.holds Try.pinned (OpenSpec.ofChange ladderPlaysWrong)

/-- 'antiphonlaw23.LadderWants': WHATEVER THE INPUT: true; the input reads as it did. -/
def ladderWantsSpec : ChangeSpec := { name := "ladderWants", fn := fun _ => fun
  | [d1, d2, d3, d4, d5, d6] => { results := [.lit (.bool true)], args := [d1, d2, d3, d4, d5, d6] }
  | _ => none }
def ladderWantsRow : OpenClaim := { program := "ytjiodpbgjhoakaa", sum := "f63ad15723ab0d2146ca839efbaf16261f6d5ff303d39618718e5596433ef4b5", func := "antiphon/antiphonlaw23.LadderWants", spec := "ladderWants", apart := false }
def LadderWantsSaid : Prop := ladderWantsRow.holds Try.pinned (OpenSpec.ofChange ladderWantsSpec)

/-- ITS FALSE NEIGHBOUR: 'it returns false'. Refute it at one input. -/
def ladderWantsWrong : ChangeSpec := { name := "ladderWants", fn := fun _ => fun
  | [d1, d2, d3, d4, d5, d6] => { results := [.lit (.bool false)], args := [d1, d2, d3, d4, d5, d6] }
  | _ => none }
def LadderWantsWrongFalsely : Prop := ladderWantsRow.holds Try.pinned (OpenSpec.ofChange ladderWantsWrong)

/-- 'antiphonlaw23.LadderHolds': WHATEVER THE INPUT: true; the input reads as it did. -/
def ladderHoldsSpec : ChangeSpec := { name := "ladderHolds", fn := fun _ => fun
  | [d1, d2, d3, d4] => { results := [.lit (.bool true)], args := [d1, d2, d3, d4] }
  | _ => none }
def ladderHoldsRow : OpenClaim := { program := "ytjiodpbgjhoakaa", sum := "f63ad15723ab0d2146ca839efbaf16261f6d5ff303d39618718e5596433ef4b5", func := "antiphon/antiphonlaw23.LadderHolds", spec := "ladderHolds", apart := false }
def LadderHoldsSaid : Prop := ladderHoldsRow.holds Try.pinned (OpenSpec.ofChange ladderHoldsSpec)

/-- ITS FALSE NEIGHBOUR: 'it returns false'. Refute it at one input. -/
def ladderHoldsWrong : ChangeSpec := { name := "ladderHolds", fn := fun _ => fun
  | [d1, d2, d3, d4] => { results := [.lit (.bool false)], args := [d1, d2, d3, d4] }
  | _ => none }
def LadderHoldsWrongFalsely : Prop := ladderHoldsRow.holds Try.pinned (OpenSpec.ofChange ladderHoldsWrong)

/-- 'antiphonlaw23.LadderMay': WHATEVER THE INPUT: true; the input reads as it did. -/
def ladderMaySpec : ChangeSpec := { name := "ladderMay", fn := fun _ => fun
  | [d1, d2, d3] => { results := [.lit (.bool true)], args := [d1, d2, d3] }
  | _ => none }
def ladderMayRow : OpenClaim := { program := "ytjiodpbgjhoakaa", sum := "f63ad15723ab0d2146ca839efbaf16261f6d5ff303d39618718e5596433ef4b5", func := "antiphon/antiphonlaw23.LadderMay", spec := "ladderMay", apart := false }
def LadderMaySaid : Prop := ladderMayRow.holds Try.pinned (OpenSpec.ofChange ladderMaySpec)

/-- ITS FALSE NEIGHBOUR: 'it returns false'. Refute it at one input. -/
def ladderMayWrong : ChangeSpec := { name := "ladderMay", fn := fun _ => fun
  | [d1, d2, d3] => { results := [.lit (.bool false)], args := [d1, d2, d3] }
  | _ => none }
def LadderMayWrongFalsely : Prop := ladderMayRow.holds Try.pinned (OpenSpec.ofChange ladderMayWrong)

/- THE SECOND FORM. 'bulk': how many values and letters a reading holds, each counted each time it is reached (what is shared counts as often as it is met; a slice's spare places count too). A statement '..UptoSaid' is the law's where the arguments, and the package variables that the reading takes, are together of bulk at most 1048576: NARROWER than '..Said'. Prove '..Said' where nothing that the law and all that it calls make is longer than what came in: it says more and counts as full. Else prove '..UptoSaid'. A law counts once. -/
mutual
def uptoBulk {H : Type} : DataW H → Nat
  | .lit (.string bytes) => bytes.length + 1
  | .lit _ => 1
  | .nil => 1
  | .ptr d => uptoBulk d + 1
  | .slice elems spare => uptoBulkAll elems + uptoBulkAll spare + 1
  | .agg parts => uptoBulkAll parts + 1
  | .iface _ d => uptoBulk d + 1
  | .map entries => uptoBulkEntries entries + 1
  | .held _ => 1
def uptoBulkAll {H : Type} : List (DataW H) → Nat
  | [] => 0
  | d :: r => uptoBulk d + uptoBulkAll r
def uptoBulkEntries {H : Type} : List (Lit × DataW H) → Nat
  | [] => 0
  | x :: r => uptoBulkEntry x + uptoBulkEntries r
def uptoBulkEntry {H : Type} : Lit × DataW H → Nat
  | (.string bytes, d) => bytes.length + uptoBulk d + 1
  | (_, d) => uptoBulk d + 1
 end
def uptoSmall : (H : Type) → List (DataW H) → Bool := fun _ ds => decide (uptoBulkAll ds ≤ 1048576)
def OpenSpec.upto (s : _root_.Go.ChangeSpec) : _root_.Go.OpenSpec := { _root_.Go.OpenSpec.ofChange s with cond := some uptoSmall }

/-- 'antiphonlaw21.PliPlays', WHERE WHAT IT READS IS OF BULK AT MOST 1048576: true; the input reads as it did. -/
def pliPlaysUptoRow : OpenClaim := { program := "ytjiodpbgjhoakaa", sum := "f63ad15723ab0d2146ca839efbaf16261f6d5ff303d39618718e5596433ef4b5", func := "antiphon/antiphonlaw21.PliPlays", spec := "pliPlays", apart := false, narrowed := true }
def PliPlaysUptoSaid : Prop := pliPlaysUptoRow.holds Try.pinned (OpenSpec.upto pliPlaysSpec)

/-- 'antiphonlaw21.PliBackoff', WHERE WHAT IT READS IS OF BULK AT MOST 1048576: true; the input reads as it did. -/
def pliBackoffUptoRow : OpenClaim := { program := "ytjiodpbgjhoakaa", sum := "f63ad15723ab0d2146ca839efbaf16261f6d5ff303d39618718e5596433ef4b5", func := "antiphon/antiphonlaw21.PliBackoff", spec := "pliBackoff", apart := false, narrowed := true }
def PliBackoffUptoSaid : Prop := pliBackoffUptoRow.holds Try.pinned (OpenSpec.upto pliBackoffSpec)

/-- 'antiphonlaw21.PliAgain', WHERE WHAT IT READS IS OF BULK AT MOST 1048576: true; the input reads as it did. -/
def pliAgainUptoRow : OpenClaim := { program := "ytjiodpbgjhoakaa", sum := "f63ad15723ab0d2146ca839efbaf16261f6d5ff303d39618718e5596433ef4b5", func := "antiphon/antiphonlaw21.PliAgain", spec := "pliAgain", apart := false, narrowed := true }
def PliAgainUptoSaid : Prop := pliAgainUptoRow.holds Try.pinned (OpenSpec.upto pliAgainSpec)

/-- 'antiphonlaw21.PliMay', WHERE WHAT IT READS IS OF BULK AT MOST 1048576: true; the input reads as it did. -/
def pliMayUptoRow : OpenClaim := { program := "ytjiodpbgjhoakaa", sum := "f63ad15723ab0d2146ca839efbaf16261f6d5ff303d39618718e5596433ef4b5", func := "antiphon/antiphonlaw21.PliMay", spec := "pliMay", apart := false, narrowed := true }
def PliMayUptoSaid : Prop := pliMayUptoRow.holds Try.pinned (OpenSpec.upto pliMaySpec)

/-- 'antiphonlaw22.StallPlays', WHERE WHAT IT READS IS OF BULK AT MOST 1048576: true; the input reads as it did. -/
def stallPlaysUptoRow : OpenClaim := { program := "ytjiodpbgjhoakaa", sum := "f63ad15723ab0d2146ca839efbaf16261f6d5ff303d39618718e5596433ef4b5", func := "antiphon/antiphonlaw22.StallPlays", spec := "stallPlays", apart := false, narrowed := true }
def StallPlaysUptoSaid : Prop := stallPlaysUptoRow.holds Try.pinned (OpenSpec.upto stallPlaysSpec)

/-- 'antiphonlaw22.StallNever', WHERE WHAT IT READS IS OF BULK AT MOST 1048576: true; the input reads as it did. -/
def stallNeverUptoRow : OpenClaim := { program := "ytjiodpbgjhoakaa", sum := "f63ad15723ab0d2146ca839efbaf16261f6d5ff303d39618718e5596433ef4b5", func := "antiphon/antiphonlaw22.StallNever", spec := "stallNever", apart := false, narrowed := true }
def StallNeverUptoSaid : Prop := stallNeverUptoRow.holds Try.pinned (OpenSpec.upto stallNeverSpec)

/-- 'antiphonlaw22.StallEnds', WHERE WHAT IT READS IS OF BULK AT MOST 1048576: true; the input reads as it did. -/
def stallEndsUptoRow : OpenClaim := { program := "ytjiodpbgjhoakaa", sum := "f63ad15723ab0d2146ca839efbaf16261f6d5ff303d39618718e5596433ef4b5", func := "antiphon/antiphonlaw22.StallEnds", spec := "stallEnds", apart := false, narrowed := true }
def StallEndsUptoSaid : Prop := stallEndsUptoRow.holds Try.pinned (OpenSpec.upto stallEndsSpec)

/-- 'antiphonlaw22.StallMay', WHERE WHAT IT READS IS OF BULK AT MOST 1048576: true; the input reads as it did. -/
def stallMayUptoRow : OpenClaim := { program := "ytjiodpbgjhoakaa", sum := "f63ad15723ab0d2146ca839efbaf16261f6d5ff303d39618718e5596433ef4b5", func := "antiphon/antiphonlaw22.StallMay", spec := "stallMay", apart := false, narrowed := true }
def StallMayUptoSaid : Prop := stallMayUptoRow.holds Try.pinned (OpenSpec.upto stallMaySpec)

/-- 'antiphonlaw23.LadderPlays', WHERE WHAT IT READS IS OF BULK AT MOST 1048576: true; the input reads as it did. -/
def ladderPlaysUptoRow : OpenClaim := { program := "ytjiodpbgjhoakaa", sum := "f63ad15723ab0d2146ca839efbaf16261f6d5ff303d39618718e5596433ef4b5", func := "antiphon/antiphonlaw23.LadderPlays", spec := "ladderPlays", apart := false, narrowed := true }
def LadderPlaysUptoSaid : Prop := ladderPlaysUptoRow.holds Try.pinned (OpenSpec.upto ladderPlaysSpec)

/-- 'antiphonlaw23.LadderWants', WHERE WHAT IT READS IS OF BULK AT MOST 1048576: true; the input reads as it did. -/
def ladderWantsUptoRow : OpenClaim := { program := "ytjiodpbgjhoakaa", sum := "f63ad15723ab0d2146ca839efbaf16261f6d5ff303d39618718e5596433ef4b5", func := "antiphon/antiphonlaw23.LadderWants", spec := "ladderWants", apart := false, narrowed := true }
def LadderWantsUptoSaid : Prop := ladderWantsUptoRow.holds Try.pinned (OpenSpec.upto ladderWantsSpec)

/-- 'antiphonlaw23.LadderHolds', WHERE WHAT IT READS IS OF BULK AT MOST 1048576: true; the input reads as it did. -/
def ladderHoldsUptoRow : OpenClaim := { program := "ytjiodpbgjhoakaa", sum := "f63ad15723ab0d2146ca839efbaf16261f6d5ff303d39618718e5596433ef4b5", func := "antiphon/antiphonlaw23.LadderHolds", spec := "ladderHolds", apart := false, narrowed := true }
def LadderHoldsUptoSaid : Prop := ladderHoldsUptoRow.holds Try.pinned (OpenSpec.upto ladderHoldsSpec)

/-- 'antiphonlaw23.LadderMay', WHERE WHAT IT READS IS OF BULK AT MOST 1048576: true; the input reads as it did. -/
def ladderMayUptoRow : OpenClaim := { program := "ytjiodpbgjhoakaa", sum := "f63ad15723ab0d2146ca839efbaf16261f6d5ff303d39618718e5596433ef4b5", func := "antiphon/antiphonlaw23.LadderMay", spec := "ladderMay", apart := false, narrowed := true }
def LadderMayUptoSaid : Prop := ladderMayUptoRow.holds Try.pinned (OpenSpec.upto ladderMaySpec)

end Rows
end Go.Proofs.Ytjiodpbgjhoakaa
