/-
  No cell of these rows narrows 'for every input' (looked for: loops, veiled, ifaces, maps, wideKeys, modest, calm, conditions, laid).
  DERIVED. THE GIVEN ROWS OF THIS SEAT. 10 by the template 'for every input the law returns true; each argument reads behind the call as it read before'; 0 by the template 'total and deterministic' (their statements: YtgppddmfdhpaiaaTotals.lean).
  GIVEN WITH THE SEED: the statements are not yours to turn. If you find one false, say at which input.
  Laid BY PROGRAM, IN A SANDBOX (cutbox-rows.mjs): the forced cells as the released guide's own fill.sh prints them over the translation 463f1dcc5a3a8d3a… (all of the seat's roots in one cut). By AI agents, Wed Nov 11 2026. No macro, syntax, notation, axiom, sorry.
-/
import Derived.Test.YtgppddmfdhpaiaaChecked
import GoSem.Claim
import GoSem.ClaimJoined
import GoSem.ClaimMapViews
import Derived.JoinedTies
import Derived.KernelRfl
namespace Go.Proofs.Ytgppddmfdhpaiaa
/- THE CELL 'sum', in the pinned program and in every row, IS THE sha256 OF THE DUMP (.gsa) THAT YtgppddmfdhpaiaaProg.lean LOADS. Nothing in Lean hashes anything: it is a label: what it is worth is what the hold of that sum in a sandbox is worth. -/
noncomputable def Try.pinned : Pinned := { name := "ytgppddmfdhpaiaa", sum := "463f1dcc5a3a8d3a0b3053a8cfdcb771b721ab5d844dc5c1e568ee84d7410103", checked := Try.checked }
namespace Rows
def none {H : Type} : Left H := { results := [], args := [] }

/-- 'antiphonlaw08.ExtendPlays': WHATEVER THE INPUT: true; the input reads as it did. -/
def extendPlaysSpec : ChangeSpec := { name := "extendPlays", fn := fun _ => fun
  | [d] => { results := [.lit (.bool true)], args := [d] }
  | _ => none }
def extendPlaysRow : OpenClaim := { program := "ytgppddmfdhpaiaa", sum := "463f1dcc5a3a8d3a0b3053a8cfdcb771b721ab5d844dc5c1e568ee84d7410103", func := "antiphon/antiphonlaw08.ExtendPlays", spec := "extendPlays", apart := false }
def ExtendPlaysSaid : Prop := extendPlaysRow.holds Try.pinned (OpenSpec.ofChange extendPlaysSpec)

/-- ITS FALSE NEIGHBOUR: 'it returns false'. Refute it at one input. -/
def extendPlaysWrong : ChangeSpec := { name := "extendPlays", fn := fun _ => fun
  | [d] => { results := [.lit (.bool false)], args := [d] }
  | _ => none }
def ExtendPlaysWrongFalsely : Prop := extendPlaysRow.holds Try.pinned (OpenSpec.ofChange extendPlaysWrong)

/-- 'antiphonlaw08.ExtendKeeps': WHATEVER THE INPUT: true; the input reads as it did. -/
def extendKeepsSpec : ChangeSpec := { name := "extendKeeps", fn := fun _ => fun
  | [d1, d2] => { results := [.lit (.bool true)], args := [d1, d2] }
  | _ => none }
def extendKeepsRow : OpenClaim := { program := "ytgppddmfdhpaiaa", sum := "463f1dcc5a3a8d3a0b3053a8cfdcb771b721ab5d844dc5c1e568ee84d7410103", func := "antiphon/antiphonlaw08.ExtendKeeps", spec := "extendKeeps", apart := false }
def ExtendKeepsSaid : Prop := extendKeepsRow.holds Try.pinned (OpenSpec.ofChange extendKeepsSpec)

/-- ITS FALSE NEIGHBOUR: 'it returns false'. Refute it at one input. -/
def extendKeepsWrong : ChangeSpec := { name := "extendKeeps", fn := fun _ => fun
  | [d1, d2] => { results := [.lit (.bool false)], args := [d1, d2] }
  | _ => none }
def ExtendKeepsWrongFalsely : Prop := extendKeepsRow.holds Try.pinned (OpenSpec.ofChange extendKeepsWrong)

/-- 'antiphonlaw08.ExtendJumps': WHATEVER THE INPUT: true; the input reads as it did. -/
def extendJumpsSpec : ChangeSpec := { name := "extendJumps", fn := fun _ => fun
  | [d1, d2] => { results := [.lit (.bool true)], args := [d1, d2] }
  | _ => none }
def extendJumpsRow : OpenClaim := { program := "ytgppddmfdhpaiaa", sum := "463f1dcc5a3a8d3a0b3053a8cfdcb771b721ab5d844dc5c1e568ee84d7410103", func := "antiphon/antiphonlaw08.ExtendJumps", spec := "extendJumps", apart := false }
def ExtendJumpsSaid : Prop := extendJumpsRow.holds Try.pinned (OpenSpec.ofChange extendJumpsSpec)

/-- ITS FALSE NEIGHBOUR: 'it returns false'. Refute it at one input. -/
def extendJumpsWrong : ChangeSpec := { name := "extendJumps", fn := fun _ => fun
  | [d1, d2] => { results := [.lit (.bool false)], args := [d1, d2] }
  | _ => none }
def ExtendJumpsWrongFalsely : Prop := extendJumpsRow.holds Try.pinned (OpenSpec.ofChange extendJumpsWrong)

/-- 'antiphonlaw08.ExtendTimes': WHATEVER THE INPUT: true; the input reads as it did. -/
def extendTimesSpec : ChangeSpec := { name := "extendTimes", fn := fun _ => fun
  | [d] => { results := [.lit (.bool true)], args := [d] }
  | _ => none }
def extendTimesRow : OpenClaim := { program := "ytgppddmfdhpaiaa", sum := "463f1dcc5a3a8d3a0b3053a8cfdcb771b721ab5d844dc5c1e568ee84d7410103", func := "antiphon/antiphonlaw08.ExtendTimes", spec := "extendTimes", apart := false }
def ExtendTimesSaid : Prop := extendTimesRow.holds Try.pinned (OpenSpec.ofChange extendTimesSpec)

/-- ITS FALSE NEIGHBOUR: 'it returns false'. Refute it at one input. -/
def extendTimesWrong : ChangeSpec := { name := "extendTimes", fn := fun _ => fun
  | [d] => { results := [.lit (.bool false)], args := [d] }
  | _ => none }
def ExtendTimesWrongFalsely : Prop := extendTimesRow.holds Try.pinned (OpenSpec.ofChange extendTimesWrong)

/-- 'antiphonlaw08.ExtendTwo': WHATEVER THE INPUT: true; the input reads as it did. -/
def extendTwoSpec : ChangeSpec := { name := "extendTwo", fn := fun _ => fun
  | [d] => { results := [.lit (.bool true)], args := [d] }
  | _ => none }
def extendTwoRow : OpenClaim := { program := "ytgppddmfdhpaiaa", sum := "463f1dcc5a3a8d3a0b3053a8cfdcb771b721ab5d844dc5c1e568ee84d7410103", func := "antiphon/antiphonlaw08.ExtendTwo", spec := "extendTwo", apart := false }
def ExtendTwoSaid : Prop := extendTwoRow.holds Try.pinned (OpenSpec.ofChange extendTwoSpec)

/-- ITS FALSE NEIGHBOUR: 'it returns false'. Refute it at one input. -/
def extendTwoWrong : ChangeSpec := { name := "extendTwo", fn := fun _ => fun
  | [d] => { results := [.lit (.bool false)], args := [d] }
  | _ => none }
def ExtendTwoWrongFalsely : Prop := extendTwoRow.holds Try.pinned (OpenSpec.ofChange extendTwoWrong)

/-- 'antiphonlaw09.ReorderPlays': WHATEVER THE INPUT: true; the input reads as it did. -/
def reorderPlaysSpec : ChangeSpec := { name := "reorderPlays", fn := fun _ => fun
  | [d1, d2, d3] => { results := [.lit (.bool true)], args := [d1, d2, d3] }
  | _ => none }
def reorderPlaysRow : OpenClaim := { program := "ytgppddmfdhpaiaa", sum := "463f1dcc5a3a8d3a0b3053a8cfdcb771b721ab5d844dc5c1e568ee84d7410103", func := "antiphon/antiphonlaw09.ReorderPlays", spec := "reorderPlays", inPlace := ["slices.overlaps[antiphon/reorder.Thing]"], unfollowed := true, recurses := true, apart := false }
def ReorderPlaysSaid : Prop := reorderPlaysRow.holds Try.pinned (OpenSpec.ofChange reorderPlaysSpec)

/-- ITS FALSE NEIGHBOUR: 'it returns false'. Refute it at one input. -/
def reorderPlaysWrong : ChangeSpec := { name := "reorderPlays", fn := fun _ => fun
  | [d1, d2, d3] => { results := [.lit (.bool false)], args := [d1, d2, d3] }
  | _ => none }
def ReorderPlaysWrongFalsely : Prop := reorderPlaysRow.holds Try.pinned (OpenSpec.ofChange reorderPlaysWrong)

/-- 'antiphonlaw09.ReorderWaits': WHATEVER THE INPUT: true; the input reads as it did. -/
def reorderWaitsSpec : ChangeSpec := { name := "reorderWaits", fn := fun _ => fun
  | [d1, d2, d3] => { results := [.lit (.bool true)], args := [d1, d2, d3] }
  | _ => none }
def reorderWaitsRow : OpenClaim := { program := "ytgppddmfdhpaiaa", sum := "463f1dcc5a3a8d3a0b3053a8cfdcb771b721ab5d844dc5c1e568ee84d7410103", func := "antiphon/antiphonlaw09.ReorderWaits", spec := "reorderWaits", inPlace := ["slices.overlaps[antiphon/reorder.Thing]"], unfollowed := true, recurses := true, apart := false }
def ReorderWaitsSaid : Prop := reorderWaitsRow.holds Try.pinned (OpenSpec.ofChange reorderWaitsSpec)

/-- ITS FALSE NEIGHBOUR: 'it returns false'. Refute it at one input. -/
def reorderWaitsWrong : ChangeSpec := { name := "reorderWaits", fn := fun _ => fun
  | [d1, d2, d3] => { results := [.lit (.bool false)], args := [d1, d2, d3] }
  | _ => none }
def ReorderWaitsWrongFalsely : Prop := reorderWaitsRow.holds Try.pinned (OpenSpec.ofChange reorderWaitsWrong)

/-- 'antiphonlaw09.ReorderPerm': WHATEVER THE INPUT: true; the input reads as it did. -/
def reorderPermSpec : ChangeSpec := { name := "reorderPerm", fn := fun _ => fun
  | [d] => { results := [.lit (.bool true)], args := [d] }
  | _ => none }
def reorderPermRow : OpenClaim := { program := "ytgppddmfdhpaiaa", sum := "463f1dcc5a3a8d3a0b3053a8cfdcb771b721ab5d844dc5c1e568ee84d7410103", func := "antiphon/antiphonlaw09.ReorderPerm", spec := "reorderPerm", inPlace := ["slices.overlaps[antiphon/reorder.Thing]"], unfollowed := true, recurses := true, apart := false }
def ReorderPermSaid : Prop := reorderPermRow.holds Try.pinned (OpenSpec.ofChange reorderPermSpec)

/-- ITS FALSE NEIGHBOUR: 'it returns false'. Refute it at one input. -/
def reorderPermWrong : ChangeSpec := { name := "reorderPerm", fn := fun _ => fun
  | [d] => { results := [.lit (.bool false)], args := [d] }
  | _ => none }
def ReorderPermWrongFalsely : Prop := reorderPermRow.holds Try.pinned (OpenSpec.ofChange reorderPermWrong)

/-- 'antiphonlaw09.ReorderMay': WHATEVER THE INPUT: true; the input reads as it did. -/
def reorderMaySpec : ChangeSpec := { name := "reorderMay", fn := fun _ => fun
  | [d1, d2] => { results := [.lit (.bool true)], args := [d1, d2] }
  | _ => none }
def reorderMayRow : OpenClaim := { program := "ytgppddmfdhpaiaa", sum := "463f1dcc5a3a8d3a0b3053a8cfdcb771b721ab5d844dc5c1e568ee84d7410103", func := "antiphon/antiphonlaw09.ReorderMay", spec := "reorderMay", inPlace := ["slices.overlaps[antiphon/reorder.Thing]"], unfollowed := true, recurses := true, apart := false }
def ReorderMaySaid : Prop := reorderMayRow.holds Try.pinned (OpenSpec.ofChange reorderMaySpec)

/-- ITS FALSE NEIGHBOUR: 'it returns false'. Refute it at one input. -/
def reorderMayWrong : ChangeSpec := { name := "reorderMay", fn := fun _ => fun
  | [d1, d2] => { results := [.lit (.bool false)], args := [d1, d2] }
  | _ => none }
def ReorderMayWrongFalsely : Prop := reorderMayRow.holds Try.pinned (OpenSpec.ofChange reorderMayWrong)

/-- 'antiphonlaw09.ReorderNone': WHATEVER THE INPUT: true; the input reads as it did. -/
def reorderNoneSpec : ChangeSpec := { name := "reorderNone", fn := fun _ => fun
  | [d1, d2] => { results := [.lit (.bool true)], args := [d1, d2] }
  | _ => none }
def reorderNoneRow : OpenClaim := { program := "ytgppddmfdhpaiaa", sum := "463f1dcc5a3a8d3a0b3053a8cfdcb771b721ab5d844dc5c1e568ee84d7410103", func := "antiphon/antiphonlaw09.ReorderNone", spec := "reorderNone", inPlace := ["slices.overlaps[antiphon/reorder.Thing]"], unfollowed := true, recurses := true, apart := false }
def ReorderNoneSaid : Prop := reorderNoneRow.holds Try.pinned (OpenSpec.ofChange reorderNoneSpec)

/-- ITS FALSE NEIGHBOUR: 'it returns false'. Refute it at one input. -/
def reorderNoneWrong : ChangeSpec := { name := "reorderNone", fn := fun _ => fun
  | [d1, d2] => { results := [.lit (.bool false)], args := [d1, d2] }
  | _ => none }
def ReorderNoneWrongFalsely : Prop := reorderNoneRow.holds Try.pinned (OpenSpec.ofChange reorderNoneWrong)

/- THE SECOND FORM. 'bulk': how many values and letters a reading holds, each counted each time it is reached (what is shared counts as often as it is met; a slice's spare places count too). A statement '..UptoSaid' is the law's where the arguments, and the package variables that the reading takes, are together of bulk at most 1048576: NARROWER than '..Said'. Prove '..Said' where nothing that the law and all that it calls make is longer than what came in: it says more and counts as full. Else prove '..UptoSaid'. A law counts once. -/
mutual
def uptoBulk {H : Type} : DataW H → Nat
  | .lit (.string bytes) => bytes.length + 1
  | .lit _ => 1
  | .nil => 1
  | .ptr d => uptoBulk d + 1
  | .slice elems spare => uptoBulkAll elems + uptoBulkAll spare + 1
  | .agg parts => uptoBulkAll parts + 1
  | .iface _ d => uptoBulk d + 1
  | .map entries => uptoBulkEntries entries + 1
  | .held _ => 1
def uptoBulkAll {H : Type} : List (DataW H) → Nat
  | [] => 0
  | d :: r => uptoBulk d + uptoBulkAll r
def uptoBulkEntries {H : Type} : List (Lit × DataW H) → Nat
  | [] => 0
  | x :: r => uptoBulkEntry x + uptoBulkEntries r
def uptoBulkEntry {H : Type} : Lit × DataW H → Nat
  | (.string bytes, d) => bytes.length + uptoBulk d + 1
  | (_, d) => uptoBulk d + 1
 end
def uptoSmall : (H : Type) → List (DataW H) → Bool := fun _ ds => decide (uptoBulkAll ds ≤ 1048576)
def OpenSpec.upto (s : _root_.Go.ChangeSpec) : _root_.Go.OpenSpec := { _root_.Go.OpenSpec.ofChange s with cond := some uptoSmall }

/-- 'antiphonlaw08.ExtendPlays', WHERE WHAT IT READS IS OF BULK AT MOST 1048576: true; the input reads as it did. -/
def extendPlaysUptoRow : OpenClaim := { program := "ytgppddmfdhpaiaa", sum := "463f1dcc5a3a8d3a0b3053a8cfdcb771b721ab5d844dc5c1e568ee84d7410103", func := "antiphon/antiphonlaw08.ExtendPlays", spec := "extendPlays", apart := false, narrowed := true }
def ExtendPlaysUptoSaid : Prop := extendPlaysUptoRow.holds Try.pinned (OpenSpec.upto extendPlaysSpec)

/-- 'antiphonlaw08.ExtendKeeps', WHERE WHAT IT READS IS OF BULK AT MOST 1048576: true; the input reads as it did. -/
def extendKeepsUptoRow : OpenClaim := { program := "ytgppddmfdhpaiaa", sum := "463f1dcc5a3a8d3a0b3053a8cfdcb771b721ab5d844dc5c1e568ee84d7410103", func := "antiphon/antiphonlaw08.ExtendKeeps", spec := "extendKeeps", apart := false, narrowed := true }
def ExtendKeepsUptoSaid : Prop := extendKeepsUptoRow.holds Try.pinned (OpenSpec.upto extendKeepsSpec)

/-- 'antiphonlaw08.ExtendJumps', WHERE WHAT IT READS IS OF BULK AT MOST 1048576: true; the input reads as it did. -/
def extendJumpsUptoRow : OpenClaim := { program := "ytgppddmfdhpaiaa", sum := "463f1dcc5a3a8d3a0b3053a8cfdcb771b721ab5d844dc5c1e568ee84d7410103", func := "antiphon/antiphonlaw08.ExtendJumps", spec := "extendJumps", apart := false, narrowed := true }
def ExtendJumpsUptoSaid : Prop := extendJumpsUptoRow.holds Try.pinned (OpenSpec.upto extendJumpsSpec)

/-- 'antiphonlaw08.ExtendTimes', WHERE WHAT IT READS IS OF BULK AT MOST 1048576: true; the input reads as it did. -/
def extendTimesUptoRow : OpenClaim := { program := "ytgppddmfdhpaiaa", sum := "463f1dcc5a3a8d3a0b3053a8cfdcb771b721ab5d844dc5c1e568ee84d7410103", func := "antiphon/antiphonlaw08.ExtendTimes", spec := "extendTimes", apart := false, narrowed := true }
def ExtendTimesUptoSaid : Prop := extendTimesUptoRow.holds Try.pinned (OpenSpec.upto extendTimesSpec)

/-- 'antiphonlaw08.ExtendTwo', WHERE WHAT IT READS IS OF BULK AT MOST 1048576: true; the input reads as it did. -/
def extendTwoUptoRow : OpenClaim := { program := "ytgppddmfdhpaiaa", sum := "463f1dcc5a3a8d3a0b3053a8cfdcb771b721ab5d844dc5c1e568ee84d7410103", func := "antiphon/antiphonlaw08.ExtendTwo", spec := "extendTwo", apart := false, narrowed := true }
def ExtendTwoUptoSaid : Prop := extendTwoUptoRow.holds Try.pinned (OpenSpec.upto extendTwoSpec)

/-- 'antiphonlaw09.ReorderPlays', WHERE WHAT IT READS IS OF BULK AT MOST 1048576: true; the input reads as it did. -/
def reorderPlaysUptoRow : OpenClaim := { program := "ytgppddmfdhpaiaa", sum := "463f1dcc5a3a8d3a0b3053a8cfdcb771b721ab5d844dc5c1e568ee84d7410103", func := "antiphon/antiphonlaw09.ReorderPlays", spec := "reorderPlays", inPlace := ["slices.overlaps[antiphon/reorder.Thing]"], unfollowed := true, recurses := true, apart := false, narrowed := true }
def ReorderPlaysUptoSaid : Prop := reorderPlaysUptoRow.holds Try.pinned (OpenSpec.upto reorderPlaysSpec)

/-- 'antiphonlaw09.ReorderWaits', WHERE WHAT IT READS IS OF BULK AT MOST 1048576: true; the input reads as it did. -/
def reorderWaitsUptoRow : OpenClaim := { program := "ytgppddmfdhpaiaa", sum := "463f1dcc5a3a8d3a0b3053a8cfdcb771b721ab5d844dc5c1e568ee84d7410103", func := "antiphon/antiphonlaw09.ReorderWaits", spec := "reorderWaits", inPlace := ["slices.overlaps[antiphon/reorder.Thing]"], unfollowed := true, recurses := true, apart := false, narrowed := true }
def ReorderWaitsUptoSaid : Prop := reorderWaitsUptoRow.holds Try.pinned (OpenSpec.upto reorderWaitsSpec)

/-- 'antiphonlaw09.ReorderPerm', WHERE WHAT IT READS IS OF BULK AT MOST 1048576: true; the input reads as it did. -/
def reorderPermUptoRow : OpenClaim := { program := "ytgppddmfdhpaiaa", sum := "463f1dcc5a3a8d3a0b3053a8cfdcb771b721ab5d844dc5c1e568ee84d7410103", func := "antiphon/antiphonlaw09.ReorderPerm", spec := "reorderPerm", inPlace := ["slices.overlaps[antiphon/reorder.Thing]"], unfollowed := true, recurses := true, apart := false, narrowed := true }
def ReorderPermUptoSaid : Prop := reorderPermUptoRow.holds Try.pinned (OpenSpec.upto reorderPermSpec)

/-- 'antiphonlaw09.ReorderMay', WHERE WHAT IT READS IS OF BULK AT MOST 1048576: true; the input reads as it did. -/
def reorderMayUptoRow : OpenClaim := { program := "ytgppddmfdhpaiaa", sum := "463f1dcc5a3a8d3a0b3053a8cfdcb771b721ab5d844dc5c1e568ee84d7410103", func := "antiphon/antiphonlaw09.ReorderMay", spec := "reorderMay", inPlace := ["slices.overlaps[antiphon/reorder.Thing]"], unfollowed := true, recurses := true, apart := false, narrowed := true }
def ReorderMayUptoSaid : Prop := reorderMayUptoRow.holds Try.pinned (OpenSpec.upto reorderMaySpec)

/-- 'antiphonlaw09.ReorderNone', WHERE WHAT IT READS IS OF BULK AT MOST 1048576: true; the input reads as it did. -/
def reorderNoneUptoRow : OpenClaim := { program := "ytgppddmfdhpaiaa", sum := "463f1dcc5a3a8d3a0b3053a8cfdcb771b721ab5d844dc5c1e568ee84d7410103", func := "antiphon/antiphonlaw09.ReorderNone", spec := "reorderNone", inPlace := ["slices.overlaps[antiphon/reorder.Thing]"], unfollowed := true, recurses := true, apart := false, narrowed := true }
def ReorderNoneUptoSaid : Prop := reorderNoneUptoRow.holds Try.pinned (OpenSpec.upto reorderNoneSpec)

end Rows
end Go.Proofs.Ytgppddmfdhpaiaa
