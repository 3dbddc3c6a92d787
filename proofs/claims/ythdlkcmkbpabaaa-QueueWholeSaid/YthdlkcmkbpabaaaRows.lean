/-
  No cell of these rows narrows 'for every input' (looked for: loops, veiled, ifaces, maps, wideKeys, modest, calm, conditions, laid).
  DERIVED. THE GIVEN ROWS OF THIS SEAT. 9 by the template 'for every input the law returns true; each argument reads behind the call as it read before'; 0 by the template 'total and deterministic' (their statements: YthdlkcmkbpabaaaTotals.lean).
  GIVEN WITH THE SEED: the statements are not yours to turn. If you find one false, say at which input.
  Laid BY PROGRAM, IN A SANDBOX (cutbox-rows.mjs): the forced cells as the released guide's own fill.sh prints them over the translation c951b122c9bbca3c… (all of the seat's roots in one cut). By AI agents, Wed Nov 11 2026. No macro, syntax, notation, axiom, sorry.
-/
import Derived.Test.YthdlkcmkbpabaaaChecked
import GoSem.Claim
import GoSem.ClaimJoined
import GoSem.ClaimMapViews
import Derived.JoinedTies
import Derived.KernelRfl
namespace Go.Proofs.Ythdlkcmkbpabaaa
/- THE CELL 'sum', in the pinned program and in every row, IS THE sha256 OF THE DUMP (.gsa) THAT YthdlkcmkbpabaaaProg.lean LOADS. Nothing in Lean hashes anything: it is a label: what it is worth is what the hold of that sum in a sandbox is worth. -/
noncomputable def Try.pinned : Pinned := { name := "ythdlkcmkbpabaaa", sum := "c951b122c9bbca3ca1a732e86e5bb48f98a40a43b9626acf25b23c2be81c825a", checked := Try.checked }
namespace Rows
def none {H : Type} : Left H := { results := [], args := [] }

/-- 'antiphonlaw18.QueuePlays': WHATEVER THE INPUT: true; the input reads as it did. -/
def queuePlaysSpec : ChangeSpec := { name := "queuePlays", fn := fun _ => fun
  | [d1, d2, d3, d4] => { results := [.lit (.bool true)], args := [d1, d2, d3, d4] }
  | _ => none }
def queuePlaysRow : OpenClaim := { program := "ythdlkcmkbpabaaa", sum := "c951b122c9bbca3ca1a732e86e5bb48f98a40a43b9626acf25b23c2be81c825a", func := "antiphon/antiphonlaw18.QueuePlays", spec := "queuePlays", apart := false }
def QueuePlaysSaid : Prop := queuePlaysRow.holds Try.pinned (OpenSpec.ofChange queuePlaysSpec)

/-- ITS FALSE NEIGHBOUR: 'it returns false'. Refute it at one input. -/
def queuePlaysWrong : ChangeSpec := { name := "queuePlays", fn := fun _ => fun
  | [d1, d2, d3, d4] => { results := [.lit (.bool false)], args := [d1, d2, d3, d4] }
  | _ => none }
def QueuePlaysWrongFalsely : Prop := queuePlaysRow.holds Try.pinned (OpenSpec.ofChange queuePlaysWrong)

/-- 'antiphonlaw18.QueueKeys': WHATEVER THE INPUT: true; the input reads as it did. -/
def queueKeysSpec : ChangeSpec := { name := "queueKeys", fn := fun _ => fun
  | [d1, d2, d3, d4] => { results := [.lit (.bool true)], args := [d1, d2, d3, d4] }
  | _ => none }
def queueKeysRow : OpenClaim := { program := "ythdlkcmkbpabaaa", sum := "c951b122c9bbca3ca1a732e86e5bb48f98a40a43b9626acf25b23c2be81c825a", func := "antiphon/antiphonlaw18.QueueKeys", spec := "queueKeys", apart := false }
def QueueKeysSaid : Prop := queueKeysRow.holds Try.pinned (OpenSpec.ofChange queueKeysSpec)

/-- ITS FALSE NEIGHBOUR: 'it returns false'. Refute it at one input. -/
def queueKeysWrong : ChangeSpec := { name := "queueKeys", fn := fun _ => fun
  | [d1, d2, d3, d4] => { results := [.lit (.bool false)], args := [d1, d2, d3, d4] }
  | _ => none }
def QueueKeysWrongFalsely : Prop := queueKeysRow.holds Try.pinned (OpenSpec.ofChange queueKeysWrong)

/-- 'antiphonlaw18.QueueAge': WHATEVER THE INPUT: true; the input reads as it did. -/
def queueAgeSpec : ChangeSpec := { name := "queueAge", fn := fun _ => fun
  | [d1, d2, d3] => { results := [.lit (.bool true)], args := [d1, d2, d3] }
  | _ => none }
def queueAgeRow : OpenClaim := { program := "ythdlkcmkbpabaaa", sum := "c951b122c9bbca3ca1a732e86e5bb48f98a40a43b9626acf25b23c2be81c825a", func := "antiphon/antiphonlaw18.QueueAge", spec := "queueAge", apart := false }
def QueueAgeSaid : Prop := queueAgeRow.holds Try.pinned (OpenSpec.ofChange queueAgeSpec)

/-- ITS FALSE NEIGHBOUR: 'it returns false'. Refute it at one input. -/
def queueAgeWrong : ChangeSpec := { name := "queueAge", fn := fun _ => fun
  | [d1, d2, d3] => { results := [.lit (.bool false)], args := [d1, d2, d3] }
  | _ => none }
def QueueAgeWrongFalsely : Prop := queueAgeRow.holds Try.pinned (OpenSpec.ofChange queueAgeWrong)

/-- 'antiphonlaw18.QueueMay': WHATEVER THE INPUT: true; the input reads as it did. -/
def queueMaySpec : ChangeSpec := { name := "queueMay", fn := fun _ => fun
  | [d1, d2] => { results := [.lit (.bool true)], args := [d1, d2] }
  | _ => none }
def queueMayRow : OpenClaim := { program := "ythdlkcmkbpabaaa", sum := "c951b122c9bbca3ca1a732e86e5bb48f98a40a43b9626acf25b23c2be81c825a", func := "antiphon/antiphonlaw18.QueueMay", spec := "queueMay", apart := false }
def QueueMaySaid : Prop := queueMayRow.holds Try.pinned (OpenSpec.ofChange queueMaySpec)

/-- ITS FALSE NEIGHBOUR: 'it returns false'. Refute it at one input. -/
def queueMayWrong : ChangeSpec := { name := "queueMay", fn := fun _ => fun
  | [d1, d2] => { results := [.lit (.bool false)], args := [d1, d2] }
  | _ => none }
def QueueMayWrongFalsely : Prop := queueMayRow.holds Try.pinned (OpenSpec.ofChange queueMayWrong)

/-- 'antiphonlaw18.QueueWhole': WHATEVER THE INPUT: true; the input reads as it did. -/
def queueWholeSpec : ChangeSpec := { name := "queueWhole", fn := fun _ => fun
  | [d1, d2, d3, d4] => { results := [.lit (.bool true)], args := [d1, d2, d3, d4] }
  | _ => none }
def queueWholeRow : OpenClaim := { program := "ythdlkcmkbpabaaa", sum := "c951b122c9bbca3ca1a732e86e5bb48f98a40a43b9626acf25b23c2be81c825a", func := "antiphon/antiphonlaw18.QueueWhole", spec := "queueWhole", apart := false }
def QueueWholeSaid : Prop := queueWholeRow.holds Try.pinned (OpenSpec.ofChange queueWholeSpec)

/-- ITS FALSE NEIGHBOUR: 'it returns false'. Refute it at one input. -/
def queueWholeWrong : ChangeSpec := { name := "queueWhole", fn := fun _ => fun
  | [d1, d2, d3, d4] => { results := [.lit (.bool false)], args := [d1, d2, d3, d4] }
  | _ => none }
def QueueWholeWrongFalsely : Prop := queueWholeRow.holds Try.pinned (OpenSpec.ofChange queueWholeWrong)

/-- 'antiphonlaw19.DrrFair': WHATEVER THE INPUT: true; the input reads as it did. -/
def drrFairSpec : ChangeSpec := { name := "drrFair", fn := fun _ => fun
  | [d1, d2, d3] => { results := [.lit (.bool true)], args := [d1, d2, d3] }
  | _ => none }
def drrFairRow : OpenClaim := { program := "ythdlkcmkbpabaaa", sum := "c951b122c9bbca3ca1a732e86e5bb48f98a40a43b9626acf25b23c2be81c825a", func := "antiphon/antiphonlaw19.DrrFair", spec := "drrFair", unfollowed := true, recurses := true, apart := false }
def DrrFairSaid : Prop := drrFairRow.holds Try.pinned (OpenSpec.ofChange drrFairSpec)

/-- ITS FALSE NEIGHBOUR: 'it returns false'. Refute it at one input. -/
def drrFairWrong : ChangeSpec := { name := "drrFair", fn := fun _ => fun
  | [d1, d2, d3] => { results := [.lit (.bool false)], args := [d1, d2, d3] }
  | _ => none }
def DrrFairWrongFalsely : Prop := drrFairRow.holds Try.pinned (OpenSpec.ofChange drrFairWrong)

/-- 'antiphonlaw19.DrrWaits': WHATEVER THE INPUT: true; the input reads as it did. -/
def drrWaitsSpec : ChangeSpec := { name := "drrWaits", fn := fun _ => fun
  | [d1, d2, d3] => { results := [.lit (.bool true)], args := [d1, d2, d3] }
  | _ => none }
def drrWaitsRow : OpenClaim := { program := "ythdlkcmkbpabaaa", sum := "c951b122c9bbca3ca1a732e86e5bb48f98a40a43b9626acf25b23c2be81c825a", func := "antiphon/antiphonlaw19.DrrWaits", spec := "drrWaits", unfollowed := true, recurses := true, apart := false }
def DrrWaitsSaid : Prop := drrWaitsRow.holds Try.pinned (OpenSpec.ofChange drrWaitsSpec)

/-- ITS FALSE NEIGHBOUR: 'it returns false'. Refute it at one input. -/
def drrWaitsWrong : ChangeSpec := { name := "drrWaits", fn := fun _ => fun
  | [d1, d2, d3] => { results := [.lit (.bool false)], args := [d1, d2, d3] }
  | _ => none }
def DrrWaitsWrongFalsely : Prop := drrWaitsRow.holds Try.pinned (OpenSpec.ofChange drrWaitsWrong)

/-- 'antiphonlaw19.DrrMay': WHATEVER THE INPUT: true; the input reads as it did. -/
def drrMaySpec : ChangeSpec := { name := "drrMay", fn := fun _ => fun
  | [d1, d2] => { results := [.lit (.bool true)], args := [d1, d2] }
  | _ => none }
def drrMayRow : OpenClaim := { program := "ythdlkcmkbpabaaa", sum := "c951b122c9bbca3ca1a732e86e5bb48f98a40a43b9626acf25b23c2be81c825a", func := "antiphon/antiphonlaw19.DrrMay", spec := "drrMay", unfollowed := true, recurses := true, apart := false }
def DrrMaySaid : Prop := drrMayRow.holds Try.pinned (OpenSpec.ofChange drrMaySpec)

/-- ITS FALSE NEIGHBOUR: 'it returns false'. Refute it at one input. -/
def drrMayWrong : ChangeSpec := { name := "drrMay", fn := fun _ => fun
  | [d1, d2] => { results := [.lit (.bool false)], args := [d1, d2] }
  | _ => none }
def DrrMayWrongFalsely : Prop := drrMayRow.holds Try.pinned (OpenSpec.ofChange drrMayWrong)

/-- 'antiphonlaw19.DrrIdle': WHATEVER THE INPUT: true; the input reads as it did. -/
def drrIdleSpec : ChangeSpec := { name := "drrIdle", fn := fun _ => fun
  | [d1, d2, d3] => { results := [.lit (.bool true)], args := [d1, d2, d3] }
  | _ => none }
def drrIdleRow : OpenClaim := { program := "ythdlkcmkbpabaaa", sum := "c951b122c9bbca3ca1a732e86e5bb48f98a40a43b9626acf25b23c2be81c825a", func := "antiphon/antiphonlaw19.DrrIdle", spec := "drrIdle", unfollowed := true, recurses := true, apart := false }
def DrrIdleSaid : Prop := drrIdleRow.holds Try.pinned (OpenSpec.ofChange drrIdleSpec)

/-- ITS FALSE NEIGHBOUR: 'it returns false'. Refute it at one input. -/
def drrIdleWrong : ChangeSpec := { name := "drrIdle", fn := fun _ => fun
  | [d1, d2, d3] => { results := [.lit (.bool false)], args := [d1, d2, d3] }
  | _ => none }
def DrrIdleWrongFalsely : Prop := drrIdleRow.holds Try.pinned (OpenSpec.ofChange drrIdleWrong)

/- THE SECOND FORM. 'bulk': how many values and letters a reading holds, each counted each time it is reached (what is shared counts as often as it is met; a slice's spare places count too). A statement '..UptoSaid' is the law's where the arguments, and the package variables that the reading takes, are together of bulk at most 1048576: NARROWER than '..Said'. Prove '..Said' where nothing that the law and all that it calls make is longer than what came in: it says more and counts as full. Else prove '..UptoSaid'. A law counts once. -/
mutual
def uptoBulk {H : Type} : DataW H → Nat
  | .lit (.string bytes) => bytes.length + 1
  | .lit _ => 1
  | .nil => 1
  | .ptr d => uptoBulk d + 1
  | .slice elems spare => uptoBulkAll elems + uptoBulkAll spare + 1
  | .agg parts => uptoBulkAll parts + 1
  | .iface _ d => uptoBulk d + 1
  | .map entries => uptoBulkEntries entries + 1
  | .held _ => 1
def uptoBulkAll {H : Type} : List (DataW H) → Nat
  | [] => 0
  | d :: r => uptoBulk d + uptoBulkAll r
def uptoBulkEntries {H : Type} : List (Lit × DataW H) → Nat
  | [] => 0
  | x :: r => uptoBulkEntry x + uptoBulkEntries r
def uptoBulkEntry {H : Type} : Lit × DataW H → Nat
  | (.string bytes, d) => bytes.length + uptoBulk d + 1
  | (_, d) => uptoBulk d + 1
 end
def uptoSmall : (H : Type) → List (DataW H) → Bool := fun _ ds => decide (uptoBulkAll ds ≤ 1048576)
def OpenSpec.upto (s : _root_.Go.ChangeSpec) : _root_.Go.OpenSpec := { _root_.Go.OpenSpec.ofChange s with cond := some uptoSmall }

/-- 'antiphonlaw18.QueuePlays', WHERE WHAT IT READS IS OF BULK AT MOST 1048576: true; the input reads as it did. -/
def queuePlaysUptoRow : OpenClaim := { program := "ythdlkcmkbpabaaa", sum := "c951b122c9bbca3ca1a732e86e5bb48f98a40a43b9626acf25b23c2be81c825a", func := "antiphon/antiphonlaw18.QueuePlays", spec := "queuePlays", apart := false, narrowed := true }
def QueuePlaysUptoSaid : Prop := queuePlaysUptoRow.holds Try.pinned (OpenSpec.upto queuePlaysSpec)

/-- 'antiphonlaw18.QueueKeys', WHERE WHAT IT READS IS OF BULK AT MOST 1048576: true; the input reads as it did. -/
def queueKeysUptoRow : OpenClaim := { program := "ythdlkcmkbpabaaa", sum := "c951b122c9bbca3ca1a732e86e5bb48f98a40a43b9626acf25b23c2be81c825a", func := "antiphon/antiphonlaw18.QueueKeys", spec := "queueKeys", apart := false, narrowed := true }
def QueueKeysUptoSaid : Prop := queueKeysUptoRow.holds Try.pinned (OpenSpec.upto queueKeysSpec)

/-- 'antiphonlaw18.QueueAge', WHERE WHAT IT READS IS OF BULK AT MOST 1048576: true; the input reads as it did. -/
def queueAgeUptoRow : OpenClaim := { program := "ythdlkcmkbpabaaa", sum := "c951b122c9bbca3ca1a732e86e5bb48f98a40a43b9626acf25b23c2be81c825a", func := "antiphon/antiphonlaw18.QueueAge", spec := "queueAge", apart := false, narrowed := true }
def QueueAgeUptoSaid : Prop := queueAgeUptoRow.holds Try.pinned (OpenSpec.upto queueAgeSpec)

/-- 'antiphonlaw18.QueueMay', WHERE WHAT IT READS IS OF BULK AT MOST 1048576: true; the input reads as it did. -/
def queueMayUptoRow : OpenClaim := { program := "ythdlkcmkbpabaaa", sum := "c951b122c9bbca3ca1a732e86e5bb48f98a40a43b9626acf25b23c2be81c825a", func := "antiphon/antiphonlaw18.QueueMay", spec := "queueMay", apart := false, narrowed := true }
def QueueMayUptoSaid : Prop := queueMayUptoRow.holds Try.pinned (OpenSpec.upto queueMaySpec)

/-- 'antiphonlaw18.QueueWhole', WHERE WHAT IT READS IS OF BULK AT MOST 1048576: true; the input reads as it did. -/
def queueWholeUptoRow : OpenClaim := { program := "ythdlkcmkbpabaaa", sum := "c951b122c9bbca3ca1a732e86e5bb48f98a40a43b9626acf25b23c2be81c825a", func := "antiphon/antiphonlaw18.QueueWhole", spec := "queueWhole", apart := false, narrowed := true }
def QueueWholeUptoSaid : Prop := queueWholeUptoRow.holds Try.pinned (OpenSpec.upto queueWholeSpec)

/-- 'antiphonlaw19.DrrFair', WHERE WHAT IT READS IS OF BULK AT MOST 1048576: true; the input reads as it did. -/
def drrFairUptoRow : OpenClaim := { program := "ythdlkcmkbpabaaa", sum := "c951b122c9bbca3ca1a732e86e5bb48f98a40a43b9626acf25b23c2be81c825a", func := "antiphon/antiphonlaw19.DrrFair", spec := "drrFair", unfollowed := true, recurses := true, apart := false, narrowed := true }
def DrrFairUptoSaid : Prop := drrFairUptoRow.holds Try.pinned (OpenSpec.upto drrFairSpec)

/-- 'antiphonlaw19.DrrWaits', WHERE WHAT IT READS IS OF BULK AT MOST 1048576: true; the input reads as it did. -/
def drrWaitsUptoRow : OpenClaim := { program := "ythdlkcmkbpabaaa", sum := "c951b122c9bbca3ca1a732e86e5bb48f98a40a43b9626acf25b23c2be81c825a", func := "antiphon/antiphonlaw19.DrrWaits", spec := "drrWaits", unfollowed := true, recurses := true, apart := false, narrowed := true }
def DrrWaitsUptoSaid : Prop := drrWaitsUptoRow.holds Try.pinned (OpenSpec.upto drrWaitsSpec)

/-- 'antiphonlaw19.DrrMay', WHERE WHAT IT READS IS OF BULK AT MOST 1048576: true; the input reads as it did. -/
def drrMayUptoRow : OpenClaim := { program := "ythdlkcmkbpabaaa", sum := "c951b122c9bbca3ca1a732e86e5bb48f98a40a43b9626acf25b23c2be81c825a", func := "antiphon/antiphonlaw19.DrrMay", spec := "drrMay", unfollowed := true, recurses := true, apart := false, narrowed := true }
def DrrMayUptoSaid : Prop := drrMayUptoRow.holds Try.pinned (OpenSpec.upto drrMaySpec)

/-- 'antiphonlaw19.DrrIdle', WHERE WHAT IT READS IS OF BULK AT MOST 1048576: true; the input reads as it did. -/
def drrIdleUptoRow : OpenClaim := { program := "ythdlkcmkbpabaaa", sum := "c951b122c9bbca3ca1a732e86e5bb48f98a40a43b9626acf25b23c2be81c825a", func := "antiphon/antiphonlaw19.DrrIdle", spec := "drrIdle", unfollowed := true, recurses := true, apart := false, narrowed := true }
def DrrIdleUptoSaid : Prop := drrIdleUptoRow.holds Try.pinned (OpenSpec.upto drrIdleSpec)

end Rows
end Go.Proofs.Ythdlkcmkbpabaaa
