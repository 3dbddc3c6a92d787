/-
  No cell of these rows narrows 'for every input' (looked for: loops, veiled, ifaces, maps, wideKeys, modest, calm, conditions, laid).
  DERIVED. THE GIVEN ROWS OF THIS SEAT. 8 by the template 'for every input the law returns true; each argument reads behind the call as it read before'; 0 by the template 'total and deterministic' (their statements: YtfdmgloimibioaaTotals.lean).
  GIVEN WITH THE SEED: the statements are not yours to turn. If you find one false, say at which input.
  Laid BY PROGRAM, IN A SANDBOX (cutbox-rows.mjs): the forced cells as the released guide's own fill.sh prints them over the translation b5640f15fc53ac52… (all of the seat's roots in one cut). By AI agents, Wed Nov 11 2026. No macro, syntax, notation, axiom, sorry.
-/
import Derived.Test.YtfdmgloimibioaaChecked
import GoSem.Claim
import GoSem.ClaimJoined
import GoSem.ClaimMapViews
import Derived.JoinedTies
import Derived.KernelRfl
namespace Go.Proofs.Ytfdmgloimibioaa
/- THE CELL 'sum', in the pinned program and in every row, IS THE sha256 OF THE DUMP (.gsa) THAT YtfdmgloimibioaaProg.lean LOADS. Nothing in Lean hashes anything: it is a label: what it is worth is what the hold of that sum in a sandbox is worth. -/
noncomputable def Try.pinned : Pinned := { name := "ytfdmgloimibioaa", sum := "b5640f15fc53ac527522f633533377a474f1e212fc806006be0b7fd1138e7a92", checked := Try.checked }
namespace Rows
def none {H : Type} : Left H := { results := [], args := [] }

/-- 'antiphonlaw16.RingPlays': WHATEVER THE INPUT: true; the input reads as it did. -/
def ringPlaysSpec : ChangeSpec := { name := "ringPlays", fn := fun _ => fun
  | [d1, d2, d3, d4] => { results := [.lit (.bool true)], args := [d1, d2, d3, d4] }
  | _ => none }
def ringPlaysRow : OpenClaim := { program := "ytfdmgloimibioaa", sum := "b5640f15fc53ac527522f633533377a474f1e212fc806006be0b7fd1138e7a92", func := "antiphon/antiphonlaw16.RingPlays", spec := "ringPlays", apart := false }
def RingPlaysSaid : Prop := ringPlaysRow.holds Try.pinned (OpenSpec.ofChange ringPlaysSpec)

/-- ITS FALSE NEIGHBOUR: 'it returns false'. Refute it at one input. -/
def ringPlaysWrong : ChangeSpec := { name := "ringPlays", fn := fun _ => fun
  | [d1, d2, d3, d4] => { results := [.lit (.bool false)], args := [d1, d2, d3, d4] }
  | _ => none }
def RingPlaysWrongFalsely : Prop := ringPlaysRow.holds Try.pinned (OpenSpec.ofChange ringPlaysWrong)

/-- 'antiphonlaw16.RingSame': WHATEVER THE INPUT: true; the input reads as it did. -/
def ringSameSpec : ChangeSpec := { name := "ringSame", fn := fun _ => fun
  | [d1, d2, d3, d4] => { results := [.lit (.bool true)], args := [d1, d2, d3, d4] }
  | _ => none }
def ringSameRow : OpenClaim := { program := "ytfdmgloimibioaa", sum := "b5640f15fc53ac527522f633533377a474f1e212fc806006be0b7fd1138e7a92", func := "antiphon/antiphonlaw16.RingSame", spec := "ringSame", apart := false }
def RingSameSaid : Prop := ringSameRow.holds Try.pinned (OpenSpec.ofChange ringSameSpec)

/-- ITS FALSE NEIGHBOUR: 'it returns false'. Refute it at one input. -/
def ringSameWrong : ChangeSpec := { name := "ringSame", fn := fun _ => fun
  | [d1, d2, d3, d4] => { results := [.lit (.bool false)], args := [d1, d2, d3, d4] }
  | _ => none }
def RingSameWrongFalsely : Prop := ringSameRow.holds Try.pinned (OpenSpec.ofChange ringSameWrong)

/-- 'antiphonlaw16.RingMay': WHATEVER THE INPUT: true; the input reads as it did. -/
def ringMaySpec : ChangeSpec := { name := "ringMay", fn := fun _ => fun
  | [d1, d2, d3] => { results := [.lit (.bool true)], args := [d1, d2, d3] }
  | _ => none }
def ringMayRow : OpenClaim := { program := "ytfdmgloimibioaa", sum := "b5640f15fc53ac527522f633533377a474f1e212fc806006be0b7fd1138e7a92", func := "antiphon/antiphonlaw16.RingMay", spec := "ringMay", apart := false }
def RingMaySaid : Prop := ringMayRow.holds Try.pinned (OpenSpec.ofChange ringMaySpec)

/-- ITS FALSE NEIGHBOUR: 'it returns false'. Refute it at one input. -/
def ringMayWrong : ChangeSpec := { name := "ringMay", fn := fun _ => fun
  | [d1, d2, d3] => { results := [.lit (.bool false)], args := [d1, d2, d3] }
  | _ => none }
def RingMayWrongFalsely : Prop := ringMayRow.holds Try.pinned (OpenSpec.ofChange ringMayWrong)

/-- 'antiphonlaw16.RingEnds': WHATEVER THE INPUT: true; the input reads as it did. -/
def ringEndsSpec : ChangeSpec := { name := "ringEnds", fn := fun _ => fun
  | [d1, d2, d3, d4] => { results := [.lit (.bool true)], args := [d1, d2, d3, d4] }
  | _ => none }
def ringEndsRow : OpenClaim := { program := "ytfdmgloimibioaa", sum := "b5640f15fc53ac527522f633533377a474f1e212fc806006be0b7fd1138e7a92", func := "antiphon/antiphonlaw16.RingEnds", spec := "ringEnds", apart := false }
def RingEndsSaid : Prop := ringEndsRow.holds Try.pinned (OpenSpec.ofChange ringEndsSpec)

/-- ITS FALSE NEIGHBOUR: 'it returns false'. Refute it at one input. -/
def ringEndsWrong : ChangeSpec := { name := "ringEnds", fn := fun _ => fun
  | [d1, d2, d3, d4] => { results := [.lit (.bool false)], args := [d1, d2, d3, d4] }
  | _ => none }
def RingEndsWrongFalsely : Prop := ringEndsRow.holds Try.pinned (OpenSpec.ofChange ringEndsWrong)

/-- 'antiphonlaw17.ReportClock': WHATEVER THE INPUT: true; the input reads as it did. -/
def reportClockSpec : ChangeSpec := { name := "reportClock", fn := fun _ => fun
  | [d1, d2, d3, d4, d5, d6] => { results := [.lit (.bool true)], args := [d1, d2, d3, d4, d5, d6] }
  | _ => none }
def reportClockRow : OpenClaim := { program := "ytfdmgloimibioaa", sum := "b5640f15fc53ac527522f633533377a474f1e212fc806006be0b7fd1138e7a92", func := "antiphon/antiphonlaw17.ReportClock", spec := "reportClock", unfollowed := true, recurses := true, apart := false }
def ReportClockSaid : Prop := reportClockRow.holds Try.pinned (OpenSpec.ofChange reportClockSpec)

/-- ITS FALSE NEIGHBOUR: 'it returns false'. Refute it at one input. -/
def reportClockWrong : ChangeSpec := { name := "reportClock", fn := fun _ => fun
  | [d1, d2, d3, d4, d5, d6] => { results := [.lit (.bool false)], args := [d1, d2, d3, d4, d5, d6] }
  | _ => none }
def ReportClockWrongFalsely : Prop := reportClockRow.holds Try.pinned (OpenSpec.ofChange reportClockWrong)

/-- 'antiphonlaw17.ReportReads': WHATEVER THE INPUT: true; the input reads as it did. -/
def reportReadsSpec : ChangeSpec := { name := "reportReads", fn := fun _ => fun
  | [d1, d2] => { results := [.lit (.bool true)], args := [d1, d2] }
  | _ => none }
def reportReadsRow : OpenClaim := { program := "ytfdmgloimibioaa", sum := "b5640f15fc53ac527522f633533377a474f1e212fc806006be0b7fd1138e7a92", func := "antiphon/antiphonlaw17.ReportReads", spec := "reportReads", unfollowed := true, recurses := true, apart := false }
def ReportReadsSaid : Prop := reportReadsRow.holds Try.pinned (OpenSpec.ofChange reportReadsSpec)

/-- ITS FALSE NEIGHBOUR: 'it returns false'. Refute it at one input. -/
def reportReadsWrong : ChangeSpec := { name := "reportReads", fn := fun _ => fun
  | [d1, d2] => { results := [.lit (.bool false)], args := [d1, d2] }
  | _ => none }
def ReportReadsWrongFalsely : Prop := reportReadsRow.holds Try.pinned (OpenSpec.ofChange reportReadsWrong)

/-- 'antiphonlaw17.ReportServes': WHATEVER THE INPUT: true; the input reads as it did. -/
def reportServesSpec : ChangeSpec := { name := "reportServes", fn := fun _ => fun
  | [d1, d2, d3, d4, d5] => { results := [.lit (.bool true)], args := [d1, d2, d3, d4, d5] }
  | _ => none }
def reportServesRow : OpenClaim := { program := "ytfdmgloimibioaa", sum := "b5640f15fc53ac527522f633533377a474f1e212fc806006be0b7fd1138e7a92", func := "antiphon/antiphonlaw17.ReportServes", spec := "reportServes", unfollowed := true, recurses := true, apart := false }
def ReportServesSaid : Prop := reportServesRow.holds Try.pinned (OpenSpec.ofChange reportServesSpec)

/-- ITS FALSE NEIGHBOUR: 'it returns false'. Refute it at one input. -/
def reportServesWrong : ChangeSpec := { name := "reportServes", fn := fun _ => fun
  | [d1, d2, d3, d4, d5] => { results := [.lit (.bool false)], args := [d1, d2, d3, d4, d5] }
  | _ => none }
def ReportServesWrongFalsely : Prop := reportServesRow.holds Try.pinned (OpenSpec.ofChange reportServesWrong)

/-- 'antiphonlaw17.ReportAsked': WHATEVER THE INPUT: true; the input reads as it did. -/
def reportAskedSpec : ChangeSpec := { name := "reportAsked", fn := fun _ => fun
  | [d1, d2, d3, d4] => { results := [.lit (.bool true)], args := [d1, d2, d3, d4] }
  | _ => none }
def reportAskedRow : OpenClaim := { program := "ytfdmgloimibioaa", sum := "b5640f15fc53ac527522f633533377a474f1e212fc806006be0b7fd1138e7a92", func := "antiphon/antiphonlaw17.ReportAsked", spec := "reportAsked", unfollowed := true, recurses := true, apart := false }
def ReportAskedSaid : Prop := reportAskedRow.holds Try.pinned (OpenSpec.ofChange reportAskedSpec)

/-- ITS FALSE NEIGHBOUR: 'it returns false'. Refute it at one input. -/
def reportAskedWrong : ChangeSpec := { name := "reportAsked", fn := fun _ => fun
  | [d1, d2, d3, d4] => { results := [.lit (.bool false)], args := [d1, d2, d3, d4] }
  | _ => none }
def ReportAskedWrongFalsely : Prop := reportAskedRow.holds Try.pinned (OpenSpec.ofChange reportAskedWrong)

/- THE SECOND FORM. 'bulk': how many values and letters a reading holds, each counted each time it is reached (what is shared counts as often as it is met; a slice's spare places count too). A statement '..UptoSaid' is the law's where the arguments, and the package variables that the reading takes, are together of bulk at most 1048576: NARROWER than '..Said'. Prove '..Said' where nothing that the law and all that it calls make is longer than what came in: it says more and counts as full. Else prove '..UptoSaid'. A law counts once. -/
mutual
def uptoBulk {H : Type} : DataW H → Nat
  | .lit (.string bytes) => bytes.length + 1
  | .lit _ => 1
  | .nil => 1
  | .ptr d => uptoBulk d + 1
  | .slice elems spare => uptoBulkAll elems + uptoBulkAll spare + 1
  | .agg parts => uptoBulkAll parts + 1
  | .iface _ d => uptoBulk d + 1
  | .map entries => uptoBulkEntries entries + 1
  | .held _ => 1
def uptoBulkAll {H : Type} : List (DataW H) → Nat
  | [] => 0
  | d :: r => uptoBulk d + uptoBulkAll r
def uptoBulkEntries {H : Type} : List (Lit × DataW H) → Nat
  | [] => 0
  | x :: r => uptoBulkEntry x + uptoBulkEntries r
def uptoBulkEntry {H : Type} : Lit × DataW H → Nat
  | (.string bytes, d) => bytes.length + uptoBulk d + 1
  | (_, d) => uptoBulk d + 1
 end
def uptoSmall : (H : Type) → List (DataW H) → Bool := fun _ ds => decide (uptoBulkAll ds ≤ 1048576)
def OpenSpec.upto (s : _root_.Go.ChangeSpec) : _root_.Go.OpenSpec := { _root_.Go.OpenSpec.ofChange s with cond := some uptoSmall }

/-- 'antiphonlaw16.RingPlays', WHERE WHAT IT READS IS OF BULK AT MOST 1048576: true; the input reads as it did. -/
def ringPlaysUptoRow : OpenClaim := { program := "ytfdmgloimibioaa", sum := "b5640f15fc53ac527522f633533377a474f1e212fc806006be0b7fd1138e7a92", func := "antiphon/antiphonlaw16.RingPlays", spec := "ringPlays", apart := false, narrowed := true }
def RingPlaysUptoSaid : Prop := ringPlaysUptoRow.holds Try.pinned (OpenSpec.upto ringPlaysSpec)

/-- 'antiphonlaw16.RingSame', WHERE WHAT IT READS IS OF BULK AT MOST 1048576: true; the input reads as it did. -/
def ringSameUptoRow : OpenClaim := { program := "ytfdmgloimibioaa", sum := "b5640f15fc53ac527522f633533377a474f1e212fc806006be0b7fd1138e7a92", func := "antiphon/antiphonlaw16.RingSame", spec := "ringSame", apart := false, narrowed := true }
def RingSameUptoSaid : Prop := ringSameUptoRow.holds Try.pinned (OpenSpec.upto ringSameSpec)

/-- 'antiphonlaw16.RingMay', WHERE WHAT IT READS IS OF BULK AT MOST 1048576: true; the input reads as it did. -/
def ringMayUptoRow : OpenClaim := { program := "ytfdmgloimibioaa", sum := "b5640f15fc53ac527522f633533377a474f1e212fc806006be0b7fd1138e7a92", func := "antiphon/antiphonlaw16.RingMay", spec := "ringMay", apart := false, narrowed := true }
def RingMayUptoSaid : Prop := ringMayUptoRow.holds Try.pinned (OpenSpec.upto ringMaySpec)

/-- 'antiphonlaw16.RingEnds', WHERE WHAT IT READS IS OF BULK AT MOST 1048576: true; the input reads as it did. -/
def ringEndsUptoRow : OpenClaim := { program := "ytfdmgloimibioaa", sum := "b5640f15fc53ac527522f633533377a474f1e212fc806006be0b7fd1138e7a92", func := "antiphon/antiphonlaw16.RingEnds", spec := "ringEnds", apart := false, narrowed := true }
def RingEndsUptoSaid : Prop := ringEndsUptoRow.holds Try.pinned (OpenSpec.upto ringEndsSpec)

/-- 'antiphonlaw17.ReportClock', WHERE WHAT IT READS IS OF BULK AT MOST 1048576: true; the input reads as it did. -/
def reportClockUptoRow : OpenClaim := { program := "ytfdmgloimibioaa", sum := "b5640f15fc53ac527522f633533377a474f1e212fc806006be0b7fd1138e7a92", func := "antiphon/antiphonlaw17.ReportClock", spec := "reportClock", unfollowed := true, recurses := true, apart := false, narrowed := true }
def ReportClockUptoSaid : Prop := reportClockUptoRow.holds Try.pinned (OpenSpec.upto reportClockSpec)

/-- 'antiphonlaw17.ReportReads', WHERE WHAT IT READS IS OF BULK AT MOST 1048576: true; the input reads as it did. -/
def reportReadsUptoRow : OpenClaim := { program := "ytfdmgloimibioaa", sum := "b5640f15fc53ac527522f633533377a474f1e212fc806006be0b7fd1138e7a92", func := "antiphon/antiphonlaw17.ReportReads", spec := "reportReads", unfollowed := true, recurses := true, apart := false, narrowed := true }
def ReportReadsUptoSaid : Prop := reportReadsUptoRow.holds Try.pinned (OpenSpec.upto reportReadsSpec)

/-- 'antiphonlaw17.ReportServes', WHERE WHAT IT READS IS OF BULK AT MOST 1048576: true; the input reads as it did. -/
def reportServesUptoRow : OpenClaim := { program := "ytfdmgloimibioaa", sum := "b5640f15fc53ac527522f633533377a474f1e212fc806006be0b7fd1138e7a92", func := "antiphon/antiphonlaw17.ReportServes", spec := "reportServes", unfollowed := true, recurses := true, apart := false, narrowed := true }
def ReportServesUptoSaid : Prop := reportServesUptoRow.holds Try.pinned (OpenSpec.upto reportServesSpec)

/-- 'antiphonlaw17.ReportAsked', WHERE WHAT IT READS IS OF BULK AT MOST 1048576: true; the input reads as it did. -/
def reportAskedUptoRow : OpenClaim := { program := "ytfdmgloimibioaa", sum := "b5640f15fc53ac527522f633533377a474f1e212fc806006be0b7fd1138e7a92", func := "antiphon/antiphonlaw17.ReportAsked", spec := "reportAsked", unfollowed := true, recurses := true, apart := false, narrowed := true }
def ReportAskedUptoSaid : Prop := reportAskedUptoRow.holds Try.pinned (OpenSpec.upto reportAskedSpec)

end Rows
end Go.Proofs.Ytfdmgloimibioaa
