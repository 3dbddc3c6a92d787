/-
  No cell of these rows narrows 'for every input' (looked for: loops, veiled, ifaces, maps, wideKeys, modest, calm, conditions, laid).
  DERIVED. THE GIVEN ROWS OF THIS SEAT. 4 by the template 'for every input the law returns true; each argument reads behind the call as it read before'; 0 by the template 'total and deterministic' (their statements: YtjiodpbgjhoakabTotals.lean).
  GIVEN WITH THE SEED: the statements are not yours to turn. If you find one false, say at which input.
  Laid BY PROGRAM, IN A SANDBOX (cutbox-rows.mjs): the forced cells as the released guide's own fill.sh prints them over the translation 67d985984bf8b227… (all of the seat's roots in one cut). By AI agents, Wed Nov 11 2026. No macro, syntax, notation, axiom, sorry.
-/
import Derived.Test.YtjiodpbgjhoakabChecked
import GoSem.Claim
import GoSem.ClaimJoined
import GoSem.ClaimMapViews
import Derived.JoinedTies
import Derived.KernelRfl
namespace Go.Proofs.Ytjiodpbgjhoakab
/- THE CELL 'sum', in the pinned program and in every row, IS THE sha256 OF THE DUMP (.gsa) THAT YtjiodpbgjhoakabProg.lean LOADS. Nothing in Lean hashes anything: it is a label: what it is worth is what the hold of that sum in a sandbox is worth. -/
noncomputable def Try.pinned : Pinned := { name := "ytjiodpbgjhoakab", sum := "67d985984bf8b227295d24afce3f398db0bb460639c23acd293d47f8636cb3e1", checked := Try.checked }
namespace Rows
def none {H : Type} : Left H := { results := [], args := [] }

/-- 'antiphonlaw24.RatePlays': WHATEVER THE INPUT: true; the input reads as it did. -/
def ratePlaysSpec : ChangeSpec := { name := "ratePlays", fn := fun _ => fun
  | [d1, d2] => { results := [.lit (.bool true)], args := [d1, d2] }
  | _ => none }
def ratePlaysRow : OpenClaim := { program := "ytjiodpbgjhoakab", sum := "67d985984bf8b227295d24afce3f398db0bb460639c23acd293d47f8636cb3e1", func := "antiphon/antiphonlaw24.RatePlays", spec := "ratePlays", unfollowed := true, recurses := true, apart := false }
def RatePlaysSaid : Prop := ratePlaysRow.holds Try.pinned (OpenSpec.ofChange ratePlaysSpec)

/-- ITS FALSE NEIGHBOUR: 'it returns false'. Refute it at one input. -/
def ratePlaysWrong : ChangeSpec := { name := "ratePlays", fn := fun _ => fun
  | [d1, d2] => { results := [.lit (.bool false)], args := [d1, d2] }
  | _ => none }
def RatePlaysWrongFalsely : Prop := ratePlaysRow.holds Try.pinned (OpenSpec.ofChange ratePlaysWrong)

/-- 'antiphonlaw24.RateSteady': WHATEVER THE INPUT: true; the input reads as it did. -/
def rateSteadySpec : ChangeSpec := { name := "rateSteady", fn := fun _ => fun
  | [d1, d2, d3] => { results := [.lit (.bool true)], args := [d1, d2, d3] }
  | _ => none }
def rateSteadyRow : OpenClaim := { program := "ytjiodpbgjhoakab", sum := "67d985984bf8b227295d24afce3f398db0bb460639c23acd293d47f8636cb3e1", func := "antiphon/antiphonlaw24.RateSteady", spec := "rateSteady", unfollowed := true, recurses := true, apart := false }
def RateSteadySaid : Prop := rateSteadyRow.holds Try.pinned (OpenSpec.ofChange rateSteadySpec)

/-- ITS FALSE NEIGHBOUR: 'it returns false'. Refute it at one input. -/
def rateSteadyWrong : ChangeSpec := { name := "rateSteady", fn := fun _ => fun
  | [d1, d2, d3] => { results := [.lit (.bool false)], args := [d1, d2, d3] }
  | _ => none }
def RateSteadyWrongFalsely : Prop := rateSteadyRow.holds Try.pinned (OpenSpec.ofChange rateSteadyWrong)

/-- 'antiphonlaw24.RateCap': WHATEVER THE INPUT: true; the input reads as it did. -/
def rateCapSpec : ChangeSpec := { name := "rateCap", fn := fun _ => fun
  | [d1, d2, d3] => { results := [.lit (.bool true)], args := [d1, d2, d3] }
  | _ => none }
def rateCapRow : OpenClaim := { program := "ytjiodpbgjhoakab", sum := "67d985984bf8b227295d24afce3f398db0bb460639c23acd293d47f8636cb3e1", func := "antiphon/antiphonlaw24.RateCap", spec := "rateCap", unfollowed := true, recurses := true, apart := false }
def RateCapSaid : Prop := rateCapRow.holds Try.pinned (OpenSpec.ofChange rateCapSpec)

/-- ITS FALSE NEIGHBOUR: 'it returns false'. Refute it at one input. -/
def rateCapWrong : ChangeSpec := { name := "rateCap", fn := fun _ => fun
  | [d1, d2, d3] => { results := [.lit (.bool false)], args := [d1, d2, d3] }
  | _ => none }
def RateCapWrongFalsely : Prop := rateCapRow.holds Try.pinned (OpenSpec.ofChange rateCapWrong)

/-- 'antiphonlaw24.RateMay': WHATEVER THE INPUT: true; the input reads as it did. -/
def rateMaySpec : ChangeSpec := { name := "rateMay", fn := fun _ => fun
  | [d] => { results := [.lit (.bool true)], args := [d] }
  | _ => none }
def rateMayRow : OpenClaim := { program := "ytjiodpbgjhoakab", sum := "67d985984bf8b227295d24afce3f398db0bb460639c23acd293d47f8636cb3e1", func := "antiphon/antiphonlaw24.RateMay", spec := "rateMay", unfollowed := true, recurses := true, apart := false }
def RateMaySaid : Prop := rateMayRow.holds Try.pinned (OpenSpec.ofChange rateMaySpec)

/-- ITS FALSE NEIGHBOUR: 'it returns false'. Refute it at one input. -/
def rateMayWrong : ChangeSpec := { name := "rateMay", fn := fun _ => fun
  | [d] => { results := [.lit (.bool false)], args := [d] }
  | _ => none }
def RateMayWrongFalsely : Prop := rateMayRow.holds Try.pinned (OpenSpec.ofChange rateMayWrong)

/- THE SECOND FORM. 'bulk': how many values and letters a reading holds, each counted each time it is reached (what is shared counts as often as it is met; a slice's spare places count too). A statement '..UptoSaid' is the law's where the arguments, and the package variables that the reading takes, are together of bulk at most 1048576: NARROWER than '..Said'. Prove '..Said' where nothing that the law and all that it calls make is longer than what came in: it says more and counts as full. Else prove '..UptoSaid'. A law counts once. -/
mutual
def uptoBulk {H : Type} : DataW H → Nat
  | .lit (.string bytes) => bytes.length + 1
  | .lit _ => 1
  | .nil => 1
  | .ptr d => uptoBulk d + 1
  | .slice elems spare => uptoBulkAll elems + uptoBulkAll spare + 1
  | .agg parts => uptoBulkAll parts + 1
  | .iface _ d => uptoBulk d + 1
  | .map entries => uptoBulkEntries entries + 1
  | .held _ => 1
def uptoBulkAll {H : Type} : List (DataW H) → Nat
  | [] => 0
  | d :: r => uptoBulk d + uptoBulkAll r
def uptoBulkEntries {H : Type} : List (Lit × DataW H) → Nat
  | [] => 0
  | x :: r => uptoBulkEntry x + uptoBulkEntries r
def uptoBulkEntry {H : Type} : Lit × DataW H → Nat
  | (.string bytes, d) => bytes.length + uptoBulk d + 1
  | (_, d) => uptoBulk d + 1
 end
def uptoSmall : (H : Type) → List (DataW H) → Bool := fun _ ds => decide (uptoBulkAll ds ≤ 1048576)
def OpenSpec.upto (s : _root_.Go.ChangeSpec) : _root_.Go.OpenSpec := { _root_.Go.OpenSpec.ofChange s with cond := some uptoSmall }

/-- 'antiphonlaw24.RatePlays', WHERE WHAT IT READS IS OF BULK AT MOST 1048576: true; the input reads as it did. -/
def ratePlaysUptoRow : OpenClaim := { program := "ytjiodpbgjhoakab", sum := "67d985984bf8b227295d24afce3f398db0bb460639c23acd293d47f8636cb3e1", func := "antiphon/antiphonlaw24.RatePlays", spec := "ratePlays", unfollowed := true, recurses := true, apart := false, narrowed := true }
def RatePlaysUptoSaid : Prop := ratePlaysUptoRow.holds Try.pinned (OpenSpec.upto ratePlaysSpec)

/-- 'antiphonlaw24.RateSteady', WHERE WHAT IT READS IS OF BULK AT MOST 1048576: true; the input reads as it did. -/
def rateSteadyUptoRow : OpenClaim := { program := "ytjiodpbgjhoakab", sum := "67d985984bf8b227295d24afce3f398db0bb460639c23acd293d47f8636cb3e1", func := "antiphon/antiphonlaw24.RateSteady", spec := "rateSteady", unfollowed := true, recurses := true, apart := false, narrowed := true }
def RateSteadyUptoSaid : Prop := rateSteadyUptoRow.holds Try.pinned (OpenSpec.upto rateSteadySpec)

/-- 'antiphonlaw24.RateCap', WHERE WHAT IT READS IS OF BULK AT MOST 1048576: true; the input reads as it did. -/
def rateCapUptoRow : OpenClaim := { program := "ytjiodpbgjhoakab", sum := "67d985984bf8b227295d24afce3f398db0bb460639c23acd293d47f8636cb3e1", func := "antiphon/antiphonlaw24.RateCap", spec := "rateCap", unfollowed := true, recurses := true, apart := false, narrowed := true }
def RateCapUptoSaid : Prop := rateCapUptoRow.holds Try.pinned (OpenSpec.upto rateCapSpec)

/-- 'antiphonlaw24.RateMay', WHERE WHAT IT READS IS OF BULK AT MOST 1048576: true; the input reads as it did. -/
def rateMayUptoRow : OpenClaim := { program := "ytjiodpbgjhoakab", sum := "67d985984bf8b227295d24afce3f398db0bb460639c23acd293d47f8636cb3e1", func := "antiphon/antiphonlaw24.RateMay", spec := "rateMay", unfollowed := true, recurses := true, apart := false, narrowed := true }
def RateMayUptoSaid : Prop := rateMayUptoRow.holds Try.pinned (OpenSpec.upto rateMaySpec)

end Rows
end Go.Proofs.Ytjiodpbgjhoakab
