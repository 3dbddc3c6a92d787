/-
  No cell of these rows narrows 'for every input' (looked for: loops, veiled, ifaces, maps, wideKeys, modest, calm, conditions, laid).
  DERIVED. THE GIVEN ROWS OF THIS SEAT. 5 by the template 'for every input the law returns true; each argument reads behind the call as it read before'; 0 by the template 'total and deterministic' (their statements: YtmfknefihjjgoaaTotals.lean).
  GIVEN WITH THE SEED: the statements are not yours to turn. If you find one false, say at which input.
  Laid BY PROGRAM, IN A SANDBOX (cutbox-rows.mjs): the forced cells as the released guide's own fill.sh prints them over the translation 0c0f3c3f33187262… (all of the seat's roots in one cut). By AI agents, Wed Nov 11 2026. No macro, syntax, notation, axiom, sorry.
-/
import Derived.Test.YtmfknefihjjgoaaChecked
import GoSem.Claim
import GoSem.ClaimJoined
import GoSem.ClaimMapViews
import Derived.JoinedTies
import Derived.KernelRfl
namespace Go.Proofs.Ytmfknefihjjgoaa
/- THE CELL 'sum', in the pinned program and in every row, IS THE sha256 OF THE DUMP (.gsa) THAT YtmfknefihjjgoaaProg.lean LOADS. Nothing in Lean hashes anything: it is a label: what it is worth is what the hold of that sum in a sandbox is worth. -/
noncomputable def Try.pinned : Pinned := { name := "ytmfknefihjjgoaa", sum := "0c0f3c3f33187262aea2500dc619891c8c9cc2572a3ad52b978f168cd79350ef", checked := Try.checked }
namespace Rows
def none {H : Type} : Left H := { results := [], args := [] }

/-- 'antiphonlaw10.FramePlays': WHATEVER THE INPUT: true; the input reads as it did. -/
def framePlaysSpec : ChangeSpec := { name := "framePlays", fn := fun _ => fun
  | [d1, d2, d3, d4, d5] => { results := [.lit (.bool true)], args := [d1, d2, d3, d4, d5] }
  | _ => none }
def framePlaysRow : OpenClaim := { program := "ytmfknefihjjgoaa", sum := "0c0f3c3f33187262aea2500dc619891c8c9cc2572a3ad52b978f168cd79350ef", func := "antiphon/antiphonlaw10.FramePlays", spec := "framePlays", apart := false }
def FramePlaysSaid : Prop := framePlaysRow.holds Try.pinned (OpenSpec.ofChange framePlaysSpec)

/-- ITS FALSE NEIGHBOUR: 'it returns false'. Refute it at one input. -/
def framePlaysWrong : ChangeSpec := { name := "framePlays", fn := fun _ => fun
  | [d1, d2, d3, d4, d5] => { results := [.lit (.bool false)], args := [d1, d2, d3, d4, d5] }
  | _ => none }
def FramePlaysWrongFalsely : Prop := framePlaysRow.holds Try.pinned (OpenSpec.ofChange framePlaysWrong)

/-- 'antiphonlaw10.FrameClean': WHATEVER THE INPUT: true; the input reads as it did. -/
def frameCleanSpec : ChangeSpec := { name := "frameClean", fn := fun _ => fun
  | [d1, d2] => { results := [.lit (.bool true)], args := [d1, d2] }
  | _ => none }
def frameCleanRow : OpenClaim := { program := "ytmfknefihjjgoaa", sum := "0c0f3c3f33187262aea2500dc619891c8c9cc2572a3ad52b978f168cd79350ef", func := "antiphon/antiphonlaw10.FrameClean", spec := "frameClean", apart := false }
def FrameCleanSaid : Prop := frameCleanRow.holds Try.pinned (OpenSpec.ofChange frameCleanSpec)

/-- ITS FALSE NEIGHBOUR: 'it returns false'. Refute it at one input. -/
def frameCleanWrong : ChangeSpec := { name := "frameClean", fn := fun _ => fun
  | [d1, d2] => { results := [.lit (.bool false)], args := [d1, d2] }
  | _ => none }
def FrameCleanWrongFalsely : Prop := frameCleanRow.holds Try.pinned (OpenSpec.ofChange frameCleanWrong)

/-- 'antiphonlaw10.FrameGap': WHATEVER THE INPUT: true; the input reads as it did. -/
def frameGapSpec : ChangeSpec := { name := "frameGap", fn := fun _ => fun
  | [d1, d2] => { results := [.lit (.bool true)], args := [d1, d2] }
  | _ => none }
def frameGapRow : OpenClaim := { program := "ytmfknefihjjgoaa", sum := "0c0f3c3f33187262aea2500dc619891c8c9cc2572a3ad52b978f168cd79350ef", func := "antiphon/antiphonlaw10.FrameGap", spec := "frameGap", apart := false }
def FrameGapSaid : Prop := frameGapRow.holds Try.pinned (OpenSpec.ofChange frameGapSpec)

/-- ITS FALSE NEIGHBOUR: 'it returns false'. Refute it at one input. -/
def frameGapWrong : ChangeSpec := { name := "frameGap", fn := fun _ => fun
  | [d1, d2] => { results := [.lit (.bool false)], args := [d1, d2] }
  | _ => none }
def FrameGapWrongFalsely : Prop := frameGapRow.holds Try.pinned (OpenSpec.ofChange frameGapWrong)

/-- 'antiphonlaw10.FrameMay': WHATEVER THE INPUT: true; the input reads as it did. -/
def frameMaySpec : ChangeSpec := { name := "frameMay", fn := fun _ => fun
  | [d1, d2, d3, d4] => { results := [.lit (.bool true)], args := [d1, d2, d3, d4] }
  | _ => none }
def frameMayRow : OpenClaim := { program := "ytmfknefihjjgoaa", sum := "0c0f3c3f33187262aea2500dc619891c8c9cc2572a3ad52b978f168cd79350ef", func := "antiphon/antiphonlaw10.FrameMay", spec := "frameMay", apart := false }
def FrameMaySaid : Prop := frameMayRow.holds Try.pinned (OpenSpec.ofChange frameMaySpec)

/-- ITS FALSE NEIGHBOUR: 'it returns false'. Refute it at one input. -/
def frameMayWrong : ChangeSpec := { name := "frameMay", fn := fun _ => fun
  | [d1, d2, d3, d4] => { results := [.lit (.bool false)], args := [d1, d2, d3, d4] }
  | _ => none }
def FrameMayWrongFalsely : Prop := frameMayRow.holds Try.pinned (OpenSpec.ofChange frameMayWrong)

/-- 'antiphonlaw10.FrameSounds': WHATEVER THE INPUT: true; the input reads as it did. -/
def frameSoundsSpec : ChangeSpec := { name := "frameSounds", fn := fun _ => fun
  | [d1, d2] => { results := [.lit (.bool true)], args := [d1, d2] }
  | _ => none }
def frameSoundsRow : OpenClaim := { program := "ytmfknefihjjgoaa", sum := "0c0f3c3f33187262aea2500dc619891c8c9cc2572a3ad52b978f168cd79350ef", func := "antiphon/antiphonlaw10.FrameSounds", spec := "frameSounds", apart := false }
def FrameSoundsSaid : Prop := frameSoundsRow.holds Try.pinned (OpenSpec.ofChange frameSoundsSpec)

/-- ITS FALSE NEIGHBOUR: 'it returns false'. Refute it at one input. -/
def frameSoundsWrong : ChangeSpec := { name := "frameSounds", fn := fun _ => fun
  | [d1, d2] => { results := [.lit (.bool false)], args := [d1, d2] }
  | _ => none }
def FrameSoundsWrongFalsely : Prop := frameSoundsRow.holds Try.pinned (OpenSpec.ofChange frameSoundsWrong)

/- THE SECOND FORM. 'bulk': how many values and letters a reading holds, each counted each time it is reached (what is shared counts as often as it is met; a slice's spare places count too). A statement '..UptoSaid' is the law's where the arguments, and the package variables that the reading takes, are together of bulk at most 1048576: NARROWER than '..Said'. Prove '..Said' where nothing that the law and all that it calls make is longer than what came in: it says more and counts as full. Else prove '..UptoSaid'. A law counts once. -/
mutual
def uptoBulk {H : Type} : DataW H → Nat
  | .lit (.string bytes) => bytes.length + 1
  | .lit _ => 1
  | .nil => 1
  | .ptr d => uptoBulk d + 1
  | .slice elems spare => uptoBulkAll elems + uptoBulkAll spare + 1
  | .agg parts => uptoBulkAll parts + 1
  | .iface _ d => uptoBulk d + 1
  | .map entries => uptoBulkEntries entries + 1
  | .held _ => 1
def uptoBulkAll {H : Type} : List (DataW H) → Nat
  | [] => 0
  | d :: r => uptoBulk d + uptoBulkAll r
def uptoBulkEntries {H : Type} : List (Lit × DataW H) → Nat
  | [] => 0
  | x :: r => uptoBulkEntry x + uptoBulkEntries r
def uptoBulkEntry {H : Type} : Lit × DataW H → Nat
  | (.string bytes, d) => bytes.length + uptoBulk d + 1
  | (_, d) => uptoBulk d + 1
 end
def uptoSmall : (H : Type) → List (DataW H) → Bool := fun _ ds => decide (uptoBulkAll ds ≤ 1048576)
def OpenSpec.upto (s : _root_.Go.ChangeSpec) : _root_.Go.OpenSpec := { _root_.Go.OpenSpec.ofChange s with cond := some uptoSmall }

/-- 'antiphonlaw10.FramePlays', WHERE WHAT IT READS IS OF BULK AT MOST 1048576: true; the input reads as it did. -/
def framePlaysUptoRow : OpenClaim := { program := "ytmfknefihjjgoaa", sum := "0c0f3c3f33187262aea2500dc619891c8c9cc2572a3ad52b978f168cd79350ef", func := "antiphon/antiphonlaw10.FramePlays", spec := "framePlays", apart := false, narrowed := true }
def FramePlaysUptoSaid : Prop := framePlaysUptoRow.holds Try.pinned (OpenSpec.upto framePlaysSpec)

/-- 'antiphonlaw10.FrameClean', WHERE WHAT IT READS IS OF BULK AT MOST 1048576: true; the input reads as it did. -/
def frameCleanUptoRow : OpenClaim := { program := "ytmfknefihjjgoaa", sum := "0c0f3c3f33187262aea2500dc619891c8c9cc2572a3ad52b978f168cd79350ef", func := "antiphon/antiphonlaw10.FrameClean", spec := "frameClean", apart := false, narrowed := true }
def FrameCleanUptoSaid : Prop := frameCleanUptoRow.holds Try.pinned (OpenSpec.upto frameCleanSpec)

/-- 'antiphonlaw10.FrameGap', WHERE WHAT IT READS IS OF BULK AT MOST 1048576: true; the input reads as it did. -/
def frameGapUptoRow : OpenClaim := { program := "ytmfknefihjjgoaa", sum := "0c0f3c3f33187262aea2500dc619891c8c9cc2572a3ad52b978f168cd79350ef", func := "antiphon/antiphonlaw10.FrameGap", spec := "frameGap", apart := false, narrowed := true }
def FrameGapUptoSaid : Prop := frameGapUptoRow.holds Try.pinned (OpenSpec.upto frameGapSpec)

/-- 'antiphonlaw10.FrameMay', WHERE WHAT IT READS IS OF BULK AT MOST 1048576: true; the input reads as it did. -/
def frameMayUptoRow : OpenClaim := { program := "ytmfknefihjjgoaa", sum := "0c0f3c3f33187262aea2500dc619891c8c9cc2572a3ad52b978f168cd79350ef", func := "antiphon/antiphonlaw10.FrameMay", spec := "frameMay", apart := false, narrowed := true }
def FrameMayUptoSaid : Prop := frameMayUptoRow.holds Try.pinned (OpenSpec.upto frameMaySpec)

/-- 'antiphonlaw10.FrameSounds', WHERE WHAT IT READS IS OF BULK AT MOST 1048576: true; the input reads as it did. -/
def frameSoundsUptoRow : OpenClaim := { program := "ytmfknefihjjgoaa", sum := "0c0f3c3f33187262aea2500dc619891c8c9cc2572a3ad52b978f168cd79350ef", func := "antiphon/antiphonlaw10.FrameSounds", spec := "frameSounds", apart := false, narrowed := true }
def FrameSoundsUptoSaid : Prop := frameSoundsUptoRow.holds Try.pinned (OpenSpec.upto frameSoundsSpec)

end Rows
end Go.Proofs.Ytmfknefihjjgoaa
