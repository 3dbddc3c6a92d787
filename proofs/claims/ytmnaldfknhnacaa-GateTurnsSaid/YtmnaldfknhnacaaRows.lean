/-
  No cell of these rows narrows 'for every input' (looked for: loops, veiled, ifaces, maps, wideKeys, modest, calm, conditions, laid).
  DERIVED. THE GIVEN ROWS OF THIS SEAT. 4 by the template 'for every input the law returns true; each argument reads behind the call as it read before'; 0 by the template 'total and deterministic' (their statements: YtmnaldfknhnacaaTotals.lean).
  GIVEN WITH THE SEED: the statements are not yours to turn. If you find one false, say at which input.
  Laid BY PROGRAM, IN A SANDBOX (cutbox-rows.mjs): the forced cells as the released guide's own fill.sh prints them over the translation 503b2788aa1e0508… (all of the seat's roots in one cut). By AI agents, Wed Nov 11 2026. No macro, syntax, notation, axiom, sorry.
-/
import Derived.Test.YtmnaldfknhnacaaChecked
import GoSem.Claim
import GoSem.ClaimJoined
import GoSem.ClaimMapViews
import Derived.JoinedTies
import Derived.KernelRfl
namespace Go.Proofs.Ytmnaldfknhnacaa
/- THE CELL 'sum', in the pinned program and in every row, IS THE sha256 OF THE DUMP (.gsa) THAT YtmnaldfknhnacaaProg.lean LOADS. Nothing in Lean hashes anything: it is a label: what it is worth is what the hold of that sum in a sandbox is worth. -/
noncomputable def Try.pinned : Pinned := { name := "ytmnaldfknhnacaa", sum := "503b2788aa1e050855c015e37df4e498d7bfb908893573264ee8f65fd6a3672f", checked := Try.checked }
namespace Rows
def none {H : Type} : Left H := { results := [], args := [] }

/-- 'antiphonlaw14.GateKeys': WHATEVER THE INPUT: true; the input reads as it did. -/
def gateKeysSpec : ChangeSpec := { name := "gateKeys", fn := fun _ => fun
  | [d1, d2] => { results := [.lit (.bool true)], args := [d1, d2] }
  | _ => none }
def gateKeysRow : OpenClaim := { program := "ytmnaldfknhnacaa", sum := "503b2788aa1e050855c015e37df4e498d7bfb908893573264ee8f65fd6a3672f", func := "antiphon/antiphonlaw14.GateKeys", spec := "gateKeys", apart := false }
def GateKeysSaid : Prop := gateKeysRow.holds Try.pinned (OpenSpec.ofChange gateKeysSpec)

/-- ITS FALSE NEIGHBOUR: 'it returns false'. Refute it at one input. -/
def gateKeysWrong : ChangeSpec := { name := "gateKeys", fn := fun _ => fun
  | [d1, d2] => { results := [.lit (.bool false)], args := [d1, d2] }
  | _ => none }
def GateKeysWrongFalsely : Prop := gateKeysRow.holds Try.pinned (OpenSpec.ofChange gateKeysWrong)

/-- 'antiphonlaw14.GateSounds': WHATEVER THE INPUT: true; the input reads as it did. -/
def gateSoundsSpec : ChangeSpec := { name := "gateSounds", fn := fun _ => fun
  | [d] => { results := [.lit (.bool true)], args := [d] }
  | _ => none }
def gateSoundsRow : OpenClaim := { program := "ytmnaldfknhnacaa", sum := "503b2788aa1e050855c015e37df4e498d7bfb908893573264ee8f65fd6a3672f", func := "antiphon/antiphonlaw14.GateSounds", spec := "gateSounds", apart := false }
def GateSoundsSaid : Prop := gateSoundsRow.holds Try.pinned (OpenSpec.ofChange gateSoundsSpec)

/-- ITS FALSE NEIGHBOUR: 'it returns false'. Refute it at one input. -/
def gateSoundsWrong : ChangeSpec := { name := "gateSounds", fn := fun _ => fun
  | [d] => { results := [.lit (.bool false)], args := [d] }
  | _ => none }
def GateSoundsWrongFalsely : Prop := gateSoundsRow.holds Try.pinned (OpenSpec.ofChange gateSoundsWrong)

/-- 'antiphonlaw14.GateTurns': WHATEVER THE INPUT: true; the input reads as it did. -/
def gateTurnsSpec : ChangeSpec := { name := "gateTurns", fn := fun _ => fun
  | [d1, d2, d3] => { results := [.lit (.bool true)], args := [d1, d2, d3] }
  | _ => none }
def gateTurnsRow : OpenClaim := { program := "ytmnaldfknhnacaa", sum := "503b2788aa1e050855c015e37df4e498d7bfb908893573264ee8f65fd6a3672f", func := "antiphon/antiphonlaw14.GateTurns", spec := "gateTurns", apart := false }
def GateTurnsSaid : Prop := gateTurnsRow.holds Try.pinned (OpenSpec.ofChange gateTurnsSpec)

/-- ITS FALSE NEIGHBOUR: 'it returns false'. Refute it at one input. -/
def gateTurnsWrong : ChangeSpec := { name := "gateTurns", fn := fun _ => fun
  | [d1, d2, d3] => { results := [.lit (.bool false)], args := [d1, d2, d3] }
  | _ => none }
def GateTurnsWrongFalsely : Prop := gateTurnsRow.holds Try.pinned (OpenSpec.ofChange gateTurnsWrong)

/-- 'antiphonlaw14.GatePaused': WHATEVER THE INPUT: true; the input reads as it did. -/
def gatePausedSpec : ChangeSpec := { name := "gatePaused", fn := fun _ => fun
  | [d1, d2] => { results := [.lit (.bool true)], args := [d1, d2] }
  | _ => none }
def gatePausedRow : OpenClaim := { program := "ytmnaldfknhnacaa", sum := "503b2788aa1e050855c015e37df4e498d7bfb908893573264ee8f65fd6a3672f", func := "antiphon/antiphonlaw14.GatePaused", spec := "gatePaused", apart := false }
def GatePausedSaid : Prop := gatePausedRow.holds Try.pinned (OpenSpec.ofChange gatePausedSpec)

/-- ITS FALSE NEIGHBOUR: 'it returns false'. Refute it at one input. -/
def gatePausedWrong : ChangeSpec := { name := "gatePaused", fn := fun _ => fun
  | [d1, d2] => { results := [.lit (.bool false)], args := [d1, d2] }
  | _ => none }
def GatePausedWrongFalsely : Prop := gatePausedRow.holds Try.pinned (OpenSpec.ofChange gatePausedWrong)

/- THE SECOND FORM. 'bulk': how many values and letters a reading holds, each counted each time it is reached (what is shared counts as often as it is met; a slice's spare places count too). A statement '..UptoSaid' is the law's where the arguments, and the package variables that the reading takes, are together of bulk at most 1048576: NARROWER than '..Said'. Prove '..Said' where nothing that the law and all that it calls make is longer than what came in: it says more and counts as full. Else prove '..UptoSaid'. A law counts once. -/
mutual
def uptoBulk {H : Type} : DataW H → Nat
  | .lit (.string bytes) => bytes.length + 1
  | .lit _ => 1
  | .nil => 1
  | .ptr d => uptoBulk d + 1
  | .slice elems spare => uptoBulkAll elems + uptoBulkAll spare + 1
  | .agg parts => uptoBulkAll parts + 1
  | .iface _ d => uptoBulk d + 1
  | .map entries => uptoBulkEntries entries + 1
  | .held _ => 1
def uptoBulkAll {H : Type} : List (DataW H) → Nat
  | [] => 0
  | d :: r => uptoBulk d + uptoBulkAll r
def uptoBulkEntries {H : Type} : List (Lit × DataW H) → Nat
  | [] => 0
  | x :: r => uptoBulkEntry x + uptoBulkEntries r
def uptoBulkEntry {H : Type} : Lit × DataW H → Nat
  | (.string bytes, d) => bytes.length + uptoBulk d + 1
  | (_, d) => uptoBulk d + 1
 end
def uptoSmall : (H : Type) → List (DataW H) → Bool := fun _ ds => decide (uptoBulkAll ds ≤ 1048576)
def OpenSpec.upto (s : _root_.Go.ChangeSpec) : _root_.Go.OpenSpec := { _root_.Go.OpenSpec.ofChange s with cond := some uptoSmall }

/-- 'antiphonlaw14.GateKeys', WHERE WHAT IT READS IS OF BULK AT MOST 1048576: true; the input reads as it did. -/
def gateKeysUptoRow : OpenClaim := { program := "ytmnaldfknhnacaa", sum := "503b2788aa1e050855c015e37df4e498d7bfb908893573264ee8f65fd6a3672f", func := "antiphon/antiphonlaw14.GateKeys", spec := "gateKeys", apart := false, narrowed := true }
def GateKeysUptoSaid : Prop := gateKeysUptoRow.holds Try.pinned (OpenSpec.upto gateKeysSpec)

/-- 'antiphonlaw14.GateSounds', WHERE WHAT IT READS IS OF BULK AT MOST 1048576: true; the input reads as it did. -/
def gateSoundsUptoRow : OpenClaim := { program := "ytmnaldfknhnacaa", sum := "503b2788aa1e050855c015e37df4e498d7bfb908893573264ee8f65fd6a3672f", func := "antiphon/antiphonlaw14.GateSounds", spec := "gateSounds", apart := false, narrowed := true }
def GateSoundsUptoSaid : Prop := gateSoundsUptoRow.holds Try.pinned (OpenSpec.upto gateSoundsSpec)

/-- 'antiphonlaw14.GateTurns', WHERE WHAT IT READS IS OF BULK AT MOST 1048576: true; the input reads as it did. -/
def gateTurnsUptoRow : OpenClaim := { program := "ytmnaldfknhnacaa", sum := "503b2788aa1e050855c015e37df4e498d7bfb908893573264ee8f65fd6a3672f", func := "antiphon/antiphonlaw14.GateTurns", spec := "gateTurns", apart := false, narrowed := true }
def GateTurnsUptoSaid : Prop := gateTurnsUptoRow.holds Try.pinned (OpenSpec.upto gateTurnsSpec)

/-- 'antiphonlaw14.GatePaused', WHERE WHAT IT READS IS OF BULK AT MOST 1048576: true; the input reads as it did. -/
def gatePausedUptoRow : OpenClaim := { program := "ytmnaldfknhnacaa", sum := "503b2788aa1e050855c015e37df4e498d7bfb908893573264ee8f65fd6a3672f", func := "antiphon/antiphonlaw14.GatePaused", spec := "gatePaused", apart := false, narrowed := true }
def GatePausedUptoSaid : Prop := gatePausedUptoRow.holds Try.pinned (OpenSpec.upto gatePausedSpec)

end Rows
end Go.Proofs.Ytmnaldfknhnacaa
