/-
  'Does' of layer 18's laws: Put.
-/
import Derived.Test.YtcaloeolmoodbaaQueDdef
import Derived.Test.YtcaloeolmoodbaaQueRput
namespace Go.Proofs.Ytcaloeolmoodbaa.que
open Go.RowKit mem
set_option linter.unusedVariables false

set_option maxRecDepth 100000 in
set_option maxHeartbeats 2000000 in
theorem does1 (p : Nat) (pv xv : Value) (q : Q) (now n age sz : Int) (ky : Bool) (w : World) (h : Ds w p pv q xv) (s0 : -9223372036854775808 ≤ sz) (s1 : sz ≤ 9223372036854775807) (n0 : 0 ≤ n) (n1 : n ≤ 1048576) :
    Calls Try.prog 16 #[.agg (stL p q xv now n age).toArray, .agg #[.int .i64 1, .int .i64 sz, .bool ky]] w fun e w' => ∃ pv' xv', e = .returned (.tuple #[.agg (stL p (putQ q ⟨n + 1, sz, now, ky⟩) xv' now (n + 1) age).toArray, .int .i64 0, .bool (!putOk q ⟨n + 1, sz, now, ky⟩ || decide (0 < ((putD q ⟨n + 1, sz, now, ky⟩).length : Int))), .bool true]) ∧ Dn w w' p pv xv (putQ q ⟨n + 1, sz, now, ky⟩) pv' xv' := sorry

end Go.Proofs.Ytcaloeolmoodbaa.que
