/-
  The reference of layer 18: Put.
-/
import Derived.Test.YtcaloeolmoodbaaQueRdef
namespace Go.Proofs.Ytcaloeolmoodbaa.que
open Go.RowKit mem
set_option linter.unusedVariables false

set_option maxHeartbeats 2000000 in
set_option maxRecDepth 10000 in
theorem rput (v : Value) (q : Q) (x : It) (w : World) (h : Sub IE 0 w v q.L) (ok : q.ok) (s0 : -9223372036854775808 ≤ x.size) (s1 : x.size ≤ 9223372036854775807) :
    Calls Try.prog 45 #[.agg (rcs q v), x.v] w fun e w' => ∃ v' u, e = .returned (.tuple #[.agg (rcs (putQ q x) v'), u, .bool (putOk q x)]) ∧ RPost w w' v (putQ q x) v' u (putD q x) := sorry

end Go.Proofs.Ytcaloeolmoodbaa.que
