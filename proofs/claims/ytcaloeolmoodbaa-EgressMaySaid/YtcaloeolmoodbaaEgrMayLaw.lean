/-
  EgressMay: the law.
-/
import Derived.Test.YtcaloeolmoodbaaEgrAwake
import Derived.Test.YtcaloeolmoodbaaCfgArg
namespace Go.Proofs.Ytcaloeolmoodbaa.egr
open Go.RowKit mem Go.Maps
set_option linter.unusedVariables false

set_option maxRecDepth 100000 in
set_option maxHeartbeats 4000000 in
theorem may_bad (a b c d g id sh : Int) (w : World) (h : ¬ Va a b c d g) :
    Calls Try.prog 12 #[.agg (cfg a b c d g), .int .i64 id, .int .i64 sh] w fun e w' => e = .returned (.bool true) ∧ Below w.heap.size w w' := by
  have HB0 : Hid (Blk (w.alloc (.cells (cfg a b c d g) CT)) w.heap.size (cfg a b c d g) CT) := Lib.hid (Blk.new _ _ _)
  have HN0 : Hid (New w (w.alloc (.cells (cfg a b c d g) CT))) := Lib.hid ((Turns.refl _ _).alloc _)
  have HA := Lib.hid (fun W => awake W)
  have HN := Lib.hid (fun W => new_bad a b c d g W h)
  have HC := Lib.hid (fun W => check_bad a b c d g W h)
  obtain ⟨c0, c1, c2, c3, c4⟩ := five HB0.out
  by_cases pa0 : 1 ≤ a
  rotate_left
  · have qa0 : decide (1 ≤ a) = false := decide_eq_false pa0
    clear h pa0
    go_enter Try.func12, Try.ntmps12
    go_wp2_with fail
    refine (HN.out _).mono ?_
    rintro x w1 ⟨rfl, n1⟩
    have HB1 := Lib.hid (n1.blk HB0.out (fun h => h))
    have HN1 : Hid (New w w1) := Lib.hid (HN0.out.trans (n1.mono (fun _ _ h => h.elim)))
    clear n1 c0 c1 c2 c3 c4
    obtain ⟨c0, c1, c2, c3, c4⟩ := five HB1.out
    go_wp2_with fail
    refine (HA.out _).mono ?_
    rintro x w2 ⟨rfl, n2⟩
    have HB2 := Lib.hid (n2.blk HB1.out (fun h => h))
    have HN2 : Hid (New w w2) := Lib.hid (HN1.out.trans (n2.mono (fun _ _ h => h.elim)))
    clear n2 c0 c1 c2 c3 c4
    obtain ⟨c0, c1, c2, c3, c4⟩ := five HB2.out
    go_wp2_with fail
    refine (HC.out _).mono ?_
    rintro x w3 ⟨rfl, n3⟩
    have HN3 : Hid (New w w3) := Lib.hid (HN2.out.trans (n3.mono (fun _ _ h => h.elim)))
    clear n3 c0 c1 c2 c3 c4
    go_wp2
    go_ret
    exact ⟨rfl, HN3.out.below (Nat.le_refl _) (fun _ _ h => h.elim)⟩
  have qa0 : decide (1 ≤ a) = true := decide_eq_true pa0
  by_cases pa1 : a ≤ 1024
  rotate_left
  · have qa1 : decide (a ≤ 1024) = false := decide_eq_false pa1
    clear h pa1
    clear pa0
    go_enter Try.func12, Try.ntmps12
    go_wp2_with fail
    refine (HN.out _).mono ?_
    rintro x w1 ⟨rfl, n1⟩
    have HB1 := Lib.hid (n1.blk HB0.out (fun h => h))
    have HN1 : Hid (New w w1) := Lib.hid (HN0.out.trans (n1.mono (fun _ _ h => h.elim)))
    clear n1 c0 c1 c2 c3 c4
    obtain ⟨c0, c1, c2, c3, c4⟩ := five HB1.out
    go_wp2_with fail
    refine (HA.out _).mono ?_
    rintro x w2 ⟨rfl, n2⟩
    have HB2 := Lib.hid (n2.blk HB1.out (fun h => h))
    have HN2 : Hid (New w w2) := Lib.hid (HN1.out.trans (n2.mono (fun _ _ h => h.elim)))
    clear n2 c0 c1 c2 c3 c4
    obtain ⟨c0, c1, c2, c3, c4⟩ := five HB2.out
    go_wp2_with fail
    refine (HC.out _).mono ?_
    rintro x w3 ⟨rfl, n3⟩
    have HN3 : Hid (New w w3) := Lib.hid (HN2.out.trans (n3.mono (fun _ _ h => h.elim)))
    clear n3 c0 c1 c2 c3 c4
    go_wp2
    go_ret
    exact ⟨rfl, HN3.out.below (Nat.le_refl _) (fun _ _ h => h.elim)⟩
  have qa1 : decide (a ≤ 1024) = true := decide_eq_true pa1
  by_cases pb0 : 1 ≤ b
  rotate_left
  · have qb0 : decide (1 ≤ b) = false := decide_eq_false pb0
    clear h pb0
    clear pa0
    clear pa1
    go_enter Try.func12, Try.ntmps12
    go_wp2_with fail
    refine (HN.out _).mono ?_
    rintro x w1 ⟨rfl, n1⟩
    have HB1 := Lib.hid (n1.blk HB0.out (fun h => h))
    have HN1 : Hid (New w w1) := Lib.hid (HN0.out.trans (n1.mono (fun _ _ h => h.elim)))
    clear n1 c0 c1 c2 c3 c4
    obtain ⟨c0, c1, c2, c3, c4⟩ := five HB1.out
    go_wp2_with fail
    refine (HA.out _).mono ?_
    rintro x w2 ⟨rfl, n2⟩
    have HB2 := Lib.hid (n2.blk HB1.out (fun h => h))
    have HN2 : Hid (New w w2) := Lib.hid (HN1.out.trans (n2.mono (fun _ _ h => h.elim)))
    clear n2 c0 c1 c2 c3 c4
    obtain ⟨c0, c1, c2, c3, c4⟩ := five HB2.out
    go_wp2_with fail
    refine (HC.out _).mono ?_
    rintro x w3 ⟨rfl, n3⟩
    have HN3 : Hid (New w w3) := Lib.hid (HN2.out.trans (n3.mono (fun _ _ h => h.elim)))
    clear n3 c0 c1 c2 c3 c4
    go_wp2
    go_ret
    exact ⟨rfl, HN3.out.below (Nat.le_refl _) (fun _ _ h => h.elim)⟩
  have qb0 : decide (1 ≤ b) = true := decide_eq_true pb0
  by_cases pb1 : b ≤ 16777216
  rotate_left
  · have qb1 : decide (b ≤ 16777216) = false := decide_eq_false pb1
    clear h pb1
    clear pa0
    clear pa1
    clear pb0
    go_enter Try.func12, Try.ntmps12
    go_wp2_with fail
    refine (HN.out _).mono ?_
    rintro x w1 ⟨rfl, n1⟩
    have HB1 := Lib.hid (n1.blk HB0.out (fun h => h))
    have HN1 : Hid (New w w1) := Lib.hid (HN0.out.trans (n1.mono (fun _ _ h => h.elim)))
    clear n1 c0 c1 c2 c3 c4
    obtain ⟨c0, c1, c2, c3, c4⟩ := five HB1.out
    go_wp2_with fail
    refine (HA.out _).mono ?_
    rintro x w2 ⟨rfl, n2⟩
    have HB2 := Lib.hid (n2.blk HB1.out (fun h => h))
    have HN2 : Hid (New w w2) := Lib.hid (HN1.out.trans (n2.mono (fun _ _ h => h.elim)))
    clear n2 c0 c1 c2 c3 c4
    obtain ⟨c0, c1, c2, c3, c4⟩ := five HB2.out
    go_wp2_with fail
    refine (HC.out _).mono ?_
    rintro x w3 ⟨rfl, n3⟩
    have HN3 : Hid (New w w3) := Lib.hid (HN2.out.trans (n3.mono (fun _ _ h => h.elim)))
    clear n3 c0 c1 c2 c3 c4
    go_wp2
    go_ret
    exact ⟨rfl, HN3.out.below (Nat.le_refl _) (fun _ _ h => h.elim)⟩
  have qb1 : decide (b ≤ 16777216) = true := decide_eq_true pb1
  by_cases pc0 : 1 ≤ c
  rotate_left
  · have qc0 : decide (1 ≤ c) = false := decide_eq_false pc0
    clear h pc0
    clear pa0
    clear pa1
    clear pb0
    clear pb1
    go_enter Try.func12, Try.ntmps12
    go_wp2_with fail
    refine (HN.out _).mono ?_
    rintro x w1 ⟨rfl, n1⟩
    have HB1 := Lib.hid (n1.blk HB0.out (fun h => h))
    have HN1 : Hid (New w w1) := Lib.hid (HN0.out.trans (n1.mono (fun _ _ h => h.elim)))
    clear n1 c0 c1 c2 c3 c4
    obtain ⟨c0, c1, c2, c3, c4⟩ := five HB1.out
    go_wp2_with fail
    refine (HA.out _).mono ?_
    rintro x w2 ⟨rfl, n2⟩
    have HB2 := Lib.hid (n2.blk HB1.out (fun h => h))
    have HN2 : Hid (New w w2) := Lib.hid (HN1.out.trans (n2.mono (fun _ _ h => h.elim)))
    clear n2 c0 c1 c2 c3 c4
    obtain ⟨c0, c1, c2, c3, c4⟩ := five HB2.out
    go_wp2_with fail
    refine (HC.out _).mono ?_
    rintro x w3 ⟨rfl, n3⟩
    have HN3 : Hid (New w w3) := Lib.hid (HN2.out.trans (n3.mono (fun _ _ h => h.elim)))
    clear n3 c0 c1 c2 c3 c4
    go_wp2
    go_ret
    exact ⟨rfl, HN3.out.below (Nat.le_refl _) (fun _ _ h => h.elim)⟩
  have qc0 : decide (1 ≤ c) = true := decide_eq_true pc0
  by_cases pc1 : c ≤ 1099511627776
  rotate_left
  · have qc1 : decide (c ≤ 1099511627776) = false := decide_eq_false pc1
    clear h pc1
    clear pa0
    clear pa1
    clear pb0
    clear pb1
    clear pc0
    go_enter Try.func12, Try.ntmps12
    go_wp2_with fail
    refine (HN.out _).mono ?_
    rintro x w1 ⟨rfl, n1⟩
    have HB1 := Lib.hid (n1.blk HB0.out (fun h => h))
    have HN1 : Hid (New w w1) := Lib.hid (HN0.out.trans (n1.mono (fun _ _ h => h.elim)))
    clear n1 c0 c1 c2 c3 c4
    obtain ⟨c0, c1, c2, c3, c4⟩ := five HB1.out
    go_wp2_with fail
    refine (HA.out _).mono ?_
    rintro x w2 ⟨rfl, n2⟩
    have HB2 := Lib.hid (n2.blk HB1.out (fun h => h))
    have HN2 : Hid (New w w2) := Lib.hid (HN1.out.trans (n2.mono (fun _ _ h => h.elim)))
    clear n2 c0 c1 c2 c3 c4
    obtain ⟨c0, c1, c2, c3, c4⟩ := five HB2.out
    go_wp2_with fail
    refine (HC.out _).mono ?_
    rintro x w3 ⟨rfl, n3⟩
    have HN3 : Hid (New w w3) := Lib.hid (HN2.out.trans (n3.mono (fun _ _ h => h.elim)))
    clear n3 c0 c1 c2 c3 c4
    go_wp2
    go_ret
    exact ⟨rfl, HN3.out.below (Nat.le_refl _) (fun _ _ h => h.elim)⟩
  have qc1 : decide (c ≤ 1099511627776) = true := decide_eq_true pc1
  by_cases pd0 : 1 ≤ d
  rotate_left
  · have qd0 : decide (1 ≤ d) = false := decide_eq_false pd0
    clear h pd0
    clear pa0
    clear pa1
    clear pb0
    clear pb1
    clear pc0
    clear pc1
    go_enter Try.func12, Try.ntmps12
    go_wp2_with fail
    refine (HN.out _).mono ?_
    rintro x w1 ⟨rfl, n1⟩
    have HB1 := Lib.hid (n1.blk HB0.out (fun h => h))
    have HN1 : Hid (New w w1) := Lib.hid (HN0.out.trans (n1.mono (fun _ _ h => h.elim)))
    clear n1 c0 c1 c2 c3 c4
    obtain ⟨c0, c1, c2, c3, c4⟩ := five HB1.out
    go_wp2_with fail
    refine (HA.out _).mono ?_
    rintro x w2 ⟨rfl, n2⟩
    have HB2 := Lib.hid (n2.blk HB1.out (fun h => h))
    have HN2 : Hid (New w w2) := Lib.hid (HN1.out.trans (n2.mono (fun _ _ h => h.elim)))
    clear n2 c0 c1 c2 c3 c4
    obtain ⟨c0, c1, c2, c3, c4⟩ := five HB2.out
    go_wp2_with fail
    refine (HC.out _).mono ?_
    rintro x w3 ⟨rfl, n3⟩
    have HN3 : Hid (New w w3) := Lib.hid (HN2.out.trans (n3.mono (fun _ _ h => h.elim)))
    clear n3 c0 c1 c2 c3 c4
    go_wp2
    go_ret
    exact ⟨rfl, HN3.out.below (Nat.le_refl _) (fun _ _ h => h.elim)⟩
  have qd0 : decide (1 ≤ d) = true := decide_eq_true pd0
  by_cases pd1 : d ≤ 16777216
  rotate_left
  · have qd1 : decide (d ≤ 16777216) = false := decide_eq_false pd1
    clear h pd1
    clear pa0
    clear pa1
    clear pb0
    clear pb1
    clear pc0
    clear pc1
    clear pd0
    go_enter Try.func12, Try.ntmps12
    go_wp2_with fail
    refine (HN.out _).mono ?_
    rintro x w1 ⟨rfl, n1⟩
    have HB1 := Lib.hid (n1.blk HB0.out (fun h => h))
    have HN1 : Hid (New w w1) := Lib.hid (HN0.out.trans (n1.mono (fun _ _ h => h.elim)))
    clear n1 c0 c1 c2 c3 c4
    obtain ⟨c0, c1, c2, c3, c4⟩ := five HB1.out
    go_wp2_with fail
    refine (HA.out _).mono ?_
    rintro x w2 ⟨rfl, n2⟩
    have HB2 := Lib.hid (n2.blk HB1.out (fun h => h))
    have HN2 : Hid (New w w2) := Lib.hid (HN1.out.trans (n2.mono (fun _ _ h => h.elim)))
    clear n2 c0 c1 c2 c3 c4
    obtain ⟨c0, c1, c2, c3, c4⟩ := five HB2.out
    go_wp2_with fail
    refine (HC.out _).mono ?_
    rintro x w3 ⟨rfl, n3⟩
    have HN3 : Hid (New w w3) := Lib.hid (HN2.out.trans (n3.mono (fun _ _ h => h.elim)))
    clear n3 c0 c1 c2 c3 c4
    go_wp2
    go_ret
    exact ⟨rfl, HN3.out.below (Nat.le_refl _) (fun _ _ h => h.elim)⟩
  have qd1 : decide (d ≤ 16777216) = true := decide_eq_true pd1
  by_cases pg0 : 1 ≤ g
  rotate_left
  · have qg0 : decide (1 ≤ g) = false := decide_eq_false pg0
    clear h pg0
    clear pa0
    clear pa1
    clear pb0
    clear pb1
    clear pc0
    clear pc1
    clear pd0
    clear pd1
    go_enter Try.func12, Try.ntmps12
    go_wp2_with fail
    refine (HN.out _).mono ?_
    rintro x w1 ⟨rfl, n1⟩
    have HB1 := Lib.hid (n1.blk HB0.out (fun h => h))
    have HN1 : Hid (New w w1) := Lib.hid (HN0.out.trans (n1.mono (fun _ _ h => h.elim)))
    clear n1 c0 c1 c2 c3 c4
    obtain ⟨c0, c1, c2, c3, c4⟩ := five HB1.out
    go_wp2_with fail
    refine (HA.out _).mono ?_
    rintro x w2 ⟨rfl, n2⟩
    have HB2 := Lib.hid (n2.blk HB1.out (fun h => h))
    have HN2 : Hid (New w w2) := Lib.hid (HN1.out.trans (n2.mono (fun _ _ h => h.elim)))
    clear n2 c0 c1 c2 c3 c4
    obtain ⟨c0, c1, c2, c3, c4⟩ := five HB2.out
    go_wp2_with fail
    refine (HC.out _).mono ?_
    rintro x w3 ⟨rfl, n3⟩
    have HN3 : Hid (New w w3) := Lib.hid (HN2.out.trans (n3.mono (fun _ _ h => h.elim)))
    clear n3 c0 c1 c2 c3 c4
    go_wp2
    go_ret
    exact ⟨rfl, HN3.out.below (Nat.le_refl _) (fun _ _ h => h.elim)⟩
  have qg0 : decide (1 ≤ g) = true := decide_eq_true pg0
  by_cases pg1 : g ≤ 1024
  rotate_left
  · have qg1 : decide (g ≤ 1024) = false := decide_eq_false pg1
    clear h pg1
    clear pa0
    clear pa1
    clear pb0
    clear pb1
    clear pc0
    clear pc1
    clear pd0
    clear pd1
    clear pg0
    go_enter Try.func12, Try.ntmps12
    go_wp2_with fail
    refine (HN.out _).mono ?_
    rintro x w1 ⟨rfl, n1⟩
    have HB1 := Lib.hid (n1.blk HB0.out (fun h => h))
    have HN1 : Hid (New w w1) := Lib.hid (HN0.out.trans (n1.mono (fun _ _ h => h.elim)))
    clear n1 c0 c1 c2 c3 c4
    obtain ⟨c0, c1, c2, c3, c4⟩ := five HB1.out
    go_wp2_with fail
    refine (HA.out _).mono ?_
    rintro x w2 ⟨rfl, n2⟩
    have HB2 := Lib.hid (n2.blk HB1.out (fun h => h))
    have HN2 : Hid (New w w2) := Lib.hid (HN1.out.trans (n2.mono (fun _ _ h => h.elim)))
    clear n2 c0 c1 c2 c3 c4
    obtain ⟨c0, c1, c2, c3, c4⟩ := five HB2.out
    go_wp2_with fail
    refine (HC.out _).mono ?_
    rintro x w3 ⟨rfl, n3⟩
    have HN3 : Hid (New w w3) := Lib.hid (HN2.out.trans (n3.mono (fun _ _ h => h.elim)))
    clear n3 c0 c1 c2 c3 c4
    go_wp2
    go_ret
    exact ⟨rfl, HN3.out.below (Nat.le_refl _) (fun _ _ h => h.elim)⟩
  have qg1 : decide (g ≤ 1024) = true := decide_eq_true pg1
  exact absurd ⟨⟨pa0, pa1⟩, ⟨pb0, pb1⟩, ⟨pc0, pc1⟩, ⟨pd0, pd1⟩, pg0, pg1⟩ h

theorem Ru.below {w w0 w' : World} {A : Ad} {k : Nat} {e : Eo} (n : New w w0) (h : Sf w0.heap.size A w0 w') : Below w.heap.size w w' := by
  have hz := n.size
  have t : New w w' := n.trans (h.t.mono (fun i _ hi => .inr (by omega)))
  exact t.below (Nat.le_refl _) (fun _ _ h => h.elim)
set_option maxRecDepth 100000 in
set_option maxHeartbeats 4000000 in
theorem may_good (a b c d g id sh : Int) (w : World) (h : Va a b c d g) (n0 : -9223372036854775808 ≤ id) (n1 : id ≤ 9223372036854775807) :
    Calls Try.prog 12 #[.agg (cfg a b c d g), .int .i64 id, .int .i64 sh] w fun e w' => e = .returned (.bool true) ∧ Below w.heap.size w w' := by
  have HB0 : Hid (Blk (w.alloc (.cells (cfg a b c d g) CT)) w.heap.size (cfg a b c d g) CT) := Lib.hid (Blk.new _ _ _)
  have HN0 : Hid (New w (w.alloc (.cells (cfg a b c d g) CT))) := Lib.hid ((Turns.refl _ _).alloc _)
  have HA := Lib.hid (fun W => awake W)
  have HN := Lib.hid (new_ok a b c d g (w.alloc (.cells (cfg a b c d g) CT)) h)
  have HC := Lib.hid (fun W => check_ok a b c d g W h)
  obtain ⟨c0, c1, c2, c3, c4⟩ := five HB0.out
  obtain ⟨⟨pa0, pa1⟩, ⟨pb0, pb1⟩, ⟨pc0, pc1⟩, ⟨pd0, pd1⟩, pg0, pg1⟩ := h
  have qa0 : decide (1 ≤ a) = true := decide_eq_true pa0
  have qa1 : decide (a ≤ 1024) = true := decide_eq_true pa1
  have qb0 : decide (1 ≤ b) = true := decide_eq_true pb0
  have qb1 : decide (b ≤ 16777216) = true := decide_eq_true pb1
  have qc0 : decide (1 ≤ c) = true := decide_eq_true pc0
  have qc1 : decide (c ≤ 1099511627776) = true := decide_eq_true pc1
  have qd0 : decide (1 ≤ d) = true := decide_eq_true pd0
  have qd1 : decide (d ≤ 16777216) = true := decide_eq_true pd1
  have qg0 : decide (1 ≤ g) = true := decide_eq_true pg0
  have qg1 : decide (g ≤ 1024) = true := decide_eq_true pg1
  clear pa0 pa1 pb0 pb1 pc0 pc1 pg0 pg1
  go_enter Try.func12, Try.ntmps12
  go_wp2_with fail
  refine HN.out.mono ?_
  rintro x w1 ⟨A, rfl, hm⟩
  have HR1 := Lib.hid hm.ru
  have HBW : Hid (∀ W, Sf (w.alloc (.cells (cfg a b c d g) CT)).heap.size A (w.alloc (.cells (cfg a b c d g) CT)) W → Blk W w.heap.size (cfg a b c d g) CT) := Lib.hid (fun W hs => hs.blk HB0.out (by decide) (by decide) (by decide) (by decide) (by decide))
  clear hm HN c0 c1 c2 c3 c4
  obtain ⟨c0, c1, c2, c3, c4⟩ := five (HBW.out w1 HR1.out.sf)
  go_wp2_with fail
  refine (HA.out _).mono ?_
  rintro x w2 ⟨rfl, n2⟩
  have HR2 := Lib.hid (HR1.out.later n2)
  clear n2 HR1 c0 c1 c2 c3 c4
  obtain ⟨c0, c1, c2, c3, c4⟩ := five (HBW.out w2 HR2.out.sf)
  go_wp2_with fail
  refine (HC.out _).mono ?_
  rintro x w3 ⟨rfl, n3⟩
  have HR3 := Lib.hid (HR2.out.later n3)
  clear n3 HR2 c0 c1 c2 c3 c4
  by_cases hs : sh < d ∨ 16777216 < sh
  · have HAD := Lib.hid (add_bad A 0 _ id sh w3 HR3.out.es n0 n1 rfl hs)
    go_wp2_with fail
    refine HAD.out.mono ?_
    rintro x w4 ⟨rfl, n4⟩
    have HR4 := Lib.hid (HR3.out.later n4)
    clear n4 HR3 HAD
    have HAS := Lib.hid (add_sound A 0 _ id sh w4 HR4.out.es n0 n1 rfl (by omega))
    go_wp2_with fail
    refine HAS.out.mono ?_
    rintro x w5 ⟨rfl, fb, qb, hf, hq, hes, ht⟩
    have HR5 := Lib.hid (HR4.out.add hes ht hq rfl (fun g hg => .inl hg))
    clear hf hq hes ht HAS HR4
    obtain ⟨c0, c1, c2, c3, c4⟩ := five (HBW.out w5 HR5.out.sf)
    by_cases h1 : sh < d
    · have d3 : decide (sh < d) = true := decide_eq_true h1
      clear hs h1
      go_wp2
      go_ret
      exact ⟨rfl, Ru.below (k := 0) (e := fresh a b c d g) HN0.out HR5.out.sf⟩
    · have d3 : decide (sh < d) = false := decide_eq_false h1
      have d4 : decide (16777216 < sh) = true := decide_eq_true (hs.resolve_left h1)
      clear hs h1
      go_wp2
      go_ret
      exact ⟨rfl, Ru.below (k := 0) (e := fresh a b c d g) HN0.out HR5.out.sf⟩
  · have h1 : d ≤ sh := by omega
    have h2 : sh ≤ 16777216 := by omega
    have d3 : decide (sh < d) = false := decide_eq_false (by omega)
    have d4 : decide (16777216 < sh) = false := decide_eq_false (by omega)
    have HAD := Lib.hid (add_video A 0 _ id sh w3 HR3.out.es n0 n1 rfl (by omega) h1 h2)
    clear hs h1 h2
    go_wp2_with fail
    refine HAD.out.mono ?_
    rintro x w4 ⟨rfl, fb, qb, sb, hf, hq, hsb, hes, ht⟩
    have HR4 := Lib.hid (HR3.out.add hes ht hq rfl (fun g hg => by
      rcases List.mem_append.1 hg with hg | hg
      · exact .inl hg
      · simp at hg; subst hg
        exact .inr hsb))
    clear hf hq hsb hes ht HAD HR3
    have HTH := Lib.hid (add_there A 1 _ ⟨id, fb, true, qb, .slice none 0 0, que.fresh a b⟩ false sh w4 HR4.out.es (List.mem_append_right _ List.mem_cons_self))
    have HBR := Lib.hid (broken_some A 1 _ ⟨id, fb, true, qb, .slice none 0 0, que.fresh a b⟩ w4 HR4.out.es (List.mem_append_right _ List.mem_cons_self))
    dsimp only [que.fresh] at HTH HBR
    go_wp2_with fail
    refine HTH.out.mono ?_
    rintro x w5 ⟨rfl, rfl⟩
    obtain ⟨c0, c1, c2, c3, c4⟩ := five (HBW.out w5 HR4.out.sf)
    go_wp2_with fail
    refine HBR.out.mono ?_
    rintro x w6 ⟨rfl, rfl⟩
    go_wp2
    go_ret
    exact ⟨rfl, Ru.below (k := 0) (e := fresh a b c d g) HN0.out HR4.out.sf⟩
theorem may_law (a b c d g id sh : Int) (w : World) (hok : args.cfgOk w a b c d g) (n0 : -9223372036854775808 ≤ id) (n1 : id ≤ 9223372036854775807) (s0 : -9223372036854775808 ≤ sh) (s1 : sh ≤ 9223372036854775807) :
    Calls Try.prog 12 #[.agg (cfg a b c d g), .int .i64 id, .int .i64 sh] w fun e w' => e = .returned (.bool true) ∧ Below w.heap.size w w' := by
  by_cases h : Va a b c d g
  · exact may_good a b c d g id sh w h n0 n1
  · exact may_bad a b c d g id sh w h
end Go.Proofs.Ytcaloeolmoodbaa.egr
