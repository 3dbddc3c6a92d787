/-
  ReportClock: a report, and any time.
-/
import Derived.Test.YtfdmgloimibioaaRepPli
namespace Go.Proofs.Ytfdmgloimibioaa.rep
open Go.RowKit mem
set_option linter.unusedVariables false

set_option maxHeartbeats 2000000 in
set_option maxRecDepth 100000 in
theorem clock_law (ntp tm at' told pk oc : Int) (w : World) (n0 : 0 ≤ ntp) (n1 : ntp ≤ 18446744073709551615) (m0 : 0 ≤ tm) (m1 : tm ≤ 4294967295) (t0 : 0 ≤ at') (t1 : at' ≤ 4294967295) (d0 : 0 ≤ told) (d1' : told ≤ 4294967295)
    (p0 : -9223372036854775808 ≤ pk) (p1 : pk ≤ 9223372036854775807) (o0 : -9223372036854775808 ≤ oc) (o1 : oc ≤ 9223372036854775807) :
    Calls Try.prog 7 #[.int .u64 ntp, .int .u32 tm, .int .u32 at', .int .u32 told, .int .i64 pk, .int .i64 oc] w fun e w' => e = .returned (.bool true) ∧ Below w.heap.size w w' := by
  have HA := Lib.hid (awake w)
  have HREF := Lib.hid (fun w => refAt ntp tm at' w n0 n1 m0 m1 t0 t1)
  have HEQ := Lib.hid (atP_is ntp tm at' m0 m1 t0 t1)
  go_enter Try.func7, Try.ntmps7
  go_wp2_with fail
  refine HA.out.mono ?_
  rintro e w1 ⟨rfl, h1⟩
  have HB0 : Hid (Ck (w1.alloc (.cells (ckcs false 0 0) CT)) w1.heap.size false 0 0 ∧ New w (w1.alloc (.cells (ckcs false 0 0) CT)) ∧ w.heap.size ≤ w1.heap.size) := Lib.hid ⟨Blk.new _ _ _, h1.alloc _, h1.size⟩
  clear h1 HA
  go_upto_region 4 with fail
  refine (show Code.wp _ _ _ _ (w1.alloc (.cells (ckcs false 0 0) CT)) from ?_)
  generalize w1.alloc (.cells (ckcs false 0 0) CT) = w2 at *
  generalize w1.heap.size = pc at *
  go_wp2_with fail
  refine (sender_no pc 0 0 1 told pk oc w2 HB0.out.1).mono ?_
  rintro e w3 ⟨rfl, h3⟩
  have HB3 : Hid (∀ o, Ck (w3.alloc o) pc false 0 0 ∧ New w (w3.alloc o)) := Lib.hid (fun o => ⟨HB0.out.1.new (h3.alloc o), (HB0.out.2.1.trans (h3.mono (fun _ _ h => h.elim))).alloc o⟩)
  clear h3
  have HPC : Hid (w.heap.size ≤ pc) := Lib.hid HB0.out.2.2
  clear HB0
  go_wp2_with fail
  refine (time pc false 0 0 _ (HB3.out _).1).mono ?_
  rintro e w4 ⟨rfl, h4⟩
  have HB4 : Hid (Ck w4 pc false 0 0 ∧ New w w4) := Lib.hid ⟨(HB3.out _).1.new h4, (HB3.out _).2.trans (h4.mono (fun _ _ h => h.elim))⟩
  clear h4 HB3
  go_wp2_with fail
  refine (put pc false 0 0 9 ntp tm 5 0 w4 HB4.out.1).mono ?_
  rintro e w5 ⟨rfl, h5, ht5⟩
  have HB5 : Hid (Ck w5 pc true ntp tm ∧ New w w5) := Lib.hid ⟨h5, HB4.out.2.trans (ht5.mono (fun i _ hi => .inr (by rw [hi]; exact HPC.out)))⟩
  clear h5 ht5 HB4
  go_wp2_with fail
  refine (at_yes pc ntp tm at' w5 HB5.out.1 n0 n1 m0 m1 t0 t1).mono ?_
  rintro e w6 ⟨rfl, rfl⟩
  rw [HEQ.out]
  go_wp2_with fail
  refine (time pc true ntp tm _ HB5.out.1).mono ?_
  rintro e w6 ⟨rfl, h6⟩
  have HB6 : Hid (Ck w6 pc true ntp tm ∧ New w w6) := Lib.hid ⟨HB5.out.1.new h6, HB5.out.2.trans (h6.mono (fun _ _ h => h.elim))⟩
  clear h6 HB5
  go_wp2_with fail
  refine (sender pc ntp tm 1 told pk oc _ HB6.out.1).mono ?_
  rintro e w7 ⟨rfl, h7⟩
  have HB7 : Hid (∀ o, New w (w7.alloc o)) := Lib.hid (fun o => (HB6.out.2.trans (h7.mono (fun _ _ h => h.elim))).alloc o)
  clear h7 HB6
  generalize atR ntp tm at' = xa at *
  have e1 : (xa == xa) = true := by simp
  have e2 : (tm == tm) = true := by simp
  have e3 : (ntp == ntp) = true := by simp
  have e4 : (told == told) = true := by simp
  go_wp2_with fail
  refine (HREF.out _).mono ?_
  rintro e w8 ⟨rfl, rfl⟩
  go_wp2
  go_ret
  exact ⟨rfl, (HB7.out _).below (Nat.le_refl _) (fun _ _ h => h.elim)⟩
end Go.Proofs.Ytfdmgloimibioaa.rep
