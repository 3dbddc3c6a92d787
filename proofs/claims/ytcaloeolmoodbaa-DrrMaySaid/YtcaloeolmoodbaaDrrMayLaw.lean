/-
  DrrMay: the law.
-/
import Derived.Test.YtcaloeolmoodbaaDrrAwake
namespace Go.Proofs.Ytcaloeolmoodbaa.drr
open Go.RowKit mem Go.Maps
set_option linter.unusedVariables false

set_option maxRecDepth 100000 in
set_option maxHeartbeats 2000000 in
theorem may_law (m sh : Int) (w : World) (m0 : -9223372036854775808 ≤ m) (m1 : m ≤ 9223372036854775807) (s0 : -9223372036854775808 ≤ sh) (s1 : sh ≤ 9223372036854775807) :
    Calls Try.prog 7 #[.int .i64 m, .int .i64 sh] w fun e w' => e = .returned (.bool true) ∧ Below w.heap.size w w' := by
  have HA := Lib.hid (fun w => awake w)
  by_cases hm : 1 ≤ m ∧ m ≤ 16777216
  · obtain ⟨hm0, hm1⟩ := hm
    have HN := Lib.hid (new_ok m w hm0 hm1)
    have d1 : decide (1 ≤ m) = true := decide_eq_true hm0
    have d2 : decide (m ≤ 16777216) = true := decide_eq_true hm1
    go_enter Try.func7, Try.ntmps7
    go_wp2_with fail
    refine HN.out.mono ?_
    rintro e w1 ⟨p, rfl, hs1, hn1, hp1⟩
    obtain ⟨mb, hmb⟩ : ∃ mb, w.heap.size = mb := ⟨_, rfl⟩
    have HR1 : Hid (Rn w w1 p w.heap.size 0 (.map []) (fresh m)) := Lib.hid ⟨hs1, hn1, hp1, Nat.le_refl _, (fun f hf => by cases hf)⟩
    rw [hmb] at HR1
    clear hs1 hn1 hp1 HN hmb
    go_wp2_with fail
    refine (HA.out _).mono ?_
    rintro e w2 ⟨rfl, n2⟩
    have HR2 := Lib.hid (HR1.out.later n2)
    clear n2 HR1
    by_cases hs : sh < m ∨ 16777216 < sh
    · have HAD := Lib.hid (add_bad p mb 0 _ (fresh m) 5 sh w2 HR2.out.ss hs)
      have HRM := Lib.hid (remove_none p mb 0 _ (fresh m) 5 w2 HR2.out.ss (by omega) (by omega) (fnd_fresh _ _))
      by_cases h1 : sh < m
      · have d3 : decide (sh < m) = true := decide_eq_true h1
        clear hs h1
        go_wp2_with fail
        refine HAD.out.mono ?_
        rintro e w3 ⟨rfl, rfl⟩
        go_wp2_with fail
        refine HRM.out.mono ?_
        rintro e w4 ⟨rfl, rfl⟩
        go_wp2
        go_ret
        exact ⟨rfl, HR2.out.n.below (Nat.le_refl _) (fun _ _ h => h.elim)⟩
      · have d3 : decide (sh < m) = false := decide_eq_false h1
        have d4 : decide (16777216 < sh) = true := decide_eq_true (hs.resolve_left h1)
        clear hs h1
        go_wp2_with fail
        refine HAD.out.mono ?_
        rintro e w3 ⟨rfl, rfl⟩
        go_wp2_with fail
        refine HRM.out.mono ?_
        rintro e w4 ⟨rfl, rfl⟩
        go_wp2
        go_ret
        exact ⟨rfl, HR2.out.n.below (Nat.le_refl _) (fun _ _ h => h.elim)⟩
    · have h1 : m ≤ sh := by omega
      have h2 : sh ≤ 16777216 := by omega
      have d3 : decide (sh < m) = false := decide_eq_false (by omega)
      have d4 : decide (16777216 < sh) = false := decide_eq_false (by omega)
      have HAD := Lib.hid (add_ok p mb 0 _ (fresh m) 5 sh w2 HR2.out.ss h1 h2 (by omega) (by omega) (fnd_fresh _ _) (by omega))
      have H12 : Hid (m ≤ sh ∧ sh ≤ 16777216) := Lib.hid ⟨h1, h2⟩
      clear hs h1 h2
      go_wp2_with fail
      refine HAD.out.mono ?_
      rintro e w3 ⟨rfl, hs3, ht3⟩
      have HR3 := Lib.hid (HR2.out.add hs3 ht3)
      clear hs3 ht3 HAD HR2
      generalize w2.heap.size = b1 at *
      generalize DataW.put (.map []) (.int .i64 5) _ = D1 at *
      have HMM : Hid ((⟨5, b1, sh, 0⟩ : Fl) ∈ (addS (fresh m) 5 b1 sh).L) := Lib.hid (List.mem_append_right _ List.mem_cons_self)
      have HAT := Lib.hid (add_there p mb 1 D1 (addS (fresh m) 5 b1 sh) ⟨5, b1, sh, 0⟩ sh w3 HR3.out.ss H12.out.1 H12.out.2 HMM.out)
      have HRO := Lib.hid (remove_ok p mb 1 D1 (addS (fresh m) 5 b1 sh) ⟨5, b1, sh, 0⟩ w3 HR3.out.ss HMM.out)
      dsimp only at HAT HRO
      go_wp2_with fail
      refine HAT.out.mono ?_
      rintro e w4 ⟨rfl, rfl⟩
      go_wp2_with fail
      refine HRO.out.mono ?_
      rintro e w5 ⟨rfl, hs5, ht5⟩
      have HL := Lib.hid (left_none p mb 1 _ _ 5 w5 hs5 (by omega) (by omega) (by show fnd (List.filter _ _) 5 = none; rw [fnd_filter, if_pos rfl]))
      have HN5 : Hid (New w w5) := Lib.hid (HR3.out.n.trans (ht5.mono (fun i _ hi => .inr (by rcases hi with hi | hi; rw [hi]; exact HR3.out.p0; rw [hi]; exact HR3.out.m0))))
      clear hs5 ht5 HRO HAT HR3
      go_wp2_with fail
      refine HL.out.mono ?_
      rintro e w6 ⟨rfl, rfl⟩
      go_wp2
      go_ret
      exact ⟨rfl, HN5.out.below (Nat.le_refl _) (fun _ _ h => h.elim)⟩
  · have HN := Lib.hid (new_bad m w hm)
    by_cases h1 : 1 ≤ m
    · have d1 : decide (1 ≤ m) = true := decide_eq_true h1
      have d2 : decide (m ≤ 16777216) = false := decide_eq_false (fun h => hm ⟨h1, h⟩)
      clear hm h1
      go_enter Try.func7, Try.ntmps7
      go_wp2_with fail
      refine HN.out.mono ?_
      rintro e w1 ⟨rfl, rfl⟩
      go_wp2_with fail
      refine (HA.out _).mono ?_
      rintro e w2 ⟨rfl, n2⟩
      have HN2 := Lib.hid n2
      clear n2
      go_wp2
      go_ret
      exact ⟨rfl, HN2.out.below (Nat.le_refl _) (fun _ _ h => h.elim)⟩
    · have d1 : decide (1 ≤ m) = false := decide_eq_false h1
      clear hm h1
      go_enter Try.func7, Try.ntmps7
      go_wp2_with fail
      refine HN.out.mono ?_
      rintro e w1 ⟨rfl, rfl⟩
      go_wp2_with fail
      refine (HA.out _).mono ?_
      rintro e w2 ⟨rfl, n2⟩
      have HN2 := Lib.hid n2
      clear n2
      go_wp2
      go_ret
      exact ⟨rfl, HN2.out.below (Nat.le_refl _) (fun _ _ h => h.elim)⟩
end Go.Proofs.Ytcaloeolmoodbaa.drr
