/-
  The reference of layer 8: Near, Put, Time.
-/
import Derived.Test.YtgppddmfdhpaiaaExtPut
import Derived.RegionTactic
import Derived.ChangeAlike
namespace Go.Proofs.Ytgppddmfdhpaiaa.ext
open Go.RowKit mem ser
set_option linter.unusedVariables false

theorem rnear (at' a m : Int) (hm : m = 65536 ∨ m = 4294967296) (h0 : -1125899906842624 ≤ at') (h1 : at' ≤ 1125899906842624) (ha : 0 ≤ a) (ha' : a ≤ 4294967295) (w : World) :
    Calls Try.prog 35 #[.int .i64 at', .int .i64 a, .int .i64 m] w fun e w' => e = .returned (.int .i64 (at' + sd m a (at' % m))) ∧ w = w' := by
  have hb : -2147483648 ≤ sd m a (at' % m) ∧ sd m a (at' % m) ≤ 2147483647 := by
    rcases hm with rfl | rfl
    · have := sd_bd16 a (at' % 65536); omega
    · exact sd_bd32 a (at' % 4294967296)
  have hq : 0 ≤ at' % m ∧ at' % m ≤ 4294967295 := by rcases hm with rfl | rfl <;> omega
  have M := mod at' m (by rcases hm with rfl | rfl <;> omega) (by rcases hm with rfl | rfl <;> omega) (by omega) (by omega)
  have R := rdist a (at' % m) m hm (by omega) (by omega) (by omega) (by omega)
  have hM := Lib.hid M
  have hR := Lib.hid R
  clear M R hm
  obtain ⟨hb1, hb2⟩ := hb
  generalize at' % m = q at *
  go_enter Try.func35, Try.ntmps35
  go_wp2_with (first
    | (go_at_call 50; (with_reducible refine (hM.out _).mono ?_); rintro e w' ⟨rfl, rfl⟩)
    | (go_at_call 49; (with_reducible refine (hR.out _).mono ?_); rintro e w' ⟨rfl, rfl⟩))
  go_ret
  exact ⟨rfl, rfl⟩


abbrev awaitV (s : Q) : Int := if s.r = 0 then -1 else s.a
abbrev rx (s : Q) : Array Value := #[.bool (s.m != 0), .int .i64 s.m, .int .i64 (awaitV s), .int .i64 s.r, .int .i64 s.j]
abbrev New (w w' : World) : Prop := Turns (fun _ => False) w w'

abbrev RPut (s : Q) (n : Int) (w : World) (e : Ending) (w' : World) : Prop :=
  e = .returned (.tuple #[.agg (rx (put s n)), .int .i64 (putAt s n), .bool (putOk s n)]) ∧ New w w'

theorem far_await (s : Q) (n : Int) (ho : s.ok) (hn0 : 0 ≤ n) : far2 s n = decide (awaitV s ≠ n) := by
  have r0 := ho.r0
  have r1 := ho.r1
  unfold far2 awaitV followed
  rw [decide_eq_decide]
  simp only
  by_cases h1 : n = s.a <;> by_cases h2 : s.r = 0 <;> simp [h1, h2] <;> omega

set_option maxHeartbeats 1000000 in
theorem rput (s : Q) (n : Int) (w : World) (ho : s.ok) (hj : s.m = 0 → s.j = 0 ∧ s.r = 0) (hn0 : 0 ≤ n) (hn1 : n ≤ 65535) :
    Calls Try.prog 15 #[.agg (rx s), .int .i64 n] w (RPut s n w) := by
  have m0 := ho.m0
  have m1 := ho.m1
  by_cases hm : s.m = 0
  · have hp : (put s n) = ⟨1048576 + n, 0, s.a, 0⟩ := by
      have := (hj hm).1
      simp [put, hm, believed, this]
      omega
    have HE : Hid (putAt s n = 1048576 + n ∧ putOk s n = true ∧ put s n = ⟨1048576 + n, 0, s.a, 0⟩) := Lib.hid (by refine ⟨?_, ?_, hp⟩ <;> simp [putAt, putOk, hm])
    have hne : (1048576 + n != 0) = true := by simp; omega
    have HN := Lib.hid hne
    unfold RPut
    rw [HE.out.1, HE.out.2.1, HE.out.2.2]
    unfold rx awaitV
    simp only [hm, (hj hm).1, (hj hm).2, bne_self_eq_false, if_true, HN.out]
    clear hj hp hm hne
    go_enter Try.func15, Try.ntmps15
    go_wp2
    go_returns
    exact ⟨rfl, ((Turns.refl _ _).alloc _).alloc _⟩
  · have hmb : (s.m != 0) = true := by simp [hm]
    have HM := Lib.hid hmb
    have R := rnear s.m n 65536 (.inl rfl) (by omega) (by omega) hn0 (by omega)
    have hv : s.m + sd 65536 n (s.m % 65536) = nearv s n := rfl
    rw [hv] at R
    have hN := Lib.hid R
    clear R hv
    by_cases hq : nearB s (nearv s n) = true
    · have hpm : ((put s n).m != 0) = true := by
        have := near_bd s n hq
        simp [put, hm, hq, believed]; omega
      have HE : Hid (putAt s n = nearv s n ∧ putOk s n = true ∧ put s n = believed s (nearv s n)) := Lib.hid (by simp [putAt, putOk, put, hm, hq])
      have HX : Hid (rx (put s n) = #[.bool true, .int .i64 (max s.m (nearv s n)), .int .i64 (-1), .int .i64 0, .int .i64 s.j]) := Lib.hid (by
        unfold rx awaitV
        rw [hpm, HE.out.2.2]
        simp [believed])
      have hnb := near_bd s n hq
      obtain ⟨b1, b2⟩ := hnb
      unfold RPut
      rw [HX.out, HE.out.1, HE.out.2.1]
      unfold rx
      rw [HM.out]
      clear hpm hq HE hm hj hmb
      generalize nearv s n = v at *
      generalize awaitV s = aw at *
      generalize s.m = m at *
      by_cases hlt : m < v
      · have e : max m v = v := by omega
        rw [e]
        clear HX HM e
        go_enter Try.func15, Try.ntmps15
        go_wp2_with fail
        refine (hN.out _).mono ?_
        rintro e w1 ⟨rfl, rfl⟩
        go_wp2
        go_returns
        exact ⟨rfl, by (repeat (first | (refine Turns.setCell ?_ (.inr (by simp; try omega)) _) | (refine Turns.alloc ?_ _) | (refine Turns.drew ?_))); exact Turns.refl _ _⟩
      · have e : max m v = m := by omega
        rw [e]
        clear HX HM e
        go_enter Try.func15, Try.ntmps15
        go_wp2_with fail
        refine (hN.out _).mono ?_
        rintro e w1 ⟨rfl, rfl⟩
        go_wp2
        go_returns
        exact ⟨rfl, by (repeat (first | (refine Turns.setCell ?_ (.inr (by simp; try omega)) _) | (refine Turns.alloc ?_ _) | (refine Turns.drew ?_))); exact Turns.refl _ _⟩
    · have hnf := far_await s n ho hn0
      have hr0 := ho.r0
      have hr1 := ho.r1
      by_cases hw : awaitV s = n
      · have hf : far2 s n = false := by rw [hnf]; simp [hw]
        have hrn : n = s.a ∧ s.r = 1 := by unfold awaitV at hw; split at hw <;> omega
        have hpm : ((put s n).m != 0) = true := by
          simp [put, hm, hq, hf, jumped, believed, followed, leap]; omega
        have HE : Hid (putAt s n = leap s n ∧ putOk s n = true ∧ put s n = jumped s n) := Lib.hid (by simp [putAt, putOk, put, hm, hq, hf])
        have hlp : max s.m ((s.m / 65536 + 2) * 65536 + n) = (s.m / 65536 + 2) * 65536 + n := by omega
        have HX : Hid (rx (put s n) = #[.bool true, .int .i64 ((s.m / 65536 + 2) * 65536 + n), .int .i64 (-1), .int .i64 0, .int .i64 (s.j + 1)]) := Lib.hid (by
          unfold rx awaitV
          rw [hpm, HE.out.2.2]
          simp only [jumped, believed, followed, leap, if_true, hlp])
        have hln : Hid (leap s n = (s.m / 65536 + 2) * 65536 + n) := Lib.hid rfl
        unfold RPut
        rw [HX.out, HE.out.1, HE.out.2.1, hln.out]
        unfold rx
        rw [HM.out, hw, hrn.2]
        have j0 := ho.j0
        have j1 := ho.j1
        have hnq : ¬ (s.m - 3000 ≤ nearv s n ∧ nearv s n ≤ s.m + 3000) := by simpa [nearB] using hq
        clear hpm hq HE hm hj hmb hnf hf hrn hln HX HM hw hlp
        generalize nearv s n = v at *
        generalize s.m = m at *
        generalize s.j = j at *
        by_cases hlt : v ≤ m + 3000
        · have hgt : ¬ m - 3000 ≤ v := fun h => hnq ⟨h, hlt⟩
          clear hnq
          go_enter Try.func15, Try.ntmps15
          go_wp2_with fail
          refine (hN.out _).mono ?_
          rintro e w1 ⟨rfl, rfl⟩
          go_wp2
          go_region
          all_goals
            go_wp2
            go_returns
            exact ⟨rfl, by (repeat (first | (refine Turns.setCell ?_ (.inr (by simp; try omega)) _) | (refine Turns.alloc ?_ _) | (refine Turns.drew ?_))); exact Turns.refl _ _⟩
        · clear hnq
          go_enter Try.func15, Try.ntmps15
          go_wp2_with fail
          refine (hN.out _).mono ?_
          rintro e w1 ⟨rfl, rfl⟩
          go_wp2
          go_region
          all_goals
            go_wp2
            go_returns
            exact ⟨rfl, by (repeat (first | (refine Turns.setCell ?_ (.inr (by simp; try omega)) _) | (refine Turns.alloc ?_ _) | (refine Turns.drew ?_))); exact Turns.refl _ _⟩
      · have hf : far2 s n = true := by rw [hnf]; simp [hw]
        have hwb : (awaitV s == n) = false := by simpa using hw
        have hpm : ((put s n).m != 0) = true := by
          simp [put, hm, hq, hf, followed]
        have hr : (followed s n).r = 1 := by
          have : (followed s n).r < 2 := by simpa [far2] using hf
          unfold followed at this ⊢
          simp only at this ⊢
          split <;> split at this <;> omega
        have HE : Hid (putAt s n = 0 ∧ putOk s n = false ∧ put s n = followed s n) := Lib.hid (by simp [putAt, putOk, put, hm, hq, hf])
        have HX : Hid (rx (put s n) = #[.bool true, .int .i64 s.m, .int .i64 ((n + 1) % 65536), .int .i64 1, .int .i64 s.j]) := Lib.hid (by
          unfold rx awaitV
          rw [hpm, HE.out.2.2, hr]
          simp [followed])
        unfold RPut
        rw [HX.out, HE.out.1, HE.out.2.1]
        unfold rx
        rw [HM.out]
        have hnq : ¬ (s.m - 3000 ≤ nearv s n ∧ nearv s n ≤ s.m + 3000) := by simpa [nearB] using hq
        clear hpm hq HE hm hj hmb hnf hf HX HM hw hr
        generalize awaitV s = aw at *
        generalize nearv s n = v at *
        generalize s.m = m at *
        generalize s.j = j at *
        generalize s.r = r at *
        by_cases hlt : v ≤ m + 3000
        · have hgt : ¬ m - 3000 ≤ v := fun h => hnq ⟨h, hlt⟩
          clear hnq
          go_enter Try.func15, Try.ntmps15
          go_wp2_with fail
          refine (hN.out _).mono ?_
          rintro e w1 ⟨rfl, rfl⟩
          go_wp2
          go_returns
          exact ⟨rfl, by (repeat (first | (refine Turns.setCell ?_ (.inr (by simp; try omega)) _) | (refine Turns.alloc ?_ _) | (refine Turns.drew ?_))); exact Turns.refl _ _⟩
        · clear hnq
          go_enter Try.func15, Try.ntmps15
          go_wp2_with fail
          refine (hN.out _).mono ?_
          rintro e w1 ⟨rfl, rfl⟩
          go_wp2
          go_returns
          exact ⟨rfl, by (repeat (first | (refine Turns.setCell ?_ (.inr (by simp; try omega)) _) | (refine Turns.alloc ?_ _) | (refine Turns.drew ?_))); exact Turns.refl _ _⟩
end Go.Proofs.Ytgppddmfdhpaiaa.ext
