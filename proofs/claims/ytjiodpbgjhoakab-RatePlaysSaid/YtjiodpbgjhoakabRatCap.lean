/-
  RateCap.
-/
import Derived.Test.YtjiodpbgjhoakabRatAwake
namespace Go.Proofs.Ytjiodpbgjhoakab.rat
open Go.RowKit mem
set_option linter.unusedVariables false

abbrev k1 (b : Int) (c : Int) : M := ⟨1000, b, c, [(5, 0)]⟩
theorem k1_ok (b c : Int) (h0 : 0 ≤ b) (h1 : b ≤ 1073741824) (h2 : 0 ≤ c) (h3 : c ≤ 1099511627776) : (k1 b c).ok := by
  refine ⟨by show (1 : Int) ≤ 1000; decide, by show (1000 : Int) ≤ 1048576; decide, h0, by show b ≤ _; omega, h2, h3, ?_, by show 1 ≤ 2000; decide, ?_⟩
  · intro i j hi hj
    simp at hj
    omega
  · intro x hx
    simp at hx
    subst hx
    exact ⟨by show (0 : Int) ≤ 0; decide, h0⟩
theorem k1_of (b : Int) (h0 : 0 ≤ b) (h1 : b ≤ 1073741824) : addQ (fresh 1000) 5 b = k1 b 0 := by
  have : clampB b = b := by unfold clampB; omega
  simp only [addQ, addM, this, Int.zero_add]
  rfl
theorem k1_rate (b c : Int) : rateQ (k1 b c) 5 = b := by
  have h : cutOf (k1 b c).L (5 - (k1 b c).win + 1) = 0 := by rfl
  simp only [rateQ, h, rateF]
  simp
theorem fresh_ok (a : Int) (h : 1 ≤ a ∧ a ≤ 1048576) : (fresh a).ok := by
  refine ⟨h.1, h.2, by show (0 : Int) ≤ 0; decide, by show (0 : Int) ≤ _; decide, by show (0 : Int) ≤ 0; decide, by show (0 : Int) ≤ _; decide, ?_, by show 0 ≤ 2000; decide, ?_⟩
  · intro i j hi hj
    simp at hj
  · intro x hx
    simp at hx

set_option maxHeartbeats 2000000 in
theorem cap_law (a0 a1 : Int) (a2 : Bool) (W : World) (g0 : -9223372036854775808 ≤ a0) (g0' : a0 ≤ 9223372036854775807) (g1 : 0 ≤ a1) (g1' : a1 ≤ 18446744073709551615) :
    Calls Try.prog 5 #[.int .i64 a0, .int .u64 a1, .bool a2] W fun e W' => e = .returned (.bool true) ∧ Below W.heap.size W W' := by
  have HN := Lib.hid (new_ok 1000 W (by decide))
  obtain ⟨b, hb⟩ : ∃ b, clampB a0 = b := ⟨_, rfl⟩
  obtain ⟨mx, hmx, hmx2⟩ : ∃ mx, (if a0 < 0 then 0 else a0) = mx ∧ max a0 0 = mx := ⟨_, rfl, by split <;> omega⟩
  have hmn : (if 1073741824 < mx then 1073741824 else mx) = b := by rw [← hb]; unfold clampB; rw [hmx2]; split <;> omega
  have hb0 : 0 ≤ b ∧ b ≤ 1073741824 := by rw [← hb]; unfold clampB; omega
  obtain ⟨b0, b1⟩ := hb0
  obtain ⟨c, hc⟩ : ∃ c, min (a1 / 8) 1099511627776 = c := ⟨_, rfl⟩
  have hc0 : 0 ≤ c ∧ c ≤ 1099511627776 ∧ (8 ≤ a1 → 0 < c ∧ c ≤ a1 / 8) ∧ (a1 < 8 → c = 0) := by omega
  obtain ⟨fr, hfr⟩ : ∃ fr, guessF (k1 b 0) a2 b = fr := ⟨_, rfl⟩
  obtain ⟨n, hn⟩ : ∃ n, guessF (k1 b c) a2 b = n := ⟨_, rfl⟩
  have hfv : fr = if a2 = true then b else max (2 * b) 1 := by rw [← hfr]; simp [guessF]
  have hnv : n = if 0 < c then min fr c else fr := by rw [← hn, hfv]; rfl
  have HF := Lib.hid (And.intro hfr hn)
  have HK : Hid ((fresh 1000).ok ∧ (k1 b 0).ok ∧ (k1 b c).ok) := Lib.hid ⟨fresh_ok _ (by decide), k1_ok _ _ b0 b1 (by decide) (by decide), k1_ok _ _ b0 b1 hc0.1 hc0.2.1⟩
  have HC := Lib.hid hc
  have f0 : 0 ≤ fr ∧ fr ≤ 2147483648 := by rw [hfv]; split <;> omega
  obtain ⟨fr0, fr1⟩ := f0
  have nn0 : 0 ≤ n ∧ n ≤ fr := by rw [hnv]; split <;> omega
  obtain ⟨nn0, nn1⟩ := nn0
  have d1 : decide (n ≤ fr) = true := decide_eq_true nn1
  have d2 : (fr == fr) = true := by simp
  have HV : Hid ((a2 = true → fr = b) ∧ (a2 = false → (if 2 * b < 1 then 1 else 2 * b) = fr)) := Lib.hid ⟨fun h => by rw [hfv, if_pos h], fun h => by rw [hfv]; subst h; simp only [Bool.false_eq_true, if_false]; split <;> omega⟩
  have HX : Hid ((a1 < 8 ∧ n = fr) ∨ (8 ≤ a1 ∧ n ≤ a1 / 8)) := Lib.hid (by
    by_cases h8 : a1 < 8
    · have := hc0.2.2.2 h8
      exact .inl ⟨h8, by rw [hnv, if_neg (by omega)]⟩
    · have := hc0.2.2.1 (by omega)
      exact .inr ⟨by omega, by rw [hnv, if_pos this.1]; omega⟩)
  clear hfr hn hc hb hc0 hmx2 hfv hnv
  go_enter Try.func5, Try.ntmps5
  go_wp2_with fail
  refine HN.out.mono ?_
  rintro e w1 ⟨p, rfl, o1⟩
  have HO1 := Lib.hid o1
  have HW := Lib.hid (awake w1)
  clear HN o1
  go_wp2_with fail
  refine HW.out.mono ?_
  rintro e w2 ⟨rfl, n2⟩
  have HO2 := Lib.hid (HO1.out.later n2)
  have HA := Lib.hid (addq p _ _ 5 b w2 HO2.out.ms HK.out.1 (by decide) (by decide) (by omega) (by omega))
  rw [k1_of b b0 b1] at HA
  clear HW HO1 n2
  go_wp2_with fail
  refine HA.out.mono ?_
  rintro e w3 ⟨rfl, v, l3⟩
  have HO3 := Lib.hid (HO2.out.lft l3)
  have HG := Lib.hid (guessq p _ _ 5 a2 w3 l3.ms HK.out.2.1 (by decide) (by decide))
  rw [k1_rate, HF.out.1] at HG
  clear HA HO2 l3 hmx hmn
  go_wp2_with fail
  refine HG.out.mono ?_
  rintro e w4 ⟨rfl, n4⟩
  have HO4 := Lib.hid (HO3.out.later n4)
  have HC1 := Lib.hid (cap p _ _ a1 w4 HO4.out.ms g1 g1')
  rw [HC.out] at HC1
  clear HG HO3 n4
  go_wp2_with fail
  refine HC1.out.mono ?_
  rintro e w5 ⟨rfl, m5, n5⟩
  have HO5 : Hid (Own W w5 p v (k1 b c)) := Lib.hid (HO4.out.cap m5 n5)
  have HG := Lib.hid (guessq p _ _ 5 a2 w5 HO5.out.ms HK.out.2.2 (by decide) (by decide))
  rw [k1_rate, HF.out.2] at HG
  clear HC1 HO4 n5 m5
  go_wp2_with fail
  refine HG.out.mono ?_
  rintro e w6 ⟨rfl, n6⟩
  have HO6 := Lib.hid (HO5.out.later n6)
  have HC1 := Lib.hid (cap p _ _ 0 w6 HO6.out.ms (by decide) (by decide))
  clear HG HO5 n6
  go_wp2_with fail
  refine HC1.out.mono ?_
  rintro e w7 ⟨rfl, m7, n7⟩
  have HO7 : Hid (Own W w7 p v (k1 b 0)) := Lib.hid (HO6.out.cap m7 n7)
  have HG := Lib.hid (guessq p _ _ 5 a2 w7 HO7.out.ms HK.out.2.1 (by decide) (by decide))
  rw [k1_rate, HF.out.1] at HG
  have HE : Hid (∀ w8, New w7 w8 → Below W.heap.size W w8) := Lib.hid (fun w8 n8 => (HO7.out.later n8).below)
  clear HC1 HO6 n7 m7 HF HK HC HO7
  rcases HX.out with ⟨h8, rfl⟩ | ⟨h8, hd⟩
  · have d3 : decide (a1 < 8) = true := decide_eq_true h8
    clear HX
    cases a2
    · have hm := HV.out.2 rfl
      clear HV
      go_wp2_with fail
      refine HG.out.mono ?_
      rintro e w8 ⟨rfl, n8⟩
      have HB := Lib.hid (HE.out _ n8)
      clear n8
      go_wp2
      go_ret
      exact ⟨rfl, HB.out⟩
    · have hm := HV.out.1 rfl
      have d4 : (n == b) = true := by simp [hm]
      clear HV hm
      go_wp2_with fail
      refine HG.out.mono ?_
      rintro e w8 ⟨rfl, n8⟩
      have HB := Lib.hid (HE.out _ n8)
      clear n8
      go_wp2
      go_ret
      exact ⟨rfl, HB.out⟩
  · have d3 : decide (a1 < 8) = false := decide_eq_false (by omega)
    have d5 : decide (8 ≤ a1) = true := decide_eq_true h8
    have d6 : decide (n ≤ a1 / 8) = true := decide_eq_true hd
    have u6 : IntKind.u64.wrap n = n := IntWalk.u64_in _ (by omega)
    clear HX
    cases a2
    · have hm := HV.out.2 rfl
      clear HV
      go_wp2_with fail
      refine HG.out.mono ?_
      rintro e w8 ⟨rfl, n8⟩
      have HB := Lib.hid (HE.out _ n8)
      clear n8
      go_wp2
      go_ret
      exact ⟨rfl, HB.out⟩
    · have hm := HV.out.1 rfl
      have d4 : (fr == b) = true := by simp [hm]
      clear HV hm
      go_wp2_with fail
      refine HG.out.mono ?_
      rintro e w8 ⟨rfl, n8⟩
      have HB := Lib.hid (HE.out _ n8)
      clear n8
      go_wp2
      go_ret
      exact ⟨rfl, HB.out⟩
end Go.Proofs.Ytjiodpbgjhoakab.rat
