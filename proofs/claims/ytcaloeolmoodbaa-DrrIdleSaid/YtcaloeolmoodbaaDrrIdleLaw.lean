/-
  DrrIdle: the law.
-/
import Derived.Test.YtcaloeolmoodbaaDrrIdle1
import Derived.Test.YtcaloeolmoodbaaMask
namespace Go.Proofs.Ytcaloeolmoodbaa.drr
open Go.RowKit mem Go.Maps
set_option linter.unusedVariables false

/-- what the first loop keeps -/
def I1 (m S : Int) (b1 b2 : Nat) (s : Sc) (k : Nat) : Prop := (k = 0 ∧ s = sq m S b1 b2 0 0 0 false) ∨ ∃ x, 0 ≤ x ∧ x < S ∧ s = sq m S b1 b2 x 0 1 true
/-- what the second loop keeps -/
def I2 (m S : Int) (b1 b2 : Nat) (s : Sc) (sent : Int) (i : Nat) : Prop :=
  (sent = 0 ∧ ((i = 0 ∧ s = sq m S b1 b2 0 0 0 false) ∨ ∃ x, 0 ≤ x ∧ i * m + x ≤ S ∧ s = sq m S b1 b2 x 0 1 true)) ∨
  (0 < sent ∧ sent ≤ S ∧ (i : Int) ≤ 320 + sent ∧ ∃ x, 0 ≤ x ∧ x < m ∧ s = sq m S b1 b2 x (S - sent) 2 true)
theorem I1.step {m S : Int} {b1 b2 : Nat} {s : Sc} {k : Nat} (m1 : 1 ≤ m) (mS : m ≤ S) (h : I1 m S b1 b2 s k) : ∃ x, m ≤ x ∧ x < S + m ∧ chooseS (hs1 m) s = sq m S b1 b2 x 0 1 true ∧ I1 m S b1 b2 (takeS m (sq m S b1 b2 x 0 1 true)) (k + 1) := by
  rcases h with ⟨_, rfl⟩ | ⟨x, x0, x1, rfl⟩
  · rw [chooseA m S b1 b2 0 0 mS (Int.le_refl _) 0 false (.inr ⟨rfl, rfl⟩), if_neg (by rintro ⟨h, _⟩; cases h)]
    refine ⟨0 + S, by omega, by omega, rfl, .inr ⟨0 + S - m, by omega, by omega, take_1 m S b1 b2 _ 0 m (by omega) (by omega)⟩⟩
  · rw [chooseA m S b1 b2 x 0 mS x0 1 true (.inl ⟨rfl, rfl⟩)]
    by_cases h : m ≤ x
    · rw [if_pos ⟨rfl, h⟩]
      exact ⟨x, h, by omega, rfl, .inr ⟨x - m, by omega, by omega, take_1 m S b1 b2 _ 0 m (by omega) (by omega)⟩⟩
    · rw [if_neg (fun e => h e.2)]
      exact ⟨x + S, by omega, by omega, rfl, .inr ⟨x + S - m, by omega, by omega, take_1 m S b1 b2 _ 0 m (by omega) (by omega)⟩⟩
theorem I1.two {m S : Int} {b1 b2 : Nat} {s : Sc} {k : Nat} (h : I1 m S b1 b2 s k) : two12 s ∧ s.most = m := by
  rcases h with ⟨_, rfl⟩ | ⟨x, x0, x1, rfl⟩
  · exact ⟨sq_two _ _ _ _ _ _ _ _, rfl⟩
  · exact ⟨sq_two _ _ _ _ _ _ _ _, rfl⟩
theorem I1.next {m S : Int} {b1 b2 : Nat} {s : Sc} {k : Nat} (h : I1 m S b1 b2 s k) : I2 m S b1 b2 s 0 0 := by
  rcases h with ⟨_, rfl⟩ | ⟨x, x0, x1, rfl⟩
  · exact .inl ⟨rfl, .inl ⟨rfl, rfl⟩⟩
  · exact .inl ⟨rfl, .inr ⟨x, x0, by simp; omega, rfl⟩⟩
theorem I2.two {m S : Int} {b1 b2 : Nat} {s : Sc} {sent : Int} {i : Nat} (h : I2 m S b1 b2 s sent i) : two12 s ∧ s.most = m := by
  rcases h with ⟨_, ⟨_, rfl⟩ | ⟨x, _, _, rfl⟩⟩ | ⟨_, _, _, x, _, _, rfl⟩
  all_goals exact ⟨sq_two _ _ _ _ _ _ _ _, rfl⟩
/-- a round of the second loop: flow 1 goes on, or flow 2, or it ends -/
theorem I2.step {m S : Int} {b1 b2 : Nat} {s : Sc} {sent : Int} {i : Nat} (m1 : 1 ≤ m) (mS : m ≤ S) (S1 : S ≤ 319) (h : I2 m S b1 b2 s sent i) :
    ((chooseS (hs2 m m) s).turn = 1 ∧ sent = 0 ∧ I2 m S b1 b2 (takeS m (chooseS (hs2 m m) s)) 0 (i + 1)) ∨
    ((chooseS (hs2 m m) s).turn = 2 ∧ 0 ≤ sent ∧ sent + m ≤ S ∧ I2 m S b1 b2 (takeS m (chooseS (hs2 m m) s)) (sent + m) (i + 1)) ∨
    ((chooseS (hs2 m m) s).turn = 1 ∧ 0 < sent ∧ sent ≤ S ∧ S - sent < m) := by
  rcases h with ⟨rfl, ⟨rfl, rfl⟩ | ⟨x, x0, x1, rfl⟩⟩ | ⟨s0, s1, hi, x, x0, x1, rfl⟩
  · left
    rw [choose_0 m S b1 b2 0 0 mS (Int.le_refl _), take_1 m S b1 b2 _ 0 m (by omega) (by omega)]
    exact ⟨rfl, rfl, .inl ⟨rfl, .inr ⟨0 + S - m, by omega, by simp; omega, rfl⟩⟩⟩
  · rw [choose_1 m S b1 b2 x 0 mS (Int.le_refl _)]
    by_cases h : x < m
    · rw [if_pos h, take_2 m S b1 b2 x _ m (by omega) (by omega)]
      right; left
      refine ⟨rfl, Int.le_refl _, by omega, .inr ⟨by omega, by omega, ?_, x, x0, h, by rw [show (0 : Int) + S - m = S - (0 + m) by omega]⟩⟩
      have : (i : Int) ≤ i * m := by
        have := Int.mul_le_mul_of_nonneg_left m1 (show (0 : Int) ≤ (i : Int) by omega)
        omega
      push_cast
      omega
    · rw [if_neg h, take_1 m S b1 b2 x 0 m (by omega) (by omega)]
      left
      refine ⟨rfl, rfl, .inl ⟨rfl, .inr ⟨x - m, by omega, ?_, rfl⟩⟩⟩
      have : ((i + 1 : Nat) : Int) * m = i * m + m := by push_cast; rw [Int.add_mul, Int.one_mul]
      rw [this]; omega
  · rw [choose_2 m S b1 b2 x (S - sent) mS x0]
    by_cases h : S - sent < m
    · rw [if_pos h]
      right; right
      exact ⟨rfl, s0, s1, h⟩
    · rw [if_neg h, take_2 m S b1 b2 x _ m (by omega) (by omega)]
      right; left
      refine ⟨rfl, by omega, by omega, .inr ⟨by omega, by omega, by push_cast; omega, x, x0, x1, by rw [show S - sent - m = S - (sent + m) by omega]⟩⟩
theorem I2.few {m S : Int} {b1 b2 : Nat} {s : Sc} {sent : Int} {i : Nat} (m1 : 1 ≤ m) (S1 : S ≤ 319) (h : I2 m S b1 b2 s sent i) : i < 1200 := by
  rcases h with ⟨rfl, ⟨rfl, _⟩ | ⟨x, x0, x1, _⟩⟩ | ⟨s0, s1, hi, _⟩
  · omega
  · have : (i : Int) ≤ i * m := by
      have := Int.mul_le_mul_of_nonneg_left m1 (show (0 : Int) ≤ (i : Int) by omega)
      omega
    omega
  · omega
theorem sq_make (m S : Int) (b1 b2 : Nat) : addS (addS (fresh m) 1 b1 S) 2 b2 S = sq m S b1 b2 0 0 0 false := rfl

set_option maxRecDepth 100000 in
set_option maxHeartbeats 4000000 in
theorem idle_law (a b t : Int) (w : World) (a0 : -9223372036854775808 ≤ a) (a1 : a ≤ 9223372036854775807) (b0 : -9223372036854775808 ≤ b) (b1 : b ≤ 9223372036854775807) (t0 : -9223372036854775808 ≤ t) (t1 : t ≤ 9223372036854775807) :
    Calls Try.prog 8 #[.int .i64 a, .int .i64 b, .int .i64 t] w fun e w' => e = .returned (.bool true) ∧ Below w.heap.size w w' := by
  have HA := Lib.hid (fun w => awake w)
  have M6 := mask.mask6 a
  have M8 := mask.mask8 b
  have hm0 : 0 ≤ a % 64 ∧ a % 64 < 64 := by omega
  have hs0 : 0 ≤ b % 256 ∧ b % 256 < 256 := by omega
  obtain ⟨hm1, hm2⟩ := hm0
  obtain ⟨hs1, hs2⟩ := hs0
  have W1 : IntKind.i64.wrap (1 + a % 64) = 1 + a % 64 := IntWalk.i64_in _ (by omega)
  have W2 : IntKind.i64.wrap (1 + a % 64 + b % 256) = 1 + a % 64 + b % 256 := IntWalk.i64_in _ (by omega)
  go_enter Try.func8, Try.ntmps8
  go_upto_region 3 with fail
  clear M6 M8 W1 W2
  have HMS : Hid (1 ≤ 1 + a % 64 ∧ 1 + a % 64 ≤ 64 ∧ 1 + a % 64 ≤ 1 + a % 64 + b % 256 ∧ 1 + a % 64 + b % 256 ≤ 319) := Lib.hid (by omega)
  clear hm1 hm2 hs1 hs2 a0 a1 b0 b1
  generalize 1 + a % 64 + b % 256 = S at *
  generalize 1 + a % 64 = m at *
  obtain ⟨m1, m2, mS, S1⟩ := HMS.out
  have HN := Lib.hid (new_ok m w m1 (by omega))
  go_wp2_with fail
  refine HN.out.mono ?_
  rintro e w1 ⟨p, rfl, hs1, hn1, hp1⟩
  obtain ⟨mb, hmb⟩ : ∃ mb, w.heap.size = mb := ⟨_, rfl⟩
  have HR1 : Hid (Rn w w1 p w.heap.size 0 (.map []) (fresh m)) := Lib.hid ⟨hs1, hn1, hp1, Nat.le_refl _, (fun f hf => by cases hf)⟩
  rw [hmb] at HR1
  clear hs1 hn1 hp1 HN hmb
  go_wp2_with fail
  refine (HA.out _).mono ?_
  rintro e w2 ⟨rfl, n2⟩
  have HR2 := Lib.hid (HR1.out.later n2)
  clear n2 HR1
  have HA1 := Lib.hid (add_ok p mb 0 _ (fresh m) 1 S w2 HR2.out.ss mS (by omega) (by omega) (by omega) (fnd_fresh _ _) (by omega))
  go_wp2_with fail
  refine HA1.out.mono ?_
  rintro e w3 ⟨rfl, hs3, ht3⟩
  have HR3 := Lib.hid (HR2.out.add hs3 ht3)
  clear hs3 ht3 HA1 HR2
  generalize w2.heap.size = b1 at *
  generalize DataW.put (.map []) (.int .i64 1) _ = D1 at *
  have HA2 := Lib.hid (add_ok p mb 1 D1 (addS (fresh m) 1 b1 S) 2 S w3 HR3.out.ss mS (by omega) (by omega) (by omega) (fnd_one _ _ _ _ (by omega)) (by omega))
  go_wp2_with fail
  refine HA2.out.mono ?_
  rintro e w4 ⟨rfl, hs4, ht4⟩
  have HR4 := Lib.hid (HR3.out.add hs4 ht4)
  clear hs4 ht4 HA2 HR3
  generalize w3.heap.size = b2 at *
  generalize DataW.put D1 (.int .i64 2) _ = D2 at *
  rw [sq_make] at HR4
  have hlo : 0 ≤ min (max t 0) 60 := by omega
  have hhi : min (max t 0) 60 ≤ 60 := by omega
  obtain ⟨N, hN⟩ : ∃ N : Nat, min (max t 0) 60 = (N : Int) := ⟨_, (Int.toNat_of_nonneg hlo).symm⟩
  have hN60 : N ≤ 60 := by omega
  clear hlo hhi
  have HI1 : Hid (I1 m S b1 b2 (sq m S b1 b2 0 0 0 false) 0) := Lib.hid (.inl ⟨rfl, rfl⟩)
  go_wp2_with fail
  go_loopw [47] (fun i wr => ∃ (k : Nat) (s : Sc), k ≤ N ∧ i = .int .i64 k ∧ Rn w wr p mb 2 D2 s ∧ I1 m S b1 b2 s k) (fun i _ => N - (intOf i).toNat)
  case atStart => exact ⟨0, _, by omega, rfl, HR4.out, HI1.out⟩
  case round =>
    obtain ⟨k, s, hk, rfl, hrn, hi⟩ := hrel
    have HRN := Lib.hid hrn
    have HI := Lib.hid hi
    clear hrn hi HR4 HI1
    by_cases hlt : k < N
    · obtain ⟨h12, hmo⟩ := HI.out.two
      have HCH := Lib.hid (choose1 p mb 2 D2 s m wr HRN.out.ss h12.1 (by omega) (by omega))
      obtain ⟨x, hx0, hx1, hce, hin⟩ := HI.out.step m1 mS
      rw [hce, show (sq m S b1 b2 x 0 1 true).turn = 1 from rfl] at HCH
      have HSI : Hid (Sim s (sq m S b1 b2 x 0 1 true)) := Lib.hid (by rw [← hce]; exact Sim.choose _ _)
      have HIN := Lib.hid hin
      have d1 : decide ((k : Int) < (N : Int)) = true := decide_eq_true (by omega)
      clear h12 hmo hce hin
      go_wp2_with fail
      refine HCH.out.mono ?_
      rintro e w5 ⟨rfl, hl5⟩
      have HR5 := Lib.hid (HRN.out.call hl5 HSI.out)
      have HL := Lib.hid (left_some p mb 2 D2 (sq m S b1 b2 x 0 1 true) ⟨2, b2, S, 0⟩ w5 HR5.out.ss (List.mem_cons_of_mem _ List.mem_cons_self))
      have HTK := Lib.hid (take p mb 2 D2 (sq m S b1 b2 x 0 1 true) m w5 HR5.out.ss (by omega))
      dsimp only at HL
      have HSK : Hid (Sim (sq m S b1 b2 x 0 1 true) (takeS m (sq m S b1 b2 x 0 1 true))) := Lib.hid (Sim.take _ _)
      generalize takeS m (sq m S b1 b2 x 0 1 true) = s6 at *
      clear hl5 HCH
      go_wp2_with fail
      refine HL.out.mono ?_
      rintro e w6 ⟨rfl, rfl⟩
      go_wp2_with fail
      refine HTK.out.mono ?_
      rintro e w7 ⟨rfl, hl7⟩
      have HR7 := Lib.hid (HR5.out.call hl7 HSK.out)
      clear hl7 HTK HL
      go_wp2_with fail
      go_roundw
      case rel => exact ⟨k + 1, s6, by omega, by go_num, HR7.out, HIN.out⟩
      case measure => simp [intOf]; omega
    · obtain rfl : k = N := by omega
      have HI2 := Lib.hid HI.out.next
      clear HI
      go_wp2_with fail
      go_loopw [11, 72] (fun sn i wr => ∃ (j : Nat) (s : Sc) (sent : Int), j ≤ 1200 ∧ i = .int .i64 j ∧ sn = .int .i64 sent ∧ Rn w wr p mb 2 D2 s ∧ I2 m S b1 b2 s sent j) (fun _ i _ => 1200 - (intOf i).toNat)
      case atStart => exact ⟨0, _, 0, by omega, rfl, rfl, HRN.out, HI2.out⟩
      case round =>
        obtain ⟨j, s, sent, hj, rfl, rfl, hrn, hi⟩ := hrel
        have HRJ := Lib.hid hrn
        have HJ := Lib.hid hi
        clear hrn hi HRN HI2
        have hfew := HJ.out.few m1 S1
        have d1 : decide ((j : Int) < 1200) = true := decide_eq_true (by omega)
        obtain ⟨h12, hmo⟩ := HJ.out.two
        have HCH := Lib.hid (choose2 p mb 2 D2 s m m wr HRJ.out.ss h12 (by omega) (by omega) (by omega) (by omega))
        have hst := HJ.out.step m1 mS S1
        have HSI := Lib.hid (Sim.choose (hs2 m m) s)
        have HTK := Lib.hid (fun w5 (h : Ss w5 p mb 2 D2 (chooseS (hs2 m m) s)) => take p mb 2 D2 (chooseS (hs2 m m) s) m w5 h (by omega))
        have HST := Lib.hid (Sim.take (chooseS (hs2 m m) s) m)
        clear h12 hmo
        generalize takeS m (chooseS (hs2 m m) s) = s6 at *
        generalize chooseS (hs2 m m) s = s5 at *
        rcases hst with ⟨ht, rfl, hn⟩ | ⟨ht, hs0, hs1, hn⟩ | ⟨ht, hs0, hs1, hs2⟩
        · have HNX := Lib.hid hn
          rw [ht] at HCH
          clear ht hn
          go_wp2_with fail
          refine HCH.out.mono ?_
          rintro e w5 ⟨rfl, hl5⟩
          have HR5 := Lib.hid (HRJ.out.call hl5 HSI.out)
          have HT5 := Lib.hid (HTK.out w5 hl5.1)
          clear hl5 HCH
          go_wp2_with fail
          refine HT5.out.mono ?_
          rintro e w7 ⟨rfl, hl7⟩
          have HR7 := Lib.hid (HR5.out.call hl7 HST.out)
          clear hl7 HT5
          go_wp2_with fail
          go_roundw
          case rel => exact ⟨j + 1, s6, 0, by omega, by go_num, rfl, HR7.out, HNX.out⟩
          case measure => simp [intOf]; omega
        · have HNX := Lib.hid hn
          rw [ht] at HCH
          have W3 : IntKind.i64.wrap (sent + m) = sent + m := IntWalk.i64_in _ (by omega)
          clear ht hn
          go_wp2_with fail
          refine HCH.out.mono ?_
          rintro e w5 ⟨rfl, hl5⟩
          have HR5 := Lib.hid (HRJ.out.call hl5 HSI.out)
          have HT5 := Lib.hid (HTK.out w5 hl5.1)
          clear hl5 HCH
          go_wp2_with fail
          refine HT5.out.mono ?_
          rintro e w7 ⟨rfl, hl7⟩
          have HR7 := Lib.hid (HR5.out.call hl7 HST.out)
          clear hl7 HT5
          go_wp2_with fail
          go_roundw
          case rel => exact ⟨j + 1, s6, sent + m, by omega, by go_num, by go_num, HR7.out, HNX.out⟩
          case measure => simp [intOf]; omega
        · rw [ht] at HCH
          have d2 : decide ((0 : Int) < sent) = true := decide_eq_true hs0
          have d3 : decide (sent ≤ S) = true := decide_eq_true hs1
          have d4 : decide (S - sent < m) = true := decide_eq_true hs2
          have W3 : IntKind.i64.wrap (S - sent) = S - sent := IntWalk.i64_in _ (by omega)
          clear ht
          go_wp2_with fail
          refine HCH.out.mono ?_
          rintro e w5 ⟨rfl, hl5⟩
          have HR5 := Lib.hid (HRJ.out.call hl5 HSI.out)
          clear hl5 HCH
          go_wp2
          go_ret
          exact ⟨rfl, HR5.out.n.below (Nat.le_refl _) (fun _ _ h => h.elim)⟩
end Go.Proofs.Ytcaloeolmoodbaa.drr
