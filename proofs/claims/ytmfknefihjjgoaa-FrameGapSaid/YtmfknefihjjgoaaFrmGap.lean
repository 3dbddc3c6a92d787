/-
  FrameGap: a picture of which one packet is missing.
-/
import Derived.Test.YtmfknefihjjgoaaFrmAwake
import Derived.Test.YtmfknefihjjgoaaFrmLen
import Derived.Test.YtmfknefihjjgoaaArgs
import Derived.Test.YtmfknefihjjgoaaMask
import Derived.WalkLawsBesides
namespace Go.Proofs.Ytmfknefihjjgoaa.frm
open Go.RowKit mem
set_option linter.unusedVariables false

def cG : C := ⟨true, 1000, 8, 9⟩
def uG (n i k : Nat) : U := ⟨7 + (i * n + k : Nat), i, decide (k + 1 = n), decide (k = 0), false, ⟨#[97, 98, 99]⟩, 0⟩
def gone (n g t : Nat) : Bool := decide (t / n = 1) && decide (t % n = g)
def simG (n g : Nat) : Nat → Q × Nat
  | 0 => (⟨cG, [], 0, 0⟩, 0)
  | t + 1 => if gone n g t = true then simG n g t else (putS (simG n g t).1 (uG n (t / n) (t % n)), (simG n g t).2 + (if putOk (simG n g t).1 (uG n (t / n) (t % n)) = true then 1 else 0))
def checkG (n g : Nat) : Bool :=
  (List.range (3 * n)).all (fun t => gone n g t || (!putOk (simG n g t).1 (uG n (t / n) (t % n)) || decide (timeV (putF (simG n g t).1 (uG n (t / n) (t % n))) ≠ 1)))
    && (decide ((simG n g (3 * n)).1.wh = 2) && (decide ((simG n g (3 * n)).1.lo = (n : Int) - 1) && decide ((simG n g (3 * n)).2 = 2)))
theorem checkG_all : (List.range 6).all (fun n => decide (n < 2) || (List.range n).all (checkG n)) = true := by decide +kernel
theorem simG_facts (n : Nat) (h6 : n < 6) (h2 : 2 ≤ n) (g : Nat) (hg : g < n) : (∀ t, t < 3 * n → gone n g t = false → putOk (simG n g t).1 (uG n (t / n) (t % n)) = true → timeV (putF (simG n g t).1 (uG n (t / n) (t % n))) ≠ 1) ∧ (simG n g (3 * n)).1.wh = 2 ∧ (simG n g (3 * n)).1.lo = n - 1 ∧ (simG n g (3 * n)).2 = 2 := by
  have h := List.all_eq_true.1 checkG_all n (List.mem_range.2 h6)
  have hn2 : decide (n < 2) = false := decide_eq_false (by omega)
  rw [hn2, Bool.false_or] at h
  have hc := List.all_eq_true.1 h g (List.mem_range.2 hg)
  unfold checkG at hc
  rw [Bool.and_eq_true, Bool.and_eq_true, Bool.and_eq_true] at hc
  obtain ⟨c1, c2, c3, c4⟩ := hc
  refine ⟨fun t ht h1 h2 => ?_, of_decide_eq_true c2, of_decide_eq_true c3, of_decide_eq_true c4⟩
  have ct := List.all_eq_true.1 c1 t (List.mem_range.2 ht)
  rw [h1, h2, Bool.false_or, Bool.not_true, Bool.false_or] at ct
  exact of_decide_eq_true ct
theorem uG_ok (n i k : Nat) (hn : n ≤ 10) (hi : i ≤ 10) (hk : k ≤ 10) : (uG n i k).ok := by
  have h : i * n ≤ 10 * 10 := Nat.mul_le_mul hi hn
  exact ⟨by show (0 : Int) ≤ 7 + (i * n + k : Nat); omega, by show (7 : Int) + (i * n + k : Nat) ≤ _; omega, by show (0 : Int) ≤ i; omega, by show (i : Int) ≤ _; omega, by show (0 : Int) ≤ 0; decide, by show (0 : Int) ≤ 1152921504606846976; decide, by show 3 ≤ 1048576; decide⟩
theorem simG_ok (n g t : Nat) (hn : 2 ≤ n) (hn' : n ≤ 5) (ht : t ≤ 3 * n) : (simG n g t).1.ok t := by
  induction t with
  | zero => exact fresh_ok cG (by decide)
  | succ t ih =>
    have h := ih (by omega)
    unfold simG
    split
    · exact ⟨h.b0, h.b1, h.n0, h.n1, h.w0, h.w1, h.ol, h.sz, h.os, h.h0, by have := h.h1; omega, h.l0, by have := h.l1; omega⟩
    · refine put_ok h _ (uG_ok _ _ _ (by omega) ?_ ?_)
      · have : t / n ≤ t := Nat.div_le_self t n
        have h3 : t / n < 3 := Nat.div_lt_of_lt_mul (by rw [Nat.mul_comm]; omega)
        omega
      · have := Nat.mod_lt t (show 0 < n by omega); omega
theorem simG_cnt (n g t : Nat) : (simG n g t).2 ≤ t := by
  induction t with
  | zero => exact Nat.le_refl _
  | succ t ih => unfold simG; split <;> (try simp only) <;> (try split) <;> omega
theorem div_at (n i k : Nat) (hk : k < n) : (i * n + k) / n = i ∧ (i * n + k) % n = k := by
  rw [Nat.mul_comm i n]
  exact ⟨by rw [Nat.mul_add_div (by omega), Nat.div_eq_of_lt hk]; rfl, by rw [Nat.mul_add_mod, Nat.mod_eq_of_lt hk]⟩

set_option maxHeartbeats 2000000 in
set_option maxRecDepth 100000 in
theorem gap_law (n0 g0 : Int) (w : World) (hn0 : -9223372036854775808 ≤ n0) (hn1 : n0 ≤ 9223372036854775807) (hg0 : -9223372036854775808 ≤ g0) (hg1 : g0 ≤ 9223372036854775807) :
    Calls Try.prog 5 #[.int .i64 n0, .int .i64 g0] w fun e w' => e = .returned (.bool true) ∧ Below w.heap.size w w' := by
  have M2 := mask.mask2 n0
  have M8 := mask.mask8 g0
  obtain ⟨n, hn⟩ : ∃ n : Nat, (n : Int) = 2 + n0 % 4 := ⟨(2 + n0 % 4).toNat, by omega⟩
  obtain ⟨g, hg⟩ : ∃ g : Nat, (g : Int) = (g0 % 256) % n := ⟨((g0 % 256) % n).toNat, by have := Int.emod_nonneg (g0 % 256) (show (n : Int) ≠ 0 by omega); omega⟩
  have nb : 2 ≤ n ∧ n ≤ 5 := by omega
  obtain ⟨nb0, nb1⟩ := nb
  have hgn : g < n := by have := Int.emod_lt_of_pos (g0 % 256) (show 0 < (n : Int) by omega); omega
  have F := simG_facts n (by omega) nb0 g hgn
  obtain ⟨FT, FW, FL, FC⟩ := F
  have HFT := Lib.hid FT
  have HFW := Lib.hid FW
  have HFL := Lib.hid FL
  have HFC := Lib.hid FC
  have e1 : 2 + n0 % 4 = (n : Int) := hn.symm
  have s1 : IntKind.i64.wrap (2 + n0 % 4) = (n : Int) := by rw [e1]; exact IntWalk.i64_in _ (by omega)
  have e2 : (g0 % 256).tmod (n : Int) = (g : Int) := by rw [Int.tmod_eq_emod_of_nonneg (by omega)]; exact hg.symm
  have s2 : wrap64 (g : Int) = (g : Int) := by unfold wrap64; omega
  have hne : (n : Int) ≠ 0 := by omega
  clear FT FW FL FC hn hg hn0 hn1 hg0 hg1
  generalize n0 % 4 = y at *
  generalize g0 % 256 = y2 at *
  have hnew := Lib.hid (new_at cG · (by decide))
  go_enter Try.func5, Try.ntmps5
  go_wp2_with fail
  refine (awake w).mono ?_
  rintro e w1 ⟨rfl, n1⟩
  go_wp2_with fail
  refine (hnew.out w1).mono ?_
  rintro e w2 ⟨p, rfl, h2⟩
  have H2 : Hid (At w w2 p (.slice none 0 0) (simG n g 0).1) := Lib.hid ⟨h2.m, (fun g hg => by cases hg), n1.trans (h2.n.mono (fun _ _ h => h.elim)), Nat.le_trans n1.size h2.le⟩
  clear h2 hnew n1
  go_wp2_with fail
  go_loopw [7, 8, 30] (fun at' cn i' wr => ∃ (i : Nat) (v : Value), i ≤ 3 ∧ i' = .int .i64 i ∧ at' = .int .i64 (7 + (i * n : Nat)) ∧ cn = .int .i64 (simG n g (i * n)).2 ∧ At w wr p v (simG n g (i * n)).1) (fun _ _ i' _ => 3 - (intOf i').toNat)
  case atStart => exact ⟨0, _, by omega, rfl, by simp, by simp [simG], by rw [Nat.zero_mul]; exact H2.out⟩
  case round =>
    obtain ⟨i, v, hi, rfl, rfl, rfl, hat⟩ := hrel
    clear H2
    have HA := Lib.hid hat
    clear hat
    by_cases hlt : i < 3
    · have HS0 := Lib.hid (show At w wr p v (simG n g (i * n + 0)).1 from HA.out)
      have hd3 : decide ((i : Int) < 3) = true := by simp; omega
      clear HA
      go_wp2_with fail
      go_loopw [7, 8, 34] (fun at' cn k' wq => ∃ (k : Nat) (vk : Value), k ≤ n ∧ k' = .int .i64 k ∧ at' = .int .i64 (7 + (i * n + k : Nat)) ∧ cn = .int .i64 (simG n g (i * n + k)).2 ∧ At w wq p vk (simG n g (i * n + k)).1) (fun _ _ k' _ => n - (intOf k').toNat)
      case atStart => exact ⟨0, _, Nat.zero_le _, rfl, by simp, by simp, HS0.out⟩
      case round =>
        obtain ⟨k, vk, hk, rfl, rfl, rfl, hat⟩ := hrel
        have HA := Lib.hid hat
        clear HS0 hat
        by_cases hkn : k < n
        · obtain ⟨t, ht⟩ : ∃ t, t = i * n + k := ⟨_, rfl⟩
          obtain ⟨hdv, hmd⟩ := div_at n i k hkn
          rw [← ht] at hdv hmd HA ⊢
          have htb : t < 3 * n := by
            have : i * n ≤ 2 * n := Nat.mul_le_mul_right n (by omega)
            omega
          have htc := simG_cnt n g t
          have ht15 : t ≤ 15 := by omega
          have hstep : Hid (∀ b, gone n g t = b → simG n g (t + 1) = if b = true then simG n g t else (putS (simG n g t).1 (uG n i k), (simG n g t).2 + (if putOk (simG n g t).1 (uG n i k) = true then 1 else 0))) := Lib.hid (fun b hb => by
            subst hb
            rw [← hdv, ← hmd, hdv, hmd, simG, hdv, hmd])
          have hft := HFT.out t htb
          rw [hdv, hmd] at hft
          have HF1 := Lib.hid hft
          have HG : Hid (gone n g t = (decide (i = 1) && decide (k = g))) := Lib.hid (by rw [gone, hdv, hmd])
          have HTT : Hid (t = i * n + k) := Lib.hid ht
          have HOK := Lib.hid (simG_ok n g t nb0 nb1 (by omega))
          clear ht hft hdv hmd HFT
          obtain ⟨st, hst⟩ : ∃ st, st = decide (k = 0) := ⟨_, rfl⟩
          obtain ⟨mk, hmk⟩ : ∃ mk, mk = decide (k + 1 = n) := ⟨_, rfl⟩
          obtain ⟨b1, hb1⟩ : ∃ b1, b1 = decide (i = 1) := ⟨_, rfl⟩
          obtain ⟨b2, hb2⟩ : ∃ b2, b2 = decide (k = g) := ⟨_, rfl⟩
          have hcs : (uG n i k).cs.toArray = #[.int .i64 (7 + (t : Int)), .int .i64 i, .bool mk, .bool st, .bool false, .string ⟨#[97, 98, 99]⟩, .int .i64 0] := by rw [hst, hmk, HTT.out]; rfl
          have k1 : ((k : Int) == 0) = st := by rw [hst]; by_cases h : k = 0 <;> simp [h]
          have k3 : ((k : Int) == (n : Int) - 1) = mk := by
            rw [hmk]
            by_cases h : k + 1 = n
            · have : (k : Int) = (n : Int) - 1 := by omega
              simp [this, h]
            · have h2 : ¬ (k : Int) = (n : Int) - 1 := by omega
              simp [h2, h]
          have k4 : ((i : Int) == 1) = b1 := by rw [hb1]; by_cases h : i = 1 <;> simp [h] <;> omega
          have k5 : ((k : Int) == (g : Int)) = b2 := by rw [hb2]; by_cases h : k = g <;> simp [h] <;> omega
          have hgo := HG.out
          rw [← hb1, ← hb2] at hgo
          have hgo' := Lib.hid hgo
          clear hst hmk hb1 hb2 HG hgo
          by_cases hskip : b1 = true ∧ b2 = true
          · obtain ⟨rfl, rfl⟩ := hskip
            have hs1 : Hid (simG n g (t + 1) = simG n g t) := Lib.hid (by rw [hstep.out _ hgo'.out]; rfl)
            have HA1 := Lib.hid (HA.out.new ((Turns.refl _ _).alloc (.cells #[.int .i64 (7 + (t : Int)), .int .i64 i, .bool mk, .bool st, .bool false, .string ⟨#[97, 98, 99]⟩, .int .i64 0] 43)))
            clear hstep HF1 HOK HA hcs
            go_wp2
            go_roundw
            case rel => exact ⟨k + 1, _, by omega, by go_num, by rw [← Nat.add_assoc, ← HTT.out]; go_num, by rw [← Nat.add_assoc, ← HTT.out, hs1.out], by rw [← Nat.add_assoc, ← HTT.out, hs1.out]; exact HA1.out⟩
            case measure => simp [intOf]; omega
          · have hgf : (b1 && b2) = false := by cases b1 <;> cases b2 <;> simp at hskip ⊢
            rw [hgf] at hgo'
            have hs1 := hstep.out _ hgo'.out
            simp only [Bool.false_eq_true, if_false] at hs1
            have hft := HF1.out hgo'.out
            clear hstep HF1
            have HP := fun wr h => put_at w p vk (simG n g t).1 (uG n i k) t wr h HOK.out (by omega) (uG_ok n i k (by omega) (by omega) (by omega))
            rw [hcs] at HP
            obtain ⟨l, hl⟩ : ∃ l, l = putF (simG n g t).1 (uG n i k) := ⟨_, rfl⟩
            obtain ⟨o, ho⟩ : ∃ o, o = putOk (simG n g t).1 (uG n i k) := ⟨_, rfl⟩
            obtain ⟨q, hq⟩ : ∃ q, q = putS (simG n g t).1 (uG n i k) := ⟨_, rfl⟩
            have hll : l.length ≤ 1025 := by rw [hl]; exact (putF_small HOK.out (uG n i k) (uG_ok n i k (by omega) (by omega) (by omega))).1
            rw [← hl, ← ho, ← hq] at HP
            rw [← ho, ← hq] at hs1
            rw [← hl, ← ho] at hft
            have HPP := Lib.hid HP
            have HS1 := Lib.hid hs1
            have HFT2 := Lib.hid hft
            have htc2 : (simG n g t).2 ≤ 15 := by omega
            generalize (simG n g t).2 = cn at *
            clear HP hs1 hl ho hq hft hcs htc HOK
            cases b1
            · go_wp2_with fail
              have HAa := Lib.hid (HA.out.new ((Turns.refl _ _).alloc (.cells #[.int .i64 (7 + (t : Int)), .int .i64 i, .bool mk, .bool st, .bool false, .string ⟨#[97, 98, 99]⟩, .int .i64 0] 43)))
              generalize (wr.alloc (.cells #[.int .i64 (7 + (t : Int)), .int .i64 i, .bool mk, .bool st, .bool false, .string ⟨#[97, 98, 99]⟩, .int .i64 0] 43)) = wa at *
              refine (HPP.out wa HAa.out).mono ?_
              rintro e w3 ⟨v', ao, c', rfl, hat3, hrow⟩
              have hA4 := Lib.hid (hat3.new ((Turns.refl _ _).alloc (.cells #[.slice ao l.length c'] 34)))
              have hR4 := Lib.hid (hrow.turns ((Turns.refl (fun _ => False) w3).alloc (.cells #[.slice ao l.length c'] 34)) (fun _ _ h => h))
              have HT := Lib.hid (timeC (.slice ao l.length c') l _ hR4.out (by omega))
              clear hat3 hrow HPP HAa HA
              cases o
              · clear HT hR4
                go_wp2
                go_roundw
                case rel => exact ⟨k + 1, _, by omega, by go_num, by rw [← Nat.add_assoc, ← HTT.out]; go_num, by rw [← Nat.add_assoc, ← HTT.out, HS1.out]; simp, by rw [← Nat.add_assoc, ← HTT.out, HS1.out]; exact hA4.out⟩
                case measure => simp [intOf]; omega
              · have hne1 := HFT2.out rfl
                generalize timeV l = τ at *
                have hq1 : (τ == 1) = false := by simp [hne1]
                go_wp2_with fail
                refine HT.out.mono ?_
                rintro e w5 ⟨rfl, n5⟩
                have H8 := Lib.hid (hA4.out.new n5)
                clear HT hR4 hA4 n5
                go_wp2
                go_roundw
                case rel => exact ⟨k + 1, _, by omega, by go_num, by rw [← Nat.add_assoc, ← HTT.out]; go_num, by rw [← Nat.add_assoc, ← HTT.out, HS1.out]; simp, by rw [← Nat.add_assoc, ← HTT.out, HS1.out]; exact H8.out⟩
                case measure => simp [intOf]; omega
            · cases b2
              · go_wp2_with fail
                have HAa := Lib.hid (HA.out.new ((Turns.refl _ _).alloc (.cells #[.int .i64 (7 + (t : Int)), .int .i64 i, .bool mk, .bool st, .bool false, .string ⟨#[97, 98, 99]⟩, .int .i64 0] 43)))
                generalize (wr.alloc (.cells #[.int .i64 (7 + (t : Int)), .int .i64 i, .bool mk, .bool st, .bool false, .string ⟨#[97, 98, 99]⟩, .int .i64 0] 43)) = wa at *
                refine (HPP.out wa HAa.out).mono ?_
                rintro e w3 ⟨v', ao, c', rfl, hat3, hrow⟩
                have hA4 := Lib.hid (hat3.new ((Turns.refl _ _).alloc (.cells #[.slice ao l.length c'] 34)))
                have hR4 := Lib.hid (hrow.turns ((Turns.refl (fun _ => False) w3).alloc (.cells #[.slice ao l.length c'] 34)) (fun _ _ h => h))
                have HT := Lib.hid (timeC (.slice ao l.length c') l _ hR4.out (by omega))
                clear hat3 hrow HPP HAa HA
                cases o
                · clear HT hR4
                  go_wp2
                  go_roundw
                  case rel => exact ⟨k + 1, _, by omega, by go_num, by rw [← Nat.add_assoc, ← HTT.out]; go_num, by rw [← Nat.add_assoc, ← HTT.out, HS1.out]; simp, by rw [← Nat.add_assoc, ← HTT.out, HS1.out]; exact hA4.out⟩
                  case measure => simp [intOf]; omega
                · have hne1 := HFT2.out rfl
                  generalize timeV l = τ at *
                  have hq1 : (τ == 1) = false := by simp [hne1]
                  go_wp2_with fail
                  refine HT.out.mono ?_
                  rintro e w5 ⟨rfl, n5⟩
                  have H8 := Lib.hid (hA4.out.new n5)
                  clear HT hR4 hA4 n5
                  go_wp2
                  go_roundw
                  case rel => exact ⟨k + 1, _, by omega, by go_num, by rw [← Nat.add_assoc, ← HTT.out]; go_num, by rw [← Nat.add_assoc, ← HTT.out, HS1.out]; simp, by rw [← Nat.add_assoc, ← HTT.out, HS1.out]; exact H8.out⟩
                  case measure => simp [intOf]; omega
              · exact absurd ⟨rfl, rfl⟩ hskip
        · obtain rfl : k = n := by omega
          have hin : i * k + k = (i + 1) * k := (Nat.succ_mul i k).symm
          rw [hin] at HA ⊢
          go_wp2
          go_roundw
          case rel => exact ⟨i + 1, _, by omega, by go_num, by rfl, by rfl, HA.out⟩
          case measure => simp [intOf]; omega
    · obtain rfl : i = 3 := by omega
      have HCn := Lib.hid (countsC p v _ wr HA.out.m)
      rw [HFW.out, HFL.out] at HCn
      rw [HFC.out]
      have hN := Lib.hid HA.out.n
      have s4 : IntKind.i64.wrap ((n : Int) - 1) = (n : Int) - 1 := IntWalk.i64_in _ (by omega)
      clear HA
      go_wp2_with fail
      refine HCn.out.mono ?_
      rintro e w3 ⟨rfl, n3⟩
      go_wp2
      go_ret
      exact ⟨rfl, (hN.out.trans (n3.mono (fun _ _ h => h.elim))).below (Nat.le_refl _) (fun _ _ h => h.elim)⟩
end Go.Proofs.Ytmfknefihjjgoaa.frm
