/-
  OctetBack: what is written is read back.
-/
import Derived.Test.YtefhhilaadmghabOctLit
import Derived.Test.YtefhhilaadmghabOctList
namespace Go.Proofs.Ytefhhilaadmghab.oref
open Go.RowKit mem rd wr
set_option linter.unusedVariables false

theorem emod_pow_le (a : Int) (M : Nat) (ha : 0 ≤ a) : a % 256 ^ M ≤ a := by
  have hp : (0 : Int) < 256 ^ M := Int.pow_pos (by omega)
  have := Int.emod_add_mul_ediv a (256 ^ M)
  have h2 : 0 ≤ a / 256 ^ M := Int.ediv_nonneg ha (by omega)
  have h3 : 0 ≤ 256 ^ M * (a / 256 ^ M) := Int.mul_nonneg (by omega) h2
  omega

set_option maxHeartbeats 1000000 in
theorem back_core (a b c d : Int) (n m : Int) (s0 : ByteArray) (w : World) (ha : 0 ≤ a) (ha' : a ≤ 18446744073709551615) (hb : 0 ≤ b) (hb' : b ≤ 4294967295) (hc : 0 ≤ c) (hc' : c ≤ 65535) (hd : 0 ≤ d) (hd' : d ≤ 255)
    (hm : (n < 1 ∧ m = 1) ∨ (1 ≤ n ∧ n ≤ 8 ∧ m = n) ∨ (8 < n ∧ m = 8)) (hs0 : s0.size ≤ maxLen) :
    Calls Try.prog 4 #[.int .u64 a, .int .u32 b, .int .u16 c, .int .u8 d, .int .i64 n, .string s0] w fun e w' => e = .returned (.bool true) ∧ Below w.heap.size w w' := by
  unfold maxLen at hs0
  have hcs := cutS_size s0 40
  have K1 := Lib.hid (fun w => cut s0 40 (by omega) w)
  generalize cutS s0 40 = s at *
  obtain ⟨M, hlim, hM1, hM8⟩ : ∃ M : Nat, rd.lim m = (M : Int) ∧ 1 ≤ M ∧ M ≤ 8 := by
    refine ⟨m.toNat, ?_, by omega, by omega⟩
    unfold rd.lim; omega
  have HL := Lib.hid hlim
  clear hlim
  have HW : Hid (Wrote (w.alloc (.cells #[.slice none 0 0] 27)) (w.alloc (.cells #[.slice none 0 0] 27)) w.heap.size none []) := Lib.hid (Wrote.refl (fresh (Blk.new w _ _)))
  have hn0 : New w (w.alloc (.cells #[.slice none 0 0] 27)) := (Turns.refl _ _).alloc _
  have hpw : 0 ≤ a % 256 ^ M ∧ a % 256 ^ M ≤ 18446744073709551615 := by
    have hp : (0 : Int) < 256 ^ M := Int.pow_pos (by omega)
    have h1 := Int.emod_nonneg a (show (256 : Int) ^ M ≠ 0 by omega)
    have h2 : a % 256 ^ M ≤ a := emod_pow_le a M ha
    omega
  have HX := Lib.hid (be_mod M M a ha (Nat.le_refl _))
  -- what stands there
  obtain ⟨T1, hT1⟩ : ∃ T, T = s.data.toList ++ be 4 b ++ be 2 c ++ be 1 d := ⟨_, rfl⟩
  rcases hm with ⟨h1, rfl⟩ | ⟨h1, h2, rfl⟩ | ⟨h1, rfl⟩
  all_goals
    go_enter Try.func4, Try.ntmps4
    go_wp2_with (go_at_call 7; refine (K1.out _).mono ?_; rintro e w' ⟨rfl, rfl⟩)
    refine (nums_lit HW.out _ M HL.out [a] (by simp; omega) (by simp) _ (by simp)).mono ?_
    rintro e w1 ⟨rfl, hw1⟩
    go_wp2_with fail
    refine (put_lit hw1 s (by simp [be_length]; omega) _ rfl).mono ?_
    rintro e w2 ⟨rfl, hw2⟩
    go_wp2_with fail
    refine (u32_lit hw2 b hb hb' (by simp [be_length, size_list]; omega) _ rfl).mono ?_
    rintro e w3 ⟨rfl, hw3⟩
    go_wp2_with fail
    refine (u16_lit hw3 c hc hc' (by simp [be_length, size_list]; omega) _ rfl).mono ?_
    rintro e w4 ⟨rfl, hw4⟩
    go_wp2_with fail
    refine (u8_lit hw4 d hd hd' (by simp [be_length, size_list]; omega) _ rfl).mono ?_
    rintro e w5 ⟨rfl, hw5⟩
    simp only [List.nil_append, List.flatMap_cons, List.flatMap_nil, List.append_nil, List.append_assoc] at hw5
    clear hw1 hw2 hw3 hw4 HW
    obtain ⟨q5, hb5, ht5, _⟩ := hw5
    have hn5 : New w w5 := hn0.trans (ht5.mono (fun k _ h => .inr (by rcases h with h | h; omega; cases h)))
    have HT := Lib.hid (text _ q5 _ w5 hb5)
    have hlen : (be M a ++ (s.data.toList ++ (be 4 b ++ (be 2 c ++ be 1 d)))).length ≤ 100 := by simp only [List.length_append, be_length, size_list]; omega
    clear hb5 ht5 hn0
    go_wp2_with fail
    refine (HT.out).mono ?_
    rintro e w6 ⟨rfl, rfl⟩
    go_wp2_with fail
    refine (read _ w5).mono ?_
    rintro e w6 ⟨rfl, rfl⟩
    go_wp2_with fail
    refine (awake _).mono ?_
    rintro e w6 ⟨rfl, hn6⟩
    have hr6 : Rl w6 w5.heap.size (be M a ++ (s.data.toList ++ (be 4 b ++ (be 2 c ++ be 1 d)))) := Rd.turns (Blk.new w5 _ _ : Rd _ _ _ _) hn6 (fun h => h)
    have hn6' : New w w6 := (hn5.alloc _).trans (hn6.mono (fun _ _ h => h.elim))
    have hP := hn5.size
    generalize w5.heap.size = P at *
    clear HT hn6 hn5
    simp only [List.length_append, be_length, size_list] at hlen
    go_wp2_with fail
    refine (num_list P a _ M HL.out ha _ w6 hr6 (by simp only [List.length_append, be_length, size_list]; omega)).mono ?_
    rintro e w7 ⟨rfl, hr7, ht7⟩
    go_wp2_with fail
    refine (rnum _ (a % 256 ^ M) M HL.out hpw.1 hpw.2 w7).mono ?_
    rintro e w8 ⟨rfl, hn8⟩
    rw [HX.out]
    go_wp2_with fail
    refine (rnum _ a M HL.out ha ha' w8).mono ?_
    rintro e w9 ⟨rfl, hn9⟩
    have hr9 := (Rd.turns (Rd.turns hr7 hn8 (fun h => h)) hn9 (fun h => h))
    have hn9' : New w w9 := ((hn6'.trans (ht7.mono (fun k _ h => .inr (by omega)))).trans (hn8.mono (fun _ _ h => h.elim))).trans (hn9.mono (fun _ _ h => h.elim))
    clear hr6 hr7 hn8 hn9 ht7 hn6'
    go_wp2_with fail
    refine (bytes_list P s.data.toList _ s.size (by rw [size_list]) w9 hr9 (by simp only [List.length_append, be_length, size_list]; omega)).mono ?_
    rintro e w10 ⟨rfl, hr10, ht10⟩
    rw [eta_mk]
    go_wp2_with fail
    refine (u32_list P b hb hb' _ w10 hr10 (by simp only [List.length_append, be_length]; omega)).mono ?_
    rintro e w11 ⟨rfl, hr11, ht11⟩
    go_wp2_with fail
    refine (u16_list P c hc hc' _ w11 hr11 (by simp only [List.length_append, be_length]; omega)).mono ?_
    rintro e w12 ⟨rfl, hr12, ht12⟩
    go_wp2_with fail
    refine (u8_list P d hd hd' [] w12 (by rw [List.append_nil]; exact hr12) (by simp only [List.length_append, be_length, List.length_nil]; omega)).mono ?_
    rintro e w13 ⟨rfl, hr13, ht13⟩
    go_wp2_with fail
    refine (end_list P w13 hr13).mono ?_
    rintro e w14 ⟨rfl, hr14, ht14⟩
    have hfin := ((((hn9'.trans (ht10.mono (fun k _ h => .inr (by omega)))).trans (ht11.mono (fun k _ h => .inr (by omega)))).trans (ht12.mono (fun k _ h => .inr (by omega)))).trans (ht13.mono (fun k _ h => .inr (by omega)))).trans (ht14.mono (fun k _ h => .inr (by omega)))
    go_wp2
    go_ret
    exact ⟨rfl, hfin.below (Nat.le_refl _) (fun _ _ h => h.elim)⟩

theorem back_law (a b c d n : Int) (s0 : ByteArray) (w : World) (ha : 0 ≤ a) (ha' : a ≤ 18446744073709551615) (hb : 0 ≤ b) (hb' : b ≤ 4294967295) (hc : 0 ≤ c) (hc' : c ≤ 65535) (hd : 0 ≤ d) (hd' : d ≤ 255) (_ : -9223372036854775808 ≤ n) (_ : n ≤ 9223372036854775807) (hs0 : s0.size ≤ maxLen) :
    Calls Try.prog 4 #[.int .u64 a, .int .u32 b, .int .u16 c, .int .u8 d, .int .i64 n, .string s0] w fun e w' => e = .returned (.bool true) ∧ Below w.heap.size w w' :=
  back_core a b c d n (lim n) s0 w ha ha' hb hb' hc hc' hd hd' (lim_cases n) hs0
end Go.Proofs.Ytefhhilaadmghab.oref
