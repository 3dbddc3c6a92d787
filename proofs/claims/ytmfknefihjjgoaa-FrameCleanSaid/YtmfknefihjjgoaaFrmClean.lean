/-
  FrameClean: packets that come in their order.
-/
import Derived.Test.YtmfknefihjjgoaaFrmAwake
import Derived.WalkLawsBesides
import Derived.Test.YtmfknefihjjgoaaArgs
import Derived.Test.YtmfknefihjjgoaaMask
namespace Go.Proofs.Ytmfknefihjjgoaa.frm
open Go.RowKit mem
set_option linter.unusedVariables false

def cC (x : Int) : C := ⟨true, 1000, 8, x⟩
/-- packet t of picture i, of n packets, the first of number a -/
def pk (a : Int) (i n t : Nat) : U := ⟨a + t, i, decide (t + 1 = n), decide (t = 0), decide (t = 0) && decide (i = 0), ⟨#[97, 98, 99]⟩, 0⟩
def pks (a : Int) (i n j : Nat) : List U := (List.range j).map (pk a i n)
theorem pks_succ (a : Int) (i n j : Nat) : pks a i n (j + 1) = pks a i n j ++ [pk a i n j] := by simp [pks, List.range_succ]
theorem pks_len (a : Int) (i n j : Nat) : (pks a i n j).length = j := by simp [pks]
theorem pks_size (a : Int) (i n j : Nat) : size (pks a i n j) = 3 * j := by
  induction j with
  | zero => rfl
  | succ j ih => rw [pks_succ, size_append, ih]; show 3 * j + (3 + 0) = _; omega
theorem pk_ok (a : Int) (i n t : Nat) (ha : 0 ≤ a) (ha' : a ≤ 1000000) (hi : i ≤ 1000) (ht : t ≤ 1000) : (pk a i n t).ok :=
  ⟨by show 0 ≤ a + t; omega, by show a + t ≤ _; omega, by show (0 : Int) ≤ i; omega, by show (i : Int) ≤ _; omega, by show (0 : Int) ≤ 0; decide, by show (0 : Int) ≤ 1152921504606846976; decide, by show 3 ≤ 1048576; decide⟩
/-- behind j packets of picture i -/
def stC (x a : Int) (i n j : Nat) : Q := if j < n then ⟨cC x, pks a i n j, i, 0⟩ else ⟨cC x, [], i + 1, 0⟩
theorem cont_pk (x a : Int) (i n j : Nat) : contB ⟨cC x, pks a i n j, i, 0⟩ (pk a i n j) = decide (j ≠ 0) := by
  cases j with
  | zero => rfl
  | succ j =>
    unfold contB
    rw [pks_succ, List.getLast?_concat]
    simp [pk]
    omega
theorem stC_put (x a : Int) (i n j : Nat) (hj : j < n) (hn : n ≤ 8) :
    putS ⟨cC x, pks a i n j, i, 0⟩ (pk a i n j) = stC x a i n (j + 1) ∧ putF ⟨cC x, pks a i n j, i, 0⟩ (pk a i n j) = (if j + 1 = n then pks a i n n else []) ∧ putOk ⟨cC x, pks a i n j, i, 0⟩ (pk a i n j) = decide (j + 1 = n) := by
  have hc := cont_pk x a i n j
  have hb : base ⟨cC x, pks a i n j, i, 0⟩ (pk a i n j) = ⟨cC x, pks a i n j, i, 0⟩ := by
    unfold base
    rw [hc]
    by_cases h : j = 0
    · subst h; rfl
    · simp [h]
  have hp : pushed ⟨cC x, pks a i n j, i, 0⟩ (pk a i n j) = ⟨cC x, pks a i n (j + 1), i, 0⟩ := by rw [pushed, hb, pks_succ]
  have hr : refused ⟨cC x, pks a i n j, i, 0⟩ (pk a i n j) = false := by
    unfold refused
    rw [hc]
    by_cases h : j = 0
    · subst h; rfl
    · simp [h]
  have ho : over ⟨cC x, pks a i n (j + 1), i, 0⟩ = false := by
    unfold over
    simp only [pks_len, pks_size, cC]
    have h1 : ¬ ((8 : Int) < ((j + 1 : Nat) : Int)) := by omega
    have h2 : ¬ ((1000 : Int) < ((3 * (j + 1) : Nat) : Int)) := by omega
    rw [decide_eq_false h1, decide_eq_false h2]
    rfl
  have hw : waits ⟨cC x, pks a i n j, i, 0⟩ (pk a i n j) = !decide (j + 1 = n) := rfl
  unfold putS putF putOk
  rw [hr, hp, ho, hw]
  by_cases h : j + 1 = n
  · simp [h, stC]
  · have : j + 1 < n := by omega
    simp [h, stC, this]
theorem stC_ok (x a : Int) (i n j : Nat) (hx : 0 ≤ x) (hx' : x ≤ 15) (hn : n ≤ 8) (hi : i ≤ 100) (ha : 0 ≤ a) (ha' : a ≤ 1000000) : (stC x a i n j).ok 200 := by
  unfold stC
  split
  · refine ⟨by show (1 : Int) ≤ 1000; decide, by show (1000 : Int) ≤ _; decide, by show (1 : Int) ≤ 8; decide, by show (8 : Int) ≤ _; decide, hx, by show x ≤ _; omega, ?_, ?_, ?_, ?_, ?_, by show (0 : Int) ≤ 0; decide, ?_⟩
    · rw [pks_len]; show (j : Int) ≤ 8; omega
    · rw [pks_size]; show ((3 * j : Nat) : Int) ≤ 1000; omega
    · intro y hy
      simp only [pks, List.mem_map, List.mem_range] at hy
      obtain ⟨t, ht, rfl⟩ := hy
      exact pk_ok a i n t ha ha' (by omega) (by omega)
    · show (0 : Int) ≤ i; omega
    · show (i : Int) ≤ _; omega
    · rw [pks_len]; show (0 : Int) + j ≤ _; omega
  · refine ⟨by show (1 : Int) ≤ 1000; decide, by show (1000 : Int) ≤ _; decide, by show (1 : Int) ≤ 8; decide, by show (8 : Int) ≤ _; decide, hx, by show x ≤ _; omega, by show (0 : Int) ≤ 8; decide, by show (0 : Int) ≤ 1000; decide, by simp, ?_, ?_, by show (0 : Int) ≤ 0; decide, by show (0 : Int) + 0 ≤ _; omega⟩
    · show (0 : Int) ≤ i + 1; omega
    · show (i : Int) + 1 ≤ _; omega
theorem key_pks (a : Int) (i n : Nat) (hn : 0 < n) : keyV (pks a i n n) = decide (i = 0) := by
  obtain ⟨m, rfl⟩ : ∃ m, n = m + 1 := ⟨n - 1, by omega⟩
  unfold pks
  rw [List.range_succ_eq_map]
  simp [keyV, pk]
theorem time_pks (a : Int) (i n : Nat) (hn : 0 < n) : timeV (pks a i n n) = i := by
  obtain ⟨m, rfl⟩ : ∃ m, n = m + 1 := ⟨n - 1, by omega⟩
  unfold pks
  rw [List.range_succ_eq_map]
  simp [timeV, pk]
theorem stC_zero (x a : Int) (i n : Nat) (hn : 0 < n) : stC x a i n 0 = ⟨cC x, [], i, 0⟩ := by simp [stC, hn, pks]
theorem stC_last (x a : Int) (i n : Nat) : stC x a i n n = ⟨cC x, [], i + 1, 0⟩ := by simp [stC]

theorem put_pk (x a : Int) (i n j : Nat) (hj : j < n) (hn : n ≤ 8) (hx : 0 ≤ x) (hx' : x ≤ 15) (hi : i ≤ 100) (ha : 0 ≤ a) (ha' : a ≤ 1000000) (w : World) (p : Nat) (v : Value) (wr : World) (h : At w wr p v (stC x a i n j)) :
    Calls Try.prog 16 #[.pointer (some ⟨p, 0, none⟩), .agg (pk a i n j).cs.toArray] wr fun e w' => ∃ v' ao c, e = .returned (.tuple #[.agg #[.slice ao (if j + 1 = n then n else 0) c], .bool (decide (j + 1 = n))]) ∧ At w w' p v' (stC x a i n (j + 1)) ∧ (j + 1 = n → Row w' (.slice ao n c) (pks a i n n)) := by
  have hs := stC_ok x a i n j hx hx' hn hi ha ha'
  have hst : stC x a i n j = ⟨cC x, pks a i n j, i, 0⟩ := by simp [stC, hj]
  rw [hst] at h hs
  refine (put_is w p v _ (pk a i n j) 200 _ _ _ (stC_put x a i n j hj hn) wr h hs (by omega) (pk_ok a i n j ha ha' (by omega) (by omega))).mono ?_
  rintro e w' ⟨v', ao, c, rfl, hat, hr⟩
  have hl : (if j + 1 = n then pks a i n n else []).length = if j + 1 = n then n else 0 := by split <;> simp [pks_len]
  rw [hl] at hr ⊢
  refine ⟨v', ao, c, rfl, hat, fun hjn => ?_⟩
  rw [if_pos hjn, if_pos hjn] at hr
  exact hr

set_option maxHeartbeats 2000000 in
set_option maxRecDepth 100000 in
theorem clean_law (A : Option Addr) (N c : Nat) (z : Nat → Int) (x0 : Int) (w : World) (hz : args.IntRow .i64 w A N c z) (hx0 : -9223372036854775808 ≤ x0) (hx1 : x0 ≤ 9223372036854775807) :
    Calls Try.prog 4 #[.slice A N c, .int .i64 x0] w fun e w' => e = .returned (.bool true) ∧ Below w.heap.size w w' := by
  have M4 := mask.mask4 x0
  have x0' : 0 ≤ x0 % 16 := by omega
  have x1' : x0 % 16 ≤ 15 := by omega
  generalize x0 % 16 = x at *
  obtain ⟨hn, hwf, hcell⟩ := hz
  unfold maxLen at hn
  have hbd : ∀ i, i < N → -9223372036854775808 ≤ z i ∧ z i ≤ 9223372036854775807 := fun i hi => bounds_i64 (hwf i hi)
  have HB := Lib.hid hbd
  have HC := Lib.hid hcell
  clear hwf hcell hbd
  have hnew := Lib.hid (new_at (cC x) · (by show (1 : Int) ≤ 1000 ∧ (1000 : Int) ≤ 1048576 ∧ (1 : Int) ≤ 8 ∧ (8 : Int) ≤ 1024 ∧ 0 ≤ x ∧ x ≤ 1099511627776; omega))
  go_enter Try.func4, Try.ntmps4
  go_wp2_with fail
  refine (awake w).mono ?_
  rintro e w1 ⟨rfl, n1⟩
  go_wp2_with fail
  refine (hnew.out w1).mono ?_
  rintro e w2 ⟨p, rfl, h2⟩
  have H2 : Hid (At w w2 p (.slice none 0 0) ⟨cC x, [], ((0 : Nat) : Int), 0⟩) := Lib.hid ⟨h2.m, (fun g hg => by cases hg), n1.trans (h2.n.mono (fun _ _ h => h.elim)), Nat.le_trans n1.size h2.le⟩
  clear h2 hnew n1
  go_wp2_with fail
  go_loopw [7, 8] (fun at' i' wr => ∃ (i : Nat) (a : Int) (v : Value), i ≤ N ∧ i ≤ 30 ∧ i' = .int .i64 i ∧ at' = .int .i64 a ∧ 0 ≤ a ∧ a ≤ 7 + 8 * i ∧ At w wr p v ⟨cC x, [], (i : Int), 0⟩) (fun _ i' _ => N - (intOf i').toNat)
  case atStart => exact ⟨0, 7, _, Nat.zero_le _, by omega, rfl, rfl, by omega, by omega, H2.out⟩
  case round =>
    obtain ⟨i, a, v, hi, hi30, rfl, rfl, ha, ha', hat⟩ := hrel
    clear H2
    have HA := Lib.hid hat
    clear hat
    by_cases hgo : i < N ∧ i < 30
    · obtain ⟨hlt, hlt2⟩ := hgo
      obtain ⟨b, off, rfl, hb, hcell⟩ := HC.out.resolve_left (by omega)
      have hd30 : decide ((i : Int) < 30) = true := by simp; omega
      have hck := hcell i hlt
      have hck1 : wr.cell? ⟨b, off + i, none⟩ = some (.int .i64 (z i)) := (HA.out.n.cell hb (fun h => h)).trans hck
      have M3 := mask.mask3 (z i)
      obtain ⟨n, hn8⟩ : ∃ n : Nat, (n : Int) = 1 + z i % 8 := ⟨(1 + z i % 8).toNat, by omega⟩
      have n0 : 0 < n := by omega
      have n8 : n ≤ 8 := by omega
      have e1 : 1 + z i % 8 = (n : Int) := hn8.symm
      have s1 : IntKind.i64.wrap (1 + z i % 8) = (n : Int) := by rw [e1]; exact IntWalk.i64_in _ (by omega)
      have hst0 : At w wr p v (stC x a i n 0) := by rw [stC_zero x a i n n0]; exact HA.out
      have HS0 := Lib.hid hst0
      clear hcell hck HA hst0 hn8
      go_wp2_with fail
      go_loopw [7, 43] (fun at' j' wq => ∃ (j : Nat) (vj : Value), j ≤ n ∧ j' = .int .i64 j ∧ at' = .int .i64 (a + j) ∧ At w wq p vj (stC x a i n j)) (fun _ j' _ => n - (intOf j').toNat)
      case atStart => exact ⟨0, _, Nat.zero_le _, rfl, by simp, HS0.out⟩
      case round =>
        obtain ⟨j, vj, hj, rfl, rfl, hat⟩ := hrel
        clear HS0 hck1
        have HA := Lib.hid hat
        clear hat
        by_cases hjn : j < n
        · obtain ⟨st, hst⟩ : ∃ st, st = decide (j = 0) := ⟨_, rfl⟩
          obtain ⟨ii, hii⟩ : ∃ ii, ii = decide (i = 0) := ⟨_, rfl⟩
          obtain ⟨mk, hmk⟩ : ∃ mk, mk = decide (j + 1 = n) := ⟨_, rfl⟩
          have HP := put_pk x a i n j hjn n8 x0' x1' (by omega) ha (by omega) w p vj wr HA.out
          have hcs : (pk a i n j).cs.toArray = #[.int .i64 (a + j), .int .i64 i, .bool mk, .bool st, .bool (st && ii), .string ⟨#[97, 98, 99]⟩, .int .i64 0] := by rw [hst, hii, hmk]; rfl
          rw [hcs, ← hmk] at HP
          have k1 : ((j : Int) == 0) = st := by rw [hst]; by_cases h : j = 0 <;> simp [h]
          have k2 : ((i : Int) == 0) = ii := by rw [hii]; by_cases h : i = 0 <;> simp [h]
          have k3 : ((j : Int) == (n : Int) - 1) = mk := by
            rw [hmk]
            by_cases h : j + 1 = n
            · have : (j : Int) = (n : Int) - 1 := by omega
              simp [this, h]
            · have h2 : ¬ (j : Int) = (n : Int) - 1 := by omega
              simp [h2, h]
          have HPP := Lib.hid HP
          have HII := Lib.hid hii
          have HMK := Lib.hid hmk
          clear HP hcs hst hii hmk
          go_upto_region 14 with fail
          go_cut [11, 12] (fun v11 v12 wx => ∃ (pf : Nat) (v' : Value) (ao : Option Addr) (c : Nat), v11 = .pointer (some ⟨pf, 0, none⟩) ∧ v12 = .bool mk ∧ At w wx p v' (stC x a i n (j + 1)) ∧ wx.cell? ⟨pf, 0, none⟩ = some (.slice ao (if j + 1 = n then n else 0) c) ∧ (j + 1 = n → Row wx (.slice ao n c) (pks a i n n)))
          case first =>
            cases st <;> cases ii
            all_goals
              simp only [Bool.true_and, Bool.false_and] at HPP
              go_wp2_with fail
              refine HPP.out.mono ?_
              rintro e w3 ⟨v', ao, c', rfl, hat3, hrow⟩
              have hA4 := Lib.hid (hat3.new ((Turns.refl _ _).alloc (.cells #[.slice ao (if j + 1 = n then n else 0) c'] 34)))
              have hR4 : Hid (j + 1 = n → Row (w3.alloc (.cells #[.slice ao (if j + 1 = n then n else 0) c'] 34)) (.slice ao n c') (pks a i n n)) := Lib.hid (fun h => (hrow h).turns ((Turns.refl (fun _ => False) _).alloc _) (fun _ _ h => h))
              have hB4 := Lib.hid (Blk.new w3 #[.slice ao (if j + 1 = n then n else 0) c'] 34)
              clear hat3 hrow
              generalize (if j + 1 = n then n else 0) = L at *
              go_wp2_with fail
              go_meet
              case rel => exact ⟨_, _, _, _, rfl, rfl, hA4.out, hB4.out.cell 0, hR4.out⟩
          case rest =>
            obtain ⟨pf, v', ao, c2, rfl, rfl, hat4, hc4, hr4⟩ := hcut
            have H4 := Lib.hid hat4
            clear HPP hat4
            by_cases hjl : j + 1 = n
            · obtain rfl : mk = true := by rw [HMK.out]; simp [hjl]
              have hr5 := hr4 hjl
              rw [if_pos hjl] at hc4
              have HJ := Lib.hid hjl
              have HT := Lib.hid (fun w h => timeC (.slice ao n c2) (pks a i n n) w h (by rw [pks_len]; omega))
              have HK := Lib.hid (fun w h => keyC (.slice ao n c2) (pks a i n n) w h (by rw [pks_len]; omega))
              have HZ := Lib.hid (fun w h => sizeC (.slice ao n c2) (pks a i n n) w h (by rw [pks_len]; omega) (by rw [pks_size]; omega))
              rw [time_pks a i n n0] at HT
              rw [key_pks a i n n0] at HK
              rw [pks_size] at HZ
              have HR5 := Lib.hid hr5
              rw [← HII.out] at HK
              have hz3 : ((3 * n : Nat) : Int) = 3 * (n : Int) := by omega
              rw [hz3] at HZ
              have s3 : IntKind.i64.wrap (3 * (n : Int)) = 3 * (n : Int) := IntWalk.i64_in _ (by omega)
              have HC4 := Lib.hid hc4
              clear hr4 hr5 hjl HMK HII hz3
              cases ii
              all_goals
                go_wp2_with fail
                refine (HT.out wc HR5.out).mono ?_
                rintro e w5 ⟨rfl, n5⟩
                have R6 := Lib.hid (HR5.out.turns n5 (fun _ _ h => h))
                have H6 := Lib.hid (H4.out.new n5)
                have q6 : w5.cell? ⟨pf, 0, none⟩ = some (.slice ao n c2) := (n5.cell (a := ⟨pf, 0, none⟩) (World.block_lt_of_cell? _ _ HC4.out) (fun h => h)).trans HC4.out
                clear HT HR5 H4 n5 hc4
                go_wp2_with fail
                refine (HK.out w5 R6.out).mono ?_
                rintro e w6 ⟨rfl, n6⟩
                have R7 := Lib.hid (R6.out.turns n6 (fun _ _ h => h))
                have H7 := Lib.hid (H6.out.new n6)
                have q7 : w6.cell? ⟨pf, 0, none⟩ = some (.slice ao n c2) := (n6.cell (a := ⟨pf, 0, none⟩) (World.block_lt_of_cell? _ _ q6) (fun h => h)).trans q6
                clear HK R6 H6 n6 q6
                go_wp2_with fail
                refine (HZ.out w6 R7.out).mono ?_
                rintro e w7 ⟨rfl, n7⟩
                have H8 := Lib.hid (H7.out.new n7)
                clear HZ R7 H7 n7 q7
                go_wp2
                go_roundw
                case rel => exact ⟨j + 1, _, by omega, by go_num, by go_num, H8.out⟩
                case measure => simp [intOf]; omega
            · obtain rfl : mk = false := by rw [HMK.out]; simp [hjl]
              have HJ := Lib.hid hjl
              clear hr4 hc4 hjl HMK HII
              go_wp2
              go_roundw
              case rel => exact ⟨j + 1, _, by omega, by go_num, by go_num, H4.out⟩
              case measure => simp [intOf]; omega
        · obtain rfl : j = n := by omega
          have hlast := HA.out
          rw [stC_last] at hlast
          have HL := Lib.hid hlast
          clear hlast HA
          go_wp2
          go_roundw
          case rel => exact ⟨i + 1, a + j, _, by omega, by omega, by go_num, by go_num, by omega, by omega, by have := HL.out; rw [show ((i + 1 : Nat) : Int) = (i : Int) + 1 by omega]; exact this⟩
          case measure => simp [intOf]; omega
    · have HCnt := Lib.hid (countsC p v _ wr HA.out.m)
      have hmin : (i : Int) = min (N : Int) 30 := by omega
      have hN := Lib.hid HA.out.n
      clear HB HC HA hmin
      by_cases hlt : i < N
      · have h30 : i = 30 := by omega
        subst h30
        have hm : min (N : Int) 30 = 30 := by omega
        go_wp2_with fail
        refine HCnt.out.mono ?_
        rintro e w3 ⟨rfl, n3⟩
        go_wp2
        go_ret
        exact ⟨rfl, (hN.out.trans (n3.mono (fun _ _ h => h.elim))).below (Nat.le_refl _) (fun _ _ h => h.elim)⟩
      · have h30 : i = N := by omega
        subst h30
        have hm : min (i : Int) 30 = i := by omega
        go_wp2_with fail
        refine HCnt.out.mono ?_
        rintro e w3 ⟨rfl, n3⟩
        go_wp2
        go_ret
        exact ⟨rfl, (hN.out.trans (n3.mono (fun _ _ h => h.elim))).below (Nat.le_refl _) (fun _ _ h => h.elim)⟩
end Go.Proofs.Ytmfknefihjjgoaa.frm
