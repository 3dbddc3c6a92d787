/-
  RingEnds: only the last packets are there.
-/
import Derived.Test.YtfdmgloimibioaaRngAwake
import Derived.Test.YtfdmgloimibioaaMask
namespace Go.Proofs.Ytfdmgloimibioaa.rng
open Go.RowKit mem Go.Maps
set_option linter.unusedVariables false

def chS (k : Nat) : ByteArray := ⟨#[UInt8.ofNat (97 + k)]⟩
theorem chr_is (k : Nat) (hk : k < 26) (w : World) : (Go.convert 21 9 (.int .i32 (97 + (k : Int)))).run Try.prog w = .ok (.string (chS k)) w := by
  have h : k = 0 ∨ k = 1 ∨ k = 2 ∨ k = 3 ∨ k = 4 ∨ k = 5 ∨ k = 6 ∨ k = 7 ∨ k = 8 ∨ k = 9 ∨ k = 10 ∨ k = 11 ∨ k = 12 ∨ k = 13 ∨ k = 14 ∨ k = 15 ∨ k = 16 ∨ k = 17 ∨ k = 18 ∨ k = 19 ∨ k = 20 ∨ k = 21 ∨ k = 22 ∨ k = 23 ∨ k = 24 ∨ k = 25 := by omega
  rcases h with rfl | rfl | rfl | rfl | rfl | rfl | rfl | rfl | rfl | rfl | rfl | rfl | rfl | rfl | rfl | rfl | rfl | rfl | rfl | rfl | rfl | rfl | rfl | rfl | rfl | rfl
  all_goals (show _ = _; kernel_rfl)

def pk (i : Nat) : P := ⟨i, chS (i % 26), 0, 0⟩
def Lk (size k : Nat) : List P := (List.range' (k - size) (min k size)).map pk
def rk (size : Nat) (most gap : Int) (k : Nat) : R := ⟨size, (k - size) % size, most, gap, Lk size k, 0⟩
theorem rk_zero (size : Nat) (most gap : Int) : rk size most gap 0 = fresh size most gap := by simp [rk, fresh, Lk]
theorem Lk_len (size k : Nat) : (Lk size k).length = min k size := by simp [Lk]
theorem putR_rk (size : Nat) (most gap : Int) (k : Nat) (hs : 0 < size) : putR (rk size most gap k) k (chS (k % 26)) = rk size most gap (k + 1) := by
  have hL : (rk size most gap k).L = Lk size k := rfl
  have hz : (rk size most gap k).size = size := rfl
  unfold putR
  rw [hL, hz, Lk_len]
  by_cases h : k < size
  · rw [if_pos (by omega)]
    have e1 : Lk size k ++ [pk k] = Lk size (k + 1) := by
      unfold Lk
      rw [show k - size = 0 by omega, show min k size = k by omega, show k + 1 - size = 0 by omega, show min (k + 1) size = k + 1 by omega, List.range'_concat]
      simp
    show (⟨size, (k - size) % size, most, gap, Lk size k ++ [pk k], 0⟩ : R) = _
    rw [e1]
    unfold rk
    rw [show k - size = 0 by omega, show k + 1 - size = 0 by omega]
  · rw [if_neg (by omega)]
    have e1 : (Lk size k).tail ++ [pk k] = Lk size (k + 1) := by
      unfold Lk
      obtain ⟨m, rfl⟩ : ∃ m, size = m + 1 := ⟨size - 1, by omega⟩
      rw [show min k (m + 1) = m + 1 by omega, show min (k + 1) (m + 1) = m + 1 by omega, List.range'_succ, List.map_cons, List.tail_cons, List.range'_concat, List.map_append, show k - (m + 1) + 1 = k + 1 - (m + 1) by omega]
      simp
      congr 1
      omega
    show (⟨size, ((k - size) % size + 1) % size, most, gap, (Lk size k).tail ++ [pk k], 0⟩ : R) = _
    rw [e1]
    unfold rk
    rw [Nat.mod_add_mod, show k - size + 1 = k + 1 - size by omega]
theorem lastIdx_range (a m n : Nat) : lastIdx ((List.range' a m).map pk) (n : Int) = if a ≤ n ∧ n < a + m then some (n - a) else none := by
  induction m with
  | zero => rw [if_neg (by omega)]; rfl
  | succ m ih =>
    rw [List.range'_concat, List.map_append, List.map_cons, List.map_nil, lastIdx_snoc, ih]
    simp only [pk, List.length_map, List.length_range', Nat.one_mul]
    by_cases e : a + m = n
    · subst e
      rw [if_pos rfl, if_pos (by omega)]
      congr 1; omega
    · rw [if_neg (by omega)]
      by_cases h2 : a ≤ n ∧ n < a + m
      · rw [if_pos h2, if_pos (by omega)]
      · rw [if_neg h2, if_neg (by omega)]
/-- what is there of number i, after n calls -/
theorem find_rk (size n i : Nat) (hi : i < n) : (i + size < n → lastIdx (Lk size n) (i : Int) = none) ∧ (n ≤ i + size → ∃ j, lastIdx (Lk size n) (i : Int) = some j ∧ (Lk size n)[j]? = some (pk i)) := by
  unfold Lk
  rw [lastIdx_range]
  refine ⟨fun h => by rw [if_neg (by omega)], fun h => ?_⟩
  rw [if_pos (by omega)]
  refine ⟨_, rfl, ?_⟩
  rw [List.getElem?_map, List.getElem?_range' (by omega)]
  simp
  congr 1
  omega

/-! ### asked for again and again -/
def stepA (most gap : Int) (t : Int) (s : Int × Int) : Int × Int := if most ≤ s.1 ∨ (0 < s.1 ∧ t - s.2 < gap) then s else (s.1 + 1, t)
def simA (most gap : Int) : Nat → Int × Int
  | 0 => (0, 0)
  | t + 1 => stepA most gap t (simA most gap t)
def simOk (most gap : Int) : Bool := decide ((simA most gap 40).1 = most)
theorem sim_all : ((List.range 4).all fun m => (List.range 8).all fun g => simOk m g) = true := by decide +kernel
theorem sim_ok (most gap : Int) (m0 : 0 ≤ most) (m1 : most < 4) (g0 : 0 ≤ gap) (g1 : gap < 8) : (simA most gap 40).1 = most := by
  have h := List.all_eq_true.1 sim_all most.toNat (by simp; omega)
  have h2 := List.all_eq_true.1 h gap.toNat (by simp; omega)
  rw [show ((most.toNat : Nat) : Int) = most by omega, show ((gap.toNat : Nat) : Int) = gap by omega] at h2
  simpa [simOk] using h2
theorem sim_bd (most gap : Int) (m0 : 0 ≤ most) (t : Nat) : 0 ≤ (simA most gap t).1 ∧ (simA most gap t).1 ≤ most ∧ 0 ≤ (simA most gap t).2 ∧ (simA most gap t).2 ≤ t := by
  induction t with
  | zero => exact ⟨Int.le_refl 0, m0, Int.le_refl 0, Int.le_refl 0⟩
  | succ t ih =>
    unfold simA stepA
    split
    · omega
    · rename_i h
      refine ⟨?_, ?_, ?_, ?_⟩ <;> dsimp only <;> omega

/-- the ring while its last packet is asked for -/
def rs (r : R) (T : List P) (n : Nat) (c a : Int) : R := { r with L := T ++ [{ pk n with g := c, a := a }], sent := c }
theorem rs_again (r : R) (T : List P) (n : Nat) (c a t : Int) : findR (rs r T n c a) n = some { pk n with g := c, a := a } ∧ lastIdx (rs r T n c a).L n = some T.length := by
  have h : lastIdx (rs r T n c a).L n = some T.length := by
    show lastIdx (T ++ [{ pk n with g := c, a := a }]) _ = _
    rw [lastIdx_snoc]; simp [pk]
  refine ⟨?_, h⟩
  unfold findR
  rw [h]
  show (T ++ [_])[T.length]? = _
  rw [List.getElem?_append_right (Nat.le_refl _)]; simp
theorem rs_step (r : R) (T : List P) (n : Nat) (c a t : Int) :
    (r.most ≤ c ∨ (0 < c ∧ t - a < r.gap) → againE (rs r T n c a) n t ≠ 0 ∧ againR (rs r T n c a) n t = rs r T n c a) ∧
    (¬ (r.most ≤ c ∨ (0 < c ∧ t - a < r.gap)) → againE (rs r T n c a) n t = 0 ∧ againR (rs r T n c a) n t = rs r T n (c + 1) t) := by
  obtain ⟨h1, h2⟩ := rs_again r T n c a t
  have hx : (rs r T n c a).L[T.length]? = some { pk n with g := c, a := a } := by
    show (T ++ [_])[T.length]? = _
    rw [List.getElem?_append_right (Nat.le_refl _)]; simp
  have hm : (rs r T n c a).most = r.most := rfl
  have hsoon : tooSoon (rs r T n c a) { pk n with g := c, a := a } t = (decide (0 < c) && decide (t - a < r.gap)) := rfl
  refine ⟨fun h => ?_, fun h => ?_⟩
  · unfold againE againR
    rw [h1, h2]
    simp only [hx]
    by_cases hf : r.most ≤ c
    · simp [hm, hf]
    · have hs : (decide (0 < c) && decide (t - a < r.gap)) = true := by simp; omega
      simp [hm, hf, hsoon, hs]
  · have hf : ¬ r.most ≤ c := fun e => h (.inl e)
    have hs : ¬ (decide (0 < c) && decide (t - a < r.gap)) = true := by simp; omega
    unfold againE againR
    rw [h1, h2]
    simp only [hx]
    refine ⟨by simp only [hm, hsoon]; rw [if_neg hf, if_neg hs], ?_⟩
    simp only [hm, hsoon]
    rw [if_neg hf, if_neg hs]
    unfold rs
    simp
theorem Lk_last (size n : Nat) (hs : 0 < size) (hn : 0 < n) : ∃ T, Lk size n = T ++ [pk (n - 1)] := by
  obtain ⟨m, hm⟩ : ∃ m, min n size = m + 1 := ⟨min n size - 1, by omega⟩
  refine ⟨(List.range' (n - size) m).map pk, ?_⟩
  unfold Lk
  rw [hm, List.range'_concat, List.map_append]
  simp
  congr 1
  omega

set_option maxHeartbeats 4000000 in
set_option maxRecDepth 100000 in
theorem ends_law (a0 a1 a2 a3 : Int) (w : World) (h0 : -9223372036854775808 ≤ a0) (h0' : a0 ≤ 9223372036854775807) (h1 : -9223372036854775808 ≤ a1) (h1' : a1 ≤ 9223372036854775807) (h2 : -9223372036854775808 ≤ a2) (h2' : a2 ≤ 9223372036854775807) (h3 : -9223372036854775808 ≤ a3) (h3' : a3 ≤ 9223372036854775807) :
    Calls Try.prog 6 #[.int .i64 a0, .int .i64 a1, .int .i64 a2, .int .i64 a3] w fun e w' => e = .returned (.bool true) ∧ Below w.heap.size w w' := by
  have M0 := mask.mask4 a0
  have M1 := mask.mask5 a1
  have M2 := mask.mask2 a2
  have M3 := mask.mask3 a3
  obtain ⟨z, hz⟩ : ∃ z : Nat, a0 % 16 = z := ⟨(a0 % 16).toNat, by omega⟩
  obtain ⟨n, hn⟩ : ∃ n : Nat, a1 % 32 = n := ⟨(a1 % 32).toNat, by omega⟩
  have hz1 : z < 16 := by omega
  have hn1 : n < 32 := by omega
  obtain ⟨m, hm⟩ : ∃ m : Int, a2 % 4 = m := ⟨_, rfl⟩
  obtain ⟨gp, hgp⟩ : ∃ g : Int, a3 % 8 = g := ⟨_, rfl⟩
  have m0 : 0 ≤ m := by omega
  have m1 : m < 4 := by omega
  have g0 : 0 ≤ gp := by omega
  have g1 : gp < 8 := by omega
  rw [hz] at M0
  rw [hn] at M1
  rw [hm] at M2
  rw [hgp] at M3
  clear hz hn hm hgp
  obtain ⟨Z, hZ⟩ : ∃ Z : Nat, Z = z + 1 := ⟨_, rfl⟩
  have hs1 : IntKind.i64.wrap (1 + (z : Int)) = (Z : Int) := by rw [IntWalk.i64_in _ (by omega)]; omega
  have hZ0 : 0 < Z := by omega
  have hZ1 : Z ≤ 16 := by omega
  clear hZ
  have HN := Lib.hid (fun w => new Z m gp w (by omega) (by omega) (by omega) (by omega) (by omega) (by omega))
  have HA := Lib.hid (fun w => awake w)
  go_enter Try.func6, Try.ntmps6
  go_wp2_with fail
  refine (HN.out _).mono ?_
  rintro e w1 ⟨rfl, hr, n1⟩
  have H1 := Lib.hid (Own.made hr n1)
  clear hr n1 HN
  generalize w.heap.size + 1 = p at *
  obtain ⟨bm, hbm⟩ : ∃ bm, bm = w.heap.size := ⟨_, rfl⟩
  rw [← hbm] at H1
  clear hbm
  go_wp2_with fail
  refine (HA.out _).mono ?_
  rintro e w2 ⟨rfl, n2⟩
  have H2 := Lib.hid (H1.out.later n2)
  clear H1 n2 HA hs1 M0 M1 M2 M3
  go_wp2_with fail
  go_loopw [43] (fun i wr => ∃ k : Nat, ∃ pv : Value, k ≤ n ∧ i = .int .i64 k ∧ Own w wr p bm pv k (rk Z m gp k)) (fun i _ => n - (intOf i).toNat)
  case atStart => exact ⟨0, _, Nat.zero_le _, rfl, by rw [rk_zero]; exact H2.out⟩
  case round =>
    obtain ⟨k, pv, hk, rfl, ho⟩ := hrel
    have HO := Lib.hid ho
    clear ho H2
    by_cases hlt : k < n
    · have HP := Lib.hid (put_is p bm pv k (rk Z m gp k) k (chS (k % 26)) (rk Z m gp (k + 1)) (putR_rk Z m gp k hZ0) wr HO.out.rg (by omega) (by omega) (by omega))
      have hch : (Go.convert 21 9 (.int .i32 (97 + (k : Int) % 26))).run Try.prog wr = .ok (.string (chS (k % 26))) wr := chr_is (k % 26) (Nat.mod_lt _ (by decide)) wr
      go_wp2_with fail
      refine HP.out.mono ?_
      rintro e w3 ⟨rfl, h3⟩
      obtain ⟨pv', h3⟩ := HO.out.put h3
      have H3 := Lib.hid h3
      clear h3
      go_wp2_with fail
      go_roundw
      case rel => exact ⟨k + 1, _, by omega, by go_num, H3.out⟩
      case measure => simp [intOf]; omega
    · obtain rfl : k = n := by omega
      clear hlt
      go_wp2_with fail
      go_loopw [57] (fun i wr => ∃ j : Nat, j ≤ k ∧ i = .int .i64 j ∧ Own w wr p bm pv k (rk Z m gp k)) (fun i _ => k - (intOf i).toNat)
      case atStart => exact ⟨0, Nat.zero_le _, rfl, HO.out⟩
      case round =>
        obtain ⟨j, hj, rfl, ho⟩ := hrel
        have HO2 := Lib.hid ho
        clear ho HO
        by_cases hlt : j < k
        · obtain ⟨f1, f2⟩ := find_rk Z k j hlt
          have hch : (Go.convert 21 9 (.int .i32 (97 + (j : Int) % 26))).run Try.prog wr = .ok (.string (chS (j % 26))) wr := chr_is (j % 26) (Nat.mod_lt _ (by decide)) wr
          by_cases hin : k ≤ j + Z
          · obtain ⟨i, fa, fb⟩ := f2 hin
            have HG : Hid (Calls Try.prog 19 #[.pointer (some ⟨p, 0, none⟩), .int .u16 j] wr fun e w' => e = .returned (.tuple #[.string (chS (j % 26)), .bool true]) ∧ wr = w') := Lib.hid (get_some p bm pv k (rk Z m gp k) j i (pk j) wr HO2.out.rg (by omega) (by omega) fa fb)
            have hin2 : (k : Int) - (Z : Int) ≤ (j : Int) := by omega
            clear f1 f2 fa fb
            go_wp2_with fail
            refine HG.out.mono ?_
            rintro e w3 ⟨rfl, rfl⟩
            have hsame : ((chS (j % 26)).toList == (chS (j % 26)).toList) = true := by simp
            go_wp2_with fail
            go_roundw
            case rel => exact ⟨j + 1, by omega, by go_num, HO2.out⟩
            case measure => simp [intOf]; omega
          · have HG := Lib.hid (get_none p bm pv k (rk Z m gp k) j wr HO2.out.rg (by omega) (by omega) (f1 (by omega)))
            have hin2 : ¬ (k : Int) - (Z : Int) ≤ (j : Int) := by omega
            clear f1 f2
            go_wp2_with fail
            refine HG.out.mono ?_
            rintro e w3 ⟨rfl, rfl⟩
            go_wp2_with fail
            go_roundw
            case rel => exact ⟨j + 1, by omega, by go_num, HO2.out⟩
            case measure => simp [intOf]; omega
        · obtain rfl : j = k := by omega
          clear hlt hk hj
          by_cases h0 : j = 0
          · subst h0
            have HL := Lib.hid (len p bm pv 0 (rk Z m gp 0) wr HO2.out.rg)
            have hl0 : (rk Z m gp 0).L.length = 0 := by show (Lk Z 0).length = 0; rw [Lk_len]; omega
            rw [hl0] at HL
            clear hl0
            go_wp2_with fail
            refine HL.out.mono ?_
            rintro e w3 ⟨rfl, rfl⟩
            go_wp2
            go_ret
            exact ⟨rfl, HO2.out.n.below (Nat.le_refl _) (fun _ _ h => h.elim)⟩
          · obtain ⟨T, hT⟩ := Lk_last Z j hZ0 (by omega)
            have hr0 : rk Z m gp j = rs (rk Z m gp j) T (j - 1) 0 0 := by
              show rk Z m gp j = { rk Z m gp j with L := T ++ [pk (j - 1)], sent := 0 }
              rw [← hT]; rfl
            have HO3 : Hid (Own w wr p bm pv j (rs (rk Z m gp j) T (j - 1) 0 0)) := Lib.hid (by rw [← hr0]; exact HO2.out)
            have hj1 : ((j - 1 : Nat) : Int) = (j : Int) - 1 := by omega
            have hjb : ((j : Int) == 0) = false := by simp; omega
            have hjp : (1 : Int) ≤ (j : Int) := by omega
            have HJ1 := Lib.hid hj1
            have HSIM := Lib.hid (sim_ok m gp m0 m1 g0 g1)
            have HBD := Lib.hid (sim_bd m gp m0)
            clear hT hr0 HO2 hj1 h0
            go_wp2_with fail
            go_loopw [15, 16, 92] (fun c l i wr => ∃ t : Nat, t ≤ 40 ∧ i = .int .i64 t ∧ c = .int .i64 (simA m gp t).1 ∧ l = .int .i64 (simA m gp t).2 ∧ Own w wr p bm pv j (rs (rk Z m gp j) T (j - 1) (simA m gp t).1 (simA m gp t).2)) (fun _ _ i _ => 40 - (intOf i).toNat)
            case atStart => exact ⟨0, by omega, rfl, rfl, rfl, HO3.out⟩
            case round =>
              obtain ⟨t, ht, rfl, rfl, rfl, ho⟩ := hrel
              have HO4 := Lib.hid ho
              clear ho HO3 hjb
              have hbd := HBD.out t
              obtain ⟨b0, b1, b2, b3⟩ := hbd
              have hst := rs_step (rk Z m gp j) T (j - 1) (simA m gp t).1 (simA m gp t).2 t
              have HSU : Hid (simA m gp (t + 1) = stepA m gp t (simA m gp t)) := Lib.hid rfl
              by_cases hlt : t < 40
              · have HAG := Lib.hid (again p bm pv j (rs (rk Z m gp j) T (j - 1) (simA m gp t).1 (simA m gp t).2) ((j - 1 : Nat) : Int) t wr HO4.out.rg (by omega) (by omega) (by omega) (by omega) (by show (simA m gp t).1 < _; omega))
                have hmost : (rk Z m gp j).most = m := rfl
                have hgap : (rk Z m gp j).gap = gp := rfl
                rw [hmost, hgap] at hst
                clear hmost hgap
                by_cases hs : m ≤ (simA m gp t).1 ∨ (0 < (simA m gp t).1 ∧ (t : Int) - (simA m gp t).2 < gp)
                · obtain ⟨e1, e2⟩ := hst.1 hs
                  rw [e2, HJ1.out] at HAG
                  rw [HJ1.out] at e1
                  have hsn : Hid (simA m gp (t + 1) = simA m gp t) := Lib.hid (by rw [HSU.out]; unfold stepA; rw [if_pos hs])
                  generalize againS (rs (rk Z m gp j) T (j - 1) (simA m gp t).1 (simA m gp t).2) ((j : Int) - 1) t = ss at *
                  generalize againE (rs (rk Z m gp j) T (j - 1) (simA m gp t).1 (simA m gp t).2) ((j : Int) - 1) t = ee at *
                  have hee : (ee == 0) = false := by simpa using e1
                  clear e1 e2 hs hst HSU
                  go_wp2_with fail
                  refine HAG.out.mono ?_
                  rintro e w3 ⟨rfl, h3⟩
                  have H3 := Lib.hid (HO4.out.left h3)
                  clear h3
                  go_wp2_with fail
                  go_roundw
                  case rel => exact ⟨t + 1, by omega, by go_num, by rw [hsn.out], by rw [hsn.out], by rw [hsn.out]; exact H3.out⟩
                  case measure => simp [intOf]; omega
                · obtain ⟨e1, e2⟩ := hst.2 hs
                  rw [e2, HJ1.out] at HAG
                  rw [HJ1.out] at e1
                  rw [e1] at HAG
                  have hsn : Hid (simA m gp (t + 1) = ((simA m gp t).1 + 1, (t : Int))) := Lib.hid (by rw [HSU.out]; unfold stepA; rw [if_neg hs])
                  generalize againS (rs (rk Z m gp j) T (j - 1) (simA m gp t).1 (simA m gp t).2) ((j : Int) - 1) t = ss at *
                  have hcl : ¬ (0 < (simA m gp t).1 ∧ (t : Int) - (simA m gp t).2 < gp) := fun e => hs (.inr e)
                  clear e1 e2 hs hst HSU
                  generalize (simA m gp t).1 = c at *
                  generalize (simA m gp t).2 = l at *
                  by_cases hc0 : 0 < c
                  · have hlg : ¬ (t : Int) - l < gp := fun e => hcl ⟨hc0, e⟩
                    clear hcl
                    go_wp2_with fail
                    refine HAG.out.mono ?_
                    rintro e w3 ⟨rfl, h3⟩
                    have H3 := Lib.hid (HO4.out.left h3)
                    clear h3
                    go_wp2_with fail
                    go_roundw
                    case rel => exact ⟨t + 1, by omega, by go_num, by rw [hsn.out], by rw [hsn.out], by rw [hsn.out]; exact H3.out⟩
                    case measure => simp [intOf]; omega
                  · have hc1 : decide (0 < c) = false := by simpa using hc0
                    clear hcl
                    go_wp2_with fail
                    refine HAG.out.mono ?_
                    rintro e w3 ⟨rfl, h3⟩
                    have H3 := Lib.hid (HO4.out.left h3)
                    clear h3
                    go_wp2_with fail
                    go_roundw
                    case rel => exact ⟨t + 1, by omega, by go_num, by rw [hsn.out], by rw [hsn.out], by rw [hsn.out]; exact H3.out⟩
                    case measure => simp [intOf]; omega
              · obtain rfl : t = 40 := by omega
                have HSN := Lib.hid (sent p bm pv j (rs (rk Z m gp j) T (j - 1) (simA m gp 40).1 (simA m gp 40).2) wr HO4.out.rg)
                have hse : (rs (rk Z m gp j) T (j - 1) (simA m gp 40).1 (simA m gp 40).2).sent = m := HSIM.out
                rw [hse] at HSN
                rw [HSIM.out]
                clear hse hst HSU b0 b1 b2 b3
                go_wp2_with fail
                refine HSN.out.mono ?_
                rintro e w3 ⟨rfl, rfl⟩
                go_wp2
                go_ret
                exact ⟨rfl, HO4.out.n.below (Nat.le_refl _) (fun _ _ h => h.elim)⟩
end Go.Proofs.Ytfdmgloimibioaa.rng
