/-
  stall.New; 'awake' of layer 22; StallMay.
-/
import Derived.Test.YtjiodpbgjhoakaaStlSeq
namespace Go.Proofs.Ytjiodpbgjhoakaa.stl
open Go.RowKit mem
set_option linter.unusedVariables false

theorem new_bad (a b : Int) (w : World) (h : ¬ Va a b) :
    Calls Try.prog 25 #[.agg (cfg a b)] w fun e w' => e = .returned (.tuple #[.pointer none, .int .i64 5]) ∧ New w w' := by
  have hb : Blk (w.alloc (.cells (cfg a b) CT)) w.heap.size (cfg a b) CT := Blk.new _ _ _
  have c0 : (w.alloc (.cells (cfg a b) CT)).cell? ⟨w.heap.size, 0, none⟩ = some (.int .i64 a) := hb.cell 0
  have c1 : (w.alloc (.cells (cfg a b) CT)).cell? ⟨w.heap.size, 1, none⟩ = some (.int .i64 b) := hb.cell 1
  have HC := Lib.hid (check_bad a b (w.alloc (.cells (cfg a b) CT)) h)
  have HN : Hid (New w (w.alloc (.cells (cfg a b) CT))) := Lib.hid ((Turns.refl _ _).alloc _)
  clear hb h
  go_enter Try.func25, Try.ntmps25
  go_wp2_with fail
  refine HC.out.mono ?_
  rintro e w1 ⟨rfl, n1⟩
  have HN1 : Hid (New w w1) := Lib.hid (HN.out.trans (n1.mono (fun _ _ h => h.elim)))
  clear n1
  go_wp2
  go_ret2
  exact ⟨rfl, HN1.out⟩
/-- a dog that was made here -/
structure Own (w w' : World) (p : Nat) (s : Q) : Prop where
  sq : Sq w' p s
  n : New w w'
  p0 : w.heap.size ≤ p
theorem Own.at_ {w w1 w2 : World} {p : Nat} {s t : Q} (h : Own w w1 p s) (k : At w1 w2 p t) : Own w w2 p t :=
  ⟨k.1, h.n.trans (k.2.mono (fun i _ hi => .inr (by have := h.p0; omega))), h.p0⟩
theorem Own.later {w w1 w2 : World} {p : Nat} {s : Q} (h : Own w w1 p s) (n : New w1 w2) : Own w w2 p s :=
  ⟨h.sq.turns n (fun h => h), h.n.trans (n.mono (fun _ _ h => h.elim)), h.p0⟩
theorem Own.drew {w w1 : World} {p : Nat} {s : Q} (h : Own w w1 p s) : Own w w1.drew p s := h.later ((Turns.refl _ _).drew)
theorem Own.below {w w' : World} {p : Nat} {s : Q} (h : Own w w' p s) : Below w.heap.size w w' := h.n.below (Nat.le_refl _) (fun _ _ h => h.elim)

theorem new_ok (a b : Int) (w : World) (h : Va a b) :
    Calls Try.prog 25 #[.agg (cfg a b)] w fun e w' => ∃ p, e = .returned (.tuple #[.pointer (some ⟨p, 0, none⟩), .int .i64 0]) ∧ Own w w' p (fresh a b) := by
  have hb : Blk (w.alloc (.cells (cfg a b) CT)) w.heap.size (cfg a b) CT := Blk.new _ _ _
  have c0 : (w.alloc (.cells (cfg a b) CT)).cell? ⟨w.heap.size, 0, none⟩ = some (.int .i64 a) := hb.cell 0
  have c1 : (w.alloc (.cells (cfg a b) CT)).cell? ⟨w.heap.size, 1, none⟩ = some (.int .i64 b) := hb.cell 1
  have HB := Lib.hid hb
  have HC := Lib.hid (check_ok a b (w.alloc (.cells (cfg a b) CT)) h)
  have HN : Hid (New w (w.alloc (.cells (cfg a b) CT))) := Lib.hid ((Turns.refl _ _).alloc _)
  clear hb h
  go_enter Try.func25, Try.ntmps25
  go_wp2_with fail
  refine HC.out.mono ?_
  rintro e w1 ⟨rfl, n1⟩
  have HN1 : Hid (New w w1) := Lib.hid (HN.out.trans (n1.mono (fun _ _ h => h.elim)))
  have hb1 := n1.blk HB.out (fun h => h)
  clear c0 c1 n1 HC
  have c0 : w1.cell? ⟨w.heap.size, 0, none⟩ = some (.int .i64 a) := hb1.cell 0
  have c1 : w1.cell? ⟨w.heap.size, 1, none⟩ = some (.int .i64 b) := hb1.cell 1
  have HS : Hid (Sq (w1.alloc (.cells (fresh a b).cells 83)) w1.heap.size (fresh a b)) := Lib.hid (Blk.new _ _ _)
  clear hb1 HB
  go_wp2
  go_ret2
  exact ⟨_, rfl, HS.out, HN1.out.alloc _, HN1.out.size⟩

/-- the state of 'awake' after k ticks -/
def aw : Nat → Q
  | 0 => fresh 3 5
  | k + 1 => tickQ (aw k) k true false
def okB (s : Q) : Bool := decide (1 ≤ s.after) && decide (s.after ≤ 1099511627776) && decide (1 ≤ s.rest) && decide (s.rest ≤ 1099511627776) && decide (0 ≤ s.since) && decide (s.since ≤ 4398046511104) && decide (0 ≤ s.times) && decide (s.times ≤ 1048576)
theorem okB_ok {s : Q} (h : okB s = true) : s.ok := by
  simp only [okB, Bool.and_eq_true, decide_eq_true_eq] at h
  obtain ⟨⟨⟨⟨⟨⟨⟨h1, h2⟩, h3⟩, h4⟩, h5⟩, h6⟩, h7⟩, h8⟩ := h
  exact ⟨h1, h2, h3, h4, h5, h6, h7, h8⟩
theorem aw_all : (List.range 9).all (fun k => okB (aw k) && decide (tickA (aw k) k true false = if k = 3 then 1 else if k = 8 then 2 else 0)) = true := by decide +kernel
theorem aw_ok (k : Nat) (hk : k < 9) : (aw k).ok ∧ tickA (aw k) k true false = if k = 3 then 1 else if k = 8 then 2 else 0 := by
  have h := List.all_eq_true.1 aw_all k (List.mem_range.2 (by omega))
  simp only [Bool.and_eq_true, decide_eq_true_eq] at h
  exact ⟨okB_ok h.1, h.2⟩
theorem aw_end : (aw 9).times = 1 := by decide +kernel

theorem awake (w : World) :
    Calls Try.prog 26 #[] w fun e w' => e = .returned (.bool true) ∧ New w w' := by
  have HN := Lib.hid (new_ok 3 5 w (by decide))
  have HE := Lib.hid aw_end
  go_enter Try.func26, Try.ntmps26
  go_wp2_with fail
  refine HN.out.mono ?_
  rintro e w1 ⟨p, rfl, o1⟩
  have HO1 := Lib.hid o1
  clear HN o1
  go_wp2_with fail
  go_loopw [16] (fun i wr => ∃ k : Nat, k ≤ 9 ∧ i = .int .i64 k ∧ Own w wr p (aw k)) (fun i _ => 9 - (intOf i).toNat)
  case atStart => exact ⟨0, by omega, rfl, HO1.out⟩
  case round =>
    obtain ⟨k, hk, rfl, h3⟩ := hrel
    clear HO1
    have H3 := Lib.hid h3
    clear h3
    by_cases hgo : k < 9
    · obtain ⟨hok, ha⟩ := aw_ok k hgo
      have HT := Lib.hid (tick p (aw k) (k : Int) true false wr H3.out.sq hok (by omega) (by omega))
      rw [ha] at HT
      have HK : Hid (aw (k + 1) = tickQ (aw k) k true false) := Lib.hid rfl
      clear hok ha
      have d1 : decide ((k : Int) < 9) = true := decide_eq_true (by omega)
      have hc : k = 3 ∨ k = 8 ∨ (k ≠ 3 ∧ k ≠ 8) := by omega
      rcases hc with h | h | ⟨h, h'⟩
      · have e1 : ((k : Int) == 3) = true := by simp; omega
        have e2 : ((k : Int) == 8) = false := by simp; omega
        rw [if_pos h] at HT
        clear h
        go_wp2_with fail
        refine HT.out.mono ?_
        rintro e w3 ⟨rfl, a3⟩
        have H4 : Hid (Own w w3 p (aw (k + 1))) := Lib.hid (by rw [HK.out]; exact H3.out.at_ a3)
        clear HT H3 a3 HK
        go_wp2
        go_roundw
        case rel => exact ⟨k + 1, by omega, by go_num, H4.out⟩
        case measure => simp [intOf]; omega
      · have e1 : ((k : Int) == 3) = false := by simp; omega
        have e2 : ((k : Int) == 8) = true := by simp; omega
        rw [if_neg (by omega), if_pos h] at HT
        clear h
        go_wp2_with fail
        refine HT.out.mono ?_
        rintro e w3 ⟨rfl, a3⟩
        have H4 : Hid (Own w w3 p (aw (k + 1))) := Lib.hid (by rw [HK.out]; exact H3.out.at_ a3)
        clear HT H3 a3 HK
        go_wp2
        go_roundw
        case rel => exact ⟨k + 1, by omega, by go_num, H4.out⟩
        case measure => simp [intOf]; omega
      · have e1 : ((k : Int) == 3) = false := by simp; omega
        have e2 : ((k : Int) == 8) = false := by simp; omega
        rw [if_neg h, if_neg h'] at HT
        clear h h'
        go_wp2_with fail
        refine HT.out.mono ?_
        rintro e w3 ⟨rfl, a3⟩
        have H4 : Hid (Own w w3 p (aw (k + 1))) := Lib.hid (by rw [HK.out]; exact H3.out.at_ a3)
        clear HT H3 a3 HK
        go_wp2
        go_roundw
        case rel => exact ⟨k + 1, by omega, by go_num, H4.out⟩
        case measure => simp [intOf]; omega
    · obtain rfl : k = 9 := by omega
      have HT := Lib.hid (times p _ wr H3.out.sq)
      rw [HE.out] at HT
      go_wp2_with fail
      refine HT.out.mono ?_
      rintro e w3 ⟨rfl, rfl⟩
      go_wp2
      go_ret
      exact ⟨rfl, H3.out.n⟩

theorem may_law (a b : Int) (w : World) (a0 : -9223372036854775808 ≤ a) (a1 : a ≤ 9223372036854775807) (b0 : -9223372036854775808 ≤ b) (b1 : b ≤ 9223372036854775807) :
    Calls Try.prog 10 #[.int .i64 a, .int .i64 b] w fun e w' => e = .returned (.bool true) ∧ Below w.heap.size w w' := by
  have HA := Lib.hid (fun w => awake w)
  by_cases h : Va a b
  · have HN := Lib.hid (new_ok a b w h)
    have d1 : decide (1 ≤ a) = true := decide_eq_true h.1
    have d2 : decide (a ≤ 1099511627776) = true := decide_eq_true h.2.1
    have d3 : decide (1 ≤ b) = true := decide_eq_true h.2.2.1
    have d4 : decide (b ≤ 1099511627776) = true := decide_eq_true h.2.2.2
    clear h
    go_enter Try.func10, Try.ntmps10
    go_wp2_with fail
    refine HN.out.mono ?_
    rintro e w1 ⟨p, rfl, o1⟩
    have N1 := Lib.hid o1.n
    clear o1 HN
    go_wp2_with fail
    refine (HA.out _).mono ?_
    rintro e w2 ⟨rfl, n2⟩
    have N2 := Lib.hid (N1.out.trans (n2.mono (fun _ _ h => h.elim)))
    clear n2 N1
    go_wp2
    go_ret
    exact ⟨rfl, N2.out.below (Nat.le_refl _) (fun _ _ h => h.elim)⟩
  · have HN := Lib.hid (new_bad a b w h)
    have hc : ¬ 1 ≤ a ∨ (1 ≤ a ∧ ¬ a ≤ 1099511627776) ∨ (1 ≤ a ∧ a ≤ 1099511627776 ∧ ¬ 1 ≤ b) ∨ (1 ≤ a ∧ a ≤ 1099511627776 ∧ 1 ≤ b ∧ ¬ b ≤ 1099511627776) := by
      unfold Va at h; omega
    clear h
    rcases hc with h | ⟨h1, h⟩ | ⟨h1, h2, h⟩ | ⟨h1, h2, h3, h⟩
    all_goals
      try (have d1 : decide (1 ≤ a) = false := decide_eq_false (by assumption))
      try (have d1 : decide (1 ≤ a) = true := decide_eq_true (by assumption))
      try (have d2 : decide (a ≤ 1099511627776) = false := decide_eq_false (by assumption))
      try (have d2 : decide (a ≤ 1099511627776) = true := decide_eq_true (by assumption))
      try (have d3 : decide (1 ≤ b) = false := decide_eq_false (by assumption))
      try (have d3 : decide (1 ≤ b) = true := decide_eq_true (by assumption))
      try (have d4 : decide (b ≤ 1099511627776) = false := decide_eq_false (by assumption))
      clear h
      go_enter Try.func10, Try.ntmps10
      go_wp2_with fail
      refine HN.out.mono ?_
      rintro e w1 ⟨rfl, n1⟩
      have N1 := Lib.hid n1
      clear n1 HN
      go_wp2_with fail
      refine (HA.out _).mono ?_
      rintro e w2 ⟨rfl, n2⟩
      have N2 := Lib.hid (N1.out.trans (n2.mono (fun _ _ h => h.elim)))
      clear n2 N1
      go_wp2
      go_ret
      exact ⟨rfl, N2.out.below (Nat.le_refl _) (fun _ _ h => h.elim)⟩
end Go.Proofs.Ytjiodpbgjhoakaa.stl
