/-
  PliBackoff, PliAgain: the laws.
-/
import Derived.Test.YtjiodpbgjhoakaaPliAwake
import Derived.Test.YtjiodpbgjhoakaaMask
namespace Go.Proofs.Ytjiodpbgjhoakaa.pli
open Go.RowKit mem
set_option linter.unusedVariables false

/-- a state in which one is wanted, and the last request was made -/
structure Run (s : Q) (first most last gap t : Int) : Prop where
  fi : s.first = first
  mo : s.most = most
  wa : s.wanted = true
  du : s.due = last + s.wait
  td : t ≤ s.due
  lt : last < t
  ga : (gap = 0 ∧ s.wait = first) ∨ (first ≤ gap ∧ gap ≤ most ∧ s.wait = min (2 * gap) most)
theorem Run.step {s : Q} {first most last gap t : Int} (h : Run s first most last gap t) (f0 : 1 ≤ first) (fm : first ≤ most) :
    (tickB s t = false ∧ tickQ s t = s ∧ Run s first most last gap (t + 1)) ∨
    (tickB s t = true ∧ tickQ s t = askQ s t (min (2 * s.wait) most) ∧ t - last = s.wait ∧ first ≤ t - last ∧ t - last ≤ most ∧ gap ≤ t - last ∧ (gap = 0 → t - last = first) ∧ Run (tickQ s t) first most t (t - last) (t + 1)) := by
  obtain ⟨h1, h2, h3, h4, h5, h6, h7⟩ := h
  by_cases hd : t < s.due
  · left
    have e : tickB s t = false := by simp [tickB, h3, hd]
    refine ⟨e, by simp [tickQ, e], h1, h2, h3, h4, by omega, by omega, h7⟩
  · right
    have e : tickB s t = true := by simp [tickB, h3, hd]
    have e2 : tickQ s t = askQ s t (min (2 * s.wait) most) := by simp [tickQ, e, h2]
    have hw : t - last = s.wait := by omega
    refine ⟨e, e2, hw, by omega, by omega, by omega, by omega, ?_⟩
    rw [e2]
    refine ⟨h1, h2, h3, rfl, ?_, by omega, .inr ⟨by omega, by omega, ?_⟩⟩
    · show t + 1 ≤ t + min (2 * s.wait) most
      omega
    · show min (2 * s.wait) most = min (2 * (t - last)) most
      rw [hw]
theorem Run.start (a b : Int) (ha : 1 ≤ a) : Run (wantQ (fresh a b) true 100) a b 100 0 101 :=
  ⟨rfl, rfl, rfl, rfl, (by show 101 ≤ 100 + a; omega), by omega, .inl ⟨rfl, rfl⟩⟩
theorem Run.last_ {s : Q} {first most last gap t : Int} (h : Run s first most last gap t) (f0 : 1 ≤ first) (fm : first ≤ most) : t - 1 - last < most := by
  obtain ⟨h1, h2, h3, h4, h5, h6, h7⟩ := h
  omega
/-- bounds -/
structure Bd (s : Q) (first most : Int) (k : Nat) : Prop where
  fi : s.first = first
  mo : s.most = most
  w0 : 0 ≤ s.wait
  w1 : s.wait ≤ most
  s0 : 0 ≤ s.sent
  s1 : s.sent ≤ k
theorem Bd.ok {s : Q} {first most : Int} {k : Nat} (h : Bd s first most k) (f0 : 1 ≤ first) (fm : first ≤ most) (m1 : most ≤ 1073741824) (hk : k ≤ 100000) : s.ok := by
  obtain ⟨h1, h2, h3, h4, h5, h6⟩ := h
  exact ⟨by omega, by omega, by omega, h3, by omega, h5, by omega⟩
theorem Bd.tick {s : Q} {first most : Int} {k : Nat} (h : Bd s first most k) (f0 : 1 ≤ first) (fm : first ≤ most) (t : Int) : Bd (tickQ s t) first most (k + 1) := by
  obtain ⟨h1, h2, h3, h4, h5, h6⟩ := h
  unfold tickQ
  split
  · refine ⟨h1, h2, ?_, ?_, ?_, ?_⟩ <;> simp only [askQ] <;> omega
  · exact ⟨h1, h2, h3, h4, h5, by omega⟩
theorem Bd.want {s : Q} {first most : Int} {k : Nat} (h : Bd s first most k) (f0 : 1 ≤ first) (fm : first ≤ most) (on : Bool) (t : Int) : Bd (wantQ s on t) first most (k + 1) := by
  unfold wantQ
  cases on
  · obtain ⟨h1, h2, h3, h4, h5, h6⟩ := h
    exact ⟨h1, h2, h3, h4, h5, by show s.sent ≤ _; omega⟩
  · cases hw : s.wanted
    · obtain ⟨h1, h2, h3, h4, h5, h6⟩ := h
      refine ⟨h1, h2, ?_, ?_, ?_, ?_⟩ <;> simp [askQ] <;> omega
    · simpa using h.tick f0 fm t
theorem Bd.fresh (a b : Int) (hb : 0 ≤ b) : Bd (fresh a b) a b 0 := ⟨rfl, rfl, by simp, hb, by simp, by simp⟩
theorem want_tick (s : Q) (t : Int) (h : s.wanted = true) : wantB s true t = tickB s t ∧ wantQ s true t = tickQ s t := by simp [wantB, wantQ, h]

set_option maxHeartbeats 1000000 in
theorem again_law (a b n : Int) (w : World) (ha : -9223372036854775808 ≤ a) (ha' : a ≤ 9223372036854775807) (hb : -9223372036854775808 ≤ b) (hb' : b ≤ 9223372036854775807) (hn : -9223372036854775808 ≤ n) (hn' : n ≤ 9223372036854775807) :
    Calls Try.prog 5 #[.int .i64 a, .int .i64 b, .int .i64 n] w fun e w' => e = .returned (.bool true) ∧ Below w.heap.size w w' := by
  have m1 := mask.mask4 a
  have m2 := mask.mask7 b
  have x0 : 0 ≤ a % 16 ∧ a % 16 ≤ 15 := by omega
  have x1 : 0 ≤ b % 128 ∧ b % 128 ≤ 127 := by omega
  generalize a % 16 = x at *
  generalize b % 128 = y at *
  obtain ⟨x0, x0'⟩ := x0
  obtain ⟨x1, x1'⟩ := x1
  have HN := Lib.hid (fun w => new_ok (1 + x) (1 + x + y) w ⟨by omega, by omega, by omega⟩)
  have HA := Lib.hid (fun w => awake w)
  obtain ⟨nm, hmx⟩ : ∃ nm, (if n < 0 then 0 else n) = nm := ⟨_, rfl⟩
  have hnm : 0 ≤ nm := by rw [← hmx]; split <;> omega
  obtain ⟨T, hmi, hT0, hT1⟩ : ∃ T : Nat, (if 300 < nm then 300 else nm) = (T : Int) ∧ 0 ≤ (T : Int) ∧ (T : Int) ≤ 300 := ⟨(if 300 < nm then 300 else nm).toNat, by split <;> omega, by omega, by split <;> omega⟩
  go_enter Try.func5, Try.ntmps5
  go_wp2_with fail
  refine (HN.out _).mono ?_
  rintro e w1 ⟨p, rfl, o1⟩
  have HO1 := Lib.hid o1
  clear HN o1
  go_wp2_with fail
  refine (HA.out _).mono ?_
  rintro e w2 ⟨rfl, n2⟩
  have HO2 := Lib.hid (HO1.out.later n2)
  have HB2 := Lib.hid (Bd.fresh (1 + x) (1 + x + y) (by omega))
  clear HO1 n2
  have HW := Lib.hid (want p _ true 0 w2 HO2.out.sq (HB2.out.ok (by omega) (by omega) (by omega) (by omega)) (by decide) (by decide))
  go_wp2_with fail
  refine HW.out.mono ?_
  rintro e w3 ⟨rfl, a3⟩
  have HO3 : Hid (∃ s, Own w w3 p s ∧ Bd s (1 + x) (1 + x + y) 1) := Lib.hid ⟨_, HO2.out.at_ a3, HB2.out.want (by omega) (by omega) true 0⟩
  generalize wantB (fresh (1 + x) (1 + x + y)) true 0 = b3
  clear HO2 HB2 HW a3 hmi hmx
  go_wp2_with fail
  go_loopw [9] (fun i wr => ∃ (k : Nat) (s : Q), k ≤ T ∧ i = .int .i64 (k + 1 : Nat) ∧ Own w wr p s ∧ Bd s (1 + x) (1 + x + y) (k + 1)) (fun i _ => T + 1 - (intOf i).toNat)
  case atStart =>
    obtain ⟨s, h1, h2⟩ := HO3.out
    exact ⟨0, s, by omega, rfl, h1, h2⟩
  case round =>
    obtain ⟨k, s, hk, rfl, h3, hb3⟩ := hrel
    clear HO3
    have HS := Lib.hid h3
    have HB := Lib.hid hb3
    clear h3 hb3
    by_cases hgo : k < T
    · have d1 : decide (((k + 1 : Nat) : Int) ≤ (T : Int)) = true := decide_eq_true (by omega)
      have HT := Lib.hid (tick p s ((k + 1 : Nat) : Int) wr HS.out.sq (HB.out.ok (by omega) (by omega) (by omega) (by omega)) (by omega) (by omega))
      go_wp2_with fail
      refine HT.out.mono ?_
      rintro e w4 ⟨rfl, a4⟩
      have H4 : Hid (∃ s', Own w w4 p s' ∧ Bd s' (1 + x) (1 + x + y) (k + 1 + 1)) := Lib.hid ⟨_, HS.out.at_ a4, HB.out.tick (by omega) (by omega) _⟩
      generalize tickB s ((k + 1 : Nat) : Int) = b4 at *
      clear HT a4 HS HB
      go_wp2_with fail
      go_roundw
      case rel =>
        obtain ⟨s', h1, h2⟩ := H4.out
        exact ⟨k + 1, s', by omega, by go_num, h1, h2⟩
      case measure => simp [intOf]; omega
    · obtain rfl : k = T := by omega
      have d1 : decide (((k + 1 : Nat) : Int) ≤ (k : Int)) = false := decide_eq_false (by omega)
      have HT := Lib.hid (want p s false (k : Int) wr HS.out.sq (HB.out.ok (by omega) (by omega) (by omega) (by omega)) (by omega) (by omega))
      go_wp2_with fail
      refine HT.out.mono ?_
      rintro e w4 ⟨rfl, a4⟩
      have e1 : wantB s false (k : Int) = false := rfl
      rw [e1]
      obtain ⟨t, ht, htw⟩ : ∃ t, wantQ s false (k : Int) = t ∧ t.wanted = false := ⟨_, rfl, rfl⟩
      have hb4 := HB.out.want (by omega) (by omega) false (k : Int)
      have ho4 := HS.out.at_ a4
      rw [ht] at hb4 ho4
      have H4 := Lib.hid ho4
      have B4 := Lib.hid hb4
      have HWT := Lib.hid htw
      clear HT a4 HS HB e1 ht ho4 hb4 htw
      have HW4 := Lib.hid (wanted p t w4 H4.out.sq)
      rw [HWT.out] at HW4
      go_wp2_with fail
      refine HW4.out.mono ?_
      rintro e w5 ⟨rfl, rfl⟩
      have e2 : tickB t ((k : Int) + 1000) = false := by simp [tickB, HWT.out]
      have e3 : tickQ t ((k : Int) + 1000) = t := by simp [tickQ, e2]
      have HT5 := Lib.hid (tick p t ((k : Int) + 1000) w5 H4.out.sq (B4.out.ok (by omega) (by omega) (by omega) (by omega)) (by omega) (by omega))
      rw [e2, e3] at HT5
      clear HW4 e2 e3
      go_wp2_with fail
      refine HT5.out.mono ?_
      rintro e w6 ⟨rfl, a6⟩
      have H6 := Lib.hid (H4.out.at_ a6)
      have e2 : wantB t true ((k : Int) + 1000) = true := by simp [wantB, HWT.out]
      have e3 : wantQ t true ((k : Int) + 1000) = askQ { t with wanted := true } ((k : Int) + 1000) (1 + x) := by simp [wantQ, HWT.out, B4.out.fi]
      have HT6 := Lib.hid (want p t true ((k : Int) + 1000) w6 H6.out.sq (B4.out.ok (by omega) (by omega) (by omega) (by omega)) (by omega) (by omega))
      rw [e2, e3] at HT6
      clear HT5 a6 H4 e2 e3
      go_wp2_with fail
      refine HT6.out.mono ?_
      rintro e w7 ⟨rfl, a7⟩
      have H7 := Lib.hid (H6.out.at_ a7)
      have HD7 := Lib.hid (due p _ w7 H7.out.sq)
      rw [show (askQ { t with wanted := true } ((k : Int) + 1000) (1 + x)).wanted = true from rfl, show (askQ { t with wanted := true } ((k : Int) + 1000) (1 + x)).due = (k : Int) + 1000 + (1 + x) from rfl, if_pos rfl] at HD7
      clear HT6 a7 H6
      go_wp2_with fail
      refine HD7.out.mono ?_
      rintro e w8 ⟨rfl, rfl⟩
      go_wp2
      go_ret
      exact ⟨rfl, H7.out.below⟩

set_option maxHeartbeats 1000000 in
theorem back_law (a b n : Int) (w : World) (ha : -9223372036854775808 ≤ a) (ha' : a ≤ 9223372036854775807) (hb : -9223372036854775808 ≤ b) (hb' : b ≤ 9223372036854775807) (hn : -9223372036854775808 ≤ n) (hn' : n ≤ 9223372036854775807) :
    Calls Try.prog 4 #[.int .i64 a, .int .i64 b, .int .i64 n] w fun e w' => e = .returned (.bool true) ∧ Below w.heap.size w w' := by
  have m1 := mask.mask4 a
  have m2 := mask.mask7 b
  have x0 : 0 ≤ a % 16 ∧ a % 16 ≤ 15 := by omega
  have x1 : 0 ≤ b % 128 ∧ b % 128 ≤ 127 := by omega
  generalize a % 16 = x at *
  generalize b % 128 = y at *
  obtain ⟨x0, x0'⟩ := x0
  obtain ⟨x1, x1'⟩ := x1
  have HN := Lib.hid (fun w => new_ok (1 + x) (1 + x + y) w ⟨by omega, by omega, by omega⟩)
  have HA := Lib.hid (fun w => awake w)
  obtain ⟨nm, hmx⟩ : ∃ nm, (if n < 0 then 0 else n) = nm := ⟨_, rfl⟩
  have hnm : 0 ≤ nm := by rw [← hmx]; split <;> omega
  obtain ⟨T, hmi, hT0, hT1⟩ : ∃ T : Nat, (if 600 < nm then 600 else nm) = (T : Int) ∧ 0 ≤ (T : Int) ∧ (T : Int) ≤ 600 := ⟨(if 600 < nm then 600 else nm).toNat, by split <;> omega, by omega, by split <;> omega⟩
  go_enter Try.func4, Try.ntmps4
  go_wp2_with fail
  refine (HN.out _).mono ?_
  rintro e w1 ⟨p, rfl, o1⟩
  have HO1 := Lib.hid o1
  clear HN o1
  go_wp2_with fail
  refine (HA.out _).mono ?_
  rintro e w2 ⟨rfl, n2⟩
  have HO2 := Lib.hid (HO1.out.later n2)
  have HB2 := Lib.hid (Bd.fresh (1 + x) (1 + x + y) (by omega))
  clear HO1 n2
  have HW := Lib.hid (want p _ true 100 w2 HO2.out.sq (HB2.out.ok (by omega) (by omega) (by omega) (by omega)) (by decide) (by decide))
  rw [show wantB (fresh (1 + x) (1 + x + y)) true 100 = true from rfl] at HW
  go_wp2_with fail
  refine HW.out.mono ?_
  rintro e w3 ⟨rfl, a3⟩
  have HO3 : Hid (∃ s, Own w w3 p s ∧ Bd s (1 + x) (1 + x + y) 1 ∧ Run s (1 + x) (1 + x + y) 100 0 101) := Lib.hid ⟨_, HO2.out.at_ a3, HB2.out.want (by omega) (by omega) true 100, Run.start _ _ (by omega)⟩
  clear HO2 HB2 HW a3
  go_wp2_with fail
  clear hmi hmx
  go_loopw [9, 10, 12] (fun la ga i wr => ∃ (k : Nat) (s : Q) (last gap : Int), k ≤ T ∧ la = .int .i64 last ∧ ga = .int .i64 gap ∧ i = .int .i64 (101 + k : Nat) ∧ Own w wr p s ∧ Bd s (1 + x) (1 + x + y) (k + 1) ∧ Run s (1 + x) (1 + x + y) last gap ((101 + k : Nat) : Int) ∧ 0 ≤ last ∧ 0 ≤ gap ∧ gap ≤ 1000) (fun _ _ i _ => T + 101 - (intOf i).toNat)
  case atStart =>
    obtain ⟨s, h1, h2, h3⟩ := HO3.out
    exact ⟨0, s, 100, 0, by omega, rfl, rfl, rfl, h1, h2, h3, by omega, by omega, by omega⟩
  case round =>
    obtain ⟨k, s, last, gap, hk, rfl, rfl, rfl, h3, hb3, hr3, hl0, hg0, hg1⟩ := hrel
    clear HO3
    have HS := Lib.hid h3
    have HB := Lib.hid hb3
    have HR := Lib.hid hr3
    have hlt := hr3.lt
    clear h3 hb3 hr3
    by_cases hgo : k < T
    · have d1 : decide (((101 + k : Nat) : Int) < 101 + (T : Int)) = true := decide_eq_true (by omega)
      have HT := Lib.hid (want p s true ((101 + k : Nat) : Int) wr HS.out.sq (HB.out.ok (by omega) (by omega) (by omega) (by omega)) (by omega) (by omega))
      rw [(want_tick s _ HR.out.wa).1, (want_tick s _ HR.out.wa).2] at HT
      rcases HR.out.step (by omega) (by omega) with ⟨e1, e2, hr⟩ | ⟨e1, e2, q1, q2, q3, q4, q5, hr⟩
      · have HR2 := Lib.hid hr
        rw [e1, e2] at HT
        clear e1 e2 hr
        go_wp2_with fail
        refine HT.out.mono ?_
        rintro e w4 ⟨rfl, a4⟩
        have H4 : Hid (Own w w4 p s) := Lib.hid (HS.out.at_ a4)
        have HB4 : Hid (Bd s (1 + x) (1 + x + y) (k + 1 + 1)) := Lib.hid (by
          obtain ⟨b1, b2, b3, b4, b5, b6⟩ := HB.out
          exact ⟨b1, b2, b3, b4, b5, by omega⟩)
        clear HT a4 HS
        go_wp2_with fail
        go_roundw
        case rel => exact ⟨k + 1, s, last, gap, by omega, rfl, rfl, by go_num, H4.out, HB4.out, by have := HR2.out; rwa [show ((101 + k : Nat) : Int) + 1 = ((101 + (k + 1) : Nat) : Int) by omega] at this, hl0, hg0, hg1⟩
        case measure => simp [intOf]; omega
      · rw [e1] at HT
        have HR2 := Lib.hid hr
        have HB2 := Lib.hid (HB.out.tick (by omega) (by omega) ((101 + k : Nat) : Int))
        clear e1 e2 hr
        have hk1 : (((101 + k : Nat) : Int)) = 101 + (k : Int) := by omega
        rw [hk1] at q1 q2 q3 q4 q5
        have d2 : decide (101 + (k : Int) - last < 1 + x) = false := decide_eq_false (by omega)
        have d3 : decide (1 + x + y < 101 + (k : Int) - last) = false := decide_eq_false (by omega)
        have d4 : decide (101 + (k : Int) - last < gap) = false := decide_eq_false (by omega)
        have hlt2 : last < 101 + (k : Int) := by omega
        clear hk1
        go_wp2_with fail
        refine HT.out.mono ?_
        rintro e w4 ⟨rfl, a4⟩
        have H4 := Lib.hid (HS.out.at_ a4)
        have H5 : Hid (0 ≤ 101 + (k : Int) - last ∧ 101 + (k : Int) - last ≤ 1000) := Lib.hid (by omega)
        clear HT a4 HS q1 q2 q3 q4
        by_cases hg : gap = 0
        · have q6 := q5 hg
          subst hg
          have d5 : (101 + (k : Int) - last != 1 + x) = false := by simp; omega
          clear q5 q6
          go_wp2_with fail
          go_roundw
          case rel => exact ⟨k + 1, _, _, _, by omega, rfl, rfl, by go_num, H4.out, HB2.out, by have := HR2.out; rwa [show (((101 + k : Nat) : Int)) = 101 + (k : Int) by omega, show 101 + (k : Int) + 1 = ((101 + (k + 1) : Nat) : Int) by omega] at this, by omega, H5.out.1, H5.out.2⟩
          case measure => simp [intOf]; omega
        · have d5 : (gap == 0) = false := by simp [hg]
          clear q5
          go_wp2_with fail
          go_roundw
          case rel => exact ⟨k + 1, _, _, _, by omega, rfl, rfl, by go_num, H4.out, HB2.out, by have := HR2.out; rwa [show (((101 + k : Nat) : Int)) = 101 + (k : Int) by omega, show 101 + (k : Int) + 1 = ((101 + (k + 1) : Nat) : Int) by omega] at this, by omega, H5.out.1, H5.out.2⟩
          case measure => simp [intOf]; omega
    · obtain rfl : k = T := by omega
      have d1 : decide (((101 + k : Nat) : Int) < 101 + (k : Int)) = false := decide_eq_false (by omega)
      have hla := HR.out.last_ (by omega) (by omega)
      have d2 : decide (101 + (k : Int) - 1 - last < 1 + x + y) = true := decide_eq_true (by omega)
      have HW4 := Lib.hid (wanted p s wr HS.out.sq)
      rw [HR.out.wa] at HW4
      have HT := Lib.hid (want p s false (101 + (k : Int)) wr HS.out.sq (HB.out.ok (by omega) (by omega) (by omega) (by omega)) (by omega) (by omega))
      rw [show wantB s false (101 + (k : Int)) = false from rfl] at HT
      go_wp2_with fail
      refine HW4.out.mono ?_
      rintro e w5 ⟨rfl, rfl⟩
      go_wp2_with fail
      refine HT.out.mono ?_
      rintro e w4 ⟨rfl, a4⟩
      obtain ⟨t, ht, htw⟩ : ∃ t, wantQ s false (101 + (k : Int)) = t ∧ t.wanted = false := ⟨_, rfl, rfl⟩
      have hb4 := HB.out.want (by omega) (by omega) false (101 + (k : Int))
      have ho4 := HS.out.at_ a4
      rw [ht] at hb4 ho4
      have H4 := Lib.hid ho4
      have B4 := Lib.hid hb4
      have e2 : tickB t (101 + (k : Int) + 10000) = false := by simp [tickB, htw]
      have HT5 := Lib.hid (tick p t (101 + (k : Int) + 10000) w4 H4.out.sq (B4.out.ok (by omega) (by omega) (by omega) (by omega)) (by omega) (by omega))
      rw [e2] at HT5
      clear HT a4 HS HB ht ho4 hb4 htw e2 HW4 HR
      go_wp2_with fail
      refine HT5.out.mono ?_
      rintro e w6 ⟨rfl, a6⟩
      have H6 := Lib.hid (H4.out.at_ a6)
      clear HT5 a6
      go_wp2
      go_ret
      exact ⟨rfl, H6.out.below⟩
end Go.Proofs.Ytjiodpbgjhoakaa.pli
