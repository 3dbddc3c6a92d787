/-
  LadderMay: the law.
-/
import Derived.Test.YtjiodpbgjhoakaaLadNeeds
import Derived.Test.YtjiodpbgjhoakaaLcfgArg
namespace Go.Proofs.Ytjiodpbgjhoakaa.lad
open Go.RowKit mem
open ints (IE IT ST infoI)
set_option linter.unusedVariables false

def rowL (z : Nat → Int) (n : Nat) : List Int := (List.range n).map z
theorem rowL_len (z : Nat → Int) (n : Nat) : (rowL z n).length = n := by simp [rowL]
theorem rowL_get (z : Nat → Int) (n k : Nat) (h : k < (rowL z n).length) : (rowL z n)[k] = z k := by simp [rowL]
theorem rowL_getD (z : Nat → Int) (n k : Nat) (h : k < n) : (rowL z n).getD k 0 = z k := by simp [rowL, h]
def gd (z : Nat → Int) (j : Nat) : Prop := 0 ≤ z j ∧ z j ≤ 1099511627776 ∧ (0 < j → z (j - 1) ≤ z j)
theorem rise_iff (z : Nat → Int) (n : Nat) : Rise (rowL z n) ↔ (1 ≤ n ∧ n ≤ 3 ∧ ∀ j, j < n → gd z j) := by
  constructor
  · intro h
    have hl := rowL_len z n
    refine ⟨by have := h.1; omega, by have := h.2.1; omega, fun j hj => ?_⟩
    have hb := h.bd (z j) (by rw [← rowL_get z n j (by omega)]; exact List.getElem_mem _)
    refine ⟨hb.1, hb.2, fun h0 => ?_⟩
    have := h.2.2.1 j (Nat.zero_le _) (by omega) h0
    rw [rowL_getD z n j hj, rowL_getD z n (j - 1) (by omega)] at this
    exact this
  · intro ⟨h1, h2, h3⟩
    have hl := rowL_len z n
    refine ⟨by omega, by omega, fun k h4 h5 h6 => ?_, ?_, ?_⟩
    · rw [rowL_getD z n k (by omega), rowL_getD z n (k - 1) (by omega)]
      exact (h3 k (by omega)).2.2 h6
    · rw [rowL_getD z n 0 (by omega)]; exact (h3 0 (by omega)).1
    · rw [hl, rowL_getD z n (n - 1) (by omega)]; exact (h3 (n - 1) (by omega)).2.1
def V0 (a b c : Int) (n : Nat) : Prop := Vc a b c ∧ 1 ≤ n ∧ n ≤ 3

set_option maxRecDepth 10000 in
set_option maxHeartbeats 4000000 in
/-- the law, for a row that is not cut -/
theorem may_at (a b c : Int) (most : Int) (ao : Option Addr) (n cc n0 : Nat) (z : Nat → Int) (w : World) (m0 : -9223372036854775808 ≤ most) (m1 : most ≤ 9223372036854775807) (hz : args.IntRow .i64 w ao n0 cc z) (hn5 : n ≤ 5) (hnn : n ≤ n0) (hcut : (n0 ≤ 5 ∧ n = n0) ∨ (5 < n0 ∧ n = 5)) (hcc : n0 ≤ cc) :
    Calls Try.prog 14 #[.agg (cfg a b c), .int .i64 most, .slice ao n0 cc] w fun e w' => e = .returned (.bool true) ∧ Below w.heap.size w w' := by
  have hvw : Vw w ao (rowL z n) := by
    by_cases h0 : n = 0
    · left; subst h0; rfl
    · obtain ⟨b', off, ha, hb', hc⟩ := hz.2.2.resolve_left (by omega)
      exact .inr ⟨b', off, ha, hb', fun k hk => by rw [rowL_get]; exact hc k (by rw [rowL_len] at hk; omega)⟩
  have HVW := Lib.hid hvw
  have HCELL : Hid (n = 0 ∨ ∃ b' off, ao = some ⟨b', off, none⟩ ∧ b' < w.heap.size ∧ ∀ i, i < n → w.cell? ⟨b', off + i, none⟩ = some (.int .i64 (z i))) := Lib.hid (by
    by_cases h0 : n = 0
    · exact .inl h0
    · obtain ⟨b', off, ha, hb', hc⟩ := hz.2.2.resolve_left (by omega)
      exact .inr ⟨b', off, ha, hb', fun i hi => hc i (by omega)⟩)
  have HBD : Hid (∀ i, i < n → -9223372036854775808 ≤ z i ∧ z i ≤ 9223372036854775807) := Lib.hid (fun i hi => bounds_i64 (hz.2.1 i (by omega)))
  have hn0m : n0 ≤ maxLen := hz.1
  have HN0 : Hid (New w (w.alloc (.cells (cfg a b c) CT))) := Lib.hid ((Turns.refl _ _).alloc _)
  have HB0 : Hid (Blk (w.alloc (.cells (cfg a b c) CT)) w.heap.size (cfg a b c) CT) := Lib.hid (Blk.new _ _ _)
  have HA := Lib.hid (fun w => awake w)
  have hnew : ∀ W, New w W → Calls Try.prog 33 #[.agg (cfg a b c), .int .i64 most, .slice ao n cc] W fun e w' => ∃ pv ev, e = .returned (.tuple #[pv, .int .i64 ev]) ∧
      (((Vc a b c ∧ Rise (rowL z n)) ∧ ev = 0 ∧ ∃ p g c', pv = .pointer (some ⟨p, 0, none⟩) ∧ Own W w' p g c' (fresh a b c (rowL z n) most)) ∨
      (¬ (Vc a b c ∧ Rise (rowL z n)) ∧ ev = 5 ∧ pv = .pointer none ∧ New W w')) := fun W N => by
    by_cases h : Vc a b c ∧ Rise (rowL z n)
    · have := new_ok a b c most ao cc (rowL z n) W (hvw.later N) h.1 h.2
      rw [rowL_len] at this
      exact this.mono (fun e w' ⟨p, g, c', he, ho⟩ => ⟨_, 0, he, .inl ⟨h, rfl, p, g, c', rfl, ho⟩⟩)
    · have := new_bad a b c most ao cc (rowL z n) W (hvw.later N) (by rw [rowL_len]; omega) h
      rw [rowL_len] at this
      exact this.mono (fun e w' h2 => ⟨_, 5, h2.1, .inr ⟨h, rfl, rfl, h2.2⟩⟩)
  have HNEW := Lib.hid hnew
  clear hnew hz hvw
  have hccm : (5 : Int) ≤ (cc : Int) ∨ n0 ≤ 5 := by omega
  go_enter Try.func14, Try.ntmps14
  obtain ⟨w1, hw1⟩ : ∃ w1, w1 = w.alloc (.cells (cfg a b c) CT) := ⟨_, rfl⟩
  obtain ⟨pc, hpc⟩ : ∃ pc, pc = w.heap.size := ⟨_, rfl⟩
  rw [← hw1] at HN0 HB0
  rw [← hpc] at HB0
  have HPC := Lib.hid hpc
  have HW1 := Lib.hid hw1
  clear hw1 hpc
  go_upto_if 14 with fail
  refine (show Code.wp _ _ _ _ (w.alloc (.cells (cfg a b c) CT)) from ?_)
  rw [← HW1.out, ← HPC.out]
  go_cut [2] (fun v wx => v = .slice ao n cc ∧ wx = w1)
  case first =>
    rcases hcut with ⟨h1, rfl⟩ | ⟨h1, rfl⟩
    · have d1 : decide (5 < (n : Int)) = false := decide_eq_false (by omega)
      clear h1
      go_wp2_with fail
      go_meet
      case rel => exact ⟨rfl, rfl⟩
    · have d1 : decide (5 < (n0 : Int)) = true := decide_eq_true (by omega)
      go_wp2_with fail
      go_meet
      case rel => exact ⟨rfl, rfl⟩
  case rest =>
    obtain ⟨rfl, rfl⟩ := hcut
    obtain ⟨c0, c1, c2⟩ := three HB0.out
    go_wp2_with fail
    refine (HNEW.out _ HN0.out).mono ?_
    rintro e w2 ⟨pv, ev, rfl, h2⟩
    have HB2 : Hid (Blk w2 pc (cfg a b c) CT ∧ New w w2) := Lib.hid (by
      rcases h2 with ⟨_, _, p, g, c', _, ho⟩ | ⟨_, _, _, n2⟩
      · exact ⟨ho.n.blk HB0.out (fun h => h), HN0.out.trans (ho.n.mono (fun _ _ h => h.elim))⟩
      · exact ⟨n2.blk HB0.out (fun h => h), HN0.out.trans (n2.mono (fun _ _ h => h.elim))⟩)
    have H2 := Lib.hid h2
    clear h2 c0 c1 c2 HNEW
    obtain ⟨c0, c1, c2⟩ := three HB2.out.1
    have HVV : Hid (V0 a b c n ↔ (1 ≤ a ∧ a ≤ 1048576 ∧ 1 ≤ b ∧ b ≤ 1048576 ∧ 0 ≤ c ∧ c ≤ 100) ∧ 1 ≤ n ∧ n ≤ 3) := Lib.hid Iff.rfl
    go_upto_region 4 with fail
    go_cut [9] (fun v wx => ∃ b0, v = .bool b0 ∧ (b0 = true ↔ V0 a b c n) ∧ wx = w2)
    case first =>
      have hc : (¬ 1 ≤ a) ∨ (1 ≤ a ∧ ¬ a ≤ 1048576) ∨ (1 ≤ a ∧ a ≤ 1048576 ∧ ¬ 1 ≤ b) ∨ (1 ≤ a ∧ a ≤ 1048576 ∧ 1 ≤ b ∧ ¬ b ≤ 1048576) ∨ (1 ≤ a ∧ a ≤ 1048576 ∧ 1 ≤ b ∧ b ≤ 1048576 ∧ ¬ 0 ≤ c) ∨ (1 ≤ a ∧ a ≤ 1048576 ∧ 1 ≤ b ∧ b ≤ 1048576 ∧ 0 ≤ c ∧ ¬ c ≤ 100) ∨ (1 ≤ a ∧ a ≤ 1048576 ∧ 1 ≤ b ∧ b ≤ 1048576 ∧ 0 ≤ c ∧ c ≤ 100 ∧ ¬ 1 ≤ (n : Int)) ∨ (1 ≤ a ∧ a ≤ 1048576 ∧ 1 ≤ b ∧ b ≤ 1048576 ∧ 0 ≤ c ∧ c ≤ 100 ∧ 1 ≤ (n : Int) ∧ ¬ (n : Int) ≤ 3) ∨ (1 ≤ a ∧ a ≤ 1048576 ∧ 1 ≤ b ∧ b ≤ 1048576 ∧ 0 ≤ c ∧ c ≤ 100 ∧ 1 ≤ (n : Int) ∧ (n : Int) ≤ 3) := by omega
      rcases hc with h | ⟨h1, h⟩ | ⟨h1, h2, h⟩ | ⟨h1, h2, h3, h⟩ | ⟨h1, h2, h3, h4, h⟩ | ⟨h1, h2, h3, h4, h5, h⟩ | ⟨h1, h2, h3, h4, h5, h6, h⟩ | ⟨h1, h2, h3, h4, h5, h6, h7, h⟩ | ⟨h1, h2, h3, h4, h5, h6, h7, h8⟩
      all_goals
        try (have d1 : decide (1 ≤ a) = false := decide_eq_false (by assumption))
        try (have d1 : decide (1 ≤ a) = true := decide_eq_true (by assumption))
        try (have d2 : decide (a ≤ 1048576) = false := decide_eq_false (by assumption))
        try (have d2 : decide (a ≤ 1048576) = true := decide_eq_true (by assumption))
        try (have d3 : decide (1 ≤ b) = false := decide_eq_false (by assumption))
        try (have d3 : decide (1 ≤ b) = true := decide_eq_true (by assumption))
        try (have d4 : decide (b ≤ 1048576) = false := decide_eq_false (by assumption))
        try (have d4 : decide (b ≤ 1048576) = true := decide_eq_true (by assumption))
        try (have d5 : decide (0 ≤ c) = false := decide_eq_false (by assumption))
        try (have d5 : decide (0 ≤ c) = true := decide_eq_true (by assumption))
        try (have d6 : decide (c ≤ 100) = false := decide_eq_false (by assumption))
        try (have d6 : decide (c ≤ 100) = true := decide_eq_true (by assumption))
        try (have d7 : decide (1 ≤ (n : Int)) = false := decide_eq_false (by assumption))
        try (have d7 : decide (1 ≤ (n : Int)) = true := decide_eq_true (by assumption))
        try (have d8 : decide ((n : Int) ≤ 3) = false := decide_eq_false (by assumption))
        try (have d8 : decide ((n : Int) ≤ 3) = true := decide_eq_true (by assumption))
        go_wp2_with fail
        go_meet
        case rel =>
          refine ⟨_, rfl, ?_, rfl⟩
          rw [HVV.out]
          constructor
          · intro h; first | omega | (simp at h; done)
          · intro h; first | rfl | (exfalso; omega)
    case rest =>
      obtain ⟨b0, rfl, hb0, rfl⟩ := hcut
      have HB0' := Lib.hid hb0
      clear hb0 c0 c1 c2
      have HN2 := Lib.hid HB2.out.2
      clear HN0 HB0 HB2
      go_wp2_with fail
      go_loopw [9, 64] (fun m i wr => ∃ (k : Nat) (B : Bool), k ≤ n ∧ m = .bool B ∧ i = .int .i64 k ∧ (B = true ↔ V0 a b c n ∧ ∀ j, j < k → gd z j) ∧ wr = wc) (fun _ i _ => n - (intOf i).toNat)
      case atStart => exact ⟨0, b0, Nat.zero_le _, rfl, rfl, ⟨fun h => ⟨HB0'.out.1 h, fun j hj => by omega⟩, fun h => HB0'.out.2 h.1⟩, rfl⟩
      case round =>
        obtain ⟨k, B, hk, rfl, rfl, hB, rfl⟩ := hrel
        have HBB := Lib.hid hB
        clear hB
        by_cases hlt : k < n
        · obtain ⟨b', off, rfl, hb', hc⟩ := HCELL.out.resolve_left (by omega)
          have x0 := (HN2.out.cell (a := ⟨b', off + k, none⟩) hb' (fun h => h)).trans (hc k hlt)
          have hzb := HBD.out k hlt
          have d1 : decide ((k : Int) < (n : Int)) = true := decide_eq_true (by omega)
          have HST : Hid (gd z k → ((B = true ↔ V0 a b c n ∧ ∀ j, j < k + 1 → gd z j))) := Lib.hid (fun hg => by
            rw [HBB.out]
            constructor
            · intro ⟨h1, h2⟩
              exact ⟨h1, fun j hj => by
                by_cases e : j = k
                · subst e; exact hg
                · exact h2 j (by omega)⟩
            · intro ⟨h1, h2⟩
              exact ⟨h1, fun j hj => h2 j (by omega)⟩)
          have HSF : Hid (¬ gd z k → (false = true ↔ V0 a b c n ∧ ∀ j, j < k + 1 → gd z j)) := Lib.hid (fun hg => ⟨fun h => by simp at h, fun h => absurd (h.2 k (by omega)) hg⟩)
          have HGD : Hid (gd z k ↔ (0 ≤ z k ∧ z k ≤ 1099511627776 ∧ (0 < k → z (k - 1) ≤ z k))) := Lib.hid Iff.rfl
          by_cases h1 : z k < 0
          · have d2 : decide (z k < 0) = true := decide_eq_true h1
            have HF := Lib.hid (HSF.out (fun h => by have := (HGD.out.1 h).1; omega))
            clear hc HSF HGD HST
            generalize z k = x at *
            go_wp2_with fail
            go_roundw
            case rel => exact ⟨k + 1, false, by omega, rfl, by go_num, HF.out, by trivial⟩
            case measure => simp [intOf]; omega
          · have d2 : decide (z k < 0) = false := decide_eq_false h1
            by_cases h2 : 1099511627776 < z k
            · have d3 : decide (1099511627776 < z k) = true := decide_eq_true h2
              have HF := Lib.hid (HSF.out (fun h => by have := (HGD.out.1 h).2.1; omega))
              clear hc HSF HGD HST
              generalize z k = x at *
              go_wp2_with fail
              go_roundw
              case rel => exact ⟨k + 1, false, by omega, rfl, by go_num, HF.out, by trivial⟩
              case measure => simp [intOf]; omega
            · have d3 : decide (1099511627776 < z k) = false := decide_eq_false h2
              by_cases h3 : 0 < k
              · have d4 : decide ((0 : Int) < (k : Int)) = true := decide_eq_true (by omega)
                obtain ⟨m, rfl⟩ : ∃ m, k = m + 1 := ⟨k - 1, by omega⟩
                have x1 := (HN2.out.cell (a := ⟨b', off + m, none⟩) hb' (fun h => h)).trans (hc m (by omega))
                rw [show m + 1 - 1 = m by omega] at HGD
                by_cases h4 : z (m + 1) < z m
                · have d5 : decide (z (m + 1) < z m) = true := decide_eq_true h4
                  have HF := Lib.hid (HSF.out (fun h => by have := (HGD.out.1 h).2.2 h3; omega))
                  clear hc HSF HGD HST
                  generalize z (m + 1) = x at *
                  generalize z m = y at *
                  go_wp2_with fail
                  go_roundw
                  case rel => exact ⟨m + 1 + 1, false, by omega, rfl, by go_num, HF.out, by trivial⟩
                  case measure => simp [intOf]; omega
                · have d5 : decide (z (m + 1) < z m) = false := decide_eq_false h4
                  have HF := Lib.hid (HST.out (HGD.out.2 ⟨by omega, by omega, fun _ => by omega⟩))
                  clear hc HSF HGD HST
                  generalize z (m + 1) = x at *
                  generalize z m = y at *
                  go_wp2_with fail
                  go_roundw
                  case rel => exact ⟨m + 1 + 1, B, by omega, rfl, by go_num, HF.out, by trivial⟩
                  case measure => simp [intOf]; omega
              · have d4 : decide ((0 : Int) < (k : Int)) = false := decide_eq_false (by omega)
                have HF := Lib.hid (HST.out (HGD.out.2 ⟨by omega, by omega, fun h => absurd h h3⟩))
                clear hc HSF HGD HST
                generalize z k = x at *
                go_wp2_with fail
                go_roundw
                case rel => exact ⟨k + 1, B, by omega, rfl, by go_num, HF.out, by trivial⟩
                case measure => simp [intOf]; omega
        · obtain rfl : k = n := by omega
          have d1 : decide ((k : Int) < (k : Int)) = false := decide_eq_false (by omega)
          have HFI : Hid (B = true ↔ (Vc a b c ∧ Rise (rowL z k))) := Lib.hid (by
            rw [HBB.out, rise_iff]
            unfold V0
            constructor
            · intro ⟨⟨h1, h2, h3⟩, h4⟩; exact ⟨h1, h2, h3, h4⟩
            · intro ⟨h1, h2, h3, h4⟩; exact ⟨⟨h1, h2, h3⟩, h4⟩)
          rcases H2.out with ⟨hg, rfl, p, g, c', rfl, ho⟩ | ⟨hg, rfl, rfl, n2⟩
          · obtain rfl : B = true := HFI.out.2 hg
            have HO := Lib.hid (Own.of_new (show New w _ from by rw [HW1.out]; exact (Turns.refl _ _).alloc _) ho)
            have hk1 : 1 ≤ k := by have := hg.2.1; rw [rowL_len] at this; exact this
            have HLI := Lib.hid (limF_eq hk1 most)
            have HE : Hid ((fresh a b c (rowL z k) most).at' = limF k most ∧ (fresh a b c (rowL z k) most).moves = 0) := Lib.hid ⟨by show limF (rowL z k).length most = _; rw [rowL_len], rfl⟩
            have HAT := Lib.hid (fun W (N : New wr W) => at_ p g c' _ W (HO.out.ls.later N))
            have HMV := Lib.hid (fun W (N : New wr W) => moves p g c' _ W (HO.out.ls.later N))
            rw [HE.out.1] at HAT
            rw [HE.out.2] at HMV
            clear ho hg H2 HE
            generalize fresh a b c (rowL z k) most = q at *
            obtain ⟨mx, hmx, hmx2⟩ : ∃ mx, (if most < 0 then 0 else most) = mx ∧ max most 0 = mx := ⟨_, rfl, by split <;> omega⟩
            have hmn : (if (k : Int) - 1 < mx then (k : Int) - 1 else mx) = ((limF k most : Nat) : Int) := by rw [HLI.out, hmx2]; split <;> omega
            clear hmx2 HLI
            generalize ((limF k most : Nat) : Int) = li at *
            go_wp2_with fail
            refine (HA.out _).mono ?_
            rintro e w3 ⟨rfl, n3⟩
            have HN3 := Lib.hid n3
            clear n3
            go_wp2_with fail
            refine (HAT.out _ HN3.out).mono ?_
            rintro e w4 ⟨rfl, rfl⟩
            go_wp2_with fail
            refine (HMV.out _ HN3.out).mono ?_
            rintro e w5 ⟨rfl, rfl⟩
            go_wp2
            go_ret
            exact ⟨rfl, (HO.out.later HN3.out).below⟩
          · have hBf : B = false := by
              cases B
              · rfl
              · exact absurd (HFI.out.1 rfl) hg
            subst hBf
            have HNW : Hid (New w wr) := Lib.hid HN2.out
            clear hg n2 H2
            go_wp2_with fail
            refine (HA.out _).mono ?_
            rintro e w3 ⟨rfl, n3⟩
            have HN3 := Lib.hid n3
            clear n3
            go_wp2
            go_ret
            exact ⟨rfl, (HNW.out.trans (HN3.out.mono (fun _ _ h => h.elim))).below (Nat.le_refl _) (fun _ _ h => h.elim)⟩

theorem may_law (a b c : Int) (most : Int) (ao : Option Addr) (n cc : Nat) (z : Nat → Int) (w : World) (h0 : args.lcfgOk w a b c) (m0 : -9223372036854775808 ≤ most) (m1 : most ≤ 9223372036854775807) (hz : args.IntRow .i64 w ao n cc z) (hc : n ≤ cc) :
    Calls Try.prog 14 #[.agg (cfg a b c), .int .i64 most, .slice ao n cc] w fun e w' => e = .returned (.bool true) ∧ Below w.heap.size w w' := by
  by_cases h : n ≤ 5
  · exact may_at a b c most ao n cc n z w m0 m1 hz h (Nat.le_refl _) (.inl ⟨h, rfl⟩) hc
  · exact may_at a b c most ao 5 cc n z w m0 m1 hz (by omega) (by omega) (.inr ⟨by omega, rfl⟩) hc
end Go.Proofs.Ytjiodpbgjhoakaa.lad
