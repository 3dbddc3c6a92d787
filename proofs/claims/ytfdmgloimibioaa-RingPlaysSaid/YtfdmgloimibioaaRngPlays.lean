/-
  RingPlays: any calls do what they should.
-/
import Derived.Test.YtfdmgloimibioaaRngPlaysA
import Derived.Deep.CutBlock
namespace Go.Proofs.Ytfdmgloimibioaa.rng
open Go.RowKit mem Go.Maps cutl
open Go.Proofs.Ytfdmgloimibioaa.args (IntRow Ract)
set_option linter.unusedVariables false

set_option maxHeartbeats 16000000 in
set_option maxRecDepth 100000 in
theorem plays_law (a0 a1 a2 : Int) (A : Option Addr) (n c : Nat) (z : Nat → Ract) (w : World) (h0 : -9223372036854775808 ≤ a0) (h0' : a0 ≤ 9223372036854775807) (h1 : -9223372036854775808 ≤ a1) (h1' : a1 ≤ 9223372036854775807) (h2 : -9223372036854775808 ≤ a2) (h2' : a2 ≤ 9223372036854775807) (hz : args.ractRow w A n c z) :
    Calls Try.prog 3 #[.int .i64 a0, .int .i64 a1, .int .i64 a2, .slice A n c] w fun e w' => e = .returned (.bool true) ∧ Below w.heap.size w w' := by
  have M0 := mask.mask4 a0
  have M1 := mask.mask2 a1
  have M2 := mask.mask4 a2
  obtain ⟨y, hy⟩ : ∃ z : Nat, a0 % 16 = z := ⟨(a0 % 16).toNat, by omega⟩
  have hyb : y < 16 := by omega
  obtain ⟨m, hm⟩ : ∃ m : Int, a1 % 4 = m := ⟨_, rfl⟩
  obtain ⟨gp, hgp⟩ : ∃ g : Int, a2 % 16 = g := ⟨_, rfl⟩
  have m0 : 0 ≤ m := by omega
  have m1 : m < 4 := by omega
  have g0 : 0 ≤ gp := by omega
  have g1 : gp < 16 := by omega
  rw [hy] at M0
  rw [hm] at M1
  rw [hgp] at M2
  clear hy hm hgp
  obtain ⟨Z, hZ⟩ : ∃ Z : Nat, Z = y + 1 := ⟨_, rfl⟩
  have hs1 : IntKind.i64.wrap (1 + (y : Int)) = (Z : Int) := by rw [IntWalk.i64_in _ (by omega)]; omega
  have hZ0 : 0 < Z := by omega
  have hZ1 : Z ≤ 16 := by omega
  clear hZ
  obtain ⟨hn, hwf, hcell⟩ := hz
  unfold maxLen at hn
  have HW := Lib.hid hwf
  have HC := Lib.hid hcell
  clear hwf hcell
  have HN := Lib.hid (fun w => new Z m gp w (by omega) (by omega) (by omega) (by omega) (by omega) (by omega))
  have HA := Lib.hid (fun w => awake w)
  go_enter Try.func3, Try.ntmps3
  go_wp2_with fail
  refine (HN.out _).mono ?_
  rintro e w1 ⟨rfl, hr, n1⟩
  have H1 := Lib.hid (Own.made hr n1)
  clear hr n1 HN
  generalize w.heap.size + 1 = p at *
  obtain ⟨bm, hbm⟩ : ∃ bm, bm = w.heap.size := ⟨_, rfl⟩
  have HBM := Lib.hid hbm
  rw [← hbm] at H1
  clear hbm
  go_wp2_with fail
  refine (HA.out _).mono ?_
  rintro e w2 ⟨rfl, n2⟩
  have H2 := Lib.hid (H1.out.later n2)
  clear H1 n2 HA hs1 M0 M1 M2
  have HP0 : Hid (Pl w (w2.alloc (.cells #[] OT)) p bm (.slice none 0 0) (.slice (some ⟨w2.heap.size, 0, none⟩) 0 0) 0 (fresh Z m gp) Z m gp) := Lib.hid
    ⟨H2.out.later ((Turns.refl _ _).alloc _), (Lies.made w2 OT).mono H2.out.n.size, (fun g hg hf => by
      have hg' : w2.heap.size = g := by simpa [Value.ownBlock] using hg
      rcases hf with rfl | rfl | hf
      · have := H2.out.rg.lt; omega
      · have := H2.out.rg.mlt; omega
      · simp [Value.ownBlock] at hf), rfl, rfl, rfl, Int.le_refl 0⟩
  go_upto_region 6 with fail
  refine (show Code.wp _ _ _ _ (w2.alloc (.cells #[] OT)) from ?_)
  generalize hv0 : Value.slice (some ⟨w2.heap.size, 0, none⟩) 0 0 = v0 at *
  clear hv0
  generalize w2.alloc (.cells #[] OT) = w3 at *
  clear H2
  go_wp2_with fail
  go_loopw [11, 12, 13, 14] (fun v t s i wr => ∃ k : Nat, ∃ pv : Value, ∃ r : R, ∃ T : Int, k ≤ n ∧ k ≤ 120 ∧ i = .int .i64 k ∧ t = .int .i64 T ∧ 0 ≤ T ∧ T ≤ 15 * k ∧ s = .int .i64 r.sent ∧ Pl w wr p bm pv v k r Z m gp) (fun _ _ _ i _ => 120 - (intOf i).toNat)
  case atStart => exact ⟨0, _, _, 0, Nat.zero_le _, by omega, rfl, rfl, Int.le_refl _, Int.le_refl _, rfl, HP0.out⟩
  case round =>
    obtain ⟨k, pv, r, T, hk, hk120, rfl, rfl, T0, T1, rfl, hpl⟩ := hrel
    have HP := Lib.hid hpl
    clear hpl HP0
    by_cases hgo : k < n ∧ k < 120
    · obtain ⟨hlt, hlt2⟩ := hgo
      obtain ⟨b, off, rfl, hb, hcells⟩ := HC.out.resolve_left (by omega)
      obtain ⟨r0, r1, r2, r3⟩ := hcells k hlt
      obtain ⟨wf1, wf2, wf3, hrow, hcap1, hcap2⟩ := HW.out k hlt
      have hnw := HP.out.own.n
      have c0 := (hnw.cell hb (fun h => h)).trans r0
      have c1 := (hnw.cell (a := ⟨b, off + k * 4 + 1, none⟩) hb (fun h => h)).trans r1
      have c2 := (hnw.cell (a := ⟨b, off + k * 4 + 2, none⟩) hb (fun h => h)).trans r2
      have c3 := (hnw.cell (a := ⟨b, off + k * 4 + 3, none⟩) hb (fun h => h)).trans r3
      have hq0 : 0 ≤ (z k).n := by simp [Lit.wf, IntKind.min, IntKind.max, IntKind.bits, IntKind.signed] at wf2; omega
      have hq1 : (z k).n ≤ 65535 := by simp [Lit.wf, IntKind.min, IntKind.max, IntKind.bits, IntKind.signed] at wf2; omega
      have HROW := Lib.hid hrow
      clear r0 r1 r2 r3 hb hcells hnw wf1 wf2 hrow
      generalize z k = zz at *
      obtain ⟨kd, q, s, ta, tn, tc, tz⟩ := zz
      dsimp only at *
      have hrow2 := HROW.out
      have HP2 : Hid (Pl w (wr.alloc (.cells #[.int .i64 kd, .int .u16 q, .string s, .slice ta tn tc] 32)) p bm pv u11 k r Z m gp) := Lib.hid (HP.out.later ((Turns.refl _ _).alloc _))
      have BA : Hid (Blk (wr.alloc (.cells #[.int .i64 kd, .int .u16 q, .string s, .slice ta tn tc] 32)) wr.heap.size #[.int .i64 kd, .int .u16 q, .string s, .slice ta tn tc] 32 ∧ w.heap.size ≤ wr.heap.size ∧ ∀ i, Foot p bm pv i → i < wr.heap.size) := Lib.hid ⟨Blk.new _ _ _, HP.out.own.n.size, (fun i hi => by
        rcases hi with rfl | rfl | hi
        · exact HP.out.own.rg.lt
        · exact HP.out.own.rg.mlt
        · exact HP.out.own.rg.vlt i hi)⟩
      clear HP hrow2
      go_upto_region 11 with fail
      refine (show Code.wp _ _ _ _ (wr.alloc (.cells #[.int .i64 kd, .int .u16 q, .string s, .slice ta tn tc] 32)) from ?_)
      generalize wr.alloc (.cells #[.int .i64 kd, .int .u16 q, .string s, .slice ta tn tc] 32) = w4 at *
      generalize wr.heap.size = pa at *
      obtain ⟨x0, x1, x2, x3⟩ : _ ∧ _ ∧ _ ∧ _ := ⟨BA.out.1.cell 0, BA.out.1.cell 1, BA.out.1.cell 2, BA.out.1.cell 3⟩
      clear c0 c1 c2 c3
      go_upto_block 2 with fail
      go_cut [11, 12, 13] (fun v t ss wx => ∃ pv' : Value, ∃ r' : R, ∃ T' : Int, t = .int .i64 T' ∧ 0 ≤ T' ∧ T' ≤ 15 * ((k + 1 : Nat) : Int) ∧ ss = .int .i64 r'.sent ∧ Pl w wx p bm pv' v (k + 1) r' Z m gp ∧ Blk wx pa #[.int .i64 kd, .int .u16 q, .string s, .slice ta tn tc] 32)
      case first =>
        have hpaf : ¬ Foot p bm pv pa := fun h => Nat.lt_irrefl _ (BA.out.2.2 pa h)
        have HSZ : Hid (r.size = Z ∧ r.most = m ∧ r.gap = gp ∧ r.L.length ≤ Z) := Lib.hid ⟨HP2.out.sz, HP2.out.ms, HP2.out.gs, HP2.out.len⟩
        have hsent := HP2.out.sent
        have hsent0 := HP2.out.own.rg.ok.s0
        by_cases k1 : kd = 1
        · subst k1
          as_aux_lemma =>
            have HCU := Lib.hid (fun w => cut s 10 (by omega) w)
            have HPU := Lib.hid (fun (t : ByteArray) => put p bm pv k r q t w4 HP2.out.own.rg hq0 hq1 (by omega))
            generalize cutS s 10 = t at *
            go_wp2_with fail
            refine (HCU.out _).mono ?_
            rintro e wc ⟨rfl, rfl⟩
            go_wp2_with fail
            refine (HPU.out t).mono ?_
            rintro e w5 ⟨rfl, h5⟩
            obtain ⟨pv', ho⟩ := HP2.out.own.put h5
            obtain ⟨_, _, ht5, _⟩ := h5
            have hba5 := ht5.blk BA.out.1 hpaf
            have hrow5 := HP2.out.rows.turns' ht5 HP2.out.apart
            have HR5 := Lib.hid (fun w' (h : LR w.heap.size w' u11 r.L) (hB : w.heap.size ≤ w'.heap.size) => rput w.heap.size u11 r.L Z q t w' h HSZ.out.2.2.2 hZ0 (by omega) hB)
            have HO5 := Lib.hid ho
            have HB5 := Lib.hid hba5
            have HRW5 := Lib.hid hrow5
            have HSZ5 : Hid (w.heap.size ≤ w5.heap.size) := Lib.hid ho.n.size
            have x1' := hba5.cell 1
            clear ht5 hba5 hrow5 ho x0 x1 x2 x3
            go_wp2_with fail
            refine (HR5.out _ HRW5.out HSZ5.out).mono ?_
            rintro e w6 ⟨v6, rfl, hr6, hn6⟩
            have hr6' : LR w5.heap.size w6 v6 (putR r q t).L := by
              rw [← putL_is r q t (by rw [HSZ.out.1]; exact HSZ.out.2.2.2) (by rw [HSZ.out.1]; exact hZ0), HSZ.out.1]; exact hr6
            have HPL := Lib.hid (HP2.out.put HO5.out hr6' hn6 HSZ5.out)
            have HB6 := Lib.hid (hn6.blk HB5.out (fun h => h))
            have hse : Hid ((putR r q t).sent = r.sent) := Lib.hid (by unfold putR; split <;> rfl)
            clear hr6 hr6' hn6
            go_wp2_with fail
            go_meet
            case rel => exact ⟨pv', _, T, rfl, T0, by omega, by rw [hse.out], HPL.out, HB6.out⟩
        · have k1b : (kd == 1) = false := by simpa using k1
          by_cases k2 : kd = 2
          · subst k2
            as_aux_lemma =>
              have HAG := Lib.hid (again p bm pv k r q T w4 HP2.out.own.rg hq0 hq1 T0 (by omega) (by omega))
              have HRA := Lib.hid (fun w' (h : LR w.heap.size w' u11 r.L) (hB : w.heap.size ≤ w'.heap.size) => ragain w.heap.size u11 r q T w' h HP2.out.own.rg.ok (by have := HSZ.out.2.2.2; omega) hB (by rw [HSZ.out.2.1]; omega) (by rw [HSZ.out.2.2.1]; omega) T0 (by omega))
              rw [HSZ.out.2.1, HSZ.out.2.2.1] at HRA
              have hse := againR_sentE r q T
              have HKE := Lib.hid (againR_keep r q T)
              generalize againR r q T = r' at *
              generalize againE r q T = ee at *
              generalize againS r q T = ss at *
              have HSE := Lib.hid hse
              clear hse
              go_wp2_with fail
              refine HAG.out.mono ?_
              rintro e w5 ⟨rfl, h5⟩
              have hba5 := h5.2.blk BA.out.1 hpaf
              have hrow5 := HP2.out.rows.turns' h5.2 HP2.out.apart
              have HB5 := Lib.hid hba5
              have HRW5 := Lib.hid hrow5
              have HL5 := Lib.hid h5
              have HSZ5 : Hid (w.heap.size ≤ w5.heap.size) := Lib.hid (HP2.out.own.left h5).n.size
              have x1' := hba5.cell 1
              clear hba5 hrow5 h5 x0 x1 x2 x3
              go_wp2_with fail
              refine (HRA.out _ HRW5.out HSZ5.out).mono ?_
              rintro e w6 ⟨v6, rfl, hr6, hn6, ha6⟩
              have HB6 := Lib.hid (hn6.blk HB5.out (fun h => h))
              have hss : (ss.toList == ss.toList) = true := by simp
              by_cases he : ee = 0
              · subst he
                have HPL := Lib.hid (HP2.out.again HL5.out hr6 hn6 ha6 HKE.out (by rw [HSE.out, if_pos rfl]; omega))
                have hse2 : Hid (r'.sent = r.sent + 1) := Lib.hid (by rw [HSE.out, if_pos rfl])
                clear hr6 hn6 ha6
                have hw1 : IntKind.i64.wrap (r.sent + 1) = r.sent + 1 := IntWalk.i64_in _ (by omega)
                go_wp2_with fail
                go_meet
                case rel => exact ⟨pv, _, T, rfl, T0, by omega, by rw [hse2.out], HPL.out, HB6.out⟩
              · have heb : (ee == 0) = false := by simpa using he
                have hee : (ee == ee) = true := by simp
                have HPL := Lib.hid (HP2.out.again HL5.out hr6 hn6 ha6 HKE.out (by rw [HSE.out, if_neg he]; omega))
                have hse2 : Hid (r'.sent = r.sent) := Lib.hid (by rw [HSE.out, if_neg he]; omega)
                clear hr6 hn6 ha6 he
                go_wp2_with fail
                go_meet
                case rel => exact ⟨pv, _, T, rfl, T0, by omega, by rw [hse2.out], HPL.out, HB6.out⟩
          · have k2b : (kd == 2) = false := by simpa using k2
            by_cases k3 : kd = 3
            · subst k3
              as_aux_lemma =>
                have hand := and16 q hq0 hq1
                have hw1 : IntKind.i64.wrap (T + q % 16) = T + q % 16 := IntWalk.i64_in _ (by omega)
                have HPM := Lib.hid HP2.out.more
                have HBB := Lib.hid BA.out.1
                clear hpaf hsent hsent0
                go_wp2_with fail
                go_meet
                case rel => exact ⟨pv, r, T + q % 16, rfl, by omega, by omega, rfl, HPM.out, HBB.out⟩
            · have k3b : (kd == 3) = false := by simpa using k3
              by_cases k4 : kd = 4
              · subst k4
                as_aux_lemma =>
                  have hrow := HROW.out
                  obtain ⟨hrn, hrw, hrc⟩ := hrow
                  have HRC := Lib.hid hrc
                  have HRW := Lib.hid hrw
                  obtain ⟨N, hN⟩ : ∃ N : Nat, N = min tn 9 := ⟨_, rfl⟩
                  have HNN : Hid (N ≤ tn ∧ N ≤ 9 ∧ N = min tn 9) := Lib.hid (by omega)
                  have hN9 : N ≤ 9 := by omega
                  have htnm : tn ≤ maxLen := hrn
                  clear hN hrc hrw
                  unfold maxLen at hcap2
                  have HSP := Lib.hid HP2.out.own.n
                  clear k1 k2 k3 hpaf
                  go_upto_if 135 with fail
                  go_cut [23] (fun v wx => v = .slice ta N tc ∧ w4 = wx)
                  case first =>
                    by_cases h9 : 9 < tn
                    · have e9 : Hid (N = 9) := Lib.hid (by have := HNN.out; omega)
                      go_wp2_with fail
                      go_meet
                      case rel => exact ⟨by rw [e9.out], rfl⟩
                    · have e9 : Hid (N = tn) := Lib.hid (by have := HNN.out; omega)
                      go_wp2_with fail
                      go_meet
                      case rel => exact ⟨by rw [e9.out], rfl⟩
                  case rest =>
                    obtain ⟨rfl, rfl⟩ := hcut
                    have HFO : Hid (∀ i, Foot p bm pv i → i < w4.heap.size) := Lib.hid (fun i hi => by have := BA.out.2.2 i hi; have := BA.out.1.lt; omega)
                    have HQ0 : Hid (Qs w w4 w4 p bm pv u11 (.slice none 0 0) r []) := Lib.hid ⟨Turns.refl _ _, Owns.nil _ _, (fun g hg => by simp [Value.ownBlock] at hg), HP2.out.rows, HP2.out.apart, (fun g _ h => by simp [Value.ownBlock] at h)⟩
                    go_wp2_with fail
                    go_loopw [11, 13, 22, 140] (fun vl s vw i wx => ∃ j : Nat, j ≤ N ∧ i = .int .i64 j ∧ s = .int .i64 (allSt r T tz j).1.sent ∧ Qs w w4 wx p bm pv vl vw (allSt r T tz j).1 (allSt r T tz j).2) (fun _ _ _ i _ => N - (intOf i).toNat)
                    case atStart => exact ⟨0, Nat.zero_le _, rfl, rfl, HQ0.out⟩
                    case round =>
                      obtain ⟨j, hj, rfl, rfl, hqs⟩ := hrel
                      have HQS := Lib.hid hqs
                      clear hqs HQ0
                      by_cases hlt3 : j < N
                      · as_aux_lemma =>
                          obtain ⟨bt, ot, hta, hbt, hct⟩ := HRC.out.resolve_left (by have := HNN.out; omega)
                          have hlt4 : j < tn := by have := HNN.out; omega
                          have hnw : New w _ := HSP.out.trans (HQS.out.new.mono (fun _ _ h => h.elim))
                          have hcl := (hnw.cell (a := ⟨bt, ot + j, none⟩) hbt (fun h => h)).trans (hct j hlt4)
                          have hHB : Hid (w.heap.size ≤ _) := Lib.hid hnw.size
                          have hwq := HRW.out j hlt4
                          have hz0 : 0 ≤ tz j := by simp [Lit.wf, IntKind.min, IntKind.max, IntKind.bits, IntKind.signed] at hwq; omega
                          have hz1 : tz j ≤ 65535 := by simp [Lit.wf, IntKind.min, IntKind.max, IntKind.bits, IntKind.signed] at hwq; omega
                          have hke := allSt_keep r T tz j
                          have hLl := allSt_L r T tz j
                          have hcnt := allSt_count r T tz j
                          have hlen := allSt_len r T tz j
                          have hokj := allSt_ok HP2.out.own.rg.ok T0 (by omega : T ≤ 1048576) tz j (by omega)
                          have HRA := Lib.hid (fun v' w' (h : LR w.heap.size w' v' (allSt r T tz j).1.L) (hB : w.heap.size ≤ w'.heap.size) => ragain w.heap.size v' (allSt r T tz j).1 (tz j) T w' h hokj (by rw [hLl]; have := HSZ.out.2.2.2; omega) hB (by rw [hke.2.1, HSZ.out.2.1]; omega) (by rw [hke.2.2, HSZ.out.2.2.1]; omega) T0 (by omega))
                          rw [hke.2.1, hke.2.2, HSZ.out.2.1, HSZ.out.2.2.1] at HRA
                          have HSTEP : Hid (allSt r T tz (j + 1) = (againR (allSt r T tz j).1 (tz j) T, if againE (allSt r T tz j).1 (tz j) T = 0 then (allSt r T tz j).2 ++ [againS (allSt r T tz j).1 (tz j) T] else (allSt r T tz j).2)) := Lib.hid rfl
                          have HSE := Lib.hid (againR_sentE (allSt r T tz j).1 (tz j) T)
                          have hsj0 : 0 ≤ (allSt r T tz j).1.sent := hokj.s0
                          have hsj1 : (allSt r T tz j).1.sent ≤ 2000 := by omega
                          have HLE := Lib.hid hlen
                          subst hta
                          clear hke hLl hcnt hlen hokj hct hbt hwq hnw
                          generalize (allSt r T tz j).2 = tj at *
                          generalize (allSt r T tz j).1 = rj at *
                          generalize againS rj (tz j) T = ss at *
                          generalize againE rj (tz j) T = ee at *
                          generalize againR rj (tz j) T = rj' at *
                          generalize tz j = qj at *
                          go_wp2_with fail
                          refine (HRA.out _ _ HQS.out.rows hHB.out).mono ?_
                          rintro e w6 ⟨v6, rfl, hr6, hn6, ha6⟩
                          have HQ6 := Lib.hid (HQS.out.asked hr6 hn6 ha6 HFO.out)
                          clear hr6 hn6 ha6 hcl
                          by_cases he : ee = 0
                          · subst he
                            rw [if_pos rfl] at HSTEP HSE
                            have hle9 := HLE.out
                            have hw1 : IntKind.i64.wrap (rj.sent + 1) = rj.sent + 1 := IntWalk.i64_in _ (by omega)
                            go_wp2_with (at_builtin; refine wpList_append_one (E := SE) Try.underlying40 infoStr rfl (by decide) (by decide) rfl _ _ rfl _ tj ss rfl (HQ6.out.want.turns (S := fun _ => False) ((Turns.refl _ _).alloc _) (fun _ _ h => h)) w6.heap.size rfl (heap_alloc_new w6 _) (by omega) ?_; intro v7 w7 hown7 hgrow7 hat7)
                            have HQ7 := Lib.hid (HQ6.out.push hown7 hgrow7 hat7)
                            clear hown7 hgrow7 hat7
                            go_roundw
                            case rel => exact ⟨j + 1, by omega, by go_num, by rw [HSTEP.out, HSE.out], by rw [HSTEP.out]; exact HQ7.out⟩
                            case measure => simp [intOf]; omega
                          · rw [if_neg he] at HSTEP HSE
                            have heb : (ee == 0) = false := by simpa using he
                            clear he
                            go_wp2_with fail
                            go_roundw
                            case rel => exact ⟨j + 1, by omega, by go_num, by rw [HSTEP.out, HSE.out]; simp, by rw [HSTEP.out]; exact HQ6.out⟩
                            case measure => simp [intOf]; omega
                      · as_aux_lemma =>
                          obtain rfl : j = N := by omega
                          clear hlt3 hj
                          have hnw : New w wr := HSP.out.trans (HQS.out.new.mono (fun _ _ h => h.elim))
                          have hrow5 : IntRow .u16 wr ta j tc tz := ⟨by unfold maxLen; omega, fun i hi => HRW.out i (by have := HNN.out; omega), by
                            rcases HRC.out with h0 | ⟨bt, ot, hta, hbt, hct⟩
                            · left; have := HNN.out; omega
                            · exact .inr ⟨bt, ot, hta, Nat.lt_of_lt_of_le hbt hnw.size, fun i hi => (hnw.cell (a := ⟨bt, ot + i, none⟩) hbt (fun h => h)).trans (hct i (by have := HNN.out; omega))⟩⟩
                          have hcf : ∀ b off, j ≠ 0 → ta = some ⟨b, off, none⟩ → ¬ Foot p bm pv b := by
                            intro b off hj0 hta hfo
                            rcases HRC.out with h0 | ⟨bt, ot, hta2, hbt, hct⟩
                            · have := HNN.out; omega
                            · rw [hta] at hta2
                              injection hta2 with e
                              injection e with e _
                              have := HP2.out.own.foot hfo; omega
                          have HALL := Lib.hid (all p bm pv k r T ta j tc tz wr (HP2.out.own.later HQS.out.new).rg T0 (by omega) hrow5 hcf (by omega) (by omega))
                          have hle9 := allSt_len r T tz j
                          have HCNT := Lib.hid (allSt_count r T tz j)
                          have HKE := Lib.hid (allSt_keep r T tz j)
                          have HPAF : Hid (¬ Foot p bm pv pa) := Lib.hid (fun h => Nat.lt_irrefl _ (BA.out.2.2 pa h))
                          clear hrow5 hcf hnw
                          generalize (allSt r T tz j).2 = tl at *
                          generalize (allSt r T tz j).1 = rj at *
                          have htl : tl.length ≤ 9 := by omega
                          go_wp2_with fail
                          refine HALL.out.mono ?_
                          rintro e w6 ⟨v6, rfl, hown6, hb6, hl6⟩
                          have hwant : Owns SE StT w6 u22 tl := HQS.out.want.turns hl6.2 (fun g hg hfo => by have := HQS.out.wb g hg; have := HFO.out g hfo; omega)
                          have hrows : LR w.heap.size w6 u11 rj.L := HQS.out.rows.turns' hl6.2 HQS.out.apart
                          have hba6 := hl6.2.blk (HQS.out.new.blk BA.out.1 (fun h => h)) HPAF.out
                          have hpl6 : Pl w w6 p bm pv u11 (k + 1) rj Z m gp := by
                            have ho := (HP2.out.own.later HQS.out.new).left hl6
                            exact ⟨⟨ho.rg.more (Nat.le_succ _), ho.n, ho.p0, ho.m0, ho.v0⟩, hrows, HQS.out.apart, HKE.out.1.trans HP2.out.sz, HKE.out.2.1.trans HP2.out.ms, HKE.out.2.2.trans HP2.out.gs, by have := HCNT.out; omega⟩
                          obtain ⟨ao6, c6, hv6, hc6, hrd6, _⟩ := hown6.form
                          obtain ⟨aow, cw, hvw, hcw, hrdw, _⟩ := hwant.form
                          have HFIN := Lib.hid (And.intro hpl6 hba6)
                          have HR6 := Lib.hid hrd6
                          have HRW6 := Lib.hid hrdw
                          have hs6 : Hid (rj.sent ≤ 10 * ((k + 1 : Nat) : Int)) := Lib.hid hpl6.sent
                          clear hl6 hown6 hwant hrows hba6 hpl6 hrd6 hrdw hb6 HALL HQS HRC HRW HCNT
                          subst hv6 hvw
                          have hlm : tl.length ≤ maxLen := by unfold maxLen; omega
                          go_wp2_with fail
                          go_loopw [30, 175] (fun _ i wx => ∃ jj : Nat, ∃ nq : Nat, jj ≤ tl.length ∧ i = .int .i64 jj ∧ wx = w6.drewN nq) (fun _ i _ => tl.length - (intOf i).toNat)
                          case atStart => exact ⟨0, 0, Nat.zero_le _, rfl, rfl⟩
                          case round =>
                            obtain ⟨jj, nq, hjj, rfl, rfl⟩ := hrel
                            by_cases hlt5 : jj < tl.length
                            · as_aux_lemma =>
                                obtain ⟨tx, htx⟩ : ∃ tx, tl[jj]? = some tx := ⟨_, List.getElem?_eq_getElem hlt5⟩
                                have hne : tl ≠ [] := fun e => by rw [e] at hlt5; exact absurd hlt5 (Nat.not_lt_zero _)
                                obtain ⟨g6, rfl, _, hc6'⟩ := HR6.out.resolve_left hne
                                obtain ⟨gw, rfl, _, hcw'⟩ := HRW6.out.resolve_left hne
                                have e6 : w6.cell? ⟨g6, jj, none⟩ = some (.string tx) := by have := hc6' jj tx htx 0 _ rfl; rwa [show SE.n = 1 from rfl, Nat.mul_one, Nat.add_zero] at this
                                have ew : w6.cell? ⟨gw, jj, none⟩ = some (.string tx) := by have := hcw' jj tx htx 0 _ rfl; rwa [show SE.n = 1 from rfl, Nat.mul_one, Nat.add_zero] at this
                                have hss : (tx.toList == tx.toList) = true := by simp
                                have b0 : (0 : Int) ≤ (jj : Int) := by omega
                                have b1 : (jj : Int) < (tl.length : Int) := by omega
                                clear htx hne hc6' hcw'
                                go_wp2_with fail
                                go_quiet (fail)
                                go_wp2_with fail
                                go_roundw
                                case rel => exact ⟨jj + 1, _, by omega, by go_num, rfl⟩
                                case measure => simp [intOf]; omega
                            · as_aux_lemma =>
                                obtain rfl : jj = tl.length := by omega
                                have HFQ : Hid (Pl w (w6.drewN nq) p bm pv u11 (k + 1) rj Z m gp ∧ Blk (w6.drewN nq) pa #[.int .i64 4, .int .u16 q, .string s, .slice ta tn tc] 32) := Lib.hid ⟨HFIN.out.1.later ((Turns.refl _ _).drewN nq), HFIN.out.2⟩
                                go_wp2_with fail
                                go_meet
                                case rel => exact ⟨pv, rj, T, rfl, T0, by omega, rfl, HFQ.out.1, HFQ.out.2⟩
              · have k4b : (kd == 4) = false := by simpa using k4
                have HPM := Lib.hid HP2.out.more
                have HBB := Lib.hid BA.out.1
                clear hpaf hsent hsent0 k1 k2 k3 k4
                go_wp2_with fail
                go_meet
                case rel => exact ⟨pv, r, T, rfl, T0, by omega, rfl, HPM.out, HBB.out⟩
      case rest =>
        obtain ⟨pv', r', T', rfl, hT0, hT1, rfl, hpl, hba⟩ := hcut
        have HQ := Lib.hid hpl
        have y1 := hba.cell 1
        have HB := Lib.hid hba
        clear hpl hba HP2 BA x0 x1 x2 x3
        have HSN := Lib.hid (fun w' (h : Rg w' p bm pv' (k + 1) r') => sent p bm pv' (k + 1) r' w' h)
        have HLN := Lib.hid (fun w' (h : Rg w' p bm pv' (k + 1) r') => len p bm pv' (k + 1) r' w' h)
        have hll : r'.L.length ≤ 16 := by have := HQ.out.len; omega
        have HFI := Lib.hid (fun w' (h : LR w.heap.size w' u11 r'.L) => rfind w.heap.size u11 r'.L q w' h (by omega))
        cases hf : lastIdx r'.L q with
        | none =>
          as_aux_lemma =>
            have HG := Lib.hid (get_none p bm pv' (k + 1) r' q wc HQ.out.own.rg hq0 hq1 hf)
            have hix : idxI r'.L q = -1 := by unfold idxI; rw [hf]
            rw [hix] at HFI
            obtain ⟨g, o, c', hv, _⟩ := HQ.out.rows.cell
            subst hv
            clear hf hix
            go_wp2_with fail
            refine HG.out.mono ?_
            rintro e w7 ⟨rfl, rfl⟩
            go_wp2_with fail
            refine (HFI.out _ HQ.out.rows).mono ?_
            rintro e w8 ⟨rfl, hn8⟩
            have H8 := Lib.hid (HQ.out.later hn8)
            clear hn8
            go_wp2_with (first
              | (go_at_call 21; (with_reducible refine (HLN.out _ H8.out.own.rg).mono ?_); rintro e w' ⟨rfl, rfl⟩)
              | (go_at_call 22; (with_reducible refine (HSN.out _ H8.out.own.rg).mono ?_); rintro e w' ⟨rfl, rfl⟩))
            go_roundw
            case rel => exact ⟨k + 1, pv', r', T', by omega, by omega, by go_num, rfl, hT0, hT1, rfl, H8.out⟩
            case measure => simp [intOf]; omega
        | some i =>
          as_aux_lemma =>
            obtain ⟨x, hx, _⟩ := lastIdx_some hf
            have hil := lastIdx_lt hf
            have HG := Lib.hid (get_some p bm pv' (k + 1) r' q i x wc HQ.out.own.rg hq0 hq1 hf hx)
            have hix : idxI r'.L q = (i : Int) := by unfold idxI; rw [hf]
            rw [hix] at HFI
            obtain ⟨g, o, c', hv, hcc, hcm, hBg, hgl, hcell⟩ := HQ.out.rows.cell
            have hxt := hcell i x hx 1 _ rfl
            subst hv
            have hss : (x.t.toList == x.t.toList) = true := by simp
            have hlm : r'.L.length ≤ maxLen := by unfold maxLen; omega
            have b0 : (0 : Int) ≤ (i : Int) := by omega
            have b1 : (i : Int) < (r'.L.length : Int) := by omega
            have HXT : Hid (∀ w', New wc w' → w'.cell? ⟨g, o + i * 4 + 1, none⟩ = some (.string x.t)) := Lib.hid (fun w' hn => (hn.cell (a := ⟨g, o + i * 4 + 1, none⟩) hgl (fun h => h)).trans hxt)
            clear hf hix hx hcell hxt
            generalize x.t = xt at *
            go_wp2_with fail
            refine HG.out.mono ?_
            rintro e w7 ⟨rfl, rfl⟩
            go_wp2_with fail
            refine (HFI.out _ HQ.out.rows).mono ?_
            rintro e w8 ⟨rfl, hn8⟩
            have H8 := Lib.hid (HQ.out.later hn8)
            have hxt8 := HXT.out w8 hn8
            clear hn8
            go_wp2_with (first
              | (go_at_call 21; (with_reducible refine (HLN.out _ H8.out.own.rg).mono ?_); rintro e w' ⟨rfl, rfl⟩)
              | (go_at_call 22; (with_reducible refine (HSN.out _ H8.out.own.rg).mono ?_); rintro e w' ⟨rfl, rfl⟩))
            go_roundw
            case rel => exact ⟨k + 1, pv', r', T', by omega, by omega, by go_num, rfl, hT0, hT1, rfl, H8.out⟩
            case measure => simp [intOf]; omega
    · have HF := Lib.hid (HP.out.own.n.below (Nat.le_refl _) (fun _ _ h => h.elim))
      clear HP
      by_cases hlt : k < n
      · have hlt2 : ¬ k < 120 := fun h => hgo ⟨hlt, h⟩
        clear hgo hk120
        go_wp2
        go_ret
        exact ⟨rfl, HF.out⟩
      · clear hgo hk120
        go_wp2
        go_ret
        exact ⟨rfl, HF.out⟩
end Go.Proofs.Ytfdmgloimibioaa.rng
