/-
  EgressPlays: any calls.
-/
import Derived.Test.YtcppibjllaablaaZEgrLoop
import Derived.Deep.RegionHeld3
import Derived.Deep.QuietTactic
import Derived.BigQuiet
import Derived.Deep.DeepCutAuto
import Derived.Test.YtcppibjllaablaaZKae
set_option linter.unusedVariables false
set_option linter.unusedSimpArgs false
namespace Go.Proofs.Ytcppibjllaablaa.egr
open Go.RowKit mem
set_option linter.unusedVariables false

set_option maxRecDepth 100000 in
set_option maxHeartbeats 4000000 in
theorem plays_law (a b : Int) (ao : Option Addr) (n c : Nat) (z : Nat → Int × Int × Int × Bool × Bool) (w : World) (a0 : -9223372036854775808 ≤ a) (a1 : a ≤ 9223372036854775807) (b0 : -9223372036854775808 ≤ b) (b1 : b ≤ 9223372036854775807) (h : args.eactRow w ao n c z) :
    Calls Try.prog 5 #[.int .i64 a, .int .i64 b, .slice ao n c] w fun x w' => x = .returned (.bool true) ∧ Below w.heap.size w w' := by
  have HA := Lib.hid (fun w => awake w)
  have HCF := Lib.hid (configC a b w)
  obtain ⟨hn, hok, hrow⟩ := h
  have HOK := Lib.hid hok
  have HROW := Lib.hid hrow
  clear hok hrow a0 a1 b0 b1
  go_enter Try.func5, Try.ntmps5
  go_wp2_with fail
  refine HCF.out.mono ?_
  rintro x w0 ⟨F, B, G, M, U, rfl, n0, hF, hB, hG, hM, hU0, hU1⟩
  have HN0 := Lib.hid n0
  have HBG := Lib.hid (beginC F B G M U w0 ⟨⟨hF.1, by omega⟩, ⟨by omega, by omega⟩, ⟨hG.1, by omega⟩, ⟨hM.1, by omega⟩, hU0, by omega⟩ hF.2)
  have HBD := Lib.hid (And.intro hF (And.intro hB (And.intro hG (And.intro hM (And.intro hU0 hU1)))))
  clear n0 HCF hF hB hG hM hU0 hU1
  go_wp2_with fail
  refine HBG.out.mono ?_
  rintro x w1 ⟨A, bb, rfl, hbb, hdv, hdc⟩
  have HL0 := Lib.hid (Lq.start HN0.out hbb hdv hdc)
  clear hbb hdv hdc HBG
  obtain ⟨r0, hr0⟩ : ∃ r0 : Eo, r0 = fresh F B G M U := ⟨_, rfl⟩
  have HR0 := Lib.hid hr0
  rw [← hr0] at HL0 ⊢
  clear hr0
  go_upto_region 2 with fail
  refine (show Code.wp _ _ _ _ (w1.alloc (.cells (stS A r0 (.slice none 0 0) (.slice none 0 0) 0 0) STT)) from ?_)
  generalize w1.alloc (.cells (stS A r0 (.slice none 0 0) (.slice none 0 0) 0 0) STT) = w2 at *
  generalize w1.heap.size = ps at *
  have HA2 := Lib.hid (HA.out w2)
  clear HA
  go_wp2_with fail
  refine HA2.out.mono ?_
  rintro x w3 ⟨rfl, n3⟩
  have HL3 := Lib.hid (HL0.out.later n3)
  clear n3 HL0 HA2
  go_wp2_with fail
  go_loopw [9, 8] (fun i ok wr => ∃ (j : Nat), j ≤ n ∧ j ≤ 120 ∧ i = .int .i64 j ∧ ok = .bool true ∧ ∃ (k : Nat) (e : Eo) (al : Option Addr) (nl cl : Nat) (ar : Option Addr) (nr cr : Nat) (L : List Rf) (r : Eo) (now nn : Int), Lq w wr ps A k e (.slice al nl cl) (.slice ar nr cr) L r now nn j) (fun i _ _ => n - (intOf i).toNat)
  case atStart => exact ⟨0, Nat.zero_le _, by omega, rfl, rfl, _, _, _, _, _, _, _, _, _, _, _, _, HL3.out⟩
  case round =>
    obtain ⟨j, hj, hj2, rfl, rfl, k, e, al, nl, cl, ar, nr, cr, L, r, now, nn, hl⟩ := hrel
    have HL := Lib.hid hl
    clear hl HL3
    by_cases hlt : j < n
    · by_cases h120 : j < 120
      · have hh := hlt
        obtain ⟨bk, off, rfl, hb, hc⟩ := HROW.out.resolve_left (by omega)
        have hzo := argOf_ra (HOK.out j hlt)
        have hzc := hc j hlt
        have e0 := (HL.out.new.cell (a := ⟨bk, off + j * 5, none⟩) hb (fun h => h)).trans hzc.1
        have e1 := (HL.out.new.cell (a := ⟨bk, off + j * 5 + 1, none⟩) hb (fun h => h)).trans hzc.2.1
        have e2 := (HL.out.new.cell (a := ⟨bk, off + j * 5 + 2, none⟩) hb (fun h => h)).trans hzc.2.2.1
        have e3 := (HL.out.new.cell (a := ⟨bk, off + j * 5 + 3, none⟩) hb (fun h => h)).trans hzc.2.2.2.1
        have e4 := (HL.out.new.cell (a := ⟨bk, off + j * 5 + 4, none⟩) hb (fun h => h)).trans hzc.2.2.2.2
        have hbl : bk < wr.heap.size := Nat.lt_of_lt_of_le hb HL.out.new.size
        clear hzc hc hb
        generalize z j = zk at *
        obtain ⟨kd, id, an, ky, vd⟩ := zk
        have HRA : Hid (Ra ⟨kd, id, an, ky, vd⟩) := Lib.hid hzo
        clear hzo
        dsimp only at *
        have d1 : decide ((j : Int) < (n : Int)) = true := decide_eq_true (by omega)
        have d2 : decide ((j : Int) < 120) = true := decide_eq_true (by omega)
        have i0 : (0 : Int) ≤ (j : Int) := by omega
        have i1 : (j : Int) < (n : Int) := by omega
        have HDO := Lib.hid (fun W (N : New wr W) => does w.heap.size W A k e (.slice al nl cl) (.slice ar nr cr) L r now nn j ⟨kd, id, an, ky, vd⟩ (HL.out.pre N) HL.out.dc (by omega) HRA.out)
        obtain ⟨⟨s0, s1, s2, s3, s4, s5, s6, s7, s8, s9, s10, s11, s12, s13, s14⟩, y0, y1, y2, y3, y4, y5, y6, y7, y8, y9, y10, y11, y12, y13, y14⟩ := fifteen HL.out.box
        have hpsl := HL.out.box.lt
        go_upto_region 7 with fail
        go_cut [8] (fun v wx => v = .bool true ∧ ∃ (k : Nat) (e : Eo) (al : Option Addr) (nl cl : Nat) (ar : Option Addr) (nr cr : Nat) (L : List Rf) (r : Eo) (now nn : Int), Lq w wx ps A k e (.slice al nl cl) (.slice ar nr cr) L r now nn (j + 1))
        case first =>
          go_region_with (refine (HDO.out _ ((Turns.refl _ _).drewN 1)).mono ?_; rintro x5 w5 ⟨k', e', vL', vS', L', r', now', n', u, o, rfl, hd, hc, hac, hts⟩; have HTS := Lib.hid (And.intro hac hts); obtain ⟨al', nl', cl', hvl, hql⟩ := hd.ro.l.form; obtain ⟨ar', nr', cr', hvs, hqs⟩ := hd.ro.s.form; clear hql hqs hts hac; subst hvl hvs; have hst := HL.out.step ((Turns.refl _ _).drewN 1) hd hc; have HL6 := Lib.hid hst.2; obtain ⟨⟨s'0, s'1, s'2, s'3, s'4, s'5, s'6, s'7, s'8, s'9, s'10, s'11, s'12, s'13, s'14⟩, y'0, y'1, y'2, y'3, y'4, y'5, y'6, y'7, y'8, y'9, y'10, y'11, y'12, y'13, y'14⟩ := fifteen hst.1; clear hst hd hc)
          all_goals
            go_wp2_with fail
            go_meet
            case rel => exact ⟨rfl, _, _, _, _, _, _, _, _, _, _, _, _, by first | exact HL6.out | exact HL6.out.drew⟩
        case rest =>
          obtain ⟨rfl, k', e', al', nl', cl', ar', nr', cr', L', r', now', nn', hl'⟩ := hcut
          have HL' := Lib.hid hl'
          clear hl' e0 e1 e2 e3 e4 s0 s1 s2 s3 s4 s5 s6 s7 s8 s9 s10 s11 s12 s13 s14 y0 y1 y2 y3 y4 y5 y6 y7 y8 y9 y10 y11 y12 y13 y14 HDO HL hbl
          have HIS := Lib.hid (isC w.heap.size w wc A k' e' al' nl' cl' (.slice ar' nr' cr') L' r' now' nn' HL'.out.dv (by have := HL'.out.dc.l; omega))
          obtain ⟨⟨s0, s1, s2, s3, s4, s5, s6, s7, s8, s9, s10, s11, s12, s13, s14⟩, _⟩ := fifteen HL'.out.box
          go_wp2_with fail
          refine HIS.out.mono ?_
          rintro x7 w7 ⟨rfl, n7⟩
          have HL7 := Lib.hid (HL'.out.later n7)
          clear n7 s0 s1 s2 s3 s4 s5 s6 s7 s8 s9 s10 s11 s12 s13 s14 HIS HL'
          have hw : IntKind.i64.wrap ((j : Int) + 1) = (j : Int) + 1 := IntWalk.i64_in _ (by omega)
          go_wp2_with fail
          go_roundw
          case rel => exact ⟨j + 1, by omega, by omega, by push_cast; go_num, rfl, _, _, _, _, _, _, _, _, _, _, _, _, HL7.out⟩
          case measure => simp [intOf, hw]; omega
      · have d1 : decide ((j : Int) < (n : Int)) = true := decide_eq_true (by omega)
        have d2 : decide ((j : Int) < 120) = false := decide_eq_false (by omega)
        go_wp2
        go_ret
        exact ⟨rfl, HL.out.new.below (Nat.le_refl _) (fun _ _ h => h.elim)⟩
    · have d1 : decide ((j : Int) < (n : Int)) = false := decide_eq_false (by omega)
      have d2 : decide (j < n) = false := decide_eq_false hlt
      go_wp2
      go_ret
      exact ⟨rfl, HL.out.new.below (Nat.le_refl _) (fun _ _ h => h.elim)⟩
end Go.Proofs.Ytcppibjllaablaa.egr
