/-
  EgressNone: with no credit nothing goes out.
-/
import Derived.Test.YtcppibjllaablaaZEgrLoop
import Derived.Deep.RegionHeld3
import Derived.Deep.QuietTactic
import Derived.BigQuiet
import Derived.Deep.DeepCutAuto
import Derived.Test.YtcppibjllaablaaZKak
import Derived.Test.YtcppibjllaablaaZKae
set_option linter.unusedVariables false
set_option linter.unusedSimpArgs false
namespace Go.Proofs.Ytcppibjllaablaa.egr
open Go.RowKit mem
set_option linter.unusedVariables false

set_option maxRecDepth 100000 in
set_option maxHeartbeats 4000000 in
theorem none_law (a b : Int) (ao : Option Addr) (n c : Nat) (z : Nat → Int × Int × Int × Bool × Bool) (w : World) (a0 : -9223372036854775808 ≤ a) (a1 : a ≤ 9223372036854775807) (b0 : -9223372036854775808 ≤ b) (b1 : b ≤ 9223372036854775807) (h : args.eactRow w ao n c z) :
    Calls Try.prog 9 #[.int .i64 a, .int .i64 b, .slice ao n c] w fun x w' => x = .returned (.bool true) ∧ Below w.heap.size w w' := by
  have HA := Lib.hid (fun w => awake w)
  have HCF := Lib.hid (configC a b w)
  obtain ⟨hn, hok, hrow⟩ := h
  have HOK := Lib.hid hok
  have HROW := Lib.hid hrow
  clear hok hrow a0 a1 b0 b1
  go_enter Try.func9, Try.ntmps9
  go_wp2_with fail
  refine HCF.out.mono ?_
  rintro x w0 ⟨F, B, G, M, U, rfl, n0, hF, hB, hG, hM, hU0, hU1⟩
  have HN0 := Lib.hid n0
  have HBG := Lib.hid (beginC F B G M U w0 ⟨⟨hF.1, by omega⟩, ⟨by omega, by omega⟩, ⟨hG.1, by omega⟩, ⟨hM.1, by omega⟩, hU0, by omega⟩ hF.2)
  have HBD := Lib.hid (And.intro hF (And.intro hB (And.intro hG (And.intro hM (And.intro hU0 hU1)))))
  clear n0 HCF hF hB hG hM hU0 hU1
  go_wp2_with fail
  refine HBG.out.mono ?_
  rintro x w1 ⟨A, bb, rfl, hbb, hdv, hdc⟩
  have HL0 := Lib.hid (Lq.start HN0.out hbb hdv hdc)
  clear hbb hdv hdc HBG
  obtain ⟨r0, hr0⟩ : ∃ r0 : Eo, r0 = fresh F B G M U := ⟨_, rfl⟩
  have HR0 := Lib.hid hr0
  rw [← hr0] at HL0 ⊢
  clear hr0
  go_upto_region 2 with fail
  refine (show Code.wp _ _ _ _ (w1.alloc (.cells (stS A r0 (.slice none 0 0) (.slice none 0 0) 0 0) STT)) from ?_)
  generalize w1.alloc (.cells (stS A r0 (.slice none 0 0) (.slice none 0 0) 0 0) STT) = w2 at *
  generalize w1.heap.size = ps at *
  have HA2 := Lib.hid (HA.out w2)
  clear HA
  go_wp2_with fail
  refine HA2.out.mono ?_
  rintro x w3 ⟨rfl, n3⟩
  have HL3 := Lib.hid (HL0.out.later n3)
  clear n3 HL0 HA2
  go_wp2_with fail
  go_loopw [9] (fun i wr => ∃ (j : Nat), j ≤ n ∧ j ≤ 80 ∧ i = .int .i64 j ∧ ∃ (k : Nat) (e : Eo) (al : Option Addr) (nl cl : Nat) (ar : Option Addr) (nr cr : Nat) (L : List Rf) (r : Eo) (now nn : Int), Lq w wr ps A k e (.slice al nl cl) (.slice ar nr cr) L r now nn j ∧ r.credit = 0) (fun i _ => n - (intOf i).toNat)
  case atStart => exact ⟨0, Nat.zero_le _, by omega, rfl, _, _, _, _, _, _, _, _, _, _, _, _, HL3.out, by rw [HR0.out]; rfl⟩
  case round =>
    obtain ⟨j, hj, hj2, rfl, k, e, al, nl, cl, ar, nr, cr, L, r, now, nn, hl, hcr⟩ := hrel
    have HL := Lib.hid hl
    have HCR0 := Lib.hid hcr
    clear hl hcr HL3
    by_cases hlt : j < n
    · by_cases h120 : j < 80
      · have hh := hlt
        obtain ⟨bk, off, rfl, hb, hc⟩ := HROW.out.resolve_left (by omega)
        have hzo := argOf_ra (HOK.out j hlt)
        have hzc := hc j hlt
        have e0 := (HL.out.new.cell (a := ⟨bk, off + j * 5, none⟩) hb (fun h => h)).trans hzc.1
        have e1 := (HL.out.new.cell (a := ⟨bk, off + j * 5 + 1, none⟩) hb (fun h => h)).trans hzc.2.1
        have e2 := (HL.out.new.cell (a := ⟨bk, off + j * 5 + 2, none⟩) hb (fun h => h)).trans hzc.2.2.1
        have e3 := (HL.out.new.cell (a := ⟨bk, off + j * 5 + 3, none⟩) hb (fun h => h)).trans hzc.2.2.2.1
        have e4 := (HL.out.new.cell (a := ⟨bk, off + j * 5 + 4, none⟩) hb (fun h => h)).trans hzc.2.2.2.2
        have hbl : bk < wr.heap.size := Nat.lt_of_lt_of_le hb HL.out.new.size
        clear hzc hc hb
        generalize z j = zk at *
        obtain ⟨kd, id, an, ky, vd⟩ := zk
        have HRA : Hid (Ra ⟨kd, id, an, ky, vd⟩) := Lib.hid hzo
        clear hzo
        dsimp only at *
        have d1 : decide ((j : Int) < (n : Int)) = true := decide_eq_true (by omega)
        have d2 : decide ((j : Int) < 80) = true := decide_eq_true (by omega)
        have i0 : (0 : Int) ≤ (j : Int) := by omega
        have i1 : (j : Int) < (n : Int) := by omega
        have hw : IntKind.i64.wrap ((j : Int) + 1) = (j : Int) + 1 := IntWalk.i64_in _ (by omega)
        have HPX : Hid (Blk (wr.alloc (.cells (acs ⟨kd, id, an, ky, vd⟩) ACT)) wr.heap.size (acs ⟨kd, id, an, ky, vd⟩) ACT) := Lib.hid (Blk.new _ _ _)
        have HLX := Lib.hid (HL.out.later ((Turns.refl _ _).alloc (.cells (acs ⟨kd, id, an, ky, vd⟩) ACT)))
        have HPL : Hid (w.heap.size ≤ wr.heap.size ∧ wr.heap.size ≠ ps) := Lib.hid ⟨HL.out.new.size, by have := HL.out.box.lt; omega⟩
        go_upto_region 8 with fail
        refine (show Code.wp _ _ _ _ (wr.alloc (.cells (acs ⟨kd, id, an, ky, vd⟩) ACT)) from ?_)
        clear e0 e1 e2 e3 e4 hbl HL
        generalize wr.alloc (.cells (acs ⟨kd, id, an, ky, vd⟩) ACT) = wA at *
        generalize wr.heap.size = px at *
        have a0 : wA.cell? ⟨px, 0, none⟩ = some (.int .i64 kd) := HPX.out.cell 0
        have f0 := HPX.out.free 0
        go_cut [45] (fun v wx => v = .bool (kd == 2) ∧ wA = wx)
        case first =>
          go_wp2_with fail
          go_meet
          case rel => exact ⟨rfl, rfl⟩
        case rest =>
        obtain ⟨rfl, rfl⟩ := hcut
        go_upto_if 45 with fail
        go_cut [] (fun wx => ∃ kd2 : Int, kd2 ≠ 2 ∧ Ra ⟨kd2, id, an, ky, vd⟩ ∧ Blk wx px (acs ⟨kd2, id, an, ky, vd⟩) ACT ∧ Lq w wx ps A k e (.slice al nl cl) (.slice ar nr cr) L r now nn j)
        case first =>
          cases hkd : (kd == 2) with
          | true =>
            have t9 : Turns (· = px) wA (wA.setCell ⟨px, 0, none⟩ (.int .i64 3)) := (Turns.refl (· = px) _).setCell (.inl rfl) _
            have HZ : Hid (Blk (wA.setCell ⟨px, 0, none⟩ (.int .i64 3)) px (acs ⟨3, id, an, ky, vd⟩) ACT ∧ Lq w (wA.setCell ⟨px, 0, none⟩ (.int .i64 3)) ps A k e (.slice al nl cl) (.slice ar nr cr) L r now nn j) := Lib.hid ⟨HPX.out.set 0 _, HLX.out.aside HPX.out HPL.out.1 HPL.out.2 t9 (by decide) (by decide) (by decide) (by decide) (by decide) (by decide) (by decide) (by decide) (by decide)⟩
            clear t9 hkd
            go_wp2_with fail
            go_meet
            case rel => exact ⟨3, by decide, ⟨HRA.out.i0, HRA.out.i1, HRA.out.n0, HRA.out.n1⟩, HZ.out.1, HZ.out.2⟩
          | false =>
            have HK : Hid (kd ≠ 2) := Lib.hid (by simpa using hkd)
            clear hkd
            go_wp2_with fail
            go_meet
            case rel => exact ⟨kd, HK.out, HRA.out, HPX.out, HLX.out⟩
        case rest =>
        obtain ⟨kd2, hk2, hra2, hpx, hlx⟩ := hcut
        have HRA2 := Lib.hid hra2
        have HK2 := Lib.hid hk2
        have HPY := Lib.hid hpx
        have HLY := Lib.hid hlx
        clear hk2 hra2 hpx hlx a0 f0 HPX HLX
        have HDO := Lib.hid (does w.heap.size wc A k e (.slice al nl cl) (.slice ar nr cr) L r now nn j ⟨kd2, id, an, ky, vd⟩ (HLY.out.pre (Turns.refl _ _)) HLY.out.dc (by omega) HRA2.out)
        obtain ⟨⟨s0, s1, s2, s3, s4, s5, s6, s7, s8, s9, s10, s11, s12, s13, s14⟩, _⟩ := fifteen HLY.out.box
        obtain ⟨a0, a1, a2, a3, a4⟩ : _ ∧ _ ∧ _ ∧ _ ∧ _ := five HPY.out
        go_upto_region 10 with fail
        go_wp2_with fail
        refine HDO.out.mono ?_
        rintro x5 w5 ⟨k', e', vL', vS', L', r', now', n', u, o, rfl, hd, hc, hac, hts⟩
        obtain ⟨al', nl', cl', hvl, hql⟩ := hd.ro.l.form
        obtain ⟨ar', nr', cr', hvs, hqs⟩ := hd.ro.s.form
        obtain ⟨au, nu, cu, hvu, hnu, hq3⟩ := hts.form
        subst hvl hvs hvu
        have HNU := Lib.hid hnu
        have HN0' := Lib.hid (hac.none0 HLY.out.dv.pu HK2.out HCR0.out)
        have HTS := Lib.hid hts
        have HDD := Lib.hid (And.intro hd hc)
        clear hql hqs hnu hq3 hac hts hd hc s0 s1 s2 s3 s4 s5 s6 s7 s8 s9 s10 s11 s12 s13 s14 a0 a1 a2 a3 a4 HDO
        have HTB : Hid (Blk (w5.alloc (.cells (stS A r' (.slice al' nl' cl') (.slice ar' nr' cr') now' n') STT)) w5.heap.size (stS A r' (.slice al' nl' cl') (.slice ar' nr' cr') now' n') STT) := Lib.hid (Blk.new _ _ _)
        have HN6 : Hid (New w5 (w5.alloc (.cells (stS A r' (.slice al' nl' cl') (.slice ar' nr' cr') now' n') STT))) := Lib.hid ((Turns.refl _ _).alloc _)
        have HD6 : Hid (Dv w.heap.size wc (w5.alloc (.cells (stS A r' (.slice al' nl' cl') (.slice ar' nr' cr') now' n') STT)) A k' e' (.slice al' nl' cl') (.slice ar' nr' cr') L' r' now' n') := Lib.hid (HDD.out.1.later HN6.out)
        have hst := HLY.out.step (Turns.refl _ _) HD6.out HDD.out.2
        have HST := Lib.hid hst
        clear hst
        go_upto_region 11 with fail
        refine (show Code.wp _ _ _ _ (w5.alloc (.cells (stS A r' (.slice al' nl' cl') (.slice ar' nr' cr') now' n') STT)) from ?_)
        have HPT : Hid (w5.heap.size ≠ ps) := Lib.hid (by
          have h1 := HLY.out.box.lt
          have h2 := HDD.out.1.ru.sf.t.size
          omega)
        generalize w5.alloc (.cells (stS A r' (.slice al' nl' cl') (.slice ar' nr' cr') now' n') STT) = w6 at *
        generalize w5.heap.size = pt at *
        obtain ⟨⟨s0, s1, s2, s3, s4, s5, s6, s7, s8, s9, s10, s11, s12, s13, s14⟩, _⟩ := fifteen HTB.out
        obtain ⟨⟨t0, t1, t2, t3, t4, t5, t6, t7, t8, t9, t10, t11, t12, t13, t14⟩, y0, y1, y2, y3, y4, y5, y6, y7, y8, y9, y10, y11, y12, y13, y14⟩ := fifteen HST.out.1
        have HTS6 := Lib.hid (HTS.out.later HN6.out)
        have HTS7 : Hid (TS SE RSeT (puts w6 ps 0 (stS A r' (.slice al' nl' cl') (.slice ar' nr' cr') now' n').toList) (.slice au nu cu) o) := Lib.hid (HTS6.out.turns (puts_turns (S := (· = ps)) (.inl rfl) _ 0 _ (Turns.refl _ _)) (fun y hy e => HTS6.out.off HST.out.1 (by decide) (by rw [hy, e])))
        have HL7 := Lib.hid HST.out.2
        go_upto_region 12 with fail
        refine (show Code.wp _ _ _ _ (puts w6 ps 0 (stS A r' (.slice al' nl' cl') (.slice ar' nr' cr') now' n').toList) from ?_)
        clear s0 s1 s2 s3 s4 s5 s6 s7 s8 s9 s10 s11 s12 s13 s14 t0 t1 t2 t3 t4 t5 t6 t7 t8 t9 t10 t11 t12 t13 t14 y0 y1 y2 y3 y4 y5 y6 y7 y8 y9 y10 y11 y12 y13 y14 HST HTB HN6 HD6 HTS6 HTS HPT
        generalize puts w6 ps 0 (stS A r' (.slice al' nl' cl') (.slice ar' nr' cr') now' n').toList = w7 at *
        have s0 : w7.cell? ⟨ps, 0, none⟩ = some (.pointer (some ⟨A.o, 0, none⟩)) := HL7.out.box.cell 0
        have HCE := Lib.hid (credit A k' e' w7 HL7.out.dv.ru.es)
        rw [HL7.out.dv.rq.credit, HN0'.out.1] at HCE
        go_wp2_with fail
        refine HCE.out.mono ?_
        rintro x8 w8 ⟨rfl, hw8⟩
        subst hw8
        clear s0 HCE
        go_wp2_with fail
        go_loopw [65] (fun i wr => ∃ m : Nat, m ≤ nu ∧ i = .int .i64 m ∧ New w8 wr) (fun i _ => nu - (intOf i).toNat)
        case atStart => exact ⟨0, Nat.zero_le _, rfl, Turns.refl _ _⟩
        case round =>
          obtain ⟨m, hm, rfl, hnw⟩ := hrel
          have HNW := Lib.hid hnw
          clear hnw
          by_cases hlm : m < nu
          · obtain ⟨x, hx⟩ : ∃ x, o[m]? = some x := ⟨_, List.getElem?_eq_getElem (by have := HNU.out; omega)⟩
            obtain ⟨g, og, hg, hgl, z0, z1, z2, z3, z4⟩ := snt_at (subN HTS7.out.sub HNW.out) hx
            subst hg
            have hz : x.x.size = 0 := HN0'.out.2 x (List.mem_of_getElem? hx)
            rw [hz] at z2
            have q1 : decide ((m : Int) < (nu : Int)) = true := decide_eq_true (by omega)
            have q2 : (m : Int) < (nu : Int) := by omega
            have hwm : IntKind.i64.wrap ((m : Int) + 1) = (m : Int) + 1 := IntWalk.i64_in _ (by
              have h1 := HTS7.out.form
              obtain ⟨_, _, _, hv, _, h2, h3⟩ := h1
              injection hv with _ e2 e3
              unfold maxLen at h3
              omega)
            clear hx hz
            obtain ⟨xi, xn, xs, xt, xk⟩ := x
            dsimp only at z0 z1 z2 z3 z4
            go_wp2_with fail
            go_roundw
            case rel => exact ⟨m + 1, by omega, by push_cast; go_num, HNW.out.alloc _⟩
            case measure => simp [intOf, hwm]; omega
          · have q1 : decide ((m : Int) < (nu : Int)) = false := decide_eq_false (by omega)
            have q3 : decide (m < nu) = false := decide_eq_false hlm
            have HL9 := Lib.hid (HL7.out.later HNW.out)
            go_wp2_with fail
            go_roundw
            case rel => exact ⟨j + 1, by omega, by omega, by push_cast; go_num, _, _, _, _, _, _, _, _, _, _, _, _, HL9.out, HN0'.out.1⟩
            case measure => simp [intOf, hw]; omega
      · have d1 : decide ((j : Int) < (n : Int)) = true := decide_eq_true (by omega)
        have d2 : decide ((j : Int) < 80) = false := decide_eq_false (by omega)
        have s0 : wr.cell? ⟨ps, 0, none⟩ = some (.pointer (some ⟨A.o, 0, none⟩)) := HL.out.box.cell 0
        have HC0 : Hid (e.credit = 0) := Lib.hid (by rw [HL.out.dv.rq.credit]; exact HCR0.out)
        have H1 := Lib.hid (spend_no A k e 1 wr HL.out.dv.ru.es (.inr (by rw [HC0.out]; decide)))
        have H2 := Lib.hid (spend A k e 0 wr HL.out.dv.ru.es (by decide) (by rw [HC0.out]; decide))
        go_wp2_with fail
        refine H1.out.mono ?_
        rintro x1 w1' ⟨rfl, hw1⟩
        subst hw1
        go_wp2_with fail
        refine H2.out.mono ?_
        rintro x2 w2' ⟨rfl, hes, ht⟩
        have HB2 := Lib.hid ((Sf.out HL.out.dv.ru.es HL.out.dv.ru.lo ht).blk HL.out.box (by decide) (by decide) (by decide) (by decide) (by decide))
        have HN2 : Hid (New w w2') := Lib.hid (HL.out.new.trans (ht.mono (fun i _ hi => .inr (by rw [hi]; exact HL.out.dv.ru.lo.o))))
        have s0' : w2'.cell? ⟨ps, 0, none⟩ = some (.pointer (some ⟨A.o, 0, none⟩)) := HB2.out.cell 0
        have H3 := Lib.hid (spend_no A k _ (-1) w2' hes (.inl (by decide)))
        clear hes ht s0
        go_wp2_with fail
        refine H3.out.mono ?_
        rintro x3 w3' ⟨rfl, hw3⟩
        subst hw3
        go_wp2
        go_ret
        exact ⟨rfl, HN2.out.below (Nat.le_refl _) (fun _ _ h => h.elim)⟩
    · have d1 : decide ((j : Int) < (n : Int)) = false := decide_eq_false (by omega)
      have d2 : decide (j < n) = false := decide_eq_false hlt
      have s0 : wr.cell? ⟨ps, 0, none⟩ = some (.pointer (some ⟨A.o, 0, none⟩)) := HL.out.box.cell 0
      have HC0 : Hid (e.credit = 0) := Lib.hid (by rw [HL.out.dv.rq.credit]; exact HCR0.out)
      have H1 := Lib.hid (spend_no A k e 1 wr HL.out.dv.ru.es (.inr (by rw [HC0.out]; decide)))
      have H2 := Lib.hid (spend A k e 0 wr HL.out.dv.ru.es (by decide) (by rw [HC0.out]; decide))
      go_wp2_with fail
      refine H1.out.mono ?_
      rintro x1 w1' ⟨rfl, hw1⟩
      subst hw1
      go_wp2_with fail
      refine H2.out.mono ?_
      rintro x2 w2' ⟨rfl, hes, ht⟩
      have HB2 := Lib.hid ((Sf.out HL.out.dv.ru.es HL.out.dv.ru.lo ht).blk HL.out.box (by decide) (by decide) (by decide) (by decide) (by decide))
      have HN2 : Hid (New w w2') := Lib.hid (HL.out.new.trans (ht.mono (fun i _ hi => .inr (by rw [hi]; exact HL.out.dv.ru.lo.o))))
      have s0' : w2'.cell? ⟨ps, 0, none⟩ = some (.pointer (some ⟨A.o, 0, none⟩)) := HB2.out.cell 0
      have H3 := Lib.hid (spend_no A k _ (-1) w2' hes (.inl (by decide)))
      clear hes ht s0
      go_wp2_with fail
      refine H3.out.mono ?_
      rintro x3 w3' ⟨rfl, hw3⟩
      subst hw3
      go_wp2
      go_ret
      exact ⟨rfl, HN2.out.below (Nat.le_refl _) (fun _ _ h => h.elim)⟩
end Go.Proofs.Ytcppibjllaablaa.egr
