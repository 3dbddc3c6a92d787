/-
  EgressAge: nothing waits that came so long ago.
-/
import Derived.Test.YtcppibjllaablaaZEgrLoop
import Derived.Deep.RegionHeld3
import Derived.Deep.QuietTactic
import Derived.BigQuiet
import Derived.Deep.DeepCutAuto
import Derived.Test.YtcppibjllaablaaZKak
import Derived.Test.YtcppibjllaablaaZKae
set_option linter.unusedVariables false
set_option linter.unusedSimpArgs false
namespace Go.Proofs.Ytcppibjllaablaa.egr
open Go.RowKit mem
set_option linter.unusedVariables false

set_option maxRecDepth 100000 in
set_option maxHeartbeats 4000000 in
theorem age_law (a b : Int) (ao : Option Addr) (n c : Nat) (z : Nat → Int × Int × Int × Bool × Bool) (w : World) (a0 : -9223372036854775808 ≤ a) (a1 : a ≤ 9223372036854775807) (b0 : -9223372036854775808 ≤ b) (b1 : b ≤ 9223372036854775807) (h : args.eactRow w ao n c z) :
    Calls Try.prog 7 #[.int .i64 a, .int .i64 b, .slice ao n c] w fun x w' => x = .returned (.bool true) ∧ Below w.heap.size w w' := by
  have HA := Lib.hid (fun w => awake w)
  have HCF := Lib.hid (configC a b w)
  obtain ⟨hn, hok, hrow⟩ := h
  have HOK := Lib.hid hok
  have HROW := Lib.hid hrow
  clear hok hrow a0 a1 b0 b1
  go_enter Try.func7, Try.ntmps7
  go_wp2_with fail
  refine HCF.out.mono ?_
  rintro x w0 ⟨F, B, G, M, U, rfl, n0, hF, hB, hG, hM, hU0, hU1⟩
  have HN0 := Lib.hid n0
  have HBG := Lib.hid (beginC F B G M U w0 ⟨⟨hF.1, by omega⟩, ⟨by omega, by omega⟩, ⟨hG.1, by omega⟩, ⟨hM.1, by omega⟩, hU0, by omega⟩ hF.2)
  have HBD := Lib.hid (And.intro hF (And.intro hB (And.intro hG (And.intro hM (And.intro hU0 hU1)))))
  clear n0 HCF hF hB hG hM hU0 hU1
  go_wp2_with fail
  refine HBG.out.mono ?_
  rintro x w1 ⟨A, bb, rfl, hbb, hdv, hdc⟩
  have HL0 := Lib.hid (Lq.start HN0.out hbb hdv hdc)
  clear hbb hdv hdc HBG
  obtain ⟨r0, hr0⟩ : ∃ r0 : Eo, r0 = fresh F B G M U := ⟨_, rfl⟩
  have HR0 := Lib.hid hr0
  rw [← hr0] at HL0 ⊢
  clear hr0
  go_upto_region 2 with fail
  refine (show Code.wp _ _ _ _ (w1.alloc (.cells (stS A r0 (.slice none 0 0) (.slice none 0 0) 0 0) STT)) from ?_)
  generalize w1.alloc (.cells (stS A r0 (.slice none 0 0) (.slice none 0 0) 0 0) STT) = w2 at *
  generalize w1.heap.size = ps at *
  have HA2 := Lib.hid (HA.out w2)
  clear HA
  go_wp2_with fail
  refine HA2.out.mono ?_
  rintro x w3 ⟨rfl, n3⟩
  have HL3 := Lib.hid (HL0.out.later n3)
  clear n3 HL0 HA2
  go_wp2_with fail
  go_loopw [9, 10, 11, 8] (fun tk ls i ok wr => ∃ (j : Nat) (ta lo : Nat), j ≤ n ∧ j ≤ 100 ∧ i = .int .i64 j ∧ ok = .bool true ∧ tk = .int .i64 ta ∧ ls = .int .i64 lo ∧ ta ≤ 1000 * j ∧ lo ≤ ta ∧ ∃ (k : Nat) (e : Eo) (al : Option Addr) (nl cl : Nat) (ar : Option Addr) (nr cr : Nat) (L : List Rf) (r : Eo) (now nn : Int), Lq w wr ps A k e (.slice al nl cl) (.slice ar nr cr) L r now nn j ∧ ta = lo + TotR L ∧ r.age = G) (fun _ _ i _ _ => n - (intOf i).toNat)
  case atStart => exact ⟨0, 0, 0, Nat.zero_le _, by omega, rfl, rfl, rfl, rfl, by omega, Nat.le_refl _, _, _, _, _, _, _, _, _, _, _, _, _, HL3.out, rfl, by rw [HR0.out]; rfl⟩
  case round =>
    obtain ⟨j, ta, lo, hj, hj2, rfl, rfl, rfl, rfl, hta, hlo, k, e, al, nl, cl, ar, nr, cr, L, r, now, nn, hl, hcr, hag⟩ := hrel
    have HL := Lib.hid hl
    have HCR0 := Lib.hid (And.intro hcr hag)
    clear hl hcr hag HL3
    by_cases hlt : j < n
    · by_cases h120 : j < 100
      · have hh := hlt
        obtain ⟨bk, off, rfl, hb, hc⟩ := HROW.out.resolve_left (by omega)
        have hzo := argOf_ra (HOK.out j hlt)
        have hzc := hc j hlt
        have e0 := (HL.out.new.cell (a := ⟨bk, off + j * 5, none⟩) hb (fun h => h)).trans hzc.1
        have e1 := (HL.out.new.cell (a := ⟨bk, off + j * 5 + 1, none⟩) hb (fun h => h)).trans hzc.2.1
        have e2 := (HL.out.new.cell (a := ⟨bk, off + j * 5 + 2, none⟩) hb (fun h => h)).trans hzc.2.2.1
        have e3 := (HL.out.new.cell (a := ⟨bk, off + j * 5 + 3, none⟩) hb (fun h => h)).trans hzc.2.2.2.1
        have e4 := (HL.out.new.cell (a := ⟨bk, off + j * 5 + 4, none⟩) hb (fun h => h)).trans hzc.2.2.2.2
        have hbl : bk < wr.heap.size := Nat.lt_of_lt_of_le hb HL.out.new.size
        clear hzc hc hb
        generalize z j = zk at *
        obtain ⟨kd, id, an, ky, vd⟩ := zk
        have HRA : Hid (Ra ⟨kd, id, an, ky, vd⟩) := Lib.hid hzo
        clear hzo
        dsimp only at *
        have d1 : decide ((j : Int) < (n : Int)) = true := decide_eq_true (by omega)
        have d2 : decide ((j : Int) < 100) = true := decide_eq_true (by omega)
        have i0 : (0 : Int) ≤ (j : Int) := by omega
        have i1 : (j : Int) < (n : Int) := by omega
        have hw : IntKind.i64.wrap ((j : Int) + 1) = (j : Int) + 1 := IntWalk.i64_in _ (by omega)
        have HPX : Hid (Blk (wr.alloc (.cells (acs ⟨kd, id, an, ky, vd⟩) ACT)) wr.heap.size (acs ⟨kd, id, an, ky, vd⟩) ACT) := Lib.hid (Blk.new _ _ _)
        have HLX := Lib.hid (HL.out.later ((Turns.refl _ _).alloc (.cells (acs ⟨kd, id, an, ky, vd⟩) ACT)))
        have HPL : Hid (w.heap.size ≤ wr.heap.size ∧ wr.heap.size ≠ ps) := Lib.hid ⟨HL.out.new.size, by have := HL.out.box.lt; omega⟩
        go_upto_region 9 with fail
        refine (show Code.wp _ _ _ _ (wr.alloc (.cells (acs ⟨kd, id, an, ky, vd⟩) ACT)) from ?_)
        clear e0 e1 e2 e3 e4 hbl HL
        generalize wr.alloc (.cells (acs ⟨kd, id, an, ky, vd⟩) ACT) = wA at *
        generalize wr.heap.size = px at *
        have a0 : wA.cell? ⟨px, 0, none⟩ = some (.int .i64 kd) := HPX.out.cell 0
        have f0 := HPX.out.free 0
        go_cut [54] (fun v wx => v = .bool (kd == 2) ∧ wA = wx)
        case first =>
          go_wp2_with fail
          go_meet
          case rel => exact ⟨rfl, rfl⟩
        case rest =>
        obtain ⟨rfl, rfl⟩ := hcut
        go_upto_if 54 with fail
        go_cut [] (fun wx => ∃ kd2 : Int, kd2 ≠ 2 ∧ Ra ⟨kd2, id, an, ky, vd⟩ ∧ Blk wx px (acs ⟨kd2, id, an, ky, vd⟩) ACT ∧ Lq w wx ps A k e (.slice al nl cl) (.slice ar nr cr) L r now nn j)
        case first =>
          cases hkd : (kd == 2) with
          | true =>
            have t9 : Turns (· = px) wA (wA.setCell ⟨px, 0, none⟩ (.int .i64 4)) := (Turns.refl (· = px) _).setCell (.inl rfl) _
            have HZ : Hid (Blk (wA.setCell ⟨px, 0, none⟩ (.int .i64 4)) px (acs ⟨4, id, an, ky, vd⟩) ACT ∧ Lq w (wA.setCell ⟨px, 0, none⟩ (.int .i64 4)) ps A k e (.slice al nl cl) (.slice ar nr cr) L r now nn j) := Lib.hid ⟨HPX.out.set 0 _, HLX.out.aside HPX.out HPL.out.1 HPL.out.2 t9 (by decide) (by decide) (by decide) (by decide) (by decide) (by decide) (by decide) (by decide) (by decide)⟩
            clear t9 hkd
            go_wp2_with fail
            go_meet
            case rel => exact ⟨4, by decide, ⟨HRA.out.i0, HRA.out.i1, HRA.out.n0, HRA.out.n1⟩, HZ.out.1, HZ.out.2⟩
          | false =>
            have HK : Hid (kd ≠ 2) := Lib.hid (by simpa using hkd)
            clear hkd
            go_wp2_with fail
            go_meet
            case rel => exact ⟨kd, HK.out, HRA.out, HPX.out, HLX.out⟩
        case rest =>
        obtain ⟨kd2, hk2, hra2, hpx, hlx⟩ := hcut
        have HRA2 := Lib.hid hra2
        have HK2 := Lib.hid hk2
        have HPY := Lib.hid hpx
        have HLY := Lib.hid hlx
        have hnl := (ts_len hlx.dv.ro.l).1
        have HNL := Lib.hid hnl
        have HLL : Hid (L.length ≤ 100 ∧ ∀ f ∈ L, f.q.L.length ≤ 8) := Lib.hid ⟨by have := hlx.dc.l; omega, hlx.len8⟩
        have hnl2 : nl ≤ 100 := by have := HLL.out.1; omega
        have HT8 : Hid (TotR L ≤ 800) := Lib.hid (by have := tot_len HLL.out.2; have := HLL.out.1; omega)
        clear hk2 hra2 hpx hlx a0 f0 HPX HLX hnl
        have s6 : wc.cell? ⟨ps, 6, none⟩ = some (.slice al nl cl) := HLY.out.box.cell 6
        go_upto_region 11 with fail
        go_wp2_with fail
        go_loopw [13, 60] (fun wa i wr => ∃ m : Nat, m ≤ nl ∧ i = .int .i64 m ∧ wa = .int .i64 (TotR (L.take m)) ∧ New wc wr) (fun _ i _ => nl - (intOf i).toNat)
        case atStart => exact ⟨0, Nat.zero_le _, rfl, rfl, Turns.refl _ _⟩
        case round =>
          obtain ⟨m, hm, rfl, rfl, hnw⟩ := hrel
          have HNW := Lib.hid hnw
          clear hnw s6
          by_cases hlm : m < nl
          · obtain ⟨f, hf⟩ : ∃ f, L[m]? = some f := ⟨_, List.getElem?_eq_getElem (by have := HNL.out; omega)⟩
            obtain ⟨g, og, hg, hgl, z0, z1, z2, z3, z4, z5⟩ := rf_at (HLY.out.later HNW.out).dv.ro.l hf
            subst hg
            have HTA := Lib.hid (tot_take hf)
            have hfq := HLL.out.2 f (List.mem_of_getElem? hf)
            have htm := tot_le L m
            have ht8 := HT8.out
            have q1 : decide ((m : Int) < (nl : Int)) = true := decide_eq_true (by omega)
            have q2 : (m : Int) < (nl : Int) := by omega
            have hwm : IntKind.i64.wrap ((m : Int) + 1) = (m : Int) + 1 := IntWalk.i64_in _ (by omega)
            have hwt : IntKind.i64.wrap ((TotR (L.take m) : Int) + (f.q.L.length : Int)) = (TotR (L.take m) : Int) + (f.q.L.length : Int) := IntWalk.i64_in _ (by omega)
            clear hf htm ht8
            go_wp2_with fail
            go_roundw
            case rel => exact ⟨m + 1, by omega, by push_cast; go_num, by rw [HTA.out]; push_cast; first | rfl | rw [hwt] | exact congrArg _ hwt, HNW.out.alloc _⟩
            case measure => simp [intOf, hwm]; omega
          · have q1 : decide ((m : Int) < (nl : Int)) = false := decide_eq_false (by omega)
            have q3 : decide (m < nl) = false := decide_eq_false hlm
            have HTQ : Hid (TotR (L.take m) = TotR L) := Lib.hid (by rw [show m = L.length by have := HNL.out; omega]; exact tot_all L)
            rw [HTQ.out]
            have HLW := Lib.hid (HLY.out.later HNW.out)
            have HPW := Lib.hid (HNW.out.blk HPY.out (fun h => h))
            clear hm HTQ
            have HDO := Lib.hid (does w.heap.size wr A k e (.slice al nl cl) (.slice ar nr cr) L r now nn j ⟨kd2, id, an, ky, vd⟩ (HLW.out.pre (Turns.refl _ _)) HLW.out.dc (by omega) HRA2.out)
            obtain ⟨⟨s0, s1, s2, s3, s4, s5, s6, s7, s8, s9, s10, s11, s12, s13, s14⟩, _⟩ := fifteen HLW.out.box
            obtain ⟨a0, a1, a2, a3, a4⟩ : _ ∧ _ ∧ _ ∧ _ ∧ _ := five HPW.out
            obtain ⟨tot, htot⟩ : ∃ tot, tot = TotR L := ⟨_, rfl⟩
            rw [← htot]
            have HTO := Lib.hid htot
            clear htot
            go_upto_region 17 with fail
            clear q1 q3 hlm
            go_wp2_with fail
            refine HDO.out.mono ?_
            rintro x5 w5 ⟨k', e', vL', vS', L', r', now', n', u, o, rfl, hd, hc, hac, hts⟩
            obtain ⟨al', nl', cl', hvl, hql⟩ := hd.ro.l.form
            obtain ⟨ar', nr', cr', hvs, hqs⟩ := hd.ro.s.form
            subst hvl hvs
            clear hql hqs
            have HAC := Lib.hid hac
            have HDD := Lib.hid (And.intro hd hc)
            have hst := HLW.out.step (Turns.refl _ _) hd hc
            have HST := Lib.hid hst
            have HP5 := Lib.hid (hd.ru.sf.blk HPW.out (by decide) (by decide) (by decide) (by decide) (by decide))
            clear hac hd hc hst hts s0 s1 s2 s3 s4 s5 s6 s7 s8 s9 s10 s11 s12 s13 s14 a0 a1 a2 a3 a4 HDO
            obtain ⟨⟨t0, t1, t2, t3, t4, t5, t6, t7, t8, t9, t10, t11, t12, t13, t14⟩, y0, y1, y2, y3, y4, y5, y6, y7, y8, y9, y10, y11, y12, y13, y14⟩ := fifteen HST.out.1
            have HP7 : Hid (Blk (puts w5 ps 0 (stS A r' (.slice al' nl' cl') (.slice ar' nr' cr') now' n').toList) px (acs ⟨kd2, id, an, ky, vd⟩) ACT) := Lib.hid ((puts_turns (S := (· = ps)) (.inl rfl) _ 0 _ (Turns.refl _ _)).blk HP5.out (fun e => HPL.out.2 e))
            have HL7 := Lib.hid HST.out.2
            go_upto_region 18 with fail
            refine (show Code.wp _ _ _ _ (puts w5 ps 0 (stS A r' (.slice al' nl' cl') (.slice ar' nr' cr') now' n').toList) from ?_)
            clear t0 t1 t2 t3 t4 t5 t6 t7 t8 t9 t10 t11 t12 t13 t14 y0 y1 y2 y3 y4 y5 y6 y7 y8 y9 y10 y11 y12 y13 y14 HST HP5
            generalize puts w5 ps 0 (stS A r' (.slice al' nl' cl') (.slice ar' nr' cr') now' n').toList = w7 at *
            have HAG : Hid (r'.age = G) := Lib.hid ((HAC.out.age HLW.out.dv.pu).trans HCR0.out.2)
            have HA4 : Hid (kd2 = 4 → ∀ f ∈ L', ∀ x, f.q.L[0]? = some x → now' - x.tick < r'.age) := Lib.hid (fun hk => HAC.out.age4 HLW.out.dv.pu HL7.out.dv.pu hk)
            have HNL' := Lib.hid (ts_len HL7.out.dv.ro.l).1
            have HLL' : Hid (L'.length ≤ 101 ∧ ∀ f ∈ L', f.q.L.length ≤ 8) := Lib.hid ⟨by have := HL7.out.dc.l; omega, HL7.out.len8⟩
            have hnl2' : nl' ≤ 101 := by have := HLL'.out.1; have := HNL'.out; omega
            have HT8' : Hid (TotR L' ≤ 808) := Lib.hid (by have := tot_len HLL'.out.2; have := HLL'.out.1; omega)
            have s6 : w7.cell? ⟨ps, 6, none⟩ = some (.slice al' nl' cl') := HL7.out.box.cell 6
            go_upto_region 20 with fail
            go_wp2_with fail
            go_loopw [16, 84] (fun wa i wr => ∃ m : Nat, m ≤ nl' ∧ i = .int .i64 m ∧ wa = .int .i64 (TotR (L'.take m)) ∧ New w7 wr) (fun _ i _ => nl' - (intOf i).toNat)
            case atStart => exact ⟨0, Nat.zero_le _, rfl, rfl, Turns.refl _ _⟩
            case round =>
              obtain ⟨m', hm, rfl, rfl, hnw⟩ := hrel
              have HNW7 := Lib.hid hnw
              clear hnw s6
              by_cases hlm : m' < nl'
              · obtain ⟨f, hf⟩ : ∃ f, L'[m']? = some f := ⟨_, List.getElem?_eq_getElem (by have := HNL'.out; omega)⟩
                have HX := Lib.hid hf
                have HLR := Lib.hid (HL7.out.later HNW7.out)
                obtain ⟨g, og, hg, hgl, z0, z1, z2, z3, z4, z5⟩ := rf_at HLR.out.dv.ro.l hf
                subst hg
                obtain ⟨y, hy, hyid, hyv, hyq⟩ := HLR.out.dv.flow hf
                have HY := Lib.hid (And.intro hy (And.intro hyid hyq))
                have HTA := Lib.hid (tot_take hf)
                have hfq := HLL'.out.2 f (List.mem_of_getElem? hf)
                have htm := tot_le L' m'
                have ht8 := HT8'.out
                have q1 : decide ((m' : Int) < (nl' : Int)) = true := decide_eq_true (by omega)
                have q2 : (m' : Int) < (nl' : Int) := by omega
                have hwm : IntKind.i64.wrap ((m' : Int) + 1) = (m' : Int) + 1 := IntWalk.i64_in _ (by omega)
                have hwt : IntKind.i64.wrap ((TotR (L'.take m') : Int) + (f.q.L.length : Int)) = (TotR (L'.take m') : Int) + (f.q.L.length : Int) := IntWalk.i64_in _ (by omega)
                have HPF : Hid (Blk (wr.alloc (.cells #[.int .i64 f.id, .bool f.video, .int .i64 f.q.frames, .int .i64 f.q.most, .slice f.ao f.q.L.length f.c, .bool f.q.broken] FT)) wr.heap.size #[.int .i64 f.id, .bool f.video, .int .i64 f.q.frames, .int .i64 f.q.most, .slice f.ao f.q.L.length f.c, .bool f.q.broken] FT) := Lib.hid (Blk.new _ _ _)
                have HN8 : Hid (New w7 (wr.alloc (.cells #[.int .i64 f.id, .bool f.video, .int .i64 f.q.frames, .int .i64 f.q.most, .slice f.ao f.q.L.length f.c, .bool f.q.broken] FT))) := Lib.hid (HNW7.out.alloc _)
                clear hf htm ht8 hy hyid hyv hyq
                go_upto_region 24 with fail
                refine (show Code.wp _ _ _ _ (wr.alloc (.cells #[.int .i64 f.id, .bool f.video, .int .i64 f.q.frames, .int .i64 f.q.most, .slice f.ao f.q.L.length f.c, .bool f.q.broken] FT)) from ?_)
                clear z0 z1 z2 z3 z4 z5 hgl HLR
                generalize wr.alloc (.cells #[.int .i64 f.id, .bool f.video, .int .i64 f.q.frames, .int .i64 f.q.most, .slice f.ao f.q.L.length f.c, .bool f.q.broken] FT) = w8 at *
                generalize wr.heap.size = pf at *
                have HL8 := Lib.hid (HL7.out.later HN8.out)
                have s0 : w8.cell? ⟨ps, 0, none⟩ = some (.pointer (some ⟨A.o, 0, none⟩)) := HL8.out.box.cell 0
                have x0 : w8.cell? ⟨pf, 0, none⟩ = some (.int .i64 f.id) := HPF.out.cell 0
                have x4 : w8.cell? ⟨pf, 4, none⟩ = some (.slice f.ao f.q.L.length f.c) := HPF.out.cell 4
                have HWA := Lib.hid (waits_some A k' e' y w8 HL8.out.dv.ru.es HY.out.1)
                rw [HY.out.2.1, HY.out.2.2] at HWA
                go_wp2_with fail
                refine HWA.out.mono ?_
                rintro x9 w9 ⟨rfl, n9⟩
                have HL9 := Lib.hid (HL8.out.later n9)
                have HPF9 := Lib.hid (n9.blk HPF.out (fun h => h))
                have HPX9 := Lib.hid (n9.blk (HN8.out.blk HP7.out (fun h => h)) (fun h => h))
                have HN9 : Hid (New w7 w9) := Lib.hid (HN8.out.trans (n9.mono (fun _ _ h => h.elim)))
                clear n9 s0 x0 x4 HWA HL8 HPF HN8
                have a0 : w9.cell? ⟨px, 0, none⟩ = some (.int .i64 kd2) := HPX9.out.cell 0
                have s13 : w9.cell? ⟨ps, 13, none⟩ = some (.int .i64 now') := HL9.out.box.cell 13
                have s3 : w9.cell? ⟨ps, 3, none⟩ = some (.int .i64 r'.age) := HL9.out.box.cell 3
                have x4 : w9.cell? ⟨pf, 4, none⟩ = some (.slice f.ao f.q.L.length f.c) := HPF9.out.cell 4
                go_upto_region 26 with fail
                go_cut [123] (fun v wx => v = .bool false ∧ New w7 wx)
                case first =>
                  by_cases hk4 : kd2 = 4
                  · have dk : decide (kd2 = 4) = true := decide_eq_true hk4
                    have dk2 : (kd2 == 4) = true := by simp [hk4]
                    by_cases h0 : 0 < f.q.L.length
                    · obtain ⟨x, hx⟩ : ∃ x, f.q.L[0]? = some x := ⟨_, List.getElem?_eq_getElem h0⟩
                      obtain ⟨gq, oq, hgq, hgql, q0, q1', q2', q3⟩ := it_at (HL9.out.dv.ro.q f (List.mem_of_getElem? HX.out)) hx
                      rw [hgq] at x4
                      have hyo := HA4.out hk4 f (List.mem_of_getElem? HX.out) x hx
                      have htk := HL9.out.dv.tk f (List.mem_of_getElem? HX.out) x (List.mem_of_getElem? hx)
                      have htn := HL9.out.dc.t1
                      have dz : decide ((0 : Int) < (f.q.L.length : Int)) = true := decide_eq_true (by omega)
                      have dz2 : decide (0 < f.q.L.length) = true := decide_eq_true h0
                      have hws : IntKind.i64.wrap (now' - x.tick) = now' - x.tick := IntWalk.i64_in _ (by omega)
                      have da : decide (r'.age ≤ now' - x.tick) = false := decide_eq_false (by omega)
                      have h0i : (0 : Int) < (f.q.L.length : Int) := by omega
                      clear hx hgq hyo htk htn hk4
                      go_quiet (fail)
                      have HNE : Hid (New w7 (w9.drewN nq)) := Lib.hid (HN9.out.trans ((Turns.refl _ _).drewN nq))
                      go_wp2_with fail
                      go_meet
                      case rel => exact ⟨rfl, HNE.out⟩
                    · have dz : decide ((0 : Int) < (f.q.L.length : Int)) = false := decide_eq_false (by omega)
                      have dz2 : decide (0 < f.q.L.length) = false := decide_eq_false h0
                      clear hk4
                      go_quiet (fail)
                      have HNE : Hid (New w7 (w9.drewN nq)) := Lib.hid (HN9.out.trans ((Turns.refl _ _).drewN nq))
                      go_wp2_with fail
                      go_meet
                      case rel => exact ⟨rfl, HNE.out⟩
                  · have dk : decide (kd2 = 4) = false := decide_eq_false hk4
                    have dk2 : (kd2 == 4) = false := by simp [hk4]
                    clear hk4
                    go_quiet (fail)
                    have HNE : Hid (New w7 (w9.drewN nq)) := Lib.hid (HN9.out.trans ((Turns.refl _ _).drewN nq))
                    go_wp2_with fail
                    go_meet
                    case rel => exact ⟨rfl, HNE.out⟩
                case rest =>
                  obtain ⟨rfl, hnc⟩ := hcut
                  have HNC := Lib.hid hnc
                  clear hnc a0 s13 s3 x4
                  go_wp2_with fail
                  go_roundw
                  case rel => exact ⟨m' + 1, by omega, by push_cast; go_num, by rw [HTA.out]; push_cast; first | rfl | rw [hwt] | exact congrArg _ hwt, HNC.out⟩
                  case measure => simp [intOf, hwm]; omega
              · have q1 : decide ((m' : Int) < (nl' : Int)) = false := decide_eq_false (by omega)
                have q3 : decide (m' < nl') = false := decide_eq_false hlm
                have HTQ : Hid (TotR (L'.take m') = TotR L') := Lib.hid (by rw [show m' = L'.length by have := HNL'.out; omega]; exact tot_all L')
                rw [HTQ.out]
                have HL9 := Lib.hid (HL7.out.later HNW7.out)
                obtain ⟨to2, hto2⟩ : ∃ to2, to2 = TotR L' := ⟨_, rfl⟩
                rw [← hto2]
                have HTO2 := Lib.hid hto2
                have ht1 : to2 ≤ 808 := by have := HT8'.out; omega
                have ht2 : tot ≤ 800 := by have := HT8.out; have := HTO.out; omega
                have htl : ta = lo + tot := by rw [HTO.out]; exact HCR0.out.1
                have u1 : IntKind.i64.wrap ((to2 : Int) - (tot : Int)) = (to2 : Int) - (tot : Int) := IntWalk.i64_in _ (by omega)
                have u2 : IntKind.i64.wrap ((tot : Int) - (to2 : Int)) = (tot : Int) - (to2 : Int) := IntWalk.i64_in _ (by omega)
                have u3 : IntKind.i64.wrap ((ta : Int) + max ((to2 : Int) - (tot : Int)) 0) = (ta : Int) + max ((to2 : Int) - (tot : Int)) 0 := IntWalk.i64_in _ (by omega)
                have u4 : IntKind.i64.wrap ((lo : Int) + max ((tot : Int) - (to2 : Int)) 0) = (lo : Int) + max ((tot : Int) - (to2 : Int)) 0 := IntWalk.i64_in _ (by omega)
                have HTL := Lib.hid htl
                clear hto2 htl hm HTQ
                go_wp2_with fail
                go_roundw
                case rel => exact ⟨j + 1, ta + (to2 - tot), lo + (tot - to2), by omega, by omega, by push_cast; go_num, rfl, by congr 1; omega, by congr 1; omega, by omega, by have := HTL.out; omega, _, _, _, _, _, _, _, _, _, _, _, _, HL9.out, by rw [← HTO2.out]; have := HTL.out; omega, HAG.out⟩
                case measure => simp [intOf, hw]; omega
      · have d1 : decide ((j : Int) < (n : Int)) = true := decide_eq_true (by omega)
        have d2 : decide ((j : Int) < 100) = false := decide_eq_false (by omega)
        have htn := HL.out.dc.t1
        have htn0 := HL.out.dc.t0
        have HTI := Lib.hid (tick w.heap.size A k e (now + 64) wr HL.out.dv.ru.es HL.out.dv.ru.lo HL.out.new.size (by have := HL.out.dc.k; omega) (by have := HL.out.totE (by omega); omega) (by have := HL.out.totE (by omega); omega) (HL.out.tickOk (by omega)) (by omega) (by omega))
        have hw64 : IntKind.i64.wrap (now + 64) = now + 64 := IntWalk.i64_in _ (by omega)
        have HTN := Lib.hid (And.intro htn htn0)
        have HNL := Lib.hid (ts_len HL.out.dv.ro.l).1
        have hnl2 : nl ≤ 100 := by have := HL.out.dc.l; have := HNL.out; omega
        clear htn htn0
        have s0 : wr.cell? ⟨ps, 0, none⟩ = some (.pointer (some ⟨A.o, 0, none⟩)) := HL.out.box.cell 0
        have s13 : wr.cell? ⟨ps, 13, none⟩ = some (.int .i64 now) := HL.out.box.cell 13
        go_wp2_with fail
        refine HTI.out.mono ?_
        rintro x5 w5 ⟨v5, o5, e5, rfl, hts5, hes5, hlo5, hsf5, _, _, _⟩
        have HFN : Hid (∀ f ∈ L, ∃ g ∈ e5.L, g.id = f.id ∧ g.q.L = []) := Lib.hid (HL.out.final hts5 (by rw [HCR0.out.2]; have := HBD.out; omega))
        have HE5 := Lib.hid hes5
        have HB5 := Lib.hid (hsf5.blk HL.out.box (by decide) (by decide) (by decide) (by decide) (by decide))
        have HRO5 := Lib.hid (hsf5.ro HL.out.dv.ro)
        have HN5 : Hid (New w w5) := Lib.hid (HL.out.new.trans (hsf5.t.mono (fun i _ hi => .inr hi)))
        clear hts5 hes5 hlo5 hsf5 s0 s13 HTI
        have s6 : w5.cell? ⟨ps, 6, none⟩ = some (.slice al nl cl) := HB5.out.cell 6
        go_wp2_with fail
        go_loopw [147] (fun i wr => ∃ m : Nat, m ≤ nl ∧ i = .int .i64 m ∧ New w5 wr) (fun i _ => nl - (intOf i).toNat)
        case atStart => exact ⟨0, Nat.zero_le _, rfl, Turns.refl _ _⟩
        case round =>
          obtain ⟨m', hm, rfl, hnw⟩ := hrel
          have HNW7 := Lib.hid hnw
          clear hnw s6
          by_cases hlm : m' < nl
          · obtain ⟨f, hf⟩ : ∃ f, L[m']? = some f := ⟨_, List.getElem?_eq_getElem (by have := HNL.out; omega)⟩
            obtain ⟨g, og, hg, hgl, z0, z1, z2, z3, z4, z5⟩ := rf_at (HRO5.out.later HNW7.out).l hf
            subst hg
            obtain ⟨y, hy, hyid, hyq⟩ := HFN.out f (List.mem_of_getElem? hf)
            have HY := Lib.hid (And.intro hy (And.intro hyid hyq))
            have q1 : decide ((m' : Int) < (nl : Int)) = true := decide_eq_true (by omega)
            have q2 : (m' : Int) < (nl : Int) := by omega
            have hwm : IntKind.i64.wrap ((m' : Int) + 1) = (m' : Int) + 1 := IntWalk.i64_in _ (by omega)
            clear hf hy hyid hyq
            have HPF : Hid (Blk (wr.alloc (.cells #[.int .i64 f.id, .bool f.video, .int .i64 f.q.frames, .int .i64 f.q.most, .slice f.ao f.q.L.length f.c, .bool f.q.broken] FT)) wr.heap.size #[.int .i64 f.id, .bool f.video, .int .i64 f.q.frames, .int .i64 f.q.most, .slice f.ao f.q.L.length f.c, .bool f.q.broken] FT) := Lib.hid (Blk.new _ _ _)
            have HN8 : Hid (New w5 (wr.alloc (.cells #[.int .i64 f.id, .bool f.video, .int .i64 f.q.frames, .int .i64 f.q.most, .slice f.ao f.q.L.length f.c, .bool f.q.broken] FT))) := Lib.hid (HNW7.out.alloc _)
            go_upto_region 35 with fail
            refine (show Code.wp _ _ _ _ (wr.alloc (.cells #[.int .i64 f.id, .bool f.video, .int .i64 f.q.frames, .int .i64 f.q.most, .slice f.ao f.q.L.length f.c, .bool f.q.broken] FT)) from ?_)
            clear z0 z1 z2 z3 z4 z5 hgl
            generalize wr.alloc (.cells #[.int .i64 f.id, .bool f.video, .int .i64 f.q.frames, .int .i64 f.q.most, .slice f.ao f.q.L.length f.c, .bool f.q.broken] FT) = w8 at *
            generalize wr.heap.size = pf at *
            have s0 : w8.cell? ⟨ps, 0, none⟩ = some (.pointer (some ⟨A.o, 0, none⟩)) := (HN8.out.blk HB5.out (fun h => h)).cell 0
            have x0 : w8.cell? ⟨pf, 0, none⟩ = some (.int .i64 f.id) := HPF.out.cell 0
            have HWA := Lib.hid (waits_some A k e5 y w8 (HE5.out.later HN8.out) HY.out.1)
            rw [HY.out.2.1, HY.out.2.2] at HWA
            go_wp2_with fail
            refine HWA.out.mono ?_
            rintro x9 w9 ⟨rfl, n9⟩
            have HN9 : Hid (New w5 w9) := Lib.hid (HN8.out.trans (n9.mono (fun _ _ h => h.elim)))
            clear n9 s0 x0 HWA
            go_wp2_with fail
            go_roundw
            case rel => exact ⟨m' + 1, by omega, by push_cast; go_num, HN9.out⟩
            case measure => simp [intOf, hwm]; omega
          · have q1 : decide ((m' : Int) < (nl : Int)) = false := decide_eq_false (by omega)
            have q3 : decide (m' < nl) = false := decide_eq_false hlm
            have q4 : decide ((lo : Int) ≤ (ta : Int)) = true := decide_eq_true (by omega)
            have q5 : decide (lo ≤ ta) = true := decide_eq_true hlo
            have HN9 : Hid (New w wr) := Lib.hid (HN5.out.trans (HNW7.out.mono (fun _ _ h => h.elim)))
            go_wp2
            go_ret
            exact ⟨rfl, HN9.out.below (Nat.le_refl _) (fun _ _ h => h.elim)⟩
    · have d1 : decide ((j : Int) < (n : Int)) = false := decide_eq_false (by omega)
      have d2 : decide (j < n) = false := decide_eq_false hlt
      have htn := HL.out.dc.t1
      have htn0 := HL.out.dc.t0
      have HTI := Lib.hid (tick w.heap.size A k e (now + 64) wr HL.out.dv.ru.es HL.out.dv.ru.lo HL.out.new.size (by have := HL.out.dc.k; omega) (by have := HL.out.totE (by omega); omega) (by have := HL.out.totE (by omega); omega) (HL.out.tickOk (by omega)) (by omega) (by omega))
      have hw64 : IntKind.i64.wrap (now + 64) = now + 64 := IntWalk.i64_in _ (by omega)
      have HTN := Lib.hid (And.intro htn htn0)
      have HNL := Lib.hid (ts_len HL.out.dv.ro.l).1
      have hnl2 : nl ≤ 100 := by have := HL.out.dc.l; have := HNL.out; omega
      clear htn htn0
      have s0 : wr.cell? ⟨ps, 0, none⟩ = some (.pointer (some ⟨A.o, 0, none⟩)) := HL.out.box.cell 0
      have s13 : wr.cell? ⟨ps, 13, none⟩ = some (.int .i64 now) := HL.out.box.cell 13
      go_wp2_with fail
      refine HTI.out.mono ?_
      rintro x5 w5 ⟨v5, o5, e5, rfl, hts5, hes5, hlo5, hsf5, _, _, _⟩
      have HFN : Hid (∀ f ∈ L, ∃ g ∈ e5.L, g.id = f.id ∧ g.q.L = []) := Lib.hid (HL.out.final hts5 (by rw [HCR0.out.2]; have := HBD.out; omega))
      have HE5 := Lib.hid hes5
      have HB5 := Lib.hid (hsf5.blk HL.out.box (by decide) (by decide) (by decide) (by decide) (by decide))
      have HRO5 := Lib.hid (hsf5.ro HL.out.dv.ro)
      have HN5 : Hid (New w w5) := Lib.hid (HL.out.new.trans (hsf5.t.mono (fun i _ hi => .inr hi)))
      clear hts5 hes5 hlo5 hsf5 s0 s13 HTI
      have s6 : w5.cell? ⟨ps, 6, none⟩ = some (.slice al nl cl) := HB5.out.cell 6
      go_wp2_with fail
      go_loopw [147] (fun i wr => ∃ m : Nat, m ≤ nl ∧ i = .int .i64 m ∧ New w5 wr) (fun i _ => nl - (intOf i).toNat)
      case atStart => exact ⟨0, Nat.zero_le _, rfl, Turns.refl _ _⟩
      case round =>
        obtain ⟨m', hm, rfl, hnw⟩ := hrel
        have HNW7 := Lib.hid hnw
        clear hnw s6
        by_cases hlm : m' < nl
        · obtain ⟨f, hf⟩ : ∃ f, L[m']? = some f := ⟨_, List.getElem?_eq_getElem (by have := HNL.out; omega)⟩
          obtain ⟨g, og, hg, hgl, z0, z1, z2, z3, z4, z5⟩ := rf_at (HRO5.out.later HNW7.out).l hf
          subst hg
          obtain ⟨y, hy, hyid, hyq⟩ := HFN.out f (List.mem_of_getElem? hf)
          have HY := Lib.hid (And.intro hy (And.intro hyid hyq))
          have q1 : decide ((m' : Int) < (nl : Int)) = true := decide_eq_true (by omega)
          have q2 : (m' : Int) < (nl : Int) := by omega
          have hwm : IntKind.i64.wrap ((m' : Int) + 1) = (m' : Int) + 1 := IntWalk.i64_in _ (by omega)
          clear hf hy hyid hyq
          have HPF : Hid (Blk (wr.alloc (.cells #[.int .i64 f.id, .bool f.video, .int .i64 f.q.frames, .int .i64 f.q.most, .slice f.ao f.q.L.length f.c, .bool f.q.broken] FT)) wr.heap.size #[.int .i64 f.id, .bool f.video, .int .i64 f.q.frames, .int .i64 f.q.most, .slice f.ao f.q.L.length f.c, .bool f.q.broken] FT) := Lib.hid (Blk.new _ _ _)
          have HN8 : Hid (New w5 (wr.alloc (.cells #[.int .i64 f.id, .bool f.video, .int .i64 f.q.frames, .int .i64 f.q.most, .slice f.ao f.q.L.length f.c, .bool f.q.broken] FT))) := Lib.hid (HNW7.out.alloc _)
          go_upto_region 35 with fail
          refine (show Code.wp _ _ _ _ (wr.alloc (.cells #[.int .i64 f.id, .bool f.video, .int .i64 f.q.frames, .int .i64 f.q.most, .slice f.ao f.q.L.length f.c, .bool f.q.broken] FT)) from ?_)
          clear z0 z1 z2 z3 z4 z5 hgl
          generalize wr.alloc (.cells #[.int .i64 f.id, .bool f.video, .int .i64 f.q.frames, .int .i64 f.q.most, .slice f.ao f.q.L.length f.c, .bool f.q.broken] FT) = w8 at *
          generalize wr.heap.size = pf at *
          have s0 : w8.cell? ⟨ps, 0, none⟩ = some (.pointer (some ⟨A.o, 0, none⟩)) := (HN8.out.blk HB5.out (fun h => h)).cell 0
          have x0 : w8.cell? ⟨pf, 0, none⟩ = some (.int .i64 f.id) := HPF.out.cell 0
          have HWA := Lib.hid (waits_some A k e5 y w8 (HE5.out.later HN8.out) HY.out.1)
          rw [HY.out.2.1, HY.out.2.2] at HWA
          go_wp2_with fail
          refine HWA.out.mono ?_
          rintro x9 w9 ⟨rfl, n9⟩
          have HN9 : Hid (New w5 w9) := Lib.hid (HN8.out.trans (n9.mono (fun _ _ h => h.elim)))
          clear n9 s0 x0 HWA
          go_wp2_with fail
          go_roundw
          case rel => exact ⟨m' + 1, by omega, by push_cast; go_num, HN9.out⟩
          case measure => simp [intOf, hwm]; omega
        · have q1 : decide ((m' : Int) < (nl : Int)) = false := decide_eq_false (by omega)
          have q3 : decide (m' < nl) = false := decide_eq_false hlm
          have q4 : decide ((lo : Int) ≤ (ta : Int)) = true := decide_eq_true (by omega)
          have q5 : decide (lo ≤ ta) = true := decide_eq_true hlo
          have HN9 : Hid (New w wr) := Lib.hid (HN5.out.trans (HNW7.out.mono (fun _ _ h => h.elim)))
          go_wp2
          go_ret
          exact ⟨rfl, HN9.out.below (Nat.le_refl _) (fun _ _ h => h.elim)⟩
end Go.Proofs.Ytcppibjllaablaa.egr
