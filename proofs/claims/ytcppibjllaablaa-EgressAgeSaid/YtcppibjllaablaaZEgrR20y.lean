/-
  The reference of layer 20: Run, the walk.
-/
import Derived.Test.YtcppibjllaablaaZKai
set_option linter.unusedVariables false
set_option linter.unusedSimpArgs false
namespace Go.Proofs.Ytcppibjllaablaa.egr
open Go.RowKit mem
open Go.Proofs.Ytcppibjllaablaa.drr (plc plc_at plc_no plc_cases before_succ before_all made0G)
set_option linter.unusedVariables false

set_option maxRecDepth 100000 in
set_option maxHeartbeats 8000000 in
theorem rrun (al : Option Addr) (nl cl : Nat) (ar : Option Addr) (nr cr : Nat) (L : List Rf) (r : Eo) (w : World) (h : RO w (.slice al nl cl) (.slice ar nr cr) L r) (p : Pd L r) (hl : L.length ≤ 1000) (hs : r.s.L.length ≤ 100000) (ht : TotR L ≤ 90000) (w0 : 0 ≤ r.row) (w1 : r.row ≤ 4611686018427387904) :
    Calls Try.prog 56 #[.agg (rO r (.slice al nl cl) (.slice ar nr cr))] w fun e w' => ∃ a4 n4 c4 a5 n5 c5 L' r' u o, e = .returned (.tuple #[.agg (rO r' (.slice a4 n4 c4) (.slice a5 n5 c5)), u]) ∧ Rz w w' L r (.slice a4 n4 c4) (.slice a5 n5 c5) u o L' r' := by
  have HO := Lib.hid h
  have HLN : Hid (L.length ≤ 1000) := Lib.hid hl
  have HSL : Hid (r.s.L.length ≤ 100000) := Lib.hid hs
  have HTT : Hid (TotR L ≤ 90000) := Lib.hid ht
  have HWW := Lib.hid (And.intro w0 w1)
  have HB := Lib.hid (Bx.start w r (.slice al nl cl) (.slice ar nr cr))
  have HPU := Lib.hid p
  obtain ⟨T, hT⟩ : ∃ T, T = TotR L := ⟨_, rfl⟩
  have HTE := Lib.hid hT
  have hT2 : T ≤ 90000 := by omega
  clear h hl hs ht w0 w1 p hT
  go_enter Try.func56, Try.ntmps56
  go_upto_region 1 with fail
  refine (show Code.wp _ _ _ _ ((w.alloc (.cells (rO r (.slice al nl cl) (.slice ar nr cr)) RT20)).alloc (.cells z12.toArray RT20)) from ?_)
  generalize (w.alloc (.cells (rO r (.slice al nl cl) (.slice ar nr cr)) RT20)).alloc (.cells z12.toArray RT20) = w2 at *
  obtain ⟨pb, hpb⟩ : ∃ pb, pb = w.heap.size := ⟨_, rfl⟩
  rw [← hpb] at HB
  rw [← hpb]
  clear hpb
  generalize pb + 1 = pr at *
  have HK0 : Hid (Rw w (w2.alloc (.cells #[] RSeT)) pb pr L r 0 (.slice al nl cl) (.slice ar nr cr) (.slice (some ⟨w2.heap.size, 0, none⟩) 0 0) [] L r) := Lib.hid ⟨HB.out.later ((Turns.refl _ _).alloc _), HO.out.later (HB.out.n.alloc _), HPU.out, rfl, Sofar.start _ _, ⟨made0G SE (Blk.new _ _ _), fun g hg => by
    have : w2.heap.size = g := by simpa [Value.ownBlock] using hg
    have := HB.out.n.size
    omega, HB.out.n.alloc _⟩, rfl, rfl, rfl, HWW.out.1, by simp, rfl, fun g hg x hx => ⟨g, hg, hx⟩⟩
  go_wp2_with fail
  go_loopw [4, 5] (fun o i wr => ∃ (k : Nat) (au : Option Addr) (nu cu : Nat) (a4 : Option Addr) (n4 c4 : Nat) (a5 : Option Addr) (n5 c5 : Nat) (Lk : List Rf) (rk : Eo) (ok : List Snt), k ≤ T ∧ i = .int .i64 k ∧ o = .slice au nu cu ∧ Rw w wr pb pr L r k (.slice a4 n4 c4) (.slice a5 n5 c5) (.slice au nu cu) ok Lk rk) (fun _ i _ => T - (intOf i).toNat)
  case atStart => exact ⟨0, _, _, _, _, _, _, _, _, _, _, _, _, Nat.zero_le _, rfl, rfl, HK0.out⟩
  case round =>
    obtain ⟨k, au, nu, cu, a4, n4, c4, a5, n5, c5, Lk, rk, ok, hk, rfl, rfl, hrk⟩ := hrel
    have HK := Lib.hid hrk
    clear hrk HK0
    have d1 : decide ((k : Int) < 100000) = true := decide_eq_true (by omega)
    have j1 : (k : Int) < 100000 := by omega
    have hw : IntKind.i64.wrap ((k : Int) + 1) = (k : Int) + 1 := IntWalk.i64_in _ (by omega)
    have hll := HK.out.len
    have HNX := Lib.hid (rnext a4 n4 c4 a5 n5 c5 Lk rk wr HK.out.ro (by rw [hll]; exact HLN.out) HK.out.pu.asc (by rw [HK.out.sl]; exact HSL.out) HK.out.pu.sa HK.out.pu.sp HK.out.pu.sok HK.out.pu.heads)
    rw [HK.out.ids] at HNX
    clear hll
    obtain ⟨⟨b0, b1, b2, b3, b4, b5, b6, b7, b8, b9, b10, b11⟩, _⟩ := twelve HK.out.bx.bx
    go_wp2_with fail
    refine HNX.out.mono ?_
    rintro e w5 ⟨a6, n6, c6, d, rfl, hro, n5', hd⟩
    have HRO := Lib.hid hro
    have HD := Lib.hid hd
    have HB5 := Lib.hid (HK.out.bx.later n5')
    have HG5 := Lib.hid (HK.out.gr.later n5')
    clear hro hd b0 b1 b2 b3 b4 b5 b6 b7 b8 b9 b10 b11 HNX
    have HN5 := Lib.hid n5'
    clear n5'
    obtain ⟨rn, hrn⟩ : ∃ rn, rn = afterI (L.map (·.id)) rk := ⟨_, rfl⟩
    rw [← hrn] at HRO ⊢
    have HRN := Lib.hid hrn
    clear hrn
    have HBP : Hid (Blk (w5.alloc (.cells (rO rn (.slice a4 n4 c4) (.slice a6 n6 c6)) RT20)) w5.heap.size (rO rn (.slice a4 n4 c4) (.slice a6 n6 c6)) RT20) := Lib.hid (Blk.new _ _ _)
    have HN6 : Hid (New w5 (w5.alloc (.cells (rO rn (.slice a4 n4 c4) (.slice a6 n6 c6)) RT20))) := Lib.hid ((Turns.refl _ _).alloc _)
    go_upto_region 6 with fail
    refine (show Code.wp _ _ _ _ (w5.alloc (.cells (rO rn (.slice a4 n4 c4) (.slice a6 n6 c6)) RT20)) from ?_)
    generalize w5.alloc (.cells (rO rn (.slice a4 n4 c4) (.slice a6 n6 c6)) RT20) = w6 at *
    generalize w5.heap.size = pp at *
    have HB6 := Lib.hid (HB5.out.later HN6.out)
    have HRO6 := Lib.hid (HRO.out.later HN6.out)
    have HG6 := Lib.hid (HG5.out.later HN6.out)
    obtain ⟨⟨p0, p1, p2, p3, p4, p5, p6, p7, p8, p9, p10, p11⟩, _⟩ := twelve HBP.out
    obtain ⟨⟨b0, b1, b2, b3, b4, b5, b6, b7, b8, b9, b10, b11⟩, y0, y1, y2, y3, y4, y5, y6, y7, y8, y9, y10, y11⟩ := twelve HB6.out.bx
    go_upto_region 7 with fail
    have HSF := Lib.hid (HB6.out.self (r' := rn) (vL' := .slice a4 n4 c4) (vS' := .slice a6 n6 c6))
    have HR7 := Lib.hid (HRO6.out.turn HB6.out.bx HSF.out.1)
    have HG7 : Hid (Gr SE RSeT w (puts w6 pb 0 (rO rn (.slice a4 n4 c4) (.slice a6 n6 c6)).toList) (.slice au nu cu) ok) := Lib.hid ⟨HG6.out.own.turns HSF.out.1 (fun g hg e => own_ne HG6.out.own HB6.out.bx (by decide) (by rw [hg, e])), HG6.out.vb, HSF.out.2.n⟩
    refine (show Code.wp _ _ _ _ (puts w6 pb 0 (rO rn (.slice a4 n4 c4) (.slice a6 n6 c6)).toList) from ?_)
    clear p0 p1 p2 p3 p4 p5 p6 p7 p8 p9 p10 p11 b0 b1 b2 b3 b4 b5 b6 b7 b8 b9 b10 b11 y0 y1 y2 y3 y4 y5 y6 y7 y8 y9 y10 y11 HB5 HRO HG5
    generalize puts w6 pb 0 (rO rn (.slice a4 n4 c4) (.slice a6 n6 c6)).toList = w7 at *
    have HB7 := Lib.hid HSF.out.2
    clear HSF
    cases hn : (nextI (L.map (·.id)) rk).2.1 with
    | false =>
      have hdn : d = -1 := by
        have := HD.out
        rw [hn] at this
        rw [this]
        exact plc_no (fun j g _ => by simp)
      subst hdn
      have HST : Hid (stepX (L.map (·.id)) rk = none) := Lib.hid (by
        rw [← HK.out.ids] at hn ⊢
        exact HK.out.pu.stepX_no hn)
      clear hn
      obtain ⟨⟨b0, b1, b2, b3, b4, b5, b6, b7, b8, b9, b10, b11⟩, _⟩ := twelve HB7.out.bx
      obtain ⟨⟨r0, r1, r2, r3, r4, r5, r6, r7, r8, r9, r10, r11⟩, y0, y1, y2, y3, y4, y5, y6, y7, y8, y9, y10, y11⟩ := twelve HB7.out.rb
      have hne := HB7.out.lo.2.2
      have hne' := hne.symm
      go_wp2_with fail
      refine (show bodyPost _ _ _ _ _ (puts w7 pr 0 (rO rn (.slice a4 n4 c4) (.slice a6 n6 c6)).toList) from ?_)
      have HZ : Hid (Blk (puts w7 pr 0 (rO rn (.slice a4 n4 c4) (.slice a6 n6 c6)).toList) pr (rO rn (.slice a4 n4 c4) (.slice a6 n6 c6)) RT20 ∧ Rz w (puts w7 pr 0 (rO rn (.slice a4 n4 c4) (.slice a6 n6 c6)).toList) L r (.slice a4 n4 c4) (.slice a6 n6 c6) (.slice au nu cu) ok Lk rn) := Lib.hid (by
        have h1 := HB7.out
        have h2 := HR7.out
        rw [HRN.out] at h1 h2 ⊢
        exact HK.out.zn HST.out h1 h2 HG7.out (Turns.refl _ _))
      clear b0 b1 b2 b3 b4 b5 b6 b7 b8 b9 b10 b11 r0 r1 r2 r3 r4 r5 r6 r7 r8 r9 r10 r11 y0 y1 y2 y3 y4 y5 y6 y7 y8 y9 y10 y11
      generalize puts w7 pr 0 (rO rn (.slice a4 n4 c4) (.slice a6 n6 c6)).toList = w12 at *
      obtain ⟨⟨e0, e1, e2, e3, e4, e5, e6, e7, e8, e9, e10, e11⟩, _⟩ := twelve HZ.out.1
      refine bodyPost_ret (v := .tuple #[.agg (rO rn (.slice a4 n4 c4) (.slice a6 n6 c6)), .slice au nu cu]) (by simp [results, Try.results56, go_sem, e0, e1, e2, e3, e4, e5, e6, e7, e8, e9, e10, e11]) rfl ?_
      exact ⟨a4, n4, c4, a6, n6, c6, Lk, rn, _, ok, rfl, HZ.out.2⟩
    | true =>
      obtain ⟨i, f, x, hf, hid, hx, hv⟩ := HK.out.pu.item (by rw [HK.out.ids]; exact hn)
      rw [HK.out.ids] at hid hv
      have hdn : d = (i : Int) := by
        have := HD.out
        rw [hn] at this
        rw [this]
        have e1 : (fun g : Rf => g.id == (nextI (L.map (·.id)) rk).1 && true) = fun g : Rf => g.id == f.id := by funext g; rw [Bool.and_true, hid]
        rw [e1]
        exact find_is20 HK.out.pu.asc hf rfl
      subst hdn
      clear HD
      have HNX := Lib.hid hn
      have HX := Lib.hid hf
      have HID := Lib.hid hid
      have HX0 := Lib.hid hx
      have HV := Lib.hid hv
      have hkT : k < T := by
        have h1 := TotR.set hf f.q f.ao f.c
        have h2 : 0 < f.q.L.length := (List.getElem?_eq_some_iff.1 hx).1
        have h3 := HK.out.tot
        have h4 := HK.out.kk
        have h5 := HTE.out
        have h6 : f.q.L.length ≤ TotR Lk := le_sum (List.mem_map.2 ⟨f, List.mem_of_getElem? hf, rfl⟩)
        omega
      clear hn hid hv
      obtain ⟨g, o, hg, hgl, z0, z1, z2, z3, z4, z5⟩ := rf_at HR7.out.l hf
      have hi4 : n4 = Lk.length := (ts_len HR7.out.l).1
      have hil := (List.getElem?_eq_some_iff.1 hf).1
      subst hg
      have i0 : (0 : Int) ≤ (i : Int) := by omega
      have i1 : (i : Int) < (n4 : Int) := by omega
      have i2 : decide ((i : Int) < 0) = false := decide_eq_false (by omega)
      clear hi4 hil hf hx
      have b5 : w7.cell? ⟨pb, 5, none⟩ = some (.slice (some ⟨g, o, none⟩) n4 c4) := HB7.out.bx.cell 5
      have HPX : Hid (Blk (w7.alloc (.cells #[.int .i64 f.id, .bool f.video, .int .i64 f.q.frames, .int .i64 f.q.most, .slice f.ao f.q.L.length f.c, .bool f.q.broken] FT)) w7.heap.size #[.int .i64 f.id, .bool f.video, .int .i64 f.q.frames, .int .i64 f.q.most, .slice f.ao f.q.L.length f.c, .bool f.q.broken] FT) := Lib.hid (Blk.new _ _ _)
      have HN8 : Hid (New w7 (w7.alloc (.cells #[.int .i64 f.id, .bool f.video, .int .i64 f.q.frames, .int .i64 f.q.most, .slice f.ao f.q.L.length f.c, .bool f.q.broken] FT))) := Lib.hid ((Turns.refl _ _).alloc _)
      go_upto_region 10 with fail
      refine (show Code.wp _ _ _ _ (w7.alloc (.cells #[.int .i64 f.id, .bool f.video, .int .i64 f.q.frames, .int .i64 f.q.most, .slice f.ao f.q.L.length f.c, .bool f.q.broken] FT)) from ?_)
      clear z0 z1 z2 z3 z4 z5 hgl b5
      generalize w7.alloc (.cells #[.int .i64 f.id, .bool f.video, .int .i64 f.q.frames, .int .i64 f.q.most, .slice f.ao f.q.L.length f.c, .bool f.q.broken] FT) = w8 at *
      generalize w7.heap.size = px at *
      --REST
      have HQ8 := Lib.hid ((HR7.out.later HN8.out).q f (List.mem_of_getElem? HX.out))
      obtain ⟨gq, oq, hgq, hgql, q0, q1, q2, q3⟩ := it_at HQ8.out HX0.out
      have x4 : w8.cell? ⟨px, 4, none⟩ = some (.slice f.ao f.q.L.length f.c) := HPX.out.cell 4
      rw [hgq] at x4
      have m0 : 0 < f.q.L.length := (List.getElem?_eq_some_iff.1 HX0.out).1
      have m1 : (0 : Int) < (f.q.L.length : Int) := by omega
      have HGQ := Lib.hid hgq
      clear hgq
      have HPY : Hid (Blk (w8.alloc (.cells #[.int .i64 x.n, .int .i64 x.size, .int .i64 x.tick, .bool x.key] que.OT)) w8.heap.size #[.int .i64 x.n, .int .i64 x.size, .int .i64 x.tick, .bool x.key] que.OT) := Lib.hid (Blk.new _ _ _)
      have HN9 : Hid (New w8 (w8.alloc (.cells #[.int .i64 x.n, .int .i64 x.size, .int .i64 x.tick, .bool x.key] que.OT))) := Lib.hid ((Turns.refl _ _).alloc _)
      go_upto_region 11 with fail
      refine (show Code.wp _ _ _ _ (w8.alloc (.cells #[.int .i64 x.n, .int .i64 x.size, .int .i64 x.tick, .bool x.key] que.OT)) from ?_)
      clear q0 q1 q2 q3 x4 hgql
      generalize w8.alloc (.cells #[.int .i64 x.n, .int .i64 x.size, .int .i64 x.tick, .bool x.key] que.OT) = w9 at *
      generalize w8.heap.size = py at *
      have RG9 : Hid (Rg w w9 pb pr px py f x (.slice (some ⟨g, o, none⟩) n4 c4) (.slice a6 n6 c6) (.slice au nu cu) ok Lk rn) := Lib.hid ⟨(HB7.out.later HN8.out).later HN9.out, (HR7.out.later HN8.out).later HN9.out, (HG7.out.later HN8.out).later HN9.out, HN9.out.blk HPX.out (fun h => h), HPY.out⟩
      clear HB7 HR7 HG7 HN8 HN9 HPX HPY HQ8
      have c10 : w9.cell? ⟨pb, 10, none⟩ = some (.int .i64 rn.credit) := RG9.out.bx.bx.cell 10
      have k1 : w9.cell? ⟨py, 1, none⟩ = some (.int .i64 x.size) := RG9.out.py.cell 1
      have HRC : Hid (rn.credit = rk.credit ∧ rn.row = rk.row) := Lib.hid (by rw [HRN.out]; exact ⟨rfl, rfl⟩)
      by_cases hc : rn.credit < x.size
      · have dc : decide (rn.credit < x.size) = true := decide_eq_true hc
        have HST : Hid (stepX (L.map (·.id)) rk = none) := Lib.hid (by
          have h1 := HNX.out
          have h2 := HID.out
          rw [← HK.out.ids] at h1 h2 ⊢
          exact HK.out.pu.stepX_low h1 HX.out h2 HX0.out (by rw [← HRC.out.1]; exact hc))
        clear c10
        have c10 : w9.cell? ⟨pb, 10, none⟩ = some (.int .i64 rn.credit) := RG9.out.bx.bx.cell 10
        obtain ⟨⟨b0, b1, b2, b3, b4, b5, b6, b7, b8, b9, b10, b11⟩, _⟩ := twelve RG9.out.bx.bx
        obtain ⟨⟨r0, r1, r2, r3, r4, r5, r6, r7, r8, r9, r10, r11⟩, y0, y1, y2, y3, y4, y5, y6, y7, y8, y9, y10, y11⟩ := twelve RG9.out.bx.rb
        have hne := RG9.out.bx.lo.2.2
        have hne' := hne.symm
        go_wp2_with fail
        refine (show bodyPost _ _ _ _ _ (puts w9 pr 0 (rO rn (.slice (some ⟨g, o, none⟩) n4 c4) (.slice a6 n6 c6)).toList) from ?_)
        have HZ : Hid (Blk (puts w9 pr 0 (rO rn (.slice (some ⟨g, o, none⟩) n4 c4) (.slice a6 n6 c6)).toList) pr (rO rn (.slice (some ⟨g, o, none⟩) n4 c4) (.slice a6 n6 c6)) RT20 ∧ Rz w (puts w9 pr 0 (rO rn (.slice (some ⟨g, o, none⟩) n4 c4) (.slice a6 n6 c6)).toList) L r (.slice (some ⟨g, o, none⟩) n4 c4) (.slice a6 n6 c6) (.slice au nu cu) ok Lk rn) := Lib.hid (by
          have h1 := RG9.out.bx
          have h2 := RG9.out.ro
          rw [HRN.out] at h1 h2 ⊢
          exact HK.out.zn HST.out h1 h2 RG9.out.gr (Turns.refl _ _))
        clear b0 b1 b2 b3 b4 b5 b6 b7 b8 b9 b10 b11 r0 r1 r2 r3 r4 r5 r6 r7 r8 r9 r10 r11 y0 y1 y2 y3 y4 y5 y6 y7 y8 y9 y10 y11
        generalize puts w9 pr 0 (rO rn (.slice (some ⟨g, o, none⟩) n4 c4) (.slice a6 n6 c6)).toList = w12 at *
        obtain ⟨⟨e0, e1, e2, e3, e4, e5, e6, e7, e8, e9, e10, e11⟩, _⟩ := twelve HZ.out.1
        refine bodyPost_ret (v := .tuple #[.agg (rO rn (.slice (some ⟨g, o, none⟩) n4 c4) (.slice a6 n6 c6)), .slice au nu cu]) (by simp [results, Try.results56, go_sem, e0, e1, e2, e3, e4, e5, e6, e7, e8, e9, e10, e11]) rfl ?_
        exact ⟨_, n4, c4, a6, n6, c6, Lk, rn, _, ok, rfl, HZ.out.2⟩
      · have dc : decide (rn.credit < x.size) = false := decide_eq_false hc
        have HCR : Hid (x.size ≤ rk.credit) := Lib.hid (by rw [← HRC.out.1]; omega)
        have HPQ : Hid (Blk (w9.alloc (.cells #[.int .i64 f.q.frames, .int .i64 f.q.most, .slice f.ao f.q.L.length f.c, .bool f.q.broken] que.RQ)) w9.heap.size #[.int .i64 f.q.frames, .int .i64 f.q.most, .slice f.ao f.q.L.length f.c, .bool f.q.broken] que.RQ) := Lib.hid (Blk.new _ _ _)
        have HN10 : Hid (New w9 (w9.alloc (.cells #[.int .i64 f.q.frames, .int .i64 f.q.most, .slice f.ao f.q.L.length f.c, .bool f.q.broken] que.RQ))) := Lib.hid ((Turns.refl _ _).alloc _)
        obtain ⟨x0, x1, x2, x3, x4, x5⟩ := four6 RG9.out.px
        have HPL : Hid (w.heap.size ≤ w9.heap.size) := Lib.hid RG9.out.bx.n.size
        go_upto_region 14 with fail
        refine (show Code.wp _ _ _ _ (w9.alloc (.cells #[.int .i64 f.q.frames, .int .i64 f.q.most, .slice f.ao f.q.L.length f.c, .bool f.q.broken] que.RQ)) from ?_)
        clear c10 k1 x0 x1 x2 x3 x4 x5 dc hc
        generalize w9.alloc (.cells #[.int .i64 f.q.frames, .int .i64 f.q.most, .slice f.ao f.q.L.length f.c, .bool f.q.broken] que.RQ) = w10 at *
        generalize w9.heap.size = pq at *
        have RG10 := Lib.hid (RG9.out.later HN10.out)
        clear HN10 RG9
        have q2 : w10.cell? ⟨pq, 2, none⟩ = some (.slice f.ao f.q.L.length f.c) := HPQ.out.cell 2
        rw [HGQ.out] at q2
        have qf := HPQ.out.free 2
        have HQC : Hid (f.q.L.length ≤ f.c ∧ f.c ≤ maxLen) := Lib.hid (ts_len (RG10.out.ro.q f (List.mem_of_getElem? HX.out))).2
        have hq0 : f.q.L.length ≤ f.c := HQC.out.1
        have hq1 : (f.q.L.length : Int) ≤ (f.c : Int) := by omega
        have hq2 : (1 : Int) ≤ (f.q.L.length : Int) := by omega
        have hq3 : 1 ≤ f.q.L.length := m0
        go_cut [] (fun wx => ∃ ad, wx = w10.setCell ⟨pq, 2, none⟩ (.slice ad (f.q.L.length - 1) (f.c - 1)) ∧ ad = (if f.c = 1 then some (⟨gq, oq, none⟩ : Addr) else some ⟨gq, oq + 4, none⟩))
        case first =>
          by_cases hc1 : f.c = 1
          · go_wp2_with fail
            go_meet
            case rel => exact ⟨some ⟨gq, oq, none⟩, by simp [hc1], by simp [hc1]⟩
          · go_wp2_with fail
            go_meet
            case rel => exact ⟨_, rfl, by simp [hc1]⟩
        case rest =>
          obtain ⟨ad, hwc, had⟩ := hcut
          have HAD := Lib.hid had
          have hpq := HPQ.out.set 2 (.slice ad (f.q.L.length - 1) (f.c - 1))
          rw [← hwc] at hpq
          have t11 : Turns (· = pq) w10 wc := by rw [hwc]; exact (Turns.refl (· = pq) _).setCell (.inl rfl) _
          have RG11 : Hid (Rg w wc pb pr px py f x (.slice (some ⟨g, o, none⟩) n4 c4) (.slice a6 n6 c6) (.slice au nu cu) ok Lk rn) := Lib.hid (by
            have h1 := RG10.out
            have hlt : w.heap.size ≤ pq := HPL.out
            have off : ∀ {r : Nat} {cs : Array Value} {U : TypeId}, Blk w10 r cs U → U ≠ que.RQ → ¬ r = pq := fun hb hU e => blk_ne hb HPQ.out hU e
            refine ⟨⟨t11.blk h1.bx.bx (off h1.bx.bx (by decide)), t11.blk h1.bx.rb (off h1.bx.rb (by decide)), h1.bx.n.trans (t11.mono (fun k _ hk => .inr (by rw [hk]; exact hlt))), h1.bx.lo⟩, ⟨h1.ro.l.turns t11 (fun y hy e => h1.ro.l.off HPQ.out (by decide) (by rw [hy, e])), fun g hg => (h1.ro.q g hg).turns t11 (fun y hy e => (h1.ro.q g hg).off HPQ.out (by decide) (by rw [hy, e])), h1.ro.s.turns t11 (fun y hy e => h1.ro.s.off HPQ.out (by decide) (by rw [hy, e])), h1.ro.e, fun g hg => Nat.lt_of_lt_of_le (h1.ro.b g hg) t11.size⟩, ⟨h1.gr.own.turns t11 (fun g hg e => own_ne h1.gr.own HPQ.out (by decide) (by rw [hg, e])), h1.gr.vb, h1.bx.n.trans (t11.mono (fun k _ hk => .inr (by rw [hk]; exact hlt)))⟩, t11.blk h1.px (off h1.px (by decide)), t11.blk h1.py (off h1.py (by decide))⟩)
          have HP11 := Lib.hid hpq
          clear hpq t11 hwc had q2 qf RG10 HPQ
          have HTD : Hid (TS que.IE que.OT wc (.slice ad (f.q.L.length - 1) (f.c - 1)) (f.q.L.drop 1)) := Lib.hid (by
            have h1 := RG11.out.ro.q f (List.mem_of_getElem? HX.out)
            rw [HGQ.out] at h1
            rw [HAD.out]
            exact TS.drop1 h1 m0)
          have HS11 := Lib.hid (rset (.slice (some ⟨g, o, none⟩) n4 c4) a6 n6 c6 Lk rn i f ⟨f.q.frames, f.q.most, f.q.L.drop 1, f.q.broken⟩ ad (f.q.L.length - 1) (f.c - 1) wc RG11.out.ro.l (by have := HK.out.len; have := HLN.out; omega) HX.out (by rw [List.length_drop]))
          dsimp only at HS11
          clear hq0 hq1 hq2 hq3
          obtain ⟨⟨b0, b1, b2, b3, b4, b5, b6, b7, b8, b9, b10, b11⟩, _⟩ := twelve RG11.out.bx.bx
          obtain ⟨⟨q0, q1, q2, q3⟩, _⟩ := que.four HP11.out
          go_upto_region 15 with fail
          go_wp2_with fail
          refine HS11.out.mono ?_
          rintro e w12 ⟨a9, n9, c9, rfl, hts, n12⟩
          have HT12 := Lib.hid hts
          have RG12 := Lib.hid (RG11.out.later n12)
          have HTD12 := Lib.hid (HTD.out.later n12)
          have HN12 := Lib.hid n12
          clear b0 b1 b2 b3 b4 b5 b6 b7 b8 b9 b10 b11 q0 q1 q2 q3 hts n12 HS11
          obtain ⟨⟨b0, b1, b2, b3, b4, b5, b6, b7, b8, b9, b10, b11⟩, y0, y1, y2, y3, y4, y5, y6, y7, y8, y9, y10, y11⟩ := twelve RG12.out.bx.bx
          have hpbl := RG12.out.bx.bx.lt
          go_upto_region 16 with fail
          have T13 : Turns (· = pb) w12 (puts w12 pb 0 (rO rn (.slice a9 n9 c9) (.slice a6 n6 c6)).toList) := puts_turns (S := (· = pb)) (.inl rfl) _ 0 _ (Turns.refl _ _)
          have RO12 := RG11.out.ro.set (q := ⟨f.q.frames, f.q.most, f.q.L.drop 1, f.q.broken⟩) HN12.out HK.out.pu.asc HX.out HT12.out (by rw [List.length_drop]; exact HTD12.out)
          obtain ⟨rs, hrs⟩ : ∃ rs : Eo, rs = ⟨rn.frames, rn.bytes, rn.age, rn.most, rn.guard, rn.credit, rn.row, setQ rn.L f.id (.slice none 0 0) ⟨f.q.frames, f.q.most, f.q.L.drop 1, f.q.broken⟩, rn.s⟩ := ⟨_, rfl⟩
          rw [← hrs] at RO12
          have HRS := Lib.hid hrs
          have hb13 : Blk (puts w12 pb 0 (rO rn (.slice a9 n9 c9) (.slice a6 n6 c6)).toList) pb (rO rs (.slice a9 n9 c9) (.slice a6 n6 c6)) RT20 := by rw [hrs]; exact puts_blk _ _ RG12.out.bx.bx rfl
          have RG13 := Lib.hid (RG12.out.self T13 hb13 (RO12.turn RG12.out.bx.bx T13))
          clear T13 RO12 hrs hb13
          refine (show Code.wp _ _ _ _ (puts w12 pb 0 (rO rn (.slice a9 n9 c9) (.slice a6 n6 c6)).toList) from ?_)
          clear b0 b1 b2 b3 b4 b5 b6 b7 b8 b9 b10 b11 y0 y1 y2 y3 y4 y5 y6 y7 y8 y9 y10 y11 hpbl
          generalize puts w12 pb 0 (rO rn (.slice a9 n9 c9) (.slice a6 n6 c6)).toList = w13 at *
          clear RG12 HT12 HTD12 HN12 HTD RG11 HP11
          have HRE : Hid (rs.credit = rk.credit ∧ rs.row = rk.row) := Lib.hid (by rw [HRS.out]; exact HRC.out)
          have c10 : w13.cell? ⟨pb, 10, none⟩ = some (.int .i64 rs.credit) := RG13.out.bx.bx.cell 10
          have c11 : w13.cell? ⟨pb, 11, none⟩ = some (.int .i64 rs.row) := RG13.out.bx.bx.cell 11
          have y10 := RG13.out.bx.bx.free 10
          have y11 := RG13.out.bx.bx.free 11
          have k1 : w13.cell? ⟨py, 1, none⟩ = some (.int .i64 x.size) := RG13.out.py.cell 1
          have hpbl := RG13.out.bx.bx.lt
          have hpyl := RG13.out.py.lt
          have hwc : IntKind.i64.wrap (rs.credit - x.size) = rs.credit - x.size := IntWalk.i64_in _ (by
            have h1 := HRE.out.1
            have h2 := HCR.out
            have h3 := HK.out.pu.cf.c1
            have h4 := (HK.out.pu.ok f (List.mem_of_getElem? HX.out)).pos x (List.mem_of_getElem? HX0.out)
            omega)
          have hwr : IntKind.i64.wrap (rs.row + 1) = rs.row + 1 := IntWalk.i64_in _ (by
            have h1 := HRE.out.2
            have h2 := HK.out.w0
            have h3 := HK.out.w1
            have h4 := HWW.out
            omega)
          go_upto_region 18 with fail
          obtain ⟨rt, hrt⟩ : ∃ rt : Eo, rt = ⟨rs.frames, rs.bytes, rs.age, rs.most, rs.guard, rs.credit - x.size, rs.row + 1, rs.L, rs.s⟩ := ⟨_, rfl⟩
          have RG14 : Hid (Rg w ((w13.setCell ⟨pb, 10, none⟩ (.int .i64 (rs.credit - x.size))).setCell ⟨pb, 11, none⟩ (.int .i64 (rs.row + 1))) pb pr px py f x (.slice a9 n9 c9) (.slice a6 n6 c6) (.slice au nu cu) ok (Lk.set i (f.with ⟨f.q.frames, f.q.most, f.q.L.drop 1, f.q.broken⟩ ad (f.c - 1))) rt) := Lib.hid (by
            have t : Turns (· = pb) w13 ((w13.setCell ⟨pb, 10, none⟩ (.int .i64 (rs.credit - x.size))).setCell ⟨pb, 11, none⟩ (.int .i64 (rs.row + 1))) := ((Turns.refl (· = pb) _).setCell (p := ⟨pb, 10, none⟩) (.inl rfl) _).setCell (p := ⟨pb, 11, none⟩) (.inl rfl) _
            have hr := RG13.out.ro.turn RG13.out.bx.bx t
            rw [hrt]
            exact RG13.out.self t ((RG13.out.bx.bx.set 10 _).set 11 _) ⟨hr.l, hr.q, hr.s, hr.e, hr.b⟩)
          refine (show Code.wp _ _ _ _ ((w13.setCell ⟨pb, 10, none⟩ (.int .i64 (rs.credit - x.size))).setCell ⟨pb, 11, none⟩ (.int .i64 (rs.row + 1))) from ?_)
          clear c10 c11 y10 y11 k1 hpbl hpyl hwc hwr
          generalize (w13.setCell ⟨pb, 10, none⟩ (.int .i64 (rs.credit - x.size))).setCell ⟨pb, 11, none⟩ (.int .i64 (rs.row + 1)) = w14 at *
          have HRT := Lib.hid hrt
          clear hrt RG13
          have x1 : w14.cell? ⟨px, 1, none⟩ = some (.bool f.video) := RG14.out.px.cell 1
          cases hvd : f.video with
          | false =>
            rw [hvd] at x1
            have HGO : Hid (rt = goneI (L.map (·.id)) rk (toE f) x) := Lib.hid (by
              unfold goneI countE
              rw [if_neg (by show ¬ f.video = true; rw [hvd]; decide), HRT.out, HRS.out, HRN.out]
              rfl)
            clear hvd
            go_upto_region 21 with fail
            clear x1
            have h0r := RG14.out
            have x0 : w14.cell? ⟨px, 0, none⟩ = some (.int .i64 f.id) := h0r.px.cell 0
            obtain ⟨⟨k0, k1, k2, k3⟩, _⟩ := que.four h0r.py
            have hxl := h0r.px.lt
            have hyl := h0r.py.lt
            clear h0r
            have HLE : Hid (ok.length + [(⟨f.id, x⟩ : Snt)].length ≤ 1048576) := Lib.hid (by
              have := HK.out.kk
              have := HTE.out
              have := HTT.out
              simp
              omega)
            have HGW := RG14.out.gr.own.turns (S := fun _ => False) ((Turns.refl _ _).alloc (.cells #[.int .i64 f.id, .int .i64 x.n, .int .i64 x.size, .int .i64 x.tick, .bool x.key] RSeT)) (fun _ _ h => h)
            go_wp2_with (at_builtin; refine wpList_append_sub (E := SE) Try.underlying73 infoRs rfl (by decide) (by decide) rfl _ _ rfl _ ok [⟨f.id, x⟩] rfl HGW _ rfl 0 (one5 rfl (Blk.new _ _ _)) HLE.out ?_)
            intro v20 w20 hown hgrow hat
            have hg20 := Gr.push RG14.out.gr hown hgrow (by rw [World.size_alloc]; exact hat)
            have hb20 := (RG14.out.bx.later ((Turns.refl _ _).alloc (.cells #[.int .i64 f.id, .int .i64 x.n, .int .i64 x.size, .int .i64 x.tick, .bool x.key] RSeT))).grow HGW RG14.out.gr.vb (Turns.of_grown hgrow)
            have hr20 := (RG14.out.ro.later ((Turns.refl _ _).alloc (.cells #[.int .i64 f.id, .int .i64 x.n, .int .i64 x.size, .int .i64 x.tick, .bool x.key] RSeT))).grow HGW (Turns.of_grown hgrow)
            have HK20 : Hid (Rw w w20 pb pr L r (k + 1) (.slice a9 n9 c9) (.slice a6 n6 c6) v20 (ok ++ [⟨f.id, x⟩]) (Lk.set i (f.with ⟨f.q.frames, f.q.most, f.q.L.drop 1, f.q.broken⟩ ad (f.c - 1))) (goneI (L.map (·.id)) rk (toE f) x)) := Lib.hid (by
              have hgo := HGO.out
              rw [hgo] at hb20 hr20
              have hcr := HCR.out
              have hp := HK.out.pu.gone HX.out HX0.out hcr ad (f.c - 1)
              rw [HK.out.ids] at hp
              have h1 := TotR.set HX.out ⟨f.q.frames, f.q.most, f.q.L.drop 1, f.q.broken⟩ ad (f.c - 1)
              have h2 : 0 < f.q.L.length := (List.getElem?_eq_some_iff.1 HX0.out).1
              have h3 : (f.q.L.drop 1).length = f.q.L.length - 1 := List.length_drop
              have h4 := HK.out.tot
              simp only at h1
              have hsl : (goneI (L.map (·.id)) rk (toE f) x).s.L.length = rk.s.L.length := by
                have hs := HK.out.pu.next.2
                rw [HK.out.ids] at hs
                unfold goneI countE
                split
                · exact (hs.trans (drr.Sim.take _ _)).len
                · exact hs.len
              have hrw : 0 ≤ (goneI (L.map (·.id)) rk (toE f) x).row ∧ (goneI (L.map (·.id)) rk (toE f) x).row ≤ rk.row + 1 := by
                rw [goneI_row]
                have := HK.out.w0
                split <;> omega
              have hw1 := HK.out.w1
              refine ⟨hb20, hr20, hp, (set_ids HK.out.pu.asc HX.out _ _ _).trans HK.out.ids, HK.out.so.step ?_, hg20, by rw [List.length_append, List.length_singleton]; omega, by rw [List.length_append, List.length_singleton, HK.out.kk], hsl.trans HK.out.sl, hrw.1, by push_cast; omega, (goneI_cf _ _ _ _).1.trans HK.out.fr, fun y hy z hz => ?_⟩
              rotate_left
              · rcases List.mem_or_eq_of_mem_set hy with hy | hy
                · exact HK.out.mem y hy z hz
                · rw [hy] at hz
                  exact HK.out.mem f (List.mem_of_getElem? HX.out) z (List.mem_of_mem_drop hz)
              have hst := HK.out.pu.stepX_go (x := x) (by rw [HK.out.ids]; exact HNX.out) HX.out (by rw [HK.out.ids]; exact HID.out) HX0.out hcr
              rw [HK.out.ids] at hst
              exact hst)
            obtain ⟨a20, c20, hv20, _⟩ := hown.form
            generalize (ok ++ [(⟨f.id, x⟩ : Snt)]).length = n20 at hv20
            subst hv20
            clear hown hgrow hat HK hg20 hb20 hr20 HGW HLE x0 k0 k1 k2 k3 hxl hyl
            go_wp2_with fail
            go_roundw
            case rel => exact ⟨k + 1, _, _, _, _, _, _, _, _, _, _, _, _, by omega, by push_cast; go_num, rfl, HK20.out⟩
            case measure => simp [intOf, hw]; omega
          | true =>
            rw [hvd] at x1
            obtain ⟨hg1, hg2, j, fl, hj, hjid, hjl, hj2⟩ := HV.out hvd
            have HTK := Lib.hid (drr.rtake (.slice a6 n6 c6) rt.s x.size j fl w14 RG14.out.ro.s (by
              have h1 := HK.out.sl
              have h2 := HSL.out
              have h3 := HK.out.pu.next.2
              rw [HK.out.ids] at h3
              rw [HRT.out, HRS.out, HRN.out]
              have := h3.len
              show (nextI (L.map (·.id)) rk).2.2.L.length ≤ _
              omega) (by
              have h3 := HK.out.pu.next.2
              rw [HK.out.ids] at h3
              rw [HRT.out, HRS.out, HRN.out]
              exact h3.sasc HK.out.pu.sa) (by
              have h3 := HK.out.pu.next.2
              rw [HK.out.ids] at h3
              rw [HRT.out, HRS.out, HRN.out]
              exact h3.ap HK.out.pu.sp) (by rw [HRT.out, HRS.out, HRN.out]; exact hj) (by rw [HRT.out, HRS.out, HRN.out]; exact hjid.trans hg2.symm) (by rw [HRT.out, HRS.out, HRN.out]; exact hg1) ((HK.out.pu.ok f (List.mem_of_getElem? HX.out)).pos x (List.mem_of_getElem? HX0.out)) hjl hj2)
            have HGO : Hid ((⟨rt.frames, rt.bytes, rt.age, rt.most, rt.guard, rt.credit, 0, rt.L, drr.takeS x.size rt.s⟩ : Eo) = goneI (L.map (·.id)) rk (toE f) x) := Lib.hid (by
              unfold goneI countE
              rw [if_pos (by show f.video = true; exact hvd), HRT.out, HRS.out, HRN.out]
              rfl)
            clear hvd hg1 hg2 hj hjid hjl hj2
            dsimp only [drr.rS] at HTK
            obtain ⟨⟨b0, b1, b2, b3, b4, b5, b6, b7, b8, b9, b10, b11⟩, _⟩ := twelve RG14.out.bx.bx
            have k1 : w14.cell? ⟨py, 1, none⟩ = some (.int .i64 x.size) := RG14.out.py.cell 1
            go_wp2_with fail
            refine HTK.out.mono ?_
            rintro e w15 ⟨a7, n7, c7, rfl, hts, n15⟩
            have HT15 := Lib.hid hts
            have RG15 := Lib.hid (RG14.out.later n15)
            clear b0 b1 b2 b3 b4 b5 b6 b7 b8 b9 b10 b11 k1 x1 hts n15 HTK RG14
            dsimp only [drr.rS]
            obtain ⟨⟨b0, b1, b2, b3, b4, b5, b6, b7, b8, b9, b10, b11⟩, y0, y1, y2, y3, y4, y5, y6, y7, y8, y9, y10, y11⟩ := twelve RG15.out.bx.bx
            have hpbl := RG15.out.bx.bx.lt
            obtain ⟨st, hst⟩ : ∃ st, st = drr.takeS x.size rt.s := ⟨_, rfl⟩
            rw [← hst] at HT15 HGO ⊢
            have HSB : Hid (∀ f ∈ st.L, f.b < w15.heap.size) := Lib.hid (fun y hy => by
              have hsim := drr.Sim.take rt.s x.size
              rw [← hst] at hsim
              rw [hsim.2.choose_spec] at hy
              obtain ⟨z, hz, rfl⟩ := drr.upd_mem hy
              exact RG15.out.ro.b z hz)
            clear hst
            go_upto_region 21 with fail
            have RG16 : Hid (Rg w (((((w15.setCell ⟨pb, 6, none⟩ (.int .i64 st.most)).setCell ⟨pb, 7, none⟩ (.slice a7 n7 c7)).setCell ⟨pb, 8, none⟩ (.int .i64 st.turn)).setCell ⟨pb, 9, none⟩ (.bool st.g)).setCell ⟨pb, 11, none⟩ (.int .i64 0)) pb pr px py f x (.slice a9 n9 c9) (.slice a7 n7 c7) (.slice au nu cu) ok (Lk.set i (f.with ⟨f.q.frames, f.q.most, f.q.L.drop 1, f.q.broken⟩ ad (f.c - 1))) ⟨rt.frames, rt.bytes, rt.age, rt.most, rt.guard, rt.credit, 0, rt.L, st⟩) := Lib.hid (by
              have t : Turns (· = pb) w15 (((((w15.setCell ⟨pb, 6, none⟩ (.int .i64 st.most)).setCell ⟨pb, 7, none⟩ (.slice a7 n7 c7)).setCell ⟨pb, 8, none⟩ (.int .i64 st.turn)).setCell ⟨pb, 9, none⟩ (.bool st.g)).setCell ⟨pb, 11, none⟩ (.int .i64 0)) := (((((Turns.refl (· = pb) _).setCell (p := ⟨pb, 6, none⟩) (.inl rfl) _).setCell (p := ⟨pb, 7, none⟩) (.inl rfl) _).setCell (p := ⟨pb, 8, none⟩) (.inl rfl) _).setCell (p := ⟨pb, 9, none⟩) (.inl rfl) _).setCell (p := ⟨pb, 11, none⟩) (.inl rfl) _
              have hr := RG15.out.ro.turn RG15.out.bx.bx t
              refine RG15.out.self t (((((RG15.out.bx.bx.set 6 _).set 7 _).set 8 _).set 9 _).set 11 _) ⟨hr.l, hr.q, HT15.out.turns t (fun y hy e => HT15.out.off RG15.out.bx.bx (by decide) (by rw [hy, e])), hr.e, fun y hy => ?_⟩
              exact Nat.lt_of_lt_of_le (HSB.out y hy) t.size)
            refine (show Code.wp _ _ _ _ (((((w15.setCell ⟨pb, 6, none⟩ (.int .i64 st.most)).setCell ⟨pb, 7, none⟩ (.slice a7 n7 c7)).setCell ⟨pb, 8, none⟩ (.int .i64 st.turn)).setCell ⟨pb, 9, none⟩ (.bool st.g)).setCell ⟨pb, 11, none⟩ (.int .i64 0)) from ?_)
            clear b0 b1 b2 b3 b4 b5 b6 b7 b8 b9 b10 b11 y0 y1 y2 y3 y4 y5 y6 y7 y8 y9 y10 y11 hpbl
            generalize ((((w15.setCell ⟨pb, 6, none⟩ (.int .i64 st.most)).setCell ⟨pb, 7, none⟩ (.slice a7 n7 c7)).setCell ⟨pb, 8, none⟩ (.int .i64 st.turn)).setCell ⟨pb, 9, none⟩ (.bool st.g)).setCell ⟨pb, 11, none⟩ (.int .i64 0) = w16 at *
            clear RG15 HT15 HSB
            have h0r := RG16.out
            have x0 : w16.cell? ⟨px, 0, none⟩ = some (.int .i64 f.id) := h0r.px.cell 0
            obtain ⟨⟨k0, k1, k2, k3⟩, _⟩ := que.four h0r.py
            have hxl := h0r.px.lt
            have hyl := h0r.py.lt
            clear h0r
            have HLE : Hid (ok.length + [(⟨f.id, x⟩ : Snt)].length ≤ 1048576) := Lib.hid (by
              have := HK.out.kk
              have := HTE.out
              have := HTT.out
              simp
              omega)
            have HGW := RG16.out.gr.own.turns (S := fun _ => False) ((Turns.refl _ _).alloc (.cells #[.int .i64 f.id, .int .i64 x.n, .int .i64 x.size, .int .i64 x.tick, .bool x.key] RSeT)) (fun _ _ h => h)
            go_wp2_with (at_builtin; refine wpList_append_sub (E := SE) Try.underlying73 infoRs rfl (by decide) (by decide) rfl _ _ rfl _ ok [⟨f.id, x⟩] rfl HGW _ rfl 0 (one5 rfl (Blk.new _ _ _)) HLE.out ?_)
            intro v20 w20 hown hgrow hat
            have hg20 := Gr.push RG16.out.gr hown hgrow (by rw [World.size_alloc]; exact hat)
            have hb20 := (RG16.out.bx.later ((Turns.refl _ _).alloc (.cells #[.int .i64 f.id, .int .i64 x.n, .int .i64 x.size, .int .i64 x.tick, .bool x.key] RSeT))).grow HGW RG16.out.gr.vb (Turns.of_grown hgrow)
            have hr20 := (RG16.out.ro.later ((Turns.refl _ _).alloc (.cells #[.int .i64 f.id, .int .i64 x.n, .int .i64 x.size, .int .i64 x.tick, .bool x.key] RSeT))).grow HGW (Turns.of_grown hgrow)
            have HK20 : Hid (Rw w w20 pb pr L r (k + 1) (.slice a9 n9 c9) (.slice a7 n7 c7) v20 (ok ++ [⟨f.id, x⟩]) (Lk.set i (f.with ⟨f.q.frames, f.q.most, f.q.L.drop 1, f.q.broken⟩ ad (f.c - 1))) (goneI (L.map (·.id)) rk (toE f) x)) := Lib.hid (by
              have hgo := HGO.out
              rw [hgo] at hb20 hr20
              have hcr := HCR.out
              have hp := HK.out.pu.gone HX.out HX0.out hcr ad (f.c - 1)
              rw [HK.out.ids] at hp
              have h1 := TotR.set HX.out ⟨f.q.frames, f.q.most, f.q.L.drop 1, f.q.broken⟩ ad (f.c - 1)
              have h2 : 0 < f.q.L.length := (List.getElem?_eq_some_iff.1 HX0.out).1
              have h3 : (f.q.L.drop 1).length = f.q.L.length - 1 := List.length_drop
              have h4 := HK.out.tot
              simp only at h1
              have hsl : (goneI (L.map (·.id)) rk (toE f) x).s.L.length = rk.s.L.length := by
                have hs := HK.out.pu.next.2
                rw [HK.out.ids] at hs
                unfold goneI countE
                split
                · exact (hs.trans (drr.Sim.take _ _)).len
                · exact hs.len
              have hrw : 0 ≤ (goneI (L.map (·.id)) rk (toE f) x).row ∧ (goneI (L.map (·.id)) rk (toE f) x).row ≤ rk.row + 1 := by
                rw [goneI_row]
                have := HK.out.w0
                split <;> omega
              have hw1 := HK.out.w1
              refine ⟨hb20, hr20, hp, (set_ids HK.out.pu.asc HX.out _ _ _).trans HK.out.ids, HK.out.so.step ?_, hg20, by rw [List.length_append, List.length_singleton]; omega, by rw [List.length_append, List.length_singleton, HK.out.kk], hsl.trans HK.out.sl, hrw.1, by push_cast; omega, (goneI_cf _ _ _ _).1.trans HK.out.fr, fun y hy z hz => ?_⟩
              rotate_left
              · rcases List.mem_or_eq_of_mem_set hy with hy | hy
                · exact HK.out.mem y hy z hz
                · rw [hy] at hz
                  exact HK.out.mem f (List.mem_of_getElem? HX.out) z (List.mem_of_mem_drop hz)
              have hst := HK.out.pu.stepX_go (x := x) (by rw [HK.out.ids]; exact HNX.out) HX.out (by rw [HK.out.ids]; exact HID.out) HX0.out hcr
              rw [HK.out.ids] at hst
              exact hst)
            obtain ⟨a20, c20, hv20, _⟩ := hown.form
            generalize (ok ++ [(⟨f.id, x⟩ : Snt)]).length = n20 at hv20
            subst hv20
            clear hown hgrow hat HK hg20 hb20 hr20 HGW HLE x0 k0 k1 k2 k3 hxl hyl
            go_wp2_with fail
            go_roundw
            case rel => exact ⟨k + 1, _, _, _, _, _, _, _, _, _, _, _, _, by omega, by push_cast; go_num, rfl, HK20.out⟩
            case measure => simp [intOf, hw]; omega
end Go.Proofs.Ytcppibjllaablaa.egr
