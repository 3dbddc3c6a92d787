/-
  'Does' of layer 20's laws: Put.
-/
import Derived.Test.YtcppibjllaablaaZEgrDef
import Derived.Test.YtcppibjllaablaaZEgrR20y
import Derived.Deep.RegionHeld3
import Derived.Deep.QuietTactic
import Derived.BigQuiet
import Derived.Deep.DeepCutAuto
set_option linter.unusedVariables false
set_option linter.unusedSimpArgs false
namespace Go.Proofs.Ytcppibjllaablaa.egr
open Go.RowKit mem
open Go.Proofs.Ytcppibjllaablaa.drr (plc plc_at plc_no plc_cases before_succ before_all)
set_option linter.unusedVariables false

set_option maxRecDepth 100000 in
set_option maxHeartbeats 8000000 in
theorem does1_some (b : Nat) (w : World) (A : Ad) (k : Nat) (e : Eo) (al : Option Addr) (nl cl : Nat) (ar : Option Addr) (nr cr : Nat) (L : List Rf) (r : Eo) (now n : Int) (i : Nat) (f : Rf) (j : Nat) (id nn : Int) (ky vd : Bool) (h : Dv b w w A k e (.slice al nl cl) (.slice ar nr cr) L r now n) (c : Dc i k e r L now n) (hi : i ≤ 200) (hf : L[j]? = some f) (hid : f.id = id) (s0 : -9223372036854775808 ≤ nn) (hn : nn ≤ r.most) :
    Calls Try.prog 27 #[.agg (stS A r (.slice al nl cl) (.slice ar nr cr) now n), .agg (acs ⟨1, id, nn, ky, vd⟩)] w (Post b w A L r now n ⟨1, id, nn, ky, vd⟩ i) := by
  subst hid
  have HX := Lib.hid hf
  have HNN := Lib.hid (And.intro s0 hn)
  obtain ⟨g, hg, hgid, hgv, hgq⟩ := h.flow hf
  have HG := Lib.hid (And.intro hg (And.intro hgid (And.intro hgv hgq)))
  clear hf hg hgid hgv hgq s0 hn
  have HDV := Lib.hid h
  have HDC := Lib.hid c
  have hii := hi
  have hbx := Cx.start w A r (.slice al nl cl) (.slice ar nr cr) now n ⟨1, f.id, nn, ky, vd⟩
  have HBX := Lib.hid hbx
  have HB0 : Hid (b ≤ w.heap.size) := Lib.hid h.ru.base
  clear hbx h c
  go_enter Try.func27, Try.ntmps27
  go_upto_region 1 with fail
  refine (show Code.wp _ _ _ _ (((w.alloc (.cells (stS A r (.slice al nl cl) (.slice ar nr cr) now n) STT)).alloc (.cells (acs ⟨1, f.id, nn, ky, vd⟩) ACT)).alloc (.cells z15 STT)) from ?_)
  generalize ((w.alloc (.cells (stS A r (.slice al nl cl) (.slice ar nr cr) now n) STT)).alloc (.cells (acs ⟨1, f.id, nn, ky, vd⟩) ACT)).alloc (.cells z15 STT) = w1 at *
  generalize w.heap.size + 1 + 1 = pr at *
  generalize w.heap.size + 1 = pa at *
  obtain ⟨pb, hpb⟩ : ∃ pb, pb = w.heap.size := ⟨_, rfl⟩
  have HCX : Hid (Cx w w1 pb pa pr A r (.slice al nl cl) (.slice ar nr cr) now n ⟨1, f.id, nn, ky, vd⟩) := Lib.hid (by rw [hpb]; exact HBX.out.1)
  rw [← hpb]
  clear hpb
  have HN1 : Hid (New w w1) := Lib.hid HBX.out.2
  clear HBX
  have HD1 := Lib.hid (HDV.out.later HN1.out)
  obtain ⟨⟨s0, s1, s2, s3, s4, s5, s6, s7, s8, s9, s10, s11, s12, s13, s14⟩, _⟩ := fifteen HCX.out.b
  obtain ⟨⟨_, _, _, _, _, _, _, _, _, _, _, _, _, _, _⟩, z0, z1, z2, z3, z4, z5, z6, z7, z8, z9, z10, z11, z12, z13, z14⟩ := fifteen HCX.out.b
  have a0 := HCX.out.a.cell 0
  have a1 := HCX.out.a.cell 1
  have a2 := HCX.out.a.cell 2
  have a3 := HCX.out.a.cell 3
  have hw1 : IntKind.i64.wrap (n + 1) = n + 1 := IntWalk.i64_in _ (by have := HDC.out.n0; have := HDC.out.n1; omega)
  have t2 : Turns (· = pb) w1 (w1.setCell ⟨pb, 14, none⟩ (.int .i64 (n + 1))) := (Turns.refl (· = pb) _).setCell (.inl rfl) _
  have HC2 : Hid (Cx w (w1.setCell ⟨pb, 14, none⟩ (.int .i64 (n + 1))) pb pa pr A r (.slice al nl cl) (.slice ar nr cr) now (n + 1) ⟨1, f.id, nn, ky, vd⟩) := Lib.hid (HCX.out.self t2 (HCX.out.b.set 14 _))
  have HD2 : Hid (Dv b w (w1.setCell ⟨pb, 14, none⟩ (.int .i64 (n + 1))) A k e (.slice al nl cl) (.slice ar nr cr) L r now n) := Lib.hid (HD1.out.off HCX.out.b HB0.out HCX.out.lo.1 t2 rfl)
  clear t2
  go_upto_region 4 with fail
  refine (show Code.wp _ _ _ _ (w1.setCell ⟨pb, 14, none⟩ (.int .i64 (n + 1))) from ?_)
  clear s0 s1 s2 s3 s4 s5 s6 s7 s8 s9 s10 s11 s12 s13 s14 z0 z1 z2 z3 z4 z5 z6 z7 z8 z9 z10 z11 z12 z13 z14 a0 a1 a2 a3
  generalize w1.setCell ⟨pb, 14, none⟩ (.int .i64 (n + 1)) = w2 at *
  obtain ⟨⟨s0, s1, s2, s3, s4, s5, s6, s7, s8, s9, s10, s11, s12, s13, s14⟩, _⟩ := fifteen HC2.out.b
  have a2 := HC2.out.a.cell 2
  have a3 := HC2.out.a.cell 3
  have HXB : Hid (Blk (w2.alloc (.cells #[.int .i64 (n + 1), .int .i64 nn, .int .i64 now, .bool ky] que.OT)) w2.heap.size #[.int .i64 (n + 1), .int .i64 nn, .int .i64 now, .bool ky] que.OT) := Lib.hid (Blk.new _ _ _)
  have N3 : New w2 (w2.alloc (.cells #[.int .i64 (n + 1), .int .i64 nn, .int .i64 now, .bool ky] que.OT)) := (Turns.refl _ _).alloc _
  have HC3 := Lib.hid (HC2.out.later N3)
  have HD3 := Lib.hid (HD2.out.later N3)
  clear N3
  go_upto_region 5 with fail
  refine (show Code.wp _ _ _ _ (w2.alloc (.cells #[.int .i64 (n + 1), .int .i64 nn, .int .i64 now, .bool ky] que.OT)) from ?_)
  clear s0 s1 s2 s3 s4 s5 s6 s7 s8 s9 s10 s11 s12 s13 s14 a2 a3
  generalize w2.alloc (.cells #[.int .i64 (n + 1), .int .i64 nn, .int .i64 now, .bool ky] que.OT) = w3 at *
  generalize w2.heap.size = px at *
  obtain ⟨⟨s0, s1, s2, s3, s4, s5, s6, s7, s8, s9, s10, s11, s12, s13, s14⟩, _⟩ := fifteen HC3.out.b
  have a1 : w3.cell? ⟨pa, 1, none⟩ = some (.int .i64 f.id) := HC3.out.a.cell 1
  obtain ⟨⟨x0, x1, x2, x3⟩, _⟩ := que.four HXB.out
  have HMO : Hid (e.most = r.most) := Lib.hid HDV.out.rq.most
  have HPU := Lib.hid HDV.out.pu
  have HPT := Lib.hid (put_some A k e g ⟨n + 1, nn, now, ky⟩ w3 HD3.out.ru.es HG.out.1 (by rw [HMO.out]; exact HNN.out.2) HNN.out.1)
  dsimp only [que.It.v] at HPT
  rw [HG.out.2.1] at HPT
  go_wp2_with fail
  refine HPT.out.mono ?_
  rintro x4 w4 ⟨u4, pv4, rfl, hes4, ht4, ho4, hv4, hp4⟩
  obtain ⟨y, hy⟩ : ∃ y, y = keyed (toE f) ⟨n + 1, nn, now, ky⟩ := ⟨_, rfl⟩
  have hyg : keyed g ⟨n + 1, nn, now, ky⟩ = y := by
    rw [hy]
    unfold keyed
    rw [HG.out.2.2.1]; rfl
  rw [hyg, HG.out.2.2.2] at ho4 hes4 ⊢
  have HY := Lib.hid hy
  obtain ⟨au, cu, hu4, _⟩ := ho4.form
  obtain ⟨nu, hnu⟩ : ∃ nu, nu = (nam f.id (que.putD f.q y)).length := ⟨_, rfl⟩
  rw [← hnu] at hu4
  subst hu4
  have HNU := Lib.hid hnu
  have HSF : Hid (Sf b A w3 w4) := Lib.hid (Sf.que HD3.out.ru.es HD3.out.ru.lo HG.out.1 ht4)
  have HRU : Hid (Ru b w w4 A k ⟨e.frames, e.bytes, e.age, e.most, e.guard, e.credit, e.row, setQ e.L f.id pv4 (que.putQ f.q y), e.s⟩) := Lib.hid (by
    have h1 := hes4
    rw [← HG.out.2.1] at h1 ⊢
    exact HD3.out.ru.put HG.out.1 h1 ht4 hp4)
  have HU4 : Hid (Owns SE SeT w4 (.slice au nu cu) (nam f.id (que.putD f.q y))) := Lib.hid ho4
  have HC4 := Lib.hid (HC3.out.sf HSF.out)
  have HRO4 := Lib.hid (HSF.out.ro HD3.out.ro)
  have HX4 := Lib.hid (HSF.out.blk HXB.out (by decide) (by decide) (by decide) (by decide) (by decide))
  clear s0 s1 s2 s3 s4 s5 s6 s7 s8 s9 s10 s11 s12 s13 s14 a1 x0 x1 x2 x3 hy hyg hes4 ht4 ho4 hv4 hp4 hnu HPT
  obtain ⟨⟨s0, s1, s2, s3, s4, s5, s6, s7, s8, s9, s10, s11, s12, s13, s14⟩, _⟩ := fifteen HC4.out.b
  have a1 : w4.cell? ⟨pa, 1, none⟩ = some (.int .i64 f.id) := HC4.out.a.cell 1
  obtain ⟨⟨x0, x1, x2, x3⟩, _⟩ := que.four HX4.out
  have HRP := Lib.hid (rput_some al nl cl ar nr cr L r j f ⟨n + 1, nn, now, ky⟩ w4 HRO4.out (by have := HDC.out.l; omega) HDV.out.asc HX.out (HPU.out.ok f (List.mem_of_getElem? HX.out)) HNN.out.2 HNN.out.1 HPU.out.cf.m1)
  dsimp only at HRP
  rw [← HY.out] at HRP
  go_wp2_with fail
  refine HRP.out.mono ?_
  rintro x5 w5 ⟨a5, n5, c5, ao, cc, u5, rfl, hro5, hg5⟩
  obtain ⟨av, cv, hv5, _⟩ := hg5.own.form
  rw [← HNU.out] at hv5
  subst hv5
  have HG5 := Lib.hid hg5
  have HRO5 := Lib.hid hro5
  have HC5 := Lib.hid (HC4.out.later hg5.n)
  have HN5 := Lib.hid hg5.n
  obtain ⟨rp, hrp⟩ : ∃ rp : Eo, rp = ⟨r.frames, r.bytes, r.age, r.most, r.guard, r.credit, r.row, setQ r.L f.id (.slice none 0 0) (que.putQ f.q y), r.s⟩ := ⟨_, rfl⟩
  have HRPE := Lib.hid hrp
  have hcells : rO r (.slice a5 n5 c5) (.slice ar nr cr) = rO rp (.slice a5 n5 c5) (.slice ar nr cr) := by rw [hrp]
  rw [hcells]
  clear s0 s1 s2 s3 s4 s5 s6 s7 s8 s9 s10 s11 s12 s13 s14 a1 x0 x1 x2 x3 hg5 hro5 hrp HRP hcells
  have HYB : Hid (Blk (w5.alloc (.cells (rO rp (.slice a5 n5 c5) (.slice ar nr cr)) RT20)) w5.heap.size (rO rp (.slice a5 n5 c5) (.slice ar nr cr)) RT20) := Lib.hid (Blk.new _ _ _)
  have HNY : Hid (New w5 (w5.alloc (.cells (rO rp (.slice a5 n5 c5) (.slice ar nr cr)) RT20))) := Lib.hid ((Turns.refl _ _).alloc _)
  go_upto_region 7 with fail
  refine (show Code.wp _ _ _ _ (w5.alloc (.cells (rO rp (.slice a5 n5 c5) (.slice ar nr cr)) RT20)) from ?_)
  have hyp : w5.heap.size ≠ pb := Nat.ne_of_gt HC5.out.b.lt
  generalize w5.alloc (.cells (rO rp (.slice a5 n5 c5) (.slice ar nr cr)) RT20) = w6 at *
  generalize w5.heap.size = py at *
  have HC6 := Lib.hid (HC5.out.later HNY.out)
  obtain ⟨⟨s0, s1, s2, s3, s4, s5, s6, s7, s8, s9, s10, s11, s12, s13, s14⟩, z0, z1, z2, z3, z4, z5, z6, z7, z8, z9, z10, z11, z12, z13, z14⟩ := fifteen HC6.out.b
  obtain ⟨⟨k0, k1, k2, k3, k4, k5, k6, k7, k8, k9, k10, k11⟩, _⟩ := twelve HYB.out
  have HT7 : Hid (Turns (· = pb) w6 (puts w6 pb 1 [.int .i64 rp.frames, .int .i64 rp.bytes, .int .i64 rp.age, .int .i64 rp.most, .int .i64 rp.guard, (.slice a5 n5 c5), .int .i64 rp.s.most, (.slice ar nr cr), .int .i64 rp.s.turn, .bool rp.s.g, .int .i64 rp.credit, .int .i64 rp.row])) := Lib.hid (puts_turns (S := (· = pb)) (p := pb) (.inl rfl) [.int .i64 rp.frames, .int .i64 rp.bytes, .int .i64 rp.age, .int .i64 rp.most, .int .i64 rp.guard, (.slice a5 n5 c5), .int .i64 rp.s.most, (.slice ar nr cr), .int .i64 rp.s.turn, .bool rp.s.g, .int .i64 rp.credit, .int .i64 rp.row] 1 w6 (Turns.refl _ _))
  have hb7 : Blk (puts w6 pb 1 [.int .i64 rp.frames, .int .i64 rp.bytes, .int .i64 rp.age, .int .i64 rp.most, .int .i64 rp.guard, (.slice a5 n5 c5), .int .i64 rp.s.most, (.slice ar nr cr), .int .i64 rp.s.turn, .bool rp.s.g, .int .i64 rp.credit, .int .i64 rp.row]) pb (stS A rp (.slice a5 n5 c5) (.slice ar nr cr) now (n + 1)) STT := puts_over [.int .i64 rp.frames, .int .i64 rp.bytes, .int .i64 rp.age, .int .i64 rp.most, .int .i64 rp.guard, (.slice a5 n5 c5), .int .i64 rp.s.most, (.slice ar nr cr), .int .i64 rp.s.turn, .bool rp.s.g, .int .i64 rp.credit, .int .i64 rp.row] 1 _ _ HC6.out.b
  have HC7 : Hid (Cx w (puts w6 pb 1 [.int .i64 rp.frames, .int .i64 rp.bytes, .int .i64 rp.age, .int .i64 rp.most, .int .i64 rp.guard, (.slice a5 n5 c5), .int .i64 rp.s.most, (.slice ar nr cr), .int .i64 rp.s.turn, .bool rp.s.g, .int .i64 rp.credit, .int .i64 rp.row]) pb pa pr A rp (.slice a5 n5 c5) (.slice ar nr cr) now (n + 1) ⟨1, f.id, nn, ky, vd⟩) := Lib.hid (HC6.out.self HT7.out hb7)
  clear hb7
  go_upto_region 8 with fail
  refine (show Code.wp _ _ _ _ (puts w6 pb 1 [.int .i64 rp.frames, .int .i64 rp.bytes, .int .i64 rp.age, .int .i64 rp.most, .int .i64 rp.guard, (.slice a5 n5 c5), .int .i64 rp.s.most, (.slice ar nr cr), .int .i64 rp.s.turn, .bool rp.s.g, .int .i64 rp.credit, .int .i64 rp.row]) from ?_)
  clear s0 s1 s2 s3 s4 s5 s6 s7 s8 s9 s10 s11 s12 s13 s14 z0 z1 z2 z3 z4 z5 z6 z7 z8 z9 z10 z11 z12 z13 z14 k0 k1 k2 k3 k4 k5 k6 k7 k8 k9 k10 k11 hyp
  generalize puts w6 pb 1 [.int .i64 rp.frames, .int .i64 rp.bytes, .int .i64 rp.age, .int .i64 rp.most, .int .i64 rp.guard, (.slice a5 n5 c5), .int .i64 rp.s.most, (.slice ar nr cr), .int .i64 rp.s.turn, .bool rp.s.g, .int .i64 rp.credit, .int .i64 rp.row] = w7 at *
  have N57 : Hid (New w5 w6) := HNY
  have HDV7 : Hid (Dv b w w7 A k ⟨e.frames, e.bytes, e.age, e.most, e.guard, e.credit, e.row, setQ e.L f.id pv4 (que.putQ f.q y), e.s⟩ (.slice a5 n5 c5) (.slice ar nr cr) (L.set j (f.with (que.putQ f.q y) ao cc)) rp now (n + 1)) := Lib.hid (by
    have hro := HRO5.out
    rw [← HRPE.out] at hro
    have h6 : Dv b w w6 A k ⟨e.frames, e.bytes, e.age, e.most, e.guard, e.credit, e.row, setQ e.L f.id pv4 (que.putQ f.q y), e.s⟩ (.slice a5 n5 c5) (.slice ar nr cr) (L.set j (f.with (que.putQ f.q y) ao cc)) rp now (n + 1) := by
      have hq := HDV.out.rq
      refine ⟨(HRU.out.later HN5.out).later N57.out, hro.later N57.out, HDV.out.asc.set HX.out _ _ _, ?_, ?_, ?_, fun x hx y' hy' => ?_⟩
      · rw [HRPE.out]; exact HDV.out.sa
      · rw [HRPE.out]; exact HDV.out.sp
      · rw [HRPE.out]
        exact ⟨hq.frames, hq.bytes, hq.age, hq.most, hq.guard, hq.credit, hq.row, hq.fl.set _ _ _ _, hq.s⟩
      · have ht := HDV.out.tk
        rcases List.mem_or_eq_of_mem_set hx with hx | hx
        · exact ht x hx y' hy'
        · rw [hx] at hy'
          rcases putQ_mem hy' with h9 | h9
          · exact ht f (List.mem_of_getElem? HX.out) y' h9
          · rw [h9, HY.out]
            exact ⟨HDC.out.t0, Int.le_refl _⟩
    exact h6.off HC6.out.b HB0.out HC6.out.lo.1 HT7.out rfl)
  have HSM : Hid (∀ W, New w7 W → _) := Lib.hid (fun W N => same (.slice au nu cu) (.slice av nu cv) (nam f.id (que.putD f.q y)) W
    (by
      have h5 : Sub SE 0 w5 (.slice au nu cu) (nam f.id (que.putD f.q y)) := subN (HU4.out.sub 0 (fun _ _ => Nat.zero_le _)) HN5.out
      have h7 := Sub.turns' (subN h5 N57.out) HT7.out (fun g hg hf => own_ne HU4.out (HC4.out.b) (by decide) (by rw [hg, hf]))
      exact subN h7 N)
    (by
      have h7 := Sub.turns' (subN (HG5.out.own.sub 0 (fun _ _ => Nat.zero_le _)) N57.out) HT7.out (fun g hg hf => own_ne HG5.out.own (HC5.out.b) (by decide) (by rw [hg, hf]))
      exact subN h7 N)
    (by
      have h1 := (HPU.out.ok f (List.mem_of_getElem? HX.out)).len
      have h2 := (HPU.out.ok f (List.mem_of_getElem? HX.out)).f2
      have h3 := putD_len f.q y (by omega)
      have h4 : (que.putD f.q y).length ≤ f.q.L.length := by
        unfold que.putD
        split
        · exact Nat.zero_le _
        · rw [List.length_take]; omega
      unfold nam
      rw [List.length_map]
      omega))
  obtain ⟨okb, hok⟩ : ∃ okb, okb = que.putOk f.q y := ⟨_, rfl⟩
  rw [← hok]
  clear hok
  have HDC7 : Hid (Dc (i + 1) k ⟨e.frames, e.bytes, e.age, e.most, e.guard, e.credit, e.row, setQ e.L f.id pv4 (que.putQ f.q y), e.s⟩ rp (L.set j (f.with (que.putQ f.q y) ao cc)) now (n + 1)) := Lib.hid (by
    have h1 := HDC.out
    rw [HRPE.out]
    exact ⟨by have := h1.k; omega, by rw [List.length_set]; have := h1.l; omega, by have := h1.s; show r.s.L.length ≤ _; omega, by have := h1.n0; omega, by have := h1.n1; push_cast; omega, h1.t0, by have := h1.t1; push_cast; omega, h1.r0, by have := h1.r1; show e.row ≤ _; push_cast; omega, h1.fr⟩)
  have HAC : Hid (ActR now n ⟨1, f.id, nn, ky, vd⟩ L r (L.set j (f.with (que.putQ f.q y) ao cc)) rp now (n + 1) []) := Lib.hid (by
    rw [HRPE.out, HY.out]
    exact ActR.put (a := ⟨1, f.id, nn, ky, vd⟩) ao cc rfl HX.out rfl HNN.out.2)
  clear HG HNN HD1 HC2 HD2 HXB HC3 HD3 HMO HSF HRU HU4 HC4 HRO4 HX4 HG5 HRO5 HC5 HN5 HT7 HNY HC6 HYB HDV HDC
  cases okb
  · have hrb := HC7.out.lo.2.2.2.1
    have hpl8 := HC7.out.b.lt
    obtain ⟨⟨s0, s1, s2, s3, s4, s5, s6, s7, s8, s9, s10, s11, s12, s13, s14⟩, _⟩ := fifteen HC7.out.b
    obtain ⟨⟨t0, t1, t2, t3, t4, t5, t6, t7, t8, t9, t10, t11, t12, t13, t14⟩, y0, y1, y2, y3, y4, y5, y6, y7, y8, y9, y10, y11, y12, y13, y14⟩ := fifteen HC7.out.r
    have HH : HeldS w7 w7 pr pb (.pointer (some ⟨A.o, 0, none⟩)) (.int .i64 rp.frames) (.int .i64 rp.bytes) (.int .i64 rp.age) (.int .i64 rp.most) (.int .i64 rp.guard) ((.slice a5 n5 c5)) (.int .i64 rp.s.most) ((.slice ar nr cr)) (.int .i64 rp.s.turn) (.bool rp.s.g) (.int .i64 rp.credit) (.int .i64 rp.row) (.int .i64 now) (.int .i64 (n + 1)) := ⟨Turns.refl _ _, hpl8, s0, s1, s2, s3, s4, s5, s6, s7, s8, s9, s10, s11, s12, s13, s14⟩
    clear s0 s1 s2 s3 s4 s5 s6 s7 s8 s9 s10 s11 s12 s13 s14
    have HH2 := HH
    obtain ⟨_, _, s0, s1, s2, s3, s4, s5, s6, s7, s8, s9, s10, s11, s12, s13, s14⟩ := HH2
    first
      | go_region_held (fun w' => Turns (· = pr) w7 w' ∧ pb < w'.heap.size ∧ w'.cell? ⟨pb, 0, none⟩ = some (.pointer (some ⟨A.o, 0, none⟩)) ∧ w'.cell? ⟨pb, 1, none⟩ = some (.int .i64 rp.frames) ∧ w'.cell? ⟨pb, 2, none⟩ = some (.int .i64 rp.bytes) ∧ w'.cell? ⟨pb, 3, none⟩ = some (.int .i64 rp.age) ∧ w'.cell? ⟨pb, 4, none⟩ = some (.int .i64 rp.most) ∧ w'.cell? ⟨pb, 5, none⟩ = some (.int .i64 rp.guard) ∧ w'.cell? ⟨pb, 6, none⟩ = some ((.slice a5 n5 c5)) ∧ w'.cell? ⟨pb, 7, none⟩ = some (.int .i64 rp.s.most) ∧ w'.cell? ⟨pb, 8, none⟩ = some ((.slice ar nr cr)) ∧ w'.cell? ⟨pb, 9, none⟩ = some (.int .i64 rp.s.turn) ∧ w'.cell? ⟨pb, 10, none⟩ = some (.bool rp.s.g) ∧ w'.cell? ⟨pb, 11, none⟩ = some (.int .i64 rp.credit) ∧ w'.cell? ⟨pb, 12, none⟩ = some (.int .i64 rp.row) ∧ w'.cell? ⟨pb, 13, none⟩ = some (.int .i64 now) ∧ w'.cell? ⟨pb, 14, none⟩ = some (.int .i64 (n + 1)))
          (first
            | (with_reducible assumption)
            | ((with_reducible refine heldS_drew ?_); with_reducible assumption)
            | ((with_reducible refine heldS_new (by with_reducible assumption) hrb ?_); with_reducible assumption)
            | ((with_reducible refine heldS_store hrb _ _ _ _ _ _ _ _ _ _ _ _ _ _ _ ?_); with_reducible assumption))
          ((go_at_call 55; (with_reducible refine Calls.mono (HSM.out _ ?_) ?_); (focus (repeat (first | exact Turns.refl _ _ | with_reducible apply Turns.drew))); rintro x9 w9 ⟨rfl, n9⟩; have hr9 : Blk w9 pr z15 STT := n9.blk HC7.out.r (fun h => h); obtain ⟨⟨t'0, t'1, t'2, t'3, t'4, t'5, t'6, t'7, t'8, t'9, t'10, t'11, t'12, t'13, t'14⟩, y'0, y'1, y'2, y'3, y'4, y'5, y'6, y'7, y'8, y'9, y'10, y'11, y'12, y'13, y'14⟩ := fifteen hr9))
      | skip
    all_goals
      go_wp2_with fail
      refine (show bodyPost _ _ _ _ _ (puts w9 pr 0 (stS A rp (.slice a5 n5 c5) (.slice ar nr cr) now (n + 1)).toList) from ?_)
      have hfin := HC7.out.fin HDV7.out HB0.out (w9 := w9) (by first | exact n9 | exact Turns.of_drew n9 | exact Turns.of_drew (Turns.of_drew n9))
      have HFIN := Lib.hid hfin
      clear hfin s0 s1 s2 s3 s4 s5 s6 s7 s8 s9 s10 s11 s12 s13 s14 t0 t1 t2 t3 t4 t5 t6 t7 t8 t9 t10 t11 t12 t13 t14 y0 y1 y2 y3 y4 y5 y6 y7 y8 y9 y10 y11 y12 y13 y14
      generalize puts w9 pr 0 (stS A rp (.slice a5 n5 c5) (.slice ar nr cr) now (n + 1)).toList = wz at *
      obtain ⟨⟨g0, g1, g2, g3, g4, g5, g6, g7, g8, g9, g10, g11, g12, g13, g14⟩, _⟩ := fifteen HFIN.out.1
      refine bodyPost_ret (v := .tuple #[.agg (stS A rp (.slice a5 n5 c5) (.slice ar nr cr) now (n + 1)), .slice none 0 0, .bool true]) (by simp [results, Try.results27, go_sem, g0, g1, g2, g3, g4, g5, g6, g7, g8, g9, g10, g11, g12, g13, g14]) rfl ?_
      exact ⟨_, _, _, _, _, _, _, _, _, [], rfl, HFIN.out.2, HDC7.out, HAC.out, TS.nil _ _ _⟩
  · have hrb := HC7.out.lo.2.2.2.1
    have hpl8 := HC7.out.b.lt
    obtain ⟨⟨s0, s1, s2, s3, s4, s5, s6, s7, s8, s9, s10, s11, s12, s13, s14⟩, _⟩ := fifteen HC7.out.b
    obtain ⟨⟨t0, t1, t2, t3, t4, t5, t6, t7, t8, t9, t10, t11, t12, t13, t14⟩, y0, y1, y2, y3, y4, y5, y6, y7, y8, y9, y10, y11, y12, y13, y14⟩ := fifteen HC7.out.r
    have HH : HeldS w7 w7 pr pb (.pointer (some ⟨A.o, 0, none⟩)) (.int .i64 rp.frames) (.int .i64 rp.bytes) (.int .i64 rp.age) (.int .i64 rp.most) (.int .i64 rp.guard) ((.slice a5 n5 c5)) (.int .i64 rp.s.most) ((.slice ar nr cr)) (.int .i64 rp.s.turn) (.bool rp.s.g) (.int .i64 rp.credit) (.int .i64 rp.row) (.int .i64 now) (.int .i64 (n + 1)) := ⟨Turns.refl _ _, hpl8, s0, s1, s2, s3, s4, s5, s6, s7, s8, s9, s10, s11, s12, s13, s14⟩
    clear s0 s1 s2 s3 s4 s5 s6 s7 s8 s9 s10 s11 s12 s13 s14
    have HH2 := HH
    obtain ⟨_, _, s0, s1, s2, s3, s4, s5, s6, s7, s8, s9, s10, s11, s12, s13, s14⟩ := HH2
    first
      | go_region_held (fun w' => Turns (· = pr) w7 w' ∧ pb < w'.heap.size ∧ w'.cell? ⟨pb, 0, none⟩ = some (.pointer (some ⟨A.o, 0, none⟩)) ∧ w'.cell? ⟨pb, 1, none⟩ = some (.int .i64 rp.frames) ∧ w'.cell? ⟨pb, 2, none⟩ = some (.int .i64 rp.bytes) ∧ w'.cell? ⟨pb, 3, none⟩ = some (.int .i64 rp.age) ∧ w'.cell? ⟨pb, 4, none⟩ = some (.int .i64 rp.most) ∧ w'.cell? ⟨pb, 5, none⟩ = some (.int .i64 rp.guard) ∧ w'.cell? ⟨pb, 6, none⟩ = some ((.slice a5 n5 c5)) ∧ w'.cell? ⟨pb, 7, none⟩ = some (.int .i64 rp.s.most) ∧ w'.cell? ⟨pb, 8, none⟩ = some ((.slice ar nr cr)) ∧ w'.cell? ⟨pb, 9, none⟩ = some (.int .i64 rp.s.turn) ∧ w'.cell? ⟨pb, 10, none⟩ = some (.bool rp.s.g) ∧ w'.cell? ⟨pb, 11, none⟩ = some (.int .i64 rp.credit) ∧ w'.cell? ⟨pb, 12, none⟩ = some (.int .i64 rp.row) ∧ w'.cell? ⟨pb, 13, none⟩ = some (.int .i64 now) ∧ w'.cell? ⟨pb, 14, none⟩ = some (.int .i64 (n + 1)))
          (first
            | (with_reducible assumption)
            | ((with_reducible refine heldS_drew ?_); with_reducible assumption)
            | ((with_reducible refine heldS_new (by with_reducible assumption) hrb ?_); with_reducible assumption)
            | ((with_reducible refine heldS_store hrb _ _ _ _ _ _ _ _ _ _ _ _ _ _ _ ?_); with_reducible assumption))
          ((go_at_call 55; (with_reducible refine Calls.mono (HSM.out _ ?_) ?_); (focus (repeat (first | exact Turns.refl _ _ | with_reducible apply Turns.drew))); rintro x9 w9 ⟨rfl, n9⟩; have hr9 : Blk w9 pr z15 STT := n9.blk HC7.out.r (fun h => h); obtain ⟨⟨t'0, t'1, t'2, t'3, t'4, t'5, t'6, t'7, t'8, t'9, t'10, t'11, t'12, t'13, t'14⟩, y'0, y'1, y'2, y'3, y'4, y'5, y'6, y'7, y'8, y'9, y'10, y'11, y'12, y'13, y'14⟩ := fifteen hr9))
      | skip
    all_goals
      go_wp2_with fail
      refine (show bodyPost _ _ _ _ _ (puts w9 pr 0 (stS A rp (.slice a5 n5 c5) (.slice ar nr cr) now (n + 1)).toList) from ?_)
      have hfin := HC7.out.fin HDV7.out HB0.out (w9 := w9) (by first | exact n9 | exact Turns.of_drew n9 | exact Turns.of_drew (Turns.of_drew n9))
      have HFIN := Lib.hid hfin
      clear hfin s0 s1 s2 s3 s4 s5 s6 s7 s8 s9 s10 s11 s12 s13 s14 t0 t1 t2 t3 t4 t5 t6 t7 t8 t9 t10 t11 t12 t13 t14 y0 y1 y2 y3 y4 y5 y6 y7 y8 y9 y10 y11 y12 y13 y14
      generalize puts w9 pr 0 (stS A rp (.slice a5 n5 c5) (.slice ar nr cr) now (n + 1)).toList = wz at *
      obtain ⟨⟨g0, g1, g2, g3, g4, g5, g6, g7, g8, g9, g10, g11, g12, g13, g14⟩, _⟩ := fifteen HFIN.out.1
      refine bodyPost_ret (v := .tuple #[.agg (stS A rp (.slice a5 n5 c5) (.slice ar nr cr) now (n + 1)), .slice none 0 0, .bool true]) (by simp [results, Try.results27, go_sem, g0, g1, g2, g3, g4, g5, g6, g7, g8, g9, g10, g11, g12, g13, g14]) rfl ?_
      exact ⟨_, _, _, _, _, _, _, _, _, [], rfl, HFIN.out.2, HDC7.out, HAC.out, TS.nil _ _ _⟩
end Go.Proofs.Ytcppibjllaablaa.egr
