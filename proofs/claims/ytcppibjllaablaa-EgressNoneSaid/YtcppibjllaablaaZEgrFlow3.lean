/-
  'flows' of layer 20's laws: Remove and Break, of a flow that is there.
-/
import Derived.Test.YtcppibjllaablaaZEgrDef
import Derived.Test.YtcppibjllaablaaZEgrR20y
import Derived.Deep.RegionHeld3
import Derived.Deep.QuietTactic
import Derived.BigQuiet
import Derived.Deep.DeepCutAuto
set_option linter.unusedVariables false
set_option linter.unusedSimpArgs false
namespace Go.Proofs.Ytcppibjllaablaa.egr
open Go.RowKit mem
open Go.Proofs.Ytcppibjllaablaa.drr (plc plc_at plc_no plc_cases before_succ before_all)
set_option linter.unusedVariables false

theorem filter_ap {L : List drr.Fl} (h : drr.Ap L) (p : drr.Fl → Bool) : drr.Ap (L.filter p) := List.Pairwise.filter p h
theorem rgo_len (s : drr.Sc) (id : Int) : (rgo s id).L.length ≤ s.L.length := by
  unfold rgo
  split
  · exact Nat.le_refl _
  · exact List.length_filter_le _ _
/-- both outlets behind a Remove -/
theorem dv_rem {b : Nat} {w w1 w4 w5 : World} {A : Ad} {k : Nat} {e r : Eo} {vL vS vL' vS' : Value} {L : List Rf} {now n : Int} {f : Rf} {g : Ef} (h : Dv b w w1 A k e vL vS L r now n) (hf : f ∈ L) (hg : g ∈ e.L) (hid : g.id = f.id) (hv : g.video = f.video)
    (hes : Es w4 A k (remE e g.id (goS e g))) (t : Turns (fun i => (i = A.mb ∨ i = A.sp ∨ i = A.smb) ∨ que.Foot g.qb g.pv i) w1 w4) (n5 : New w4 w5) (ro : RO w5 vL' vS' (L.filter (fun y => y.id != f.id)) (remE r f.id (rgo r.s f.id))) :
    Dv b w w5 A k (remE e g.id (goS e g)) vL' vS' (L.filter (fun y => y.id != f.id)) (remE r f.id (rgo r.s f.id)) now n := by
  have hp := h.pu
  have hq := h.rq
  refine ⟨(h.ru.remove hg hes t).later n5, ro, h.asc.filter _, ?_, ?_, ⟨hq.frames, hq.bytes, hq.age, hq.most, hq.guard, hq.credit, hq.row, ?_, ?_⟩, fun y hy x hx => h.tk y (List.mem_filter.1 hy).1 x hx⟩
  · show drr.SAsc (rgo r.s f.id).L
    unfold rgo
    split
    · exact h.sa
    · exact h.sa.filter _
  · show drr.Ap (rgo r.s f.id).L
    unfold rgo
    split
    · exact h.sp
    · exact filter_ap h.sp _
  · show Eqv (e.L.filter _) (r.L.filter _)
    rw [hid]
    exact hq.fl.rem _
  · show drr.Re (goS e g) (rgo r.s f.id)
    unfold goS rgo
    rw [hv, hid]
    cases hvd : f.video with
    | true =>
      obtain ⟨y, hy, e1⟩ := (hp.vs f.id).2 ⟨f, hf, rfl, hvd⟩
      rw [if_pos rfl, if_neg]
      · exact hq.s.rem _
      · intro hall
        have := List.all_eq_true.1 hall y hy
        simp [e1] at this
    | false =>
      rw [if_neg (by decide), if_pos]
      · exact hq.s
      · refine List.all_eq_true.2 (fun y hy => ?_)
        have : y.id ≠ f.id := fun e1 => by
          obtain ⟨z, hz, e2, e3⟩ := (hp.vs f.id).1 ⟨y, hy, e1⟩
          have := h.asc.eq hz hf e2
          subst this
          rw [hvd] at e3; cases e3
        simpa using this
set_option maxRecDepth 100000 in
set_option maxHeartbeats 8000000 in
theorem flow6_go (b : Nat) (w : World) (A : Ad) (k : Nat) (e : Eo) (al : Option Addr) (nl cl : Nat) (ar : Option Addr) (nr cr : Nat) (L : List Rf) (r : Eo) (now n : Int) (i : Nat) (j : Nat) (f : Rf) (nn : Int) (ky vd : Bool) (hf : L[j]? = some f) (h : Dv b w w A k e (.slice al nl cl) (.slice ar nr cr) L r now n) (c : Dc i k e r L now n) (hi : i ≤ 200) :
    Calls Try.prog 58 #[.agg (stS A r (.slice al nl cl) (.slice ar nr cr) now n), .agg (acs ⟨6, f.id, nn, ky, vd⟩)] w (PostF b w A L r now n ⟨6, f.id, nn, ky, vd⟩ i) := by
  have HX := Lib.hid hf
  obtain ⟨g, hg, hgid, hgv, hgq⟩ := h.flow hf
  have HG := Lib.hid (And.intro hg (And.intro hgid (And.intro hgv hgq)))
  have HQL : Hid (f.q.L.length ≤ 8) := Lib.hid (by
    have hp := h.pu
    have h1 := (hp.ok f (List.mem_of_getElem? hf)).len
    have h2 : f.q.frames = r.frames := (hp.fq f (List.mem_of_getElem? hf)).fr
    have h3 := c.fr
    omega)
  clear hf hg hgid hgv hgq
  have HDV := Lib.hid h
  have HDC := Lib.hid c
  have hii := hi
  have hbx := Cx.start w A r (.slice al nl cl) (.slice ar nr cr) now n ⟨6, f.id, nn, ky, vd⟩
  have HBX := Lib.hid hbx
  have HB0 : Hid (b ≤ w.heap.size) := Lib.hid h.ru.base
  clear hbx h c
  go_enter Try.func58, Try.ntmps58
  go_upto_region 1 with fail
  refine (show Code.wp _ _ _ _ (((w.alloc (.cells (stS A r (.slice al nl cl) (.slice ar nr cr) now n) STT)).alloc (.cells (acs ⟨6, f.id, nn, ky, vd⟩) ACT)).alloc (.cells z15 STT)) from ?_)
  generalize ((w.alloc (.cells (stS A r (.slice al nl cl) (.slice ar nr cr) now n) STT)).alloc (.cells (acs ⟨6, f.id, nn, ky, vd⟩) ACT)).alloc (.cells z15 STT) = w1 at *
  generalize w.heap.size + 1 + 1 = pr at *
  generalize w.heap.size + 1 = pa at *
  obtain ⟨pb, hpb⟩ : ∃ pb, pb = w.heap.size := ⟨_, rfl⟩
  have HCX : Hid (Cx w w1 pb pa pr A r (.slice al nl cl) (.slice ar nr cr) now n ⟨6, f.id, nn, ky, vd⟩) := Lib.hid (by rw [hpb]; exact HBX.out.1)
  rw [← hpb]
  clear hpb
  have HN1 : Hid (New w w1) := Lib.hid HBX.out.2
  clear HBX
  have HD1 := Lib.hid (HDV.out.later HN1.out)
  obtain ⟨⟨s0, s1, s2, s3, s4, s5, s6, s7, s8, s9, s10, s11, s12, s13, s14⟩, _⟩ := fifteen HCX.out.b
  have a0 : w1.cell? ⟨pa, 0, none⟩ = some (.int .i64 6) := HCX.out.a.cell 0
  have a1 : w1.cell? ⟨pa, 1, none⟩ = some (.int .i64 f.id) := HCX.out.a.cell 1
  have a2 : w1.cell? ⟨pa, 2, none⟩ = some (.int .i64 nn) := HCX.out.a.cell 2
  have a4 : w1.cell? ⟨pa, 4, none⟩ = some (.bool vd) := HCX.out.a.cell 4
  have HPT := Lib.hid (remove_some A k e g w1 HD1.out.ru.es HG.out.1)
  rw [HG.out.2.1] at HPT
  go_wp2_with fail
  refine HPT.out.mono ?_
  rintro x4 w4 ⟨u4, rfl, hes4, ht4, ho4, hv4⟩
  rw [HG.out.2.2.2] at ho4
  obtain ⟨au, cu, hu4, _⟩ := ho4.form
  obtain ⟨nu, hnu⟩ : ∃ nu, nu = (nam f.id f.q.L).length := ⟨_, rfl⟩
  rw [← hnu] at hu4
  subst hu4
  have HNU := Lib.hid hnu
  have HPP : Hid (Es w4 A k (remE e g.id (goS e g)) ∧ Turns (fun i => (i = A.mb ∨ i = A.sp ∨ i = A.smb) ∨ que.Foot g.qb g.pv i) w1 w4) := Lib.hid ⟨by rw [HG.out.2.1]; exact hes4, ht4⟩
  have HSF : Hid (Sf b A w1 w4) := Lib.hid (by
    have h1 := (HD1.out.ru.remove HG.out.1 HPP.out.1 ht4).sf
    have h2 : Ru b w1 w1 A k e := ⟨HD1.out.ru.es, HD1.out.ru.lo, Sf.refl _ _ _⟩
    exact (h2.remove HG.out.1 HPP.out.1 ht4).sf)
  have HU4 : Hid (Owns SE SeT w4 (.slice au nu cu) (nam f.id f.q.L)) := Lib.hid ho4
  have HC4 := Lib.hid (HCX.out.sf HSF.out)
  have HRO4 := Lib.hid (HSF.out.ro HD1.out.ro)
  clear s0 s1 s2 s3 s4 s5 s6 s7 s8 s9 s10 s11 s12 s13 s14 a0 a1 a2 a4 hes4 ht4 ho4 hv4 hnu HPT
  obtain ⟨⟨s0, s1, s2, s3, s4, s5, s6, s7, s8, s9, s10, s11, s12, s13, s14⟩, _⟩ := fifteen HC4.out.b
  have a0 : w4.cell? ⟨pa, 0, none⟩ = some (.int .i64 6) := HC4.out.a.cell 0
  have a1 : w4.cell? ⟨pa, 1, none⟩ = some (.int .i64 f.id) := HC4.out.a.cell 1
  have a2 : w4.cell? ⟨pa, 2, none⟩ = some (.int .i64 nn) := HC4.out.a.cell 2
  have a4 : w4.cell? ⟨pa, 4, none⟩ = some (.bool vd) := HC4.out.a.cell 4
  have HRP := Lib.hid (rrm_some al nl cl ar nr cr L r j f w4 HRO4.out (by have := HDC.out.l; omega) HDV.out.asc (by have := HDC.out.s; omega) HDV.out.sa HX.out (by have := HQL.out; omega))
  go_wp2_with fail
  refine HRP.out.mono ?_
  rintro x5 w5 ⟨a5, n5, c5, a6, n6, c6, u5, rfl, hro5, hg5⟩
  obtain ⟨av, cv, hv5, _⟩ := hg5.own.form
  rw [← HNU.out] at hv5
  subst hv5
  have HG5 := Lib.hid hg5
  have HD5 := Lib.hid (dv_rem HD1.out (List.mem_of_getElem? HX.out) HG.out.1 HG.out.2.1 HG.out.2.2.1 HPP.out.1 HPP.out.2 hg5.n hro5)
  have HC5 := Lib.hid (HC4.out.later hg5.n)
  have HN5 := Lib.hid hg5.n
  obtain ⟨rp, hrp⟩ : ∃ rp : Eo, rp = (remE r f.id (rgo r.s f.id)) := ⟨_, rfl⟩
  rw [← hrp] at HD5 ⊢
  have HRPE := Lib.hid hrp
  clear s0 s1 s2 s3 s4 s5 s6 s7 s8 s9 s10 s11 s12 s13 s14 a0 a1 a2 a4 hg5 hro5 hrp HRP
  have HYB : Hid (Blk (w5.alloc (.cells (rO rp (.slice a5 n5 c5) (.slice a6 n6 c6)) RT20)) w5.heap.size (rO rp (.slice a5 n5 c5) (.slice a6 n6 c6)) RT20) := Lib.hid (Blk.new _ _ _)
  have HNY : Hid (New w5 (w5.alloc (.cells (rO rp (.slice a5 n5 c5) (.slice a6 n6 c6)) RT20))) := Lib.hid ((Turns.refl _ _).alloc _)
  go_upto_region 10 with fail
  refine (show Code.wp _ _ _ _ (w5.alloc (.cells (rO rp (.slice a5 n5 c5) (.slice a6 n6 c6)) RT20)) from ?_)
  have hyp : w5.heap.size ≠ pb := Nat.ne_of_gt HC5.out.b.lt
  generalize w5.alloc (.cells (rO rp (.slice a5 n5 c5) (.slice a6 n6 c6)) RT20) = w6 at *
  generalize w5.heap.size = py at *
  have HC6 := Lib.hid (HC5.out.later HNY.out)
  obtain ⟨⟨s0, s1, s2, s3, s4, s5, s6, s7, s8, s9, s10, s11, s12, s13, s14⟩, z0, z1, z2, z3, z4, z5, z6, z7, z8, z9, z10, z11, z12, z13, z14⟩ := fifteen HC6.out.b
  obtain ⟨⟨k0, k1, k2, k3, k4, k5, k6, k7, k8, k9, k10, k11⟩, _⟩ := twelve HYB.out
  have HT7 : Hid (Turns (· = pb) w6 (puts w6 pb 1 [.int .i64 rp.frames, .int .i64 rp.bytes, .int .i64 rp.age, .int .i64 rp.most, .int .i64 rp.guard, (.slice a5 n5 c5), .int .i64 rp.s.most, (.slice a6 n6 c6), .int .i64 rp.s.turn, .bool rp.s.g, .int .i64 rp.credit, .int .i64 rp.row])) := Lib.hid (puts_turns (S := (· = pb)) (p := pb) (.inl rfl) [.int .i64 rp.frames, .int .i64 rp.bytes, .int .i64 rp.age, .int .i64 rp.most, .int .i64 rp.guard, (.slice a5 n5 c5), .int .i64 rp.s.most, (.slice a6 n6 c6), .int .i64 rp.s.turn, .bool rp.s.g, .int .i64 rp.credit, .int .i64 rp.row] 1 w6 (Turns.refl _ _))
  have hb7 : Blk (puts w6 pb 1 [.int .i64 rp.frames, .int .i64 rp.bytes, .int .i64 rp.age, .int .i64 rp.most, .int .i64 rp.guard, (.slice a5 n5 c5), .int .i64 rp.s.most, (.slice a6 n6 c6), .int .i64 rp.s.turn, .bool rp.s.g, .int .i64 rp.credit, .int .i64 rp.row]) pb (stS A rp (.slice a5 n5 c5) (.slice a6 n6 c6) now n) STT := puts_over [.int .i64 rp.frames, .int .i64 rp.bytes, .int .i64 rp.age, .int .i64 rp.most, .int .i64 rp.guard, (.slice a5 n5 c5), .int .i64 rp.s.most, (.slice a6 n6 c6), .int .i64 rp.s.turn, .bool rp.s.g, .int .i64 rp.credit, .int .i64 rp.row] 1 _ _ HC6.out.b
  have HC7 : Hid (Cx w (puts w6 pb 1 [.int .i64 rp.frames, .int .i64 rp.bytes, .int .i64 rp.age, .int .i64 rp.most, .int .i64 rp.guard, (.slice a5 n5 c5), .int .i64 rp.s.most, (.slice a6 n6 c6), .int .i64 rp.s.turn, .bool rp.s.g, .int .i64 rp.credit, .int .i64 rp.row]) pb pa pr A rp (.slice a5 n5 c5) (.slice a6 n6 c6) now n ⟨6, f.id, nn, ky, vd⟩) := Lib.hid (HC6.out.self HT7.out hb7)
  clear hb7
  go_upto_region 11 with fail
  refine (show Code.wp _ _ _ _ (puts w6 pb 1 [.int .i64 rp.frames, .int .i64 rp.bytes, .int .i64 rp.age, .int .i64 rp.most, .int .i64 rp.guard, (.slice a5 n5 c5), .int .i64 rp.s.most, (.slice a6 n6 c6), .int .i64 rp.s.turn, .bool rp.s.g, .int .i64 rp.credit, .int .i64 rp.row]) from ?_)
  clear s0 s1 s2 s3 s4 s5 s6 s7 s8 s9 s10 s11 s12 s13 s14 z0 z1 z2 z3 z4 z5 z6 z7 z8 z9 z10 z11 z12 z13 z14 k0 k1 k2 k3 k4 k5 k6 k7 k8 k9 k10 k11 hyp
  generalize puts w6 pb 1 [.int .i64 rp.frames, .int .i64 rp.bytes, .int .i64 rp.age, .int .i64 rp.most, .int .i64 rp.guard, (.slice a5 n5 c5), .int .i64 rp.s.most, (.slice a6 n6 c6), .int .i64 rp.s.turn, .bool rp.s.g, .int .i64 rp.credit, .int .i64 rp.row] = w7 at *
  have N57 : Hid (New w5 w6) := HNY
  have HDV7 := Lib.hid ((HD5.out.later HNY.out).off HC6.out.b HB0.out HC6.out.lo.1 HT7.out rfl)
  have HSM : Hid (∀ W, New w7 W → _) := Lib.hid (fun W N => same (.slice au nu cu) (.slice av nu cv) (nam f.id f.q.L) W
    (by
      have h5 : Sub SE 0 w5 (.slice au nu cu) (nam f.id f.q.L) := subN (HU4.out.sub 0 (fun _ _ => Nat.zero_le _)) HN5.out
      have h7 := Sub.turns' (subN h5 N57.out) HT7.out (fun g hg hf => own_ne HU4.out (HC4.out.b) (by decide) (by rw [hg, hf]))
      exact subN h7 N)
    (by
      have h7 := Sub.turns' (subN (HG5.out.own.sub 0 (fun _ _ => Nat.zero_le _)) N57.out) HT7.out (fun g hg hf => own_ne HG5.out.own (HC5.out.b) (by decide) (by rw [hg, hf]))
      exact subN h7 N)
    (by
      have h1 := HQL.out
      unfold nam
      rw [List.length_map]
      omega))
  have HDC7 : Hid (Dc (i + 1) k (remE e g.id (goS e g)) rp (L.filter (fun y => y.id != f.id)) now n) := Lib.hid (by
    have h1 := HDC.out
    rw [HRPE.out]
    exact ⟨by have := h1.k; omega, by have := h1.l; have := List.length_filter_le (fun y : Rf => y.id != f.id) L; omega, by have := h1.s; have := rgo_len r.s f.id; show (rgo r.s f.id).L.length ≤ _; omega, by have := h1.n0; omega, by have := h1.n1; push_cast; omega, h1.t0, by have := h1.t1; push_cast; omega, h1.r0, by have := h1.r1; show e.row ≤ _; push_cast; omega, h1.fr⟩)
  have HAC : Hid (ActR now n ⟨6, f.id, nn, ky, vd⟩ L r (L.filter (fun y => y.id != f.id)) rp now n []) := Lib.hid (by
    rw [HRPE.out]
    exact ActR.rem (a := ⟨6, f.id, nn, ky, vd⟩) _ rfl HX.out rfl)
  clear HD1 HC4 HC5 HT7 HNY HC6 HYB HDV HDC HD5 HSF HRO4 HU4 HG5 HN5 HG HQL
  have hrb := HC7.out.lo.2.2.2.1
  have hpl8 := HC7.out.b.lt
  obtain ⟨⟨s0, s1, s2, s3, s4, s5, s6, s7, s8, s9, s10, s11, s12, s13, s14⟩, _⟩ := fifteen HC7.out.b
  obtain ⟨⟨t0, t1, t2, t3, t4, t5, t6, t7, t8, t9, t10, t11, t12, t13, t14⟩, y0, y1, y2, y3, y4, y5, y6, y7, y8, y9, y10, y11, y12, y13, y14⟩ := fifteen HC7.out.r
  have HH : HeldS w7 w7 pr pb (.pointer (some ⟨A.o, 0, none⟩)) (.int .i64 rp.frames) (.int .i64 rp.bytes) (.int .i64 rp.age) (.int .i64 rp.most) (.int .i64 rp.guard) ((.slice a5 n5 c5)) (.int .i64 rp.s.most) ((.slice a6 n6 c6)) (.int .i64 rp.s.turn) (.bool rp.s.g) (.int .i64 rp.credit) (.int .i64 rp.row) (.int .i64 now) (.int .i64 n) := ⟨Turns.refl _ _, hpl8, s0, s1, s2, s3, s4, s5, s6, s7, s8, s9, s10, s11, s12, s13, s14⟩
  clear s0 s1 s2 s3 s4 s5 s6 s7 s8 s9 s10 s11 s12 s13 s14
  have HH2 := HH
  obtain ⟨_, _, s0, s1, s2, s3, s4, s5, s6, s7, s8, s9, s10, s11, s12, s13, s14⟩ := HH2
  first
    | go_region_held (fun w' => Turns (· = pr) w7 w' ∧ pb < w'.heap.size ∧ w'.cell? ⟨pb, 0, none⟩ = some (.pointer (some ⟨A.o, 0, none⟩)) ∧ w'.cell? ⟨pb, 1, none⟩ = some (.int .i64 rp.frames) ∧ w'.cell? ⟨pb, 2, none⟩ = some (.int .i64 rp.bytes) ∧ w'.cell? ⟨pb, 3, none⟩ = some (.int .i64 rp.age) ∧ w'.cell? ⟨pb, 4, none⟩ = some (.int .i64 rp.most) ∧ w'.cell? ⟨pb, 5, none⟩ = some (.int .i64 rp.guard) ∧ w'.cell? ⟨pb, 6, none⟩ = some ((.slice a5 n5 c5)) ∧ w'.cell? ⟨pb, 7, none⟩ = some (.int .i64 rp.s.most) ∧ w'.cell? ⟨pb, 8, none⟩ = some ((.slice a6 n6 c6)) ∧ w'.cell? ⟨pb, 9, none⟩ = some (.int .i64 rp.s.turn) ∧ w'.cell? ⟨pb, 10, none⟩ = some (.bool rp.s.g) ∧ w'.cell? ⟨pb, 11, none⟩ = some (.int .i64 rp.credit) ∧ w'.cell? ⟨pb, 12, none⟩ = some (.int .i64 rp.row) ∧ w'.cell? ⟨pb, 13, none⟩ = some (.int .i64 now) ∧ w'.cell? ⟨pb, 14, none⟩ = some (.int .i64 n))
        (first
          | (with_reducible assumption)
          | ((with_reducible refine heldS_drew ?_); with_reducible assumption)
          | ((with_reducible refine heldS_new (by with_reducible assumption) hrb ?_); with_reducible assumption)
          | ((with_reducible refine heldS_store hrb _ _ _ _ _ _ _ _ _ _ _ _ _ _ _ ?_); with_reducible assumption))
        ((go_at_call 55; (with_reducible refine Calls.mono (HSM.out _ ?_) ?_); (focus (repeat (first | exact Turns.refl _ _ | with_reducible apply Turns.drew))); rintro x9 w9 ⟨rfl, n9⟩; have hr9 : Blk w9 pr z15 STT := n9.blk HC7.out.r (fun h => h); obtain ⟨⟨t'0, t'1, t'2, t'3, t'4, t'5, t'6, t'7, t'8, t'9, t'10, t'11, t'12, t'13, t'14⟩, y'0, y'1, y'2, y'3, y'4, y'5, y'6, y'7, y'8, y'9, y'10, y'11, y'12, y'13, y'14⟩ := fifteen hr9))
    | skip
  all_goals
    go_wp2_with fail
    refine (show bodyPost _ _ _ _ _ (puts w9 pr 0 (stS A rp (.slice a5 n5 c5) (.slice a6 n6 c6) now n).toList) from ?_)
    have hfin := HC7.out.fin HDV7.out HB0.out (w9 := w9) (by first | exact n9 | exact Turns.of_drew n9 | exact Turns.of_drew (Turns.of_drew n9))
    have HFIN := Lib.hid hfin
    clear hfin s0 s1 s2 s3 s4 s5 s6 s7 s8 s9 s10 s11 s12 s13 s14 t0 t1 t2 t3 t4 t5 t6 t7 t8 t9 t10 t11 t12 t13 t14 y0 y1 y2 y3 y4 y5 y6 y7 y8 y9 y10 y11 y12 y13 y14
    generalize puts w9 pr 0 (stS A rp (.slice a5 n5 c5) (.slice a6 n6 c6) now n).toList = wz at *
    obtain ⟨⟨g0, g1, g2, g3, g4, g5, g6, g7, g8, g9, g10, g11, g12, g13, g14⟩, _⟩ := fifteen HFIN.out.1
    refine bodyPost_ret (v := .tuple #[.agg (stS A rp (.slice a5 n5 c5) (.slice a6 n6 c6) now n), .bool true]) (by simp [results, Try.results58, go_sem, g0, g1, g2, g3, g4, g5, g6, g7, g8, g9, g10, g11, g12, g13, g14]) rfl ?_
    exact ⟨_, _, _, _, _, _, rfl, HFIN.out.2, HDC7.out, HAC.out⟩
set_option maxRecDepth 100000 in
set_option maxHeartbeats 8000000 in
theorem flow7_go (b : Nat) (w : World) (A : Ad) (k : Nat) (e : Eo) (al : Option Addr) (nl cl : Nat) (ar : Option Addr) (nr cr : Nat) (L : List Rf) (r : Eo) (now n : Int) (i : Nat) (j : Nat) (f : Rf) (nn : Int) (ky vd : Bool) (hf : L[j]? = some f) (h : Dv b w w A k e (.slice al nl cl) (.slice ar nr cr) L r now n) (c : Dc i k e r L now n) (hi : i ≤ 200) :
    Calls Try.prog 58 #[.agg (stS A r (.slice al nl cl) (.slice ar nr cr) now n), .agg (acs ⟨7, f.id, nn, ky, vd⟩)] w (PostF b w A L r now n ⟨7, f.id, nn, ky, vd⟩ i) := by
  have HX := Lib.hid hf
  obtain ⟨g, hg, hgid, hgv, hgq⟩ := h.flow hf
  have HG := Lib.hid (And.intro hg (And.intro hgid (And.intro hgv hgq)))
  have HQL : Hid (f.q.L.length ≤ 8) := Lib.hid (by
    have hp := h.pu
    have h1 := (hp.ok f (List.mem_of_getElem? hf)).len
    have h2 : f.q.frames = r.frames := (hp.fq f (List.mem_of_getElem? hf)).fr
    have h3 := c.fr
    omega)
  clear hf hg hgid hgv hgq
  have HDV := Lib.hid h
  have HDC := Lib.hid c
  have hii := hi
  have hbx := Cx.start w A r (.slice al nl cl) (.slice ar nr cr) now n ⟨7, f.id, nn, ky, vd⟩
  have HBX := Lib.hid hbx
  have HB0 : Hid (b ≤ w.heap.size) := Lib.hid h.ru.base
  clear hbx h c
  go_enter Try.func58, Try.ntmps58
  go_upto_region 1 with fail
  refine (show Code.wp _ _ _ _ (((w.alloc (.cells (stS A r (.slice al nl cl) (.slice ar nr cr) now n) STT)).alloc (.cells (acs ⟨7, f.id, nn, ky, vd⟩) ACT)).alloc (.cells z15 STT)) from ?_)
  generalize ((w.alloc (.cells (stS A r (.slice al nl cl) (.slice ar nr cr) now n) STT)).alloc (.cells (acs ⟨7, f.id, nn, ky, vd⟩) ACT)).alloc (.cells z15 STT) = w1 at *
  generalize w.heap.size + 1 + 1 = pr at *
  generalize w.heap.size + 1 = pa at *
  obtain ⟨pb, hpb⟩ : ∃ pb, pb = w.heap.size := ⟨_, rfl⟩
  have HCX : Hid (Cx w w1 pb pa pr A r (.slice al nl cl) (.slice ar nr cr) now n ⟨7, f.id, nn, ky, vd⟩) := Lib.hid (by rw [hpb]; exact HBX.out.1)
  rw [← hpb]
  clear hpb
  have HN1 : Hid (New w w1) := Lib.hid HBX.out.2
  clear HBX
  have HD1 := Lib.hid (HDV.out.later HN1.out)
  obtain ⟨⟨s0, s1, s2, s3, s4, s5, s6, s7, s8, s9, s10, s11, s12, s13, s14⟩, _⟩ := fifteen HCX.out.b
  have a0 : w1.cell? ⟨pa, 0, none⟩ = some (.int .i64 7) := HCX.out.a.cell 0
  have a1 : w1.cell? ⟨pa, 1, none⟩ = some (.int .i64 f.id) := HCX.out.a.cell 1
  have a2 : w1.cell? ⟨pa, 2, none⟩ = some (.int .i64 nn) := HCX.out.a.cell 2
  have a4 : w1.cell? ⟨pa, 4, none⟩ = some (.bool vd) := HCX.out.a.cell 4
  have HPT := Lib.hid (break_some A k e g w1 HD1.out.ru.es HG.out.1)
  rw [HG.out.2.1] at HPT
  go_wp2_with fail
  refine HPT.out.mono ?_
  rintro x4 w4 ⟨u4, pv4, rfl, hes4, ht4, ho4, hv4, hp4⟩
  rw [HG.out.2.2.2] at ho4 hes4
  obtain ⟨au, cu, hu4, _⟩ := ho4.form
  obtain ⟨nu, hnu⟩ : ∃ nu, nu = (nam f.id f.q.L).length := ⟨_, rfl⟩
  rw [← hnu] at hu4
  subst hu4
  have HNU := Lib.hid hnu
  have HSF : Hid (Sf b A w1 w4) := Lib.hid (Sf.que HD1.out.ru.es HD1.out.ru.lo HG.out.1 ht4)
  have HRU : Hid (Ru b w w4 A k (⟨e.frames, e.bytes, e.age, e.most, e.guard, e.credit, e.row, setQ e.L f.id pv4 (brkQ f.q), e.s⟩ : Eo)) := Lib.hid (by
    have h1 := hes4
    rw [← HG.out.2.1] at h1 ⊢
    exact HD1.out.ru.put HG.out.1 h1 ht4 hp4)
  have HU4 : Hid (Owns SE SeT w4 (.slice au nu cu) (nam f.id f.q.L)) := Lib.hid ho4
  have HC4 := Lib.hid (HCX.out.sf HSF.out)
  have HRO4 := Lib.hid (HSF.out.ro HD1.out.ro)
  clear s0 s1 s2 s3 s4 s5 s6 s7 s8 s9 s10 s11 s12 s13 s14 a0 a1 a2 a4 hes4 ht4 ho4 hv4 hp4 hnu HPT
  obtain ⟨⟨s0, s1, s2, s3, s4, s5, s6, s7, s8, s9, s10, s11, s12, s13, s14⟩, _⟩ := fifteen HC4.out.b
  have a0 : w4.cell? ⟨pa, 0, none⟩ = some (.int .i64 7) := HC4.out.a.cell 0
  have a1 : w4.cell? ⟨pa, 1, none⟩ = some (.int .i64 f.id) := HC4.out.a.cell 1
  have a2 : w4.cell? ⟨pa, 2, none⟩ = some (.int .i64 nn) := HC4.out.a.cell 2
  have a4 : w4.cell? ⟨pa, 4, none⟩ = some (.bool vd) := HC4.out.a.cell 4
  have HRP := Lib.hid (rbreak_some al nl cl ar nr cr L r j f w4 HRO4.out (by have := HDC.out.l; omega) HDV.out.asc HX.out (by have := HQL.out; omega))
  go_wp2_with fail
  refine HRP.out.mono ?_
  rintro x5 w5 ⟨a5, n5, c5, u5, rfl, hro5, hg5⟩
  obtain ⟨av, cv, hv5, _⟩ := hg5.own.form
  rw [← HNU.out] at hv5
  subst hv5
  have HG5 := Lib.hid hg5
  have HD5 : Hid (Dv b w w5 A k (⟨e.frames, e.bytes, e.age, e.most, e.guard, e.credit, e.row, setQ e.L f.id pv4 (brkQ f.q), e.s⟩ : Eo) (.slice a5 n5 c5) (.slice ar nr cr) (L.set j (f.with (brkQ f.q) none 0)) ⟨r.frames, r.bytes, r.age, r.most, r.guard, r.credit, r.row, setQ r.L f.id (.slice none 0 0) (brkQ f.q), r.s⟩ now n) := Lib.hid (by
    have hq := HDV.out.rq
    refine ⟨HRU.out.later hg5.n, hro5, HDV.out.asc.set HX.out _ _ _, HDV.out.sa, HDV.out.sp, ⟨hq.frames, hq.bytes, hq.age, hq.most, hq.guard, hq.credit, hq.row, hq.fl.set _ _ _ _, hq.s⟩, fun x hx y' hy' => ?_⟩
    rcases List.mem_or_eq_of_mem_set hx with hx | hx
    · exact HDV.out.tk x hx y' hy'
    · rw [hx] at hy'
      cases hy')
  have HC5 := Lib.hid (HC4.out.later hg5.n)
  have HN5 := Lib.hid hg5.n
  obtain ⟨rp, hrp⟩ : ∃ rp : Eo, rp = ⟨r.frames, r.bytes, r.age, r.most, r.guard, r.credit, r.row, setQ r.L f.id (.slice none 0 0) (brkQ f.q), r.s⟩ := ⟨_, rfl⟩
  have hcells : rO r (.slice a5 n5 c5) (.slice ar nr cr) = rO rp (.slice a5 n5 c5) (.slice ar nr cr) := by rw [hrp]
  rw [hcells]
  rw [← hrp] at HD5
  have HRPE := Lib.hid hrp
  clear s0 s1 s2 s3 s4 s5 s6 s7 s8 s9 s10 s11 s12 s13 s14 a0 a1 a2 a4 hg5 hro5 hrp HRP hcells
  have HYB : Hid (Blk (w5.alloc (.cells (rO rp (.slice a5 n5 c5) (.slice ar nr cr)) RT20)) w5.heap.size (rO rp (.slice a5 n5 c5) (.slice ar nr cr)) RT20) := Lib.hid (Blk.new _ _ _)
  have HNY : Hid (New w5 (w5.alloc (.cells (rO rp (.slice a5 n5 c5) (.slice ar nr cr)) RT20))) := Lib.hid ((Turns.refl _ _).alloc _)
  go_upto_region 14 with fail
  refine (show Code.wp _ _ _ _ (w5.alloc (.cells (rO rp (.slice a5 n5 c5) (.slice ar nr cr)) RT20)) from ?_)
  have hyp : w5.heap.size ≠ pb := Nat.ne_of_gt HC5.out.b.lt
  generalize w5.alloc (.cells (rO rp (.slice a5 n5 c5) (.slice ar nr cr)) RT20) = w6 at *
  generalize w5.heap.size = py at *
  have HC6 := Lib.hid (HC5.out.later HNY.out)
  obtain ⟨⟨s0, s1, s2, s3, s4, s5, s6, s7, s8, s9, s10, s11, s12, s13, s14⟩, z0, z1, z2, z3, z4, z5, z6, z7, z8, z9, z10, z11, z12, z13, z14⟩ := fifteen HC6.out.b
  obtain ⟨⟨k0, k1, k2, k3, k4, k5, k6, k7, k8, k9, k10, k11⟩, _⟩ := twelve HYB.out
  have HT7 : Hid (Turns (· = pb) w6 (puts w6 pb 1 [.int .i64 rp.frames, .int .i64 rp.bytes, .int .i64 rp.age, .int .i64 rp.most, .int .i64 rp.guard, (.slice a5 n5 c5), .int .i64 rp.s.most, (.slice ar nr cr), .int .i64 rp.s.turn, .bool rp.s.g, .int .i64 rp.credit, .int .i64 rp.row])) := Lib.hid (puts_turns (S := (· = pb)) (p := pb) (.inl rfl) [.int .i64 rp.frames, .int .i64 rp.bytes, .int .i64 rp.age, .int .i64 rp.most, .int .i64 rp.guard, (.slice a5 n5 c5), .int .i64 rp.s.most, (.slice ar nr cr), .int .i64 rp.s.turn, .bool rp.s.g, .int .i64 rp.credit, .int .i64 rp.row] 1 w6 (Turns.refl _ _))
  have hb7 : Blk (puts w6 pb 1 [.int .i64 rp.frames, .int .i64 rp.bytes, .int .i64 rp.age, .int .i64 rp.most, .int .i64 rp.guard, (.slice a5 n5 c5), .int .i64 rp.s.most, (.slice ar nr cr), .int .i64 rp.s.turn, .bool rp.s.g, .int .i64 rp.credit, .int .i64 rp.row]) pb (stS A rp (.slice a5 n5 c5) (.slice ar nr cr) now n) STT := puts_over [.int .i64 rp.frames, .int .i64 rp.bytes, .int .i64 rp.age, .int .i64 rp.most, .int .i64 rp.guard, (.slice a5 n5 c5), .int .i64 rp.s.most, (.slice ar nr cr), .int .i64 rp.s.turn, .bool rp.s.g, .int .i64 rp.credit, .int .i64 rp.row] 1 _ _ HC6.out.b
  have HC7 : Hid (Cx w (puts w6 pb 1 [.int .i64 rp.frames, .int .i64 rp.bytes, .int .i64 rp.age, .int .i64 rp.most, .int .i64 rp.guard, (.slice a5 n5 c5), .int .i64 rp.s.most, (.slice ar nr cr), .int .i64 rp.s.turn, .bool rp.s.g, .int .i64 rp.credit, .int .i64 rp.row]) pb pa pr A rp (.slice a5 n5 c5) (.slice ar nr cr) now n ⟨7, f.id, nn, ky, vd⟩) := Lib.hid (HC6.out.self HT7.out hb7)
  clear hb7
  go_upto_region 15 with fail
  refine (show Code.wp _ _ _ _ (puts w6 pb 1 [.int .i64 rp.frames, .int .i64 rp.bytes, .int .i64 rp.age, .int .i64 rp.most, .int .i64 rp.guard, (.slice a5 n5 c5), .int .i64 rp.s.most, (.slice ar nr cr), .int .i64 rp.s.turn, .bool rp.s.g, .int .i64 rp.credit, .int .i64 rp.row]) from ?_)
  clear s0 s1 s2 s3 s4 s5 s6 s7 s8 s9 s10 s11 s12 s13 s14 z0 z1 z2 z3 z4 z5 z6 z7 z8 z9 z10 z11 z12 z13 z14 k0 k1 k2 k3 k4 k5 k6 k7 k8 k9 k10 k11 hyp
  generalize puts w6 pb 1 [.int .i64 rp.frames, .int .i64 rp.bytes, .int .i64 rp.age, .int .i64 rp.most, .int .i64 rp.guard, (.slice a5 n5 c5), .int .i64 rp.s.most, (.slice ar nr cr), .int .i64 rp.s.turn, .bool rp.s.g, .int .i64 rp.credit, .int .i64 rp.row] = w7 at *
  have N57 : Hid (New w5 w6) := HNY
  have HDV7 := Lib.hid ((HD5.out.later HNY.out).off HC6.out.b HB0.out HC6.out.lo.1 HT7.out rfl)
  have HSM : Hid (∀ W, New w7 W → _) := Lib.hid (fun W N => same (.slice au nu cu) (.slice av nu cv) (nam f.id f.q.L) W
    (by
      have h5 : Sub SE 0 w5 (.slice au nu cu) (nam f.id f.q.L) := subN (HU4.out.sub 0 (fun _ _ => Nat.zero_le _)) HN5.out
      have h7 := Sub.turns' (subN h5 N57.out) HT7.out (fun g hg hf => own_ne HU4.out (HC4.out.b) (by decide) (by rw [hg, hf]))
      exact subN h7 N)
    (by
      have h7 := Sub.turns' (subN (HG5.out.own.sub 0 (fun _ _ => Nat.zero_le _)) N57.out) HT7.out (fun g hg hf => own_ne HG5.out.own (HC5.out.b) (by decide) (by rw [hg, hf]))
      exact subN h7 N)
    (by
      have h1 := HQL.out
      unfold nam
      rw [List.length_map]
      omega))
  have HDC7 : Hid (Dc (i + 1) k (⟨e.frames, e.bytes, e.age, e.most, e.guard, e.credit, e.row, setQ e.L f.id pv4 (brkQ f.q), e.s⟩ : Eo) rp (L.set j (f.with (brkQ f.q) none 0)) now n) := Lib.hid (by
    have h1 := HDC.out
    rw [HRPE.out]
    exact ⟨by have := h1.k; omega, by rw [List.length_set]; have := h1.l; omega, by have := h1.s; show r.s.L.length ≤ _; omega, by have := h1.n0; omega, by have := h1.n1; push_cast; omega, h1.t0, by have := h1.t1; push_cast; omega, h1.r0, by have := h1.r1; show e.row ≤ _; push_cast; omega, h1.fr⟩)
  have HAC : Hid (ActR now n ⟨7, f.id, nn, ky, vd⟩ L r (L.set j (f.with (brkQ f.q) none 0)) rp now n []) := Lib.hid (by
    rw [HRPE.out]
    exact ActR.brk (a := ⟨7, f.id, nn, ky, vd⟩) rfl HX.out rfl)
  clear HD1 HC4 HC5 HT7 HNY HC6 HYB HDV HDC HD5 HSF HRO4 HU4 HG5 HN5 HG HQL
  have hrb := HC7.out.lo.2.2.2.1
  have hpl8 := HC7.out.b.lt
  obtain ⟨⟨s0, s1, s2, s3, s4, s5, s6, s7, s8, s9, s10, s11, s12, s13, s14⟩, _⟩ := fifteen HC7.out.b
  obtain ⟨⟨t0, t1, t2, t3, t4, t5, t6, t7, t8, t9, t10, t11, t12, t13, t14⟩, y0, y1, y2, y3, y4, y5, y6, y7, y8, y9, y10, y11, y12, y13, y14⟩ := fifteen HC7.out.r
  have HH : HeldS w7 w7 pr pb (.pointer (some ⟨A.o, 0, none⟩)) (.int .i64 rp.frames) (.int .i64 rp.bytes) (.int .i64 rp.age) (.int .i64 rp.most) (.int .i64 rp.guard) ((.slice a5 n5 c5)) (.int .i64 rp.s.most) ((.slice ar nr cr)) (.int .i64 rp.s.turn) (.bool rp.s.g) (.int .i64 rp.credit) (.int .i64 rp.row) (.int .i64 now) (.int .i64 n) := ⟨Turns.refl _ _, hpl8, s0, s1, s2, s3, s4, s5, s6, s7, s8, s9, s10, s11, s12, s13, s14⟩
  clear s0 s1 s2 s3 s4 s5 s6 s7 s8 s9 s10 s11 s12 s13 s14
  have HH2 := HH
  obtain ⟨_, _, s0, s1, s2, s3, s4, s5, s6, s7, s8, s9, s10, s11, s12, s13, s14⟩ := HH2
  first
    | go_region_held (fun w' => Turns (· = pr) w7 w' ∧ pb < w'.heap.size ∧ w'.cell? ⟨pb, 0, none⟩ = some (.pointer (some ⟨A.o, 0, none⟩)) ∧ w'.cell? ⟨pb, 1, none⟩ = some (.int .i64 rp.frames) ∧ w'.cell? ⟨pb, 2, none⟩ = some (.int .i64 rp.bytes) ∧ w'.cell? ⟨pb, 3, none⟩ = some (.int .i64 rp.age) ∧ w'.cell? ⟨pb, 4, none⟩ = some (.int .i64 rp.most) ∧ w'.cell? ⟨pb, 5, none⟩ = some (.int .i64 rp.guard) ∧ w'.cell? ⟨pb, 6, none⟩ = some ((.slice a5 n5 c5)) ∧ w'.cell? ⟨pb, 7, none⟩ = some (.int .i64 rp.s.most) ∧ w'.cell? ⟨pb, 8, none⟩ = some ((.slice ar nr cr)) ∧ w'.cell? ⟨pb, 9, none⟩ = some (.int .i64 rp.s.turn) ∧ w'.cell? ⟨pb, 10, none⟩ = some (.bool rp.s.g) ∧ w'.cell? ⟨pb, 11, none⟩ = some (.int .i64 rp.credit) ∧ w'.cell? ⟨pb, 12, none⟩ = some (.int .i64 rp.row) ∧ w'.cell? ⟨pb, 13, none⟩ = some (.int .i64 now) ∧ w'.cell? ⟨pb, 14, none⟩ = some (.int .i64 n))
        (first
          | (with_reducible assumption)
          | ((with_reducible refine heldS_drew ?_); with_reducible assumption)
          | ((with_reducible refine heldS_new (by with_reducible assumption) hrb ?_); with_reducible assumption)
          | ((with_reducible refine heldS_store hrb _ _ _ _ _ _ _ _ _ _ _ _ _ _ _ ?_); with_reducible assumption))
        ((go_at_call 55; (with_reducible refine Calls.mono (HSM.out _ ?_) ?_); (focus (repeat (first | exact Turns.refl _ _ | with_reducible apply Turns.drew))); rintro x9 w9 ⟨rfl, n9⟩; have hr9 : Blk w9 pr z15 STT := n9.blk HC7.out.r (fun h => h); obtain ⟨⟨t'0, t'1, t'2, t'3, t'4, t'5, t'6, t'7, t'8, t'9, t'10, t'11, t'12, t'13, t'14⟩, y'0, y'1, y'2, y'3, y'4, y'5, y'6, y'7, y'8, y'9, y'10, y'11, y'12, y'13, y'14⟩ := fifteen hr9))
    | skip
  all_goals
    go_wp2_with fail
    refine (show bodyPost _ _ _ _ _ (puts w9 pr 0 (stS A rp (.slice a5 n5 c5) (.slice ar nr cr) now n).toList) from ?_)
    have hfin := HC7.out.fin HDV7.out HB0.out (w9 := w9) (by first | exact n9 | exact Turns.of_drew n9 | exact Turns.of_drew (Turns.of_drew n9))
    have HFIN := Lib.hid hfin
    clear hfin s0 s1 s2 s3 s4 s5 s6 s7 s8 s9 s10 s11 s12 s13 s14 t0 t1 t2 t3 t4 t5 t6 t7 t8 t9 t10 t11 t12 t13 t14 y0 y1 y2 y3 y4 y5 y6 y7 y8 y9 y10 y11 y12 y13 y14
    generalize puts w9 pr 0 (stS A rp (.slice a5 n5 c5) (.slice ar nr cr) now n).toList = wz at *
    obtain ⟨⟨g0, g1, g2, g3, g4, g5, g6, g7, g8, g9, g10, g11, g12, g13, g14⟩, _⟩ := fifteen HFIN.out.1
    refine bodyPost_ret (v := .tuple #[.agg (stS A rp (.slice a5 n5 c5) (.slice ar nr cr) now n), .bool true]) (by simp [results, Try.results58, go_sem, g0, g1, g2, g3, g4, g5, g6, g7, g8, g9, g10, g11, g12, g13, g14]) rfl ?_
    exact ⟨_, _, _, _, _, _, rfl, HFIN.out.2, HDC7.out, HAC.out⟩
end Go.Proofs.Ytcppibjllaablaa.egr
