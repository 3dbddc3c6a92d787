/-
  Parts of the proof, one behind the other.
-/
import Derived.Test.YtcppibjllaablaaZEgrDef
import Derived.Test.YtcppibjllaablaaZEgrR20y
import Derived.Deep.RegionHeld3
import Derived.Deep.QuietTactic
import Derived.BigQuiet
import Derived.Deep.DeepCutAuto
import Derived.Test.YtcppibjllaablaaZKae
import Derived.Test.YtcppibjllaablaaZQueRef
set_option linter.unusedVariables false
set_option linter.unusedSimpArgs false
/-
  'flows' of layer 20's laws: Add.
-/
namespace Go.Proofs.Ytcppibjllaablaa.egr
open Go.RowKit mem
open Go.Proofs.Ytcppibjllaablaa.drr (plc plc_at plc_no plc_cases before_succ before_all)
set_option linter.unusedVariables false

theorem radX_cs (r : Eo) (id : Int) (vd : Bool) : radX r id vd = ⟨id, vd, ⟨r.frames, r.bytes, [], true⟩, none, 0⟩ := rfl
/-- both outlets behind an Add -/
theorem dv_add {b : Nat} {w w1 w4 w5 : World} {A : Ad} {k : Nat} {e r : Eo} {vL vS vL' vS' : Value} {L : List Rf} {now n : Int} {id : Int} {vd : Bool} {nn : Int} {fb qb sb : Nat} {s' : drr.Sc} (h : Dv b w w1 A k e vL vS L r now n) (hno : ∀ f ∈ L, f.id ≠ id)
    (hq : w1.heap.size ≤ qb) (hs : (vd = false ∧ s' = e.s) ∨ (vd = true ∧ w1.heap.size ≤ sb ∧ s' = drr.addS e.s id sb nn))
    (hes : Es w4 A (k + 1) (addE e ⟨id, fb, vd, qb, .slice none 0 0, que.fresh e.frames e.bytes⟩ s')) (t : Turns (fun i => i = A.mb ∨ i = A.smb) w1 w4)
    (n5 : New w4 w5) (hl : TS FE FT w5 vL' (insR (radX r id vd) L)) (hsl : TS drr.GE drr.GT w5 vS' (radS r.s id vd nn sb).L) :
    Dv b w w5 A (k + 1) (addE e ⟨id, fb, vd, qb, .slice none 0 0, que.fresh e.frames e.bytes⟩ s') vL' vS' (insR (radX r id vd) L) ⟨r.frames, r.bytes, r.age, r.most, r.guard, r.credit, r.row, (insR (radX r id vd) L).map toE, radS r.s id vd nn sb⟩ now n := by
  have hsf : Sf b A w1 w4 := Sf.maps h.ru.es h.ru.lo t
  have hro := (hsf.ro h.ro).later n5
  have hp := h.pu
  have hsn : ∀ g ∈ r.s.L, g.id ≠ id := fun g hg e2 => by
    obtain ⟨f, hf, e3, _⟩ := (hp.vs id).1 ⟨g, hg, e2⟩
    exact hno f hf e3
  have hsz : w1.heap.size ≤ w5.heap.size := Nat.le_trans t.size n5.size
  have hxi : (radX r id vd).id = id := rfl
  have hq2 := h.rq
  refine ⟨(h.ru.add hes t hq rfl (fun g hg => ?_)).later n5, ⟨hl, fun g hg => ?_, hsl, rfl, fun g hg => ?_⟩, insR_asc h.asc (fun f hf => hno f hf), ?_, ?_, ⟨hq2.frames, hq2.bytes, hq2.age, hq2.most, hq2.guard, hq2.credit, hq2.row, ?_, ?_⟩, fun g hg x hx => ?_⟩
  · rcases hs with ⟨_, e2⟩ | ⟨_, hsb, e2⟩
    · rw [e2] at hg; exact .inl hg
    · rw [e2] at hg
      rcases List.mem_append.1 hg with hg | hg
      · exact .inl hg
      · simp at hg; subst hg
        exact .inr hsb
  · rcases insR_mem hg with hg | hg
    · rw [hg]; exact TS.nil _ _ _
    · exact hro.q g hg
  · have hg' : g ∈ (radS r.s id vd nn sb).L := hg
    unfold radS at hg'
    split at hg'
    next hv =>
      rcases drr.insF_mem hg' with h9 | h9
      · rw [h9]
        rcases hs with ⟨e2, _⟩ | ⟨_, hsb, e2⟩
        · rw [e2] at hv; cases hv
        · show sb < _
          obtain ⟨c2, D2, _, hss⟩ := hes.sch
          have := hss.fb ⟨id, sb, nn, 0⟩ (by rw [show (addE e _ s').s = s' from rfl, e2]; exact List.mem_append.2 (.inr (List.mem_singleton.2 rfl)))
          exact Nat.lt_of_lt_of_le this.lt n5.size
      · exact hro.b g h9
    next => exact hro.b g hg'
  · show drr.SAsc (radS r.s id vd nn sb).L
    unfold radS
    split
    · exact drr.insF_asc h.sa (fun f hf => hsn f hf)
    · exact h.sa
  · show drr.Ap (radS r.s id vd nn sb).L
    unfold radS
    split
    next hv =>
      refine drr.insF_ap h.sp (fun f hf => ⟨hsn f hf, ?_⟩)
      rcases hs with ⟨e2, _⟩ | ⟨_, hsb, e2⟩
      · rw [e2] at hv; cases hv
      · have := h.ro.b f hf
        show f.b ≠ sb
        omega
    next => exact h.sp
  · show Eqv (e.L ++ [_]) _
    have hfl := h.rq.fl
    rw [h.ro.e] at hfl
    exact hfl.add (x := radX r id vd) rfl rfl (by show que.fresh e.frames e.bytes = _; rw [hq2.frames, hq2.bytes]; rfl) (h.none hno) hno
  · show drr.Re s' (radS r.s id vd nn sb)
    unfold radS
    rcases hs with ⟨e2, e3⟩ | ⟨e2, _, e3⟩
    · rw [e2, if_neg (by decide), e3]; exact hq2.s
    · rw [e2, if_pos rfl, e3]
      exact hq2.s.add (h.ru.es.no_pic (h.none hno)) hsn
  · rcases insR_mem hg with hg | hg
    · rw [hg] at hx; cases hx
    · exact h.tk g hg x hx
set_option maxRecDepth 100000 in
set_option maxHeartbeats 8000000 in
theorem flow5_go (b : Nat) (w : World) (A : Ad) (k : Nat) (e : Eo) (al : Option Addr) (nl cl : Nat) (ar : Option Addr) (nr cr : Nat) (L : List Rf) (r : Eo) (now n : Int) (i : Nat) (id nn : Int) (ky vd : Bool) (hno : ∀ f ∈ L, f.id ≠ id) (i0 : -9223372036854775808 ≤ id) (i1 : id ≤ 9223372036854775807) (hb : vd = true → r.most ≤ nn ∧ nn ≤ 16777216) (h : Dv b w w A k e (.slice al nl cl) (.slice ar nr cr) L r now n) (c : Dc i k e r L now n) (hi : i ≤ 200) :
    Calls Try.prog 58 #[.agg (stS A r (.slice al nl cl) (.slice ar nr cr) now n), .agg (acs ⟨5, id, nn, ky, vd⟩)] w (PostF b w A L r now n ⟨5, id, nn, ky, vd⟩ i) := by
  have HX := Lib.hid (And.intro hno (And.intro hb (And.intro i0 i1)))
  clear hno hb i0 i1
  have HDV := Lib.hid h
  have HDC := Lib.hid c
  have hii := hi
  have hbx := Cx.start w A r (.slice al nl cl) (.slice ar nr cr) now n ⟨5, id, nn, ky, vd⟩
  have HBX := Lib.hid hbx
  have HB0 : Hid (b ≤ w.heap.size) := Lib.hid h.ru.base
  clear hbx h c
  go_enter Try.func58, Try.ntmps58
  go_upto_region 1 with fail
  refine (show Code.wp _ _ _ _ (((w.alloc (.cells (stS A r (.slice al nl cl) (.slice ar nr cr) now n) STT)).alloc (.cells (acs ⟨5, id, nn, ky, vd⟩) ACT)).alloc (.cells z15 STT)) from ?_)
  generalize ((w.alloc (.cells (stS A r (.slice al nl cl) (.slice ar nr cr) now n) STT)).alloc (.cells (acs ⟨5, id, nn, ky, vd⟩) ACT)).alloc (.cells z15 STT) = w1 at *
  generalize w.heap.size + 1 + 1 = pr at *
  generalize w.heap.size + 1 = pa at *
  obtain ⟨pb, hpb⟩ : ∃ pb, pb = w.heap.size := ⟨_, rfl⟩
  have HCX : Hid (Cx w w1 pb pa pr A r (.slice al nl cl) (.slice ar nr cr) now n ⟨5, id, nn, ky, vd⟩) := Lib.hid (by rw [hpb]; exact HBX.out.1)
  rw [← hpb]
  clear hpb
  have HN1 : Hid (New w w1) := Lib.hid HBX.out.2
  clear HBX
  have HD1 := Lib.hid (HDV.out.later HN1.out)
  obtain ⟨⟨s0, s1, s2, s3, s4, s5, s6, s7, s8, s9, s10, s11, s12, s13, s14⟩, _⟩ := fifteen HCX.out.b
  have a0 : w1.cell? ⟨pa, 0, none⟩ = some (.int .i64 5) := HCX.out.a.cell 0
  have a1 : w1.cell? ⟨pa, 1, none⟩ = some (.int .i64 id) := HCX.out.a.cell 1
  have a2 : w1.cell? ⟨pa, 2, none⟩ = some (.int .i64 nn) := HCX.out.a.cell 2
  have a4 : w1.cell? ⟨pa, 4, none⟩ = some (.bool vd) := HCX.out.a.cell 4
  have HPT : Hid (Calls Try.prog 33 #[.pointer (some ⟨A.o, 0, none⟩), .int .i64 id, .bool vd, .int .i64 nn] w1 fun x w' => x = .returned (.int .i64 0) ∧ ∃ fb qb sb s', w1.heap.size ≤ qb ∧ ((vd = false ∧ s' = e.s) ∨ (vd = true ∧ w1.heap.size ≤ sb ∧ s' = drr.addS e.s id sb nn)) ∧ Es w' A (k + 1) (addE e ⟨id, fb, vd, qb, .slice none 0 0, que.fresh e.frames e.bytes⟩ s') ∧ Turns (fun i => i = A.mb ∨ i = A.smb) w1 w') := Lib.hid (by
    have hk : k ≤ 1048576 := by have := HDC.out.k; omega
    cases hv : vd with
    | false =>
      refine (add_sound A k e id nn w1 HD1.out.ru.es HX.out.2.2.1 HX.out.2.2.2 (HD1.out.none HX.out.1) hk).mono ?_
      rintro x w' ⟨h1, fb, qb, h2, h3, h4, h5⟩
      exact ⟨h1, fb, qb, 0, e.s, h3, .inl ⟨rfl, rfl⟩, h4, h5⟩
    | true =>
      have hb := HX.out.2.1 hv
      refine (add_video A k e id nn w1 HD1.out.ru.es HX.out.2.2.1 HX.out.2.2.2 (HD1.out.none HX.out.1) hk (by rw [HDV.out.rq.most]; exact hb.1) hb.2).mono ?_
      rintro x w' ⟨h1, fb, qb, sb, h2, h3, h3', h4, h5⟩
      exact ⟨h1, fb, qb, sb, _, h3, .inr ⟨rfl, h3', rfl⟩, h4, h5⟩)
  go_wp2_with fail
  refine HPT.out.mono ?_
  rintro x4 w4 ⟨rfl, fb, qb, sb, s', hqb, hss, hes4, ht4⟩
  have HPP := Lib.hid (And.intro hqb (And.intro hss (And.intro hes4 ht4)))
  have HSF : Hid (Sf b A w1 w4) := Lib.hid (Sf.maps HD1.out.ru.es HD1.out.ru.lo ht4)
  have HC4 := Lib.hid (HCX.out.sf HSF.out)
  have HRO4 := Lib.hid (HSF.out.ro HD1.out.ro)
  clear s0 s1 s2 s3 s4 s5 s6 s7 s8 s9 s10 s11 s12 s13 s14 a0 a1 a2 a4 hqb hss hes4 ht4 HPT
  obtain ⟨⟨s0, s1, s2, s3, s4, s5, s6, s7, s8, s9, s10, s11, s12, s13, s14⟩, _⟩ := fifteen HC4.out.b
  have a0 : w4.cell? ⟨pa, 0, none⟩ = some (.int .i64 5) := HC4.out.a.cell 0
  have a1 : w4.cell? ⟨pa, 1, none⟩ = some (.int .i64 id) := HC4.out.a.cell 1
  have a2 : w4.cell? ⟨pa, 2, none⟩ = some (.int .i64 nn) := HC4.out.a.cell 2
  have a4 : w4.cell? ⟨pa, 4, none⟩ = some (.bool vd) := HC4.out.a.cell 4
  have HRP := Lib.hid (rad_ok al nl cl ar nr cr L r id vd nn sb w4 HRO4.out (by have := HDC.out.l; omega) (by have := HDC.out.s; omega) HX.out.1 (fun _ g hg e2 => by
    obtain ⟨f, hf, e3, _⟩ := (HDV.out.pu.vs id).1 ⟨g, hg, e2⟩
    exact HX.out.1 f hf e3) (fun hv => by rw [HDV.out.pu.sm]; exact HX.out.2.1 hv))
  go_wp2_with fail
  refine HRP.out.mono ?_
  rintro x5 w5 ⟨a5, n5, c5, a6, n6, c6, rfl, hl5, hs5, nn5⟩
  have HC5 := Lib.hid (HC4.out.later nn5)
  have HD5 := Lib.hid (dv_add HD1.out HX.out.1 HPP.out.1 HPP.out.2.1 HPP.out.2.2.1 HPP.out.2.2.2 nn5 hl5 hs5)
  obtain ⟨rp, hrp⟩ : ∃ rp : Eo, rp = ⟨r.frames, r.bytes, r.age, r.most, r.guard, r.credit, r.row, (insR (radX r id vd) L).map toE, radS r.s id vd nn sb⟩ := ⟨_, rfl⟩
  have hcells : rO ⟨r.frames, r.bytes, r.age, r.most, r.guard, r.credit, r.row, r.L, radS r.s id vd nn sb⟩ (.slice a5 n5 c5) (.slice a6 n6 c6) = rO rp (.slice a5 n5 c5) (.slice a6 n6 c6) := by rw [hrp]
  rw [hcells]
  rw [← hrp] at HD5
  have HRPE := Lib.hid hrp
  clear s0 s1 s2 s3 s4 s5 s6 s7 s8 s9 s10 s11 s12 s13 s14 a0 a1 a2 a4 nn5 hl5 hs5 HRP hcells hrp
  have HYB : Hid (Blk (w5.alloc (.cells (rO rp (.slice a5 n5 c5) (.slice a6 n6 c6)) RT20)) w5.heap.size (rO rp (.slice a5 n5 c5) (.slice a6 n6 c6)) RT20) := Lib.hid (Blk.new _ _ _)
  have HNY : Hid (New w5 (w5.alloc (.cells (rO rp (.slice a5 n5 c5) (.slice a6 n6 c6)) RT20))) := Lib.hid ((Turns.refl _ _).alloc _)
  go_upto_region 5 with fail
  refine (show Code.wp _ _ _ _ (w5.alloc (.cells (rO rp (.slice a5 n5 c5) (.slice a6 n6 c6)) RT20)) from ?_)
  have hyp : w5.heap.size ≠ pb := Nat.ne_of_gt HC5.out.b.lt
  generalize w5.alloc (.cells (rO rp (.slice a5 n5 c5) (.slice a6 n6 c6)) RT20) = w6 at *
  generalize w5.heap.size = py at *
  have HC6 := Lib.hid (HC5.out.later HNY.out)
  obtain ⟨⟨s0, s1, s2, s3, s4, s5, s6, s7, s8, s9, s10, s11, s12, s13, s14⟩, z0, z1, z2, z3, z4, z5, z6, z7, z8, z9, z10, z11, z12, z13, z14⟩ := fifteen HC6.out.b
  obtain ⟨⟨k0, k1, k2, k3, k4, k5, k6, k7, k8, k9, k10, k11⟩, _⟩ := twelve HYB.out
  have HT7 : Hid (Turns (· = pb) w6 (puts w6 pb 1 [.int .i64 rp.frames, .int .i64 rp.bytes, .int .i64 rp.age, .int .i64 rp.most, .int .i64 rp.guard, (.slice a5 n5 c5), .int .i64 rp.s.most, (.slice a6 n6 c6), .int .i64 rp.s.turn, .bool rp.s.g, .int .i64 rp.credit, .int .i64 rp.row])) := Lib.hid (puts_turns (S := (· = pb)) (p := pb) (.inl rfl) [.int .i64 rp.frames, .int .i64 rp.bytes, .int .i64 rp.age, .int .i64 rp.most, .int .i64 rp.guard, (.slice a5 n5 c5), .int .i64 rp.s.most, (.slice a6 n6 c6), .int .i64 rp.s.turn, .bool rp.s.g, .int .i64 rp.credit, .int .i64 rp.row] 1 w6 (Turns.refl _ _))
  have hb7 : Blk (puts w6 pb 1 [.int .i64 rp.frames, .int .i64 rp.bytes, .int .i64 rp.age, .int .i64 rp.most, .int .i64 rp.guard, (.slice a5 n5 c5), .int .i64 rp.s.most, (.slice a6 n6 c6), .int .i64 rp.s.turn, .bool rp.s.g, .int .i64 rp.credit, .int .i64 rp.row]) pb (stS A rp (.slice a5 n5 c5) (.slice a6 n6 c6) now n) STT := puts_over [.int .i64 rp.frames, .int .i64 rp.bytes, .int .i64 rp.age, .int .i64 rp.most, .int .i64 rp.guard, (.slice a5 n5 c5), .int .i64 rp.s.most, (.slice a6 n6 c6), .int .i64 rp.s.turn, .bool rp.s.g, .int .i64 rp.credit, .int .i64 rp.row] 1 _ _ HC6.out.b
  have HC7 : Hid (Cx w (puts w6 pb 1 [.int .i64 rp.frames, .int .i64 rp.bytes, .int .i64 rp.age, .int .i64 rp.most, .int .i64 rp.guard, (.slice a5 n5 c5), .int .i64 rp.s.most, (.slice a6 n6 c6), .int .i64 rp.s.turn, .bool rp.s.g, .int .i64 rp.credit, .int .i64 rp.row]) pb pa pr A rp (.slice a5 n5 c5) (.slice a6 n6 c6) now n ⟨5, id, nn, ky, vd⟩) := Lib.hid (HC6.out.self HT7.out hb7)
  clear hb7
  go_upto_region 6 with fail
  refine (show Code.wp _ _ _ _ (puts w6 pb 1 [.int .i64 rp.frames, .int .i64 rp.bytes, .int .i64 rp.age, .int .i64 rp.most, .int .i64 rp.guard, (.slice a5 n5 c5), .int .i64 rp.s.most, (.slice a6 n6 c6), .int .i64 rp.s.turn, .bool rp.s.g, .int .i64 rp.credit, .int .i64 rp.row]) from ?_)
  clear s0 s1 s2 s3 s4 s5 s6 s7 s8 s9 s10 s11 s12 s13 s14 z0 z1 z2 z3 z4 z5 z6 z7 z8 z9 z10 z11 z12 z13 z14 k0 k1 k2 k3 k4 k5 k6 k7 k8 k9 k10 k11 hyp
  generalize puts w6 pb 1 [.int .i64 rp.frames, .int .i64 rp.bytes, .int .i64 rp.age, .int .i64 rp.most, .int .i64 rp.guard, (.slice a5 n5 c5), .int .i64 rp.s.most, (.slice a6 n6 c6), .int .i64 rp.s.turn, .bool rp.s.g, .int .i64 rp.credit, .int .i64 rp.row] = w7 at *
  have HDV7 := Lib.hid ((HD5.out.later HNY.out).off HC6.out.b HB0.out HC6.out.lo.1 HT7.out rfl)
  have HDC7 : Hid (Dc (i + 1) (k + 1) (addE e ⟨id, fb, vd, qb, .slice none 0 0, que.fresh e.frames e.bytes⟩ s') rp (insR (radX r id vd) L) now n) := Lib.hid (by
    have h1 := HDC.out
    have h2 := insR_len (radX r id vd) L
    have h3 : (radS r.s id vd nn sb).L.length ≤ r.s.L.length + 1 := by
      unfold radS
      split
      · exact Nat.le_of_eq (drr.insF_len _ _)
      · exact Nat.le_succ _
    rw [HRPE.out]
    exact ⟨by have := h1.k; omega, by have := h1.l; omega, by have := h1.s; show (radS r.s id vd nn sb).L.length ≤ _; omega, by have := h1.n0; omega, by have := h1.n1; push_cast; omega, h1.t0, by have := h1.t1; push_cast; omega, h1.r0, by have := h1.r1; show e.row ≤ _; push_cast; omega, h1.fr⟩)
  have HAC : Hid (ActR now n ⟨5, id, nn, ky, vd⟩ L r (insR (radX r id vd) L) rp now n []) := Lib.hid (by
    rw [HRPE.out]
    exact ActR.add (a := ⟨5, id, nn, ky, vd⟩) _ rfl HX.out.1)
  clear HD1 HC4 HC5 HT7 HNY HC6 HYB HDV HDC HD5 HPP HSF HRO4
  have hrb := HC7.out.lo.2.2.2.1
  have hrb' := hrb.symm
  obtain ⟨⟨s0, s1, s2, s3, s4, s5, s6, s7, s8, s9, s10, s11, s12, s13, s14⟩, _⟩ := fifteen HC7.out.b
  obtain ⟨⟨t0, t1, t2, t3, t4, t5, t6, t7, t8, t9, t10, t11, t12, t13, t14⟩, y0, y1, y2, y3, y4, y5, y6, y7, y8, y9, y10, y11, y12, y13, y14⟩ := fifteen HC7.out.r
  go_wp2_with fail
  refine (show bodyPost _ _ _ _ _ (puts w7 pr 0 (stS A rp (.slice a5 n5 c5) (.slice a6 n6 c6) now n).toList) from ?_)
  have hfin := HC7.out.fin HDV7.out HB0.out (w9 := w7) (Turns.refl _ _)
  have HFIN := Lib.hid hfin
  clear hfin s0 s1 s2 s3 s4 s5 s6 s7 s8 s9 s10 s11 s12 s13 s14 t0 t1 t2 t3 t4 t5 t6 t7 t8 t9 t10 t11 t12 t13 t14 y0 y1 y2 y3 y4 y5 y6 y7 y8 y9 y10 y11 y12 y13 y14
  generalize puts w7 pr 0 (stS A rp (.slice a5 n5 c5) (.slice a6 n6 c6) now n).toList = wz at *
  obtain ⟨⟨g0, g1, g2, g3, g4, g5, g6, g7, g8, g9, g10, g11, g12, g13, g14⟩, _⟩ := fifteen HFIN.out.1
  refine bodyPost_ret (v := .tuple #[.agg (stS A rp (.slice a5 n5 c5) (.slice a6 n6 c6) now n), .bool true]) (by simp [results, Try.results58, go_sem, g0, g1, g2, g3, g4, g5, g6, g7, g8, g9, g10, g11, g12, g13, g14]) rfl ?_
  exact ⟨_, _, _, _, _, _, rfl, HFIN.out.2, HDC7.out, HAC.out⟩
end Go.Proofs.Ytcppibjllaablaa.egr

/-
  'Does' of layer 20's laws: no call.
-/
namespace Go.Proofs.Ytcppibjllaablaa.egr
open Go.RowKit mem
open Go.Proofs.Ytcppibjllaablaa.drr (plc plc_at plc_no plc_cases before_succ before_all)
set_option linter.unusedVariables false

set_option maxRecDepth 100000 in
set_option maxHeartbeats 8000000 in
theorem does0 (b : Nat) (w : World) (A : Ad) (k : Nat) (e : Eo) (al : Option Addr) (nl cl : Nat) (ar : Option Addr) (nr cr : Nat) (L : List Rf) (r : Eo) (now n : Int) (i : Nat) (kd id nn : Int) (ky vd : Bool) (h : Dv b w w A k e (.slice al nl cl) (.slice ar nr cr) L r now n) (c : Dc i k e r L now n) (hi : i ≤ 200) (k1 : (kd == 1) = false) (k2 : (kd == 2) = false) (k3 : (kd == 3) = false) (k4 : (kd == 4) = false) (k5 : (kd == 5) = false) (k6 : (kd == 6) = false) (k7 : (kd == 7) = false) :
    Calls Try.prog 27 #[.agg (stS A r (.slice al nl cl) (.slice ar nr cr) now n), .agg (acs ⟨kd, id, nn, ky, vd⟩)] w (Post b w A L r now n ⟨kd, id, nn, ky, vd⟩ i) := by
  have HDV := Lib.hid h
  have HDC := Lib.hid c
  have hii := hi
  have hbx := Cx.start w A r (.slice al nl cl) (.slice ar nr cr) now n ⟨kd, id, nn, ky, vd⟩
  have HBX := Lib.hid hbx
  have HB0 : Hid (b ≤ w.heap.size) := Lib.hid h.ru.base
  clear hbx h c
  go_enter Try.func27, Try.ntmps27
  go_upto_region 1 with fail
  refine (show Code.wp _ _ _ _ (((w.alloc (.cells (stS A r (.slice al nl cl) (.slice ar nr cr) now n) STT)).alloc (.cells (acs ⟨kd, id, nn, ky, vd⟩) ACT)).alloc (.cells z15 STT)) from ?_)
  generalize ((w.alloc (.cells (stS A r (.slice al nl cl) (.slice ar nr cr) now n) STT)).alloc (.cells (acs ⟨kd, id, nn, ky, vd⟩) ACT)).alloc (.cells z15 STT) = w1 at *
  generalize w.heap.size + 1 + 1 = pr at *
  generalize w.heap.size + 1 = pa at *
  obtain ⟨pb, hpb⟩ : ∃ pb, pb = w.heap.size := ⟨_, rfl⟩
  have HCX : Hid (Cx w w1 pb pa pr A r (.slice al nl cl) (.slice ar nr cr) now n ⟨kd, id, nn, ky, vd⟩) := Lib.hid (by rw [hpb]; exact HBX.out.1)
  rw [← hpb]
  clear hpb
  have HN1 : Hid (New w w1) := Lib.hid HBX.out.2
  clear HBX
  have HD1 := Lib.hid (HDV.out.later HN1.out)
  have a0 : w1.cell? ⟨pa, 0, none⟩ = some (.int .i64 kd) := HCX.out.a.cell 0
  have HDC7 : Hid (Dc (i + 1) k e r L now n) := Lib.hid (by
    have h1 := HDC.out
    exact ⟨by have := h1.k; omega, by have := h1.l; omega, by have := h1.s; omega, by have := h1.n0; omega, by have := h1.n1; push_cast; omega, h1.t0, by have := h1.t1; push_cast; omega, h1.r0, by have := h1.r1; push_cast; omega, h1.fr⟩)
  have HAC : Hid (ActR now n ⟨kd, id, nn, ky, vd⟩ L r L r now n []) := Lib.hid (ActR.no (a := ⟨kd, id, nn, ky, vd⟩) _ (.inl rfl) (fun h => by simp at k4; exact k4 h) (fun h => by simp at k3; exact k3 h))
  have hrb := HCX.out.lo.2.2.2.1
  have hrb' := hrb.symm
  obtain ⟨⟨s0, s1, s2, s3, s4, s5, s6, s7, s8, s9, s10, s11, s12, s13, s14⟩, _⟩ := fifteen HCX.out.b
  obtain ⟨⟨t0, t1, t2, t3, t4, t5, t6, t7, t8, t9, t10, t11, t12, t13, t14⟩, y0, y1, y2, y3, y4, y5, y6, y7, y8, y9, y10, y11, y12, y13, y14⟩ := fifteen HCX.out.r
  go_wp2_with fail
  refine (show bodyPost _ _ _ _ _ (puts w1 pr 0 (stS A r (.slice al nl cl) (.slice ar nr cr) now n).toList) from ?_)
  have hfin := HCX.out.fin HD1.out HB0.out (w9 := w1) (Turns.refl _ _)
  have HFIN := Lib.hid hfin
  clear hfin s0 s1 s2 s3 s4 s5 s6 s7 s8 s9 s10 s11 s12 s13 s14 t0 t1 t2 t3 t4 t5 t6 t7 t8 t9 t10 t11 t12 t13 t14 y0 y1 y2 y3 y4 y5 y6 y7 y8 y9 y10 y11 y12 y13 y14
  generalize puts w1 pr 0 (stS A r (.slice al nl cl) (.slice ar nr cr) now n).toList = wz at *
  obtain ⟨⟨g0, g1, g2, g3, g4, g5, g6, g7, g8, g9, g10, g11, g12, g13, g14⟩, _⟩ := fifteen HFIN.out.1
  refine bodyPost_ret (v := .tuple #[.agg (stS A r (.slice al nl cl) (.slice ar nr cr) now n), .slice none 0 0, .bool true]) (by simp [results, Try.results27, go_sem, g0, g1, g2, g3, g4, g5, g6, g7, g8, g9, g10, g11, g12, g13, g14]) rfl ?_
  exact ⟨_, _, _, _, _, _, _, _, _, [], rfl, HFIN.out.2, HDC7.out, HAC.out, TS.nil _ _ _⟩
end Go.Proofs.Ytcppibjllaablaa.egr

/-
  'Does' of layer 20's laws: a Put that is refused at once.
-/
namespace Go.Proofs.Ytcppibjllaablaa.egr
open Go.RowKit mem
open Go.Proofs.Ytcppibjllaablaa.drr (plc plc_at plc_no plc_cases before_succ before_all)
set_option linter.unusedVariables false

set_option maxRecDepth 100000 in
set_option maxHeartbeats 8000000 in
theorem does1_no (b : Nat) (w : World) (A : Ad) (k : Nat) (e : Eo) (al : Option Addr) (nl cl : Nat) (ar : Option Addr) (nr cr : Nat) (L : List Rf) (r : Eo) (now n : Int) (i : Nat) (id nn : Int) (ky vd : Bool) (h : Dv b w w A k e (.slice al nl cl) (.slice ar nr cr) L r now n) (c : Dc i k e r L now n) (hi : i ≤ 200) (i0 : -9223372036854775808 ≤ id) (i1 : id ≤ 9223372036854775807) (hno : (∀ f ∈ L, f.id ≠ id) ∨ ∃ (j : Nat) (f : Rf), L[j]? = some f ∧ f.id = id ∧ r.most < nn) :
    Calls Try.prog 27 #[.agg (stS A r (.slice al nl cl) (.slice ar nr cr) now n), .agg (acs ⟨1, id, nn, ky, vd⟩)] w (Post b w A L r now n ⟨1, id, nn, ky, vd⟩ i) := by
  have HPT : Hid (∀ W, Dv b w W A k e (.slice al nl cl) (.slice ar nr cr) L r now n → Calls Try.prog 51 #[.pointer (some ⟨A.o, 0, none⟩), .int .i64 id, .agg #[.int .i64 (n + 1), .int .i64 nn, .int .i64 now, .bool ky]] W fun x w' => x = .returned (.tuple #[.slice none 0 0, .bool false]) ∧ New W w') := Lib.hid (fun W hd => by
    rcases hno with hno | ⟨j, f, hf, rfl, hm⟩
    · exact put_none A k e id ⟨n + 1, nn, now, ky⟩ W hd.ru.es (hd.none hno) i0 i1
    · obtain ⟨g, hg, hgid, _⟩ := hd.flow hf
      have := put_great A k e g ⟨n + 1, nn, now, ky⟩ W hd.ru.es hg (by rw [hd.rq.most]; exact hm)
      rw [hgid] at this
      exact this)
  obtain ⟨pf, hpf⟩ : ∃ pf, plc L (fun g => g.id == id) = pf := ⟨_, rfl⟩
  have HPF : Hid (pf < 0 ∨ (0 ≤ pf ∧ r.most < nn)) := Lib.hid (by
    rcases hno with hno | ⟨j, f, hf, rfl, hm⟩
    · rw [find_not20 hno] at hpf
      exact .inl (by omega)
    · rw [find_is20 h.asc hf rfl] at hpf
      exact .inr ⟨by omega, hm⟩)
  have HPE := Lib.hid hpf
  clear hno hpf i0 i1
  have HDV := Lib.hid h
  have HDC := Lib.hid c
  have hii := hi
  have hbx := Cx.start w A r (.slice al nl cl) (.slice ar nr cr) now n ⟨1, id, nn, ky, vd⟩
  have HBX := Lib.hid hbx
  have HB0 : Hid (b ≤ w.heap.size) := Lib.hid h.ru.base
  clear hbx h c
  go_enter Try.func27, Try.ntmps27
  go_upto_region 1 with fail
  refine (show Code.wp _ _ _ _ (((w.alloc (.cells (stS A r (.slice al nl cl) (.slice ar nr cr) now n) STT)).alloc (.cells (acs ⟨1, id, nn, ky, vd⟩) ACT)).alloc (.cells z15 STT)) from ?_)
  generalize ((w.alloc (.cells (stS A r (.slice al nl cl) (.slice ar nr cr) now n) STT)).alloc (.cells (acs ⟨1, id, nn, ky, vd⟩) ACT)).alloc (.cells z15 STT) = w1 at *
  generalize w.heap.size + 1 + 1 = pr at *
  generalize w.heap.size + 1 = pa at *
  obtain ⟨pb, hpb⟩ : ∃ pb, pb = w.heap.size := ⟨_, rfl⟩
  have HCX : Hid (Cx w w1 pb pa pr A r (.slice al nl cl) (.slice ar nr cr) now n ⟨1, id, nn, ky, vd⟩) := Lib.hid (by rw [hpb]; exact HBX.out.1)
  rw [← hpb]
  clear hpb
  have HN1 : Hid (New w w1) := Lib.hid HBX.out.2
  clear HBX
  have HD1 := Lib.hid (HDV.out.later HN1.out)
  obtain ⟨⟨s0, s1, s2, s3, s4, s5, s6, s7, s8, s9, s10, s11, s12, s13, s14⟩, _⟩ := fifteen HCX.out.b
  obtain ⟨⟨_, _, _, _, _, _, _, _, _, _, _, _, _, _, _⟩, z0, z1, z2, z3, z4, z5, z6, z7, z8, z9, z10, z11, z12, z13, z14⟩ := fifteen HCX.out.b
  have a0 := HCX.out.a.cell 0
  have a1 := HCX.out.a.cell 1
  have a2 := HCX.out.a.cell 2
  have a3 := HCX.out.a.cell 3
  have hw1 : IntKind.i64.wrap (n + 1) = n + 1 := IntWalk.i64_in _ (by have := HDC.out.n0; have := HDC.out.n1; omega)
  have t2 : Turns (· = pb) w1 (w1.setCell ⟨pb, 14, none⟩ (.int .i64 (n + 1))) := (Turns.refl (· = pb) _).setCell (.inl rfl) _
  have HC2 : Hid (Cx w (w1.setCell ⟨pb, 14, none⟩ (.int .i64 (n + 1))) pb pa pr A r (.slice al nl cl) (.slice ar nr cr) now (n + 1) ⟨1, id, nn, ky, vd⟩) := Lib.hid (HCX.out.self t2 (HCX.out.b.set 14 _))
  have HD2 : Hid (Dv b w (w1.setCell ⟨pb, 14, none⟩ (.int .i64 (n + 1))) A k e (.slice al nl cl) (.slice ar nr cr) L r now n) := Lib.hid (HD1.out.off HCX.out.b HB0.out HCX.out.lo.1 t2 rfl)
  clear t2
  go_upto_region 4 with fail
  refine (show Code.wp _ _ _ _ (w1.setCell ⟨pb, 14, none⟩ (.int .i64 (n + 1))) from ?_)
  clear s0 s1 s2 s3 s4 s5 s6 s7 s8 s9 s10 s11 s12 s13 s14 z0 z1 z2 z3 z4 z5 z6 z7 z8 z9 z10 z11 z12 z13 z14 a0 a1 a2 a3
  generalize w1.setCell ⟨pb, 14, none⟩ (.int .i64 (n + 1)) = w2 at *
  obtain ⟨⟨s0, s1, s2, s3, s4, s5, s6, s7, s8, s9, s10, s11, s12, s13, s14⟩, _⟩ := fifteen HC2.out.b
  have a2 := HC2.out.a.cell 2
  have a3 := HC2.out.a.cell 3
  have HXB : Hid (Blk (w2.alloc (.cells #[.int .i64 (n + 1), .int .i64 nn, .int .i64 now, .bool ky] que.OT)) w2.heap.size #[.int .i64 (n + 1), .int .i64 nn, .int .i64 now, .bool ky] que.OT) := Lib.hid (Blk.new _ _ _)
  have N3 : New w2 (w2.alloc (.cells #[.int .i64 (n + 1), .int .i64 nn, .int .i64 now, .bool ky] que.OT)) := (Turns.refl _ _).alloc _
  have HC3 := Lib.hid (HC2.out.later N3)
  have HD3 := Lib.hid (HD2.out.later N3)
  clear N3
  go_upto_region 5 with fail
  refine (show Code.wp _ _ _ _ (w2.alloc (.cells #[.int .i64 (n + 1), .int .i64 nn, .int .i64 now, .bool ky] que.OT)) from ?_)
  clear s0 s1 s2 s3 s4 s5 s6 s7 s8 s9 s10 s11 s12 s13 s14 a2 a3
  generalize w2.alloc (.cells #[.int .i64 (n + 1), .int .i64 nn, .int .i64 now, .bool ky] que.OT) = w3 at *
  generalize w2.heap.size = px at *
  obtain ⟨⟨s0, s1, s2, s3, s4, s5, s6, s7, s8, s9, s10, s11, s12, s13, s14⟩, _⟩ := fifteen HC3.out.b
  have a1 : w3.cell? ⟨pa, 1, none⟩ = some (.int .i64 id) := HC3.out.a.cell 1
  obtain ⟨⟨x0, x1, x2, x3⟩, _⟩ := que.four HXB.out
  have HPW := Lib.hid (HPT.out w3 HD3.out)
  clear HPT
  go_wp2_with fail
  refine HPW.out.mono ?_
  rintro x4 w4 ⟨rfl, n4⟩
  have HC4 := Lib.hid (HC3.out.later n4)
  have HD4 := Lib.hid (HD3.out.later n4)
  have HX4 := Lib.hid (n4.blk HXB.out (fun h => h))
  clear s0 s1 s2 s3 s4 s5 s6 s7 s8 s9 s10 s11 s12 s13 s14 a1 x0 x1 x2 x3 n4 HPW
  obtain ⟨⟨s0, s1, s2, s3, s4, s5, s6, s7, s8, s9, s10, s11, s12, s13, s14⟩, _⟩ := fifteen HC4.out.b
  have a1 : w4.cell? ⟨pa, 1, none⟩ = some (.int .i64 id) := HC4.out.a.cell 1
  obtain ⟨⟨x0, x1, x2, x3⟩, _⟩ := que.four HX4.out
  have HRP := Lib.hid (rput_none al nl cl ar nr cr L r id ⟨n + 1, nn, now, ky⟩ pf w4 HD4.out.ro (by have := HDC.out.l; omega) HPE.out HPF.out)
  dsimp only at HRP
  go_wp2_with fail
  refine HRP.out.mono ?_
  rintro x5 w5 ⟨rfl, n5⟩
  have HC5 := Lib.hid (HC4.out.later n5)
  have HD5 := Lib.hid (HD4.out.later n5)
  clear s0 s1 s2 s3 s4 s5 s6 s7 s8 s9 s10 s11 s12 s13 s14 a1 x0 x1 x2 x3 n5 HRP
  have HYB : Hid (Blk (w5.alloc (.cells (rO r (.slice al nl cl) (.slice ar nr cr)) RT20)) w5.heap.size (rO r (.slice al nl cl) (.slice ar nr cr)) RT20) := Lib.hid (Blk.new _ _ _)
  have HNY : Hid (New w5 (w5.alloc (.cells (rO r (.slice al nl cl) (.slice ar nr cr)) RT20))) := Lib.hid ((Turns.refl _ _).alloc _)
  go_upto_region 7 with fail
  refine (show Code.wp _ _ _ _ (w5.alloc (.cells (rO r (.slice al nl cl) (.slice ar nr cr)) RT20)) from ?_)
  have hyp : w5.heap.size ≠ pb := Nat.ne_of_gt HC5.out.b.lt
  generalize w5.alloc (.cells (rO r (.slice al nl cl) (.slice ar nr cr)) RT20) = w6 at *
  generalize w5.heap.size = py at *
  have HC6 := Lib.hid (HC5.out.later HNY.out)
  obtain ⟨⟨s0, s1, s2, s3, s4, s5, s6, s7, s8, s9, s10, s11, s12, s13, s14⟩, z0, z1, z2, z3, z4, z5, z6, z7, z8, z9, z10, z11, z12, z13, z14⟩ := fifteen HC6.out.b
  obtain ⟨⟨k0, k1, k2, k3, k4, k5, k6, k7, k8, k9, k10, k11⟩, _⟩ := twelve HYB.out
  have HT7 : Hid (Turns (· = pb) w6 (puts w6 pb 1 [.int .i64 r.frames, .int .i64 r.bytes, .int .i64 r.age, .int .i64 r.most, .int .i64 r.guard, (.slice al nl cl), .int .i64 r.s.most, (.slice ar nr cr), .int .i64 r.s.turn, .bool r.s.g, .int .i64 r.credit, .int .i64 r.row])) := Lib.hid (puts_turns (S := (· = pb)) (p := pb) (.inl rfl) [.int .i64 r.frames, .int .i64 r.bytes, .int .i64 r.age, .int .i64 r.most, .int .i64 r.guard, (.slice al nl cl), .int .i64 r.s.most, (.slice ar nr cr), .int .i64 r.s.turn, .bool r.s.g, .int .i64 r.credit, .int .i64 r.row] 1 w6 (Turns.refl _ _))
  have hb7 : Blk (puts w6 pb 1 [.int .i64 r.frames, .int .i64 r.bytes, .int .i64 r.age, .int .i64 r.most, .int .i64 r.guard, (.slice al nl cl), .int .i64 r.s.most, (.slice ar nr cr), .int .i64 r.s.turn, .bool r.s.g, .int .i64 r.credit, .int .i64 r.row]) pb (stS A r (.slice al nl cl) (.slice ar nr cr) now (n + 1)) STT := puts_over [.int .i64 r.frames, .int .i64 r.bytes, .int .i64 r.age, .int .i64 r.most, .int .i64 r.guard, (.slice al nl cl), .int .i64 r.s.most, (.slice ar nr cr), .int .i64 r.s.turn, .bool r.s.g, .int .i64 r.credit, .int .i64 r.row] 1 _ _ HC6.out.b
  have HC7 : Hid (Cx w (puts w6 pb 1 [.int .i64 r.frames, .int .i64 r.bytes, .int .i64 r.age, .int .i64 r.most, .int .i64 r.guard, (.slice al nl cl), .int .i64 r.s.most, (.slice ar nr cr), .int .i64 r.s.turn, .bool r.s.g, .int .i64 r.credit, .int .i64 r.row]) pb pa pr A r (.slice al nl cl) (.slice ar nr cr) now (n + 1) ⟨1, id, nn, ky, vd⟩) := Lib.hid (HC6.out.self HT7.out hb7)
  clear hb7
  go_upto_region 8 with fail
  refine (show Code.wp _ _ _ _ (puts w6 pb 1 [.int .i64 r.frames, .int .i64 r.bytes, .int .i64 r.age, .int .i64 r.most, .int .i64 r.guard, (.slice al nl cl), .int .i64 r.s.most, (.slice ar nr cr), .int .i64 r.s.turn, .bool r.s.g, .int .i64 r.credit, .int .i64 r.row]) from ?_)
  clear s0 s1 s2 s3 s4 s5 s6 s7 s8 s9 s10 s11 s12 s13 s14 z0 z1 z2 z3 z4 z5 z6 z7 z8 z9 z10 z11 z12 z13 z14 k0 k1 k2 k3 k4 k5 k6 k7 k8 k9 k10 k11 hyp
  generalize puts w6 pb 1 [.int .i64 r.frames, .int .i64 r.bytes, .int .i64 r.age, .int .i64 r.most, .int .i64 r.guard, (.slice al nl cl), .int .i64 r.s.most, (.slice ar nr cr), .int .i64 r.s.turn, .bool r.s.g, .int .i64 r.credit, .int .i64 r.row] = w7 at *
  have HDV7 : Hid (Dv b w w7 A k e (.slice al nl cl) (.slice ar nr cr) L r now (n + 1)) := Lib.hid (by
    have h6 := (HD5.out.later HNY.out).off HC6.out.b HB0.out HC6.out.lo.1 HT7.out rfl
    exact ⟨h6.ru, h6.ro, h6.asc, h6.sa, h6.sp, h6.rq, h6.tk⟩)
  have HSM := Lib.hid (fun W (N : New w7 W) => same (.slice none 0 0) (.slice none 0 0) [] W (Sub.nil _ _ _) (Sub.nil _ _ _) (by decide))
  have HDC7 : Hid (Dc (i + 1) k e r L now (n + 1)) := Lib.hid (by
    have h1 := HDC.out
    exact ⟨by have := h1.k; omega, by have := h1.l; omega, by have := h1.s; omega, by have := h1.n0; omega, by have := h1.n1; push_cast; omega, h1.t0, by have := h1.t1; push_cast; omega, h1.r0, by have := h1.r1; push_cast; omega, h1.fr⟩)
  have HAC : Hid (ActR now n ⟨1, id, nn, ky, vd⟩ L r L r now (n + 1) []) := Lib.hid (ActR.no (a := ⟨1, id, nn, ky, vd⟩) _ (.inr rfl) (fun h => by cases h) (fun h => by cases h))
  clear HD1 HC2 HD2 HXB HC3 HD3 HC4 HX4 HC5 HT7 HNY HC6 HYB HDV HDC HD4 HD5
  have hrb := HC7.out.lo.2.2.2.1
  have hpl8 := HC7.out.b.lt
  obtain ⟨⟨s0, s1, s2, s3, s4, s5, s6, s7, s8, s9, s10, s11, s12, s13, s14⟩, _⟩ := fifteen HC7.out.b
  obtain ⟨⟨t0, t1, t2, t3, t4, t5, t6, t7, t8, t9, t10, t11, t12, t13, t14⟩, y0, y1, y2, y3, y4, y5, y6, y7, y8, y9, y10, y11, y12, y13, y14⟩ := fifteen HC7.out.r
  have HH : HeldS w7 w7 pr pb (.pointer (some ⟨A.o, 0, none⟩)) (.int .i64 r.frames) (.int .i64 r.bytes) (.int .i64 r.age) (.int .i64 r.most) (.int .i64 r.guard) ((.slice al nl cl)) (.int .i64 r.s.most) ((.slice ar nr cr)) (.int .i64 r.s.turn) (.bool r.s.g) (.int .i64 r.credit) (.int .i64 r.row) (.int .i64 now) (.int .i64 (n + 1)) := ⟨Turns.refl _ _, hpl8, s0, s1, s2, s3, s4, s5, s6, s7, s8, s9, s10, s11, s12, s13, s14⟩
  clear s0 s1 s2 s3 s4 s5 s6 s7 s8 s9 s10 s11 s12 s13 s14
  have HH2 := HH
  obtain ⟨_, _, s0, s1, s2, s3, s4, s5, s6, s7, s8, s9, s10, s11, s12, s13, s14⟩ := HH2
  first
    | go_region_held (fun w' => Turns (· = pr) w7 w' ∧ pb < w'.heap.size ∧ w'.cell? ⟨pb, 0, none⟩ = some (.pointer (some ⟨A.o, 0, none⟩)) ∧ w'.cell? ⟨pb, 1, none⟩ = some (.int .i64 r.frames) ∧ w'.cell? ⟨pb, 2, none⟩ = some (.int .i64 r.bytes) ∧ w'.cell? ⟨pb, 3, none⟩ = some (.int .i64 r.age) ∧ w'.cell? ⟨pb, 4, none⟩ = some (.int .i64 r.most) ∧ w'.cell? ⟨pb, 5, none⟩ = some (.int .i64 r.guard) ∧ w'.cell? ⟨pb, 6, none⟩ = some ((.slice al nl cl)) ∧ w'.cell? ⟨pb, 7, none⟩ = some (.int .i64 r.s.most) ∧ w'.cell? ⟨pb, 8, none⟩ = some ((.slice ar nr cr)) ∧ w'.cell? ⟨pb, 9, none⟩ = some (.int .i64 r.s.turn) ∧ w'.cell? ⟨pb, 10, none⟩ = some (.bool r.s.g) ∧ w'.cell? ⟨pb, 11, none⟩ = some (.int .i64 r.credit) ∧ w'.cell? ⟨pb, 12, none⟩ = some (.int .i64 r.row) ∧ w'.cell? ⟨pb, 13, none⟩ = some (.int .i64 now) ∧ w'.cell? ⟨pb, 14, none⟩ = some (.int .i64 (n + 1)))
        (first
          | (with_reducible assumption)
          | ((with_reducible refine heldS_drew ?_); with_reducible assumption)
          | ((with_reducible refine heldS_new (by with_reducible assumption) hrb ?_); with_reducible assumption)
          | ((with_reducible refine heldS_store hrb _ _ _ _ _ _ _ _ _ _ _ _ _ _ _ ?_); with_reducible assumption))
        ((go_at_call 55; (with_reducible refine Calls.mono (HSM.out _ ?_) ?_); (focus (repeat (first | exact Turns.refl _ _ | with_reducible apply Turns.drew))); rintro x9 w9 ⟨rfl, n9⟩; have hr9 : Blk w9 pr z15 STT := n9.blk HC7.out.r (fun h => h); obtain ⟨⟨t'0, t'1, t'2, t'3, t'4, t'5, t'6, t'7, t'8, t'9, t'10, t'11, t'12, t'13, t'14⟩, y'0, y'1, y'2, y'3, y'4, y'5, y'6, y'7, y'8, y'9, y'10, y'11, y'12, y'13, y'14⟩ := fifteen hr9))
    | skip
  all_goals
    go_wp2_with fail
    refine (show bodyPost _ _ _ _ _ (puts w9 pr 0 (stS A r (.slice al nl cl) (.slice ar nr cr) now (n + 1)).toList) from ?_)
    have hfin := HC7.out.fin HDV7.out HB0.out (w9 := w9) (by first | exact n9 | exact Turns.of_drew n9 | exact Turns.of_drew (Turns.of_drew n9))
    have HFIN := Lib.hid hfin
    clear hfin s0 s1 s2 s3 s4 s5 s6 s7 s8 s9 s10 s11 s12 s13 s14 t0 t1 t2 t3 t4 t5 t6 t7 t8 t9 t10 t11 t12 t13 t14 y0 y1 y2 y3 y4 y5 y6 y7 y8 y9 y10 y11 y12 y13 y14
    generalize puts w9 pr 0 (stS A r (.slice al nl cl) (.slice ar nr cr) now (n + 1)).toList = wz at *
    obtain ⟨⟨g0, g1, g2, g3, g4, g5, g6, g7, g8, g9, g10, g11, g12, g13, g14⟩, _⟩ := fifteen HFIN.out.1
    refine bodyPost_ret (v := .tuple #[.agg (stS A r (.slice al nl cl) (.slice ar nr cr) now (n + 1)), .slice none 0 0, .bool true]) (by simp [results, Try.results27, go_sem, g0, g1, g2, g3, g4, g5, g6, g7, g8, g9, g10, g11, g12, g13, g14]) rfl ?_
    exact ⟨_, _, _, _, _, _, _, _, _, [], rfl, HFIN.out.2, HDC7.out, HAC.out, TS.nil _ _ _⟩
end Go.Proofs.Ytcppibjllaablaa.egr

/-
  'Does' of layer 20's laws: Spend and Grant.
-/
namespace Go.Proofs.Ytcppibjllaablaa.egr
open Go.RowKit mem
open Go.Proofs.Ytcppibjllaablaa.drr (plc plc_at plc_no plc_cases before_succ before_all)
set_option linter.unusedVariables false

theorem Dv.cred {b : Nat} {w wr w2 : World} {A : Ad} {k : Nat} {e r : Eo} {vL vS : Value} {L : List Rf} {now n c : Int} (h : Dv b w wr A k e vL vS L r now n) (hes : Es w2 A k (⟨e.frames, e.bytes, e.age, e.most, e.guard, c, e.row, e.L, e.s⟩ : Eo)) (t : Turns (· = A.o) wr w2) : Dv b w w2 A k (⟨e.frames, e.bytes, e.age, e.most, e.guard, c, e.row, e.L, e.s⟩ : Eo) vL vS L (⟨r.frames, r.bytes, r.age, r.most, r.guard, c, r.row, r.L, r.s⟩ : Eo) now n := by
  have hq := h.rq
  have hsf : Sf b A wr w2 := Sf.out h.ru.es h.ru.lo t
  have hro := hsf.ro h.ro
  exact ⟨h.ru.grant hes t, ⟨hro.l, hro.q, hro.s, hro.e, hro.b⟩, h.asc, h.sa, h.sp, ⟨hq.frames, hq.bytes, hq.age, hq.most, hq.guard, rfl, hq.row, hq.fl, hq.s⟩, h.tk⟩
set_option maxRecDepth 100000 in
set_option maxHeartbeats 8000000 in
theorem does2 (b : Nat) (w : World) (A : Ad) (k : Nat) (e : Eo) (al : Option Addr) (nl cl : Nat) (ar : Option Addr) (nr cr : Nat) (L : List Rf) (r : Eo) (now n : Int) (i : Nat) (id nn : Int) (ky vd : Bool) (h : Dv b w w A k e (.slice al nl cl) (.slice ar nr cr) L r now n) (c : Dc i k e r L now n) (hi : i ≤ 200) (n0 : -9223372036854775808 ≤ nn) (n1 : nn ≤ 9223372036854775807) :
    Calls Try.prog 27 #[.agg (stS A r (.slice al nl cl) (.slice ar nr cr) now n), .agg (acs ⟨2, id, nn, ky, vd⟩)] w (Post b w A L r now n ⟨2, id, nn, ky, vd⟩ i) := by
  have HNN := Lib.hid (And.intro n0 n1)
  have HCD := Lib.hid (And.intro h.rq.credit (And.intro h.ru.es.cf.c0 h.ru.es.cf.c1))
  clear n0 n1
  have HDV := Lib.hid h
  have HDC := Lib.hid c
  have hii := hi
  have hbx := Cx.start w A r (.slice al nl cl) (.slice ar nr cr) now n ⟨2, id, nn, ky, vd⟩
  have HBX := Lib.hid hbx
  have HB0 : Hid (b ≤ w.heap.size) := Lib.hid h.ru.base
  clear hbx h c
  go_enter Try.func27, Try.ntmps27
  go_upto_region 1 with fail
  refine (show Code.wp _ _ _ _ (((w.alloc (.cells (stS A r (.slice al nl cl) (.slice ar nr cr) now n) STT)).alloc (.cells (acs ⟨2, id, nn, ky, vd⟩) ACT)).alloc (.cells z15 STT)) from ?_)
  generalize ((w.alloc (.cells (stS A r (.slice al nl cl) (.slice ar nr cr) now n) STT)).alloc (.cells (acs ⟨2, id, nn, ky, vd⟩) ACT)).alloc (.cells z15 STT) = w1 at *
  generalize w.heap.size + 1 + 1 = pr at *
  generalize w.heap.size + 1 = pa at *
  obtain ⟨pb, hpb⟩ : ∃ pb, pb = w.heap.size := ⟨_, rfl⟩
  have HCX : Hid (Cx w w1 pb pa pr A r (.slice al nl cl) (.slice ar nr cr) now n ⟨2, id, nn, ky, vd⟩) := Lib.hid (by rw [hpb]; exact HBX.out.1)
  rw [← hpb]
  clear hpb
  have HN1 : Hid (New w w1) := Lib.hid HBX.out.2
  clear HBX
  have HD1 := Lib.hid (HDV.out.later HN1.out)
  obtain ⟨⟨s0, s1, s2, s3, s4, s5, s6, s7, s8, s9, s10, s11, s12, s13, s14⟩, _⟩ := fifteen HCX.out.b
  have a0 : w1.cell? ⟨pa, 0, none⟩ = some (.int .i64 2) := HCX.out.a.cell 0
  have a1 : w1.cell? ⟨pa, 1, none⟩ = some (.int .i64 id) := HCX.out.a.cell 1
  have a3 : w1.cell? ⟨pa, 3, none⟩ = some (.bool ky) := HCX.out.a.cell 3
  go_upto_region 10 with fail
  go_cut [73] (fun v wx => v = .bool ky ∧ w1 = wx)
  case first =>
    go_wp2_with fail
    go_meet
    case rel => exact ⟨rfl, rfl⟩
  case rest =>
  obtain ⟨rfl, rfl⟩ := hcut
  go_upto_if 73 with fail
  go_cut [13] (fun v13 wx => ∃ c1 : Int, c1 = (if ky = true ∧ 0 ≤ id ∧ id ≤ r.credit then r.credit - id else r.credit) ∧ Cx w wx pb pa pr A (⟨r.frames, r.bytes, r.age, r.most, r.guard, c1, r.row, r.L, r.s⟩ : Eo) (.slice al nl cl) (.slice ar nr cr) now n ⟨2, id, nn, ky, vd⟩ ∧ Dv b w wx A k (⟨e.frames, e.bytes, e.age, e.most, e.guard, c1, e.row, e.L, e.s⟩ : Eo) (.slice al nl cl) (.slice ar nr cr) L (⟨r.frames, r.bytes, r.age, r.most, r.guard, c1, r.row, r.L, r.s⟩ : Eo) now n)
  case first =>
    cases ky with
    | false =>
      have HK : Hid (∃ c1 : Int, c1 = (if false = true ∧ 0 ≤ id ∧ id ≤ r.credit then r.credit - id else r.credit) ∧ Cx w w1 pb pa pr A (⟨r.frames, r.bytes, r.age, r.most, r.guard, c1, r.row, r.L, r.s⟩ : Eo) (.slice al nl cl) (.slice ar nr cr) now n ⟨2, id, nn, false, vd⟩ ∧ Dv b w w1 A k (⟨e.frames, e.bytes, e.age, e.most, e.guard, c1, e.row, e.L, e.s⟩ : Eo) (.slice al nl cl) (.slice ar nr cr) L (⟨r.frames, r.bytes, r.age, r.most, r.guard, c1, r.row, r.L, r.s⟩ : Eo) now n) := Lib.hid ⟨r.credit, by rw [if_neg (by simp)], HCX.out, by
        have hc := HCD.out.1
        have hd := HD1.out
        exact ⟨by rw [← hc]; exact hd.ru, ⟨hd.ro.l, hd.ro.q, hd.ro.s, hd.ro.e, hd.ro.b⟩, hd.asc, hd.sa, hd.sp, by rw [← hc]; exact ⟨hd.rq.frames, hd.rq.bytes, hd.rq.age, hd.rq.most, hd.rq.guard, rfl, hd.rq.row, hd.rq.fl, hd.rq.s⟩, hd.tk⟩⟩
      go_wp2_with fail
      go_meet
      case rel => exact HK.out
    | true =>
      by_cases hs : 0 ≤ id ∧ id ≤ r.credit
      · have HSP := Lib.hid (spend A k e id w1 HD1.out.ru.es hs.1 (by rw [HCD.out.1]; exact hs.2))
        have HS := Lib.hid hs
        have d1 : decide (0 ≤ id) = true := decide_eq_true hs.1
        have d2 : decide (id ≤ r.credit) = true := decide_eq_true hs.2
        have d3 : 0 ≤ id := hs.1
        have d4 : id ≤ r.credit := hs.2
        clear hs
        go_upto_region 11 with fail
        go_wp2_with fail
        refine HSP.out.mono ?_
        rintro x2 w2 ⟨rfl, hes2, ht2⟩
        have HD2 : Hid (Dv b w w2 A k (⟨e.frames, e.bytes, e.age, e.most, e.guard, (e.credit - id), e.row, e.L, e.s⟩ : Eo) (.slice al nl cl) (.slice ar nr cr) L (⟨r.frames, r.bytes, r.age, r.most, r.guard, (r.credit - id), r.row, r.L, r.s⟩ : Eo) now n) := Lib.hid (by
          have hc := HCD.out.1
          have := HD1.out.cred (c := e.credit - id) hes2 ht2
          rw [hc] at this ⊢
          exact this)
        have HC2 : Hid (Cx w w2 pb pa pr A r (.slice al nl cl) (.slice ar nr cr) now n ⟨2, id, nn, true, vd⟩) := Lib.hid (HCX.out.sf (Sf.out HD1.out.ru.es HD1.out.ru.lo ht2))
        clear s0 s1 s2 s3 s4 s5 s6 s7 s8 s9 s10 s11 s12 s13 s14 a1 a3 hes2 ht2 HSP
        obtain ⟨⟨s0, s1, s2, s3, s4, s5, s6, s7, s8, s9, s10, s11, s12, s13, s14⟩, z0, z1, z2, z3, z4, z5, z6, z7, z8, z9, z10, z11, z12, z13, z14⟩ := fifteen HC2.out.b
        have a1 : w2.cell? ⟨pa, 1, none⟩ = some (.int .i64 id) := HC2.out.a.cell 1
        have hw1 : IntKind.i64.wrap (r.credit - id) = r.credit - id := IntWalk.i64_in _ (by have := HCD.out; omega)
        have t3 : Turns (· = pb) w2 (w2.setCell ⟨pb, 11, none⟩ (.int .i64 (r.credit - id))) := (Turns.refl (· = pb) _).setCell (.inl rfl) _
        have HK : Hid (∃ c1 : Int, c1 = (if true = true ∧ 0 ≤ id ∧ id ≤ r.credit then r.credit - id else r.credit) ∧ Cx w (w2.setCell ⟨pb, 11, none⟩ (.int .i64 (r.credit - id))) pb pa pr A (⟨r.frames, r.bytes, r.age, r.most, r.guard, c1, r.row, r.L, r.s⟩ : Eo) (.slice al nl cl) (.slice ar nr cr) now n ⟨2, id, nn, true, vd⟩ ∧ Dv b w (w2.setCell ⟨pb, 11, none⟩ (.int .i64 (r.credit - id))) A k (⟨e.frames, e.bytes, e.age, e.most, e.guard, c1, e.row, e.L, e.s⟩ : Eo) (.slice al nl cl) (.slice ar nr cr) L (⟨r.frames, r.bytes, r.age, r.most, r.guard, c1, r.row, r.L, r.s⟩ : Eo) now n) := Lib.hid ⟨r.credit - id, by rw [if_pos ⟨rfl, HS.out⟩], HC2.out.self t3 (HC2.out.b.set 11 _), by
          have hc := HCD.out.1
          have := HD2.out.off HC2.out.b HB0.out HC2.out.lo.1 t3 rfl
          rw [hc] at this
          exact this⟩
        clear t3
        go_wp2_with fail
        go_meet
        case rel => exact HK.out
      · have HSP := Lib.hid (spend_no A k e id w1 HD1.out.ru.es (by rw [HCD.out.1]; omega))
        have HS := Lib.hid hs
        have HK : Hid (∃ c1 : Int, c1 = (if true = true ∧ 0 ≤ id ∧ id ≤ r.credit then r.credit - id else r.credit) ∧ Cx w w1 pb pa pr A (⟨r.frames, r.bytes, r.age, r.most, r.guard, c1, r.row, r.L, r.s⟩ : Eo) (.slice al nl cl) (.slice ar nr cr) now n ⟨2, id, nn, true, vd⟩ ∧ Dv b w w1 A k (⟨e.frames, e.bytes, e.age, e.most, e.guard, c1, e.row, e.L, e.s⟩ : Eo) (.slice al nl cl) (.slice ar nr cr) L (⟨r.frames, r.bytes, r.age, r.most, r.guard, c1, r.row, r.L, r.s⟩ : Eo) now n) := Lib.hid ⟨r.credit, by rw [if_neg (fun h => HS.out h.2)], HCX.out, by
          have hc := HCD.out.1
          have hd := HD1.out
          exact ⟨by rw [← hc]; exact hd.ru, ⟨hd.ro.l, hd.ro.q, hd.ro.s, hd.ro.e, hd.ro.b⟩, hd.asc, hd.sa, hd.sp, by rw [← hc]; exact ⟨hd.rq.frames, hd.rq.bytes, hd.rq.age, hd.rq.most, hd.rq.guard, rfl, hd.rq.row, hd.rq.fl, hd.rq.s⟩, hd.tk⟩⟩
        clear hs
        by_cases hz : 0 ≤ id
        · have d1 : decide (0 ≤ id) = true := decide_eq_true hz
          have d2 : decide (id ≤ r.credit) = false := decide_eq_false (fun h => HS.out ⟨hz, h⟩)
          go_wp2_with fail
          refine HSP.out.mono ?_
          rintro x2 w2 ⟨rfl, hw2⟩
          subst hw2
          go_wp2_with fail
          go_meet
          case rel => exact HK.out
        · have d1 : decide (0 ≤ id) = false := decide_eq_false hz
          go_wp2_with fail
          refine HSP.out.mono ?_
          rintro x2 w2 ⟨rfl, hw2⟩
          subst hw2
          go_wp2_with fail
          go_meet
          case rel => exact HK.out
  case rest =>
    obtain ⟨c1, hc1, hcx, hdv⟩ := hcut
    have HC1 := Lib.hid hc1
    have HCW := Lib.hid hcx
    have HDW := Lib.hid hdv
    have HCC : Hid (0 ≤ c1 ∧ c1 ≤ 1099511627776) := Lib.hid ⟨hdv.ru.es.cf.c0, hdv.ru.es.cf.c1⟩
    clear hc1 hcx hdv s0 s1 s2 s3 s4 s5 s6 s7 s8 s9 s10 s11 s12 s13 s14 a0 a1 a3
    obtain ⟨⟨s0, s1, s2, s3, s4, s5, s6, s7, s8, s9, s10, s11, s12, s13, s14⟩, _⟩ := fifteen HCW.out.b
    have a2 : wc.cell? ⟨pa, 2, none⟩ = some (.int .i64 nn) := HCW.out.a.cell 2
    have HGR := Lib.hid (grant A k (⟨e.frames, e.bytes, e.age, e.most, e.guard, c1, e.row, e.L, e.s⟩ : Eo) nn wc HDW.out.ru.es HNN.out.1 HNN.out.2)
    go_upto_region 16 with fail
    go_wp2_with fail
    refine HGR.out.mono ?_
    rintro x5 w5 ⟨rfl, hes5, ht5⟩
    have HD5 : Hid (Dv b w w5 A k (⟨e.frames, e.bytes, e.age, e.most, e.guard, (grantI c1 nn), e.row, e.L, e.s⟩ : Eo) (.slice al nl cl) (.slice ar nr cr) L (⟨r.frames, r.bytes, r.age, r.most, r.guard, (grantI c1 nn), r.row, r.L, r.s⟩ : Eo) now n) := Lib.hid (HDW.out.cred (c := grantI c1 nn) hes5 ht5)
    have HC5 : Hid (Cx w w5 pb pa pr A (⟨r.frames, r.bytes, r.age, r.most, r.guard, c1, r.row, r.L, r.s⟩ : Eo) (.slice al nl cl) (.slice ar nr cr) now n ⟨2, id, nn, ky, vd⟩) := Lib.hid (HCW.out.sf (Sf.out HDW.out.ru.es HDW.out.ru.lo ht5))
    clear s0 s1 s2 s3 s4 s5 s6 s7 s8 s9 s10 s11 s12 s13 s14 a2 hes5 ht5 HGR
    obtain ⟨⟨s0, s1, s2, s3, s4, s5, s6, s7, s8, s9, s10, s11, s12, s13, s14⟩, z0, z1, z2, z3, z4, z5, z6, z7, z8, z9, z10, z11, z12, z13, z14⟩ := fifteen HC5.out.b
    have a2 : w5.cell? ⟨pa, 2, none⟩ = some (.int .i64 nn) := HC5.out.a.cell 2
    obtain ⟨g1, hg1⟩ : ∃ g1, g1 = grantI c1 nn := ⟨_, rfl⟩
    have m1 : IntKind.i64.wrap (c1 + min (max nn 0) 1099511627776) = c1 + min (max nn 0) 1099511627776 := IntWalk.i64_in _ (by have := HCC.out; omega)
    have m2 : min (c1 + min (max nn 0) 1099511627776) 1099511627776 = g1 := by rw [hg1]; unfold grantI; have := HCC.out; omega
    rw [← hg1] at HD5
    have HG1 := Lib.hid hg1
    clear hg1
    have t6 : Turns (· = pb) w5 (w5.setCell ⟨pb, 11, none⟩ (.int .i64 g1)) := (Turns.refl (· = pb) _).setCell (.inl rfl) _
    have HC6 : Hid (Cx w (w5.setCell ⟨pb, 11, none⟩ (.int .i64 g1)) pb pa pr A (⟨r.frames, r.bytes, r.age, r.most, r.guard, g1, r.row, r.L, r.s⟩ : Eo) (.slice al nl cl) (.slice ar nr cr) now n ⟨2, id, nn, ky, vd⟩) := Lib.hid (HC5.out.self t6 (HC5.out.b.set 11 _))
    have HD6 : Hid (Dv b w (w5.setCell ⟨pb, 11, none⟩ (.int .i64 g1)) A k (⟨e.frames, e.bytes, e.age, e.most, e.guard, g1, e.row, e.L, e.s⟩ : Eo) (.slice al nl cl) (.slice ar nr cr) L (⟨r.frames, r.bytes, r.age, r.most, r.guard, g1, r.row, r.L, r.s⟩ : Eo) now n) := Lib.hid (HD5.out.off HC5.out.b HB0.out HC5.out.lo.1 t6 rfl)
    clear t6
    go_upto_region 34 with fail
    refine (show Code.wp _ _ _ _ (w5.setCell ⟨pb, 11, none⟩ (.int .i64 g1)) from ?_)
    clear s0 s1 s2 s3 s4 s5 s6 s7 s8 s9 s10 s11 s12 s13 s14 z0 z1 z2 z3 z4 z5 z6 z7 z8 z9 z10 z11 z12 z13 z14 a2 m1 m2
    generalize w5.setCell ⟨pb, 11, none⟩ (.int .i64 g1) = w6 at *
    have HDC7 : Hid (Dc (i + 1) k (⟨e.frames, e.bytes, e.age, e.most, e.guard, g1, e.row, e.L, e.s⟩ : Eo) (⟨r.frames, r.bytes, r.age, r.most, r.guard, g1, r.row, r.L, r.s⟩ : Eo) L now n) := Lib.hid (by
      have h1 := HDC.out
      exact ⟨by have := h1.k; omega, by have := h1.l; omega, by have := h1.s; show r.s.L.length ≤ _; omega, by have := h1.n0; omega, by have := h1.n1; push_cast; omega, h1.t0, by have := h1.t1; push_cast; omega, h1.r0, by have := h1.r1; show e.row ≤ _; push_cast; omega, h1.fr⟩)
    have HAC : Hid (ActR now n ⟨2, id, nn, ky, vd⟩ L r L (⟨r.frames, r.bytes, r.age, r.most, r.guard, g1, r.row, r.L, r.s⟩ : Eo) now n []) := Lib.hid (ActR.cred (a := ⟨2, id, nn, ky, vd⟩) g1 rfl (by rw [HG1.out, HC1.out]))
    obtain ⟨rp, hrp⟩ : ∃ rp : Eo, rp = (⟨r.frames, r.bytes, r.age, r.most, r.guard, g1, r.row, r.L, r.s⟩ : Eo) := ⟨_, rfl⟩
    rw [← hrp] at HDC7 HAC HC6 HD6
    clear hrp
    have hrb := HC6.out.lo.2.2.2.1
    have hrb' := hrb.symm
    obtain ⟨⟨s0, s1, s2, s3, s4, s5, s6, s7, s8, s9, s10, s11, s12, s13, s14⟩, _⟩ := fifteen HC6.out.b
    obtain ⟨⟨t0, t1, t2, t3, t4, t5, t6, t7, t8, t9, t10, t11, t12, t13, t14⟩, y0, y1, y2, y3, y4, y5, y6, y7, y8, y9, y10, y11, y12, y13, y14⟩ := fifteen HC6.out.r
    go_wp2_with fail
    refine (show bodyPost _ _ _ _ _ (puts w6 pr 0 (stS A rp (.slice al nl cl) (.slice ar nr cr) now n).toList) from ?_)
    have hfin := HC6.out.fin HD6.out HB0.out (w9 := w6) (Turns.refl _ _)
    have HFIN := Lib.hid hfin
    clear hfin s0 s1 s2 s3 s4 s5 s6 s7 s8 s9 s10 s11 s12 s13 s14 t0 t1 t2 t3 t4 t5 t6 t7 t8 t9 t10 t11 t12 t13 t14 y0 y1 y2 y3 y4 y5 y6 y7 y8 y9 y10 y11 y12 y13 y14
    generalize puts w6 pr 0 (stS A rp (.slice al nl cl) (.slice ar nr cr) now n).toList = wz at *
    obtain ⟨⟨g0, g1, g2, g3, g4, g5, g6, g7, g8, g9, g10, g11, g12, g13, g14⟩, _⟩ := fifteen HFIN.out.1
    refine bodyPost_ret (v := .tuple #[.agg (stS A rp (.slice al nl cl) (.slice ar nr cr) now n), .slice none 0 0, .bool true]) (by simp [results, Try.results27, go_sem, g0, g1, g2, g3, g4, g5, g6, g7, g8, g9, g10, g11, g12, g13, g14]) rfl ?_
    exact ⟨_, _, _, _, _, _, _, _, _, [], rfl, HFIN.out.2, HDC7.out, HAC.out, TS.nil _ _ _⟩
end Go.Proofs.Ytcppibjllaablaa.egr

/-
  'Does' of layer 20's laws: Run.
-/
namespace Go.Proofs.Ytcppibjllaablaa.egr
open Go.RowKit mem
open Go.Proofs.Ytcppibjllaablaa.drr (plc plc_at plc_no plc_cases before_succ before_all)
set_option linter.unusedVariables false

set_option maxRecDepth 100000 in
set_option maxHeartbeats 8000000 in
theorem does3 (b : Nat) (w : World) (A : Ad) (k : Nat) (e : Eo) (al : Option Addr) (nl cl : Nat) (ar : Option Addr) (nr cr : Nat) (L : List Rf) (r : Eo) (now n : Int) (i : Nat) (id nn : Int) (ky vd : Bool) (h : Dv b w w A k e (.slice al nl cl) (.slice ar nr cr) L r now n) (c : Dc i k e r L now n) (hi : i ≤ 200) :
    Calls Try.prog 27 #[.agg (stS A r (.slice al nl cl) (.slice ar nr cr) now n), .agg (acs ⟨3, id, nn, ky, vd⟩)] w (Post b w A L r now n ⟨3, id, nn, ky, vd⟩ i) := by
  have HPU := Lib.hid h.pu
  have HDV := Lib.hid h
  have HDC := Lib.hid c
  have hii := hi
  have hbx := Cx.start w A r (.slice al nl cl) (.slice ar nr cr) now n ⟨3, id, nn, ky, vd⟩
  have HBX := Lib.hid hbx
  have HB0 : Hid (b ≤ w.heap.size) := Lib.hid h.ru.base
  clear hbx h c
  go_enter Try.func27, Try.ntmps27
  go_upto_region 1 with fail
  refine (show Code.wp _ _ _ _ (((w.alloc (.cells (stS A r (.slice al nl cl) (.slice ar nr cr) now n) STT)).alloc (.cells (acs ⟨3, id, nn, ky, vd⟩) ACT)).alloc (.cells z15 STT)) from ?_)
  generalize ((w.alloc (.cells (stS A r (.slice al nl cl) (.slice ar nr cr) now n) STT)).alloc (.cells (acs ⟨3, id, nn, ky, vd⟩) ACT)).alloc (.cells z15 STT) = w1 at *
  generalize w.heap.size + 1 + 1 = pr at *
  generalize w.heap.size + 1 = pa at *
  obtain ⟨pb, hpb⟩ : ∃ pb, pb = w.heap.size := ⟨_, rfl⟩
  have HCX : Hid (Cx w w1 pb pa pr A r (.slice al nl cl) (.slice ar nr cr) now n ⟨3, id, nn, ky, vd⟩) := Lib.hid (by rw [hpb]; exact HBX.out.1)
  rw [← hpb]
  clear hpb
  have HN1 : Hid (New w w1) := Lib.hid HBX.out.2
  clear HBX
  have HD1 := Lib.hid (HDV.out.later HN1.out)
  obtain ⟨⟨s0, s1, s2, s3, s4, s5, s6, s7, s8, s9, s10, s11, s12, s13, s14⟩, _⟩ := fifteen HCX.out.b
  have a0 := HCX.out.a.cell 0
  have HTE : Hid (Tot e.L ≤ 1600) := Lib.hid (by
    have := tot_lenE (fun g hg => by
      have h1 := (HDV.out.ru.es.qs g hg).ok.len
      have h2 := (HDV.out.ru.es.fq g hg).fr
      have h3 := HDV.out.rq.frames
      have h4 := HDC.out.fr
      omega)
    have h5 := HDV.out.len
    have h6 := HDC.out.l
    omega)
  have HTR : Hid (TotR L ≤ 1600) := Lib.hid (by
    have := tot_len (fun g hg => by
      have h1 := (HPU.out.ok g hg).len
      have h2 : g.q.frames = r.frames := (HPU.out.fq g hg).fr
      have h4 := HDC.out.fr
      omega)
    have h6 := HDC.out.l
    omega)
  have HPT := Lib.hid (run b A k e w1 HD1.out.ru.es HD1.out.ru.lo (Nat.le_trans HB0.out HN1.out.size) (by have := HDC.out.k; omega) (by have := HDV.out.len; have := HDC.out.l; omega) (by have := HTE.out; omega) HDC.out.r0 (by have := HDC.out.r1; omega))
  go_wp2_with fail
  refine HPT.out.mono ?_
  rintro x4 w4 ⟨u4, l, e', rfl, hran, hes4, hlo4, hsf4, ho4, hv4, hr1, hr0⟩
  obtain ⟨au, cu, hu4, _⟩ := ho4.form
  obtain ⟨nu, hnu⟩ : ∃ nu, nu = l.length := ⟨_, rfl⟩
  rw [← hnu] at hu4
  subst hu4
  have HNU := Lib.hid hnu
  have HRAN := Lib.hid hran
  have HSF := Lib.hid hsf4
  have HRU : Hid (Ru b w w4 A k e') := Lib.hid (HD1.out.ru.whole hes4 hlo4 hsf4)
  have HU4 := Lib.hid ho4
  have HRW := Lib.hid (And.intro hr1 hr0)
  have HC4 := Lib.hid (HCX.out.sf HSF.out)
  have HRO4 := Lib.hid (HSF.out.ro HD1.out.ro)
  clear s0 s1 s2 s3 s4 s5 s6 s7 s8 s9 s10 s11 s12 s13 s14 a0 hran hes4 hlo4 hsf4 ho4 hv4 hr1 hr0 hnu HPT
  obtain ⟨⟨s0, s1, s2, s3, s4, s5, s6, s7, s8, s9, s10, s11, s12, s13, s14⟩, _⟩ := fifteen HC4.out.b
  have HRP := Lib.hid (rrun al nl cl ar nr cr L r w4 HRO4.out HPU.out (by have := HDC.out.l; omega) (by have := HDC.out.s; omega) (by have := HTR.out; omega) (by rw [← HDV.out.rq.row]; exact HDC.out.r0) (by rw [← HDV.out.rq.row]; have := HDC.out.r1; omega))
  go_wp2_with fail
  refine HRP.out.mono ?_
  rintro x5 w5 ⟨a5, n5, c5, a6, n6, c6, L', rp, u5, o, rfl, hz⟩
  have hlo : l = o ∧ Rq e' rp := by
    have h1 := HRAN.out.run HDV.out.ru.es.ap.nd (TotR L)
    have h2 := hz.run (l.length + TotR L) (by omega)
    have h3 := ((Rq.eE e).trans HDV.out.rq).runX (L.map (·.id)) (l.length + TotR L)
    rw [HDV.out.ids] at h1
    rw [h1, h2] at h3
    exact ⟨h3.1, (Rq.eE e').symm.trans h3.2⟩
  obtain ⟨hl, hrq⟩ := hlo
  subst hl
  obtain ⟨av, cv, hv5, _⟩ := hz.gr.own.form
  rw [← HNU.out] at hv5
  subst hv5
  have HZ := Lib.hid hz
  have HRQ := Lib.hid hrq
  have HC5 := Lib.hid (HC4.out.later hz.gr.n)
  have HN5 := Lib.hid hz.gr.n
  clear s0 s1 s2 s3 s4 s5 s6 s7 s8 s9 s10 s11 s12 s13 s14 hz hrq HRP
  have HYB : Hid (Blk (w5.alloc (.cells (rO rp (.slice a5 n5 c5) (.slice a6 n6 c6)) RT20)) w5.heap.size (rO rp (.slice a5 n5 c5) (.slice a6 n6 c6)) RT20) := Lib.hid (Blk.new _ _ _)
  have HNY : Hid (New w5 (w5.alloc (.cells (rO rp (.slice a5 n5 c5) (.slice a6 n6 c6)) RT20))) := Lib.hid ((Turns.refl _ _).alloc _)
  go_upto_region 21 with fail
  refine (show Code.wp _ _ _ _ (w5.alloc (.cells (rO rp (.slice a5 n5 c5) (.slice a6 n6 c6)) RT20)) from ?_)
  have hyp : w5.heap.size ≠ pb := Nat.ne_of_gt HC5.out.b.lt
  generalize w5.alloc (.cells (rO rp (.slice a5 n5 c5) (.slice a6 n6 c6)) RT20) = w6 at *
  generalize w5.heap.size = py at *
  have HC6 := Lib.hid (HC5.out.later HNY.out)
  obtain ⟨⟨s0, s1, s2, s3, s4, s5, s6, s7, s8, s9, s10, s11, s12, s13, s14⟩, z0, z1, z2, z3, z4, z5, z6, z7, z8, z9, z10, z11, z12, z13, z14⟩ := fifteen HC6.out.b
  obtain ⟨⟨k0, k1, k2, k3, k4, k5, k6, k7, k8, k9, k10, k11⟩, _⟩ := twelve HYB.out
  have HT7 : Hid (Turns (· = pb) w6 (puts w6 pb 1 [.int .i64 rp.frames, .int .i64 rp.bytes, .int .i64 rp.age, .int .i64 rp.most, .int .i64 rp.guard, (.slice a5 n5 c5), .int .i64 rp.s.most, (.slice a6 n6 c6), .int .i64 rp.s.turn, .bool rp.s.g, .int .i64 rp.credit, .int .i64 rp.row])) := Lib.hid (puts_turns (S := (· = pb)) (p := pb) (.inl rfl) [.int .i64 rp.frames, .int .i64 rp.bytes, .int .i64 rp.age, .int .i64 rp.most, .int .i64 rp.guard, (.slice a5 n5 c5), .int .i64 rp.s.most, (.slice a6 n6 c6), .int .i64 rp.s.turn, .bool rp.s.g, .int .i64 rp.credit, .int .i64 rp.row] 1 w6 (Turns.refl _ _))
  have hb7 : Blk (puts w6 pb 1 [.int .i64 rp.frames, .int .i64 rp.bytes, .int .i64 rp.age, .int .i64 rp.most, .int .i64 rp.guard, (.slice a5 n5 c5), .int .i64 rp.s.most, (.slice a6 n6 c6), .int .i64 rp.s.turn, .bool rp.s.g, .int .i64 rp.credit, .int .i64 rp.row]) pb (stS A rp (.slice a5 n5 c5) (.slice a6 n6 c6) now n) STT := puts_over [.int .i64 rp.frames, .int .i64 rp.bytes, .int .i64 rp.age, .int .i64 rp.most, .int .i64 rp.guard, (.slice a5 n5 c5), .int .i64 rp.s.most, (.slice a6 n6 c6), .int .i64 rp.s.turn, .bool rp.s.g, .int .i64 rp.credit, .int .i64 rp.row] 1 _ _ HC6.out.b
  have HC7 : Hid (Cx w (puts w6 pb 1 [.int .i64 rp.frames, .int .i64 rp.bytes, .int .i64 rp.age, .int .i64 rp.most, .int .i64 rp.guard, (.slice a5 n5 c5), .int .i64 rp.s.most, (.slice a6 n6 c6), .int .i64 rp.s.turn, .bool rp.s.g, .int .i64 rp.credit, .int .i64 rp.row]) pb pa pr A rp (.slice a5 n5 c5) (.slice a6 n6 c6) now n ⟨3, id, nn, ky, vd⟩) := Lib.hid (HC6.out.self HT7.out hb7)
  clear hb7
  go_upto_region 22 with fail
  refine (show Code.wp _ _ _ _ (puts w6 pb 1 [.int .i64 rp.frames, .int .i64 rp.bytes, .int .i64 rp.age, .int .i64 rp.most, .int .i64 rp.guard, (.slice a5 n5 c5), .int .i64 rp.s.most, (.slice a6 n6 c6), .int .i64 rp.s.turn, .bool rp.s.g, .int .i64 rp.credit, .int .i64 rp.row]) from ?_)
  clear s0 s1 s2 s3 s4 s5 s6 s7 s8 s9 s10 s11 s12 s13 s14 z0 z1 z2 z3 z4 z5 z6 z7 z8 z9 z10 z11 z12 z13 z14 k0 k1 k2 k3 k4 k5 k6 k7 k8 k9 k10 k11 hyp
  generalize puts w6 pb 1 [.int .i64 rp.frames, .int .i64 rp.bytes, .int .i64 rp.age, .int .i64 rp.most, .int .i64 rp.guard, (.slice a5 n5 c5), .int .i64 rp.s.most, (.slice a6 n6 c6), .int .i64 rp.s.turn, .bool rp.s.g, .int .i64 rp.credit, .int .i64 rp.row] = w7 at *
  have N57 : Hid (New w5 w6) := HNY
  have HDV7 : Hid (Dv b w w7 A k e' (.slice a5 n5 c5) (.slice a6 n6 c6) L' rp now n) := Lib.hid (by
    have hp := HZ.out.pu
    have h6 : Dv b w w6 A k e' (.slice a5 n5 c5) (.slice a6 n6 c6) L' rp now n := ⟨(HRU.out.later HN5.out).later N57.out, HZ.out.ro.later N57.out, hp.asc, hp.sa, hp.sp, HRQ.out, fun f hf x hx => by
      obtain ⟨g, hg, hxg⟩ := HZ.out.mem f hf x hx
      exact HDV.out.tk g hg x hxg⟩
    exact h6.off HC6.out.b HB0.out HC6.out.lo.1 HT7.out rfl)
  have HU7 : Hid (Owns SE RSeT w7 (.slice av nu cv) l) := Lib.hid ((HZ.out.gr.own.turns N57.out (fun _ _ h => h)).turns HT7.out (fun g hg hf => own_ne HZ.out.gr.own (HC5.out.b) (by decide) (by rw [hg, hf])))
  have HSM : Hid (∀ W, New w7 W → _) := Lib.hid (fun W N => same (.slice au nu cu) (.slice av nu cv) l W
    (by
      have h5 : Sub SE 0 w5 (.slice au nu cu) l := subN (HU4.out.sub 0 (fun _ _ => Nat.zero_le _)) HN5.out
      have h7 := Sub.turns' (subN h5 N57.out) HT7.out (fun g hg hf => own_ne HU4.out (HC4.out.b) (by decide) (by rw [hg, hf]))
      exact subN h7 N)
    (subN (HU7.out.sub 0 (fun _ _ => Nat.zero_le _)) N)
    (by
      have h1 := congrArg (fun p => p.1.length) (HZ.out.run (TotR L) (Nat.le_refl _))
      have h2 := HTR.out
      have h3 : (runX (L.map (·.id)) (TotR L) r).1.length ≤ TotR L := runX_len _ _ _
      simp only at h1
      omega))
  have HDC7 : Hid (Dc (i + 1) k e' rp L' now n) := Lib.hid (by
    have h1 := HDC.out
    have h2 := congrArg List.length HZ.out.ids
    rw [List.length_map, List.length_map] at h2
    have h3 := HZ.out.sl
    have h4 := HRW.out
    have h5 := HTE.out
    exact ⟨by have := h1.k; omega, by have := h1.l; omega, by have := h1.s; omega, h1.n0, by have := h1.n1; push_cast; omega, h1.t0, by have := h1.t1; push_cast; omega, h4.2, by have := h1.r1; push_cast; omega, by rw [HZ.out.fr]; exact h1.fr⟩)
  have HAC : Hid (ActR now n ⟨3, id, nn, ky, vd⟩ L r L' rp now n l) := Lib.hid (ActR.run (a := ⟨3, id, nn, ky, vd⟩) rfl (HZ.out.run _ (Nat.le_refl _)) HZ.out.ids)
  have HTS : Hid (∀ W wz, New w7 W → Turns (· = pr) W wz → TS SE RSeT wz (.slice av nu cv) l) := Lib.hid (fun W wz N t => TS.of_owns ((HU7.out.turns N (fun _ _ h => h)).turns t (fun g hg hf => own_ne HU7.out HC7.out.r (by decide) (by rw [hg, hf]))))
  clear HD1 HSF HRU HU4 HC4 HRO4 HC5 HN5 HT7 HNY HC6 HYB HDV HDC HZ HRQ HU7 HRAN
  have hrb := HC7.out.lo.2.2.2.1
  have hpl8 := HC7.out.b.lt
  obtain ⟨⟨s0, s1, s2, s3, s4, s5, s6, s7, s8, s9, s10, s11, s12, s13, s14⟩, _⟩ := fifteen HC7.out.b
  obtain ⟨⟨t0, t1, t2, t3, t4, t5, t6, t7, t8, t9, t10, t11, t12, t13, t14⟩, y0, y1, y2, y3, y4, y5, y6, y7, y8, y9, y10, y11, y12, y13, y14⟩ := fifteen HC7.out.r
  have HH : HeldS w7 w7 pr pb (.pointer (some ⟨A.o, 0, none⟩)) (.int .i64 rp.frames) (.int .i64 rp.bytes) (.int .i64 rp.age) (.int .i64 rp.most) (.int .i64 rp.guard) ((.slice a5 n5 c5)) (.int .i64 rp.s.most) ((.slice a6 n6 c6)) (.int .i64 rp.s.turn) (.bool rp.s.g) (.int .i64 rp.credit) (.int .i64 rp.row) (.int .i64 now) (.int .i64 n) := ⟨Turns.refl _ _, hpl8, s0, s1, s2, s3, s4, s5, s6, s7, s8, s9, s10, s11, s12, s13, s14⟩
  clear s0 s1 s2 s3 s4 s5 s6 s7 s8 s9 s10 s11 s12 s13 s14
  have HH2 := HH
  obtain ⟨_, _, s0, s1, s2, s3, s4, s5, s6, s7, s8, s9, s10, s11, s12, s13, s14⟩ := HH2
  first
    | go_region_held (fun w' => Turns (· = pr) w7 w' ∧ pb < w'.heap.size ∧ w'.cell? ⟨pb, 0, none⟩ = some (.pointer (some ⟨A.o, 0, none⟩)) ∧ w'.cell? ⟨pb, 1, none⟩ = some (.int .i64 rp.frames) ∧ w'.cell? ⟨pb, 2, none⟩ = some (.int .i64 rp.bytes) ∧ w'.cell? ⟨pb, 3, none⟩ = some (.int .i64 rp.age) ∧ w'.cell? ⟨pb, 4, none⟩ = some (.int .i64 rp.most) ∧ w'.cell? ⟨pb, 5, none⟩ = some (.int .i64 rp.guard) ∧ w'.cell? ⟨pb, 6, none⟩ = some ((.slice a5 n5 c5)) ∧ w'.cell? ⟨pb, 7, none⟩ = some (.int .i64 rp.s.most) ∧ w'.cell? ⟨pb, 8, none⟩ = some ((.slice a6 n6 c6)) ∧ w'.cell? ⟨pb, 9, none⟩ = some (.int .i64 rp.s.turn) ∧ w'.cell? ⟨pb, 10, none⟩ = some (.bool rp.s.g) ∧ w'.cell? ⟨pb, 11, none⟩ = some (.int .i64 rp.credit) ∧ w'.cell? ⟨pb, 12, none⟩ = some (.int .i64 rp.row) ∧ w'.cell? ⟨pb, 13, none⟩ = some (.int .i64 now) ∧ w'.cell? ⟨pb, 14, none⟩ = some (.int .i64 n))
        (first
          | (with_reducible assumption)
          | ((with_reducible refine heldS_drew ?_); with_reducible assumption)
          | ((with_reducible refine heldS_new (by with_reducible assumption) hrb ?_); with_reducible assumption)
          | ((with_reducible refine heldS_store hrb _ _ _ _ _ _ _ _ _ _ _ _ _ _ _ ?_); with_reducible assumption))
        ((go_at_call 55; (with_reducible refine Calls.mono (HSM.out _ ?_) ?_); (focus (repeat (first | exact Turns.refl _ _ | with_reducible apply Turns.drew))); rintro x9 w9 ⟨rfl, n9⟩; have hr9 : Blk w9 pr z15 STT := n9.blk HC7.out.r (fun h => h); obtain ⟨⟨t'0, t'1, t'2, t'3, t'4, t'5, t'6, t'7, t'8, t'9, t'10, t'11, t'12, t'13, t'14⟩, y'0, y'1, y'2, y'3, y'4, y'5, y'6, y'7, y'8, y'9, y'10, y'11, y'12, y'13, y'14⟩ := fifteen hr9))
    | skip
  all_goals
    go_wp2_with fail
    refine (show bodyPost _ _ _ _ _ (puts w9 pr 0 (stS A rp (.slice a5 n5 c5) (.slice a6 n6 c6) now n).toList) from ?_)
    have hfin := HC7.out.fin HDV7.out HB0.out (w9 := w9) (by first | exact n9 | exact Turns.of_drew n9 | exact Turns.of_drew (Turns.of_drew n9))
    have HFIN := Lib.hid hfin
    clear hfin s0 s1 s2 s3 s4 s5 s6 s7 s8 s9 s10 s11 s12 s13 s14 t0 t1 t2 t3 t4 t5 t6 t7 t8 t9 t10 t11 t12 t13 t14 y0 y1 y2 y3 y4 y5 y6 y7 y8 y9 y10 y11 y12 y13 y14
    have hts9 := HTS.out w9 (puts w9 pr 0 (stS A rp (.slice a5 n5 c5) (.slice a6 n6 c6) now n).toList) (by first | exact n9 | exact Turns.of_drew n9 | exact Turns.of_drew (Turns.of_drew n9)) (puts_turns (S := (· = pr)) (.inl rfl) _ 0 _ (Turns.refl _ _))
    generalize puts w9 pr 0 (stS A rp (.slice a5 n5 c5) (.slice a6 n6 c6) now n).toList = wz at *
    obtain ⟨⟨g0, g1, g2, g3, g4, g5, g6, g7, g8, g9, g10, g11, g12, g13, g14⟩, _⟩ := fifteen HFIN.out.1
    refine bodyPost_ret (v := .tuple #[.agg (stS A rp (.slice a5 n5 c5) (.slice a6 n6 c6) now n), .slice av nu cv, .bool true]) (by simp [results, Try.results27, go_sem, g0, g1, g2, g3, g4, g5, g6, g7, g8, g9, g10, g11, g12, g13, g14]) rfl ?_
    exact ⟨_, _, _, _, _, _, _, _, _, _, rfl, HFIN.out.2, HDC7.out, HAC.out, hts9⟩
end Go.Proofs.Ytcppibjllaablaa.egr

/-
  Layer 20's laws: Config and Begin.
-/
namespace Go.Proofs.Ytcppibjllaablaa.egr
open Go.RowKit mem
set_option linter.unusedVariables false

set_option maxRecDepth 100000 in
set_option maxHeartbeats 2000000 in
theorem configC (a b : Int) (w : World) :
    Calls Try.prog 25 #[.int .i64 a, .int .i64 b] w fun e w' => ∃ F B G M U : Int, e = .returned (.agg (cfg F B G M U)) ∧ New w w' ∧ (1 ≤ F ∧ F ≤ 8) ∧ (16 ≤ B ∧ B ≤ 79) ∧ (1 ≤ G ∧ G ≤ 32) ∧ (1 ≤ M ∧ M ≤ 32) ∧ 1 ≤ U ∧ U ≤ 4 := by
  have M2 : ∀ x, bits .and .i64 x 3 = x % 4 := mask.mask2
  have M3 : ∀ x, bits .and .i64 x 7 = x % 8 := mask.mask3
  have M5 : ∀ x, bits .and .i64 x 31 = x % 32 := mask.mask5
  have M6 : ∀ x, bits .and .i64 x 63 = x % 64 := mask.mask6
  go_enter Try.func25, Try.ntmps25
  go_upto_region 1 with fail
  have hb := Blk.new w #[.int .i64 0, .int .i64 0, .int .i64 0, .int .i64 0, .int .i64 0] CT
  have hn : New w (w.alloc (.cells #[.int .i64 0, .int .i64 0, .int .i64 0, .int .i64 0, .int .i64 0] CT)) := (Turns.refl _ _).alloc _
  refine (show Code.wp _ _ _ _ (w.alloc (.cells #[.int .i64 0, .int .i64 0, .int .i64 0, .int .i64 0, .int .i64 0] CT)) from ?_)
  generalize w.alloc (.cells #[.int .i64 0, .int .i64 0, .int .i64 0, .int .i64 0, .int .i64 0] CT) = w1 at *
  obtain ⟨p, hp⟩ : ∃ p, p = w.heap.size := ⟨_, rfl⟩
  have HP : Hid (w.heap.size ≤ p) := Lib.hid (by omega)
  rw [← hp] at hb ⊢
  clear hp
  have HB := Lib.hid hb
  have HN := Lib.hid hn
  have f0 := hb.free 0
  have f1 := hb.free 1
  have f2 := hb.free 2
  have f3 := hb.free 3
  have f4 := hb.free 4
  obtain ⟨c0, c1, c2, c3, c4⟩ := five hb
  clear hb hn
  go_wp2_with fail
  refine (show bodyPost _ _ _ _ _ (puts w1 p 0 [.int .i64 (1 + a % 8), .int .i64 (16 + b % 64), .int .i64 (1 + a / 8 % 32), .int .i64 (1 + b / 64 % 32), .int .i64 (1 + a / 256 % 4)]) from ?_)
  have h9 := puts_blk #[.int .i64 0, .int .i64 0, .int .i64 0, .int .i64 0, .int .i64 0].toList [.int .i64 (1 + a % 8), .int .i64 (16 + b % 64), .int .i64 (1 + a / 8 % 32), .int .i64 (1 + b / 64 % 32), .int .i64 (1 + a / 256 % 4)] HB.out rfl
  have t9 := HN.out.trans ((puts_turns (S := (· = p)) (.inl rfl) [.int .i64 (1 + a % 8), .int .i64 (16 + b % 64), .int .i64 (1 + a / 8 % 32), .int .i64 (1 + b / 64 % 32), .int .i64 (1 + a / 256 % 4)] 0 w1 (Turns.refl _ _)).mono (fun k _ hk => .inr (by rw [hk]; exact HP.out)))
  generalize puts w1 p 0 [.int .i64 (1 + a % 8), .int .i64 (16 + b % 64), .int .i64 (1 + a / 8 % 32), .int .i64 (1 + b / 64 % 32), .int .i64 (1 + a / 256 % 4)] = w9 at *
  clear c0 c1 c2 c3 c4
  obtain ⟨c0, c1, c2, c3, c4⟩ := five h9
  refine bodyPost_ret (v := .agg (cfg (1 + a % 8) (16 + b % 64) (1 + a / 8 % 32) (1 + b / 64 % 32) (1 + a / 256 % 4))) (by simp [results, Try.results25, go_sem, c0, c1, c2, c3, c4]) rfl ?_
  exact ⟨_, _, _, _, _, rfl, t9, by omega, by omega, by omega, by omega, by omega⟩

set_option maxRecDepth 100000 in
set_option maxHeartbeats 4000000 in
theorem beginC (F B G M U : Int) (w : World) (h : Va F B G M U) (hF : F ≤ 8) :
    Calls Try.prog 24 #[.agg (cfg F B G M U)] w fun x w' => ∃ A b, x = .returned (.tuple #[.agg (stS A (fresh F B G M U) (.slice none 0 0) (.slice none 0 0) 0 0), .bool true]) ∧ w.heap.size ≤ b ∧ Dv b w w' A 0 (fresh F B G M U) (.slice none 0 0) (.slice none 0 0) [] (fresh F B G M U) 0 0 ∧ Dc 0 0 (fresh F B G M U) (fresh F B G M U) [] 0 0 := by
  have HV := Lib.hid (And.intro h hF)
  clear h hF
  have hb1 : Blk ((w.alloc (.cells (cfg F B G M U) CT)).alloc (.cells z15 STT)) w.heap.size (cfg F B G M U) CT := (Blk.new _ _ _).alloc _
  have hr1 : Blk ((w.alloc (.cells (cfg F B G M U) CT)).alloc (.cells z15 STT)) (w.heap.size + 1) z15 STT := by
    rw [show w.heap.size + 1 = (w.alloc (.cells (cfg F B G M U) CT)).heap.size by simp]
    exact Blk.new _ _ _
  have hn1 : New w ((w.alloc (.cells (cfg F B G M U) CT)).alloc (.cells z15 STT)) := ((Turns.refl _ _).alloc _).alloc _
  go_enter Try.func24, Try.ntmps24
  go_upto_region 1 with fail
  refine (show Code.wp _ _ _ _ ((w.alloc (.cells (cfg F B G M U) CT)).alloc (.cells z15 STT)) from ?_)
  generalize (w.alloc (.cells (cfg F B G M U) CT)).alloc (.cells z15 STT) = w1 at *
  have HPR : Hid (w.heap.size ≤ w.heap.size + 1) := Lib.hid (by omega)
  generalize w.heap.size + 1 = pr at *
  obtain ⟨pb, hpb⟩ : ∃ pb, pb = w.heap.size := ⟨_, rfl⟩
  rw [← hpb] at hb1 ⊢
  clear hpb
  have HB := Lib.hid (And.intro hb1 hr1)
  have HN1 := Lib.hid hn1
  have HNW := Lib.hid (new_ok F B G M U w1 HV.out.1)
  obtain ⟨c0, c1, c2, c3, c4⟩ := five hb1
  clear hb1 hr1 hn1
  go_wp2_with fail
  refine HNW.out.mono ?_
  rintro x2 w2 ⟨A, rfl, hm⟩
  have HM := Lib.hid hm
  have HB2 := Lib.hid (And.intro (hm.n.blk HB.out.1 (fun h => h)) (hm.n.blk HB.out.2 (fun h => h)))
  clear hm HNW c0 c1 c2 c3 c4
  obtain ⟨c0, c1, c2, c3, c4⟩ := five HB2.out.1
  obtain ⟨⟨t0, t1, t2, t3, t4, t5, t6, t7, t8, t9, t10, t11, t12, t13, t14⟩, y0, y1, y2, y3, y4, y5, y6, y7, y8, y9, y10, y11, y12, y13, y14⟩ := fifteen HB2.out.2
  have hne : pb ≠ pr := blk_ne HB2.out.1 HB2.out.2 (by decide)
  have hne' := hne.symm
  go_wp2_with fail
  refine (show bodyPost _ _ _ _ _ (puts w2 pr 0 (stS A (fresh F B G M U) (.slice none 0 0) (.slice none 0 0) 0 0).toList) from ?_)
  have h9 : Blk (puts w2 pr 0 (stS A (fresh F B G M U) (.slice none 0 0) (.slice none 0 0) 0 0).toList) pr (stS A (fresh F B G M U) (.slice none 0 0) (.slice none 0 0) 0 0) STT := puts_blk _ _ HB2.out.2 rfl
  have tt9 : Turns (· = pr) w2 (puts w2 pr 0 (stS A (fresh F B G M U) (.slice none 0 0) (.slice none 0 0) 0 0).toList) := puts_turns (S := (· = pr)) (.inl rfl) _ 0 _ (Turns.refl _ _)
  have HE : Hid (Es (puts w2 pr 0 (stS A (fresh F B G M U) (.slice none 0 0) (.slice none 0 0) 0 0).toList) A 0 (fresh F B G M U)) := Lib.hid (HM.out.es.off HB2.out.2 tt9 (by decide) (by decide) (by decide) (by decide) (by decide) (by decide))
  have HN9 : Hid (New w (puts w2 pr 0 (stS A (fresh F B G M U) (.slice none 0 0) (.slice none 0 0) 0 0).toList)) := Lib.hid ((HN1.out.trans (HM.out.n.mono (fun _ _ h => h.elim))).trans (tt9.mono (fun k _ hk => .inr (by rw [hk]; exact HPR.out))))
  clear t0 t1 t2 t3 t4 t5 t6 t7 t8 t9 t10 t11 t12 t13 t14 y0 y1 y2 y3 y4 y5 y6 y7 y8 y9 y10 y11 y12 y13 y14 c0 c1 c2 c3 c4 tt9
  generalize puts w2 pr 0 (stS A (fresh F B G M U) (.slice none 0 0) (.slice none 0 0) 0 0).toList = w9 at *
  obtain ⟨⟨g0, g1, g2, g3, g4, g5, g6, g7, g8, g9, g10, g11, g12, g13, g14⟩, _⟩ := fifteen h9
  refine bodyPost_ret (v := .tuple #[.agg (stS A (fresh F B G M U) (.slice none 0 0) (.slice none 0 0) 0 0), .bool true]) (by simp [results, Try.results24, go_sem, g0, g1, g2, g3, g4, g5, g6, g7, g8, g9, g10, g11, g12, g13, g14]) rfl ?_
  have h2 := HV.out.2
  refine ⟨A, w1.heap.size, rfl, HN1.out.size, ⟨⟨HE.out, HM.out.lo, Sf.new HN9.out⟩, ⟨TS.nil _ _ _, (fun f hf => by cases hf), TS.nil _ _ _, rfl, (fun f hf => by cases hf)⟩, List.Pairwise.nil, List.Pairwise.nil, List.Pairwise.nil, ⟨rfl, rfl, rfl, rfl, rfl, rfl, rfl, Eqv.refl _, drr.Re.refl _⟩, (fun f hf => by cases hf)⟩, ⟨Nat.le_refl _, Nat.le_refl _, Nat.le_refl _, Int.le_refl _, Int.le_refl _, Int.le_refl _, by decide, Int.le_refl _, by show (0 : Int) ≤ _; omega, h2⟩⟩
end Go.Proofs.Ytcppibjllaablaa.egr

/-
  Layer 20's laws: Is.
-/
namespace Go.Proofs.Ytcppibjllaablaa.egr
open Go.RowKit mem
set_option linter.unusedVariables false

/-- what the test holds on to -/
abbrev HeldI (w w' : World) (pb px : Nat) (c0 c1 c2 x0 x4 x5 : Value) : Prop :=
  New w w' ∧ pb < w'.heap.size ∧ px < w'.heap.size ∧ w'.cell? ⟨pb, 0, none⟩ = some c0 ∧ w'.cell? ⟨pb, 1, none⟩ = some c1 ∧ w'.cell? ⟨pb, 2, none⟩ = some c2 ∧ w'.cell? ⟨px, 0, none⟩ = some x0 ∧ w'.cell? ⟨px, 4, none⟩ = some x4 ∧ w'.cell? ⟨px, 5, none⟩ = some x5
section
variable {w w' w1 w2 : World} {pb px : Nat} {c0 c1 c2 x0 x4 x5 : Value}
theorem heldI_drew (h : HeldI w w' pb px c0 c1 c2 x0 x4 x5) : HeldI w w'.drew pb px c0 c1 c2 x0 x4 x5 := by
  obtain ⟨hn, h⟩ := h
  exact ⟨hn.drew, h⟩
theorem heldI_new (n : New w1 w2) (h : HeldI w w1 pb px c0 c1 c2 x0 x4 x5) : HeldI w w2 pb px c0 c1 c2 x0 x4 x5 := by
  obtain ⟨hn, hl, hx, h0, h1, h2, k0, k4, k5⟩ := h
  have c := fun i => n.cell (a := ⟨pb, i, none⟩) hl (fun h => h)
  have d := fun i => n.cell (a := ⟨px, i, none⟩) hx (fun h => h)
  exact ⟨hn.trans (n.mono (fun _ _ h => h.elim)), Nat.lt_of_lt_of_le hl n.size, Nat.lt_of_lt_of_le hx n.size, (c 0).trans h0, (c 1).trans h1, (c 2).trans h2, (d 0).trans k0, (d 4).trans k4, (d 5).trans k5⟩
theorem heldI_nw (h : HeldI w w' pb px c0 c1 c2 x0 x4 x5) : New w w' := h.1
end
set_option maxRecDepth 100000 in
set_option maxHeartbeats 4000000 in
theorem isC (b : Nat) (w0 w : World) (A : Ad) (k : Nat) (e : Eo) (al : Option Addr) (nl cl : Nat) (vS : Value) (L : List Rf) (r : Eo) (now n : Int) (h : Dv b w0 w A k e (.slice al nl cl) vS L r now n) (hl : L.length ≤ 100000) :
    Calls Try.prog 28 #[.agg (stS A r (.slice al nl cl) vS now n)] w fun x w' => x = .returned (.int .i64 0) ∧ New w w' := by
  have HDV := Lib.hid h
  have HPU := Lib.hid h.pu
  have hnl : nl = L.length := by
    obtain ⟨_, n2, c2, hv, h1, _⟩ := h.ro.l.form
    injection hv with e1 e2 e3
    omega
  have HNL := Lib.hid hnl
  have hn2 : nl ≤ 100000 := by omega
  have HBX : Hid (Blk (w.alloc (.cells (stS A r (.slice al nl cl) vS now n) STT)) w.heap.size (stS A r (.slice al nl cl) vS now n) STT) := Lib.hid (Blk.new _ _ _)
  have HN1 : Hid (New w (w.alloc (.cells (stS A r (.slice al nl cl) vS now n) STT))) := Lib.hid ((Turns.refl _ _).alloc _)
  clear h hl hnl
  go_enter Try.func28, Try.ntmps28
  go_upto_region 1 with fail
  refine (show Code.wp _ _ _ _ (w.alloc (.cells (stS A r (.slice al nl cl) vS now n) STT)) from ?_)
  generalize w.alloc (.cells (stS A r (.slice al nl cl) vS now n) STT) = w1 at *
  generalize w.heap.size = pb at *
  have HCR := Lib.hid (fun j => credit A k e (w1.drewN j) (HDV.out.later (HN1.out.trans ((Turns.refl _ _).drewN j))).ru.es)
  rw [HDV.out.rq.credit] at HCR
  have s0 : w1.cell? ⟨pb, 0, none⟩ = some (.pointer (some ⟨A.o, 0, none⟩)) := HBX.out.cell 0
  have s6 : w1.cell? ⟨pb, 6, none⟩ = some (.slice al nl cl) := HBX.out.cell 6
  have s11 : w1.cell? ⟨pb, 11, none⟩ = some (.int .i64 r.credit) := HBX.out.cell 11
  have hbl := HBX.out.lt
  go_quiet (first | (go_at_call 35; exact Calls.quiet_of_same (HCR.out _)))
  have HN2 : Hid (New w (w1.drewN nq)) := Lib.hid (HN1.out.trans ((Turns.refl _ _).drewN nq))
  have HB2 : Hid (Blk (w1.drewN nq) pb (stS A r (.slice al nl cl) vS now n) STT) := Lib.hid (((Turns.refl (fun _ => False) w1).drewN nq).blk HBX.out (fun h => h))
  clear s0 s6 s11 hbl
  generalize w1.drewN nq = w2 at *
  clear HBX HN1 HCR
  have s6 : w2.cell? ⟨pb, 6, none⟩ = some (.slice al nl cl) := HB2.out.cell 6
  go_wp2_with fail
  go_loopw [18] (fun i wr => ∃ j : Nat, j ≤ nl ∧ i = .int .i64 j ∧ New w2 wr) (fun i _ => nl - (intOf i).toNat)
  case atStart => exact ⟨0, Nat.zero_le _, rfl, Turns.refl _ _⟩
  case round =>
    obtain ⟨j, hj, rfl, hnw⟩ := hrel
    have HNW := Lib.hid hnw
    clear hnw s6
    by_cases hlt : j < nl
    · obtain ⟨f, hf⟩ : ∃ f, L[j]? = some f := ⟨_, List.getElem?_eq_getElem (by have := HNL.out; omega)⟩
      have HX := Lib.hid hf
      have HNB : Hid (New w wr) := Lib.hid (HN2.out.trans (HNW.out.mono (fun _ _ h => h.elim)))
      obtain ⟨g, o, hg, hgl, z0, z1, z2, z3, z4, z5⟩ := rf_at (HDV.out.ro.later HNB.out).l hf
      subst hg
      obtain ⟨y, hy, hyid, hyv, hyq⟩ := HDV.out.flow hf
      have HY := Lib.hid (And.intro hy (And.intro hyid hyq))
      clear hf hy hyid hyv hyq
      have d1 : decide ((j : Int) < (nl : Int)) = true := decide_eq_true (by omega)
      have j1 : (j : Int) < (nl : Int) := by omega
      have hw : IntKind.i64.wrap ((j : Int) + 1) = (j : Int) + 1 := IntWalk.i64_in _ (by omega)
      have HPX : Hid (Blk (wr.alloc (.cells #[.int .i64 f.id, .bool f.video, .int .i64 f.q.frames, .int .i64 f.q.most, .slice f.ao f.q.L.length f.c, .bool f.q.broken] FT)) wr.heap.size #[.int .i64 f.id, .bool f.video, .int .i64 f.q.frames, .int .i64 f.q.most, .slice f.ao f.q.L.length f.c, .bool f.q.broken] FT) := Lib.hid (Blk.new _ _ _)
      have HN4 : Hid (New w2 (wr.alloc (.cells #[.int .i64 f.id, .bool f.video, .int .i64 f.q.frames, .int .i64 f.q.most, .slice f.ao f.q.L.length f.c, .bool f.q.broken] FT))) := Lib.hid (HNW.out.alloc _)
      go_upto_region 6 with fail
      refine (show Code.wp _ _ _ _ (wr.alloc (.cells #[.int .i64 f.id, .bool f.video, .int .i64 f.q.frames, .int .i64 f.q.most, .slice f.ao f.q.L.length f.c, .bool f.q.broken] FT)) from ?_)
      clear z0 z1 z2 z3 z4 z5 hgl
      generalize wr.alloc (.cells #[.int .i64 f.id, .bool f.video, .int .i64 f.q.frames, .int .i64 f.q.most, .slice f.ao f.q.L.length f.c, .bool f.q.broken] FT) = w4 at *
      generalize wr.heap.size = px at *
      have HB4 := Lib.hid (HN4.out.blk HB2.out (fun h => h))
      have hn4 : New w w4 := HN2.out.trans (HN4.out.mono (fun _ _ h => h.elim))
      have HD4 := Lib.hid (HDV.out.later hn4)
      clear hn4
      have s0 : w4.cell? ⟨pb, 0, none⟩ = some (.pointer (some ⟨A.o, 0, none⟩)) := HB4.out.cell 0
      have x0 : w4.cell? ⟨px, 0, none⟩ = some (.int .i64 f.id) := HPX.out.cell 0
      have HWA := Lib.hid (waits_some A k e y w4 HD4.out.ru.es HY.out.1)
      rw [HY.out.2.1, HY.out.2.2] at HWA
      go_wp2_with fail
      refine HWA.out.mono ?_
      rintro x5 w5 ⟨rfl, n5⟩
      have HN5 := Lib.hid n5
      have HB5 := Lib.hid (n5.blk HB4.out (fun h => h))
      have HX5 := Lib.hid (n5.blk HPX.out (fun h => h))
      have HD5 := Lib.hid (HD4.out.later n5)
      clear n5 s0 x0 HWA
      have HQ5 : Hid (Sub que.IE 0 w5 (.slice f.ao f.q.L.length f.c) f.q.L) := Lib.hid (HD5.out.ro.q f (List.mem_of_getElem? HX.out)).sub
      have HSZ := Lib.hid (fun W (N : New w5 W) => que.rsize (.slice f.ao f.q.L.length f.c) f.q.L W (subN HQ5.out N) (by
        have h1 := (HPU.out.ok f (List.mem_of_getElem? HX.out)).len
        have h2 := (HPU.out.ok f (List.mem_of_getElem? HX.out)).f2
        omega) (HPU.out.ok f (List.mem_of_getElem? HX.out)).pos (by
        have h1 := (HPU.out.ok f (List.mem_of_getElem? HX.out)).sum
        have h2 := (HPU.out.ok f (List.mem_of_getElem? HX.out)).m2
        omega))
      have HBR : Hid (∀ W, New w5 W → Calls Try.prog 34 #[.pointer (some ⟨A.o, 0, none⟩), .int .i64 f.id] W fun x w' => x = .returned (.bool f.q.broken) ∧ w' = W) := Lib.hid (fun W N => by
        have := broken_some A k e y W (HD5.out.later N).ru.es HY.out.1
        rw [HY.out.2.1, HY.out.2.2] at this
        exact this)
      have g1 : decide (r.frames < (f.q.L.length : Int)) = false := decide_eq_false (by
        have h1 := (HPU.out.ok f (List.mem_of_getElem? HX.out)).len
        have h2 : f.q.frames = r.frames := (HPU.out.fq f (List.mem_of_getElem? HX.out)).fr
        omega)
      have g2 : decide (r.bytes < que.sumL f.q.L) = false := decide_eq_false (by
        have h1 := (HPU.out.ok f (List.mem_of_getElem? HX.out)).sum
        have h2 : f.q.most = r.bytes := (HPU.out.fq f (List.mem_of_getElem? HX.out)).mo
        omega)
      have HH : HeldI w5 w5 pb px (.pointer (some ⟨A.o, 0, none⟩)) (.int .i64 r.frames) (.int .i64 r.bytes) (.int .i64 f.id) (.slice f.ao f.q.L.length f.c) (.bool f.q.broken) := ⟨Turns.refl _ _, HB5.out.lt, HX5.out.lt, HB5.out.cell 0, HB5.out.cell 1, HB5.out.cell 2, HX5.out.cell 0, HX5.out.cell 4, HX5.out.cell 5⟩
      have HH2 := HH
      obtain ⟨_, hbl, hxl, s0, s1, s2, x0, x4, x5⟩ := HH2
      clear HB4 HPX HD4 HQ5
      go_upto_region 7 with fail
      first
        | go_region_held3 (fun w' => New w5 w' ∧ pb < w'.heap.size ∧ px < w'.heap.size ∧ w'.cell? ⟨pb, 0, none⟩ = some (.pointer (some ⟨A.o, 0, none⟩)) ∧ w'.cell? ⟨pb, 1, none⟩ = some (.int .i64 r.frames) ∧ w'.cell? ⟨pb, 2, none⟩ = some (.int .i64 r.bytes) ∧ w'.cell? ⟨px, 0, none⟩ = some (.int .i64 f.id) ∧ w'.cell? ⟨px, 4, none⟩ = some (.slice f.ao f.q.L.length f.c) ∧ w'.cell? ⟨px, 5, none⟩ = some (.bool f.q.broken))
            (first
              | (with_reducible assumption)
              | ((with_reducible refine heldI_drew ?_); with_reducible assumption)
              | ((with_reducible refine heldI_new (by with_reducible assumption) ?_); with_reducible assumption))
            (first
              | (go_at_call 34; (with_reducible refine Calls.mono (HBR.out _ ?_) ?_); (focus (apply heldI_nw; assumption)); rintro e6 w6 ⟨rfl, rfl⟩)
              | (go_at_call 16; (with_reducible refine Calls.mono (HSZ.out _ ?_) ?_); (focus (apply heldI_nw; assumption)); rintro e6 w6 ⟨rfl, n6⟩))
        | skip
      all_goals
        rename_i hHl
        have HNE : Hid (New w2 _) := Lib.hid ((HN4.out.trans (HN5.out.mono (fun _ _ h => h.elim))).trans ((heldI_nw hHl).mono (fun _ _ h => h.elim)))
        clear hHl
        go_wp2_with fail
        go_roundw
        case rel => exact ⟨j + 1, by omega, by push_cast; go_num, HNE.out⟩
        case measure => simp [intOf, hw]; omega
    · have d1 : decide ((j : Int) < (nl : Int)) = false := decide_eq_false (by omega)
      have d2 : decide (j < nl) = false := decide_eq_false hlt
      have HNB : Hid (New w wr) := Lib.hid (HN2.out.trans (HNW.out.mono (fun _ _ h => h.elim)))
      go_wp2
      go_ret
      exact ⟨rfl, HNB.out⟩
end Go.Proofs.Ytcppibjllaablaa.egr
