/-
  'flows' and 'Does' of layer 20's laws, whole.
-/
import Derived.Test.YtcppibjllaablaaZEgrDef
import Derived.Test.YtcppibjllaablaaZEgrR20y
import Derived.Deep.RegionHeld3
import Derived.Deep.QuietTactic
import Derived.BigQuiet
import Derived.Deep.DeepCutAuto
import Derived.Test.YtcppibjllaablaaZEgrFlow1
import Derived.Test.YtcppibjllaablaaZKaj
import Derived.Test.YtcppibjllaablaaZEgrFlow3
import Derived.Test.YtcppibjllaablaaZEgrDoes1
import Derived.Test.YtcppibjllaablaaZEgrDoes4
set_option linter.unusedVariables false
set_option linter.unusedSimpArgs false
namespace Go.Proofs.Ytcppibjllaablaa.egr
open Go.RowKit mem
open Go.Proofs.Ytcppibjllaablaa.drr (plc plc_at plc_no plc_cases before_succ before_all)
set_option linter.unusedVariables false

theorem flows_any (b : Nat) (w : World) (A : Ad) (k : Nat) (e : Eo) (al : Option Addr) (nl cl : Nat) (ar : Option Addr) (nr cr : Nat) (L : List Rf) (r : Eo) (now n : Int) (i : Nat) (a : Arg) (h : Dv b w w A k e (.slice al nl cl) (.slice ar nr cr) L r now n) (c : Dc i k e r L now n) (hi : i ≤ 200) (hr : Ra a) (hk : a.kd = 5 ∨ a.kd = 6 ∨ a.kd = 7) :
    Calls Try.prog 58 #[.agg (stS A r (.slice al nl cl) (.slice ar nr cr) now n), .agg (acs a)] w (PostF b w A L r now n a i) := by
  obtain ⟨kd, id, nn, ky, vd⟩ := a
  obtain ⟨i0, i1, n0, n1⟩ := hr
  dsimp only at i0 i1 hk
  rcases hk with rfl | rfl | rfl
  · rcases has_or L id with hno | ⟨j, f, hf, hid⟩
    · by_cases hb : vd = true → r.most ≤ nn ∧ nn ≤ 16777216
      · exact flow5_go b w A k e al nl cl ar nr cr L r now n i id nn ky vd hno i0 i1 hb h c hi
      · have hv : vd = true := by
          cases vd with
          | true => rfl
          | false => exact absurd (fun h => by cases h) hb
        subst hv
        refine flow5_bad b w A k e al nl cl ar nr cr L r now n i id nn ky hno i0 i1 ?_ h c hi
        have := fun h9 => hb (fun _ => h9)
        omega
    · exact flow5_has b w A k e al nl cl ar nr cr L r now n i j f id nn ky vd hf hid h c hi
  · rcases has_or L id with hno | ⟨j, f, hf, hid⟩
    · exact flow6_none b w A k e al nl cl ar nr cr L r now n i id nn ky vd hno i0 i1 h c hi
    · subst hid
      exact flow6_go b w A k e al nl cl ar nr cr L r now n i j f nn ky vd hf h c hi
  · rcases has_or L id with hno | ⟨j, f, hf, hid⟩
    · exact flow7_none b w A k e al nl cl ar nr cr L r now n i id nn ky vd hno i0 i1 h c hi
    · subst hid
      exact flow7_go b w A k e al nl cl ar nr cr L r now n i j f nn ky vd hf h c hi
set_option maxRecDepth 100000 in
set_option maxHeartbeats 8000000 in
theorem does5 (b : Nat) (w : World) (A : Ad) (k : Nat) (e : Eo) (al : Option Addr) (nl cl : Nat) (ar : Option Addr) (nr cr : Nat) (L : List Rf) (r : Eo) (now n : Int) (i : Nat) (id nn : Int) (ky vd : Bool) (h : Dv b w w A k e (.slice al nl cl) (.slice ar nr cr) L r now n) (c : Dc i k e r L now n) (hi : i ≤ 200) (hr : Ra ⟨5, id, nn, ky, vd⟩) :
    Calls Try.prog 27 #[.agg (stS A r (.slice al nl cl) (.slice ar nr cr) now n), .agg (acs ⟨5, id, nn, ky, vd⟩)] w (Post b w A L r now n ⟨5, id, nn, ky, vd⟩ i) := by
  have HR : Hid (Ra ⟨5, id, nn, ky, vd⟩ ∧ ((Arg.mk 5 id nn ky vd).kd = 5 ∨ (Arg.mk 5 id nn ky vd).kd = 6 ∨ (Arg.mk 5 id nn ky vd).kd = 7)) := Lib.hid ⟨hr, by simp⟩
  clear hr
  have HDV := Lib.hid h
  have HDC := Lib.hid c
  have hii := hi
  have hbx := Cx.start w A r (.slice al nl cl) (.slice ar nr cr) now n ⟨5, id, nn, ky, vd⟩
  have HBX := Lib.hid hbx
  have HB0 : Hid (b ≤ w.heap.size) := Lib.hid h.ru.base
  clear hbx h c
  go_enter Try.func27, Try.ntmps27
  go_upto_region 1 with fail
  refine (show Code.wp _ _ _ _ (((w.alloc (.cells (stS A r (.slice al nl cl) (.slice ar nr cr) now n) STT)).alloc (.cells (acs ⟨5, id, nn, ky, vd⟩) ACT)).alloc (.cells z15 STT)) from ?_)
  generalize ((w.alloc (.cells (stS A r (.slice al nl cl) (.slice ar nr cr) now n) STT)).alloc (.cells (acs ⟨5, id, nn, ky, vd⟩) ACT)).alloc (.cells z15 STT) = w1 at *
  generalize w.heap.size + 1 + 1 = pr at *
  generalize w.heap.size + 1 = pa at *
  obtain ⟨pb, hpb⟩ : ∃ pb, pb = w.heap.size := ⟨_, rfl⟩
  have HCX : Hid (Cx w w1 pb pa pr A r (.slice al nl cl) (.slice ar nr cr) now n ⟨5, id, nn, ky, vd⟩) := Lib.hid (by rw [hpb]; exact HBX.out.1)
  rw [← hpb]
  clear hpb
  have HN1 : Hid (New w w1) := Lib.hid HBX.out.2
  clear HBX
  have HD1 := Lib.hid (HDV.out.later HN1.out)
  obtain ⟨⟨s0, s1, s2, s3, s4, s5, s6, s7, s8, s9, s10, s11, s12, s13, s14⟩, _⟩ := fifteen HCX.out.b
  obtain ⟨⟨_, _, _, _, _, _, _, _, _, _, _, _, _, _, _⟩, z0, z1, z2, z3, z4, z5, z6, z7, z8, z9, z10, z11, z12, z13, z14⟩ := fifteen HCX.out.b
  have a0 : w1.cell? ⟨pa, 0, none⟩ = some (.int .i64 5) := HCX.out.a.cell 0
  have a1 : w1.cell? ⟨pa, 1, none⟩ = some (.int .i64 id) := HCX.out.a.cell 1
  have a2 : w1.cell? ⟨pa, 2, none⟩ = some (.int .i64 nn) := HCX.out.a.cell 2
  have a3 : w1.cell? ⟨pa, 3, none⟩ = some (.bool ky) := HCX.out.a.cell 3
  have a4 : w1.cell? ⟨pa, 4, none⟩ = some (.bool vd) := HCX.out.a.cell 4
  have HSE : Hid (Dv b w1 w1 A k e (.slice al nl cl) (.slice ar nr cr) L r now n) := Lib.hid (by
    have h1 := HD1.out
    exact ⟨⟨h1.ru.es, h1.ru.lo, Sf.refl _ _ _⟩, h1.ro, h1.asc, h1.sa, h1.sp, h1.rq, h1.tk⟩)
  have HFL := Lib.hid (flows_any b w1 A k e al nl cl ar nr cr L r now n i ⟨5, id, nn, ky, vd⟩ HSE.out HDC.out hii HR.out.1 HR.out.2)
  go_upto_region 32 with fail
  go_cut [20, 21] (fun v20 v21 wx => ∃ pt k' e' a5 n5 c5 a6 n6 c6 L' r', v20 = .pointer (some ⟨pt, 0, none⟩) ∧ v21 = .bool true ∧ Blk wx pt (stS A r' (.slice a5 n5 c5) (.slice a6 n6 c6) now n) STT ∧ Dv b w wx A k' e' (.slice a5 n5 c5) (.slice a6 n6 c6) L' r' now n ∧ Dc (i + 1) k' e' r' L' now n ∧ ActR now n ⟨5, id, nn, ky, vd⟩ L r L' r' now n [] ∧ Blk wx pr z15 STT ∧ pt ≠ pr)
  case first =>
    go_wp2_with fail
    refine HFL.out.mono ?_
    rintro x2 w2 ⟨k', e', vL', vS', L', r', rfl, hdv, hdc, hac⟩
    obtain ⟨a5, n5, c5, hvl, hql⟩ := hdv.ro.l.form
    obtain ⟨a6, n6, c6, hvs, hqs⟩ := hdv.ro.s.form
    subst hvl hvs
    clear hql hqs
    have HC2 := Lib.hid (HCX.out.sf hdv.ru.sf)
    have HPB : Hid (Blk (w2.alloc (.cells (stS A r' (.slice a5 n5 c5) (.slice a6 n6 c6) now n) STT)) w2.heap.size (stS A r' (.slice a5 n5 c5) (.slice a6 n6 c6) now n) STT) := Lib.hid (Blk.new _ _ _)
    have HD2 : Hid (Dv b w w2 A k' e' (.slice a5 n5 c5) (.slice a6 n6 c6) L' r' now n) := Lib.hid ⟨⟨hdv.ru.es, hdv.ru.lo, HD1.out.ru.sf.trans hdv.ru.sf⟩, hdv.ro, hdv.asc, hdv.sa, hdv.sp, hdv.rq, hdv.tk⟩
    have HDA := Lib.hid (And.intro hdc hac)
    clear hdv hdc hac s0 s1 s2 s3 s4 s5 s6 s7 s8 s9 s10 s11 s12 s13 s14 z0 z1 z2 z3 z4 z5 z6 z7 z8 z9 z10 z11 z12 z13 z14 a0 a1 a2 a3 a4
    go_wp2_with fail
    go_meet
    case rel => exact ⟨w2.heap.size, k', e', a5, n5, c5, a6, n6, c6, L', r', rfl, rfl, HPB.out, HD2.out.later ((Turns.refl _ _).alloc _), HDA.out.1, HDA.out.2, (HC2.out.later ((Turns.refl _ _).alloc _)).r, by have := HC2.out.r.lt; omega⟩
  case rest =>
    obtain ⟨pt, k', e', a5, n5, c5, a6, n6, c6, L', r', rfl, rfl, hb, hdv, hdc, hac, hrb, hne⟩ := hcut
    have HB := Lib.hid (And.intro hb hrb)
    have HD := Lib.hid hdv
    have HDC7 := Lib.hid hdc
    have HAC := Lib.hid hac
    have hne' := hne.symm
    clear hdv hdc hac s0 s1 s2 s3 s4 s5 s6 s7 s8 s9 s10 s11 s12 s13 s14 z0 z1 z2 z3 z4 z5 z6 z7 z8 z9 z10 z11 z12 z13 z14 a0 a1 a2 a3 a4
    obtain ⟨⟨s0, s1, s2, s3, s4, s5, s6, s7, s8, s9, s10, s11, s12, s13, s14⟩, _⟩ := fifteen hb
    obtain ⟨⟨t0, t1, t2, t3, t4, t5, t6, t7, t8, t9, t10, t11, t12, t13, t14⟩, y0, y1, y2, y3, y4, y5, y6, y7, y8, y9, y10, y11, y12, y13, y14⟩ := fifteen hrb
    clear hb hrb
    go_wp2_with fail
    refine (show bodyPost _ _ _ _ _ (puts wc pr 0 (stS A r' (.slice a5 n5 c5) (.slice a6 n6 c6) now n).toList) from ?_)
    have hb9 : Blk (puts wc pr 0 (stS A r' (.slice a5 n5 c5) (.slice a6 n6 c6) now n).toList) pr (stS A r' (.slice a5 n5 c5) (.slice a6 n6 c6) now n) STT := puts_blk _ _ HB.out.2 rfl
    have hd9 := HD.out.off HB.out.2 HB0.out HCX.out.lo.2.2.1 (puts_turns (S := (· = pr)) (.inl rfl) (stS A r' (.slice a5 n5 c5) (.slice a6 n6 c6) now n).toList 0 _ (Turns.refl _ _)) rfl
    have HD9 := Lib.hid hd9
    clear hd9 s0 s1 s2 s3 s4 s5 s6 s7 s8 s9 s10 s11 s12 s13 s14 t0 t1 t2 t3 t4 t5 t6 t7 t8 t9 t10 t11 t12 t13 t14 y0 y1 y2 y3 y4 y5 y6 y7 y8 y9 y10 y11 y12 y13 y14
    generalize puts wc pr 0 (stS A r' (.slice a5 n5 c5) (.slice a6 n6 c6) now n).toList = wz at *
    obtain ⟨⟨g0, g1, g2, g3, g4, g5, g6, g7, g8, g9, g10, g11, g12, g13, g14⟩, _⟩ := fifteen hb9
    refine bodyPost_ret (v := .tuple #[.agg (stS A r' (.slice a5 n5 c5) (.slice a6 n6 c6) now n), .slice none 0 0, .bool true]) (by simp [results, Try.results27, go_sem, g0, g1, g2, g3, g4, g5, g6, g7, g8, g9, g10, g11, g12, g13, g14]) rfl ?_
    exact ⟨_, _, _, _, _, _, _, _, _, [], rfl, HD9.out, HDC7.out, HAC.out, TS.nil _ _ _⟩
set_option maxRecDepth 100000 in
set_option maxHeartbeats 8000000 in
theorem does6 (b : Nat) (w : World) (A : Ad) (k : Nat) (e : Eo) (al : Option Addr) (nl cl : Nat) (ar : Option Addr) (nr cr : Nat) (L : List Rf) (r : Eo) (now n : Int) (i : Nat) (id nn : Int) (ky vd : Bool) (h : Dv b w w A k e (.slice al nl cl) (.slice ar nr cr) L r now n) (c : Dc i k e r L now n) (hi : i ≤ 200) (hr : Ra ⟨6, id, nn, ky, vd⟩) :
    Calls Try.prog 27 #[.agg (stS A r (.slice al nl cl) (.slice ar nr cr) now n), .agg (acs ⟨6, id, nn, ky, vd⟩)] w (Post b w A L r now n ⟨6, id, nn, ky, vd⟩ i) := by
  have HR : Hid (Ra ⟨6, id, nn, ky, vd⟩ ∧ ((Arg.mk 6 id nn ky vd).kd = 5 ∨ (Arg.mk 6 id nn ky vd).kd = 6 ∨ (Arg.mk 6 id nn ky vd).kd = 7)) := Lib.hid ⟨hr, by simp⟩
  clear hr
  have HDV := Lib.hid h
  have HDC := Lib.hid c
  have hii := hi
  have hbx := Cx.start w A r (.slice al nl cl) (.slice ar nr cr) now n ⟨6, id, nn, ky, vd⟩
  have HBX := Lib.hid hbx
  have HB0 : Hid (b ≤ w.heap.size) := Lib.hid h.ru.base
  clear hbx h c
  go_enter Try.func27, Try.ntmps27
  go_upto_region 1 with fail
  refine (show Code.wp _ _ _ _ (((w.alloc (.cells (stS A r (.slice al nl cl) (.slice ar nr cr) now n) STT)).alloc (.cells (acs ⟨6, id, nn, ky, vd⟩) ACT)).alloc (.cells z15 STT)) from ?_)
  generalize ((w.alloc (.cells (stS A r (.slice al nl cl) (.slice ar nr cr) now n) STT)).alloc (.cells (acs ⟨6, id, nn, ky, vd⟩) ACT)).alloc (.cells z15 STT) = w1 at *
  generalize w.heap.size + 1 + 1 = pr at *
  generalize w.heap.size + 1 = pa at *
  obtain ⟨pb, hpb⟩ : ∃ pb, pb = w.heap.size := ⟨_, rfl⟩
  have HCX : Hid (Cx w w1 pb pa pr A r (.slice al nl cl) (.slice ar nr cr) now n ⟨6, id, nn, ky, vd⟩) := Lib.hid (by rw [hpb]; exact HBX.out.1)
  rw [← hpb]
  clear hpb
  have HN1 : Hid (New w w1) := Lib.hid HBX.out.2
  clear HBX
  have HD1 := Lib.hid (HDV.out.later HN1.out)
  obtain ⟨⟨s0, s1, s2, s3, s4, s5, s6, s7, s8, s9, s10, s11, s12, s13, s14⟩, _⟩ := fifteen HCX.out.b
  obtain ⟨⟨_, _, _, _, _, _, _, _, _, _, _, _, _, _, _⟩, z0, z1, z2, z3, z4, z5, z6, z7, z8, z9, z10, z11, z12, z13, z14⟩ := fifteen HCX.out.b
  have a0 : w1.cell? ⟨pa, 0, none⟩ = some (.int .i64 6) := HCX.out.a.cell 0
  have a1 : w1.cell? ⟨pa, 1, none⟩ = some (.int .i64 id) := HCX.out.a.cell 1
  have a2 : w1.cell? ⟨pa, 2, none⟩ = some (.int .i64 nn) := HCX.out.a.cell 2
  have a3 : w1.cell? ⟨pa, 3, none⟩ = some (.bool ky) := HCX.out.a.cell 3
  have a4 : w1.cell? ⟨pa, 4, none⟩ = some (.bool vd) := HCX.out.a.cell 4
  have HSE : Hid (Dv b w1 w1 A k e (.slice al nl cl) (.slice ar nr cr) L r now n) := Lib.hid (by
    have h1 := HD1.out
    exact ⟨⟨h1.ru.es, h1.ru.lo, Sf.refl _ _ _⟩, h1.ro, h1.asc, h1.sa, h1.sp, h1.rq, h1.tk⟩)
  have HFL := Lib.hid (flows_any b w1 A k e al nl cl ar nr cr L r now n i ⟨6, id, nn, ky, vd⟩ HSE.out HDC.out hii HR.out.1 HR.out.2)
  go_upto_region 32 with fail
  go_cut [20, 21] (fun v20 v21 wx => ∃ pt k' e' a5 n5 c5 a6 n6 c6 L' r', v20 = .pointer (some ⟨pt, 0, none⟩) ∧ v21 = .bool true ∧ Blk wx pt (stS A r' (.slice a5 n5 c5) (.slice a6 n6 c6) now n) STT ∧ Dv b w wx A k' e' (.slice a5 n5 c5) (.slice a6 n6 c6) L' r' now n ∧ Dc (i + 1) k' e' r' L' now n ∧ ActR now n ⟨6, id, nn, ky, vd⟩ L r L' r' now n [] ∧ Blk wx pr z15 STT ∧ pt ≠ pr)
  case first =>
    go_wp2_with fail
    refine HFL.out.mono ?_
    rintro x2 w2 ⟨k', e', vL', vS', L', r', rfl, hdv, hdc, hac⟩
    obtain ⟨a5, n5, c5, hvl, hql⟩ := hdv.ro.l.form
    obtain ⟨a6, n6, c6, hvs, hqs⟩ := hdv.ro.s.form
    subst hvl hvs
    clear hql hqs
    have HC2 := Lib.hid (HCX.out.sf hdv.ru.sf)
    have HPB : Hid (Blk (w2.alloc (.cells (stS A r' (.slice a5 n5 c5) (.slice a6 n6 c6) now n) STT)) w2.heap.size (stS A r' (.slice a5 n5 c5) (.slice a6 n6 c6) now n) STT) := Lib.hid (Blk.new _ _ _)
    have HD2 : Hid (Dv b w w2 A k' e' (.slice a5 n5 c5) (.slice a6 n6 c6) L' r' now n) := Lib.hid ⟨⟨hdv.ru.es, hdv.ru.lo, HD1.out.ru.sf.trans hdv.ru.sf⟩, hdv.ro, hdv.asc, hdv.sa, hdv.sp, hdv.rq, hdv.tk⟩
    have HDA := Lib.hid (And.intro hdc hac)
    clear hdv hdc hac s0 s1 s2 s3 s4 s5 s6 s7 s8 s9 s10 s11 s12 s13 s14 z0 z1 z2 z3 z4 z5 z6 z7 z8 z9 z10 z11 z12 z13 z14 a0 a1 a2 a3 a4
    go_wp2_with fail
    go_meet
    case rel => exact ⟨w2.heap.size, k', e', a5, n5, c5, a6, n6, c6, L', r', rfl, rfl, HPB.out, HD2.out.later ((Turns.refl _ _).alloc _), HDA.out.1, HDA.out.2, (HC2.out.later ((Turns.refl _ _).alloc _)).r, by have := HC2.out.r.lt; omega⟩
  case rest =>
    obtain ⟨pt, k', e', a5, n5, c5, a6, n6, c6, L', r', rfl, rfl, hb, hdv, hdc, hac, hrb, hne⟩ := hcut
    have HB := Lib.hid (And.intro hb hrb)
    have HD := Lib.hid hdv
    have HDC7 := Lib.hid hdc
    have HAC := Lib.hid hac
    have hne' := hne.symm
    clear hdv hdc hac s0 s1 s2 s3 s4 s5 s6 s7 s8 s9 s10 s11 s12 s13 s14 z0 z1 z2 z3 z4 z5 z6 z7 z8 z9 z10 z11 z12 z13 z14 a0 a1 a2 a3 a4
    obtain ⟨⟨s0, s1, s2, s3, s4, s5, s6, s7, s8, s9, s10, s11, s12, s13, s14⟩, _⟩ := fifteen hb
    obtain ⟨⟨t0, t1, t2, t3, t4, t5, t6, t7, t8, t9, t10, t11, t12, t13, t14⟩, y0, y1, y2, y3, y4, y5, y6, y7, y8, y9, y10, y11, y12, y13, y14⟩ := fifteen hrb
    clear hb hrb
    go_wp2_with fail
    refine (show bodyPost _ _ _ _ _ (puts wc pr 0 (stS A r' (.slice a5 n5 c5) (.slice a6 n6 c6) now n).toList) from ?_)
    have hb9 : Blk (puts wc pr 0 (stS A r' (.slice a5 n5 c5) (.slice a6 n6 c6) now n).toList) pr (stS A r' (.slice a5 n5 c5) (.slice a6 n6 c6) now n) STT := puts_blk _ _ HB.out.2 rfl
    have hd9 := HD.out.off HB.out.2 HB0.out HCX.out.lo.2.2.1 (puts_turns (S := (· = pr)) (.inl rfl) (stS A r' (.slice a5 n5 c5) (.slice a6 n6 c6) now n).toList 0 _ (Turns.refl _ _)) rfl
    have HD9 := Lib.hid hd9
    clear hd9 s0 s1 s2 s3 s4 s5 s6 s7 s8 s9 s10 s11 s12 s13 s14 t0 t1 t2 t3 t4 t5 t6 t7 t8 t9 t10 t11 t12 t13 t14 y0 y1 y2 y3 y4 y5 y6 y7 y8 y9 y10 y11 y12 y13 y14
    generalize puts wc pr 0 (stS A r' (.slice a5 n5 c5) (.slice a6 n6 c6) now n).toList = wz at *
    obtain ⟨⟨g0, g1, g2, g3, g4, g5, g6, g7, g8, g9, g10, g11, g12, g13, g14⟩, _⟩ := fifteen hb9
    refine bodyPost_ret (v := .tuple #[.agg (stS A r' (.slice a5 n5 c5) (.slice a6 n6 c6) now n), .slice none 0 0, .bool true]) (by simp [results, Try.results27, go_sem, g0, g1, g2, g3, g4, g5, g6, g7, g8, g9, g10, g11, g12, g13, g14]) rfl ?_
    exact ⟨_, _, _, _, _, _, _, _, _, [], rfl, HD9.out, HDC7.out, HAC.out, TS.nil _ _ _⟩
set_option maxRecDepth 100000 in
set_option maxHeartbeats 8000000 in
theorem does7 (b : Nat) (w : World) (A : Ad) (k : Nat) (e : Eo) (al : Option Addr) (nl cl : Nat) (ar : Option Addr) (nr cr : Nat) (L : List Rf) (r : Eo) (now n : Int) (i : Nat) (id nn : Int) (ky vd : Bool) (h : Dv b w w A k e (.slice al nl cl) (.slice ar nr cr) L r now n) (c : Dc i k e r L now n) (hi : i ≤ 200) (hr : Ra ⟨7, id, nn, ky, vd⟩) :
    Calls Try.prog 27 #[.agg (stS A r (.slice al nl cl) (.slice ar nr cr) now n), .agg (acs ⟨7, id, nn, ky, vd⟩)] w (Post b w A L r now n ⟨7, id, nn, ky, vd⟩ i) := by
  have HR : Hid (Ra ⟨7, id, nn, ky, vd⟩ ∧ ((Arg.mk 7 id nn ky vd).kd = 5 ∨ (Arg.mk 7 id nn ky vd).kd = 6 ∨ (Arg.mk 7 id nn ky vd).kd = 7)) := Lib.hid ⟨hr, by simp⟩
  clear hr
  have HDV := Lib.hid h
  have HDC := Lib.hid c
  have hii := hi
  have hbx := Cx.start w A r (.slice al nl cl) (.slice ar nr cr) now n ⟨7, id, nn, ky, vd⟩
  have HBX := Lib.hid hbx
  have HB0 : Hid (b ≤ w.heap.size) := Lib.hid h.ru.base
  clear hbx h c
  go_enter Try.func27, Try.ntmps27
  go_upto_region 1 with fail
  refine (show Code.wp _ _ _ _ (((w.alloc (.cells (stS A r (.slice al nl cl) (.slice ar nr cr) now n) STT)).alloc (.cells (acs ⟨7, id, nn, ky, vd⟩) ACT)).alloc (.cells z15 STT)) from ?_)
  generalize ((w.alloc (.cells (stS A r (.slice al nl cl) (.slice ar nr cr) now n) STT)).alloc (.cells (acs ⟨7, id, nn, ky, vd⟩) ACT)).alloc (.cells z15 STT) = w1 at *
  generalize w.heap.size + 1 + 1 = pr at *
  generalize w.heap.size + 1 = pa at *
  obtain ⟨pb, hpb⟩ : ∃ pb, pb = w.heap.size := ⟨_, rfl⟩
  have HCX : Hid (Cx w w1 pb pa pr A r (.slice al nl cl) (.slice ar nr cr) now n ⟨7, id, nn, ky, vd⟩) := Lib.hid (by rw [hpb]; exact HBX.out.1)
  rw [← hpb]
  clear hpb
  have HN1 : Hid (New w w1) := Lib.hid HBX.out.2
  clear HBX
  have HD1 := Lib.hid (HDV.out.later HN1.out)
  obtain ⟨⟨s0, s1, s2, s3, s4, s5, s6, s7, s8, s9, s10, s11, s12, s13, s14⟩, _⟩ := fifteen HCX.out.b
  obtain ⟨⟨_, _, _, _, _, _, _, _, _, _, _, _, _, _, _⟩, z0, z1, z2, z3, z4, z5, z6, z7, z8, z9, z10, z11, z12, z13, z14⟩ := fifteen HCX.out.b
  have a0 : w1.cell? ⟨pa, 0, none⟩ = some (.int .i64 7) := HCX.out.a.cell 0
  have a1 : w1.cell? ⟨pa, 1, none⟩ = some (.int .i64 id) := HCX.out.a.cell 1
  have a2 : w1.cell? ⟨pa, 2, none⟩ = some (.int .i64 nn) := HCX.out.a.cell 2
  have a3 : w1.cell? ⟨pa, 3, none⟩ = some (.bool ky) := HCX.out.a.cell 3
  have a4 : w1.cell? ⟨pa, 4, none⟩ = some (.bool vd) := HCX.out.a.cell 4
  have HSE : Hid (Dv b w1 w1 A k e (.slice al nl cl) (.slice ar nr cr) L r now n) := Lib.hid (by
    have h1 := HD1.out
    exact ⟨⟨h1.ru.es, h1.ru.lo, Sf.refl _ _ _⟩, h1.ro, h1.asc, h1.sa, h1.sp, h1.rq, h1.tk⟩)
  have HFL := Lib.hid (flows_any b w1 A k e al nl cl ar nr cr L r now n i ⟨7, id, nn, ky, vd⟩ HSE.out HDC.out hii HR.out.1 HR.out.2)
  go_upto_region 32 with fail
  go_cut [20, 21] (fun v20 v21 wx => ∃ pt k' e' a5 n5 c5 a6 n6 c6 L' r', v20 = .pointer (some ⟨pt, 0, none⟩) ∧ v21 = .bool true ∧ Blk wx pt (stS A r' (.slice a5 n5 c5) (.slice a6 n6 c6) now n) STT ∧ Dv b w wx A k' e' (.slice a5 n5 c5) (.slice a6 n6 c6) L' r' now n ∧ Dc (i + 1) k' e' r' L' now n ∧ ActR now n ⟨7, id, nn, ky, vd⟩ L r L' r' now n [] ∧ Blk wx pr z15 STT ∧ pt ≠ pr)
  case first =>
    go_wp2_with fail
    refine HFL.out.mono ?_
    rintro x2 w2 ⟨k', e', vL', vS', L', r', rfl, hdv, hdc, hac⟩
    obtain ⟨a5, n5, c5, hvl, hql⟩ := hdv.ro.l.form
    obtain ⟨a6, n6, c6, hvs, hqs⟩ := hdv.ro.s.form
    subst hvl hvs
    clear hql hqs
    have HC2 := Lib.hid (HCX.out.sf hdv.ru.sf)
    have HPB : Hid (Blk (w2.alloc (.cells (stS A r' (.slice a5 n5 c5) (.slice a6 n6 c6) now n) STT)) w2.heap.size (stS A r' (.slice a5 n5 c5) (.slice a6 n6 c6) now n) STT) := Lib.hid (Blk.new _ _ _)
    have HD2 : Hid (Dv b w w2 A k' e' (.slice a5 n5 c5) (.slice a6 n6 c6) L' r' now n) := Lib.hid ⟨⟨hdv.ru.es, hdv.ru.lo, HD1.out.ru.sf.trans hdv.ru.sf⟩, hdv.ro, hdv.asc, hdv.sa, hdv.sp, hdv.rq, hdv.tk⟩
    have HDA := Lib.hid (And.intro hdc hac)
    clear hdv hdc hac s0 s1 s2 s3 s4 s5 s6 s7 s8 s9 s10 s11 s12 s13 s14 z0 z1 z2 z3 z4 z5 z6 z7 z8 z9 z10 z11 z12 z13 z14 a0 a1 a2 a3 a4
    go_wp2_with fail
    go_meet
    case rel => exact ⟨w2.heap.size, k', e', a5, n5, c5, a6, n6, c6, L', r', rfl, rfl, HPB.out, HD2.out.later ((Turns.refl _ _).alloc _), HDA.out.1, HDA.out.2, (HC2.out.later ((Turns.refl _ _).alloc _)).r, by have := HC2.out.r.lt; omega⟩
  case rest =>
    obtain ⟨pt, k', e', a5, n5, c5, a6, n6, c6, L', r', rfl, rfl, hb, hdv, hdc, hac, hrb, hne⟩ := hcut
    have HB := Lib.hid (And.intro hb hrb)
    have HD := Lib.hid hdv
    have HDC7 := Lib.hid hdc
    have HAC := Lib.hid hac
    have hne' := hne.symm
    clear hdv hdc hac s0 s1 s2 s3 s4 s5 s6 s7 s8 s9 s10 s11 s12 s13 s14 z0 z1 z2 z3 z4 z5 z6 z7 z8 z9 z10 z11 z12 z13 z14 a0 a1 a2 a3 a4
    obtain ⟨⟨s0, s1, s2, s3, s4, s5, s6, s7, s8, s9, s10, s11, s12, s13, s14⟩, _⟩ := fifteen hb
    obtain ⟨⟨t0, t1, t2, t3, t4, t5, t6, t7, t8, t9, t10, t11, t12, t13, t14⟩, y0, y1, y2, y3, y4, y5, y6, y7, y8, y9, y10, y11, y12, y13, y14⟩ := fifteen hrb
    clear hb hrb
    go_wp2_with fail
    refine (show bodyPost _ _ _ _ _ (puts wc pr 0 (stS A r' (.slice a5 n5 c5) (.slice a6 n6 c6) now n).toList) from ?_)
    have hb9 : Blk (puts wc pr 0 (stS A r' (.slice a5 n5 c5) (.slice a6 n6 c6) now n).toList) pr (stS A r' (.slice a5 n5 c5) (.slice a6 n6 c6) now n) STT := puts_blk _ _ HB.out.2 rfl
    have hd9 := HD.out.off HB.out.2 HB0.out HCX.out.lo.2.2.1 (puts_turns (S := (· = pr)) (.inl rfl) (stS A r' (.slice a5 n5 c5) (.slice a6 n6 c6) now n).toList 0 _ (Turns.refl _ _)) rfl
    have HD9 := Lib.hid hd9
    clear hd9 s0 s1 s2 s3 s4 s5 s6 s7 s8 s9 s10 s11 s12 s13 s14 t0 t1 t2 t3 t4 t5 t6 t7 t8 t9 t10 t11 t12 t13 t14 y0 y1 y2 y3 y4 y5 y6 y7 y8 y9 y10 y11 y12 y13 y14
    generalize puts wc pr 0 (stS A r' (.slice a5 n5 c5) (.slice a6 n6 c6) now n).toList = wz at *
    obtain ⟨⟨g0, g1, g2, g3, g4, g5, g6, g7, g8, g9, g10, g11, g12, g13, g14⟩, _⟩ := fifteen hb9
    refine bodyPost_ret (v := .tuple #[.agg (stS A r' (.slice a5 n5 c5) (.slice a6 n6 c6) now n), .slice none 0 0, .bool true]) (by simp [results, Try.results27, go_sem, g0, g1, g2, g3, g4, g5, g6, g7, g8, g9, g10, g11, g12, g13, g14]) rfl ?_
    exact ⟨_, _, _, _, _, _, _, _, _, [], rfl, HD9.out, HDC7.out, HAC.out, TS.nil _ _ _⟩
theorem does (b : Nat) (w : World) (A : Ad) (k : Nat) (e : Eo) (vL vS : Value) (L : List Rf) (r : Eo) (now n : Int) (i : Nat) (a : Arg) (h : Dv b w w A k e vL vS L r now n) (c : Dc i k e r L now n) (hi : i ≤ 200) (hr : Ra a) :
    Calls Try.prog 27 #[.agg (stS A r vL vS now n), .agg (acs a)] w (Post b w A L r now n a i) := by
  obtain ⟨al, nl, cl, hvl, _⟩ := h.ro.l.form
  obtain ⟨ar, nr, cr, hvs, _⟩ := h.ro.s.form
  subst hvl hvs
  obtain ⟨kd, id, nn, ky, vd⟩ := a
  have hr' := hr
  obtain ⟨i0, i1, n0, n1⟩ := hr'
  dsimp only at i0 i1 n0 n1
  by_cases k1 : kd = 1
  · subst k1
    rcases has_or L id with hno | ⟨j, f, hf, hid⟩
    · exact does1_no b w A k e al nl cl ar nr cr L r now n i id nn ky vd h c hi i0 i1 (.inl hno)
    · by_cases hm : nn ≤ r.most
      · exact does1_some b w A k e al nl cl ar nr cr L r now n i f j id nn ky vd h c hi hf hid n0 hm
      · exact does1_no b w A k e al nl cl ar nr cr L r now n i id nn ky vd h c hi i0 i1 (.inr ⟨j, f, hf, hid, by omega⟩)
  by_cases k2 : kd = 2
  · subst k2
    exact does2 b w A k e al nl cl ar nr cr L r now n i id nn ky vd h c hi n0 n1
  by_cases k3 : kd = 3
  · subst k3
    exact does3 b w A k e al nl cl ar nr cr L r now n i id nn ky vd h c hi
  by_cases k4 : kd = 4
  · subst k4
    exact does4 b w A k e al nl cl ar nr cr L r now n i id nn ky vd _ rfl h c hi
  by_cases k5 : kd = 5 ∨ kd = 6 ∨ kd = 7
  · rcases k5 with rfl | rfl | rfl
    · exact does5 b w A k e al nl cl ar nr cr L r now n i id nn ky vd h c hi hr
    · exact does6 b w A k e al nl cl ar nr cr L r now n i id nn ky vd h c hi hr
    · exact does7 b w A k e al nl cl ar nr cr L r now n i id nn ky vd h c hi hr
  · exact does0 b w A k e al nl cl ar nr cr L r now n i kd id nn ky vd h c hi (by simpa using k1) (by simpa using k2) (by simpa using k3) (by simpa using k4) (by simp; omega) (by simp; omega) (by simp; omega)
end Go.Proofs.Ytcppibjllaablaa.egr
