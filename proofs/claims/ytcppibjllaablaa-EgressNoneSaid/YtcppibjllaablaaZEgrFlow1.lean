/-
  'flows' of layer 20's laws: Add, refused.
-/
import Derived.Test.YtcppibjllaablaaZEgrDef
import Derived.Test.YtcppibjllaablaaZEgrR20y
import Derived.Deep.RegionHeld3
import Derived.Deep.QuietTactic
import Derived.BigQuiet
import Derived.Deep.DeepCutAuto
set_option linter.unusedVariables false
set_option linter.unusedSimpArgs false
namespace Go.Proofs.Ytcppibjllaablaa.egr
open Go.RowKit mem
open Go.Proofs.Ytcppibjllaablaa.drr (plc plc_at plc_no plc_cases before_succ before_all)
set_option linter.unusedVariables false

set_option maxRecDepth 100000 in
set_option maxHeartbeats 8000000 in
theorem flow5_has (b : Nat) (w : World) (A : Ad) (k : Nat) (e : Eo) (al : Option Addr) (nl cl : Nat) (ar : Option Addr) (nr cr : Nat) (L : List Rf) (r : Eo) (now n : Int) (i : Nat) (j : Nat) (f : Rf) (id nn : Int) (ky vd : Bool) (hf : L[j]? = some f) (hid : f.id = id) (h : Dv b w w A k e (.slice al nl cl) (.slice ar nr cr) L r now n) (c : Dc i k e r L now n) (hi : i ≤ 200) :
    Calls Try.prog 58 #[.agg (stS A r (.slice al nl cl) (.slice ar nr cr) now n), .agg (acs ⟨5, id, nn, ky, vd⟩)] w (PostF b w A L r now n ⟨5, id, nn, ky, vd⟩ i) := by
  have HX := Lib.hid (And.intro hf hid)
  clear hf hid
  have HDV := Lib.hid h
  have HDC := Lib.hid c
  have hii := hi
  have hbx := Cx.start w A r (.slice al nl cl) (.slice ar nr cr) now n ⟨5, id, nn, ky, vd⟩
  have HBX := Lib.hid hbx
  have HB0 : Hid (b ≤ w.heap.size) := Lib.hid h.ru.base
  clear hbx h c
  go_enter Try.func58, Try.ntmps58
  go_upto_region 1 with fail
  refine (show Code.wp _ _ _ _ (((w.alloc (.cells (stS A r (.slice al nl cl) (.slice ar nr cr) now n) STT)).alloc (.cells (acs ⟨5, id, nn, ky, vd⟩) ACT)).alloc (.cells z15 STT)) from ?_)
  generalize ((w.alloc (.cells (stS A r (.slice al nl cl) (.slice ar nr cr) now n) STT)).alloc (.cells (acs ⟨5, id, nn, ky, vd⟩) ACT)).alloc (.cells z15 STT) = w1 at *
  generalize w.heap.size + 1 + 1 = pr at *
  generalize w.heap.size + 1 = pa at *
  obtain ⟨pb, hpb⟩ : ∃ pb, pb = w.heap.size := ⟨_, rfl⟩
  have HCX : Hid (Cx w w1 pb pa pr A r (.slice al nl cl) (.slice ar nr cr) now n ⟨5, id, nn, ky, vd⟩) := Lib.hid (by rw [hpb]; exact HBX.out.1)
  rw [← hpb]
  clear hpb
  have HN1 : Hid (New w w1) := Lib.hid HBX.out.2
  clear HBX
  have HD1 := Lib.hid (HDV.out.later HN1.out)
  obtain ⟨⟨s0, s1, s2, s3, s4, s5, s6, s7, s8, s9, s10, s11, s12, s13, s14⟩, _⟩ := fifteen HCX.out.b
  have a0 : w1.cell? ⟨pa, 0, none⟩ = some (.int .i64 5) := HCX.out.a.cell 0
  have a1 : w1.cell? ⟨pa, 1, none⟩ = some (.int .i64 id) := HCX.out.a.cell 1
  have a2 : w1.cell? ⟨pa, 2, none⟩ = some (.int .i64 nn) := HCX.out.a.cell 2
  have a4 : w1.cell? ⟨pa, 4, none⟩ = some (.bool vd) := HCX.out.a.cell 4
  have HPT : Hid (Calls Try.prog 33 #[.pointer (some ⟨A.o, 0, none⟩), .int .i64 id, .bool vd, .int .i64 nn] w1 fun x w' => x = .returned (.int .i64 10) ∧ New w1 w') := Lib.hid (by
    obtain ⟨g, hg, hgid, _⟩ := HD1.out.flow HX.out.1
    have := add_there A k e g vd nn w1 HD1.out.ru.es hg
    rw [hgid, HX.out.2] at this
    exact this.mono (fun x w' ⟨h1, h2⟩ => ⟨h1, by rw [h2]; exact Turns.refl _ _⟩))
  go_wp2_with fail
  refine HPT.out.mono ?_
  rintro x4 w4 ⟨rfl, n4⟩
  have HC4 := Lib.hid (HCX.out.later n4)
  have HD4 := Lib.hid (HD1.out.later n4)
  clear s0 s1 s2 s3 s4 s5 s6 s7 s8 s9 s10 s11 s12 s13 s14 a0 a1 a2 a4 n4 HPT
  obtain ⟨⟨s0, s1, s2, s3, s4, s5, s6, s7, s8, s9, s10, s11, s12, s13, s14⟩, _⟩ := fifteen HC4.out.b
  have a0 : w4.cell? ⟨pa, 0, none⟩ = some (.int .i64 5) := HC4.out.a.cell 0
  have a1 : w4.cell? ⟨pa, 1, none⟩ = some (.int .i64 id) := HC4.out.a.cell 1
  have a2 : w4.cell? ⟨pa, 2, none⟩ = some (.int .i64 nn) := HC4.out.a.cell 2
  have a4 : w4.cell? ⟨pa, 4, none⟩ = some (.bool vd) := HC4.out.a.cell 4
  have HRP : Hid (Calls Try.prog 76 #[.agg (rO r (.slice al nl cl) (.slice ar nr cr)), .int .i64 id, .bool vd, .int .i64 nn] w4 fun x w' => x = .returned (.tuple #[.agg (rO r (.slice al nl cl) (.slice ar nr cr)), .int .i64 10]) ∧ New w4 w') := Lib.hid (by
    have := rad_has al nl cl ar nr cr L r j f vd nn w4 HD4.out.ro (by have := HDC.out.l; omega) HD4.out.asc HX.out.1
    rw [HX.out.2] at this
    exact this)
  go_wp2_with fail
  refine HRP.out.mono ?_
  rintro x5 w5 ⟨rfl, n5⟩
  have HC5 := Lib.hid (HC4.out.later n5)
  have HD5 := Lib.hid (HD4.out.later n5)
  clear s0 s1 s2 s3 s4 s5 s6 s7 s8 s9 s10 s11 s12 s13 s14 a0 a1 a2 a4 n5 HRP
  have HYB : Hid (Blk (w5.alloc (.cells (rO r (.slice al nl cl) (.slice ar nr cr)) RT20)) w5.heap.size (rO r (.slice al nl cl) (.slice ar nr cr)) RT20) := Lib.hid (Blk.new _ _ _)
  have HNY : Hid (New w5 (w5.alloc (.cells (rO r (.slice al nl cl) (.slice ar nr cr)) RT20))) := Lib.hid ((Turns.refl _ _).alloc _)
  go_upto_region 5 with fail
  refine (show Code.wp _ _ _ _ (w5.alloc (.cells (rO r (.slice al nl cl) (.slice ar nr cr)) RT20)) from ?_)
  have hyp : w5.heap.size ≠ pb := Nat.ne_of_gt HC5.out.b.lt
  generalize w5.alloc (.cells (rO r (.slice al nl cl) (.slice ar nr cr)) RT20) = w6 at *
  generalize w5.heap.size = py at *
  have HC6 := Lib.hid (HC5.out.later HNY.out)
  obtain ⟨⟨s0, s1, s2, s3, s4, s5, s6, s7, s8, s9, s10, s11, s12, s13, s14⟩, z0, z1, z2, z3, z4, z5, z6, z7, z8, z9, z10, z11, z12, z13, z14⟩ := fifteen HC6.out.b
  obtain ⟨⟨k0, k1, k2, k3, k4, k5, k6, k7, k8, k9, k10, k11⟩, _⟩ := twelve HYB.out
  have HT7 : Hid (Turns (· = pb) w6 (puts w6 pb 1 [.int .i64 r.frames, .int .i64 r.bytes, .int .i64 r.age, .int .i64 r.most, .int .i64 r.guard, (.slice al nl cl), .int .i64 r.s.most, (.slice ar nr cr), .int .i64 r.s.turn, .bool r.s.g, .int .i64 r.credit, .int .i64 r.row])) := Lib.hid (puts_turns (S := (· = pb)) (p := pb) (.inl rfl) [.int .i64 r.frames, .int .i64 r.bytes, .int .i64 r.age, .int .i64 r.most, .int .i64 r.guard, (.slice al nl cl), .int .i64 r.s.most, (.slice ar nr cr), .int .i64 r.s.turn, .bool r.s.g, .int .i64 r.credit, .int .i64 r.row] 1 w6 (Turns.refl _ _))
  have hb7 : Blk (puts w6 pb 1 [.int .i64 r.frames, .int .i64 r.bytes, .int .i64 r.age, .int .i64 r.most, .int .i64 r.guard, (.slice al nl cl), .int .i64 r.s.most, (.slice ar nr cr), .int .i64 r.s.turn, .bool r.s.g, .int .i64 r.credit, .int .i64 r.row]) pb (stS A r (.slice al nl cl) (.slice ar nr cr) now n) STT := puts_over [.int .i64 r.frames, .int .i64 r.bytes, .int .i64 r.age, .int .i64 r.most, .int .i64 r.guard, (.slice al nl cl), .int .i64 r.s.most, (.slice ar nr cr), .int .i64 r.s.turn, .bool r.s.g, .int .i64 r.credit, .int .i64 r.row] 1 _ _ HC6.out.b
  have HC7 : Hid (Cx w (puts w6 pb 1 [.int .i64 r.frames, .int .i64 r.bytes, .int .i64 r.age, .int .i64 r.most, .int .i64 r.guard, (.slice al nl cl), .int .i64 r.s.most, (.slice ar nr cr), .int .i64 r.s.turn, .bool r.s.g, .int .i64 r.credit, .int .i64 r.row]) pb pa pr A r (.slice al nl cl) (.slice ar nr cr) now n ⟨5, id, nn, ky, vd⟩) := Lib.hid (HC6.out.self HT7.out hb7)
  clear hb7
  go_upto_region 6 with fail
  refine (show Code.wp _ _ _ _ (puts w6 pb 1 [.int .i64 r.frames, .int .i64 r.bytes, .int .i64 r.age, .int .i64 r.most, .int .i64 r.guard, (.slice al nl cl), .int .i64 r.s.most, (.slice ar nr cr), .int .i64 r.s.turn, .bool r.s.g, .int .i64 r.credit, .int .i64 r.row]) from ?_)
  clear s0 s1 s2 s3 s4 s5 s6 s7 s8 s9 s10 s11 s12 s13 s14 z0 z1 z2 z3 z4 z5 z6 z7 z8 z9 z10 z11 z12 z13 z14 k0 k1 k2 k3 k4 k5 k6 k7 k8 k9 k10 k11 hyp
  generalize puts w6 pb 1 [.int .i64 r.frames, .int .i64 r.bytes, .int .i64 r.age, .int .i64 r.most, .int .i64 r.guard, (.slice al nl cl), .int .i64 r.s.most, (.slice ar nr cr), .int .i64 r.s.turn, .bool r.s.g, .int .i64 r.credit, .int .i64 r.row] = w7 at *
  have HDV7 : Hid (Dv b w w7 A k e (.slice al nl cl) (.slice ar nr cr) L r now n) := Lib.hid ((HD5.out.later HNY.out).off HC6.out.b HB0.out HC6.out.lo.1 HT7.out rfl)
  have HDC7 : Hid (Dc (i + 1) k e r L now n) := Lib.hid (by
    have h1 := HDC.out
    exact ⟨by have := h1.k; omega, by have := h1.l; omega, by have := h1.s; omega, by have := h1.n0; omega, by have := h1.n1; push_cast; omega, h1.t0, by have := h1.t1; push_cast; omega, h1.r0, by have := h1.r1; push_cast; omega, h1.fr⟩)
  have HAC : Hid (ActR now n ⟨5, id, nn, ky, vd⟩ L r L r now n []) := Lib.hid (ActR.no (a := ⟨5, id, nn, ky, vd⟩) _ (.inl rfl) (fun h => by cases h) (fun h => by cases h))
  clear HD1 HC4 HC5 HT7 HNY HC6 HYB HDV HDC HD4 HD5
  have hrb := HC7.out.lo.2.2.2.1
  have hrb' := hrb.symm
  obtain ⟨⟨s0, s1, s2, s3, s4, s5, s6, s7, s8, s9, s10, s11, s12, s13, s14⟩, _⟩ := fifteen HC7.out.b
  obtain ⟨⟨t0, t1, t2, t3, t4, t5, t6, t7, t8, t9, t10, t11, t12, t13, t14⟩, y0, y1, y2, y3, y4, y5, y6, y7, y8, y9, y10, y11, y12, y13, y14⟩ := fifteen HC7.out.r
  go_wp2_with fail
  refine (show bodyPost _ _ _ _ _ (puts w7 pr 0 (stS A r (.slice al nl cl) (.slice ar nr cr) now n).toList) from ?_)
  have hfin := HC7.out.fin HDV7.out HB0.out (w9 := w7) (Turns.refl _ _)
  have HFIN := Lib.hid hfin
  clear hfin s0 s1 s2 s3 s4 s5 s6 s7 s8 s9 s10 s11 s12 s13 s14 t0 t1 t2 t3 t4 t5 t6 t7 t8 t9 t10 t11 t12 t13 t14 y0 y1 y2 y3 y4 y5 y6 y7 y8 y9 y10 y11 y12 y13 y14
  generalize puts w7 pr 0 (stS A r (.slice al nl cl) (.slice ar nr cr) now n).toList = wz at *
  obtain ⟨⟨g0, g1, g2, g3, g4, g5, g6, g7, g8, g9, g10, g11, g12, g13, g14⟩, _⟩ := fifteen HFIN.out.1
  refine bodyPost_ret (v := .tuple #[.agg (stS A r (.slice al nl cl) (.slice ar nr cr) now n), .bool true]) (by simp [results, Try.results58, go_sem, g0, g1, g2, g3, g4, g5, g6, g7, g8, g9, g10, g11, g12, g13, g14]) rfl ?_
  exact ⟨_, _, _, _, _, _, rfl, HFIN.out.2, HDC7.out, HAC.out⟩
set_option maxRecDepth 100000 in
set_option maxHeartbeats 8000000 in
theorem flow5_bad (b : Nat) (w : World) (A : Ad) (k : Nat) (e : Eo) (al : Option Addr) (nl cl : Nat) (ar : Option Addr) (nr cr : Nat) (L : List Rf) (r : Eo) (now n : Int) (i : Nat) (id nn : Int) (ky : Bool) (hno : ∀ f ∈ L, f.id ≠ id) (i0 : -9223372036854775808 ≤ id) (i1 : id ≤ 9223372036854775807) (hb : nn < r.most ∨ 16777216 < nn) (h : Dv b w w A k e (.slice al nl cl) (.slice ar nr cr) L r now n) (c : Dc i k e r L now n) (hi : i ≤ 200) :
    Calls Try.prog 58 #[.agg (stS A r (.slice al nl cl) (.slice ar nr cr) now n), .agg (acs ⟨5, id, nn, ky, true⟩)] w (PostF b w A L r now n ⟨5, id, nn, ky, true⟩ i) := by
  have HX := Lib.hid (And.intro hno (And.intro hb (And.intro i0 i1)))
  clear hno hb i0 i1
  have HDV := Lib.hid h
  have HDC := Lib.hid c
  have hii := hi
  have hbx := Cx.start w A r (.slice al nl cl) (.slice ar nr cr) now n ⟨5, id, nn, ky, true⟩
  have HBX := Lib.hid hbx
  have HB0 : Hid (b ≤ w.heap.size) := Lib.hid h.ru.base
  clear hbx h c
  go_enter Try.func58, Try.ntmps58
  go_upto_region 1 with fail
  refine (show Code.wp _ _ _ _ (((w.alloc (.cells (stS A r (.slice al nl cl) (.slice ar nr cr) now n) STT)).alloc (.cells (acs ⟨5, id, nn, ky, true⟩) ACT)).alloc (.cells z15 STT)) from ?_)
  generalize ((w.alloc (.cells (stS A r (.slice al nl cl) (.slice ar nr cr) now n) STT)).alloc (.cells (acs ⟨5, id, nn, ky, true⟩) ACT)).alloc (.cells z15 STT) = w1 at *
  generalize w.heap.size + 1 + 1 = pr at *
  generalize w.heap.size + 1 = pa at *
  obtain ⟨pb, hpb⟩ : ∃ pb, pb = w.heap.size := ⟨_, rfl⟩
  have HCX : Hid (Cx w w1 pb pa pr A r (.slice al nl cl) (.slice ar nr cr) now n ⟨5, id, nn, ky, true⟩) := Lib.hid (by rw [hpb]; exact HBX.out.1)
  rw [← hpb]
  clear hpb
  have HN1 : Hid (New w w1) := Lib.hid HBX.out.2
  clear HBX
  have HD1 := Lib.hid (HDV.out.later HN1.out)
  obtain ⟨⟨s0, s1, s2, s3, s4, s5, s6, s7, s8, s9, s10, s11, s12, s13, s14⟩, _⟩ := fifteen HCX.out.b
  have a0 : w1.cell? ⟨pa, 0, none⟩ = some (.int .i64 5) := HCX.out.a.cell 0
  have a1 : w1.cell? ⟨pa, 1, none⟩ = some (.int .i64 id) := HCX.out.a.cell 1
  have a2 : w1.cell? ⟨pa, 2, none⟩ = some (.int .i64 nn) := HCX.out.a.cell 2
  have a4 : w1.cell? ⟨pa, 4, none⟩ = some (.bool true) := HCX.out.a.cell 4
  have HPT : Hid (Calls Try.prog 33 #[.pointer (some ⟨A.o, 0, none⟩), .int .i64 id, .bool true, .int .i64 nn] w1 fun x w' => x = .returned (.int .i64 5) ∧ New w1 w') := Lib.hid (add_bad A k e id nn w1 HD1.out.ru.es HX.out.2.2.1 HX.out.2.2.2 (HD1.out.none HX.out.1) (by rw [HDV.out.rq.most]; exact HX.out.2.1))
  go_wp2_with fail
  refine HPT.out.mono ?_
  rintro x4 w4 ⟨rfl, n4⟩
  have HC4 := Lib.hid (HCX.out.later n4)
  have HD4 := Lib.hid (HD1.out.later n4)
  clear s0 s1 s2 s3 s4 s5 s6 s7 s8 s9 s10 s11 s12 s13 s14 a0 a1 a2 a4 n4 HPT
  obtain ⟨⟨s0, s1, s2, s3, s4, s5, s6, s7, s8, s9, s10, s11, s12, s13, s14⟩, _⟩ := fifteen HC4.out.b
  have a0 : w4.cell? ⟨pa, 0, none⟩ = some (.int .i64 5) := HC4.out.a.cell 0
  have a1 : w4.cell? ⟨pa, 1, none⟩ = some (.int .i64 id) := HC4.out.a.cell 1
  have a2 : w4.cell? ⟨pa, 2, none⟩ = some (.int .i64 nn) := HC4.out.a.cell 2
  have a4 : w4.cell? ⟨pa, 4, none⟩ = some (.bool true) := HC4.out.a.cell 4
  have HRP : Hid (Calls Try.prog 76 #[.agg (rO r (.slice al nl cl) (.slice ar nr cr)), .int .i64 id, .bool true, .int .i64 nn] w4 fun x w' => x = .returned (.tuple #[.agg (rO r (.slice al nl cl) (.slice ar nr cr)), .int .i64 5]) ∧ New w4 w') := Lib.hid (rad_bad al nl cl ar nr cr L r id nn w4 HD4.out.ro (by have := HDC.out.l; omega) (by have := HDC.out.s; omega) HX.out.1 (by rw [HDV.out.pu.sm]; exact HX.out.2.1))
  go_wp2_with fail
  refine HRP.out.mono ?_
  rintro x5 w5 ⟨rfl, n5⟩
  have HC5 := Lib.hid (HC4.out.later n5)
  have HD5 := Lib.hid (HD4.out.later n5)
  clear s0 s1 s2 s3 s4 s5 s6 s7 s8 s9 s10 s11 s12 s13 s14 a0 a1 a2 a4 n5 HRP
  have HYB : Hid (Blk (w5.alloc (.cells (rO r (.slice al nl cl) (.slice ar nr cr)) RT20)) w5.heap.size (rO r (.slice al nl cl) (.slice ar nr cr)) RT20) := Lib.hid (Blk.new _ _ _)
  have HNY : Hid (New w5 (w5.alloc (.cells (rO r (.slice al nl cl) (.slice ar nr cr)) RT20))) := Lib.hid ((Turns.refl _ _).alloc _)
  go_upto_region 5 with fail
  refine (show Code.wp _ _ _ _ (w5.alloc (.cells (rO r (.slice al nl cl) (.slice ar nr cr)) RT20)) from ?_)
  have hyp : w5.heap.size ≠ pb := Nat.ne_of_gt HC5.out.b.lt
  generalize w5.alloc (.cells (rO r (.slice al nl cl) (.slice ar nr cr)) RT20) = w6 at *
  generalize w5.heap.size = py at *
  have HC6 := Lib.hid (HC5.out.later HNY.out)
  obtain ⟨⟨s0, s1, s2, s3, s4, s5, s6, s7, s8, s9, s10, s11, s12, s13, s14⟩, z0, z1, z2, z3, z4, z5, z6, z7, z8, z9, z10, z11, z12, z13, z14⟩ := fifteen HC6.out.b
  obtain ⟨⟨k0, k1, k2, k3, k4, k5, k6, k7, k8, k9, k10, k11⟩, _⟩ := twelve HYB.out
  have HT7 : Hid (Turns (· = pb) w6 (puts w6 pb 1 [.int .i64 r.frames, .int .i64 r.bytes, .int .i64 r.age, .int .i64 r.most, .int .i64 r.guard, (.slice al nl cl), .int .i64 r.s.most, (.slice ar nr cr), .int .i64 r.s.turn, .bool r.s.g, .int .i64 r.credit, .int .i64 r.row])) := Lib.hid (puts_turns (S := (· = pb)) (p := pb) (.inl rfl) [.int .i64 r.frames, .int .i64 r.bytes, .int .i64 r.age, .int .i64 r.most, .int .i64 r.guard, (.slice al nl cl), .int .i64 r.s.most, (.slice ar nr cr), .int .i64 r.s.turn, .bool r.s.g, .int .i64 r.credit, .int .i64 r.row] 1 w6 (Turns.refl _ _))
  have hb7 : Blk (puts w6 pb 1 [.int .i64 r.frames, .int .i64 r.bytes, .int .i64 r.age, .int .i64 r.most, .int .i64 r.guard, (.slice al nl cl), .int .i64 r.s.most, (.slice ar nr cr), .int .i64 r.s.turn, .bool r.s.g, .int .i64 r.credit, .int .i64 r.row]) pb (stS A r (.slice al nl cl) (.slice ar nr cr) now n) STT := puts_over [.int .i64 r.frames, .int .i64 r.bytes, .int .i64 r.age, .int .i64 r.most, .int .i64 r.guard, (.slice al nl cl), .int .i64 r.s.most, (.slice ar nr cr), .int .i64 r.s.turn, .bool r.s.g, .int .i64 r.credit, .int .i64 r.row] 1 _ _ HC6.out.b
  have HC7 : Hid (Cx w (puts w6 pb 1 [.int .i64 r.frames, .int .i64 r.bytes, .int .i64 r.age, .int .i64 r.most, .int .i64 r.guard, (.slice al nl cl), .int .i64 r.s.most, (.slice ar nr cr), .int .i64 r.s.turn, .bool r.s.g, .int .i64 r.credit, .int .i64 r.row]) pb pa pr A r (.slice al nl cl) (.slice ar nr cr) now n ⟨5, id, nn, ky, true⟩) := Lib.hid (HC6.out.self HT7.out hb7)
  clear hb7
  go_upto_region 6 with fail
  refine (show Code.wp _ _ _ _ (puts w6 pb 1 [.int .i64 r.frames, .int .i64 r.bytes, .int .i64 r.age, .int .i64 r.most, .int .i64 r.guard, (.slice al nl cl), .int .i64 r.s.most, (.slice ar nr cr), .int .i64 r.s.turn, .bool r.s.g, .int .i64 r.credit, .int .i64 r.row]) from ?_)
  clear s0 s1 s2 s3 s4 s5 s6 s7 s8 s9 s10 s11 s12 s13 s14 z0 z1 z2 z3 z4 z5 z6 z7 z8 z9 z10 z11 z12 z13 z14 k0 k1 k2 k3 k4 k5 k6 k7 k8 k9 k10 k11 hyp
  generalize puts w6 pb 1 [.int .i64 r.frames, .int .i64 r.bytes, .int .i64 r.age, .int .i64 r.most, .int .i64 r.guard, (.slice al nl cl), .int .i64 r.s.most, (.slice ar nr cr), .int .i64 r.s.turn, .bool r.s.g, .int .i64 r.credit, .int .i64 r.row] = w7 at *
  have HDV7 : Hid (Dv b w w7 A k e (.slice al nl cl) (.slice ar nr cr) L r now n) := Lib.hid ((HD5.out.later HNY.out).off HC6.out.b HB0.out HC6.out.lo.1 HT7.out rfl)
  have HDC7 : Hid (Dc (i + 1) k e r L now n) := Lib.hid (by
    have h1 := HDC.out
    exact ⟨by have := h1.k; omega, by have := h1.l; omega, by have := h1.s; omega, by have := h1.n0; omega, by have := h1.n1; push_cast; omega, h1.t0, by have := h1.t1; push_cast; omega, h1.r0, by have := h1.r1; push_cast; omega, h1.fr⟩)
  have HAC : Hid (ActR now n ⟨5, id, nn, ky, true⟩ L r L r now n []) := Lib.hid (ActR.no (a := ⟨5, id, nn, ky, true⟩) _ (.inl rfl) (fun h => by cases h) (fun h => by cases h))
  clear HD1 HC4 HC5 HT7 HNY HC6 HYB HDV HDC HD4 HD5
  have hrb := HC7.out.lo.2.2.2.1
  have hrb' := hrb.symm
  obtain ⟨⟨s0, s1, s2, s3, s4, s5, s6, s7, s8, s9, s10, s11, s12, s13, s14⟩, _⟩ := fifteen HC7.out.b
  obtain ⟨⟨t0, t1, t2, t3, t4, t5, t6, t7, t8, t9, t10, t11, t12, t13, t14⟩, y0, y1, y2, y3, y4, y5, y6, y7, y8, y9, y10, y11, y12, y13, y14⟩ := fifteen HC7.out.r
  go_wp2_with fail
  refine (show bodyPost _ _ _ _ _ (puts w7 pr 0 (stS A r (.slice al nl cl) (.slice ar nr cr) now n).toList) from ?_)
  have hfin := HC7.out.fin HDV7.out HB0.out (w9 := w7) (Turns.refl _ _)
  have HFIN := Lib.hid hfin
  clear hfin s0 s1 s2 s3 s4 s5 s6 s7 s8 s9 s10 s11 s12 s13 s14 t0 t1 t2 t3 t4 t5 t6 t7 t8 t9 t10 t11 t12 t13 t14 y0 y1 y2 y3 y4 y5 y6 y7 y8 y9 y10 y11 y12 y13 y14
  generalize puts w7 pr 0 (stS A r (.slice al nl cl) (.slice ar nr cr) now n).toList = wz at *
  obtain ⟨⟨g0, g1, g2, g3, g4, g5, g6, g7, g8, g9, g10, g11, g12, g13, g14⟩, _⟩ := fifteen HFIN.out.1
  refine bodyPost_ret (v := .tuple #[.agg (stS A r (.slice al nl cl) (.slice ar nr cr) now n), .bool true]) (by simp [results, Try.results58, go_sem, g0, g1, g2, g3, g4, g5, g6, g7, g8, g9, g10, g11, g12, g13, g14]) rfl ?_
  exact ⟨_, _, _, _, _, _, rfl, HFIN.out.2, HDC7.out, HAC.out⟩
set_option maxRecDepth 100000 in
set_option maxHeartbeats 8000000 in
theorem flow6_none (b : Nat) (w : World) (A : Ad) (k : Nat) (e : Eo) (al : Option Addr) (nl cl : Nat) (ar : Option Addr) (nr cr : Nat) (L : List Rf) (r : Eo) (now n : Int) (i : Nat) (id nn : Int) (ky vd : Bool) (hno : ∀ f ∈ L, f.id ≠ id) (i0 : -9223372036854775808 ≤ id) (i1 : id ≤ 9223372036854775807) (h : Dv b w w A k e (.slice al nl cl) (.slice ar nr cr) L r now n) (c : Dc i k e r L now n) (hi : i ≤ 200) :
    Calls Try.prog 58 #[.agg (stS A r (.slice al nl cl) (.slice ar nr cr) now n), .agg (acs ⟨6, id, nn, ky, vd⟩)] w (PostF b w A L r now n ⟨6, id, nn, ky, vd⟩ i) := by
  have HX := Lib.hid (And.intro hno (And.intro i0 i1))
  clear hno i0 i1
  have HDV := Lib.hid h
  have HDC := Lib.hid c
  have hii := hi
  have hbx := Cx.start w A r (.slice al nl cl) (.slice ar nr cr) now n ⟨6, id, nn, ky, vd⟩
  have HBX := Lib.hid hbx
  have HB0 : Hid (b ≤ w.heap.size) := Lib.hid h.ru.base
  clear hbx h c
  go_enter Try.func58, Try.ntmps58
  go_upto_region 1 with fail
  refine (show Code.wp _ _ _ _ (((w.alloc (.cells (stS A r (.slice al nl cl) (.slice ar nr cr) now n) STT)).alloc (.cells (acs ⟨6, id, nn, ky, vd⟩) ACT)).alloc (.cells z15 STT)) from ?_)
  generalize ((w.alloc (.cells (stS A r (.slice al nl cl) (.slice ar nr cr) now n) STT)).alloc (.cells (acs ⟨6, id, nn, ky, vd⟩) ACT)).alloc (.cells z15 STT) = w1 at *
  generalize w.heap.size + 1 + 1 = pr at *
  generalize w.heap.size + 1 = pa at *
  obtain ⟨pb, hpb⟩ : ∃ pb, pb = w.heap.size := ⟨_, rfl⟩
  have HCX : Hid (Cx w w1 pb pa pr A r (.slice al nl cl) (.slice ar nr cr) now n ⟨6, id, nn, ky, vd⟩) := Lib.hid (by rw [hpb]; exact HBX.out.1)
  rw [← hpb]
  clear hpb
  have HN1 : Hid (New w w1) := Lib.hid HBX.out.2
  clear HBX
  have HD1 := Lib.hid (HDV.out.later HN1.out)
  obtain ⟨⟨s0, s1, s2, s3, s4, s5, s6, s7, s8, s9, s10, s11, s12, s13, s14⟩, _⟩ := fifteen HCX.out.b
  have a0 : w1.cell? ⟨pa, 0, none⟩ = some (.int .i64 6) := HCX.out.a.cell 0
  have a1 : w1.cell? ⟨pa, 1, none⟩ = some (.int .i64 id) := HCX.out.a.cell 1
  have a2 : w1.cell? ⟨pa, 2, none⟩ = some (.int .i64 nn) := HCX.out.a.cell 2
  have a4 : w1.cell? ⟨pa, 4, none⟩ = some (.bool vd) := HCX.out.a.cell 4
  have HPT : Hid (Calls Try.prog 77 #[.pointer (some ⟨A.o, 0, none⟩), .int .i64 id] w1 fun x w' => x = .returned (.tuple #[.slice none 0 0, .int .i64 12]) ∧ New w1 w') := Lib.hid ((remove_none A k e id w1 HD1.out.ru.es (HD1.out.none HX.out.1) HX.out.2.1 HX.out.2.2).mono (fun x w' ⟨h1, h2⟩ => ⟨h1, by rw [h2]; exact Turns.refl _ _⟩))
  go_wp2_with fail
  refine HPT.out.mono ?_
  rintro x4 w4 ⟨rfl, n4⟩
  have HC4 := Lib.hid (HCX.out.later n4)
  have HD4 := Lib.hid (HD1.out.later n4)
  clear s0 s1 s2 s3 s4 s5 s6 s7 s8 s9 s10 s11 s12 s13 s14 a0 a1 a2 a4 n4 HPT
  obtain ⟨⟨s0, s1, s2, s3, s4, s5, s6, s7, s8, s9, s10, s11, s12, s13, s14⟩, _⟩ := fifteen HC4.out.b
  have a0 : w4.cell? ⟨pa, 0, none⟩ = some (.int .i64 6) := HC4.out.a.cell 0
  have a1 : w4.cell? ⟨pa, 1, none⟩ = some (.int .i64 id) := HC4.out.a.cell 1
  have a2 : w4.cell? ⟨pa, 2, none⟩ = some (.int .i64 nn) := HC4.out.a.cell 2
  have a4 : w4.cell? ⟨pa, 4, none⟩ = some (.bool vd) := HC4.out.a.cell 4
  have HRP : Hid (Calls Try.prog 78 #[.agg (rO r (.slice al nl cl) (.slice ar nr cr)), .int .i64 id] w4 fun x w' => x = .returned (.tuple #[.agg (rO r (.slice al nl cl) (.slice ar nr cr)), .slice none 0 0, .int .i64 12]) ∧ New w4 w') := Lib.hid (rrm_none al nl cl ar nr cr L r id w4 HD4.out.ro (by have := HDC.out.l; omega) HX.out.1)
  go_wp2_with fail
  refine HRP.out.mono ?_
  rintro x5 w5 ⟨rfl, n5⟩
  have HC5 := Lib.hid (HC4.out.later n5)
  have HD5 := Lib.hid (HD4.out.later n5)
  clear s0 s1 s2 s3 s4 s5 s6 s7 s8 s9 s10 s11 s12 s13 s14 a0 a1 a2 a4 n5 HRP
  have HYB : Hid (Blk (w5.alloc (.cells (rO r (.slice al nl cl) (.slice ar nr cr)) RT20)) w5.heap.size (rO r (.slice al nl cl) (.slice ar nr cr)) RT20) := Lib.hid (Blk.new _ _ _)
  have HNY : Hid (New w5 (w5.alloc (.cells (rO r (.slice al nl cl) (.slice ar nr cr)) RT20))) := Lib.hid ((Turns.refl _ _).alloc _)
  go_upto_region 10 with fail
  refine (show Code.wp _ _ _ _ (w5.alloc (.cells (rO r (.slice al nl cl) (.slice ar nr cr)) RT20)) from ?_)
  have hyp : w5.heap.size ≠ pb := Nat.ne_of_gt HC5.out.b.lt
  generalize w5.alloc (.cells (rO r (.slice al nl cl) (.slice ar nr cr)) RT20) = w6 at *
  generalize w5.heap.size = py at *
  have HC6 := Lib.hid (HC5.out.later HNY.out)
  obtain ⟨⟨s0, s1, s2, s3, s4, s5, s6, s7, s8, s9, s10, s11, s12, s13, s14⟩, z0, z1, z2, z3, z4, z5, z6, z7, z8, z9, z10, z11, z12, z13, z14⟩ := fifteen HC6.out.b
  obtain ⟨⟨k0, k1, k2, k3, k4, k5, k6, k7, k8, k9, k10, k11⟩, _⟩ := twelve HYB.out
  have HT7 : Hid (Turns (· = pb) w6 (puts w6 pb 1 [.int .i64 r.frames, .int .i64 r.bytes, .int .i64 r.age, .int .i64 r.most, .int .i64 r.guard, (.slice al nl cl), .int .i64 r.s.most, (.slice ar nr cr), .int .i64 r.s.turn, .bool r.s.g, .int .i64 r.credit, .int .i64 r.row])) := Lib.hid (puts_turns (S := (· = pb)) (p := pb) (.inl rfl) [.int .i64 r.frames, .int .i64 r.bytes, .int .i64 r.age, .int .i64 r.most, .int .i64 r.guard, (.slice al nl cl), .int .i64 r.s.most, (.slice ar nr cr), .int .i64 r.s.turn, .bool r.s.g, .int .i64 r.credit, .int .i64 r.row] 1 w6 (Turns.refl _ _))
  have hb7 : Blk (puts w6 pb 1 [.int .i64 r.frames, .int .i64 r.bytes, .int .i64 r.age, .int .i64 r.most, .int .i64 r.guard, (.slice al nl cl), .int .i64 r.s.most, (.slice ar nr cr), .int .i64 r.s.turn, .bool r.s.g, .int .i64 r.credit, .int .i64 r.row]) pb (stS A r (.slice al nl cl) (.slice ar nr cr) now n) STT := puts_over [.int .i64 r.frames, .int .i64 r.bytes, .int .i64 r.age, .int .i64 r.most, .int .i64 r.guard, (.slice al nl cl), .int .i64 r.s.most, (.slice ar nr cr), .int .i64 r.s.turn, .bool r.s.g, .int .i64 r.credit, .int .i64 r.row] 1 _ _ HC6.out.b
  have HC7 : Hid (Cx w (puts w6 pb 1 [.int .i64 r.frames, .int .i64 r.bytes, .int .i64 r.age, .int .i64 r.most, .int .i64 r.guard, (.slice al nl cl), .int .i64 r.s.most, (.slice ar nr cr), .int .i64 r.s.turn, .bool r.s.g, .int .i64 r.credit, .int .i64 r.row]) pb pa pr A r (.slice al nl cl) (.slice ar nr cr) now n ⟨6, id, nn, ky, vd⟩) := Lib.hid (HC6.out.self HT7.out hb7)
  clear hb7
  go_upto_region 11 with fail
  refine (show Code.wp _ _ _ _ (puts w6 pb 1 [.int .i64 r.frames, .int .i64 r.bytes, .int .i64 r.age, .int .i64 r.most, .int .i64 r.guard, (.slice al nl cl), .int .i64 r.s.most, (.slice ar nr cr), .int .i64 r.s.turn, .bool r.s.g, .int .i64 r.credit, .int .i64 r.row]) from ?_)
  clear s0 s1 s2 s3 s4 s5 s6 s7 s8 s9 s10 s11 s12 s13 s14 z0 z1 z2 z3 z4 z5 z6 z7 z8 z9 z10 z11 z12 z13 z14 k0 k1 k2 k3 k4 k5 k6 k7 k8 k9 k10 k11 hyp
  generalize puts w6 pb 1 [.int .i64 r.frames, .int .i64 r.bytes, .int .i64 r.age, .int .i64 r.most, .int .i64 r.guard, (.slice al nl cl), .int .i64 r.s.most, (.slice ar nr cr), .int .i64 r.s.turn, .bool r.s.g, .int .i64 r.credit, .int .i64 r.row] = w7 at *
  have HDV7 : Hid (Dv b w w7 A k e (.slice al nl cl) (.slice ar nr cr) L r now n) := Lib.hid ((HD5.out.later HNY.out).off HC6.out.b HB0.out HC6.out.lo.1 HT7.out rfl)
  have HDC7 : Hid (Dc (i + 1) k e r L now n) := Lib.hid (by
    have h1 := HDC.out
    exact ⟨by have := h1.k; omega, by have := h1.l; omega, by have := h1.s; omega, by have := h1.n0; omega, by have := h1.n1; push_cast; omega, h1.t0, by have := h1.t1; push_cast; omega, h1.r0, by have := h1.r1; push_cast; omega, h1.fr⟩)
  have HAC : Hid (ActR now n ⟨6, id, nn, ky, vd⟩ L r L r now n []) := Lib.hid (ActR.no (a := ⟨6, id, nn, ky, vd⟩) _ (.inl rfl) (fun h => by cases h) (fun h => by cases h))
  clear HD1 HC4 HC5 HT7 HNY HC6 HYB HDV HDC HD4 HD5
  have HSM := Lib.hid (fun W (N : New w7 W) => same (.slice none 0 0) (.slice none 0 0) [] W (Sub.nil _ _ _) (Sub.nil _ _ _) (by decide))
  have hrb := HC7.out.lo.2.2.2.1
  have hpl8 := HC7.out.b.lt
  obtain ⟨⟨s0, s1, s2, s3, s4, s5, s6, s7, s8, s9, s10, s11, s12, s13, s14⟩, _⟩ := fifteen HC7.out.b
  obtain ⟨⟨t0, t1, t2, t3, t4, t5, t6, t7, t8, t9, t10, t11, t12, t13, t14⟩, y0, y1, y2, y3, y4, y5, y6, y7, y8, y9, y10, y11, y12, y13, y14⟩ := fifteen HC7.out.r
  have HH : HeldS w7 w7 pr pb (.pointer (some ⟨A.o, 0, none⟩)) (.int .i64 r.frames) (.int .i64 r.bytes) (.int .i64 r.age) (.int .i64 r.most) (.int .i64 r.guard) ((.slice al nl cl)) (.int .i64 r.s.most) ((.slice ar nr cr)) (.int .i64 r.s.turn) (.bool r.s.g) (.int .i64 r.credit) (.int .i64 r.row) (.int .i64 now) (.int .i64 n) := ⟨Turns.refl _ _, hpl8, s0, s1, s2, s3, s4, s5, s6, s7, s8, s9, s10, s11, s12, s13, s14⟩
  clear s0 s1 s2 s3 s4 s5 s6 s7 s8 s9 s10 s11 s12 s13 s14
  have HH2 := HH
  obtain ⟨_, _, s0, s1, s2, s3, s4, s5, s6, s7, s8, s9, s10, s11, s12, s13, s14⟩ := HH2
  first
    | go_region_held (fun w' => Turns (· = pr) w7 w' ∧ pb < w'.heap.size ∧ w'.cell? ⟨pb, 0, none⟩ = some (.pointer (some ⟨A.o, 0, none⟩)) ∧ w'.cell? ⟨pb, 1, none⟩ = some (.int .i64 r.frames) ∧ w'.cell? ⟨pb, 2, none⟩ = some (.int .i64 r.bytes) ∧ w'.cell? ⟨pb, 3, none⟩ = some (.int .i64 r.age) ∧ w'.cell? ⟨pb, 4, none⟩ = some (.int .i64 r.most) ∧ w'.cell? ⟨pb, 5, none⟩ = some (.int .i64 r.guard) ∧ w'.cell? ⟨pb, 6, none⟩ = some ((.slice al nl cl)) ∧ w'.cell? ⟨pb, 7, none⟩ = some (.int .i64 r.s.most) ∧ w'.cell? ⟨pb, 8, none⟩ = some ((.slice ar nr cr)) ∧ w'.cell? ⟨pb, 9, none⟩ = some (.int .i64 r.s.turn) ∧ w'.cell? ⟨pb, 10, none⟩ = some (.bool r.s.g) ∧ w'.cell? ⟨pb, 11, none⟩ = some (.int .i64 r.credit) ∧ w'.cell? ⟨pb, 12, none⟩ = some (.int .i64 r.row) ∧ w'.cell? ⟨pb, 13, none⟩ = some (.int .i64 now) ∧ w'.cell? ⟨pb, 14, none⟩ = some (.int .i64 n))
        (first
          | (with_reducible assumption)
          | ((with_reducible refine heldS_drew ?_); with_reducible assumption)
          | ((with_reducible refine heldS_new (by with_reducible assumption) hrb ?_); with_reducible assumption)
          | ((with_reducible refine heldS_store hrb _ _ _ _ _ _ _ _ _ _ _ _ _ _ _ ?_); with_reducible assumption))
        ((go_at_call 55; (with_reducible refine Calls.mono (HSM.out _ ?_) ?_); (focus (repeat (first | exact Turns.refl _ _ | with_reducible apply Turns.drew))); rintro x9 w9 ⟨rfl, n9⟩; have hr9 : Blk w9 pr z15 STT := n9.blk HC7.out.r (fun h => h); obtain ⟨⟨t'0, t'1, t'2, t'3, t'4, t'5, t'6, t'7, t'8, t'9, t'10, t'11, t'12, t'13, t'14⟩, y'0, y'1, y'2, y'3, y'4, y'5, y'6, y'7, y'8, y'9, y'10, y'11, y'12, y'13, y'14⟩ := fifteen hr9))
    | skip
  all_goals
    go_wp2_with fail
    refine (show bodyPost _ _ _ _ _ (puts w9 pr 0 (stS A r (.slice al nl cl) (.slice ar nr cr) now n).toList) from ?_)
    have hfin := HC7.out.fin HDV7.out HB0.out (w9 := w9) (by first | exact n9 | exact Turns.of_drew n9 | exact Turns.of_drew (Turns.of_drew n9))
    have HFIN := Lib.hid hfin
    clear hfin s0 s1 s2 s3 s4 s5 s6 s7 s8 s9 s10 s11 s12 s13 s14 t0 t1 t2 t3 t4 t5 t6 t7 t8 t9 t10 t11 t12 t13 t14 y0 y1 y2 y3 y4 y5 y6 y7 y8 y9 y10 y11 y12 y13 y14
    generalize puts w9 pr 0 (stS A r (.slice al nl cl) (.slice ar nr cr) now n).toList = wz at *
    obtain ⟨⟨g0, g1, g2, g3, g4, g5, g6, g7, g8, g9, g10, g11, g12, g13, g14⟩, _⟩ := fifteen HFIN.out.1
    refine bodyPost_ret (v := .tuple #[.agg (stS A r (.slice al nl cl) (.slice ar nr cr) now n), .bool true]) (by simp [results, Try.results58, go_sem, g0, g1, g2, g3, g4, g5, g6, g7, g8, g9, g10, g11, g12, g13, g14]) rfl ?_
    exact ⟨_, _, _, _, _, _, rfl, HFIN.out.2, HDC7.out, HAC.out⟩
set_option maxRecDepth 100000 in
set_option maxHeartbeats 8000000 in
theorem flow7_none (b : Nat) (w : World) (A : Ad) (k : Nat) (e : Eo) (al : Option Addr) (nl cl : Nat) (ar : Option Addr) (nr cr : Nat) (L : List Rf) (r : Eo) (now n : Int) (i : Nat) (id nn : Int) (ky vd : Bool) (hno : ∀ f ∈ L, f.id ≠ id) (i0 : -9223372036854775808 ≤ id) (i1 : id ≤ 9223372036854775807) (h : Dv b w w A k e (.slice al nl cl) (.slice ar nr cr) L r now n) (c : Dc i k e r L now n) (hi : i ≤ 200) :
    Calls Try.prog 58 #[.agg (stS A r (.slice al nl cl) (.slice ar nr cr) now n), .agg (acs ⟨7, id, nn, ky, vd⟩)] w (PostF b w A L r now n ⟨7, id, nn, ky, vd⟩ i) := by
  have HX := Lib.hid (And.intro hno (And.intro i0 i1))
  clear hno i0 i1
  have HDV := Lib.hid h
  have HDC := Lib.hid c
  have hii := hi
  have hbx := Cx.start w A r (.slice al nl cl) (.slice ar nr cr) now n ⟨7, id, nn, ky, vd⟩
  have HBX := Lib.hid hbx
  have HB0 : Hid (b ≤ w.heap.size) := Lib.hid h.ru.base
  clear hbx h c
  go_enter Try.func58, Try.ntmps58
  go_upto_region 1 with fail
  refine (show Code.wp _ _ _ _ (((w.alloc (.cells (stS A r (.slice al nl cl) (.slice ar nr cr) now n) STT)).alloc (.cells (acs ⟨7, id, nn, ky, vd⟩) ACT)).alloc (.cells z15 STT)) from ?_)
  generalize ((w.alloc (.cells (stS A r (.slice al nl cl) (.slice ar nr cr) now n) STT)).alloc (.cells (acs ⟨7, id, nn, ky, vd⟩) ACT)).alloc (.cells z15 STT) = w1 at *
  generalize w.heap.size + 1 + 1 = pr at *
  generalize w.heap.size + 1 = pa at *
  obtain ⟨pb, hpb⟩ : ∃ pb, pb = w.heap.size := ⟨_, rfl⟩
  have HCX : Hid (Cx w w1 pb pa pr A r (.slice al nl cl) (.slice ar nr cr) now n ⟨7, id, nn, ky, vd⟩) := Lib.hid (by rw [hpb]; exact HBX.out.1)
  rw [← hpb]
  clear hpb
  have HN1 : Hid (New w w1) := Lib.hid HBX.out.2
  clear HBX
  have HD1 := Lib.hid (HDV.out.later HN1.out)
  obtain ⟨⟨s0, s1, s2, s3, s4, s5, s6, s7, s8, s9, s10, s11, s12, s13, s14⟩, _⟩ := fifteen HCX.out.b
  have a0 : w1.cell? ⟨pa, 0, none⟩ = some (.int .i64 7) := HCX.out.a.cell 0
  have a1 : w1.cell? ⟨pa, 1, none⟩ = some (.int .i64 id) := HCX.out.a.cell 1
  have a2 : w1.cell? ⟨pa, 2, none⟩ = some (.int .i64 nn) := HCX.out.a.cell 2
  have a4 : w1.cell? ⟨pa, 4, none⟩ = some (.bool vd) := HCX.out.a.cell 4
  have HPT : Hid (Calls Try.prog 79 #[.pointer (some ⟨A.o, 0, none⟩), .int .i64 id] w1 fun x w' => x = .returned (.slice none 0 0) ∧ New w1 w') := Lib.hid ((break_none A k e id w1 HD1.out.ru.es (HD1.out.none HX.out.1) HX.out.2.1 HX.out.2.2).mono (fun x w' ⟨h1, h2⟩ => ⟨h1, by rw [h2]; exact Turns.refl _ _⟩))
  go_wp2_with fail
  refine HPT.out.mono ?_
  rintro x4 w4 ⟨rfl, n4⟩
  have HC4 := Lib.hid (HCX.out.later n4)
  have HD4 := Lib.hid (HD1.out.later n4)
  clear s0 s1 s2 s3 s4 s5 s6 s7 s8 s9 s10 s11 s12 s13 s14 a0 a1 a2 a4 n4 HPT
  obtain ⟨⟨s0, s1, s2, s3, s4, s5, s6, s7, s8, s9, s10, s11, s12, s13, s14⟩, _⟩ := fifteen HC4.out.b
  have a0 : w4.cell? ⟨pa, 0, none⟩ = some (.int .i64 7) := HC4.out.a.cell 0
  have a1 : w4.cell? ⟨pa, 1, none⟩ = some (.int .i64 id) := HC4.out.a.cell 1
  have a2 : w4.cell? ⟨pa, 2, none⟩ = some (.int .i64 nn) := HC4.out.a.cell 2
  have a4 : w4.cell? ⟨pa, 4, none⟩ = some (.bool vd) := HC4.out.a.cell 4
  have HRP : Hid (Calls Try.prog 80 #[.agg (rO r (.slice al nl cl) (.slice ar nr cr)), .int .i64 id] w4 fun x w' => x = .returned (.tuple #[.agg (rO r (.slice al nl cl) (.slice ar nr cr)), .slice none 0 0]) ∧ New w4 w') := Lib.hid (rbreak_none al nl cl ar nr cr L r id w4 HD4.out.ro (by have := HDC.out.l; omega) HX.out.1)
  go_wp2_with fail
  refine HRP.out.mono ?_
  rintro x5 w5 ⟨rfl, n5⟩
  have HC5 := Lib.hid (HC4.out.later n5)
  have HD5 := Lib.hid (HD4.out.later n5)
  clear s0 s1 s2 s3 s4 s5 s6 s7 s8 s9 s10 s11 s12 s13 s14 a0 a1 a2 a4 n5 HRP
  have HYB : Hid (Blk (w5.alloc (.cells (rO r (.slice al nl cl) (.slice ar nr cr)) RT20)) w5.heap.size (rO r (.slice al nl cl) (.slice ar nr cr)) RT20) := Lib.hid (Blk.new _ _ _)
  have HNY : Hid (New w5 (w5.alloc (.cells (rO r (.slice al nl cl) (.slice ar nr cr)) RT20))) := Lib.hid ((Turns.refl _ _).alloc _)
  go_upto_region 14 with fail
  refine (show Code.wp _ _ _ _ (w5.alloc (.cells (rO r (.slice al nl cl) (.slice ar nr cr)) RT20)) from ?_)
  have hyp : w5.heap.size ≠ pb := Nat.ne_of_gt HC5.out.b.lt
  generalize w5.alloc (.cells (rO r (.slice al nl cl) (.slice ar nr cr)) RT20) = w6 at *
  generalize w5.heap.size = py at *
  have HC6 := Lib.hid (HC5.out.later HNY.out)
  obtain ⟨⟨s0, s1, s2, s3, s4, s5, s6, s7, s8, s9, s10, s11, s12, s13, s14⟩, z0, z1, z2, z3, z4, z5, z6, z7, z8, z9, z10, z11, z12, z13, z14⟩ := fifteen HC6.out.b
  obtain ⟨⟨k0, k1, k2, k3, k4, k5, k6, k7, k8, k9, k10, k11⟩, _⟩ := twelve HYB.out
  have HT7 : Hid (Turns (· = pb) w6 (puts w6 pb 1 [.int .i64 r.frames, .int .i64 r.bytes, .int .i64 r.age, .int .i64 r.most, .int .i64 r.guard, (.slice al nl cl), .int .i64 r.s.most, (.slice ar nr cr), .int .i64 r.s.turn, .bool r.s.g, .int .i64 r.credit, .int .i64 r.row])) := Lib.hid (puts_turns (S := (· = pb)) (p := pb) (.inl rfl) [.int .i64 r.frames, .int .i64 r.bytes, .int .i64 r.age, .int .i64 r.most, .int .i64 r.guard, (.slice al nl cl), .int .i64 r.s.most, (.slice ar nr cr), .int .i64 r.s.turn, .bool r.s.g, .int .i64 r.credit, .int .i64 r.row] 1 w6 (Turns.refl _ _))
  have hb7 : Blk (puts w6 pb 1 [.int .i64 r.frames, .int .i64 r.bytes, .int .i64 r.age, .int .i64 r.most, .int .i64 r.guard, (.slice al nl cl), .int .i64 r.s.most, (.slice ar nr cr), .int .i64 r.s.turn, .bool r.s.g, .int .i64 r.credit, .int .i64 r.row]) pb (stS A r (.slice al nl cl) (.slice ar nr cr) now n) STT := puts_over [.int .i64 r.frames, .int .i64 r.bytes, .int .i64 r.age, .int .i64 r.most, .int .i64 r.guard, (.slice al nl cl), .int .i64 r.s.most, (.slice ar nr cr), .int .i64 r.s.turn, .bool r.s.g, .int .i64 r.credit, .int .i64 r.row] 1 _ _ HC6.out.b
  have HC7 : Hid (Cx w (puts w6 pb 1 [.int .i64 r.frames, .int .i64 r.bytes, .int .i64 r.age, .int .i64 r.most, .int .i64 r.guard, (.slice al nl cl), .int .i64 r.s.most, (.slice ar nr cr), .int .i64 r.s.turn, .bool r.s.g, .int .i64 r.credit, .int .i64 r.row]) pb pa pr A r (.slice al nl cl) (.slice ar nr cr) now n ⟨7, id, nn, ky, vd⟩) := Lib.hid (HC6.out.self HT7.out hb7)
  clear hb7
  go_upto_region 15 with fail
  refine (show Code.wp _ _ _ _ (puts w6 pb 1 [.int .i64 r.frames, .int .i64 r.bytes, .int .i64 r.age, .int .i64 r.most, .int .i64 r.guard, (.slice al nl cl), .int .i64 r.s.most, (.slice ar nr cr), .int .i64 r.s.turn, .bool r.s.g, .int .i64 r.credit, .int .i64 r.row]) from ?_)
  clear s0 s1 s2 s3 s4 s5 s6 s7 s8 s9 s10 s11 s12 s13 s14 z0 z1 z2 z3 z4 z5 z6 z7 z8 z9 z10 z11 z12 z13 z14 k0 k1 k2 k3 k4 k5 k6 k7 k8 k9 k10 k11 hyp
  generalize puts w6 pb 1 [.int .i64 r.frames, .int .i64 r.bytes, .int .i64 r.age, .int .i64 r.most, .int .i64 r.guard, (.slice al nl cl), .int .i64 r.s.most, (.slice ar nr cr), .int .i64 r.s.turn, .bool r.s.g, .int .i64 r.credit, .int .i64 r.row] = w7 at *
  have HDV7 : Hid (Dv b w w7 A k e (.slice al nl cl) (.slice ar nr cr) L r now n) := Lib.hid ((HD5.out.later HNY.out).off HC6.out.b HB0.out HC6.out.lo.1 HT7.out rfl)
  have HDC7 : Hid (Dc (i + 1) k e r L now n) := Lib.hid (by
    have h1 := HDC.out
    exact ⟨by have := h1.k; omega, by have := h1.l; omega, by have := h1.s; omega, by have := h1.n0; omega, by have := h1.n1; push_cast; omega, h1.t0, by have := h1.t1; push_cast; omega, h1.r0, by have := h1.r1; push_cast; omega, h1.fr⟩)
  have HAC : Hid (ActR now n ⟨7, id, nn, ky, vd⟩ L r L r now n []) := Lib.hid (ActR.no (a := ⟨7, id, nn, ky, vd⟩) _ (.inl rfl) (fun h => by cases h) (fun h => by cases h))
  clear HD1 HC4 HC5 HT7 HNY HC6 HYB HDV HDC HD4 HD5
  have HSM := Lib.hid (fun W (N : New w7 W) => same (.slice none 0 0) (.slice none 0 0) [] W (Sub.nil _ _ _) (Sub.nil _ _ _) (by decide))
  have hrb := HC7.out.lo.2.2.2.1
  have hpl8 := HC7.out.b.lt
  obtain ⟨⟨s0, s1, s2, s3, s4, s5, s6, s7, s8, s9, s10, s11, s12, s13, s14⟩, _⟩ := fifteen HC7.out.b
  obtain ⟨⟨t0, t1, t2, t3, t4, t5, t6, t7, t8, t9, t10, t11, t12, t13, t14⟩, y0, y1, y2, y3, y4, y5, y6, y7, y8, y9, y10, y11, y12, y13, y14⟩ := fifteen HC7.out.r
  have HH : HeldS w7 w7 pr pb (.pointer (some ⟨A.o, 0, none⟩)) (.int .i64 r.frames) (.int .i64 r.bytes) (.int .i64 r.age) (.int .i64 r.most) (.int .i64 r.guard) ((.slice al nl cl)) (.int .i64 r.s.most) ((.slice ar nr cr)) (.int .i64 r.s.turn) (.bool r.s.g) (.int .i64 r.credit) (.int .i64 r.row) (.int .i64 now) (.int .i64 n) := ⟨Turns.refl _ _, hpl8, s0, s1, s2, s3, s4, s5, s6, s7, s8, s9, s10, s11, s12, s13, s14⟩
  clear s0 s1 s2 s3 s4 s5 s6 s7 s8 s9 s10 s11 s12 s13 s14
  have HH2 := HH
  obtain ⟨_, _, s0, s1, s2, s3, s4, s5, s6, s7, s8, s9, s10, s11, s12, s13, s14⟩ := HH2
  first
    | go_region_held (fun w' => Turns (· = pr) w7 w' ∧ pb < w'.heap.size ∧ w'.cell? ⟨pb, 0, none⟩ = some (.pointer (some ⟨A.o, 0, none⟩)) ∧ w'.cell? ⟨pb, 1, none⟩ = some (.int .i64 r.frames) ∧ w'.cell? ⟨pb, 2, none⟩ = some (.int .i64 r.bytes) ∧ w'.cell? ⟨pb, 3, none⟩ = some (.int .i64 r.age) ∧ w'.cell? ⟨pb, 4, none⟩ = some (.int .i64 r.most) ∧ w'.cell? ⟨pb, 5, none⟩ = some (.int .i64 r.guard) ∧ w'.cell? ⟨pb, 6, none⟩ = some ((.slice al nl cl)) ∧ w'.cell? ⟨pb, 7, none⟩ = some (.int .i64 r.s.most) ∧ w'.cell? ⟨pb, 8, none⟩ = some ((.slice ar nr cr)) ∧ w'.cell? ⟨pb, 9, none⟩ = some (.int .i64 r.s.turn) ∧ w'.cell? ⟨pb, 10, none⟩ = some (.bool r.s.g) ∧ w'.cell? ⟨pb, 11, none⟩ = some (.int .i64 r.credit) ∧ w'.cell? ⟨pb, 12, none⟩ = some (.int .i64 r.row) ∧ w'.cell? ⟨pb, 13, none⟩ = some (.int .i64 now) ∧ w'.cell? ⟨pb, 14, none⟩ = some (.int .i64 n))
        (first
          | (with_reducible assumption)
          | ((with_reducible refine heldS_drew ?_); with_reducible assumption)
          | ((with_reducible refine heldS_new (by with_reducible assumption) hrb ?_); with_reducible assumption)
          | ((with_reducible refine heldS_store hrb _ _ _ _ _ _ _ _ _ _ _ _ _ _ _ ?_); with_reducible assumption))
        ((go_at_call 55; (with_reducible refine Calls.mono (HSM.out _ ?_) ?_); (focus (repeat (first | exact Turns.refl _ _ | with_reducible apply Turns.drew))); rintro x9 w9 ⟨rfl, n9⟩; have hr9 : Blk w9 pr z15 STT := n9.blk HC7.out.r (fun h => h); obtain ⟨⟨t'0, t'1, t'2, t'3, t'4, t'5, t'6, t'7, t'8, t'9, t'10, t'11, t'12, t'13, t'14⟩, y'0, y'1, y'2, y'3, y'4, y'5, y'6, y'7, y'8, y'9, y'10, y'11, y'12, y'13, y'14⟩ := fifteen hr9))
    | skip
  all_goals
    go_wp2_with fail
    refine (show bodyPost _ _ _ _ _ (puts w9 pr 0 (stS A r (.slice al nl cl) (.slice ar nr cr) now n).toList) from ?_)
    have hfin := HC7.out.fin HDV7.out HB0.out (w9 := w9) (by first | exact n9 | exact Turns.of_drew n9 | exact Turns.of_drew (Turns.of_drew n9))
    have HFIN := Lib.hid hfin
    clear hfin s0 s1 s2 s3 s4 s5 s6 s7 s8 s9 s10 s11 s12 s13 s14 t0 t1 t2 t3 t4 t5 t6 t7 t8 t9 t10 t11 t12 t13 t14 y0 y1 y2 y3 y4 y5 y6 y7 y8 y9 y10 y11 y12 y13 y14
    generalize puts w9 pr 0 (stS A r (.slice al nl cl) (.slice ar nr cr) now n).toList = wz at *
    obtain ⟨⟨g0, g1, g2, g3, g4, g5, g6, g7, g8, g9, g10, g11, g12, g13, g14⟩, _⟩ := fifteen HFIN.out.1
    refine bodyPost_ret (v := .tuple #[.agg (stS A r (.slice al nl cl) (.slice ar nr cr) now n), .bool true]) (by simp [results, Try.results58, go_sem, g0, g1, g2, g3, g4, g5, g6, g7, g8, g9, g10, g11, g12, g13, g14]) rfl ?_
    exact ⟨_, _, _, _, _, _, rfl, HFIN.out.2, HDC7.out, HAC.out⟩
end Go.Proofs.Ytcppibjllaablaa.egr
