/-
  The reference of layer 20: Add, of a number that is there.
-/
import Derived.Test.YtcppibjllaablaaZEgrR20g
set_option linter.unusedVariables false
set_option linter.unusedSimpArgs false
namespace Go.Proofs.Ytcppibjllaablaa.egr
open Go.RowKit mem
open Go.Proofs.Ytcppibjllaablaa.drr (plc plc_at plc_no plc_cases before_succ before_all)
set_option linter.unusedVariables false

set_option maxRecDepth 100000 in
set_option maxHeartbeats 4000000 in
theorem rad_has (al : Option Addr) (nl cl : Nat) (ar : Option Addr) (nr cr : Nat) (L : List Rf) (r : Eo) (i : Nat) (f : Rf) (video : Bool) (sh : Int) (w : World) (h : RO w (.slice al nl cl) (.slice ar nr cr) L r) (hl : L.length ≤ 100000) (ha : RAsc L) (hf : L[i]? = some f) :
    Calls Try.prog 76 #[.agg (rO r (.slice al nl cl) (.slice ar nr cr)), .int .i64 f.id, .bool video, .int .i64 sh] w fun e w' => e = .returned (.tuple #[.agg (rO r (.slice al nl cl) (.slice ar nr cr)), .int .i64 10]) ∧ New w w' := by
  have HO := Lib.hid h
  have HB := Lib.hid (Bx.start w r (.slice al nl cl) (.slice ar nr cr))
  have HFN := Lib.hid (find_is20 ha hf rfl)
  have HFD := Lib.hid (fun W (N : New w W) => rfind20 (.slice al nl cl) (.slice ar nr cr) L r f.id W (HO.out.later N).l (by omega))
  rw [HFN.out] at HFD
  have j0 : (0 : Int) ≤ (i : Int) := by omega
  have d1 : decide ((0 : Int) ≤ (i : Int)) = true := decide_eq_true j0
  have d2 : decide ((i : Int) ≥ 0) = true := decide_eq_true j0
  clear h hl ha hf
  go_enter Try.func76, Try.ntmps76
  go_upto_region 1 with fail
  refine (show Code.wp _ _ _ _ ((w.alloc (.cells (rO r (.slice al nl cl) (.slice ar nr cr)) RT20)).alloc (.cells z12.toArray RT20)) from ?_)
  generalize (w.alloc (.cells (rO r (.slice al nl cl) (.slice ar nr cr)) RT20)).alloc (.cells z12.toArray RT20) = w2 at *
  generalize w.heap.size + 1 = pr at *
  generalize w.heap.size = pb at *
  obtain ⟨⟨b0, b1, b2, b3, b4, b5, b6, b7, b8, b9, b10, b11⟩, _⟩ := twelve HB.out.bx
  have HF2 := Lib.hid (HFD.out w2 HB.out.n)
  clear HFD
  go_wp2_with fail
  refine HF2.out.mono ?_
  rintro e w3 ⟨rfl, n3⟩
  have HB3 := Lib.hid (HB.out.later n3)
  clear n3 b0 b1 b2 b3 b4 b5 b6 b7 b8 b9 b10 b11 HF2 HB
  obtain ⟨⟨b0, b1, b2, b3, b4, b5, b6, b7, b8, b9, b10, b11⟩, _⟩ := twelve HB3.out.bx
  obtain ⟨⟨r0, r1, r2, r3, r4, r5, r6, r7, r8, r9, r10, r11⟩, y0, y1, y2, y3, y4, y5, y6, y7, y8, y9, y10, y11⟩ := twelve HB3.out.rb
  have hne := HB3.out.lo.2.2
  have hne' := hne.symm
  have HFI := Lib.hid (HB3.out.fin r (.slice al nl cl) (.slice ar nr cr))
  go_wp2_with fail
  refine (show bodyPost _ _ _ _ _ (puts w3 pr 0 (rO r (.slice al nl cl) (.slice ar nr cr)).toList) from ?_)
  clear b0 b1 b2 b3 b4 b5 b6 b7 b8 b9 b10 b11 r0 r1 r2 r3 r4 r5 r6 r7 r8 r9 r10 r11 y0 y1 y2 y3 y4 y5 y6 y7 y8 y9 y10 y11
  generalize puts w3 pr 0 (rO r (.slice al nl cl) (.slice ar nr cr)).toList = w12 at *
  obtain ⟨⟨e0, e1, e2, e3, e4, e5, e6, e7, e8, e9, e10, e11⟩, _⟩ := twelve HFI.out.1
  refine bodyPost_ret (v := .tuple #[.agg (rO r (.slice al nl cl) (.slice ar nr cr)), .int .i64 10]) (by simp [results, Try.results76, go_sem, e0, e1, e2, e3, e4, e5, e6, e7, e8, e9, e10, e11]) rfl ?_
  exact ⟨rfl, HFI.out.2⟩

set_option maxRecDepth 100000 in
set_option maxHeartbeats 4000000 in
theorem rad_bad (al : Option Addr) (nl cl : Nat) (ar : Option Addr) (nr cr : Nat) (L : List Rf) (r : Eo) (id sh : Int) (w : World) (h : RO w (.slice al nl cl) (.slice ar nr cr) L r) (hl : L.length ≤ 100000) (hs : r.s.L.length ≤ 100000) (hno : ∀ f ∈ L, f.id ≠ id) (hb : sh < r.s.most ∨ 16777216 < sh) :
    Calls Try.prog 76 #[.agg (rO r (.slice al nl cl) (.slice ar nr cr)), .int .i64 id, .bool true, .int .i64 sh] w fun e w' => e = .returned (.tuple #[.agg (rO r (.slice al nl cl) (.slice ar nr cr)), .int .i64 5]) ∧ New w w' := by
  have HO := Lib.hid h
  have HB := Lib.hid (Bx.start w r (.slice al nl cl) (.slice ar nr cr))
  have HFN := Lib.hid (find_not20 hno)
  have HFD := Lib.hid (fun W (N : New w W) => rfind20 (.slice al nl cl) (.slice ar nr cr) L r id W (HO.out.later N).l (by omega))
  rw [HFN.out] at HFD
  have HAD := Lib.hid (fun W (N : New w W) => drr.radd_bad (.slice ar nr cr) r.s id sh W (HO.out.later N).s (by omega) hb)
  clear h hl hs hno hb
  go_enter Try.func76, Try.ntmps76
  go_upto_region 1 with fail
  refine (show Code.wp _ _ _ _ ((w.alloc (.cells (rO r (.slice al nl cl) (.slice ar nr cr)) RT20)).alloc (.cells z12.toArray RT20)) from ?_)
  generalize (w.alloc (.cells (rO r (.slice al nl cl) (.slice ar nr cr)) RT20)).alloc (.cells z12.toArray RT20) = w2 at *
  generalize w.heap.size + 1 = pr at *
  generalize w.heap.size = pb at *
  obtain ⟨⟨b0, b1, b2, b3, b4, b5, b6, b7, b8, b9, b10, b11⟩, _⟩ := twelve HB.out.bx
  have HF2 := Lib.hid (HFD.out w2 HB.out.n)
  clear HFD
  go_wp2_with fail
  refine HF2.out.mono ?_
  rintro e w3 ⟨rfl, n3⟩
  have HB3 := Lib.hid (HB.out.later n3)
  clear n3 b0 b1 b2 b3 b4 b5 b6 b7 b8 b9 b10 b11 HF2 HB
  obtain ⟨⟨b0, b1, b2, b3, b4, b5, b6, b7, b8, b9, b10, b11⟩, _⟩ := twelve HB3.out.bx
  have HA3 := Lib.hid (HAD.out w3 HB3.out.n)
  dsimp only [drr.rS] at HA3
  clear HAD
  go_wp2_with fail
  refine HA3.out.mono ?_
  rintro e w5 ⟨rfl, nn5⟩
  have N6 : New w5 (w5.alloc (.cells #[.int .i64 r.s.most, .slice ar nr cr, .int .i64 r.s.turn, .bool r.s.g] drr.GST)) := (Turns.refl _ _).alloc _
  have HB6 := Lib.hid ((HB3.out.later nn5).later N6)
  clear nn5 b0 b1 b2 b3 b4 b5 b6 b7 b8 b9 b10 b11 HA3 N6
  go_upto_region 5 with fail
  refine (show Code.wp _ _ _ _ (w5.alloc (.cells #[.int .i64 r.s.most, .slice ar nr cr, .int .i64 r.s.turn, .bool r.s.g] drr.GST)) from ?_)
  generalize w5.alloc (.cells #[.int .i64 r.s.most, .slice ar nr cr, .int .i64 r.s.turn, .bool r.s.g] drr.GST) = w3' at *
  clear HB3
  obtain ⟨⟨b0, b1, b2, b3, b4, b5, b6, b7, b8, b9, b10, b11⟩, _⟩ := twelve HB6.out.bx
  obtain ⟨⟨r0, r1, r2, r3, r4, r5, r6, r7, r8, r9, r10, r11⟩, y0, y1, y2, y3, y4, y5, y6, y7, y8, y9, y10, y11⟩ := twelve HB6.out.rb
  have hne := HB6.out.lo.2.2
  have hne' := hne.symm
  have HFI := Lib.hid (HB6.out.fin r (.slice al nl cl) (.slice ar nr cr))
  go_wp2_with fail
  refine (show bodyPost _ _ _ _ _ (puts w3' pr 0 (rO r (.slice al nl cl) (.slice ar nr cr)).toList) from ?_)
  clear b0 b1 b2 b3 b4 b5 b6 b7 b8 b9 b10 b11 r0 r1 r2 r3 r4 r5 r6 r7 r8 r9 r10 r11 y0 y1 y2 y3 y4 y5 y6 y7 y8 y9 y10 y11
  generalize puts w3' pr 0 (rO r (.slice al nl cl) (.slice ar nr cr)).toList = w12 at *
  obtain ⟨⟨e0, e1, e2, e3, e4, e5, e6, e7, e8, e9, e10, e11⟩, _⟩ := twelve HFI.out.1
  refine bodyPost_ret (v := .tuple #[.agg (rO r (.slice al nl cl) (.slice ar nr cr)), .int .i64 5]) (by simp [results, Try.results76, go_sem, e0, e1, e2, e3, e4, e5, e6, e7, e8, e9, e10, e11]) rfl ?_
  exact ⟨rfl, HFI.out.2⟩
end Go.Proofs.Ytcppibjllaablaa.egr
