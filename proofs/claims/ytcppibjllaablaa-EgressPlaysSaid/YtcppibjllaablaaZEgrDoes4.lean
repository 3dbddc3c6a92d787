/-
  'Does' of layer 20's laws: Tick.
-/
import Derived.Test.YtcppibjllaablaaZEgrDef
import Derived.Test.YtcppibjllaablaaZEgrR20y
import Derived.Deep.RegionHeld3
import Derived.Deep.QuietTactic
import Derived.BigQuiet
import Derived.Deep.DeepCutAuto
set_option linter.unusedVariables false
set_option linter.unusedSimpArgs false
namespace Go.Proofs.Ytcppibjllaablaa.egr
open Go.RowKit mem
open Go.Proofs.Ytcppibjllaablaa.drr (plc plc_at plc_no plc_cases before_succ before_all)
set_option linter.unusedVariables false

theorem TSteps.mem {now : Int} {e : Eo} {l : List Int} {o : List Snt} {e' : Eo} (k : TSteps now e l o e') : ∀ g ∈ e'.L, ∀ x ∈ g.q.L, ∃ f ∈ e.L, x ∈ f.q.L := by
  induction k with
  | nil => exact fun g hg x hx => ⟨g, hg, hx⟩
  | snoc pv k1 hf ih =>
    intro g hg x hx
    obtain ⟨g', hg', rfl⟩ := setQ_mem hg
    split at hx
    · refine ih _ hf x ?_
      exact List.mem_of_mem_drop (show x ∈ List.drop _ _ from hx)
    · exact ih g' hg' x hx
theorem TSteps.cf {now : Int} {e : Eo} {l : List Int} {o : List Snt} {e' : Eo} (k : TSteps now e l o e') : e'.frames = e.frames ∧ e'.row = e.row ∧ e'.s = e.s ∧ e'.age = e.age ∧ e'.L.map (·.id) = e.L.map (·.id) ∧ e'.credit = e.credit ∧ e'.guard = e.guard ∧ e'.most = e.most := by
  induction k with
  | nil => exact ⟨rfl, rfl, rfl, rfl, rfl, rfl, rfl, rfl⟩
  | snoc pv k1 hf ih =>
    obtain ⟨h1, h2, h3, h4, h5, h6, h7, h8⟩ := ih
    exact ⟨h1, h2, h3, h4, (setQ_idm _ _ _ _).trans h5, h6, h7, h8⟩
theorem TSteps.len {now : Int} {e : Eo} {l : List Int} {o : List Snt} {e' : Eo} (k : TSteps now e l o e') (h8 : ∀ f ∈ e.L, f.q.L.length ≤ 8) : o.length ≤ 8 * l.length ∧ ∀ f ∈ e'.L, f.q.L.length ≤ 8 := by
  induction k with
  | nil => exact ⟨Nat.zero_le _, h8⟩
  | snoc pv k1 hf ih =>
    obtain ⟨h1, h2⟩ := ih
    have h3 := h2 _ hf
    refine ⟨?_, fun g hg => ?_⟩
    · rw [List.length_append, List.length_append, List.length_singleton]
      unfold nam que.expD
      rw [List.length_map, List.length_take]
      omega
    · obtain ⟨g', hg', rfl⟩ := setQ_mem hg
      split
      · show (List.drop _ _).length ≤ 8
        rw [List.length_drop]
        omega
      · exact h2 g' hg'
set_option maxRecDepth 100000 in
set_option maxHeartbeats 8000000 in
theorem does4 (b : Nat) (w : World) (A : Ad) (k : Nat) (e : Eo) (al : Option Addr) (nl cl : Nat) (ar : Option Addr) (nr cr : Nat) (L : List Rf) (r : Eo) (now n : Int) (i : Nat) (id nn : Int) (ky vd : Bool) (now' : Int) (hnow : now' = now + nn % 16) (h : Dv b w w A k e (.slice al nl cl) (.slice ar nr cr) L r now n) (c : Dc i k e r L now n) (hi : i ≤ 200) :
    Calls Try.prog 27 #[.agg (stS A r (.slice al nl cl) (.slice ar nr cr) now n), .agg (acs ⟨4, id, nn, ky, vd⟩)] w (Post b w A L r now n ⟨4, id, nn, ky, vd⟩ i) := by
  have HPU := Lib.hid h.pu
  have M4 := mask.mask4 nn
  have hz0 : 0 ≤ nn % 16 ∧ nn % 16 ≤ 15 := by omega
  have e1 : now + nn % 16 = now' := hnow.symm
  have HNE := Lib.hid hnow
  have hn0' : now ≤ now' ∧ 0 ≤ now' ∧ now' ≤ 16 * ((i : Int) + 1) := by have := c.t0; have := c.t1; omega
  have HNB := Lib.hid hn0'
  have hwa : IntKind.i64.wrap now' = now' := IntWalk.i64_in _ (by omega)
  have hwb : IntKind.i64.wrap (now + nn % 16) = now' := by rw [e1]; exact hwa
  clear hnow hn0'
  generalize hs16 : nn % 16 = sz16 at *
  have HS16 := Lib.hid hs16
  clear hs16
  have HDV := Lib.hid h
  have HDC := Lib.hid c
  have hii := hi
  have hbx := Cx.start w A r (.slice al nl cl) (.slice ar nr cr) now n ⟨4, id, nn, ky, vd⟩
  have HBX := Lib.hid hbx
  have HB0 : Hid (b ≤ w.heap.size) := Lib.hid h.ru.base
  clear hbx h c
  go_enter Try.func27, Try.ntmps27
  go_upto_region 1 with fail
  refine (show Code.wp _ _ _ _ (((w.alloc (.cells (stS A r (.slice al nl cl) (.slice ar nr cr) now n) STT)).alloc (.cells (acs ⟨4, id, nn, ky, vd⟩) ACT)).alloc (.cells z15 STT)) from ?_)
  generalize ((w.alloc (.cells (stS A r (.slice al nl cl) (.slice ar nr cr) now n) STT)).alloc (.cells (acs ⟨4, id, nn, ky, vd⟩) ACT)).alloc (.cells z15 STT) = w1 at *
  generalize w.heap.size + 1 + 1 = pr at *
  generalize w.heap.size + 1 = pa at *
  obtain ⟨pb, hpb⟩ : ∃ pb, pb = w.heap.size := ⟨_, rfl⟩
  have HCX : Hid (Cx w w1 pb pa pr A r (.slice al nl cl) (.slice ar nr cr) now n ⟨4, id, nn, ky, vd⟩) := Lib.hid (by rw [hpb]; exact HBX.out.1)
  rw [← hpb]
  clear hpb
  have HN1 : Hid (New w w1) := Lib.hid HBX.out.2
  clear HBX
  have HD1 := Lib.hid (HDV.out.later HN1.out)
  obtain ⟨⟨s0, s1, s2, s3, s4, s5, s6, s7, s8, s9, s10, s11, s12, s13, s14⟩, _⟩ := fifteen HCX.out.b
  obtain ⟨⟨_, _, _, _, _, _, _, _, _, _, _, _, _, _, _⟩, z0, z1, z2, z3, z4, z5, z6, z7, z8, z9, z10, z11, z12, z13, z14⟩ := fifteen HCX.out.b
  have a0 := HCX.out.a.cell 0
  have a2 := HCX.out.a.cell 2
  have t2 : Turns (· = pb) w1 (w1.setCell ⟨pb, 13, none⟩ (.int .i64 now')) := (Turns.refl (· = pb) _).setCell (.inl rfl) _
  have HC2 : Hid (Cx w (w1.setCell ⟨pb, 13, none⟩ (.int .i64 now')) pb pa pr A r (.slice al nl cl) (.slice ar nr cr) now' n ⟨4, id, nn, ky, vd⟩) := Lib.hid (HCX.out.self t2 (HCX.out.b.set 13 _))
  have HD2 : Hid (Dv b w (w1.setCell ⟨pb, 13, none⟩ (.int .i64 now')) A k e (.slice al nl cl) (.slice ar nr cr) L r now n) := Lib.hid (HD1.out.off HCX.out.b HB0.out HCX.out.lo.1 t2 rfl)
  have HW2 : Hid (w.heap.size ≤ (w1.setCell ⟨pb, 13, none⟩ (.int .i64 now')).heap.size) := Lib.hid (Nat.le_trans HN1.out.size t2.size)
  clear t2
  go_upto_region 25 with fail
  refine (show Code.wp _ _ _ _ (w1.setCell ⟨pb, 13, none⟩ (.int .i64 now')) from ?_)
  clear s0 s1 s2 s3 s4 s5 s6 s7 s8 s9 s10 s11 s12 s13 s14 z0 z1 z2 z3 z4 z5 z6 z7 z8 z9 z10 z11 z12 z13 z14 a0 a2 hwb M4 e1
  generalize w1.setCell ⟨pb, 13, none⟩ (.int .i64 now') = w2 at *
  obtain ⟨⟨s0, s1, s2, s3, s4, s5, s6, s7, s8, s9, s10, s11, s12, s13, s14⟩, _⟩ := fifteen HC2.out.b
  have HTE : Hid (Tot e.L ≤ 1600) := Lib.hid (by
    have := tot_lenE (fun g hg => by
      have h1 := (HDV.out.ru.es.qs g hg).ok.len
      have h2 := (HDV.out.ru.es.fq g hg).fr
      have h3 := HDV.out.rq.frames
      have h4 := HDC.out.fr
      omega)
    have h5 := HDV.out.len
    have h6 := HDC.out.l
    omega)
  have HTK : Hid (TickOk e.L) := Lib.hid (fun g hg x hx => by
    have h1 := HDV.out.rq.fl
    rw [HDV.out.ro.e] at h1
    have h2 := HDV.out.ru.es.ap.nd.fnd hg
    rcases h1.cases g.id with ⟨e1, _⟩ | ⟨g', f', e1, e2, e3, e4⟩
    · rw [e1] at h2; cases h2
    · rw [h2] at e1
      injection e1 with e1
      subst e1
      obtain ⟨h3, _⟩ := fnd_some e2
      obtain ⟨y, hy, rfl⟩ := List.mem_map.1 h3
      rw [e4] at hx
      have h5 := HDV.out.tk y hy x hx
      have h6 := HDC.out.t1
      exact ⟨h5.1, by omega⟩)
  have HPT := Lib.hid (tick b A k e now' w2 HD2.out.ru.es HD2.out.ru.lo (Nat.le_trans HB0.out HW2.out) (by have := HDC.out.k; omega) (by have := HDV.out.len; have := HDC.out.l; omega) (by have := HTE.out; omega) HTK.out HNB.out.2.1 (by have := HNB.out; omega))
  go_wp2_with fail
  refine HPT.out.mono ?_
  rintro x4 w4 ⟨u4, l, e', rfl, hran, hes4, hlo4, hsf4, ho4, hv4, _⟩
  obtain ⟨au, cu, hu4, _⟩ := ho4.form
  obtain ⟨nu, hnu⟩ : ∃ nu, nu = l.length := ⟨_, rfl⟩
  rw [← hnu] at hu4
  subst hu4
  have HNU := Lib.hid hnu
  have HRAN := Lib.hid hran
  have HSF := Lib.hid hsf4
  have HRU : Hid (Ru b w w4 A k e') := Lib.hid (HD2.out.ru.whole hes4 hlo4 hsf4)
  have HU4 := Lib.hid ho4
  have HC4 := Lib.hid (HC2.out.sf HSF.out)
  have HRO4 := Lib.hid (HSF.out.ro HD2.out.ro)
  clear s0 s1 s2 s3 s4 s5 s6 s7 s8 s9 s10 s11 s12 s13 s14 hran hes4 hlo4 hsf4 ho4 hv4 hnu HPT
  obtain ⟨⟨s0, s1, s2, s3, s4, s5, s6, s7, s8, s9, s10, s11, s12, s13, s14⟩, _⟩ := fifteen HC4.out.b
  have HRP := Lib.hid (rtick al nl cl ar nr cr L r now' w4 HRO4.out (by have := HDC.out.l; omega) HDV.out.asc (fun f hf => ⟨HPU.out.ok f hf, fun x hx => by
    have h5 := HDV.out.tk f hf x hx
    have h6 := HDC.out.t1
    exact ⟨h5.1, by omega⟩⟩) HNB.out.2.1 (by have := HNB.out; omega))
  go_wp2_with fail
  refine HRP.out.mono ?_
  rintro x5 w5 ⟨a5, n5, c5, L', rp, o, u5, rfl, hts5, hro5, has5, hg5⟩
  have hlo : l = o ∧ Rq e' rp := by
    have h1 := HRAN.out
    rw [HDV.out.ids] at h1
    have hnd : Nd r.L := by
      rw [HDV.out.ro.e]
      unfold Nd
      rw [List.map_map]
      exact (show (L.map (·.id)).Pairwise (· < ·) from HDV.out.asc).imp (fun h => by omega)
    have h2 := h1.rq HDV.out.rq HDV.out.ru.es.ap.nd hnd hts5
    exact ⟨h2.1, h2.2.1⟩
  obtain ⟨hl, hrq⟩ := hlo
  subst hl
  obtain ⟨av, cv, hv5, _⟩ := hg5.own.form
  rw [← HNU.out] at hv5
  subst hv5
  have HZ := Lib.hid (And.intro hts5 (And.intro hro5 (And.intro has5 hg5)))
  have HRQ := Lib.hid hrq
  have HCF := Lib.hid hts5.cf
  have HC5 := Lib.hid (HC4.out.later hg5.n)
  have HN5 := Lib.hid hg5.n
  have hrs : rO rp (.slice a5 n5 c5) (.slice ar nr cr) = rO rp (.slice a5 n5 c5) (.slice ar nr cr) := rfl
  clear s0 s1 s2 s3 s4 s5 s6 s7 s8 s9 s10 s11 s12 s13 s14 hts5 hro5 has5 hg5 hrq HRP hrs
  have HYB : Hid (Blk (w5.alloc (.cells (rO rp (.slice a5 n5 c5) (.slice ar nr cr)) RT20)) w5.heap.size (rO rp (.slice a5 n5 c5) (.slice ar nr cr)) RT20) := Lib.hid (Blk.new _ _ _)
  have HNY : Hid (New w5 (w5.alloc (.cells (rO rp (.slice a5 n5 c5) (.slice ar nr cr)) RT20))) := Lib.hid ((Turns.refl _ _).alloc _)
  go_upto_region 27 with fail
  refine (show Code.wp _ _ _ _ (w5.alloc (.cells (rO rp (.slice a5 n5 c5) (.slice ar nr cr)) RT20)) from ?_)
  have hyp : w5.heap.size ≠ pb := Nat.ne_of_gt HC5.out.b.lt
  generalize w5.alloc (.cells (rO rp (.slice a5 n5 c5) (.slice ar nr cr)) RT20) = w6 at *
  generalize w5.heap.size = py at *
  have HC6 := Lib.hid (HC5.out.later HNY.out)
  obtain ⟨⟨s0, s1, s2, s3, s4, s5, s6, s7, s8, s9, s10, s11, s12, s13, s14⟩, z0, z1, z2, z3, z4, z5, z6, z7, z8, z9, z10, z11, z12, z13, z14⟩ := fifteen HC6.out.b
  obtain ⟨⟨k0, k1, k2, k3, k4, k5, k6, k7, k8, k9, k10, k11⟩, _⟩ := twelve HYB.out
  have HT7 : Hid (Turns (· = pb) w6 (puts w6 pb 1 [.int .i64 rp.frames, .int .i64 rp.bytes, .int .i64 rp.age, .int .i64 rp.most, .int .i64 rp.guard, (.slice a5 n5 c5), .int .i64 rp.s.most, (.slice ar nr cr), .int .i64 rp.s.turn, .bool rp.s.g, .int .i64 rp.credit, .int .i64 rp.row])) := Lib.hid (puts_turns (S := (· = pb)) (p := pb) (.inl rfl) [.int .i64 rp.frames, .int .i64 rp.bytes, .int .i64 rp.age, .int .i64 rp.most, .int .i64 rp.guard, (.slice a5 n5 c5), .int .i64 rp.s.most, (.slice ar nr cr), .int .i64 rp.s.turn, .bool rp.s.g, .int .i64 rp.credit, .int .i64 rp.row] 1 w6 (Turns.refl _ _))
  have hb7 : Blk (puts w6 pb 1 [.int .i64 rp.frames, .int .i64 rp.bytes, .int .i64 rp.age, .int .i64 rp.most, .int .i64 rp.guard, (.slice a5 n5 c5), .int .i64 rp.s.most, (.slice ar nr cr), .int .i64 rp.s.turn, .bool rp.s.g, .int .i64 rp.credit, .int .i64 rp.row]) pb (stS A rp (.slice a5 n5 c5) (.slice ar nr cr) now' n) STT := puts_over [.int .i64 rp.frames, .int .i64 rp.bytes, .int .i64 rp.age, .int .i64 rp.most, .int .i64 rp.guard, (.slice a5 n5 c5), .int .i64 rp.s.most, (.slice ar nr cr), .int .i64 rp.s.turn, .bool rp.s.g, .int .i64 rp.credit, .int .i64 rp.row] 1 _ _ HC6.out.b
  have HC7 : Hid (Cx w (puts w6 pb 1 [.int .i64 rp.frames, .int .i64 rp.bytes, .int .i64 rp.age, .int .i64 rp.most, .int .i64 rp.guard, (.slice a5 n5 c5), .int .i64 rp.s.most, (.slice ar nr cr), .int .i64 rp.s.turn, .bool rp.s.g, .int .i64 rp.credit, .int .i64 rp.row]) pb pa pr A rp (.slice a5 n5 c5) (.slice ar nr cr) now' n ⟨4, id, nn, ky, vd⟩) := Lib.hid (HC6.out.self HT7.out hb7)
  clear hb7
  go_upto_region 28 with fail
  refine (show Code.wp _ _ _ _ (puts w6 pb 1 [.int .i64 rp.frames, .int .i64 rp.bytes, .int .i64 rp.age, .int .i64 rp.most, .int .i64 rp.guard, (.slice a5 n5 c5), .int .i64 rp.s.most, (.slice ar nr cr), .int .i64 rp.s.turn, .bool rp.s.g, .int .i64 rp.credit, .int .i64 rp.row]) from ?_)
  clear s0 s1 s2 s3 s4 s5 s6 s7 s8 s9 s10 s11 s12 s13 s14 z0 z1 z2 z3 z4 z5 z6 z7 z8 z9 z10 z11 z12 z13 z14 k0 k1 k2 k3 k4 k5 k6 k7 k8 k9 k10 k11 hyp
  generalize puts w6 pb 1 [.int .i64 rp.frames, .int .i64 rp.bytes, .int .i64 rp.age, .int .i64 rp.most, .int .i64 rp.guard, (.slice a5 n5 c5), .int .i64 rp.s.most, (.slice ar nr cr), .int .i64 rp.s.turn, .bool rp.s.g, .int .i64 rp.credit, .int .i64 rp.row] = w7 at *
  have N57 : Hid (New w5 w6) := HNY
  have HDV7 : Hid (Dv b w w7 A k e' (.slice a5 n5 c5) (.slice ar nr cr) L' rp now' n) := Lib.hid (by
    have hcf := HCF.out
    have h6 : Dv b w w6 A k e' (.slice a5 n5 c5) (.slice ar nr cr) L' rp now' n := ⟨(HRU.out.later HN5.out).later N57.out, HZ.out.2.1.later N57.out, HZ.out.2.2.1, by rw [hcf.2.2.1]; exact HDV.out.sa, by rw [hcf.2.2.1]; exact HDV.out.sp, HRQ.out, fun f hf x hx => by
      obtain ⟨g, hg, hxg⟩ := HZ.out.1.mem (toE f) (by rw [HZ.out.2.1.e]; exact List.mem_map_of_mem hf) x hx
      rw [HDV.out.ro.e] at hg
      obtain ⟨y, hy, rfl⟩ := List.mem_map.1 hg
      have h1 := HDV.out.tk y hy x hxg
      exact ⟨h1.1, by have := HNB.out.1; omega⟩⟩
    exact h6.off HC6.out.b HB0.out HC6.out.lo.1 HT7.out rfl)
  have HU7 : Hid (Owns SE RSeT w7 (.slice av nu cv) l) := Lib.hid ((HZ.out.2.2.2.own.turns N57.out (fun _ _ h => h)).turns HT7.out (fun g hg hf => own_ne HZ.out.2.2.2.own (HC5.out.b) (by decide) (by rw [hg, hf])))
  have HSM : Hid (∀ W, New w7 W → _) := Lib.hid (fun W N => same (.slice au nu cu) (.slice av nu cv) l W
    (by
      have h5 : Sub SE 0 w5 (.slice au nu cu) l := subN (HU4.out.sub 0 (fun _ _ => Nat.zero_le _)) HN5.out
      have h7 := Sub.turns' (subN h5 N57.out) HT7.out (fun g hg hf => own_ne HU4.out (HC4.out.b) (by decide) (by rw [hg, hf]))
      exact subN h7 N)
    (subN (HU7.out.sub 0 (fun _ _ => Nat.zero_le _)) N)
    (by
      have h1 := (HZ.out.1.len (fun f hf => by
        rw [HDV.out.ro.e] at hf
        obtain ⟨y, hy, rfl⟩ := List.mem_map.1 hf
        have h1 := (HPU.out.ok y hy).len
        have h2 : y.q.frames = r.frames := (HPU.out.fq y hy).fr
        have h4 := HDC.out.fr
        show y.q.L.length ≤ 8
        omega)).1
      rw [List.length_map] at h1
      have h2 := HDC.out.l
      omega))
  have HDC7 : Hid (Dc (i + 1) k e' rp L' now' n) := Lib.hid (by
    have h1 := HDC.out
    have hcf := HCF.out
    have h2 := congrArg List.length hcf.2.2.2.2.1
    rw [HZ.out.2.1.e, HDV.out.ro.e, List.length_map, List.length_map, List.length_map, List.length_map] at h2
    have h3 := HRQ.out.row
    have h4 := HDV.out.rq.row
    have h5 := HNB.out
    exact ⟨by have := h1.k; omega, by have := h1.l; omega, by rw [hcf.2.2.1]; have := h1.s; omega, h1.n0, by have := h1.n1; push_cast; omega, h5.2.1, by push_cast; omega, by rw [h3, hcf.2.1, ← h4]; exact h1.r0, by rw [h3, hcf.2.1, ← h4]; have := h1.r1; push_cast; omega, by rw [hcf.1]; exact h1.fr⟩)
  have HAC : Hid (ActR now n ⟨4, id, nn, ky, vd⟩ L r L' rp now' n []) := Lib.hid (by
    have hz := HZ.out.1
    rw [HNE.out, ← HS16.out] at hz ⊢
    exact ActR.tick (a := ⟨4, id, nn, ky, vd⟩) rfl hz)
  clear HD1 HSF HRU HU4 HC4 HRO4 HC5 HN5 HT7 HNY HC6 HYB HDV HDC HZ HRQ HU7 HRAN HCF HC2 HD2 HTK
  have hrb := HC7.out.lo.2.2.2.1
  have hpl8 := HC7.out.b.lt
  obtain ⟨⟨s0, s1, s2, s3, s4, s5, s6, s7, s8, s9, s10, s11, s12, s13, s14⟩, _⟩ := fifteen HC7.out.b
  obtain ⟨⟨t0, t1, t2, t3, t4, t5, t6, t7, t8, t9, t10, t11, t12, t13, t14⟩, y0, y1, y2, y3, y4, y5, y6, y7, y8, y9, y10, y11, y12, y13, y14⟩ := fifteen HC7.out.r
  have HH : HeldS w7 w7 pr pb (.pointer (some ⟨A.o, 0, none⟩)) (.int .i64 rp.frames) (.int .i64 rp.bytes) (.int .i64 rp.age) (.int .i64 rp.most) (.int .i64 rp.guard) ((.slice a5 n5 c5)) (.int .i64 rp.s.most) ((.slice ar nr cr)) (.int .i64 rp.s.turn) (.bool rp.s.g) (.int .i64 rp.credit) (.int .i64 rp.row) (.int .i64 now') (.int .i64 n) := ⟨Turns.refl _ _, hpl8, s0, s1, s2, s3, s4, s5, s6, s7, s8, s9, s10, s11, s12, s13, s14⟩
  clear s0 s1 s2 s3 s4 s5 s6 s7 s8 s9 s10 s11 s12 s13 s14
  have HH2 := HH
  obtain ⟨_, _, s0, s1, s2, s3, s4, s5, s6, s7, s8, s9, s10, s11, s12, s13, s14⟩ := HH2
  first
    | go_region_held (fun w' => Turns (· = pr) w7 w' ∧ pb < w'.heap.size ∧ w'.cell? ⟨pb, 0, none⟩ = some (.pointer (some ⟨A.o, 0, none⟩)) ∧ w'.cell? ⟨pb, 1, none⟩ = some (.int .i64 rp.frames) ∧ w'.cell? ⟨pb, 2, none⟩ = some (.int .i64 rp.bytes) ∧ w'.cell? ⟨pb, 3, none⟩ = some (.int .i64 rp.age) ∧ w'.cell? ⟨pb, 4, none⟩ = some (.int .i64 rp.most) ∧ w'.cell? ⟨pb, 5, none⟩ = some (.int .i64 rp.guard) ∧ w'.cell? ⟨pb, 6, none⟩ = some ((.slice a5 n5 c5)) ∧ w'.cell? ⟨pb, 7, none⟩ = some (.int .i64 rp.s.most) ∧ w'.cell? ⟨pb, 8, none⟩ = some ((.slice ar nr cr)) ∧ w'.cell? ⟨pb, 9, none⟩ = some (.int .i64 rp.s.turn) ∧ w'.cell? ⟨pb, 10, none⟩ = some (.bool rp.s.g) ∧ w'.cell? ⟨pb, 11, none⟩ = some (.int .i64 rp.credit) ∧ w'.cell? ⟨pb, 12, none⟩ = some (.int .i64 rp.row) ∧ w'.cell? ⟨pb, 13, none⟩ = some (.int .i64 now') ∧ w'.cell? ⟨pb, 14, none⟩ = some (.int .i64 n))
        (first
          | (with_reducible assumption)
          | ((with_reducible refine heldS_drew ?_); with_reducible assumption)
          | ((with_reducible refine heldS_new (by with_reducible assumption) hrb ?_); with_reducible assumption)
          | ((with_reducible refine heldS_store hrb _ _ _ _ _ _ _ _ _ _ _ _ _ _ _ ?_); with_reducible assumption))
        ((go_at_call 55; (with_reducible refine Calls.mono (HSM.out _ ?_) ?_); (focus (repeat (first | exact Turns.refl _ _ | with_reducible apply Turns.drew))); rintro x9 w9 ⟨rfl, n9⟩; have hr9 : Blk w9 pr z15 STT := n9.blk HC7.out.r (fun h => h); obtain ⟨⟨t'0, t'1, t'2, t'3, t'4, t'5, t'6, t'7, t'8, t'9, t'10, t'11, t'12, t'13, t'14⟩, y'0, y'1, y'2, y'3, y'4, y'5, y'6, y'7, y'8, y'9, y'10, y'11, y'12, y'13, y'14⟩ := fifteen hr9))
    | skip
  all_goals
    go_wp2_with fail
    refine (show bodyPost _ _ _ _ _ (puts w9 pr 0 (stS A rp (.slice a5 n5 c5) (.slice ar nr cr) now' n).toList) from ?_)
    have hfin := HC7.out.fin HDV7.out HB0.out (w9 := w9) (by first | exact n9 | exact Turns.of_drew n9 | exact Turns.of_drew (Turns.of_drew n9))
    have HFIN := Lib.hid hfin
    clear hfin s0 s1 s2 s3 s4 s5 s6 s7 s8 s9 s10 s11 s12 s13 s14 t0 t1 t2 t3 t4 t5 t6 t7 t8 t9 t10 t11 t12 t13 t14 y0 y1 y2 y3 y4 y5 y6 y7 y8 y9 y10 y11 y12 y13 y14
    generalize puts w9 pr 0 (stS A rp (.slice a5 n5 c5) (.slice ar nr cr) now' n).toList = wz at *
    obtain ⟨⟨g0, g1, g2, g3, g4, g5, g6, g7, g8, g9, g10, g11, g12, g13, g14⟩, _⟩ := fifteen HFIN.out.1
    refine bodyPost_ret (v := .tuple #[.agg (stS A rp (.slice a5 n5 c5) (.slice ar nr cr) now' n), .slice none 0 0, .bool true]) (by simp [results, Try.results27, go_sem, g0, g1, g2, g3, g4, g5, g6, g7, g8, g9, g10, g11, g12, g13, g14]) rfl ?_
    exact ⟨_, _, _, _, _, _, _, _, _, [], rfl, HFIN.out.2, HDC7.out, HAC.out, TS.nil _ _ _⟩
end Go.Proofs.Ytcppibjllaablaa.egr
