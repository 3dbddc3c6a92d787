/-
  The reference of layer 20: Remove.
-/
import Derived.Test.YtcppibjllaablaaZEgrR20e
import Derived.Test.YtcppibjllaablaaZEgrR19h
import Derived.Test.YtcppibjllaablaaZKae
set_option linter.unusedVariables false
set_option linter.unusedSimpArgs false
namespace Go.Proofs.Ytcppibjllaablaa.egr
open Go.RowKit mem
open Go.Proofs.Ytcppibjllaablaa.drr (plc plc_at plc_no plc_cases before_succ before_all)
set_option linter.unusedVariables false

set_option maxRecDepth 100000 in
set_option maxHeartbeats 4000000 in
theorem rrm_none (al : Option Addr) (nl cl : Nat) (ar : Option Addr) (nr cr : Nat) (L : List Rf) (r : Eo) (id : Int) (w : World) (h : RO w (.slice al nl cl) (.slice ar nr cr) L r) (hl : L.length ≤ 100000) (hno : ∀ f ∈ L, f.id ≠ id) :
    Calls Try.prog 78 #[.agg (rO r (.slice al nl cl) (.slice ar nr cr)), .int .i64 id] w fun e w' => e = .returned (.tuple #[.agg (rO r (.slice al nl cl) (.slice ar nr cr)), .slice none 0 0, .int .i64 12]) ∧ New w w' := by
  have HO := Lib.hid h
  have HB := Lib.hid (Bx.start w r (.slice al nl cl) (.slice ar nr cr))
  have HFN := Lib.hid (find_not20 hno)
  have HFD := Lib.hid (fun W (N : New w W) => rfind20 (.slice al nl cl) (.slice ar nr cr) L r id W (HO.out.later N).l (by omega))
  rw [HFN.out] at HFD
  clear h hl hno
  go_enter Try.func78, Try.ntmps78
  go_upto_region 1 with fail
  refine (show Code.wp _ _ _ _ ((w.alloc (.cells (rO r (.slice al nl cl) (.slice ar nr cr)) RT20)).alloc (.cells z12.toArray RT20)) from ?_)
  generalize (w.alloc (.cells (rO r (.slice al nl cl) (.slice ar nr cr)) RT20)).alloc (.cells z12.toArray RT20) = w2 at *
  generalize w.heap.size + 1 = pr at *
  generalize w.heap.size = pb at *
  obtain ⟨⟨b0, b1, b2, b3, b4, b5, b6, b7, b8, b9, b10, b11⟩, _⟩ := twelve HB.out.bx
  have HF2 := Lib.hid (HFD.out w2 HB.out.n)
  clear HFD
  go_wp2_with fail
  refine HF2.out.mono ?_
  rintro e w3 ⟨rfl, n3⟩
  have HB3 := Lib.hid (HB.out.later n3)
  clear n3 b0 b1 b2 b3 b4 b5 b6 b7 b8 b9 b10 b11 HF2 HB
  obtain ⟨⟨b0, b1, b2, b3, b4, b5, b6, b7, b8, b9, b10, b11⟩, _⟩ := twelve HB3.out.bx
  obtain ⟨⟨r0, r1, r2, r3, r4, r5, r6, r7, r8, r9, r10, r11⟩, y0, y1, y2, y3, y4, y5, y6, y7, y8, y9, y10, y11⟩ := twelve HB3.out.rb
  have hne := HB3.out.lo.2.2
  have hne' := hne.symm
  have HFI := Lib.hid (HB3.out.fin r (.slice al nl cl) (.slice ar nr cr))
  go_wp2_with fail
  refine (show bodyPost _ _ _ _ _ (puts w3 pr 0 (rO r (.slice al nl cl) (.slice ar nr cr)).toList) from ?_)
  clear b0 b1 b2 b3 b4 b5 b6 b7 b8 b9 b10 b11 r0 r1 r2 r3 r4 r5 r6 r7 r8 r9 r10 r11 y0 y1 y2 y3 y4 y5 y6 y7 y8 y9 y10 y11
  generalize puts w3 pr 0 (rO r (.slice al nl cl) (.slice ar nr cr)).toList = w12 at *
  obtain ⟨⟨e0, e1, e2, e3, e4, e5, e6, e7, e8, e9, e10, e11⟩, _⟩ := twelve HFI.out.1
  refine bodyPost_ret (v := .tuple #[.agg (rO r (.slice al nl cl) (.slice ar nr cr)), .slice none 0 0, .int .i64 12]) (by simp [results, Try.results78, go_sem, e0, e1, e2, e3, e4, e5, e6, e7, e8, e9, e10, e11]) rfl ?_
  exact ⟨rfl, HFI.out.2⟩

/-- the reference takes the flow out of the scheduler, if it is there -/
def rgo (s : drr.Sc) (id : Int) : drr.Sc := if s.L.all (fun g => g.id != id) = true then s else drr.remS s id
theorem rrem (v : Value) (s : drr.Sc) (id : Int) (w : World) (h : TS drr.GE drr.GT w v s.L) (hl : s.L.length ≤ 100000) (asc : drr.SAsc s.L) :
    Calls Try.prog 93 #[.agg (drr.rS s v), .int .i64 id] w fun e w' => ∃ ao n c er, e = .returned (.tuple #[.agg (drr.rS (rgo s id) (.slice ao n c)), .int .i64 er]) ∧ TS drr.GE drr.GT w' (.slice ao n c) (rgo s id).L ∧ New w w' := by
  unfold rgo
  by_cases hn : s.L.all (fun g => g.id != id) = true
  · rw [if_pos hn]
    obtain ⟨ao, n, c, hv, _⟩ := h.form
    refine (drr.rrem_none v s id w h (by omega) (fun f hf => by have := List.all_eq_true.1 hn f hf; simpa using this)).mono ?_
    rintro e w' ⟨rfl, n2⟩
    subst hv
    exact ⟨ao, n, c, 12, rfl, h.later n2, n2⟩
  · rw [if_neg hn]
    have : ∃ f ∈ s.L, f.id = id := by
      simp only [List.all_eq_true, Classical.not_forall] at hn
      obtain ⟨f, hf, h2⟩ := hn
      exact ⟨f, hf, by simpa using h2⟩
    obtain ⟨f, hf, rfl⟩ := this
    obtain ⟨i, hi⟩ := List.getElem?_of_mem hf
    refine (drr.rrem_some v s i f w h hl asc hi).mono ?_
    rintro e w' ⟨ao, n, c, rfl, h2, n2⟩
    exact ⟨ao, n, c, 0, rfl, h2, n2⟩
theorem rgo_mem {s : drr.Sc} {id : Int} {f : drr.Fl} (h : f ∈ (rgo s id).L) : f ∈ s.L := by
  unfold rgo at h
  split at h
  · exact h
  · exact (List.mem_filter.1 h).1
theorem rfilt_at {L : List Rf} (ha : RAsc L) {i : Nat} {f : Rf} (hf : L[i]? = some f) : L.filter (fun g => g.id != f.id) = L.take i ++ L.drop (i + 1) := by
  induction L generalizing i with
  | nil => simp at hf
  | cons g l ih =>
    have h' : (g.id :: l.map (·.id)).Pairwise (· < ·) := ha
    obtain ⟨h1, h2⟩ := List.pairwise_cons.1 h'
    cases i with
    | zero =>
      have e : g = f := by simpa using hf
      subst e
      rw [List.filter_cons]
      have : (g.id != g.id) = false := by simp
      rw [this]
      show l.filter _ = [] ++ l
      rw [List.nil_append]
      exact List.filter_eq_self.2 (fun y hy => by
        have := h1 _ (List.mem_map.2 ⟨y, hy, rfl⟩)
        simp; omega)
    | succ i =>
      have hf' : l[i]? = some f := by simpa using hf
      have hm := h1 _ (List.mem_map.2 ⟨f, List.mem_of_getElem? hf', rfl⟩)
      rw [List.filter_cons]
      have : (g.id != f.id) = true := by simp; omega
      rw [this, if_pos rfl, ih h2 hf']
      rfl
theorem RAsc.filter {L : List Rf} (h : RAsc L) (p : Rf → Bool) : RAsc (L.filter p) := h.sublist (List.filter_sublist.map _)
theorem gr_grow {α : Type} {E : Enc α} {T : TypeId} {w W w2 : World} {v v' : Value} {L l : List α} (h : Gr E T w W v L) (ho : Owns E T w2 v' (L ++ l)) (hg : W.grownBy w2 v.ownBlock) (ha : v'.ownBlock = v.ownBlock ∨ v'.ownBlock = some W.heap.size) : Gr E T w w2 v' (L ++ l) := by
  refine ⟨ho, ?_, h.n.trans ((Turns.of_grown hg).mono (fun k _ hk => .inr (h.vb k hk.symm)))⟩
  intro g hg2
  rcases ha with e | e
  · exact h.vb g (e ▸ hg2)
  · rw [e] at hg2; injection hg2 with hg2; have := h.n.size; omega
/-- the flows anew -/
structure Mc (w w6 wx : World) (pb pr : Nat) (r : Eo) (v vS : Value) (L : List Rf) : Prop where
  b : Bx w wx pb pr r v vS
  t : Turns (· = pb) w6 wx
  l : TS FE FT wx v L
theorem mc_of {w w6 w10 : World} {pb pr : Nat} {r : Eo} {u v vS : Value} {L : List Rf} (h : Bx w w6 pb pr r u vS) (hg : Gr FE FT w6 w10 v L) : Mc w w6 (w10.setCell ⟨pb, 5, none⟩ v) pb pr r v vS L := by
  have hb10 := hg.n.blk h.bx (fun h => h)
  have T6 : Turns (· = pb) w10 (w10.setCell ⟨pb, 5, none⟩ v) := (Turns.refl (· = pb) _).setCell (.inl rfl) _
  have hb6 : Blk (w10.setCell ⟨pb, 5, none⟩ v) pb (rO r v vS) RT20 := hb10.set 5 _
  exact ⟨⟨hb6, T6.blk (hg.n.blk h.rb (fun h => h)) (fun e => h.lo.2.2 e.symm), (h.n.trans (hg.n.mono (fun _ _ h => h.elim))).trans (T6.mono (fun k _ hk => .inr (by rw [hk]; exact h.lo.1))), h.lo⟩, (hg.n.mono (fun _ _ h => h.elim)).trans (T6.mono (fun _ _ h => .inl h)), (TS.of_owns hg.own).turns T6 (fun y hy e => (TS.of_owns hg.own).off hb10 (by decide) (by rw [hy, e]))⟩

/-- the end of a call that tells a row: the result is told -/
theorem fin8 {w wc W W2 : World} {pb pr : Nat} {r : Eo} {vL vS u : Value} {L : List Rf} {o : List Snt} (h : Bx w wc pb pr r vL vS) (k : RO wc vL vS L r) (g : Gr SE RSeT wc W u o) (n : New W W2) :
    Blk (puts W2 pr 0 (rO r vL vS).toList) pr (rO r vL vS) RT20 ∧ RO (puts W2 pr 0 (rO r vL vS).toList) vL vS L r ∧ Gr SE RSeT w (puts W2 pr 0 (rO r vL vS).toList) u o := by
  have N2 : New wc W2 := g.n.trans (n.mono (fun _ _ h => h.elim))
  have hB := h.later N2
  have hF := hB.fin r vL vS
  exact ⟨hF.1, ⟨hB.ts r vL vS (k.later N2).l (by decide), fun f hf => hB.ts r vL vS ((k.later N2).q f hf) (by decide), hB.ts r vL vS (k.later N2).s (by decide), k.e, fun f hf => Nat.lt_of_lt_of_le ((k.later N2).b f hf) (hB.turn r vL vS).size⟩, ⟨hB.ow r vL vS (g.own.turns n (fun _ _ h => h)) (by decide), fun y hy => Nat.le_trans h.n.size (g.vb y hy), hF.2⟩⟩

set_option maxRecDepth 100000 in
set_option maxHeartbeats 8000000 in
theorem rrm_some (al : Option Addr) (nl cl : Nat) (ar : Option Addr) (nr cr : Nat) (L : List Rf) (r : Eo) (i : Nat) (f : Rf) (w : World) (h : RO w (.slice al nl cl) (.slice ar nr cr) L r) (hl : L.length ≤ 100000) (ha : RAsc L) (hs : r.s.L.length ≤ 100000) (hsa : drr.SAsc r.s.L) (hf : L[i]? = some f) (hq : f.q.L.length ≤ 100000) :
    Calls Try.prog 78 #[.agg (rO r (.slice al nl cl) (.slice ar nr cr)), .int .i64 f.id] w fun e w' => ∃ a4 n4 c4 a5 n5 c5 u, e = .returned (.tuple #[.agg (rO (remE r f.id (rgo r.s f.id)) (.slice a4 n4 c4) (.slice a5 n5 c5)), u, .int .i64 0]) ∧ RO w' (.slice a4 n4 c4) (.slice a5 n5 c5) (L.filter (fun g => g.id != f.id)) (remE r f.id (rgo r.s f.id)) ∧ Gr SE RSeT w w' u (nam f.id f.q.L) := by
  have HO := Lib.hid h
  have HX := Lib.hid hf
  have HAS := Lib.hid ha
  have HB := Lib.hid (Bx.start w r (.slice al nl cl) (.slice ar nr cr))
  have HFN := Lib.hid (find_is20 ha hf rfl)
  have HFT := Lib.hid (rfilt_at ha hf)
  have HFD := Lib.hid (fun W (N : New w W) => rfind20 (.slice al nl cl) (.slice ar nr cr) L r f.id W (HO.out.later N).l (by omega))
  rw [HFN.out] at HFD
  have HRM := Lib.hid (fun W (N : New w W) => rrem (.slice ar nr cr) r.s f.id W (HO.out.later N).s hs hsa)
  have HQL : Hid (f.q.L.length ≤ 1000000) := Lib.hid (by omega)
  have hil := (List.getElem?_eq_some_iff.1 hf).1
  have hnl : nl = L.length := by
    obtain ⟨_, n2, c2, hv, hn, _⟩ := h.l.form
    injection hv with e1 e2 e3
    omega
  have hnc : nl ≤ cl := by
    obtain ⟨_, n2, c2, hv, hn, h3, _⟩ := h.l.form
    injection hv with e1 e2 e3
    omega
  have HN := Lib.hid hnl
  have hn2 : nl ≤ 100000 := by omega
  have hil2 : i < nl := by omega
  have j0 : (0 : Int) ≤ (i : Int) := by omega
  have j1 : (i : Int) < (nl : Int) := by omega
  have d1 : decide ((i : Int) < 0) = false := decide_eq_false (by omega)
  have s1 : IntKind.i64.wrap ((i : Int) + 1) = (i : Int) + 1 := IntWalk.i64_in _ (by omega)
  obtain ⟨s', hs'⟩ : ∃ s', s' = rgo r.s f.id := ⟨_, rfl⟩
  rw [← hs'] at HRM ⊢
  have HSM : Hid (∀ g ∈ s'.L, g ∈ r.s.L) := Lib.hid (fun g hg => by rw [hs'] at hg; exact rgo_mem hg)
  clear h hl ha hf hq hil hnl hs hsa hs'
  go_enter Try.func78, Try.ntmps78
  go_upto_region 1 with fail
  refine (show Code.wp _ _ _ _ ((w.alloc (.cells (rO r (.slice al nl cl) (.slice ar nr cr)) RT20)).alloc (.cells z12.toArray RT20)) from ?_)
  generalize (w.alloc (.cells (rO r (.slice al nl cl) (.slice ar nr cr)) RT20)).alloc (.cells z12.toArray RT20) = w2 at *
  generalize w.heap.size + 1 = pr at *
  generalize w.heap.size = pb at *
  obtain ⟨⟨b0, b1, b2, b3, b4, b5, b6, b7, b8, b9, b10, b11⟩, _⟩ := twelve HB.out.bx
  have HF2 := Lib.hid (HFD.out w2 HB.out.n)
  clear HFD
  go_wp2_with fail
  refine HF2.out.mono ?_
  rintro e w3 ⟨rfl, n3⟩
  have HB3 := Lib.hid (HB.out.later n3)
  clear n3 b0 b1 b2 b3 b4 b5 b6 b7 b8 b9 b10 b11 HF2 HB
  have b5 : w3.cell? ⟨pb, 5, none⟩ = some (.slice al nl cl) := HB3.out.bx.cell 5
  obtain ⟨g0, o0, hg, hgl, z0, z1, z2, z3, z4, z5⟩ := rf_at (HO.out.later HB3.out.n).l HX.out
  subst hg
  have HX3 : Hid (Blk (w3.alloc (.cells #[.int .i64 f.id, .bool f.video, .int .i64 f.q.frames, .int .i64 f.q.most, .slice f.ao f.q.L.length f.c, .bool f.q.broken] FT)) w3.heap.size #[.int .i64 f.id, .bool f.video, .int .i64 f.q.frames, .int .i64 f.q.most, .slice f.ao f.q.L.length f.c, .bool f.q.broken] FT) := Lib.hid (Blk.new _ _ _)
  have HB4 := Lib.hid (HB3.out.later ((Turns.refl _ w3).alloc (.cells #[.int .i64 f.id, .bool f.video, .int .i64 f.q.frames, .int .i64 f.q.most, .slice f.ao f.q.L.length f.c, .bool f.q.broken] FT)))
  have HPX : Hid (pb ≠ w3.heap.size) := Lib.hid (Nat.ne_of_lt HB3.out.bx.lt)
  go_upto_region 5 with fail
  refine (show Code.wp _ _ _ _ (w3.alloc (.cells #[.int .i64 f.id, .bool f.video, .int .i64 f.q.frames, .int .i64 f.q.most, .slice f.ao f.q.L.length f.c, .bool f.q.broken] FT)) from ?_)
  clear b5 z0 z1 z2 z3 z4 z5 hgl HB3
  generalize w3.alloc (.cells #[.int .i64 f.id, .bool f.video, .int .i64 f.q.frames, .int .i64 f.q.most, .slice f.ao f.q.L.length f.c, .bool f.q.broken] FT) = w4 at *
  generalize w3.heap.size = px at *
  obtain ⟨⟨b0, b1, b2, b3, b4, b5, b6, b7, b8, b9, b10, b11⟩, _⟩ := twelve HB4.out.bx
  have HR4 := Lib.hid (HRM.out w4 HB4.out.n)
  clear HRM
  dsimp only [drr.rS] at HR4
  go_wp2_with fail
  refine HR4.out.mono ?_
  rintro e w5 ⟨a5, n5, c5, er, rfl, hts, nn5⟩
  have HT5 := Lib.hid hts
  have HB5 := Lib.hid (HB4.out.later nn5)
  have HX5 := Lib.hid (nn5.blk HX3.out (fun h => h))
  clear hts nn5 b0 b1 b2 b3 b4 b5 b6 b7 b8 b9 b10 b11 HR4 HB4
  go_upto_region 6 with fail
  have N6 : New w5 (w5.alloc (.cells #[.int .i64 s'.most, .slice a5 n5 c5, .int .i64 s'.turn, .bool s'.g] drr.GST)) := (Turns.refl _ _).alloc _
  have HG6 : Hid (Blk (w5.alloc (.cells #[.int .i64 s'.most, .slice a5 n5 c5, .int .i64 s'.turn, .bool s'.g] drr.GST)) w5.heap.size #[.int .i64 s'.most, .slice a5 n5 c5, .int .i64 s'.turn, .bool s'.g] drr.GST) := Lib.hid (Blk.new _ _ _)
  have HT6 := Lib.hid (HT5.out.later N6)
  have HB6 := Lib.hid (HB5.out.later N6)
  have HX6 := Lib.hid (N6.blk HX5.out (fun h => h))
  clear N6
  refine (show Code.wp _ _ _ _ (w5.alloc (.cells #[.int .i64 s'.most, .slice a5 n5 c5, .int .i64 s'.turn, .bool s'.g] drr.GST)) from ?_)
  generalize w5.alloc (.cells #[.int .i64 s'.most, .slice a5 n5 c5, .int .i64 s'.turn, .bool s'.g] drr.GST) = w5' at *
  generalize w5.heap.size = pq at *
  clear HB5 HX5 HT5
  obtain ⟨⟨q0, q1, q2, q3⟩, _⟩ := drr.fours HG6.out
  obtain ⟨⟨b0, b1, b2, b3, b4, b5, b6, b7, b8, b9, b10, b11⟩, y0, y1, y2, y3, y4, y5, y6, y7, y8, y9, y10, y11⟩ := twelve HB6.out.bx
  obtain ⟨r6, hr6⟩ : ∃ r6 : Eo, r6 = ⟨r.frames, r.bytes, r.age, r.most, r.guard, r.credit, r.row, r.L, s'⟩ := ⟨_, rfl⟩
  have T7 : Turns (· = pb) w5' ((((w5'.setCell ⟨pb, 6, none⟩ (.int .i64 s'.most)).setCell ⟨pb, 7, none⟩ (.slice a5 n5 c5)).setCell ⟨pb, 8, none⟩ (.int .i64 s'.turn)).setCell ⟨pb, 9, none⟩ (.bool s'.g)) := ((((Turns.refl (· = pb) w5').setCell (p := ⟨pb, 6, none⟩) (.inl rfl) _).setCell (p := ⟨pb, 7, none⟩) (.inl rfl) _).setCell (p := ⟨pb, 8, none⟩) (.inl rfl) _).setCell (p := ⟨pb, 9, none⟩) (.inl rfl) _
  have HB7 : Hid (Bx w ((((w5'.setCell ⟨pb, 6, none⟩ (.int .i64 s'.most)).setCell ⟨pb, 7, none⟩ (.slice a5 n5 c5)).setCell ⟨pb, 8, none⟩ (.int .i64 s'.turn)).setCell ⟨pb, 9, none⟩ (.bool s'.g)) pb pr r6 (.slice (some ⟨g0, o0, none⟩) nl cl) (.slice a5 n5 c5)) := Lib.hid ⟨by rw [hr6]; exact (((HB6.out.bx.set 6 _).set 7 _).set 8 _).set 9 _, T7.blk HB6.out.rb (fun e => HB6.out.lo.2.2 e.symm), HB6.out.n.trans (T7.mono (fun k _ hk => .inr (by rw [hk]; exact HB6.out.lo.1))), HB6.out.lo⟩
  have HX7 := Lib.hid (T7.blk HX6.out (fun e => HPX.out e.symm))
  have HT7 := Lib.hid (HT6.out.turns T7 (fun y hy e => HT6.out.off HB6.out.bx (by decide) (by rw [hy, e])))
  clear T7
  go_upto_region 7 with fail
  refine (show Code.wp _ _ _ _ ((((w5'.setCell ⟨pb, 6, none⟩ (.int .i64 s'.most)).setCell ⟨pb, 7, none⟩ (.slice a5 n5 c5)).setCell ⟨pb, 8, none⟩ (.int .i64 s'.turn)).setCell ⟨pb, 9, none⟩ (.bool s'.g)) from ?_)
  clear q0 q1 q2 q3 b0 b1 b2 b3 b4 b5 b6 b7 b8 b9 b10 b11 y0 y1 y2 y3 y4 y5 y6 y7 y8 y9 y10 y11 HB6 HX6 HT6 HG6
  generalize (((w5'.setCell ⟨pb, 6, none⟩ (.int .i64 s'.most)).setCell ⟨pb, 7, none⟩ (.slice a5 n5 c5)).setCell ⟨pb, 8, none⟩ (.int .i64 s'.turn)).setCell ⟨pb, 9, none⟩ (.bool s'.g) = w6 at *
  have HR6 := Lib.hid hr6
  clear hr6
  have HB6 := HB7
  have hb3 := HB6.out.bx.cell 5
  change w6.cell? ⟨pb, 5, none⟩ = some (.slice (some ⟨g0, o0, none⟩) nl cl) at hb3
  have fr1 := HB6.out.bx.free 5
  have hpl := HB6.out.bx.lt
  have HS3 := Lib.hid (HO.out.later HB6.out.n).l
  have q0 : i ≤ nl := by omega
  have q2 : i + 1 ≤ nl := by omega
  have jc : i ≤ cl := by omega
  have jc1 : i + 1 ≤ cl := by omega
  obtain ⟨ad, had⟩ : ∃ ad, (if cl = i + 1 then some (⟨g0, o0, none⟩ : Addr) else some ⟨g0, o0 + (i + 1) * 6, none⟩) = ad := ⟨_, rfl⟩
  have HALL : Hid (∀ W, New w6 W → (W.cell? ⟨pb, 5, none⟩ = some (.slice (some ⟨g0, o0, none⟩) nl cl) ∧ W.frozen? ⟨pb, 5, none⟩ = false ∧ pb < W.heap.size) ∧ Sub FE 0 W (.slice (some ⟨g0, o0, none⟩) i cl) (L.take i) ∧ Sub FE 0 W (.slice ad (nl - (i + 1)) (cl - (i + 1))) (L.drop (i + 1))) := Lib.hid (fun W N => by
    have hb := N.blk HB6.out.bx (fun h => h)
    have hs := (HS3.out.later N).sub
    have hl : Lies FE 0 W (.slice (some ⟨g0, o0, none⟩) L.length cl) L := by
      rcases hs with ⟨e, _⟩ | hs
      · injection e with e; cases e
      · rw [HN.out] at hs; exact hs
    refine ⟨⟨hb.cell 5, hb.free 5, hb.lt⟩, .inr (hl.take i (by have := HN.out; omega)), .inr ?_⟩
    have := hl.drop (i + 1) (by have := HN.out; omega)
    rw [← had, HN.out]
    exact this)
  have N0 : New w6 w6 := Turns.refl _ _
  have HL1 : Hid (([] : List Rf).length + (L.take i).length ≤ 1048576) := Lib.hid (by rw [List.length_take]; have := HN.out; simp; omega)
  have HL2 : Hid ((L.take i).length + (L.drop (i + 1)).length ≤ 1048576) := Lib.hid (by rw [List.length_take, List.length_drop]; have := HN.out; omega)
  have HTL : Hid ((L.take i).length = i) := Lib.hid (by rw [List.length_take]; have := HN.out; omega)
  have k0 : (0 : Int) ≤ (i : Int) := by omega
  have k1 : (i : Int) ≤ (i : Int) + 1 := by omega
  have k2 : (i : Int) + 1 ≤ (nl : Int) := by omega
  have k3 : (nl : Int) ≤ (cl : Int) := by omega
  have k4 : (i : Int) ≤ (cl : Int) := by omega
  have k5 : (0 : Int) ≤ (i : Int) + 1 := by omega
  go_cut [] (fun wx => ∃ a4 n4 c4, Mc w w6 wx pb pr r6 (.slice a4 n4 c4) (.slice a5 n5 c5) (L.filter (fun g => g.id != f.id)))
  case first =>
    by_cases hci : cl = i + 1
    · rw [if_pos hci] at had
      subst had
      have hni : nl = i + 1 := by omega
      have HDE : Hid (L.drop (i + 1) = []) := Lib.hid (List.drop_of_length_le (by have := HN.out; omega))
      rw [HDE.out] at HALL HL2
      subst hci hni
      rw [Nat.sub_self] at HALL
      go_region_law
        (first
        | (refine step_append_sub (E := FE) Try.underlying60 infoF rfl (by decide) (by decide) (by rfl) _ _ (by rfl) (.slice (some ⟨_, 0, none⟩) 0 0) (.slice (some ⟨g0, o0, none⟩) i (i + 1)) [] (L.take i) (by rfl) (by rfl) (drr.made0G FE (by repeat (first | with_reducible assumption | with_reducible exact Blk.new _ _ _ | with_reducible apply Blk.alloc | with_reducible apply Blk.drew))) 0 (HALL.out _ (by repeat (first | with_reducible assumption | with_reducible apply Turns.alloc | with_reducible apply Turns.drew))).2.1 HL1.out ?_; intro v8 w8 hown8 hgrow8 hat8; rw [List.nil_append] at hown8; have G8 := drr.madeG (w2 := w6) (by repeat (first | with_reducible assumption | with_reducible apply Turns.alloc | with_reducible apply Turns.drew)) (by first | exact Nat.le_refl _ | exact Nat.le_succ _ | (simp; done) | omega) hown8 hgrow8 (by first | exact hat8 | (rw [World.size_alloc]; exact hat8) | simpa using hat8); have N8 : New w6 w8 := G8.n; obtain ⟨⟨z2, zf, zl1⟩, _⟩ := HALL.out w8 N8; obtain ⟨a9, c9, hv9, _⟩ := G8.own.form; rw [HTL.out] at hv9; subst hv9; clear hown8 hgrow8 hat8)
        | (refine step_append_sub (E := FE) Try.underlying60 infoF rfl (by decide) (by decide) (by rfl) _ _ (by rfl) (.slice a9 i c9) (.slice (some ⟨g0, o0, none⟩) 0 0) (L.take i) [] (by rfl) (by rfl) (G8.own.turns (S := fun _ => False) (by repeat (first | exact Turns.refl _ _ | with_reducible assumption | with_reducible apply Turns.alloc | with_reducible apply Turns.drew)) (fun _ _ h => h)) 0 (HALL.out _ (by repeat (first | with_reducible assumption | with_reducible apply Turns.alloc | with_reducible apply Turns.drew))).2.2 HL2.out ?_; intro v10 w10 hown10 hgrow10 hat10; have hg10 := gr_grow (G8.later (by repeat (first | exact Turns.refl _ _ | with_reducible assumption | with_reducible apply Turns.alloc | with_reducible apply Turns.drew))) hown10 hgrow10 hat10; obtain ⟨a10, c10, hv10, _⟩ := hg10.own.form; generalize (L.take i ++ ([] : List Rf)).length = n10 at hv10; subst hv10; rw [← HDE.out, ← HFT.out] at hg10; have HM10 := Lib.hid (mc_of HB6.out hg10); obtain ⟨⟨y2, yf, yl⟩, _⟩ := HALL.out w10 hg10.n; clear hown10 hgrow10 hat10 hg10))
      all_goals
        go_wp2_with fail
        go_meet
        case rel => exact ⟨a10, n10, c10, HM10.out⟩
    · rw [if_neg hci] at had
      subst had
      go_region_law
        (first
        | (refine step_append_sub (E := FE) Try.underlying60 infoF rfl (by decide) (by decide) (by rfl) _ _ (by rfl) (.slice (some ⟨_, 0, none⟩) 0 0) (.slice (some ⟨g0, o0, none⟩) i cl) [] (L.take i) (by rfl) (by rfl) (drr.made0G FE (by repeat (first | with_reducible assumption | with_reducible exact Blk.new _ _ _ | with_reducible apply Blk.alloc | with_reducible apply Blk.drew))) 0 (HALL.out _ (by repeat (first | with_reducible assumption | with_reducible apply Turns.alloc | with_reducible apply Turns.drew))).2.1 HL1.out ?_; intro v8 w8 hown8 hgrow8 hat8; rw [List.nil_append] at hown8; have G8 := drr.madeG (w2 := w6) (by repeat (first | with_reducible assumption | with_reducible apply Turns.alloc | with_reducible apply Turns.drew)) (by first | exact Nat.le_refl _ | exact Nat.le_succ _ | (simp; done) | omega) hown8 hgrow8 (by first | exact hat8 | (rw [World.size_alloc]; exact hat8) | simpa using hat8); have N8 : New w6 w8 := G8.n; obtain ⟨⟨z2, zf, zl1⟩, _⟩ := HALL.out w8 N8; obtain ⟨a9, c9, hv9, _⟩ := G8.own.form; rw [HTL.out] at hv9; subst hv9; clear hown8 hgrow8 hat8)
        | (refine step_append_sub (E := FE) Try.underlying60 infoF rfl (by decide) (by decide) (by rfl) _ _ (by rfl) (.slice a9 i c9) (.slice (some ⟨g0, o0 + (i + 1) * 6, none⟩) (nl - (i + 1)) (cl - (i + 1))) (L.take i) (L.drop (i + 1)) (by rfl) (by rfl) (G8.own.turns (S := fun _ => False) (by repeat (first | exact Turns.refl _ _ | with_reducible assumption | with_reducible apply Turns.alloc | with_reducible apply Turns.drew)) (fun _ _ h => h)) 0 (HALL.out _ (by repeat (first | with_reducible assumption | with_reducible apply Turns.alloc | with_reducible apply Turns.drew))).2.2 HL2.out ?_; intro v10 w10 hown10 hgrow10 hat10; have hg10 := gr_grow (G8.later (by repeat (first | exact Turns.refl _ _ | with_reducible assumption | with_reducible apply Turns.alloc | with_reducible apply Turns.drew))) hown10 hgrow10 hat10; obtain ⟨a10, c10, hv10, _⟩ := hg10.own.form; generalize (L.take i ++ (L.drop (i + 1))).length = n10 at hv10; subst hv10; rw [← HFT.out] at hg10; have HM10 := Lib.hid (mc_of HB6.out hg10); obtain ⟨⟨y2, yf, yl⟩, _⟩ := HALL.out w10 hg10.n; clear hown10 hgrow10 hat10 hg10))
      all_goals
        go_wp2_with fail
        go_meet
        case rel => exact ⟨a10, n10, c10, HM10.out⟩
  case rest =>
    obtain ⟨a4, n4, c4, hm⟩ := hcut
    have HM := Lib.hid hm
    clear hm k0 k1 k2 k3 k4 k5 hb3 fr1 N0 HALL
    have HMB : Hid (Bx w wc pb pr (remE r f.id s') (.slice a4 n4 c4) (.slice a5 n5 c5)) := Lib.hid (by
      have := HM.out.b
      rw [HR6.out] at this
      exact ⟨this.bx, this.rb, this.n, this.lo⟩)
    have HRO : Hid (RO wc (.slice a4 n4 c4) (.slice a5 n5 c5) (L.filter (fun g => g.id != f.id)) (remE r f.id s')) := Lib.hid (by
      have h6 := HO.out.later HB6.out.n
      refine ⟨HM.out.l, fun g hg => ?_, HT7.out.turns HM.out.t (fun y hy e => HT7.out.off HB6.out.bx (by decide) (by rw [hy, e])), ?_, fun g hg => ?_⟩
      · have hg' := (List.mem_filter.1 hg).1
        exact (h6.q g hg').turns HM.out.t (fun y hy e => (h6.q g hg').off HB6.out.bx (by decide) (by rw [hy, e]))
      · show r.L.filter _ = _
        rw [HO.out.e, List.filter_map]
        rfl
      · exact Nat.lt_of_lt_of_le (h6.b g (HSM.out g hg)) HM.out.t.size)
    have HXC := Lib.hid (HM.out.t.blk HX7.out (fun e => HPX.out e.symm))
    have HSQ : Hid (Sub que.IE 0 wc (.slice f.ao f.q.L.length f.c) f.q.L) := Lib.hid (by
      have h6 := (HO.out.later HB6.out.n).q f (List.mem_of_getElem? HX.out)
      exact (h6.turns HM.out.t (fun y hy e => h6.off HB6.out.bx (by decide) (by rw [hy, e]))).sub)
    have HAL : Hid (∀ W, New wc W → Calls Try.prog 73 #[.int .i64 f.id, .slice f.ao f.q.L.length f.c] W fun e w' => ∃ ua un uc, e = .returned (.slice ua un uc) ∧ Gr SE RSeT wc w' (.slice ua un uc) (nam f.id f.q.L)) := Lib.hid (fun W N => by
      refine (rall f.id (.slice f.ao f.q.L.length f.c) f.q.L W (que.Sub.new HSQ.out N) HQL.out).mono ?_
      rintro e w' ⟨u, rfl, hu⟩
      obtain ⟨ua, uc, hv, _⟩ := hu.own.form
      subst hv
      exact ⟨ua, _, uc, rfl, hu.own, fun g hg => Nat.le_trans N.size (hu.vb g hg), N.trans (hu.n.mono (fun _ _ h => h.elim))⟩)
    clear HM HSQ HX7 HT7 HB6 HB7 HS3 hpl had hnc hn2 hil2 q0 q2 jc jc1 j0 j1 d1 s1 HL1 HL2 HTL
    have x4 : wc.cell? ⟨px, 4, none⟩ = some (.slice f.ao f.q.L.length f.c) := HXC.out.cell 4
    have hxl := HXC.out.lt
    have hbl := HMB.out.bx.lt
    have hrl := HMB.out.rb.lt
    obtain ⟨⟨b0, b1, b2, b3, b4, b5, b6, b7, b8, b9, b10, b11⟩, _⟩ := twelve HMB.out.bx
    obtain ⟨⟨r0, r1, r2, r3, r4, r5, r6', r7, r8, r9, r10, r11⟩, y0, y1, y2, y3, y4, y5, y6, y7, y8, y9, y10, y11⟩ := twelve HMB.out.rb
    go_upto_region 8 with fail
    go_cut [5, 6] (fun v5 v6 wx => ∃ ua un uc, v5 = .slice ua un uc ∧ v6 = .int .i64 0 ∧ Blk wx pr (rO (remE r f.id s') (.slice a4 n4 c4) (.slice a5 n5 c5)) RT20 ∧ RO wx (.slice a4 n4 c4) (.slice a5 n5 c5) (L.filter (fun g => g.id != f.id)) (remE r f.id s') ∧ Gr SE RSeT w wx (.slice ua un uc) (nam f.id f.q.L))
    case first =>
      go_region_law
        (go_simp; go_at_call 73; (with_reducible refine Calls.mono (HAL.out _ ?_) ?_); (focus (first | exact Turns.refl _ _ | exact (Turns.refl _ _).drew | exact (Turns.refl _ _).drew.drew | exact (Turns.refl _ _).drew.drew.drew)); rintro en w9 ⟨ua, un, uc, rfl, hu⟩; have HU := Lib.hid hu; clear hu; obtain ⟨⟨c0, c1, c2, c3, c4, c5, c6, c7, c8, c9, c10, c11⟩, _⟩ := twelve (HMB.out.later HU.out.n).bx; obtain ⟨⟨s0, s1, s2, s3, s4, s5, s6, s7, s8, s9, s10, s11⟩, t0, t1, t2, t3, t4, t5, t6, t7, t8, t9, t10, t11⟩ := twelve (HMB.out.later HU.out.n).rb; have hbl9 := (HMB.out.later HU.out.n).bx.lt; have hrl9 := (HMB.out.later HU.out.n).rb.lt)
      all_goals
        go_wp2_with fail
        go_meet
        case rel =>
          first
            | exact ⟨ua, un, uc, rfl, rfl, fin8 HMB.out HRO.out HU.out (Turns.refl _ _)⟩
            | exact ⟨ua, un, uc, rfl, rfl, fin8 HMB.out HRO.out HU.out (Turns.refl _ _).drew⟩
            | exact ⟨ua, un, uc, rfl, rfl, fin8 HMB.out HRO.out HU.out (Turns.refl _ _).drew.drew⟩
            | exact ⟨ua, un, uc, rfl, rfl, fin8 HMB.out HRO.out HU.out (Turns.refl _ _).drew.drew.drew⟩
    case rest =>
      obtain ⟨ua, un, uc, rfl, rfl, hb, hro, hg⟩ := hcut
      have HZ := Lib.hid hro
      have HZG := Lib.hid hg
      obtain ⟨⟨e0, e1, e2, e3, e4, e5, e6, e7, e8, e9, e10, e11⟩, _⟩ := twelve hb
      clear hro hg b0 b1 b2 b3 b4 b5 b6 b7 b8 b9 b10 b11
      go_wp2_with fail
      refine bodyPost_ret (v := .tuple #[.agg (rO (remE r f.id s') (.slice a4 n4 c4) (.slice a5 n5 c5)), .slice ua un uc, .int .i64 0]) (by simp [results, Try.results78, go_sem, e0, e1, e2, e3, e4, e5, e6, e7, e8, e9, e10, e11]) rfl ?_
      exact ⟨a4, n4, c4, a5, n5, c5, _, rfl, HZ.out, HZG.out⟩
end Go.Proofs.Ytcppibjllaablaa.egr
