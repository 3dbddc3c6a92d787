/-
  The reference of layer 20: Put, of a flow that is there.
-/
import Derived.Test.YtcppibjllaablaaZKaf
set_option linter.unusedVariables false
set_option linter.unusedSimpArgs false
namespace Go.Proofs.Ytcppibjllaablaa.egr
open Go.RowKit mem
open Go.Proofs.Ytcppibjllaablaa.drr (plc plc_at plc_no plc_cases before_succ before_all)
set_option linter.unusedVariables false

abbrev zQ4 : Array Value := #[.int .i64 0, .int .i64 0, .slice none 0 0, .bool false]
/-- what r18.Put leaves, seen from w4, once its queue lies in pq -/
structure Pu (w4 wx : World) (f : Rf) (y : que.It) (pq : Nat) (v' u : Value) : Prop where
  n : New w4 wx
  box : Blk wx pq #[.int .i64 (que.putQ f.q y).frames, .int .i64 (que.putQ f.q y).most, v', .bool (que.putQ f.q y).broken] que.RQ
  lo : w4.heap.size ≤ pq
  ts : TS que.IE que.OT wx v' (que.putQ f.q y).L
  gone : Sub que.IE 0 wx u (que.putD f.q y)
theorem Pu.of {w4 W w5 : World} {f : Rf} {y : que.It} {v' u : Value} (hq : TS que.IE que.OT w4 (.slice f.ao f.q.L.length f.c) f.q.L) (N : New w4 W) (h : que.RPost W w5 (.slice f.ao f.q.L.length f.c) (que.putQ f.q y) v' u (que.putD f.q y)) : New w4 w5 ∧ TS que.IE que.OT w5 v' (que.putQ f.q y).L ∧ (∀ g, v'.ownBlock = some g → g < w4.heap.size ∨ W.heap.size ≤ g) := by
  have n5 := N.trans (h.n.mono (fun _ _ h => h.elim))
  refine ⟨n5, ⟨h.sub, fun g hg => ?_⟩, fun g hg => ?_⟩
  · rcases h.ty g hg with e | e
    · exact (hq.later n5).ty g e
    · exact e
  · rcases h.src g hg with e | e
    · exact .inl (hq.lt g e)
    · exact .inr e
/-- the queue's place is made behind the call -/
theorem Pu.after {w4 W w5 : World} {f : Rf} {y : que.It} {v' u : Value} (hq : TS que.IE que.OT w4 (.slice f.ao f.q.L.length f.c) f.q.L) (N : New w4 W) (h : que.RPost W w5 (.slice f.ao f.q.L.length f.c) (que.putQ f.q y) v' u (que.putD f.q y)) :
    Pu w4 (w5.alloc (.cells #[.int .i64 (que.putQ f.q y).frames, .int .i64 (que.putQ f.q y).most, v', .bool (que.putQ f.q y).broken] que.RQ)) f y w5.heap.size v' u := by
  obtain ⟨n5, ts, _⟩ := Pu.of hq N h
  exact ⟨n5.alloc _, Blk.new _ _ _, n5.size, ts.later ((Turns.refl _ _).alloc _), que.Sub.new h.gone ((Turns.refl _ _).alloc _)⟩
/-- the queue's place is made ahead of the call -/
theorem Pu.ahead {w4 W w5 : World} {f : Rf} {y : que.It} {v' u : Value} (hq : TS que.IE que.OT w4 (.slice f.ao f.q.L.length f.c) f.q.L) (N : New w4 W) (h : que.RPost W w5 (.slice f.ao f.q.L.length f.c) (que.putQ f.q y) v' u (que.putD f.q y)) (hW : W.heap = (w4.alloc (.cells zQ4 que.RQ)).heap) :
    Blk w5 w4.heap.size zQ4 que.RQ ∧ Pu w4 (puts w5 w4.heap.size 0 [.int .i64 (que.putQ f.q y).frames, .int .i64 (que.putQ f.q y).most, v', .bool (que.putQ f.q y).broken]) f y w4.heap.size v' u := by
  obtain ⟨n5, ts, hv⟩ := Pu.of hq N h
  have hs : W.heap.size = w4.heap.size + 1 := by rw [hW]; unfold World.alloc; exact Array.size_push _
  have hb : Blk w5 w4.heap.size zQ4 que.RQ := h.n.blk (by unfold Blk; rw [hW]; exact Blk.new w4 _ _) (fun h => h)
  have t : Turns (· = w4.heap.size) w5 (puts w5 w4.heap.size 0 [.int .i64 (que.putQ f.q y).frames, .int .i64 (que.putQ f.q y).most, v', .bool (que.putQ f.q y).broken]) := puts_turns (S := (· = w4.heap.size)) (.inl rfl) _ 0 _ (Turns.refl _ _)
  refine ⟨hb, n5.trans (t.mono (fun k _ hk => .inr (by rw [hk]; exact Nat.le_refl _))), puts_blk zQ4.toList _ hb rfl, Nat.le_refl _, ts.turns t (fun g hg e => by rcases hv g hg with k | k <;> omega), Sub.turns' h.gone t (fun g hg e => by have := h.gsrc g hg; omega)⟩

set_option maxRecDepth 100000 in
set_option maxHeartbeats 4000000 in
theorem rput_some (al : Option Addr) (nl cl : Nat) (ar : Option Addr) (nr cr : Nat) (L : List Rf) (r : Eo) (i : Nat) (f : Rf) (x : que.It) (w : World) (h : RO w (.slice al nl cl) (.slice ar nr cr) L r) (hl : L.length ≤ 100000) (ha : RAsc L) (hf : L[i]? = some f) (ok : f.q.ok) (hx : x.size ≤ r.most) (s0 : -9223372036854775808 ≤ x.size) (hm : r.most ≤ 16777216) :
    Calls Try.prog 54 #[.agg (rO r (.slice al nl cl) (.slice ar nr cr)), .int .i64 f.id, .agg #[.int .i64 x.n, .int .i64 x.size, .int .i64 x.tick, .bool x.key]] w fun e w' => ∃ a4 n4 c4 ao cc u, e = .returned (.tuple #[.agg (rO r (.slice a4 n4 c4) (.slice ar nr cr)), u, .bool (que.putOk f.q (keyed (toE f) x))]) ∧ RO w' (.slice a4 n4 c4) (.slice ar nr cr) (L.set i (f.with (que.putQ f.q (keyed (toE f) x)) ao cc)) ⟨r.frames, r.bytes, r.age, r.most, r.guard, r.credit, r.row, setQ r.L f.id (.slice none 0 0) (que.putQ f.q (keyed (toE f) x)), r.s⟩ ∧ Gr SE RSeT w w' u (nam f.id (que.putD f.q (keyed (toE f) x))) := by
  obtain ⟨y, hy⟩ : ∃ y, y = keyed (toE f) x := ⟨_, rfl⟩
  rw [← hy]
  obtain ⟨xn, xs, xt, xk⟩ := x
  dsimp only at hx s0
  have HYE : Hid (y = ⟨xn, xs, xt, xk || !f.video⟩) := Lib.hid hy
  have HO := Lib.hid h
  have HX := Lib.hid hf
  have HAS := Lib.hid ha
  have HOK := Lib.hid ok
  have HB := Lib.hid (Bx.start3 w r (.slice al nl cl) (.slice ar nr cr) #[.int .i64 xn, .int .i64 xs, .int .i64 xt, .bool xk] que.OT)
  have HFN := Lib.hid (find_is20 ha hf rfl)
  have HFD := Lib.hid (fun W (N : New w W) => rfind20 (.slice al nl cl) (.slice ar nr cr) L r f.id W (HO.out.later N).l (by omega))
  rw [HFN.out] at HFD
  have HST := Lib.hid (fun W (N : New w W) (q : que.Q) ao m cc hm => rset (.slice al nl cl) ar nr cr L r i f q ao m cc W (HO.out.later N).l (by omega) hf hm)
  have HTQ := Lib.hid (fun W (N : New w W) => (HO.out.later N).q f (List.mem_of_getElem? hf))
  have HDL : Hid ((que.putD f.q y).length ≤ 1000000 ∧ xs ≤ 9223372036854775807) := Lib.hid ⟨by
    have h1 : (que.putD f.q y).length ≤ f.q.L.length := by unfold que.putD; split; exact Nat.zero_le _; rw [List.length_take]; omega
    have h2 := ok.len
    have h3 := ok.f2
    omega, by omega⟩
  have HS0 := Lib.hid s0
  have hil := (List.getElem?_eq_some_iff.1 hf).1
  have hnl : nl = L.length := by
    obtain ⟨_, n2, c2, hv, hn, _⟩ := h.l.form
    injection hv with e1 e2 e3
    omega
  have j0 : (0 : Int) ≤ (i : Int) := by omega
  have j1 : (i : Int) < (nl : Int) := by omega
  have d1 : decide ((i : Int) < 0) = false := decide_eq_false (by omega)
  have d2 : decide (r.most < xs) = false := decide_eq_false (by omega)
  clear h hl ha hf ok hx s0 hm hil hnl hy
  go_enter Try.func54, Try.ntmps54
  go_upto_region 1 with fail
  refine (show Code.wp _ _ _ _ (((w.alloc (.cells (rO r (.slice al nl cl) (.slice ar nr cr)) RT20)).alloc (.cells #[.int .i64 xn, .int .i64 xs, .int .i64 xt, .bool xk] que.OT)).alloc (.cells z12.toArray RT20)) from ?_)
  have HPX : Hid (w.heap.size ≤ w.heap.size + 1) := Lib.hid (Nat.le_succ _)
  generalize ((w.alloc (.cells (rO r (.slice al nl cl) (.slice ar nr cr)) RT20)).alloc (.cells #[.int .i64 xn, .int .i64 xs, .int .i64 xt, .bool xk] que.OT)).alloc (.cells z12.toArray RT20) = w2 at *
  obtain ⟨pb, hpb⟩ : ∃ pb, pb = w.heap.size := ⟨_, rfl⟩
  rw [← hpb] at HB
  rw [show (w.heap.size ≤ w.heap.size + 1) = (w.heap.size ≤ pb + 1) by rw [hpb]] at HPX
  rw [← hpb]
  clear hpb
  generalize pb + 1 + 1 = pr at *
  generalize pb + 1 = px at *
  obtain ⟨⟨b0, b1, b2, b3, b4, b5, b6, b7, b8, b9, b10, b11⟩, _⟩ := twelve HB.out.1.bx
  have HF2 := Lib.hid (HFD.out w2 HB.out.1.n)
  clear HFD
  go_wp2_with fail
  refine HF2.out.mono ?_
  rintro e w3 ⟨rfl, n3⟩
  have HB3 := Lib.hid (HB.out.1.later n3)
  have HX3 := Lib.hid (n3.blk HB.out.2 (fun h => h))
  clear n3 b0 b1 b2 b3 b4 b5 b6 b7 b8 b9 b10 b11 HF2 HB
  have b3 : w3.cell? ⟨pb, 3, none⟩ = some (.int .i64 r.most) := HB3.out.bx.cell 3
  have b5 : w3.cell? ⟨pb, 5, none⟩ = some (.slice al nl cl) := HB3.out.bx.cell 5
  obtain ⟨⟨x0, x1, x2, x3⟩, f0, f1, f2, f3⟩ := que.four HX3.out
  obtain ⟨g, o, hg, hgl, z0, z1, z2, z3, z4, z5⟩ := rf_at (HO.out.later HB3.out.n).l HX.out
  subst hg
  go_upto_region 4 with fail
  go_cut [] (fun wx => wx = w3.setCell ⟨px, 3, none⟩ (.bool (xk || !f.video)))
  case first =>
    cases xk with
    | true =>
      go_wp2_with fail
      go_meet
      case rel => rfl
    | false =>
      go_wp2_with fail
      go_meet
      case rel => rfl
  case rest =>
    subst hcut
    generalize hky : (xk || !f.video) = ky at *
    have T4 : Turns (· = px) w3 (w3.setCell ⟨px, 3, none⟩ (.bool ky)) := (Turns.refl (· = px) _).setCell (.inl rfl) _
    have HX4 : Hid (Blk (w3.setCell ⟨px, 3, none⟩ (.bool ky)) px #[.int .i64 xn, .int .i64 xs, .int .i64 xt, .bool ky] que.OT) := Lib.hid (HX3.out.set 3 _)
    have HB4 : Hid (Bx w (w3.setCell ⟨px, 3, none⟩ (.bool ky)) pb pr r (.slice (some ⟨g, o, none⟩) nl cl) (.slice ar nr cr)) := Lib.hid ⟨T4.blk HB3.out.bx (fun e => blk_ne HB3.out.bx HX3.out (by decide) e), T4.blk HB3.out.rb (fun e => blk_ne HB3.out.rb HX3.out (by decide) e), HB3.out.n.trans (T4.mono (fun k _ hk => .inr (by rw [hk]; exact HPX.out))), HB3.out.lo⟩
    clear T4 b3 b5 x0 x1 x2 x3 f0 f1 f2 f3 z0 z1 z2 z3 z4 z5 hgl hky
    generalize w3.setCell ⟨px, 3, none⟩ (.bool ky) = w4 at *
    have b5 : w4.cell? ⟨pb, 5, none⟩ = some (.slice (some ⟨g, o, none⟩) nl cl) := HB4.out.bx.cell 5
    obtain ⟨⟨x0, x1, x2, x3⟩, _⟩ := que.four HX4.out
    obtain ⟨g', o', hg', hgl, _, _, z2, z3, z4, z5⟩ := rf_at (HO.out.later HB4.out.n).l HX.out
    injection hg' with hg'
    injection hg' with hg1 hg2 _
    subst hg1 hg2
    have hpl := HB4.out.bx.lt
    have hxl := HX4.out.lt
    have HQ4 := Lib.hid (HTQ.out w4 HB4.out.n)
    have HYV : Hid (y.v = .agg #[.int .i64 xn, .int .i64 xs, .int .i64 xt, .bool ky] ∧ y.size = xs) := Lib.hid (by rw [HYE.out]; exact ⟨rfl, rfl⟩)
    have HPU : Hid (∀ W, New w4 W → Calls Try.prog 39 #[.agg #[.int .i64 f.q.frames, .int .i64 f.q.most, .slice f.ao f.q.L.length f.c, .bool f.q.broken], .agg #[.int .i64 xn, .int .i64 xs, .int .i64 xt, .bool ky]] W fun e w5 => ∃ av nv cv au nu cu, e = .returned (.tuple #[.agg #[.int .i64 (que.putQ f.q y).frames, .int .i64 (que.putQ f.q y).most, .slice av nv cv, .bool (que.putQ f.q y).broken], .slice au nu cu, .bool (que.putOk f.q y)]) ∧ que.RPost W w5 (.slice f.ao f.q.L.length f.c) (que.putQ f.q y) (.slice av nv cv) (.slice au nu cu) (que.putD f.q y)) := Lib.hid (fun W N => by
      have hc := que.rput (.slice f.ao f.q.L.length f.c) f.q y W (HQ4.out.later N).sub HOK.out (by rw [HYV.out.2]; exact HS0.out) (by rw [HYV.out.2]; exact HDL.out.2)
      rw [HYV.out.1] at hc
      refine hc.mono ?_
      rintro e w5 ⟨v', u, rfl, hp⟩
      obtain ⟨av, cv, hv, _⟩ := Sub.form hp.sub
      obtain ⟨au, cu, hu, _⟩ := Sub.form hp.gone
      subst hv hu
      exact ⟨av, _, cv, au, _, cu, rfl, hp⟩)
    clear HOK HS0 HYV
    go_upto_region 5 with fail
    go_cut [10, 11, 12] (fun v10 v11 v12 wx => ∃ pq av nv cv au nu cu, v10 = .pointer (some ⟨pq, 0, none⟩) ∧ v11 = .slice au nu cu ∧ v12 = .bool (que.putOk f.q y) ∧ Pu w4 wx f y pq (.slice av nv cv) (.slice au nu cu))
    case first =>
      have HH : Hid (HeldU w4 w4 pb px g (o + i * 6) (.slice (some ⟨g, o, none⟩) nl cl) (.int .i64 f.q.frames) (.int .i64 f.q.most) (.slice f.ao f.q.L.length f.c) (.bool f.q.broken) (.int .i64 xn) (.int .i64 xs) (.int .i64 xt) (.bool ky)) := Lib.hid ⟨Turns.refl _ _, hpl, hxl, hgl, b5, z2, z3, z4, z5, x0, x1, x2, x3⟩
      have hh := HH.out
      go_region_held (fun w' => New w4 w' ∧ pb < w'.heap.size ∧ px < w'.heap.size ∧ g < w'.heap.size ∧ w'.cell? ⟨pb, 5, none⟩ = some (.slice (some ⟨g, o, none⟩) nl cl) ∧ w'.cell? ⟨g, o + i * 6 + 2, none⟩ = some (.int .i64 f.q.frames) ∧ w'.cell? ⟨g, o + i * 6 + 3, none⟩ = some (.int .i64 f.q.most) ∧ w'.cell? ⟨g, o + i * 6 + 4, none⟩ = some (.slice f.ao f.q.L.length f.c) ∧ w'.cell? ⟨g, o + i * 6 + 5, none⟩ = some (.bool f.q.broken) ∧ w'.cell? ⟨px, 0, none⟩ = some (.int .i64 xn) ∧ w'.cell? ⟨px, 1, none⟩ = some (.int .i64 xs) ∧ w'.cell? ⟨px, 2, none⟩ = some (.int .i64 xt) ∧ w'.cell? ⟨px, 3, none⟩ = some (.bool ky))
        (first
          | (with_reducible assumption)
          | ((with_reducible refine heldU_drew ?_); with_reducible assumption)
          | ((with_reducible refine heldU_alloc _ ?_); with_reducible assumption)
          | ((with_reducible refine heldU_drew (heldU_alloc _ ?_)); with_reducible assumption)
          | ((with_reducible refine heldU_new hnq.n ?_); with_reducible assumption)
          | ((with_reducible refine heldU_new ?_ HH.out); (repeat (first | (with_reducible refine Turns.alloc ?_ _) | (with_reducible refine Turns.drew ?_) | (with_reducible refine Turns.setCell ?_ (.inr (Nat.le_refl _)) _))); (with_reducible exact (Pu.of HQ4.out (by repeat (first | exact Turns.refl _ _ | apply Turns.alloc | apply Turns.drew)) hnq).1)))
        ((go_at_call 39; (with_reducible refine Calls.mono (HPU.out _ ?_) ?_); (focus ((repeat (first | (with_reducible refine Turns.alloc ?_ _) | (with_reducible refine Turns.drew ?_))); exact Turns.refl _ _)); rintro en wq ⟨av, nv, cv, au, nu, cu, rfl, hnq⟩; (first | (have hpy := (Pu.ahead HQ4.out (by repeat (first | exact Turns.refl _ _ | apply Turns.alloc | apply Turns.drew)) hnq rfl).1; obtain ⟨⟨q0, q1, q2, q3⟩, e0, e1, e2, e3⟩ := que.four hpy) | skip)))
      · have HP := Lib.hid (Pu.after HQ4.out (by repeat (first | exact Turns.refl _ _ | apply Turns.alloc | apply Turns.drew)) hnq)
        go_wp2_with fail
        go_meet
        case rel => exact ⟨_, av, nv, cv, au, nu, cu, rfl, rfl, rfl, HP.out⟩
      · have HP := Lib.hid (Pu.ahead HQ4.out (by repeat (first | exact Turns.refl _ _ | apply Turns.alloc | apply Turns.drew)) hnq rfl).2
        go_wp2_with fail
        go_meet
        case rel => exact ⟨_, av, nv, cv, au, nu, cu, rfl, rfl, rfl, HP.out⟩
    case rest =>
      obtain ⟨pq, av, nv, cv, au, nu, cu, rfl, rfl, rfl, hpu⟩ := hcut
      have HP := Lib.hid hpu
      have HB5 := Lib.hid (HB4.out.later hpu.n)
      clear hpu b5 x0 x1 x2 x3 z2 z3 z4 z5 hgl hpl hxl HPU
      obtain ⟨⟨b0, b1, b2, b3, b4, b5, b6, b7, b8, b9, b10, b11⟩, _⟩ := twelve HB5.out.bx
      obtain ⟨⟨q0, q1, q2, q3⟩, _⟩ := que.four HP.out.box
      have HNV : Hid (nv = (que.putQ f.q y).L.length) := Lib.hid (by
        obtain ⟨_, _, hv, _⟩ := Sub.form HP.out.ts.sub
        injection hv)
      have HS5 := Lib.hid (HST.out wc HB5.out.n (que.putQ f.q y) av nv cv HNV.out)
      clear HST
      go_wp2_with fail
      refine HS5.out.mono ?_
      rintro e w7 ⟨a4, n4, c4, rfl, hts, n7⟩
      have HB7 := Lib.hid (HB5.out.later n7)
      have HT7 := Lib.hid hts
      have HQ7 := Lib.hid (HP.out.ts.later n7)
      have HA7 := Lib.hid (rall f.id (.slice au nu cu) (que.putD f.q y) w7 (que.Sub.new HP.out.gone n7) HDL.out.1)
      clear q0 q1 q2 q3 b0 b1 b2 b3 b4 b5 b6 b7 b8 b9 b10 b11 hts n7 HS5
      go_wp2_with fail
      refine HA7.out.mono ?_
      rintro e w8 ⟨u8, rfl, hu⟩
      obtain ⟨a8, c8, huv, _⟩ := hu.own.form
      generalize (nam f.id (que.putD f.q y)).length = n8 at huv
      subst huv
      have HU := Lib.hid hu
      have HB8 := Lib.hid (HB7.out.later hu.n)
      have HT8 := Lib.hid (HT7.out.later hu.n)
      have HQ8 := Lib.hid (HQ7.out.later hu.n)
      clear hu HA7
      obtain ⟨⟨r0, r1, r2, r3, r4, r5, r6, r7, r8, r9, r10, r11⟩, y0, y1, y2, y3, y4, y5, y6, y7, y8, y9, y10, y11⟩ := twelve HB8.out.rb
      have HFI := Lib.hid (HB8.out.fin r (.slice a4 n4 c4) (.slice ar nr cr))
      have HFT := Lib.hid (HB8.out.ts r (.slice a4 n4 c4) (.slice ar nr cr) HT8.out (by decide))
      have HFQ := Lib.hid (HB8.out.ts r (.slice a4 n4 c4) (.slice ar nr cr) HQ8.out (by decide))
      have HFU := Lib.hid (HB8.out.ow r (.slice a4 n4 c4) (.slice ar nr cr) HU.out.own (by decide))
      have HVB : Hid (∀ g, (Value.slice a8 n8 c8).ownBlock = some g → w.heap.size ≤ g) := Lib.hid (fun g hg => Nat.le_trans HB7.out.n.size (HU.out.vb g hg))
      go_wp2_with fail
      refine (show bodyPost _ _ _ _ _ (puts w8 pr 0 (rO r (.slice a4 n4 c4) (.slice ar nr cr)).toList) from ?_)
      clear r0 r1 r2 r3 r4 r5 r6 r7 r8 r9 r10 r11 y0 y1 y2 y3 y4 y5 y6 y7 y8 y9 y10 y11
      generalize puts w8 pr 0 (rO r (.slice a4 n4 c4) (.slice ar nr cr)).toList = w12 at *
      obtain ⟨⟨e0, e1, e2, e3, e4, e5, e6, e7, e8, e9, e10, e11⟩, _⟩ := twelve HFI.out.1
      refine bodyPost_ret (v := .tuple #[.agg (rO r (.slice a4 n4 c4) (.slice ar nr cr)), .slice a8 n8 c8, .bool (que.putOk f.q y)]) (by simp [results, Try.results54, go_sem, e0, e1, e2, e3, e4, e5, e6, e7, e8, e9, e10, e11]) rfl ?_
      exact ⟨a4, n4, c4, av, cv, _, rfl, HO.out.set HFI.out.2 HAS.out HX.out HFT.out (by rw [← HNV.out]; exact HFQ.out), HFU.out, HVB.out, HFI.out.2⟩
end Go.Proofs.Ytcppibjllaablaa.egr
