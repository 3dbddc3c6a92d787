/-
  'Does' of layer 18's laws: Pop, Break, no call.
-/
import Derived.Test.YtcaloeolmoodbaaQueDdef
namespace Go.Proofs.Ytcaloeolmoodbaa.que
open Go.RowKit mem
set_option linter.unusedVariables false

theorem Ds.apart {w : World} {p : Nat} {pv : Value} {q : Q} {xv : Value} (h : Ds w p pv q xv) : (∀ i, w.heap.size ≤ i → i ≠ p ∧ ¬ Foot p pv i) ∧ ∀ g, xv.ownBlock = some g → g < w.heap.size := by
  refine ⟨fun i hi => ?_, fun g hg => (Sub.lt h.sub g hg).2⟩
  have h1 := h.qs.lt
  refine ⟨by omega, fun hf => ?_⟩
  rcases hf with hf | hf
  · omega
  · have := h.qs.vlt i hf; omega
/-- nothing but blocks made since w has turned -/
theorem Ds.keep {w w' : World} {p : Nat} {pv : Value} {q : Q} {xv : Value} (h : Ds w p pv q xv) (n : New w w') : Dn w w' p pv xv q pv xv := ⟨h.later n, .inl rfl, fun g hg => .inl hg, n.mono (fun _ _ h => h.elim)⟩

set_option maxRecDepth 100000 in
set_option maxHeartbeats 1000000 in
theorem does0 (p : Nat) (pv xv : Value) (q : Q) (now n age kd sz : Int) (ky : Bool) (w : World) (h : Ds w p pv q xv) (k1 : (kd == 1) = false) (k2 : (kd == 2) = false) (k3 : (kd == 3) = false) (k4 : (kd == 4) = false) :
    Calls Try.prog 16 #[.agg (stL p q xv now n age).toArray, .agg #[.int .i64 kd, .int .i64 sz, .bool ky]] w fun e w' => ∃ pv' xv', e = .returned (.tuple #[.agg (stL p q xv' now n age).toArray, .int .i64 0, .bool false, .bool true]) ∧ Dn w w' p pv xv q pv' xv' := by
  obtain ⟨ax, cx, hxv, hcx, hcxm⟩ := h.sub.form
  have HD := Lib.hid h
  clear h
  subst hxv
  have hbx := bx0 w (stL p q (.slice ax q.L.length cx) now n age) [.int .i64 kd, .int .i64 sz, .bool ky]
  have HBX := Lib.hid hbx
  clear hbx
  go_enter Try.func16, Try.ntmps16
  go_upto_region 1 with fail
  refine (show Code.wp _ _ _ _ (((w.alloc (.cells (stL p q (.slice ax q.L.length cx) now n age).toArray TS)).alloc (.cells ([.int .i64 kd, .int .i64 sz, .bool ky] : List Value).toArray AT)).alloc (.cells zrs.toArray TS)) from ?_)
  generalize ((w.alloc (.cells (stL p q (.slice ax q.L.length cx) now n age).toArray TS)).alloc (.cells ([.int .i64 kd, .int .i64 sz, .bool ky] : List Value).toArray AT)).alloc (.cells zrs.toArray TS) = w1 at *
  obtain ⟨hb1, hn1⟩ := HBX.out
  obtain ⟨pb, hpb⟩ : ∃ pb, pb = w.heap.size := ⟨_, rfl⟩
  have HPB : Hid (w.heap.size ≤ pb ∧ w.heap.size ≤ pb + 1 ∧ w.heap.size ≤ pb + 1 + 1 ∧ pb ≠ pb + 1 ∧ pb ≠ pb + 1 + 1 ∧ pb + 1 ≠ pb + 1 + 1) := Lib.hid (by omega)
  rw [← hpb] at hb1
  rw [← hpb]
  clear hpb HBX
  generalize pb + 1 + 1 = pr at *
  generalize pb + 1 = pa at *
  have HB1 := Lib.hid hb1
  have HN1 := Lib.hid hn1
  clear hn1
  obtain ⟨⟨b0, b1, b2, b3, b4, b5, b6, b7⟩, z0, z1, z2, z3, z4, z5, z6, z7⟩ := eight hb1.b
  have a0 := hb1.a.cell 0
  have a1 := hb1.a.cell 1
  have a2 := hb1.a.cell 2
  clear hb1
  obtain ⟨⟨r0, r1, r2, r3, r4, r5, r6, r7⟩, y0, y1, y2, y3, y4, y5, y6, y7⟩ := eight HB1.out.r
  have HR9 := Lib.hid HB1.out.r
  have hrb := HPB.out.2.2.2.2.1
  have HDN : Hid (∀ wz, Turns (· = pr) w1 wz → Dn w wz p pv (.slice ax q.L.length cx) q pv (.slice ax q.L.length cx)) := Lib.hid (fun wz tz => HD.out.keep (HN1.out.trans (tz.mono (fun i _ hi => .inr (by rw [hi]; exact HPB.out.2.2.1)))))
  go_wp2_with fail
  refine (show bodyPost _ _ _ _ _ (puts w1 pr 0 (stL p q (.slice ax q.L.length cx) now n age)) from ?_)
  have hz9 := puts_blk zrs (stL p q (.slice ax q.L.length cx) now n age) HR9.out rfl
  have hdn := HDN.out (puts w1 pr 0 (stL p q (.slice ax q.L.length cx) now n age)) (puts_turns (S := (· = pr)) (.inl rfl) _ 0 _ (Turns.refl _ _))
  generalize puts w1 pr 0 (stL p q (.slice ax q.L.length cx) now n age) = wz at *
  obtain ⟨⟨g0, g1, g2, g3, g4, g5, g6, g7⟩, _⟩ := eight hz9
  refine bodyPost_ret (v := .tuple #[.agg (stL p q (.slice ax q.L.length cx) now n age).toArray, .int .i64 0, .bool false, .bool true]) (by simp [results, Try.results16, go_sem, g0, g1, g2, g3, g4, g5, g6, g7]) rfl ?_
  exact ⟨pv, _, rfl, hdn⟩

set_option maxRecDepth 100000 in
set_option maxHeartbeats 2000000 in
theorem does4 (p : Nat) (pv xv : Value) (q : Q) (now n age sz : Int) (ky : Bool) (w : World) (h : Ds w p pv q xv) :
    Calls Try.prog 16 #[.agg (stL p q xv now n age).toArray, .agg #[.int .i64 4, .int .i64 sz, .bool ky]] w fun e w' => ∃ pv' xv', e = .returned (.tuple #[.agg (stL p ⟨q.frames, q.most, [], true⟩ xv' now n age).toArray, .int .i64 0, .bool true, .bool true]) ∧ Dn w w' p pv xv ⟨q.frames, q.most, [], true⟩ pv' xv' := by
  obtain ⟨ax, cx, hxv, hcx, hcxm⟩ := h.sub.form
  have HD := Lib.hid h
  clear h
  subst hxv
  have hbx := bx0 w (stL p q (.slice ax q.L.length cx) now n age) [.int .i64 4, .int .i64 sz, .bool ky]
  have HBX := Lib.hid hbx
  clear hbx
  go_enter Try.func16, Try.ntmps16
  go_upto_region 1 with fail
  refine (show Code.wp _ _ _ _ (((w.alloc (.cells (stL p q (.slice ax q.L.length cx) now n age).toArray TS)).alloc (.cells ([.int .i64 4, .int .i64 sz, .bool ky] : List Value).toArray AT)).alloc (.cells zrs.toArray TS)) from ?_)
  generalize ((w.alloc (.cells (stL p q (.slice ax q.L.length cx) now n age).toArray TS)).alloc (.cells ([.int .i64 4, .int .i64 sz, .bool ky] : List Value).toArray AT)).alloc (.cells zrs.toArray TS) = w1 at *
  obtain ⟨hb1, hn1⟩ := HBX.out
  obtain ⟨pb, hpb⟩ : ∃ pb, pb = w.heap.size := ⟨_, rfl⟩
  have HPB : Hid (w.heap.size ≤ pb ∧ w.heap.size ≤ pb + 1 ∧ w.heap.size ≤ pb + 1 + 1 ∧ pb ≠ pb + 1 ∧ pb ≠ pb + 1 + 1 ∧ pb + 1 ≠ pb + 1 + 1) := Lib.hid (by omega)
  rw [← hpb] at hb1
  rw [← hpb]
  clear hpb HBX
  generalize pb + 1 + 1 = pr at *
  generalize pb + 1 = pa at *
  have HB1 := Lib.hid hb1
  have HN1 := Lib.hid hn1
  clear hn1
  obtain ⟨⟨b0, b1, b2, b3, b4, b5, b6, b7⟩, z0, z1, z2, z3, z4, z5, z6, z7⟩ := eight hb1.b
  have a0 := hb1.a.cell 0
  have a1 := hb1.a.cell 1
  have a2 := hb1.a.cell 2
  clear hb1
  have HD1 := Lib.hid (HD.out.later HN1.out)
  have HAP := Lib.hid HD.out.apart
  go_wp2_with fail
  refine (break_ p pv q w1 HD1.out.qs).mono ?_
  rintro e w2 ⟨vl, rfl, hg⟩
  have hb2 := HB1.out.turns hg.turns (HAP.out.1 _ HPB.out.1).2 (HAP.out.1 _ HPB.out.2.1).2 (HAP.out.1 _ HPB.out.2.2.1).2
  have hs2 : Sub IE 0 w2 (.slice ax q.L.length cx) q.L := Sub.turns' HD1.out.sub hg.turns (fun g hg hf => by
    have := HD.out.ap g hg
    rcases hf with hf | hf
    · exact this.1 hf
    · exact this.2 hf)
  have HSM := Lib.hid (same vl (.slice ax q.L.length cx) q.L w2 (hg.fr.own.sub 0 (fun _ _ => Nat.zero_le _)) hs2 (by have := HD.out.qs.small; omega))
  have HB2 := Lib.hid hb2
  have HG := Lib.hid hg
  clear b0 b1 b2 b3 b4 b5 b6 b7 z0 z1 z2 z3 z4 z5 z6 z7 a0 a1 a2
  obtain ⟨⟨b0, b1, b2, b3, b4, b5, b6, b7⟩, _⟩ := eight hb2.b
  clear hb2 hs2 hg
  go_wp2_with fail
  refine HSM.out.mono ?_
  rintro e w3 ⟨rfl, n3⟩
  have hb3 := HB2.out.new n3
  have HB3 := Lib.hid hb3
  have HN3 := Lib.hid n3
  clear b0 b1 b2 b3 b4 b5 b6 b7
  obtain ⟨⟨b0, b1, b2, b3, b4, b5, b6, b7⟩, z0, z1, z2, z3, z4, z5, z6, z7⟩ := eight hb3.b
  clear hb3 n3
  have t4 : Turns (· = pb) w3 ((w3.setCell ⟨pb, 3, none⟩ (.slice none 0 0)).setCell ⟨pb, 4, none⟩ (.bool true)) := ((Turns.refl (· = pb) _).setCell (p := ⟨pb, 3, none⟩) (.inl rfl) _).setCell (p := ⟨pb, 4, none⟩) (.inl rfl) _
  have HB4 : Hid (Bx w ((w3.setCell ⟨pb, 3, none⟩ (.slice none 0 0)).setCell ⟨pb, 4, none⟩ (.bool true)) pb pa pr (stL p ⟨q.frames, q.most, [], true⟩ (.slice none 0 0) now n age) [.int .i64 4, .int .i64 sz, .bool ky]) := Lib.hid ⟨(HB3.out.b.set 3 (.slice none 0 0)).set 4 (.bool true), t4.blk HB3.out.a HPB.out.2.2.2.1.symm, t4.blk HB3.out.r HPB.out.2.2.2.2.1.symm⟩
  have HT4 := Lib.hid t4
  clear t4
  go_upto_region 27 with fail
  refine (show Code.wp _ _ _ _ ((w3.setCell ⟨pb, 3, none⟩ (.slice none 0 0)).setCell ⟨pb, 4, none⟩ (.bool true)) from ?_)
  clear b0 b1 b2 b3 b4 b5 b6 b7 z0 z1 z2 z3 z4 z5 z6 z7
  generalize (w3.setCell ⟨pb, 3, none⟩ (.slice none 0 0)).setCell ⟨pb, 4, none⟩ (.bool true) = w4 at *
  obtain ⟨⟨b0, b1, b2, b3, b4, b5, b6, b7⟩, _⟩ := eight HB4.out.b
  obtain ⟨⟨r0, r1, r2, r3, r4, r5, r6, r7⟩, y0, y1, y2, y3, y4, y5, y6, y7⟩ := eight HB4.out.r
  have HR9 := Lib.hid HB4.out.r
  have hrb := HPB.out.2.2.2.2.1
  have HDN : Hid (∀ wz, Turns (· = pr) w4 wz → ∃ pv', Dn w wz p pv (.slice ax q.L.length cx) ⟨q.frames, q.most, [], true⟩ pv' (.slice none 0 0)) := Lib.hid (fun wz tz => by
    obtain ⟨pv', hq2, he⟩ := HG.out.qs
    have t2z : Turns (fun k => k = pb ∨ k = pr) w2 wz := ((HN3.out.mono (fun _ _ h => h.elim)).trans (HT4.out.mono (fun _ _ h => .inl (.inl h)))).trans (tz.mono (fun _ _ h => .inl (.inr h)))
    have hqz := hq2.turns t2z (fun e => by
      rcases e with e | e
      · exact (HAP.out.1 pb HPB.out.1).1 e.symm
      · exact (HAP.out.1 pr HPB.out.2.2.1).1 e.symm) (fun g hg e => by
      have := HD.out.qs.vlt g (he ▸ hg)
      have h1 := HPB.out.1
      have h2 := HPB.out.2.2.1
      rcases e with e | e <;> omega)
    refine ⟨pv', ⟨hqz, Sub.nil _ _ _, fun g hg => by simp [Value.ownBlock] at hg⟩, .inl he, fun g hg => by simp [Value.ownBlock] at hg, ?_⟩
    exact (HN1.out.mono (fun _ _ h => h.elim)).trans ((HG.out.turns.mono (fun _ _ h => .inl h)).trans (t2z.mono (fun k _ hk => .inl (.inr (by rcases hk with e | e <;> rw [e]; exact HPB.out.1; exact HPB.out.2.2.1))))))
  go_wp2_with fail
  refine (show bodyPost _ _ _ _ _ (puts w4 pr 0 (stL p ⟨q.frames, q.most, [], true⟩ (.slice none 0 0) now n age)) from ?_)
  have hz9 := puts_blk zrs (stL p ⟨q.frames, q.most, [], true⟩ (.slice none 0 0) now n age) HR9.out rfl
  obtain ⟨pv', hdn⟩ := HDN.out (puts w4 pr 0 (stL p ⟨q.frames, q.most, [], true⟩ (.slice none 0 0) now n age)) (puts_turns (S := (· = pr)) (.inl rfl) _ 0 _ (Turns.refl _ _))
  generalize puts w4 pr 0 (stL p ⟨q.frames, q.most, [], true⟩ (.slice none 0 0) now n age) = wz at *
  obtain ⟨⟨g0, g1, g2, g3, g4, g5, g6, g7⟩, _⟩ := eight hz9
  refine bodyPost_ret (v := .tuple #[.agg (stL p ⟨q.frames, q.most, [], true⟩ (.slice none 0 0) now n age).toArray, .int .i64 0, .bool true, .bool true]) (by simp [results, Try.results16, go_sem, g0, g1, g2, g3, g4, g5, g6, g7]) rfl ?_
  exact ⟨pv', _, rfl, hdn⟩
end Go.Proofs.Ytcaloeolmoodbaa.que
