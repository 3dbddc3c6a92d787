/-
  'Does' of layer 9's laws: Tick.
-/
import Derived.Test.YtfgfejcnkjeghaaReoDoes1
namespace Go.Proofs.Ytfgfejcnkjeghaa.reo
open Go.RowKit mem
set_option linter.unusedVariables false

set_option maxRecDepth 100000 in
set_option maxHeartbeats 4000000 in
theorem does2 (w0 w : World) (p : Nat) (vb v : Value) (b : B) (now M by_ : Int) (s : ByteArray) (h : Own w0 w p vb b) (hr : RS w v b.L) (hf : Fine b M) (hM : M + 100 ≤ 1099511627776) (n0 : 0 ≤ now) (n1 : now ≤ 1099511600000) :
    Calls Try.prog 10 #[.agg (stL p b v now).toArray, .agg #[.int .i64 2, .int .i64 by_, .string s]] w fun e w' => ∃ v' u, e = .returned (.tuple #[.agg (stL p (lpB (old (now + by_ % 32)) b) v' (now + by_ % 32)).toArray, u, .bool true]) ∧ Dn w0 w w' p vb (lpB (old (now + by_ % 32)) b) v' u (lpO (old (now + by_ % 32)) b) := by
  have HO := Lib.hid h
  have HR := Lib.hid hr
  have HF := Lib.hid hf
  obtain ⟨ax, nx, cx, hv, hnx, q1, q2⟩ := hr.form
  clear h hr hf hnx q1 q2
  subst hv
  obtain ⟨nw, hnw⟩ : ∃ nw, now + by_ % 32 = nw := ⟨_, rfl⟩
  rw [hnw]
  have M5 := mask.mask5 by_
  have hsb : Blk (((w.alloc (.cells #[.pointer (some ⟨p, 0, none⟩), .int .i64 b.most, .int .i64 b.wait, .bool b.begun, .int .i64 b.next, .slice ax nx cx, .int .i64 b.lost, .int .i64 now] TS)).alloc (.cells #[.int .i64 2, .int .i64 by_, .string s] AT)).alloc (.cells zsL.toArray TS)) w.heap.size #[.pointer (some ⟨p, 0, none⟩), .int .i64 b.most, .int .i64 b.wait, .bool b.begun, .int .i64 b.next, .slice ax nx cx, .int .i64 b.lost, .int .i64 now] TS := ((Blk.new _ _ _).alloc _).alloc _
  have hab : Blk (((w.alloc (.cells #[.pointer (some ⟨p, 0, none⟩), .int .i64 b.most, .int .i64 b.wait, .bool b.begun, .int .i64 b.next, .slice ax nx cx, .int .i64 b.lost, .int .i64 now] TS)).alloc (.cells #[.int .i64 2, .int .i64 by_, .string s] AT)).alloc (.cells zsL.toArray TS)) (w.heap.size + 1) #[.int .i64 2, .int .i64 by_, .string s] AT := (Blk.new' _ _ _ _ (by simp)).alloc _
  have hrb : Blk (((w.alloc (.cells #[.pointer (some ⟨p, 0, none⟩), .int .i64 b.most, .int .i64 b.wait, .bool b.begun, .int .i64 b.next, .slice ax nx cx, .int .i64 b.lost, .int .i64 now] TS)).alloc (.cells #[.int .i64 2, .int .i64 by_, .string s] AT)).alloc (.cells zsL.toArray TS)) (w.heap.size + 1 + 1) zsL.toArray TS := Blk.new' _ _ _ _ (by simp)
  have hn1 : New w (((w.alloc (.cells #[.pointer (some ⟨p, 0, none⟩), .int .i64 b.most, .int .i64 b.wait, .bool b.begun, .int .i64 b.next, .slice ax nx cx, .int .i64 b.lost, .int .i64 now] TS)).alloc (.cells #[.int .i64 2, .int .i64 by_, .string s] AT)).alloc (.cells zsL.toArray TS)) := (((Turns.refl _ _).alloc _).alloc _).alloc _
  have HSB := Lib.hid hsb
  have HAB := Lib.hid hab
  have HRB := Lib.hid hrb
  have HN1 := Lib.hid hn1
  clear hsb hab hrb hn1
  unfold stL
  go_enter Try.func10, Try.ntmps10
  go_upto_region 1 with fail
  refine (show Code.wp _ _ _ _ (((w.alloc (.cells #[.pointer (some ⟨p, 0, none⟩), .int .i64 b.most, .int .i64 b.wait, .bool b.begun, .int .i64 b.next, .slice ax nx cx, .int .i64 b.lost, .int .i64 now] TS)).alloc (.cells #[.int .i64 2, .int .i64 by_, .string s] AT)).alloc (.cells zsL.toArray TS)) from ?_)
  generalize ((w.alloc (.cells #[.pointer (some ⟨p, 0, none⟩), .int .i64 b.most, .int .i64 b.wait, .bool b.begun, .int .i64 b.next, .slice ax nx cx, .int .i64 b.lost, .int .i64 now] TS)).alloc (.cells #[.int .i64 2, .int .i64 by_, .string s] AT)).alloc (.cells zsL.toArray TS) = w1 at *
  have HPP : Hid (w.heap.size ≤ w.heap.size ∧ w.heap.size ≤ w.heap.size + 1 ∧ w.heap.size ≤ w.heap.size + 1 + 1 ∧ w.heap.size ≠ w.heap.size + 1 ∧ w.heap.size ≠ w.heap.size + 1 + 1 ∧ w.heap.size + 1 ≠ w.heap.size + 1 + 1) := Lib.hid (by omega)
  generalize w.heap.size + 1 + 1 = pr at *
  generalize w.heap.size + 1 = pa at *
  generalize hps : w.heap.size = ps at *
  have HPS := Lib.hid hps
  clear hps
  obtain ⟨⟨b0, b1, b2, b3, b4, b5, b6, b7⟩, z0, z1, z2, z3, z4, z5, z6, z7⟩ := eight HSB.out
  have a0 : w1.cell? ⟨pa, 0, none⟩ = some (.int .i64 2) := HAB.out.cell 0
  have a1 : w1.cell? ⟨pa, 1, none⟩ = some (.int .i64 by_) := HAB.out.cell 1
  have hb32 : 0 ≤ by_ % 32 ∧ by_ % 32 < 32 := by omega
  obtain ⟨hb0, hb1⟩ := hb32
  generalize by_ % 32 = m32 at *
  have n0' : 0 ≤ nw := by omega
  have n1' : nw ≤ 1099511627776 := by omega
  have s1 : IntKind.i64.wrap nw = nw := IntWalk.i64_in _ (by omega)
  generalize (Value.agg #[.pointer (some ⟨p, 0, none⟩), .int .i64 b.most, .int .i64 b.wait, .bool b.begun, .int .i64 b.next, .slice ax nx cx, .int .i64 b.lost, .int .i64 now]) = arg0 at *
  generalize (Value.agg #[.int .i64 2, .int .i64 by_, .string s]) = arg1 at *
  have t2 : Turns (· = ps) w1 (w1.setCell ⟨ps, 7, none⟩ (.int .i64 nw)) := (Turns.refl (· = ps) _).setCell (.inl rfl) _
  have H2 : Hid (Blk (w1.setCell ⟨ps, 7, none⟩ (.int .i64 nw)) ps #[.pointer (some ⟨p, 0, none⟩), .int .i64 b.most, .int .i64 b.wait, .bool b.begun, .int .i64 b.next, .slice ax nx cx, .int .i64 b.lost, .int .i64 nw] TS ∧ Blk (w1.setCell ⟨ps, 7, none⟩ (.int .i64 nw)) pr zsL.toArray TS ∧ New w (w1.setCell ⟨ps, 7, none⟩ (.int .i64 nw))) := Lib.hid ⟨HSB.out.set 7 _, t2.blk HRB.out (fun e => HPP.out.2.2.2.2.1 e.symm), HN1.out.trans (t2.mono (fun i _ hi => .inr (by rw [hi, ← HPS.out]; exact Nat.le_refl _)))⟩
  clear t2
  go_upto_region 13 with fail
  refine (show Code.wp _ _ _ _ (w1.setCell ⟨ps, 7, none⟩ (.int .i64 nw)) from ?_)
  generalize w1.setCell ⟨ps, 7, none⟩ (.int .i64 nw) = w2 at *
  clear b0 b1 b2 b3 b4 b5 b6 b7 z0 z1 z2 z3 z4 z5 z6 z7 a0 a1 HSB HAB HRB HN1 s1
  cases (True.intro : True)
  · -- the calls
      have HB2 := Lib.hid H2.out.1
      have HR2 := Lib.hid H2.out.2.1
      have HN2 := Lib.hid H2.out.2.2
      have HO2 := Lib.hid (HO.out.later HN2.out)
      have HRS2 := Lib.hid (HR.out.later HN2.out)
      clear H2
      obtain ⟨⟨b0, b1, b2, b3, b4, b5, b6, b7⟩, z0, z1, z2, z3, z4, z5, z6, z7⟩ := eight HB2.out
      have HPUT := Lib.hid (tick_ p vb b nw M w2 HO2.out.bs HF.out.ok (by omega) n0' n1')
      go_wp2_with fail
      refine HPUT.out.mono ?_
      rintro e w3 ⟨vb3, vo3, rfl, t3⟩
      have T3 := Lib.hid t3
      have hb3 := Blk.two HB2.out t3 HO2.out.bs (by decide) (by decide)
      have hr3 := Blk.two HR2.out t3 HO2.out.bs (by decide) (by decide)
      have HRS3 := Lib.hid (RS.two (wx := w2) HRS2.out t3 HO2.out.bs)
      have HO3 := Lib.hid (HO2.out.lft t3)
      obtain ⟨ap, cp, hvp, _⟩ := t3.out.form
      clear b0 b1 b2 b3 b4 b5 b6 b7 z0 z1 z2 z3 z4 z5 z6 z7 HPUT t3
      have HB3 := Lib.hid hb3
      have HR3 := Lib.hid hr3
      obtain ⟨⟨b0, b1, b2, b3, b4, b5, b6, b7⟩, z0, z1, z2, z3, z4, z5, z6, z7⟩ := eight hb3
      clear hb3 hr3
      have HRP : Hid (Calls Try.prog 23 #[.agg #[.int .i64 b.most, .int .i64 b.wait, .bool b.begun, .int .i64 b.next, .slice ax nx cx, .int .i64 b.lost], .int .i64 nw] w3 fun e w' => ∃ v' vo, e = .returned (.tuple #[.agg #[.int .i64 (lpB (old nw) b).most, .int .i64 (lpB (old nw) b).wait, .bool (lpB (old nw) b).begun, .int .i64 (lpB (old nw) b).next, v', .int .i64 (lpB (old nw) b).lost], vo]) ∧ RQ w3 w' v' (lpB (old nw) b) vo (lpO (old nw) b)) := Lib.hid (rtick (.slice ax nx cx) b nw M w3 HRS3.out HF.out.ok (by omega) n0' n1')
      subst hvp
      generalize hlo : (lpO (old nw) b).length = lo at *
      have HLO := Lib.hid hlo
      clear hlo
      go_wp2_with fail
      refine HRP.out.mono ?_
      rintro e w4 ⟨v4, u4, rfl, rq⟩
      obtain ⟨a4, n4, c4, hv4, q1, q2, q3⟩ := rq.rs.form
      clear q1 q2 q3 HRP
      subst hv4
      have RQH := Lib.hid rq
      have N4 := Lib.hid rq.out.n
      have hb4 := (rq.out.n.blk HB3.out (fun h => h)).alloc (.cells #[.int .i64 (lpB (old nw) b).most, .int .i64 (lpB (old nw) b).wait, .bool (lpB (old nw) b).begun, .int .i64 (lpB (old nw) b).next, .slice a4 n4 c4, .int .i64 (lpB (old nw) b).lost] XT)
      have hr4 := (rq.out.n.blk HR3.out (fun h => h)).alloc (.cells #[.int .i64 (lpB (old nw) b).most, .int .i64 (lpB (old nw) b).wait, .bool (lpB (old nw) b).begun, .int .i64 (lpB (old nw) b).next, .slice a4 n4 c4, .int .i64 (lpB (old nw) b).lost] XT)
      have hd4 : Blk (w4.alloc (.cells #[.int .i64 (lpB (old nw) b).most, .int .i64 (lpB (old nw) b).wait, .bool (lpB (old nw) b).begun, .int .i64 (lpB (old nw) b).next, .slice a4 n4 c4, .int .i64 (lpB (old nw) b).lost] XT)) w4.heap.size #[.int .i64 (lpB (old nw) b).most, .int .i64 (lpB (old nw) b).wait, .bool (lpB (old nw) b).begun, .int .i64 (lpB (old nw) b).next, .slice a4 n4 c4, .int .i64 (lpB (old nw) b).lost] XT := Blk.new _ _ _
      have hpd : ps ≠ w4.heap.size := by have := (rq.out.n.blk HB3.out (fun h => h)).lt; omega
      have N5 : Hid (New w3 (w4.alloc (.cells #[.int .i64 (lpB (old nw) b).most, .int .i64 (lpB (old nw) b).wait, .bool (lpB (old nw) b).begun, .int .i64 (lpB (old nw) b).next, .slice a4 n4 c4, .int .i64 (lpB (old nw) b).lost] XT))) := Lib.hid (N4.out.alloc _)
      clear rq b0 b1 b2 b3 b4 b5 b6 b7 z0 z1 z2 z3 z4 z5 z6 z7
      go_upto_region 15 with fail
      refine (show Code.wp _ _ _ _ (w4.alloc (.cells #[.int .i64 (lpB (old nw) b).most, .int .i64 (lpB (old nw) b).wait, .bool (lpB (old nw) b).begun, .int .i64 (lpB (old nw) b).next, .slice a4 n4 c4, .int .i64 (lpB (old nw) b).lost] XT)) from ?_)
      have HW5 : Hid (∃ w5, w5 = w4.alloc (.cells #[.int .i64 (lpB (old nw) b).most, .int .i64 (lpB (old nw) b).wait, .bool (lpB (old nw) b).begun, .int .i64 (lpB (old nw) b).next, .slice a4 n4 c4, .int .i64 (lpB (old nw) b).lost] XT)) := Lib.hid ⟨_, rfl⟩
      obtain ⟨w5, hw5⟩ := HW5.out
      rw [← hw5] at hb4 hr4 hd4 N5 ⊢
      have HWE := Lib.hid hw5
      clear HW5 hw5
      generalize w4.heap.size = pd at *
      have HB5 := Lib.hid hb4
      have HR5 := Lib.hid hr4
      obtain ⟨⟨b0, b1, b2, b3, b4, b5, b6, b7⟩, z0, z1, z2, z3, z4, z5, z6, z7⟩ := eight hb4
      obtain ⟨d0, d1, d2, d3, d4, d5, dd⟩ := six hd4
      have hl1 := hb4.lt
      have hl2 := hd4.lt
      clear dd hb4 hr4 hd4
      go_upto_region 16 with fail
      refine (show Code.wp _ _ _ _ (puts w5 ps 1 [.int .i64 (lpB (old nw) b).most, .int .i64 (lpB (old nw) b).wait, .bool (lpB (old nw) b).begun, .int .i64 (lpB (old nw) b).next, .slice a4 n4 c4, .int .i64 (lpB (old nw) b).lost]) from ?_)
      have t6 : Turns (· = ps) w5 (puts w5 ps 1 [.int .i64 (lpB (old nw) b).most, .int .i64 (lpB (old nw) b).wait, .bool (lpB (old nw) b).begun, .int .i64 (lpB (old nw) b).next, .slice a4 n4 c4, .int .i64 (lpB (old nw) b).lost]) := puts_turns (S := (· = ps)) (.inl rfl) _ 1 _ (Turns.refl _ _)
      have hb6 : Blk (puts w5 ps 1 [.int .i64 (lpB (old nw) b).most, .int .i64 (lpB (old nw) b).wait, .bool (lpB (old nw) b).begun, .int .i64 (lpB (old nw) b).next, .slice a4 n4 c4, .int .i64 (lpB (old nw) b).lost]) ps [.pointer (some ⟨p, 0, none⟩), .int .i64 (lpB (old nw) b).most, .int .i64 (lpB (old nw) b).wait, .bool (lpB (old nw) b).begun, .int .i64 (lpB (old nw) b).next, .slice a4 n4 c4, .int .i64 (lpB (old nw) b).lost, .int .i64 nw].toArray TS := puts_over _ 1 _ _ HB5.out
      have hr6 := t6.blk HR5.out (fun e => HPP.out.2.2.2.2.1 e.symm)
      have HW0 : Hid (w0.heap.size ≤ ps) := Lib.hid (by have := HO.out.n.size; have := HPS.out; omega)
      have HO6 : Hid (Own w0 (puts w5 ps 1 [.int .i64 (lpB (old nw) b).most, .int .i64 (lpB (old nw) b).wait, .bool (lpB (old nw) b).begun, .int .i64 (lpB (old nw) b).next, .slice a4 n4 c4, .int .i64 (lpB (old nw) b).lost]) p vb3 (lpB (old nw) b)) := Lib.hid ((HO3.out.later N5.out).turnps HB5.out t6 HW0.out)
      have rs5 : RS w5 (.slice a4 n4 c4) (lpB (old nw) b).L := by rw [HWE.out]; exact RQH.out.rs.later ((Turns.refl _ _).alloc _)
      have HS6 : Hid (RS (puts w5 ps 1 [.int .i64 (lpB (old nw) b).most, .int .i64 (lpB (old nw) b).wait, .bool (lpB (old nw) b).begun, .int .i64 (lpB (old nw) b).next, .slice a4 n4 c4, .int .i64 (lpB (old nw) b).lost]) (.slice a4 n4 c4) (lpB (old nw) b).L) := Lib.hid (rs5.turns t6 (fun g hg e => rs5.off HB5.out (by decide) (by rw [hg, e])))
      have u5 : Owns TE RT w5 u4 (lpO (old nw) b) := by rw [HWE.out]; exact RQH.out.out.own.turns (S := fun _ => False) ((Turns.refl _ _).alloc _) (fun _ _ h => h)
      have HU6 : Hid (Owns TE RT (puts w5 ps 1 [.int .i64 (lpB (old nw) b).most, .int .i64 (lpB (old nw) b).wait, .bool (lpB (old nw) b).begun, .int .i64 (lpB (old nw) b).next, .slice a4 n4 c4, .int .i64 (lpB (old nw) b).lost]) u4 (lpO (old nw) b)) := Lib.hid (u5.turns t6 (fun g hg e => own_ne u5 HB5.out (by decide) (by rw [hg, e])))
      have q5 := T3.out.out.turns (S := fun _ => False) N5.out (fun _ _ h => h)
      have HQ6 : Hid (Owns TE PT (puts w5 ps 1 [.int .i64 (lpB (old nw) b).most, .int .i64 (lpB (old nw) b).wait, .bool (lpB (old nw) b).begun, .int .i64 (lpB (old nw) b).next, .slice a4 n4 c4, .int .i64 (lpB (old nw) b).lost]) (.slice ap lo cp) (lpO (old nw) b)) := Lib.hid (q5.turns t6 (fun g hg e => own_ne q5 HB5.out (by decide) (by rw [hg, e])))
      have HT6 : Hid (Turns (Foot p vb) w (puts w5 ps 1 [.int .i64 (lpB (old nw) b).most, .int .i64 (lpB (old nw) b).wait, .bool (lpB (old nw) b).begun, .int .i64 (lpB (old nw) b).next, .slice a4 n4 c4, .int .i64 (lpB (old nw) b).lost])) := Lib.hid ((((HN2.out.mono (fun _ _ h => h.elim)).trans (T3.out.t.mono (fun _ _ h => .inl h))).trans (N5.out.mono (fun _ _ h => h.elim))).trans (t6.mono (fun i _ hi => .inr (by rw [hi, ← HPS.out]; exact Nat.le_refl _))))
      have hlo : (lpO (old nw) b).length ≤ 1000000 := by
        have := lpO_len (old nw) b; have := HF.out.len; omega
      have HB6 := Lib.hid hb6
      have HR6 := Lib.hid hr6
      clear t6 rs5 u5 q5 hb6 hr6
      generalize puts w5 ps 1 [.int .i64 (lpB (old nw) b).most, .int .i64 (lpB (old nw) b).wait, .bool (lpB (old nw) b).begun, .int .i64 (lpB (old nw) b).next, .slice a4 n4 c4, .int .i64 (lpB (old nw) b).lost] = w6 at *
      clear b0 b1 b2 b3 b4 b5 b6 b7 z0 z1 z2 z3 z4 z5 z6 z7 d0 d1 d2 d3 d4 d5 hl1 hl2
      have HSA := Lib.hid (fun (W : World) (n : New w6 W) => same (.slice ap lo cp) u4 (lpO (old nw) b) W (Sub.turns (HQ6.out.sub 0 (fun _ _ => Nat.zero_le _)) n (fun _ _ h => h)) (Sub.turns (HU6.out.sub 0 (fun _ _ => Nat.zero_le _)) n (fun _ _ h => h)) hlo)
      obtain ⟨⟨b0, b1, b2, b3, b4, b5, b6, b7⟩, _⟩ := eight HB6.out
      have hpsl := HB6.out.lt
      have hpsr := HPP.out.2.2.2.2.1
      have HH : HeldE w6 w6 pr ps (.pointer (some ⟨p, 0, none⟩)) (.int .i64 (lpB (old nw) b).most) (.int .i64 (lpB (old nw) b).wait) (.bool (lpB (old nw) b).begun) (.int .i64 (lpB (old nw) b).next) (.slice a4 n4 c4) (.int .i64 (lpB (old nw) b).lost) (.int .i64 nw) := ⟨Turns.refl _ _, hpsl, b0, b1, b2, b3, b4, b5, b6, b7⟩
      have HPRG : Hid (w.heap.size ≤ pr ∧ w0.heap.size ≤ pr) := Lib.hid ⟨by have := HPS.out; have := HPP.out; omega, by have := HO.out.n.size; have := HPS.out; have := HPP.out; omega⟩
      clear HB5 HR5 HWE N5 N4 RQH HB3 HR3 HO3 T3 HRS3 HO2 HRS2 HR2 HB2 HN2
      go_region_held (fun w' => Turns (· = pr) w6 w' ∧ ps < w'.heap.size ∧ w'.cell? ⟨ps, 0, none⟩ = some (.pointer (some ⟨p, 0, none⟩)) ∧ w'.cell? ⟨ps, 1, none⟩ = some (.int .i64 (lpB (old nw) b).most) ∧ w'.cell? ⟨ps, 2, none⟩ = some (.int .i64 (lpB (old nw) b).wait) ∧ w'.cell? ⟨ps, 3, none⟩ = some (.bool (lpB (old nw) b).begun) ∧ w'.cell? ⟨ps, 4, none⟩ = some (.int .i64 (lpB (old nw) b).next) ∧ w'.cell? ⟨ps, 5, none⟩ = some (.slice a4 n4 c4) ∧ w'.cell? ⟨ps, 6, none⟩ = some (.int .i64 (lpB (old nw) b).lost) ∧ w'.cell? ⟨ps, 7, none⟩ = some (.int .i64 nw))
        (first
          | (with_reducible assumption)
          | ((with_reducible refine heldE_drew ?_); with_reducible assumption)
          | ((with_reducible refine heldE_new (by with_reducible assumption) ?_); with_reducible assumption)
          | ((with_reducible refine heldE_store hpsr _ _ _ _ _ _ _ _ ?_); with_reducible assumption))
        ((go_at_call 21; (with_reducible refine Calls.mono (HSA.out _ ?_) ?_); (focus (repeat (first | exact Turns.refl _ _ | with_reducible apply Turns.drew))); rintro e w9 ⟨rfl, n9⟩; have hr9 : Blk w9 pr zsL.toArray TS := n9.blk HR6.out (fun h => h); obtain ⟨⟨r0', r1', r2', r3', r4', r5', r6', r7'⟩, y0', y1', y2', y3', y4', y5', y6', y7'⟩ := eight hr9))
      all_goals
        go_wp2_with fail
        refine (show bodyPost _ _ _ _ _ (puts w9 pr 0 [.pointer (some ⟨p, 0, none⟩), .int .i64 (lpB (old nw) b).most, .int .i64 (lpB (old nw) b).wait, .bool (lpB (old nw) b).begun, .int .i64 (lpB (old nw) b).next, .slice a4 n4 c4, .int .i64 (lpB (old nw) b).lost, .int .i64 nw]) from ?_)
        have hff := Dn.store (zs := [.pointer (some ⟨p, 0, none⟩), .int .i64 (lpB (old nw) b).most, .int .i64 (lpB (old nw) b).wait, .bool (lpB (old nw) b).begun, .int .i64 (lpB (old nw) b).next, .slice a4 n4 c4, .int .i64 (lpB (old nw) b).lost, .int .i64 nw]) HO6.out HS6.out HT6.out HU6.out HR6.out HPRG.out.1 HPRG.out.2 (by first | exact n9 | exact Turns.of_drew n9 | exact Turns.of_drew (Turns.of_drew n9)) rfl
        generalize puts w9 pr 0 [.pointer (some ⟨p, 0, none⟩), .int .i64 (lpB (old nw) b).most, .int .i64 (lpB (old nw) b).wait, .bool (lpB (old nw) b).begun, .int .i64 (lpB (old nw) b).next, .slice a4 n4 c4, .int .i64 (lpB (old nw) b).lost, .int .i64 nw] = wz at *
        obtain ⟨⟨g0, g1, g2, g3, g4, g5, g6, g7⟩, _⟩ := eight hff.1
        refine bodyPost_ret (v := .tuple #[.agg #[.pointer (some ⟨p, 0, none⟩), .int .i64 (lpB (old nw) b).most, .int .i64 (lpB (old nw) b).wait, .bool (lpB (old nw) b).begun, .int .i64 (lpB (old nw) b).next, .slice a4 n4 c4, .int .i64 (lpB (old nw) b).lost, .int .i64 nw], u4, .bool true]) (by simp [results, Try.results10, go_sem, g0, g1, g2, g3, g4, g5, g6, g7]) rfl ?_
        exact ⟨_, _, rfl, hff.2⟩
end Go.Proofs.Ytfgfejcnkjeghaa.reo
