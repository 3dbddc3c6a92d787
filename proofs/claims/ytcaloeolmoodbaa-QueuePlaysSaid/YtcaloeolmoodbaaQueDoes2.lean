/-
  'Does' of layer 18's laws: Pop.
-/
import Derived.Test.YtcaloeolmoodbaaQueDoes4
import Derived.Test.YtcaloeolmoodbaaQueHeldF
namespace Go.Proofs.Ytcaloeolmoodbaa.que
open Go.RowKit mem
set_option linter.unusedVariables false

set_option maxRecDepth 100000 in
set_option maxHeartbeats 2000000 in
theorem does2_nil (p : Nat) (pv xv : Value) (q : Q) (now n age sz : Int) (ky : Bool) (w : World) (h : Ds w p pv q xv) (hL : q.L = []) :
    Calls Try.prog 16 #[.agg (stL p q xv now n age).toArray, .agg #[.int .i64 2, .int .i64 sz, .bool ky]] w fun e w' => ∃ pv' xv', e = .returned (.tuple #[.agg (stL p q xv' now n age).toArray, .int .i64 0, .bool false, .bool true]) ∧ Dn w w' p pv xv q pv' xv' := by
  have hz1 : ((q.L.length : Int) == 0) = true := by rw [hL]; rfl
  have HZ1 := Lib.hid hz1
  have HLL := Lib.hid hL
  clear hL hz1
  obtain ⟨ax, cx, hxv, hcx, hcxm⟩ := h.sub.form
  have HD := Lib.hid h
  clear h
  subst hxv
  have hbx := bx0 w (stL p q (.slice ax q.L.length cx) now n age) [.int .i64 2, .int .i64 sz, .bool ky]
  have HBX := Lib.hid hbx
  clear hbx
  go_enter Try.func16, Try.ntmps16
  go_upto_region 1 with fail
  refine (show Code.wp _ _ _ _ (((w.alloc (.cells (stL p q (.slice ax q.L.length cx) now n age).toArray TS)).alloc (.cells ([.int .i64 2, .int .i64 sz, .bool ky] : List Value).toArray AT)).alloc (.cells zrs.toArray TS)) from ?_)
  generalize ((w.alloc (.cells (stL p q (.slice ax q.L.length cx) now n age).toArray TS)).alloc (.cells ([.int .i64 2, .int .i64 sz, .bool ky] : List Value).toArray AT)).alloc (.cells zrs.toArray TS) = w1 at *
  obtain ⟨hb1, hn1⟩ := HBX.out
  obtain ⟨pb, hpb⟩ : ∃ pb, pb = w.heap.size := ⟨_, rfl⟩
  have HPB : Hid (w.heap.size ≤ pb ∧ w.heap.size ≤ pb + 1 ∧ w.heap.size ≤ pb + 1 + 1 ∧ pb ≠ pb + 1 ∧ pb ≠ pb + 1 + 1 ∧ pb + 1 ≠ pb + 1 + 1) := Lib.hid (by omega)
  rw [← hpb] at hb1
  rw [← hpb]
  clear hpb HBX
  generalize pb + 1 + 1 = pr at *
  generalize pb + 1 = pa at *
  have HB1 := Lib.hid hb1
  have HN1 := Lib.hid hn1
  clear hn1
  obtain ⟨⟨b0, b1, b2, b3, b4, b5, b6, b7⟩, z0, z1, z2, z3, z4, z5, z6, z7⟩ := eight hb1.b
  have a0 := hb1.a.cell 0
  have a1 := hb1.a.cell 1
  have a2 := hb1.a.cell 2
  clear hb1
  have HD1 := Lib.hid (HD.out.later HN1.out)
  have HAP := Lib.hid HD.out.apart
  go_wp2_with fail
  refine (pop_nil p pv q w1 HD1.out.qs HLL.out).mono ?_
  rintro e w2 ⟨rfl, n2⟩
  have hx3 : Blk (w2.alloc (.cells #[.int .i64 0, .int .i64 0, .int .i64 0, .bool false] PT)) w2.heap.size #[.int .i64 0, .int .i64 0, .int .i64 0, .bool false] PT := Blk.new _ _ _
  have n3 : New w1 (w2.alloc (.cells #[.int .i64 0, .int .i64 0, .int .i64 0, .bool false] PT)) := n2.alloc _
  have HB3 := Lib.hid (HB1.out.new n3)
  have HN3 := Lib.hid n3
  have HX3 := Lib.hid hx3
  clear b0 b1 b2 b3 b4 b5 b6 b7 z0 z1 z2 z3 z4 z5 z6 z7 a0 a1 a2
  have n2s := n2.blk HB1.out.r (fun h => h)
  clear hx3 n3 n2
  go_upto_region 11 with fail
  refine (show Code.wp _ _ _ _ (w2.alloc (.cells #[.int .i64 0, .int .i64 0, .int .i64 0, .bool false] PT)) from ?_)
  generalize w2.alloc (.cells #[.int .i64 0, .int .i64 0, .int .i64 0, .bool false] PT) = w3 at *
  have hpx : w2.heap.size ≠ pr := by have := (n2s).lt; omega
  generalize w2.heap.size = px at *
  obtain ⟨⟨b0, b1, b2, b3, b4, b5, b6, b7⟩, _⟩ := eight HB3.out.b
  obtain ⟨⟨r0, r1, r2, r3, r4, r5, r6, r7⟩, y0, y1, y2, y3, y4, y5, y6, y7⟩ := eight HB3.out.r
  obtain ⟨⟨x0, x1, x2, x3⟩, _⟩ := four HX3.out
  have hz1 := HZ1.out
  have HR9 := Lib.hid HB3.out.r
  have hrb := HPB.out.2.2.2.2.1
  have HDN : Hid (∀ wz, Turns (· = pr) w3 wz → ∃ pv', Dn w wz p pv (.slice ax q.L.length cx) q pv' (.slice ax q.L.length cx)) := Lib.hid (fun wz tz => ⟨pv, HD.out.keep ((HN1.out.trans (HN3.out.mono (fun _ _ h => h.elim))).trans (tz.mono (fun i _ hi => .inr (by rw [hi]; exact HPB.out.2.2.1))))⟩)
  have hbl := HB3.out.b.lt
  have hxl := HX3.out.lt
  have hwl := HX3.out.lt
  have hxr := hpx
  have hwr := hpx
  have u0 := x0
  have u1 := x1
  have u2 := x2
  have u3 := x3
  go_upto_region 12 with fail
  have HH : HeldF w3 w3 pr pb px px (.pointer (some ⟨p, 0, none⟩)) (.int .i64 q.frames) (.int .i64 q.most) (.slice ax q.L.length cx) (.bool q.broken) (.int .i64 now) (.int .i64 n) (.int .i64 age) (.int .i64 0) (.int .i64 0) (.int .i64 0) (.bool false) (.int .i64 0) (.int .i64 0) (.int .i64 0) (.bool false) := ⟨Turns.refl _ _, hbl, hxl, hwl, b0, b1, b2, b3, b4, b5, b6, b7, x0, x1, x2, x3, u0, u1, u2, u3⟩
  clear b0 b1 b2 b3 b4 b5 b6 b7 x0 x1 x2 x3 u0 u1 u2 u3
  obtain ⟨_, _, _, _, b0, b1, b2, b3, b4, b5, b6, b7, x0, x1, x2, x3, u0, u1, u2, u3⟩ := id HH
  go_wp2_with fail
  first
    | go_region_held (fun w' => Turns (· = pr) w3 w' ∧ pb < w'.heap.size ∧ px < w'.heap.size ∧ px < w'.heap.size ∧ w'.cell? ⟨pb, 0, none⟩ = some (.pointer (some ⟨p, 0, none⟩)) ∧ w'.cell? ⟨pb, 1, none⟩ = some (.int .i64 q.frames) ∧ w'.cell? ⟨pb, 2, none⟩ = some (.int .i64 q.most) ∧ w'.cell? ⟨pb, 3, none⟩ = some (.slice ax q.L.length cx) ∧ w'.cell? ⟨pb, 4, none⟩ = some (.bool q.broken) ∧ w'.cell? ⟨pb, 5, none⟩ = some (.int .i64 now) ∧ w'.cell? ⟨pb, 6, none⟩ = some (.int .i64 n) ∧ w'.cell? ⟨pb, 7, none⟩ = some (.int .i64 age) ∧ w'.cell? ⟨px, 0, none⟩ = some (.int .i64 0) ∧ w'.cell? ⟨px, 1, none⟩ = some (.int .i64 0) ∧ w'.cell? ⟨px, 2, none⟩ = some (.int .i64 0) ∧ w'.cell? ⟨px, 3, none⟩ = some (.bool false) ∧ w'.cell? ⟨px, 0, none⟩ = some (.int .i64 0) ∧ w'.cell? ⟨px, 1, none⟩ = some (.int .i64 0) ∧ w'.cell? ⟨px, 2, none⟩ = some (.int .i64 0) ∧ w'.cell? ⟨px, 3, none⟩ = some (.bool false))
        (first
          | (with_reducible assumption)
          | ((with_reducible refine heldF_drew ?_); with_reducible assumption)
          | ((with_reducible refine heldF_store hrb hxr hwr _ _ _ _ _ _ _ _ ?_); with_reducible assumption)
          | ((with_reducible refine heldF_drew (heldF_store hrb hxr hwr _ _ _ _ _ _ _ _ ?_)); with_reducible first | assumption | exact HH))
        (fail)
    | skip
  all_goals
    go_wp2_with fail
    refine (show bodyPost _ _ _ _ _ (puts w3 pr 0 (stL p q (.slice ax q.L.length cx) now n age)).drew from ?_)
    have hz9 := puts_blk zrs (stL p q (.slice ax q.L.length cx) now n age) HR9.out rfl
    obtain ⟨pv', hdn⟩ := HDN.out (puts w3 pr 0 (stL p q (.slice ax q.L.length cx) now n age)).drew (puts_turns (S := (· = pr)) (.inl rfl) _ 0 _ (Turns.refl _ _)).drew
    generalize puts w3 pr 0 (stL p q (.slice ax q.L.length cx) now n age) = wz at *
    obtain ⟨⟨g0, g1, g2, g3, g4, g5, g6, g7⟩, _⟩ := eight hz9
    refine bodyPost_ret (v := .tuple #[.agg (stL p q (.slice ax q.L.length cx) now n age).toArray, .int .i64 0, .bool false, .bool true]) (by simp [results, Try.results16, go_sem, g0, g1, g2, g3, g4, g5, g6, g7]) rfl ?_
    exact ⟨pv', .slice ax q.L.length cx, rfl, hdn⟩

set_option maxRecDepth 100000 in
set_option maxHeartbeats 2000000 in
theorem does2_cons (p : Nat) (pv xv : Value) (q : Q) (x : It) (now n age sz : Int) (ky : Bool) (w : World) (h : Ds w p pv q xv) (hx : q.L[0]? = some x) :
    Calls Try.prog 16 #[.agg (stL p q xv now n age).toArray, .agg #[.int .i64 2, .int .i64 sz, .bool ky]] w fun e w' => ∃ pv' xv', e = .returned (.tuple #[.agg (stL p ⟨q.frames, q.most, q.L.drop 1, q.broken⟩ xv' now n age).toArray, .int .i64 x.n, .bool false, .bool true]) ∧ Dn w w' p pv xv ⟨q.frames, q.most, q.L.drop 1, q.broken⟩ pv' xv' := by
  have hlt : 0 < q.L.length := (List.getElem?_eq_some_iff.1 hx).1
  have hsm := h.qs.small
  have hz1 : ((q.L.length : Int) == 0) = false := beq_false_of_ne (by omega)
  have HXX := Lib.hid hx
  clear hx
  obtain ⟨ax, cx, hxv, hcx, hcxm⟩ := h.sub.form
  have HD := Lib.hid h
  clear h
  subst hxv
  have hbx := bx0 w (stL p q (.slice ax q.L.length cx) now n age) [.int .i64 2, .int .i64 sz, .bool ky]
  have HBX := Lib.hid hbx
  clear hbx
  go_enter Try.func16, Try.ntmps16
  go_upto_region 1 with fail
  refine (show Code.wp _ _ _ _ (((w.alloc (.cells (stL p q (.slice ax q.L.length cx) now n age).toArray TS)).alloc (.cells ([.int .i64 2, .int .i64 sz, .bool ky] : List Value).toArray AT)).alloc (.cells zrs.toArray TS)) from ?_)
  generalize ((w.alloc (.cells (stL p q (.slice ax q.L.length cx) now n age).toArray TS)).alloc (.cells ([.int .i64 2, .int .i64 sz, .bool ky] : List Value).toArray AT)).alloc (.cells zrs.toArray TS) = w1 at *
  obtain ⟨hb1, hn1⟩ := HBX.out
  obtain ⟨pb, hpb⟩ : ∃ pb, pb = w.heap.size := ⟨_, rfl⟩
  have HPB : Hid (w.heap.size ≤ pb ∧ w.heap.size ≤ pb + 1 ∧ w.heap.size ≤ pb + 1 + 1 ∧ pb ≠ pb + 1 ∧ pb ≠ pb + 1 + 1 ∧ pb + 1 ≠ pb + 1 + 1) := Lib.hid (by omega)
  rw [← hpb] at hb1
  rw [← hpb]
  clear hpb HBX
  generalize pb + 1 + 1 = pr at *
  generalize pb + 1 = pa at *
  have HB1 := Lib.hid hb1
  have HN1 := Lib.hid hn1
  clear hn1
  obtain ⟨⟨b0, b1, b2, b3, b4, b5, b6, b7⟩, z0, z1, z2, z3, z4, z5, z6, z7⟩ := eight hb1.b
  have a0 := hb1.a.cell 0
  have a1 := hb1.a.cell 1
  have a2 := hb1.a.cell 2
  clear hb1
  have HD1 := Lib.hid (HD.out.later HN1.out)
  have HAP := Lib.hid HD.out.apart
  go_wp2_with fail
  refine (pop_cons p pv q x w1 HD1.out.qs HXX.out).mono ?_
  rintro e w2 ⟨rfl, hl2⟩
  have hb2 := HB1.out.turns hl2.turns (HAP.out.1 _ HPB.out.1).2 (HAP.out.1 _ HPB.out.2.1).2 (HAP.out.1 _ HPB.out.2.2.1).2
  have hs2 : Sub IE 0 w2 (.slice ax q.L.length cx) q.L := Sub.turns' HD1.out.sub hl2.turns (fun g hg hf => by
    have := HD.out.ap g hg
    rcases hf with hf | hf
    · exact this.1 hf
    · exact this.2 hf)
  have HL2 := Lib.hid hl2
  have HS2 := Lib.hid hs2
  obtain ⟨g, o, cx', hxe, hgl, _⟩ := Sub.at' hs2 HXX.out
  injection hxe with hx1 _ hx3
  subst hx1 hx3
  obtain ⟨xn, xs, xt, xk⟩ := x
  dsimp only [It.v]
  have n3 : New w2 (w2.alloc (.cells #[.int .i64 xn, .int .i64 xs, .int .i64 xt, .bool xk] PT)) := (Turns.refl _ _).alloc _
  have n4 : New w2 ((w2.alloc (.cells #[.int .i64 xn, .int .i64 xs, .int .i64 xt, .bool xk] PT)).alloc (.cells #[.int .i64 xn, .int .i64 xs, .int .i64 xt, .bool xk] OT)) := n3.alloc _
  have hx3 : Blk ((w2.alloc (.cells #[.int .i64 xn, .int .i64 xs, .int .i64 xt, .bool xk] PT)).alloc (.cells #[.int .i64 xn, .int .i64 xs, .int .i64 xt, .bool xk] OT)) w2.heap.size #[.int .i64 xn, .int .i64 xs, .int .i64 xt, .bool xk] PT := (Blk.new _ _ _).alloc _
  have hw4 : Blk ((w2.alloc (.cells #[.int .i64 xn, .int .i64 xs, .int .i64 xt, .bool xk] PT)).alloc (.cells #[.int .i64 xn, .int .i64 xs, .int .i64 xt, .bool xk] OT)) (w2.heap.size + 1) #[.int .i64 xn, .int .i64 xs, .int .i64 xt, .bool xk] OT := Blk.new' _ _ _ (by simp)
  have HB4 := Lib.hid (hb2.new n4)
  have HN4 := Lib.hid n4
  have HX4 := Lib.hid (And.intro hx3 hw4)
  have hs3 := Sub.new hs2 n3
  obtain ⟨g', o', cx', hxe', _, d0, d1, d2, d3⟩ := Sub.at' hs3 HXX.out
  injection hxe' with hx1 _ hx3'
  injection hx1 with hx1
  injection hx1 with hx1 hx2
  subst hx1 hx2 hx3'
  have e0 : (w2.alloc (.cells #[.int .i64 xn, .int .i64 xs, .int .i64 xt, .bool xk] PT)).cell? ⟨g, o, none⟩ = some (.int .i64 xn) := by simpa using d0
  have e1 : (w2.alloc (.cells #[.int .i64 xn, .int .i64 xs, .int .i64 xt, .bool xk] PT)).cell? ⟨g, o + 1, none⟩ = some (.int .i64 xs) := by simpa using d1
  have e2 : (w2.alloc (.cells #[.int .i64 xn, .int .i64 xs, .int .i64 xt, .bool xk] PT)).cell? ⟨g, o + 2, none⟩ = some (.int .i64 xt) := by simpa using d2
  have e3 : (w2.alloc (.cells #[.int .i64 xn, .int .i64 xs, .int .i64 xt, .bool xk] PT)).cell? ⟨g, o + 3, none⟩ = some (.bool xk) := by simpa using d3
  have hb3 := hb2.new n3
  clear b0 b1 b2 b3 b4 b5 b6 b7 z0 z1 z2 z3 z4 z5 z6 z7 a0 a1 a2
  obtain ⟨⟨b0, b1, b2, b3, b4, b5, b6, b7⟩, _⟩ := eight hb3.b
  have n2s := hb2.r.lt
  have n2b := hb2.b.lt
  clear hb2 hb3 hs2 hs3 hl2 n3 n4 hx3 hw4 d0 d1 d2 d3
  go_upto_region 14 with fail
  refine (show Code.wp _ _ _ _ ((w2.alloc (.cells #[.int .i64 xn, .int .i64 xs, .int .i64 xt, .bool xk] PT)).alloc (.cells #[.int .i64 xn, .int .i64 xs, .int .i64 xt, .bool xk] OT)) from ?_)
  clear b0 b1 b2 b3 b4 b5 b6 b7 e0 e1 e2 e3
  generalize (w2.alloc (.cells #[.int .i64 xn, .int .i64 xs, .int .i64 xt, .bool xk] PT)).alloc (.cells #[.int .i64 xn, .int .i64 xs, .int .i64 xt, .bool xk] OT) = w4 at *
  have hpx : w2.heap.size ≠ pr ∧ w2.heap.size ≠ pb ∧ w2.heap.size + 1 ≠ pr ∧ w2.heap.size + 1 ≠ pb := by omega
  obtain ⟨hp1, hp2, hp3, hp4⟩ := hpx
  generalize w2.heap.size + 1 = pw at *
  generalize w2.heap.size = px at *
  obtain ⟨⟨b0, b1, b2, b3, b4, b5, b6, b7⟩, z0, z1, z2, z3, z4, z5, z6, z7⟩ := eight HB4.out.b
  obtain ⟨A, hA⟩ : ∃ A : Option Addr, (if cx = 1 then some (⟨g, o, none⟩ : Addr) else some ⟨g, o + 4, none⟩) = A := ⟨_, rfl⟩
  have HA := Lib.hid hA
  have t5 : Turns (· = pb) w4 (w4.setCell ⟨pb, 3, none⟩ (.slice A (q.L.length - 1) (cx - 1))) := (Turns.refl (· = pb) _).setCell (.inl rfl) _
  have hb5 : Bx w (w4.setCell ⟨pb, 3, none⟩ (.slice A (q.L.length - 1) (cx - 1))) pb pa pr (stL p ⟨q.frames, q.most, q.L.drop 1, q.broken⟩ (.slice A (q.L.length - 1) (cx - 1)) now n age) [.int .i64 2, .int .i64 sz, .bool ky] := ⟨HB4.out.b.set 3 _, t5.blk HB4.out.a HPB.out.2.2.2.1.symm, t5.blk HB4.out.r HPB.out.2.2.2.2.1.symm⟩
  have hx5 := And.intro (t5.blk HX4.out.1 hp2) (t5.blk HX4.out.2 hp4)
  have HB5 := Lib.hid hb5
  have HX5 := Lib.hid hx5
  have HT5 := Lib.hid t5
  have hc1 : (1 : Int) ≤ (cx : Int) := by omega
  have hl1 : (1 : Int) ≤ (q.L.length : Int) := by omega
  have hlm : q.L.length ≤ maxLen := by unfold maxLen; omega
  clear t5 hb5 hx5
  go_upto_region 15 with fail
  refine (show Code.wp _ _ _ _ (w4.setCell ⟨pb, 3, none⟩ (.slice A (q.L.length - 1) (cx - 1))) from ?_)
  clear b0 b1 b2 b3 b4 b5 b6 b7 z0 z1 z2 z3 z4 z5 z6 z7
  generalize w4.setCell ⟨pb, 3, none⟩ (.slice A (q.L.length - 1) (cx - 1)) = w5 at *
  obtain ⟨⟨b0, b1, b2, b3, b4, b5, b6, b7⟩, _⟩ := eight HB5.out.b
  obtain ⟨⟨r0, r1, r2, r3, r4, r5, r6, r7⟩, y0, y1, y2, y3, y4, y5, y6, y7⟩ := eight HB5.out.r
  obtain ⟨⟨x0, x1, x2, x3⟩, _⟩ := four HX5.out.1
  obtain ⟨⟨u0, u1, u2, u3⟩, _⟩ := four HX5.out.2
  have HR9 := Lib.hid HB5.out.r
  have hrb := HPB.out.2.2.2.2.1
  have HDN : Hid (∀ wz, Turns (· = pr) w5 wz → ∃ pv', Dn w wz p pv (.slice (some ⟨g, o, none⟩) q.L.length cx) ⟨q.frames, q.most, q.L.drop 1, q.broken⟩ pv' (.slice A (q.L.length - 1) (cx - 1))) := Lib.hid (fun wz tz => by
    obtain ⟨⟨pv', hq2, hloc⟩, ht2⟩ := HL2.out
    have t2z : Turns (fun k => k = pb ∨ k = pr) w2 wz := ((HN4.out.mono (fun _ _ h => h.elim)).trans (HT5.out.mono (fun _ _ h => .inl (.inl h)))).trans (tz.mono (fun _ _ h => .inl (.inr h)))
    have h1 := HPB.out.1
    have h2 := HPB.out.2.2.1
    have hs1 := HN1.out.size
    have hpv' : ∀ g, pv'.ownBlock = some g → g ≠ pb ∧ g ≠ pr ∧ (pv.ownBlock = some g ∨ w.heap.size ≤ g) := fun g' hg' => by
      rcases hloc with e | ⟨g'', e, hgg⟩
      · have := HD.out.qs.vlt g' (e ▸ hg')
        exact ⟨by omega, by omega, .inl (e ▸ hg')⟩
      · rw [e] at hg'
        injection hg' with hg'
        have h3 := HB1.out.b.lt
        have h4 := HB1.out.r.lt
        exact ⟨by omega, by omega, .inr (by omega)⟩
    have hqz := hq2.turns t2z (fun e => by
      rcases e with e | e
      · exact (HAP.out.1 pb h1).1 e.symm
      · exact (HAP.out.1 pr h2).1 e.symm) (fun g' hg' e => by
      have := hpv' g' hg'
      rcases e with e | e
      · exact this.1 e
      · exact this.2.1 e)
    have hgw : g < w.heap.size := HAP.out.2 g rfl
    have hob : (Value.slice A (q.L.length - 1) (cx - 1)).ownBlock = some g := by rw [← HA.out]; by_cases e : cx = 1 <;> simp [e, Value.ownBlock]
    have hs2 : Sub IE 0 w2 (.slice A (q.L.length - 1) (cx - 1)) (q.L.drop 1) := by
      rcases HS2.out with ⟨e, _⟩ | e
      · cases e
      · have := Lies.drop e 1 (by omega)
        rw [← HA.out]
        exact .inr this
    have hap := HD.out.ap g rfl
    refine ⟨pv', ⟨hqz, Sub.turns' hs2 t2z (fun g' hg' e => ?_), fun g' hg' => ?_⟩, ?_, fun g' hg' => ?_, ?_⟩
    · rw [hob] at hg'; injection hg' with hg'
      rcases e with e | e <;> omega
    · rw [hob] at hg'; injection hg' with hg'
      rw [← hg']
      refine ⟨hap.1, fun e2 => ?_⟩
      rcases (hpv' g e2).2.2 with e3 | e3
      · exact hap.2 e3
      · omega
    · rcases hloc with e | ⟨g', e, hg'⟩
      · exact .inl e
      · exact .inr ⟨g', e, by omega⟩
    · rw [hob] at hg'; injection hg' with hg'
      exact .inl (by rw [← hg']; rfl)
    · exact (HN1.out.mono (fun _ _ h => h.elim)).trans ((ht2.mono (fun _ _ h => .inl h)).trans (t2z.mono (fun k _ hk => .inl (.inr (by rcases hk with e | e <;> rw [e]; exact h1; exact h2))))))
  have hbl := HB5.out.b.lt
  have hxl := HX5.out.1.lt
  have hwl := HX5.out.2.lt
  have hxr := hp1
  have hwr := hp3
  clear hA
  have HH : HeldF w5 w5 pr pb px pw (.pointer (some ⟨p, 0, none⟩)) (.int .i64 q.frames) (.int .i64 q.most) (.slice A (q.L.length - 1) (cx - 1)) (.bool q.broken) (.int .i64 now) (.int .i64 n) (.int .i64 age) (.int .i64 xn) (.int .i64 xs) (.int .i64 xt) (.bool xk) (.int .i64 xn) (.int .i64 xs) (.int .i64 xt) (.bool xk) := ⟨Turns.refl _ _, hbl, hxl, hwl, b0, b1, b2, b3, b4, b5, b6, b7, x0, x1, x2, x3, u0, u1, u2, u3⟩
  clear b0 b1 b2 b3 b4 b5 b6 b7 x0 x1 x2 x3 u0 u1 u2 u3
  obtain ⟨_, _, _, _, b0, b1, b2, b3, b4, b5, b6, b7, x0, x1, x2, x3, u0, u1, u2, u3⟩ := id HH
  go_wp2_with fail
  first
    | go_region_held (fun w' => Turns (· = pr) w5 w' ∧ pb < w'.heap.size ∧ px < w'.heap.size ∧ pw < w'.heap.size ∧ w'.cell? ⟨pb, 0, none⟩ = some (.pointer (some ⟨p, 0, none⟩)) ∧ w'.cell? ⟨pb, 1, none⟩ = some (.int .i64 q.frames) ∧ w'.cell? ⟨pb, 2, none⟩ = some (.int .i64 q.most) ∧ w'.cell? ⟨pb, 3, none⟩ = some (.slice A (q.L.length - 1) (cx - 1)) ∧ w'.cell? ⟨pb, 4, none⟩ = some (.bool q.broken) ∧ w'.cell? ⟨pb, 5, none⟩ = some (.int .i64 now) ∧ w'.cell? ⟨pb, 6, none⟩ = some (.int .i64 n) ∧ w'.cell? ⟨pb, 7, none⟩ = some (.int .i64 age) ∧ w'.cell? ⟨px, 0, none⟩ = some (.int .i64 xn) ∧ w'.cell? ⟨px, 1, none⟩ = some (.int .i64 xs) ∧ w'.cell? ⟨px, 2, none⟩ = some (.int .i64 xt) ∧ w'.cell? ⟨px, 3, none⟩ = some (.bool xk) ∧ w'.cell? ⟨pw, 0, none⟩ = some (.int .i64 xn) ∧ w'.cell? ⟨pw, 1, none⟩ = some (.int .i64 xs) ∧ w'.cell? ⟨pw, 2, none⟩ = some (.int .i64 xt) ∧ w'.cell? ⟨pw, 3, none⟩ = some (.bool xk))
        (first
          | (with_reducible assumption)
          | ((with_reducible refine heldF_drew ?_); with_reducible assumption)
          | ((with_reducible refine heldF_store hrb hxr hwr _ _ _ _ _ _ _ _ ?_); with_reducible assumption)
          | ((with_reducible refine heldF_drew (heldF_store hrb hxr hwr _ _ _ _ _ _ _ _ ?_)); with_reducible first | assumption | exact HH))
        (fail)
    | skip
  all_goals
    go_wp2_with fail
    refine (show bodyPost _ _ _ _ _ (puts w5 pr 0 (stL p ⟨q.frames, q.most, q.L.drop 1, q.broken⟩ (.slice A (q.L.length - 1) (cx - 1)) now n age)).drew from ?_)
    have hz9 := puts_blk zrs (stL p ⟨q.frames, q.most, q.L.drop 1, q.broken⟩ (.slice A (q.L.length - 1) (cx - 1)) now n age) HR9.out rfl
    obtain ⟨pv', hdn⟩ := HDN.out (puts w5 pr 0 (stL p ⟨q.frames, q.most, q.L.drop 1, q.broken⟩ (.slice A (q.L.length - 1) (cx - 1)) now n age)).drew (puts_turns (S := (· = pr)) (.inl rfl) _ 0 _ (Turns.refl _ _)).drew
    generalize puts w5 pr 0 (stL p ⟨q.frames, q.most, q.L.drop 1, q.broken⟩ (.slice A (q.L.length - 1) (cx - 1)) now n age) = wz at *
    obtain ⟨⟨g0, g1, g2, g3, g4, g5, g6, g7⟩, _⟩ := eight hz9
    refine bodyPost_ret (v := .tuple #[.agg (stL p ⟨q.frames, q.most, q.L.drop 1, q.broken⟩ (.slice A (q.L.length - 1) (cx - 1)) now n age).toArray, .int .i64 xn, .bool false, .bool true]) (by simp [results, Try.results16, go_sem, g0, g1, g2, g3, g4, g5, g6, g7]) rfl ?_
    exact ⟨pv', .slice A (q.L.length - 1) (cx - 1), rfl, by rw [← List.drop_one]; exact hdn⟩
end Go.Proofs.Ytcaloeolmoodbaa.que
