/-
  The reference of layer 9: Skip, with.
-/
import Derived.Test.YtfgfejcnkjeghaaReoRun
namespace Go.Proofs.Ytfgfejcnkjeghaa.reo
open Go.RowKit mem
set_option linter.unusedVariables false

abbrev rA (most wait : Int) (bg : Bool) (next : Int) (v : Value) (lost : Int) : Array Value := #[.int .i64 most, .int .i64 wait, .bool bg, .int .i64 next, v, .int .i64 lost]
theorem RP.turns {p : Nat} {w w' w2 : World} {v v' vo : Value} {b : B} {o : List Th} {cs : Array Value} (h : RP w w' v v' b vo o) (hb : Blk w' p cs XT) (hp : w.heap.size ≤ p) (t : Turns (· = p) w' w2) : RP w w2 v v' b vo o :=
  ⟨h.rs.turns t (fun g hg e => h.rs.off hb (by decide) (by rw [hg, e])), h.own, ⟨h.out.own.turns t (fun g hg e => own_ne h.out.own hb (by decide) (by rw [hg, e])), h.out.vb, h.out.n.trans (t.mono (fun i _ hi => .inr (by rw [hi]; exact hp)))⟩⟩

set_option maxRecDepth 10000 in
set_option maxHeartbeats 4000000 in
theorem rskip (v : Value) (b : B) (M : Int) (w : World) (h : RS w v b.L) (ho : b.ok M) (hM : M ≤ 1099511627776) (hne : b.L ≠ []) :
    Calls Try.prog 24 #[.agg (rL b v).toArray] w fun e w' => ∃ v' vo, e = .returned (.tuple #[.agg (rL (skip b) v').toArray, vo]) ∧ RP w w' v v' (skip b) vo (skipO b) := by
  obtain ⟨x, r, hx⟩ : ∃ x r, b.L = x :: r := by
    cases e : b.L with
    | nil => exact absurd e hne
    | cons x r => exact ⟨x, r, rfl⟩
  have hlow : low b = x.at_ := by unfold low; rw [hx]
  obtain ⟨b1, b2⟩ := low_le ho
  rw [hlow] at b1 b2
  have hpl : passed b = { b with lost := b.lost + (x.at_ - b.next), next := x.at_ } := by unfold passed; rw [hlow]
  have hrl : rL (passed b) v = [.int .i64 b.most, .int .i64 b.wait, .bool b.begun, .int .i64 x.at_, v, .int .i64 (b.lost + (x.at_ - b.next))] := by rw [hpl]; rfl
  have HRUN : Hid (∀ W, New w W → Calls Try.prog 31 #[.agg #[.int .i64 b.most, .int .i64 b.wait, .bool b.begun, .int .i64 x.at_, v, .int .i64 (b.lost + (x.at_ - b.next))]] W fun e w' => ∃ v' vo, e = .returned (.tuple #[.agg #[.int .i64 (skip b).most, .int .i64 (skip b).wait, .bool (skip b).begun, .int .i64 (skip b).next, v', .int .i64 (skip b).lost], vo]) ∧ RP W w' v v' (skip b) vo (skipO b)) := Lib.hid (fun W n => by
    have := rrun v (passed b) M W (h.later n) (passed_ok ho) hM
    rw [hrl] at this
    exact this)
  have n1 := ho.n1
  have n2 := ho.n2
  have l1 := ho.l1
  have l2 := ho.l2
  have HR0 := Lib.hid h
  rw [hx] at h
  obtain ⟨g, o, n, c, hv, hn, q1, q2, hg, z0, z1, z2, q3, q4⟩ := h.at_
  have hn0 : (0 : Int) < (n : Int) := by omega
  have hn00 : 0 < n := by omega
  have hb0 : Blk ((w.alloc (.cells #[.int .i64 b.most, .int .i64 b.wait, .bool b.begun, .int .i64 b.next, v, .int .i64 b.lost] XT)).alloc (.cells zrL.toArray XT)) w.heap.size #[.int .i64 b.most, .int .i64 b.wait, .bool b.begun, .int .i64 b.next, v, .int .i64 b.lost] XT := (Blk.new _ _ _).alloc _
  have hr0 : Blk ((w.alloc (.cells #[.int .i64 b.most, .int .i64 b.wait, .bool b.begun, .int .i64 b.next, v, .int .i64 b.lost] XT)).alloc (.cells zrL.toArray XT)) (w.heap.size + 1) zrL.toArray XT := Blk.new' _ _ _ _ (by simp)
  have hn3 : New w ((w.alloc (.cells #[.int .i64 b.most, .int .i64 b.wait, .bool b.begun, .int .i64 b.next, v, .int .i64 b.lost] XT)).alloc (.cells zrL.toArray XT)) := ((Turns.refl _ _).alloc _).alloc _
  have y0 := (hn3.cell (a := ⟨g, o, none⟩) hg (fun h => h)).trans z0
  have hgw : g ≠ w.heap.size := by omega
  have HP : Hid (w.heap.size ≤ w.heap.size ∧ w.heap.size ≤ w.heap.size + 1) := Lib.hid (by omega)
  clear h hx hne hlow hpl hrl ho hn z0 z1 z2 hg q1 q2 q3 q4
  subst hv
  generalize x.at_ = xa at *
  show Calls Try.prog 24 #[.agg #[.int .i64 b.most, .int .i64 b.wait, .bool b.begun, .int .i64 b.next, (.slice (some ⟨g, o, none⟩) n c), .int .i64 b.lost]] w fun e w' => ∃ v' vo, e = .returned (.tuple #[.agg #[.int .i64 (skip b).most, .int .i64 (skip b).wait, .bool (skip b).begun, .int .i64 (skip b).next, v', .int .i64 (skip b).lost], vo]) ∧ RP w w' (.slice (some ⟨g, o, none⟩) n c) v' (skip b) vo (skipO b)
  generalize (skip b).most = sm at *
  generalize (skip b).wait = sw at *
  generalize (skip b).begun = sb at *
  generalize (skip b).next = sn at *
  generalize (skip b).lost = sl at *
  generalize b.most = bm at *
  generalize b.wait = bw at *
  generalize b.begun = bb at *
  generalize b.next = bn at *
  generalize b.lost = bl at *
  have s1 : IntKind.i64.wrap (xa - bn) = xa - bn := IntWalk.i64_in _ (by omega)
  have s2 : IntKind.i64.wrap (bl + (xa - bn)) = bl + (xa - bn) := IntWalk.i64_in _ (by omega)
  go_enter Try.func24, Try.ntmps24
  go_upto_region 1 with fail
  refine (show Code.wp _ _ _ _ ((w.alloc (.cells #[.int .i64 bm, .int .i64 bw, .bool bb, .int .i64 bn, (.slice (some ⟨g, o, none⟩) n c), .int .i64 bl] XT)).alloc (.cells zrL.toArray XT)) from ?_)
  generalize (w.alloc (.cells #[.int .i64 bm, .int .i64 bw, .bool bb, .int .i64 bn, (.slice (some ⟨g, o, none⟩) n c), .int .i64 bl] XT)).alloc (.cells zrL.toArray XT) = w3 at *
  generalize hp2 : w.heap.size + 1 = p2 at *
  generalize hp1 : w.heap.size = p1 at *
  have hne12 : p1 ≠ p2 := by omega
  have hne21 := hne12.symm
  have HPE := Lib.hid hp1
  clear hp1 hp2
  have H5 : Hid (Blk (((w3.setCell ⟨p1, 5, none⟩ (.int .i64 (bl + (xa - bn)))).drew).setCell ⟨p1, 3, none⟩ (.int .i64 xa)) p1 #[.int .i64 bm, .int .i64 bw, .bool bb, .int .i64 xa, (.slice (some ⟨g, o, none⟩) n c), .int .i64 (bl + (xa - bn))] XT ∧ Blk (((w3.setCell ⟨p1, 5, none⟩ (.int .i64 (bl + (xa - bn)))).drew).setCell ⟨p1, 3, none⟩ (.int .i64 xa)) p2 zrL.toArray XT ∧ New w (((w3.setCell ⟨p1, 5, none⟩ (.int .i64 (bl + (xa - bn)))).drew).setCell ⟨p1, 3, none⟩ (.int .i64 xa))) := Lib.hid
    ⟨((hb0.set 5 _).drew).set 3 _, ((hr0.setOther (a := ⟨p1, 5, none⟩) hne12 _).drew).setOther (a := ⟨p1, 3, none⟩) hne12 _, (((hn3.setCell (p := ⟨p1, 5, none⟩) (.inr (by rw [HPE.out]; exact HP.out.1)) _).drew).setCell (p := ⟨p1, 3, none⟩) (.inr (by rw [HPE.out]; exact HP.out.1)) _)⟩
  obtain ⟨k0, k1, k2, k3, k4, k5, e0, e1, e2, e3, e4, e5⟩ := six hb0
  clear hb0 hr0 hn3
  go_region
  all_goals
    go_upto_region 3 with fail
    refine (show Code.wp _ _ _ _ (((w3.setCell ⟨p1, 5, none⟩ (.int .i64 (bl + (xa - bn)))).drew).setCell ⟨p1, 3, none⟩ (.int .i64 xa)) from ?_)
    generalize (((w3.setCell ⟨p1, 5, none⟩ (.int .i64 (bl + (xa - bn)))).drew).setCell ⟨p1, 3, none⟩ (.int .i64 xa)) = w4 at *
    obtain ⟨hb4, hr4, hn4⟩ := H5.out
    have HR4 := Lib.hid hr4
    clear k0 k1 k2 k3 k4 k5 e0 e1 e2 e3 e4 e5 y0 H5
    obtain ⟨k0, k1, k2, k3, k4, k5, x0, x1, x2, x3, x4, x5⟩ := six hb4
    clear x0 x1 x2 x3 x4 x5
    have HRU := Lib.hid (HRUN.out w4 hn4)
    have HN4 := Lib.hid hn4
    clear hb4 hr4 hn4 HRUN
    go_wp2_with fail
    refine HRU.out.mono ?_
    rintro e w5 ⟨v5, vo5, rfl, hrp⟩
    have hr5 := hrp.out.n.blk HR4.out (fun h => h)
    have HF : Hid (Blk (puts w5 p2 0 [.int .i64 sm, .int .i64 sw, .bool sb, .int .i64 sn, v5, .int .i64 sl]) p2 #[.int .i64 sm, .int .i64 sw, .bool sb, .int .i64 sn, v5, .int .i64 sl] XT ∧ RP w (puts w5 p2 0 [.int .i64 sm, .int .i64 sw, .bool sb, .int .i64 sn, v5, .int .i64 sl]) (.slice (some ⟨g, o, none⟩) n c) v5 (skip b) vo5 (skipO b)) := Lib.hid (by
      have hp2 : w.heap.size ≤ p2 := by rw [HPE.out]; exact HP.out.2
      have t1 : Turns (· = p2) w5 (puts w5 p2 0 [.int .i64 sm, .int .i64 sw, .bool sb, .int .i64 sn, v5, .int .i64 sl]) := puts_turns (S := (· = p2)) (.inl rfl) _ 0 _ (Turns.refl _ _)
      refine ⟨puts_blk zrL _ hr5 rfl, RP.turns ⟨hrp.rs, hrp.own, ⟨hrp.out.own, fun g hg => Nat.le_trans HN4.out.size (hrp.out.vb g hg), HN4.out.trans (hrp.out.n.mono (fun _ _ h => h.elim))⟩⟩ hr5 hp2 t1⟩)
    obtain ⟨av, nv, cv, hv5, q5, q6, q7⟩ := hrp.rs.form
    clear q5 q6 q7
    obtain ⟨r0, r1, r2, r3, r4, r5, y0, y1, y2, y3, y4, y5⟩ := six hr5
    clear hrp hr5 HRU HR4 k0 k1 k2 k3 k4 k5
    subst hv5
    go_wp2_with fail
    refine (show bodyPost _ _ _ _ _ (puts w5 p2 0 [.int .i64 sm, .int .i64 sw, .bool sb, .int .i64 sn, .slice av nv cv, .int .i64 sl]) from ?_)
    have hff := HF.out
    generalize puts w5 p2 0 [.int .i64 sm, .int .i64 sw, .bool sb, .int .i64 sn, .slice av nv cv, .int .i64 sl] = w9 at *
    obtain ⟨g0, g1, g2, g3, g4, g5, _⟩ := six hff.1
    refine bodyPost_ret (v := .tuple #[.agg #[.int .i64 sm, .int .i64 sw, .bool sb, .int .i64 sn, (.slice av nv cv), .int .i64 sl], vo5]) (by simp [results, Try.results24, go_sem, g0, g1, g2, g3, g4, g5]) rfl ?_
    exact ⟨_, _, rfl, hff.2⟩
end Go.Proofs.Ytfgfejcnkjeghaa.reo
