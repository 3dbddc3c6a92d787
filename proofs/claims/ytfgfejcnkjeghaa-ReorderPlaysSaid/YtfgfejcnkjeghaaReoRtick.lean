/-
  The reference of layer 9: Tick.
-/
import Derived.Test.YtfgfejcnkjeghaaReoRput
namespace Go.Proofs.Ytfgfejcnkjeghaa.reo
open Go.RowKit mem
set_option linter.unusedVariables false

set_option maxRecDepth 10000 in
set_option maxHeartbeats 8000000 in
theorem rtick (v : Value) (b : B) (now M : Int) (w : World) (h : RS w v b.L) (ho : b.ok M) (hM : M ≤ 1099511627776) (n0 : 0 ≤ now) (n1 : now ≤ 1099511627776) :
    Calls Try.prog 23 #[.agg (rL b v).toArray, .int .i64 now] w fun e w' => ∃ v' vo, e = .returned (.tuple #[.agg (rL (lpB (old now) b) v').toArray, vo]) ∧ RQ w w' v' (lpB (old now) b) vo (lpO (old now) b) := by
  obtain ⟨ao, n, c, hv, hn, hnc, hcm⟩ := h.form
  subst hv
  have hlen := ho.len
  have HW : Hid (RLp (old now) M w w.heap.size w.heap.size (w.heap.size + 1) (lpB (old now) b) (lpO (old now) b) (((w.alloc (.cells #[.int .i64 b.most, .int .i64 b.wait, .bool b.begun, .int .i64 b.next, .slice ao n c, .int .i64 b.lost] XT)).alloc (.cells zrL.toArray XT)).alloc (.cells #[] RT)) b (.slice ao n c) (.slice (some ⟨w.heap.size + 1 + 1, 0, none⟩) 0 0) []) := Lib.hid (by
    have n3 : New w (((w.alloc (.cells #[.int .i64 b.most, .int .i64 b.wait, .bool b.begun, .int .i64 b.next, .slice ao n c, .int .i64 b.lost] XT)).alloc (.cells zrL.toArray XT)).alloc (.cells #[] RT)) := (((Turns.refl _ _).alloc _).alloc _).alloc _
    have hg : ∀ g, (Value.slice (some ⟨w.heap.size + 1 + 1, 0, none⟩) 0 0).ownBlock = some g → w.heap.size ≤ g := fun g hg => by
      have e : w.heap.size + 1 + 1 = g := by simpa [Value.ownBlock] using hg
      omega
    exact ⟨((Blk.new _ _ _).alloc _).alloc _, (Blk.new' _ _ _ _ (by simp)).alloc _, h.later n3, ⟨made0R (Blk.new' _ _ _ _ (by simp)), hg, n3⟩, h.lt, hg, Nat.le_refl _, Nat.le_succ _, by omega, n3.size, ho, rfl, rfl, by simp; omega⟩)
  clear h ho hn hnc hcm hlen
  unfold rL
  go_enter Try.func23, Try.ntmps23
  go_upto_region 2 with fail
  refine (show Code.wp _ _ _ _ (((w.alloc (.cells #[.int .i64 b.most, .int .i64 b.wait, .bool b.begun, .int .i64 b.next, .slice ao n c, .int .i64 b.lost] XT)).alloc (.cells zrL.toArray XT)).alloc (.cells #[] RT)) from ?_)
  generalize (((w.alloc (.cells #[.int .i64 b.most, .int .i64 b.wait, .bool b.begun, .int .i64 b.next, .slice ao n c, .int .i64 b.lost] XT)).alloc (.cells zrL.toArray XT)).alloc (.cells #[] RT)) = w3 at *
  generalize w.heap.size + 1 + 1 = p3 at *
  generalize w.heap.size + 1 = pr at *
  generalize hp1 : w.heap.size = pb at *
  clear hp1
  go_loopw [6] (fun vo wr => ∃ (b9 : B) (v9 : Value) (o : List Th), RLp (old now) M w pb pb pr (lpB (old now) b) (lpO (old now) b) wr b9 v9 vo o) (fun _ wr => rlenAt wr pb)
  case atStart => exact ⟨b, _, [], HW.out⟩
  case round =>
    obtain ⟨b9, v9, o, hj⟩ := hrel
    have HJ := Lib.hid hj
    have HLA := Lib.hid hj.at_
    have HRJ := Lib.hid hj.rs
    obtain ⟨b0, b1, b2, b3, b4, b5, e0, e1, e2, e3, e4, e5⟩ := six hj.box
    obtain ⟨r0, r1, r2, r3, r4, r5, y0, y1, y2, y3, y4, y5⟩ := six hj.rbx
    have hl9 := hj.box.lt
    have hlr := hj.rbx.lt
    have hne9 := hj.pne
    have hne9' := hne9.symm
    have hrs := hj.rs
    clear HW
    cases hL : b9.L with
    | nil =>
      rw [hL] at hrs
      obtain ⟨a9, c9, hv9⟩ := hrs.nil_form
      have hst := hj.stop (by unfold old; rw [hL])
      have HST := Lib.hid hst
      have HF := Lib.hid (fun m => RQ.puts_ (zs := [.int .i64 b9.most, .int .i64 b9.wait, .bool b9.begun, .int .i64 b9.next, .slice a9 0 c9, .int .i64 b9.lost]) ⟨((HST.out.2.2.rs).later ((Turns.refl _ _).drewN m)), (HST.out.2.2.out.later ((Turns.refl _ _).drewN m))⟩ (HJ.out.rbx.drewN m) HJ.out.prge rfl)
      have dlt0 : decide ((0 : Int) < (0 : Int)) = false := rfl
      have dlt1 : decide (0 < 0) = false := rfl
      clear hj hrs hst hL
      subst hv9
      go_upto_region 2 with fail
      go_quiet (fail)
      go_wp2_with fail
      refine (show bodyPost _ _ _ _ _ (puts (wr.drewN nq) pr 0 [.int .i64 b9.most, .int .i64 b9.wait, .bool b9.begun, .int .i64 b9.next, .slice a9 0 c9, .int .i64 b9.lost]) from ?_)
      have hff := HF.out nq
      generalize puts (wr.drewN nq) pr 0 [.int .i64 b9.most, .int .i64 b9.wait, .bool b9.begun, .int .i64 b9.next, .slice a9 0 c9, .int .i64 b9.lost] = w9 at *
      obtain ⟨g0, g1, g2, g3, g4, g5, gg⟩ := six hff.1
      clear gg
      refine bodyPost_ret (v := .tuple #[.agg #[.int .i64 b9.most, .int .i64 b9.wait, .bool b9.begun, .int .i64 b9.next, .slice a9 0 c9, .int .i64 b9.lost], u6]) (by simp [results, Try.results23, go_sem, g0, g1, g2, g3, g4, g5]) rfl ?_
      exact ⟨_, _, (by rw [← HST.out.1]), hff.2⟩
    | cons x r =>
      rw [hL] at hrs
      obtain ⟨g, o9, n9, c9, hv9, hn9, q1, q2, hg, z0, z1, z2, q3, q4⟩ := hrs.at_
      have t1 := hj.ok.t1 x (by rw [hL]; simp)
      have t2 := hj.ok.t2 x (by rw [hL]; simp)
      have HOLD : Hid (old now b9 = decide (b9.wait ≤ now - x.tick)) := Lib.hid (by unfold old; rw [hL])
      have HNE : Hid (b9.L ≠ []) := Lib.hid (by rw [hL]; simp)
      have hn0 : 0 < n9 := by omega
      have HSL := Lib.hid (skip_len b9 HNE.out)
      clear hj hrs hn9 q1 q2 q3 q4 z0 z1 hL
      subst hv9
      generalize x.tick = tk at *
      have s1 : IntKind.i64.wrap (now - tk) = now - tk := IntWalk.i64_in _ (by omega)
      have hl0I : (0 : Int) < (n9 : Int) := by omega
      have dl0 : decide ((0 : Int) < (n9 : Int)) = true := decide_eq_true hl0I
      have dl1 : decide (0 < n9) = true := decide_eq_true hn0
      by_cases hw : b9.wait ≤ now - tk
      · have dw : decide (b9.wait ≤ now - tk) = true := decide_eq_true hw
        have HGO : Hid (old now b9 = true) := Lib.hid (by rw [HOLD.out]; exact dw)
        have HSK : Hid (∀ W, New wr W → Calls Try.prog 24 #[.agg #[.int .i64 b9.most, .int .i64 b9.wait, .bool b9.begun, .int .i64 b9.next, .slice (some ⟨g, o9, none⟩) n9 c9, .int .i64 b9.lost]] W fun e w' => ∃ v' vo, e = .returned (.tuple #[.agg #[.int .i64 (skip b9).most, .int .i64 (skip b9).wait, .bool (skip b9).begun, .int .i64 (skip b9).next, v', .int .i64 (skip b9).lost], vo]) ∧ RP W w' (.slice (some ⟨g, o9, none⟩) n9 c9) v' (skip b9) vo (skipO b9)) := Lib.hid (fun W nW => rskip (.slice (some ⟨g, o9, none⟩) n9 c9) b9 M W (HRJ.out.later nW) HJ.out.ok hM HNE.out)
        clear hw
        go_upto_region 2 with fail
        go_quiet (fail)
        have HJ2 := Lib.hid (HJ.out.later ((Turns.refl _ _).drewN nq))
        go_wp2_with fail
        refine (HSK.out _ ((Turns.refl _ _).drewN _)).mono ?_
        rintro e w2 ⟨v2, vm, rfl, rp⟩
        obtain ⟨a2, n2, c2, hv2, q1, q2, q3⟩ := rp.rs.form
        clear q1 q2 q3 HSK
        subst hv2
        have RPH := Lib.hid rp
        have hb2 := (rp.out.n.blk HJ2.out.box (fun h => h)).alloc (.cells #[.int .i64 (skip b9).most, .int .i64 (skip b9).wait, .bool (skip b9).begun, .int .i64 (skip b9).next, .slice a2 n2 c2, .int .i64 (skip b9).lost] XT)
        have hd2 : Blk (w2.alloc (.cells #[.int .i64 (skip b9).most, .int .i64 (skip b9).wait, .bool (skip b9).begun, .int .i64 (skip b9).next, .slice a2 n2 c2, .int .i64 (skip b9).lost] XT)) w2.heap.size #[.int .i64 (skip b9).most, .int .i64 (skip b9).wait, .bool (skip b9).begun, .int .i64 (skip b9).next, .slice a2 n2 c2, .int .i64 (skip b9).lost] XT := Blk.new _ _ _
        have hpne : pb ≠ w2.heap.size := by have := (rp.out.n.blk HJ2.out.box (fun h => h)).lt; omega
        clear rp b0 b1 b2 b3 b4 b5 e0 e1 e2 e3 e4 e5 r0 r1 r2 r3 r4 r5 y0 y1 y2 y3 y4 y5 hl9 hlr z2 hg
        go_upto_region 4 with fail
        refine (show Code.wp _ _ _ _ (w2.alloc (.cells #[.int .i64 (skip b9).most, .int .i64 (skip b9).wait, .bool (skip b9).begun, .int .i64 (skip b9).next, .slice a2 n2 c2, .int .i64 (skip b9).lost] XT)) from ?_)
        have HW3 : Hid (∃ w3, w3 = w2.alloc (.cells #[.int .i64 (skip b9).most, .int .i64 (skip b9).wait, .bool (skip b9).begun, .int .i64 (skip b9).next, .slice a2 n2 c2, .int .i64 (skip b9).lost] XT)) := Lib.hid ⟨_, rfl⟩
        obtain ⟨w3, hw3⟩ := HW3.out
        rw [← hw3] at hb2 hd2 ⊢
        have HWE := Lib.hid hw3
        clear HW3 hw3
        generalize w2.heap.size = pd at *
        obtain ⟨b0, b1, b2, b3, b4, b5, e0, e1, e2, e3, e4, e5⟩ := six hb2
        obtain ⟨d0, d1, d2, d3, d4, d5, q0, q1, q2, q3, q4, q5⟩ := six hd2
        have hl9 := hb2.lt
        have hld := hd2.lt
        clear hb2 hd2 q0 q1 q2 q3 q4 q5
        have HO3 : Hid (Owns TE RT (puts w3 pb 0 [.int .i64 (skip b9).most, .int .i64 (skip b9).wait, .bool (skip b9).begun, .int .i64 (skip b9).next, .slice a2 n2 c2, .int .i64 (skip b9).lost]) u6 o ∧ Sub TE 0 (puts w3 pb 0 [.int .i64 (skip b9).most, .int .i64 (skip b9).wait, .bool (skip b9).begun, .int .i64 (skip b9).next, .slice a2 n2 c2, .int .i64 (skip b9).lost]) vm (skipO b9)) := Lib.hid (by
          have j := (HJ2.out.later RPH.out.out.n).later ((Turns.refl (fun _ => False) w2).alloc (.cells #[.int .i64 (skip b9).most, .int .i64 (skip b9).wait, .bool (skip b9).begun, .int .i64 (skip b9).next, .slice a2 n2 c2, .int .i64 (skip b9).lost] XT))
          rw [← HWE.out] at j
          have t1 : Turns (· = pb) w3 (puts w3 pb 0 [.int .i64 (skip b9).most, .int .i64 (skip b9).wait, .bool (skip b9).begun, .int .i64 (skip b9).next, .slice a2 n2 c2, .int .i64 (skip b9).lost]) := puts_turns (S := (· = pb)) (.inl rfl) _ 0 _ (Turns.refl _ _)
          have v1 : Owns TE RT w3 vm (skipO b9) := by rw [HWE.out]; exact RPH.out.out.own.turns (S := fun _ => False) ((Turns.refl _ _).alloc _) (fun _ _ h => h)
          exact ⟨j.out.own.turns t1 (fun g hg e => own_ne j.out.own j.box (by decide) (by rw [hg, e])), (v1.turns t1 (fun g hg e => own_ne v1 j.box (by decide) (by rw [hg, e]))).sub 0 (fun _ _ => Nat.zero_le _)⟩)
        have HLE : Hid (o.length + (skipO b9).length ≤ 1048576) := Lib.hid (by have := HJ.out.len; have := skip_split b9; omega)
        go_upto_region 5 with fail
        refine (show Code.wp _ _ _ _ (puts w3 pb 0 [.int .i64 (skip b9).most, .int .i64 (skip b9).wait, .bool (skip b9).begun, .int .i64 (skip b9).next, .slice a2 n2 c2, .int .i64 (skip b9).lost]) from ?_)
        have HW4 : Hid (∃ w4, w4 = puts w3 pb 0 [.int .i64 (skip b9).most, .int .i64 (skip b9).wait, .bool (skip b9).begun, .int .i64 (skip b9).next, .slice a2 n2 c2, .int .i64 (skip b9).lost]) := Lib.hid ⟨_, rfl⟩
        obtain ⟨w4, hw4⟩ := HW4.out
        rw [← hw4] at HO3 ⊢
        have HWF := Lib.hid hw4
        clear HW4 hw4 b0 b1 b2 b3 b4 b5 e0 e1 e2 e3 e4 e5 d0 d1 d2 d3 d4 d5 hl9 hld
        go_wp2_with (at_builtin; refine wpList_append_sub (E := TE) Try.underlying24 infoR rfl (by decide) (by decide) rfl _ _ rfl _ o (skipO b9) rfl HO3.out.1 _ rfl 0 HO3.out.2 HLE.out ?_)
        intro vo6 w6' hown6 hgrow6 hat6
        have H9 := Lib.hid (HJ2.out.step (ob := .cells #[.int .i64 (skip b9).most, .int .i64 (skip b9).wait, .bool (skip b9).begun, .int .i64 (skip b9).next, .slice a2 n2 c2, .int .i64 (skip b9).lost] XT) (old_few now) HGO.out RPH.out hown6 (by show (puts (w2.alloc (.cells #[.int .i64 (skip b9).most, .int .i64 (skip b9).wait, .bool (skip b9).begun, .int .i64 (skip b9).next, .slice a2 n2 c2, .int .i64 (skip b9).lost] XT)) pb 0 [.int .i64 (skip b9).most, .int .i64 (skip b9).wait, .bool (skip b9).begun, .int .i64 (skip b9).next, .slice a2 n2 c2, .int .i64 (skip b9).lost]).grownBy _ _; rw [← HWE.out, ← HWF.out]; exact hgrow6) (by show _ ∨ _ = some (puts (w2.alloc (.cells #[.int .i64 (skip b9).most, .int .i64 (skip b9).wait, .bool (skip b9).begun, .int .i64 (skip b9).next, .slice a2 n2 c2, .int .i64 (skip b9).lost] XT)) pb 0 [.int .i64 (skip b9).most, .int .i64 (skip b9).wait, .bool (skip b9).begun, .int .i64 (skip b9).next, .slice a2 n2 c2, .int .i64 (skip b9).lost]).heap.size; rw [← HWE.out, ← HWF.out]; exact hat6))
        clear hown6 hgrow6 hat6
        go_wp2_with fail
        go_roundw
        case rel => exact ⟨skip b9, _, _, H9.out⟩
        case measure => rw [H9.out.at_, HLA.out]; exact HSL.out
      · have dw : decide (b9.wait ≤ now - tk) = false := decide_eq_false hw
        have hst := HJ.out.stop (by rw [HOLD.out]; exact dw)
        have HST := Lib.hid hst
        have HF := Lib.hid (fun m => RQ.puts_ (zs := [.int .i64 b9.most, .int .i64 b9.wait, .bool b9.begun, .int .i64 b9.next, .slice (some ⟨g, o9, none⟩) n9 c9, .int .i64 b9.lost]) ⟨((HST.out.2.2.rs).later ((Turns.refl _ _).drewN m)), (HST.out.2.2.out.later ((Turns.refl _ _).drewN m))⟩ (HJ.out.rbx.drewN m) HJ.out.prge rfl)
        clear hw hst
        go_upto_region 2 with fail
        go_quiet (fail)
        go_wp2_with fail
        refine (show bodyPost _ _ _ _ _ (puts (wr.drewN nq) pr 0 [.int .i64 b9.most, .int .i64 b9.wait, .bool b9.begun, .int .i64 b9.next, .slice (some ⟨g, o9, none⟩) n9 c9, .int .i64 b9.lost]) from ?_)
        have hff := HF.out nq
        generalize puts (wr.drewN nq) pr 0 [.int .i64 b9.most, .int .i64 b9.wait, .bool b9.begun, .int .i64 b9.next, .slice (some ⟨g, o9, none⟩) n9 c9, .int .i64 b9.lost] = w9 at *
        obtain ⟨g0, g1, g2, g3, g4, g5, gg⟩ := six hff.1
        clear gg
        refine bodyPost_ret (v := .tuple #[.agg #[.int .i64 b9.most, .int .i64 b9.wait, .bool b9.begun, .int .i64 b9.next, .slice (some ⟨g, o9, none⟩) n9 c9, .int .i64 b9.lost], u6]) (by simp [results, Try.results23, go_sem, g0, g1, g2, g3, g4, g5]) rfl ?_
        exact ⟨_, _, (by rw [← HST.out.1]), hff.2⟩
end Go.Proofs.Ytfgfejcnkjeghaa.reo
