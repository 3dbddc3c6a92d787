/-
  reorder.Buffer: Put, Missing.
-/
import Derived.Test.YtfgfejcnkjeghaaReoTick
namespace Go.Proofs.Ytfgfejcnkjeghaa.reo
open Go.RowKit mem
set_option linter.unusedVariables false

theorem begin_L (b : B) (x : Th) : (begin_ b x).L = b.L := by unfold begin_; split <;> rfl
theorem begin_most (b : B) (x : Th) : (begin_ b x).most = b.most := by unfold begin_; split <;> rfl
/-- before anything has come -/
def Fresh (b : B) : Prop := b.begun = false → b.L = [] ∧ b.lost = 0
theorem put1_ok {b : B} {x : Th} {M : Int} (h : b.ok M) (hf : Fresh b) (hl : b.L.length ≤ 1024) (hx0 : 0 ≤ x.at_) (hx1 : x.at_ ≤ M) (ht0 : 0 ≤ x.tick) (ht1 : x.tick ≤ 1099511627776) (hge : ¬ x.at_ < (begin_ b x).next) (hh : hasT b.L x.at_ = false) : (put1 b x).ok M := by
  have hnx : (begin_ b x).next ≤ x.at_ := by omega
  have e1 : (begin_ b x).begun = true := by
    unfold begin_
    split
    next h => exact h
    next => rfl
  have hb : 0 ≤ (begin_ b x).next ∧ (begin_ b x).next ≤ M + 1 ∧ 0 ≤ b.lost ∧ b.lost ≤ (begin_ b x).next ∧ (begin_ b x).most = b.most ∧ (begin_ b x).wait = b.wait ∧ (begin_ b x).lost = b.lost := by
    have l1 := h.l1
    have l2 := h.l2
    have n1 := h.n1
    have n2 := h.n2
    unfold begin_
    split
    next e => exact ⟨n1, n2, l1, l2, rfl, rfl, rfl⟩
    next e =>
      have := (hf (by simpa using e)).2
      exact ⟨hx0, by show x.at_ ≤ M + 1; omega, l1, by show b.lost ≤ x.at_; omega, rfl, rfl, rfl⟩
  obtain ⟨p1, p2, p3, p4, p5, p6, p7⟩ := hb
  have hat : ∀ y ∈ b.L, (begin_ b x).next ≤ y.at_ := by
    intro y hy
    unfold begin_
    split
    next e => exact h.at1 y hy
    next e =>
      rw [(hf (by simpa using e)).1] at hy
      simp at hy
  refine ⟨by rw [show (put1 b x).most = b.most from p5]; exact h.m1, by rw [show (put1 b x).most = b.most from p5]; exact h.m2, by rw [show (put1 b x).wait = b.wait from p6]; exact h.w1, by rw [show (put1 b x).wait = b.wait from p6]; exact h.w2, p1, p2, by rw [show (put1 b x).lost = b.lost from p7]; exact p3, by rw [show (put1 b x).lost = b.lost from p7]; exact p4, insT_asc x _ h.asc hh, fun y hy => ?_, fun y hy => ?_, fun y hy => ?_, fun y hy => ?_, by show (insT b.L x).length ≤ 1025; rw [insT_length]; omega⟩
  · rcases (insT_mem x b.L y).1 hy with rfl | hy
    · exact hnx
    · exact hat y hy
  · rcases (insT_mem x b.L y).1 hy with rfl | hy
    · exact hx1
    · exact h.at2 y hy
  · rcases (insT_mem x b.L y).1 hy with rfl | hy
    · exact ht0
    · exact h.t1 y hy
  · rcases (insT_mem x b.L y).1 hy with rfl | hy
    · exact ht1
    · exact h.t2 y hy

set_option maxRecDepth 10000 in
set_option maxHeartbeats 4000000 in
theorem put_ (p : Nat) (v : Value) (b : B) (x : Th) (M : Int) (w : World) (h : Bs w p v b) (ho : b.ok M) (hf : Fresh b) (hM : M ≤ 1099511627776) (hl : b.L.length ≤ 1024) (hx0 : 0 ≤ x.at_) (hx1 : x.at_ ≤ M) (ht0 : 0 ≤ x.tick) (ht1 : x.tick ≤ 1099511627776) :
    Calls Try.prog 18 #[.pointer (some ⟨p, 0, none⟩), .agg #[.int .i64 x.at_, .string x.tx, .int .i64 x.tick]] w fun e w' => ∃ v' vo, e = .returned (.tuple #[vo, .int .i64 (putE b x)]) ∧ Two w p v w' v' (putB b x) vo (putO b x) := by
  have HXC : Hid (TE.cs x = [.int .i64 x.at_, .string x.tx, .int .i64 x.tick]) := Lib.hid rfl
  have hq0 : Blk (w.alloc (.cells #[.int .i64 x.at_, .string x.tx, .int .i64 x.tick] PT)) w.heap.size #[.int .i64 x.at_, .string x.tx, .int .i64 x.tick] PT := Blk.new _ _ _
  have HQ := Lib.hid hq0
  have HT := Lib.hid ((Two.start h).later ((Turns.refl _ w).alloc (.cells #[.int .i64 x.at_, .string x.tx, .int .i64 x.tick] PT)))
  have HOK := Lib.hid (And.intro ho hf)
  have HPW : Hid (p < w.heap.size) := Lib.hid h.lt
  have c4 := HT.out.bs.c4
  have f4 := HT.out.bs.f 4
  have f3 := HT.out.bs.f 3
  have c3 := HT.out.bs.c3
  have q0 : (w.alloc (.cells #[.int .i64 x.at_, .string x.tx, .int .i64 x.tick] PT)).cell? ⟨w.heap.size, 0, none⟩ = some (.int .i64 x.at_) := hq0.cell 0
  have hpq : p ≠ w.heap.size := by have := h.lt; omega
  clear h ho hf hq0
  go_enter Try.func18, Try.ntmps18
  go_upto_if 13 with fail
  refine (show Code.wp _ _ _ _ (w.alloc (.cells #[.int .i64 x.at_, .string x.tx, .int .i64 x.tick] PT)) from ?_)
  generalize (w.alloc (.cells #[.int .i64 x.at_, .string x.tx, .int .i64 x.tick] PT)) = w1 at *
  generalize w.heap.size = q at *
  go_cut [] (fun wx => Two w p v wx v (begin_ b x) (.slice none 0 0) [] ∧ Blk wx q #[.int .i64 x.at_, .string x.tx, .int .i64 x.tick] PT)
  case first =>
    cases hb : b.begun
    · have H1 : Hid (Two w p v ((w1.setCell ⟨p, 4, none⟩ (.bool true)).setCell ⟨p, 3, none⟩ (.int .i64 x.at_)) v (begin_ b x) (.slice none 0 0) [] ∧ Blk ((w1.setCell ⟨p, 4, none⟩ (.bool true)).setCell ⟨p, 3, none⟩ (.int .i64 x.at_)) q #[.int .i64 x.at_, .string x.tx, .int .i64 x.tick] PT) := Lib.hid ⟨(HT.out.set 4 (.bool true) { b with begun := true } rfl (by simp only [bcells, List.set_cons_succ, List.set_cons_zero])).set 3 (.int .i64 x.at_) (begin_ b x) (by rw [begin_L]) (by unfold begin_; rw [hb]; rfl), (HQ.out.setOther hpq _).setOther hpq _⟩
      rw [hb] at c4
      clear hb
      go_wp2_with fail
      go_meet
      case rel => exact H1.out
    · have H1 : Hid (begin_ b x = b) := Lib.hid (by unfold begin_; rw [hb]; rfl)
      rw [hb] at c4
      clear hb
      go_wp2_with fail
      go_meet
      case rel => exact ⟨by rw [H1.out]; exact HT.out, HQ.out⟩
  case rest =>
    obtain ⟨hT, hQ⟩ := hcut
    have HT2 := Lib.hid hT
    have HQ2 := Lib.hid hQ
    clear c4 f4 f3 c3 q0 HT HQ
    have c3 := hT.bs.c3
    have q0 : wc.cell? ⟨q, 0, none⟩ = some (.int .i64 x.at_) := hQ.cell 0
    clear hT hQ
    by_cases hlt : x.at_ < (begin_ b x).next
    · have HE : Hid (putE b x = 13 ∧ putB b x = begin_ b x ∧ putO b x = []) := Lib.hid (by
        have e : putE b x = 13 := by unfold putE; rw [if_pos hlt]
        exact ⟨e, by unfold putB; rw [e]; rfl, by unfold putO; rw [e]; rfl⟩)
      have d1 : decide (x.at_ < (begin_ b x).next) = true := decide_eq_true hlt
      generalize (begin_ b x).next = nx at *
      generalize x.at_ = xa at *
      go_upto_region 4 with fail
      go_region
      all_goals
        go_wp2
        go_ret2
        exact ⟨v, .slice none 0 0, by rw [HE.out.1]; rfl, by rw [HE.out.2.1, HE.out.2.2]; exact HT2.out.drew⟩
    · have d1 : decide (x.at_ < (begin_ b x).next) = false := decide_eq_false hlt
      have HLT := Lib.hid hlt
      have HFD := Lib.hid (fun (W : World) (n : New wc W) => find p v (begin_ b x) x.at_ W (HT2.out.later n).bs (by rw [begin_L]; omega) (by rw [begin_L]; exact HOK.out.1.asc))
      rw [begin_L] at HFD
      cases hh : hasT b.L x.at_
      · have HE : Hid (putE b x = 0 ∧ putB b x = lpB overF (follow (put1 b x)) ∧ putO b x = followO (put1 b x) ++ lpO overF (follow (put1 b x))) := Lib.hid (by
          have e : putE b x = 0 := by unfold putE; rw [if_neg hlt, hh]; rfl
          exact ⟨e, by unfold putB; rw [e]; rfl, by unfold putO; rw [e]; rfl⟩)
        have HOK1 := Lib.hid (put1_ok HOK.out.1 HOK.out.2 hl hx0 hx1 ht0 ht1 hlt hh)
        have HHH := Lib.hid hh
        rw [hh] at HFD
        clear hlt hh
        go_upto_region 4 with fail
        generalize hnx : (begin_ b x).next = nx at *
        generalize hxa : x.at_ = xa at *
        go_region
        have HN1 : Hid (New wc wc.drew) := Lib.hid ((Turns.refl _ _).drew)
        go_wp2_with fail
        refine (HFD.out _ HN1.out).mono ?_
        rintro e w3 ⟨n, rfl, hcut, n3⟩
        have HCU := Lib.hid hcut
        have HN3 := Lib.hid (HN1.out.trans (n3.mono (fun _ _ h => h.elim)))
        have HT3 := Lib.hid (HT2.out.later HN3.out)
        have HQ3 := Lib.hid (HN3.out.blk HQ2.out (fun h => h))
        have HPU : Hid ({ begin_ b x with L := b.L.take n ++ x :: b.L.drop n } = put1 b x) := Lib.hid (by unfold put1; rw [insT_cut x b.L n (by rw [hxa]; exact hcut) (by rw [hxa]; exact HHH.out)])
        have HINS : Hid (∀ (W : World), New w3 W → Blk W w3.heap.size #[.int .i64 xa, .string x.tx, .int .i64 x.tick] PT → Calls Try.prog 28 #[v, .int .i64 n, .slice (some ⟨w3.heap.size, 0, none⟩) 1 1] W fun e w' => ∃ ao4 n4 cc4, e = .returned (.slice ao4 n4 cc4) ∧ w'.cell? ⟨p, 2, none⟩ = some v ∧ w'.frozen? ⟨p, 2, none⟩ = false ∧ Two w p v (w'.setCell ⟨p, 2, none⟩ (.slice ao4 n4 cc4)) (.slice ao4 n4 cc4) (put1 b x) (.slice none 0 0) []) := Lib.hid (fun W nW hW => by
          have ho := (HT3.out.later nW).bs.own
          rw [begin_L] at ho
          refine (insert v b.L x n _ W ho hcut.1 (by omega) (by rw [HXC.out]; exact hW) (fun e => by have := HT3.out.bs.own.lt _ e; omega)).mono ?_
          rintro e w4 ⟨v4, rfl, hi⟩
          obtain ⟨ao4, n4, cc4, hv4⟩ : ∃ ao n c, v4 = .slice ao n c := by
            obtain ⟨a, c, e, _⟩ := hi.own.form
            exact ⟨_, _, _, e⟩
          subst hv4
          have hb4 := hi.t.blk (HT3.out.later nW).bs.blk (HT3.out.later nW).bs.ne
          have h4 := (HT3.out.later nW).swap hi.own hi.t hi.src
          rw [HPU.out] at h4
          exact ⟨ao4, n4, cc4, rfl, hb4.cell 2, hb4.free 2, h4⟩)
        have hp3 : p < w3.heap.size := HT3.out.bs.lt
        have hq3 : q < w3.heap.size := HQ3.out.lt
        have hpn3 : p ≠ w3.heap.size := by omega
        have hqn3 : q ≠ w3.heap.size := by omega
        have c2 := HT3.out.bs.c2
        have q0' : w3.cell? ⟨q, 0, none⟩ = some (.int .i64 xa) := HQ3.out.cell 0
        have q1' : w3.cell? ⟨q, 1, none⟩ = some (.string x.tx) := HQ3.out.cell 1
        have q2' : w3.cell? ⟨q, 2, none⟩ = some (.int .i64 x.tick) := HQ3.out.cell 2
        obtain ⟨ao, c, hv, _⟩ := HT3.out.bs.at_
        rw [begin_L] at hv
        clear c3 q0 n3 hcut HFD d1 HN1
        generalize x.tx = xt at *
        generalize x.tick = xk at *
        go_upto_region 9 with fail
        subst hv
        go_region_with (go_at_call 28; (with_reducible refine Calls.mono (HINS.out _ ?_ ?_) ?_); (focus (exact ((Turns.refl _ _).alloc _).drew)); (focus (exact (Blk.new w3 _ _).drew)); rintro e w4 ⟨ao4, n4, cc4, rfl, z2, y2, h4⟩; have H4 := Lib.hid h4; clear h4)
        all_goals
          clear c2 q0' q1' q2' hp3 hq3 hpn3 hqn3 HINS
          go_wp2_with fail
          refine (follow_ H4.out HOK1.out hM (Nat.zero_le _)).mono ?_
          rintro e w5 ⟨v5, vo5, rfl, h5⟩
          have HL0 : Hid (Lp overF M w p (.slice ao b.L.length c) (lpB overF (follow (put1 b x))) (([] ++ followO (put1 b x)) ++ lpO overF (follow (put1 b x))) w5 v5 (follow (put1 b x)) vo5 ([] ++ followO (put1 b x))) := Lib.hid ⟨h5, follow_ok HOK1.out, rfl, rfl, by
            have := follow_split (put1 b x)
            have := HOK1.out.len
            rw [List.nil_append]
            omega⟩
          clear h5 z2 y2 H4
          go_wp2_with fail
          go_loopw [8] (fun vo wr => ∃ v' b' o, Lp overF M w p (.slice ao b.L.length c) (lpB overF (follow (put1 b x))) (([] ++ followO (put1 b x)) ++ lpO overF (follow (put1 b x))) wr v' b' vo o) (fun _ wr => lenAt wr p)
          case atStart => exact ⟨v5, _, _, HL0.out⟩
          case round =>
            obtain ⟨v', b', o, hj⟩ := hrel
            clear HL0
            have HJ := Lib.hid hj
            have HLA := Lib.hid hj.at_
            obtain ⟨ao', c', hv', hc', hat'⟩ := hj.two.bs.at_
            have c2 := hj.two.bs.c2
            have c0 := hj.two.bs.c0
            have HOV := Lib.hid (overF_eq hj.ok.m1)
            have HNE : Hid (overF b' = true → b'.L ≠ []) := Lib.hid (overF_few b')
            have HOL : Hid (o.length ≤ 100000) := Lib.hid (by have := HJ.out.len; omega)
            clear hj hat' hc'
            subst hv'
            generalize hlen : b'.L.length = len at *
            have HLEN := Lib.hid hlen
            clear hlen
            by_cases hov : b'.most < (len : Int)
            · have dw : decide (b'.most < (len : Int)) = true := decide_eq_true hov
              have HGO : Hid (overF b' = true) := Lib.hid (by rw [HOV.out]; exact dw)
              have HSL := Lib.hid (skip_len b' (HNE.out HGO.out))
              clear hov
              go_upto_region 11 with fail
              go_quiet (fail)
              go_wp2_with fail
              refine (skip_ (HJ.out.two.later ((Turns.refl _ _).drewN _)) HJ.out.ok hM HOL.out (HNE.out HGO.out)).mono ?_
              rintro e w2 ⟨v2, vo2, rfl, h2⟩
              have H2 := Lib.hid (HJ.out.step overF_few HGO.out h2)
              clear h2
              go_wp2_with fail
              go_roundw
              case rel => exact ⟨v2, skip b', _, H2.out⟩
              case measure => rw [H2.out.at_, HLA.out]; have := HSL.out; have := HLEN.out; omega
            · have dw : decide (b'.most < (len : Int)) = false := decide_eq_false hov
              have HST : Hid (∀ n, Two w p (.slice ao b.L.length c) (wr.drewN n) (.slice ao' len c') (lpB overF (follow (put1 b x))) u8 (([] ++ followO (put1 b x)) ++ lpO overF (follow (put1 b x)))) := Lib.hid (fun n => (HJ.out.later ((Turns.refl _ _).drewN n)).stop (by rw [HOV.out]; exact dw))
              clear hov
              go_upto_region 11 with fail
              go_quiet (fail)
              go_wp2
              go_ret2
              exact ⟨_, _, by rw [HE.out.1]; rfl, by rw [HE.out.2.1, HE.out.2.2]; exact HST.out _⟩
      · have HE : Hid (putE b x = 14 ∧ putB b x = begin_ b x ∧ putO b x = []) := Lib.hid (by
          have e : putE b x = 14 := by unfold putE; rw [if_neg hlt, hh]; rfl
          exact ⟨e, by unfold putB; rw [e]; rfl, by unfold putO; rw [e]; rfl⟩)
        rw [hh] at HFD
        clear hlt hh
        go_upto_region 4 with fail
        generalize hnx : (begin_ b x).next = nx at *
        generalize hxa : x.at_ = xa at *
        go_region
        have HN1 : Hid (New wc wc.drew) := Lib.hid ((Turns.refl _ _).drew)
        go_wp2_with fail
        refine (HFD.out _ HN1.out).mono ?_
        rintro e w3 ⟨n, rfl, hcut, n3⟩
        have HN3 := Lib.hid (HN1.out.trans (n3.mono (fun _ _ h => h.elim)))
        have HT3 := Lib.hid (HT2.out.later HN3.out)
        clear hcut n3 c3 q0
        go_wp2
        go_ret2
        exact ⟨v, .slice none 0 0, by rw [HE.out.1]; rfl, by rw [HE.out.2.1, HE.out.2.2]; exact HT3.out⟩
end Go.Proofs.Ytfgfejcnkjeghaa.reo
