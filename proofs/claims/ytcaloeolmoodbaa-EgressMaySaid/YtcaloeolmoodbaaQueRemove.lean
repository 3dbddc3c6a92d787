/-
  queue.Queue in memory: the first items are taken out; the first one is dropped.
-/
import Derived.Test.YtcaloeolmoodbaaQueCalls
import Derived.Deep.DeepCutAuto
import Derived.BigQuiet
namespace Go.Proofs.Ytcaloeolmoodbaa.que
open Go.RowKit mem
set_option linter.unusedVariables false

/-- items are taken out: v holds them -/
structure Gone (w w' : World) (p : Nat) (pv : Value) (q : Q) (v : Value) (D : List It) : Prop where
  fr : Fresh PT w w' v D
  qs : ∃ pv', Qs w' p pv' q ∧ pv'.ownBlock = pv.ownBlock
  turns : Turns (Foot p pv) w w'

theorem Owns.cases {w : World} {v : Value} {l : List It} (h : Owns IE PT w v l) : (v = .slice none 0 0 ∧ l = []) ∨ ∃ g cap, v = .slice (some ⟨g, 0, none⟩) l.length cap ∧ l.length ≤ cap ∧ cap ≤ maxLen := by
  rcases h.2 with ⟨e, h0⟩ | ⟨g, cap, cur, e, hb, hg, hc, hm, _⟩
  · exact .inl ⟨e, List.length_eq_zero_iff.1 h0⟩
  · exact .inr ⟨g, cap, e, hc, hm⟩
theorem Owns.head {w : World} {g cap : Nat} {l : List It} (h : Owns IE PT w (.slice (some ⟨g, 0, none⟩) l.length cap) l) (n : Nat) (hn : n ≤ l.length) : Sub IE 0 w (.slice (some ⟨g, 0, none⟩) n cap) (l.take n) := by
  rcases h.sub 0 (fun _ _ => Nat.zero_le _) with ⟨h, _⟩ | h
  · cases h
  · exact .inr (h.take n hn)

set_option maxHeartbeats 1000000 in
theorem remove (p : Nat) (pv : Value) (q : Q) (n : Nat) (w : World) (h : Qs w p pv q) (hn : n ≤ q.L.length) :
    Calls Try.prog 70 #[.pointer (some ⟨p, 0, none⟩), .int .i64 n] w fun e w' => ∃ v, e = .returned v ∧ Gone w w' p pv ⟨q.frames, q.most, q.L.drop n, q.broken⟩ v (q.L.take n) := by
  have hsm := h.small
  have hcl : Hid (∀ v w', Sub IE 0 w' v (q.L.take n) → _) := Lib.hid (fun v w' hs => clone v (q.L.take n) w' hs (by rw [List.length_take]; omega))
  have hdl : Hid (∀ w', Owns IE PT w' pv q.L → _) := Lib.hid (fun w' hs => delete pv q.L n w' hs hn (by omega))
  have hform := Owns.cases h.own
  have HS : Hid (∃ ao c, pv = .slice ao q.L.length c ∧ q.L.length ≤ c ∧ Sub IE 0 w (.slice ao n c) (q.L.take n)) := by
    rcases hform with ⟨e, e2⟩ | ⟨g, cap, e, hc, hm⟩
    · have hn0 : n = 0 := by rw [e2] at hn; simpa using hn
      refine Lib.hid ⟨none, 0, by rw [e, e2]; rfl, by rw [e2]; exact Nat.le_refl _, .inl ⟨by rw [hn0], by rw [hn0]; rfl⟩⟩
    · have ho := h.own
      rw [e] at ho
      exact Lib.hid ⟨_, cap, e, hc, Owns.head ho n hn⟩
  clear hform
  obtain ⟨ao, c, hpv, hc, hsub⟩ := HS.out
  have c2 := h.blk.cell 2
  rw [hpv] at c2
  have HQ := Lib.hid h
  have HSB := Lib.hid hsub
  have HPV := Lib.hid hpv
  have hnc : n ≤ c := by omega
  have hnm : n ≤ maxLen := by unfold maxLen; omega
  clear h hsub hpv HS
  go_enter Try.func70, Try.ntmps70
  go_wp2_with fail
  refine (hcl.out _ _ HSB.out).mono ?_
  rintro e w1 ⟨v1, rfl, fr1, n1⟩
  have hq1 := HQ.out.later n1
  have d2 := hq1.blk.cell 2
  rw [HPV.out] at d2
  have H1 := Lib.hid (And.intro fr1 (And.intro n1 hq1))
  clear fr1 n1 hq1 c2
  go_wp2_with fail
  rw [← HPV.out]
  refine (hdl.out _ H1.out.2.2.own).mono ?_
  rintro e w2 ⟨v2, rfl, ho2, t2, hb2⟩
  obtain ⟨fr1, n1, hq1⟩ := H1.out
  have hne2 : v2.ownBlock ≠ some p := by rw [hb2]; exact HQ.out.ne
  have bl2 := t2.blk hq1.blk (fun e => HQ.out.ne e)
  have hv1 : ∀ g, v1.ownBlock = some g → g ≠ p ∧ pv.ownBlock ≠ some g := fun g hg => ⟨fun e => by have := fr1.vb g hg; have := HQ.out.lt; omega, fun e => by have := fr1.vb g hg; have := HQ.out.vlt g e; omega⟩
  have ho1 := fr1.own.turns t2 (fun g hg => (hv1 g hg).2)
  have tt2 : Turns (Foot p pv) w w2 := (n1.mono (fun _ _ h => h.elim)).trans (t2.mono (fun k _ hk => .inl (.inr hk)))
  have H2 := Lib.hid (And.intro ho1 (And.intro ho2 (And.intro hb2 tt2)))
  have HV1 := Lib.hid (And.intro hv1 fr1.vb)
  have e2 := bl2.cell 2
  have f2 := bl2.free 2
  rw [HPV.out] at e2
  have HB2 := Lib.hid bl2
  obtain ⟨a2, cc2, hv2, _⟩ := ho2.form
  rw [List.length_drop] at hv2
  clear H1 fr1 n1 hq1 d2 ho1 ho2 hb2 tt2 t2 hv1 bl2
  subst hv2
  go_upto_region 3 with fail
  refine (show Code.wp _ _ _ _ (w2.setCell ⟨p, 2, none⟩ (.slice a2 (q.L.length - n) cc2)) from ?_)
  generalize Value.slice a2 (q.L.length - n) cc2 = v2 at *
  have HB3 : Hid (Blk (w2.setCell ⟨p, 2, none⟩ v2) p (cellsR q.frames q.most v2 (sumL q.L) q.broken) QB) := Lib.hid (HB2.out.set 2 v2)
  have t3 : Turns (· = p) w2 (w2.setCell ⟨p, 2, none⟩ v2) := (Turns.refl (· = p) _).setCell (.inl rfl) _
  have H3 : Hid (Owns IE PT (w2.setCell ⟨p, 2, none⟩ v2) v1 (q.L.take n) ∧ Owns IE PT (w2.setCell ⟨p, 2, none⟩ v2) v2 (q.L.drop n) ∧ v2.ownBlock = pv.ownBlock ∧ Turns (Foot p pv) w (w2.setCell ⟨p, 2, none⟩ v2)) :=
    Lib.hid ⟨H2.out.1.turns t3 (fun g hg e => (HV1.out.1 g hg).1 e), H2.out.2.1.turns t3 (fun g hg e => hne2 (by rw [hg, e])), H2.out.2.2.1, H2.out.2.2.2.trans (t3.mono (fun k _ hk => .inl (.inl hk)))⟩
  clear H2 HB2 e2 f2 t3
  generalize w2.setCell ⟨p, 2, none⟩ v2 = w3 at *
  have hlT : (q.L.take n).length = n := by rw [List.length_take]; omega
  obtain ⟨ao1, c1, hv1, hc1, hrd1, hbk1⟩ := H3.out.1.form
  rw [hlT] at hv1 hc1
  have hlt3 := HB3.out.lt
  have HRD := Lib.hid hrd1
  have HBK := Lib.hid hbk1
  have HV := Lib.hid hv1
  clear hrd1 hbk1
  subst hv1
  go_wp2_with fail
  go_loopw [26] (fun i wr => ∃ k : Nat, k ≤ n ∧ i = .int .i64 k ∧ Blk wr p (cellsR q.frames q.most v2 (sumL q.L - sumL (q.L.take k)) q.broken) QB ∧ Turns (· = p) w3 wr) (fun i _ => n - (intOf i).toNat)
  case atStart => exact ⟨0, Nat.zero_le _, rfl, by rw [List.take_zero]; show Blk w3 p (cellsR _ _ _ (sumL q.L - 0) _) QB; rw [Int.sub_zero]; exact HB3.out, Turns.refl _ _⟩
  case round =>
    obtain ⟨k, hk, rfl, hblk, hts⟩ := hrel
    by_cases hlt : k < n
    · obtain ⟨x, hx⟩ : ∃ x, q.L[k]? = some x := ⟨_, List.getElem?_eq_getElem (by omega)⟩
      have hxT : (q.L.take n)[k]? = some x := by rw [List.getElem?_take, if_pos hlt]; exact hx
      rcases HRD.out with h0 | ⟨g, hg, hgl, hcell⟩
      · rw [h0] at hxT; simp at hxT
      · subst hg
        have hgp : g ≠ p := (HV1.out.1 g rfl).1
        have hrow := fun (j : Nat) (u : Value) (hu : (IE.cs x)[j]? = some u) => (hts.cell (a := ⟨g, k * 4 + j, none⟩) hgl hgp).trans (hcell k x hxT j u hu)
        have r0 : wr.cell? ⟨g, k * 4, none⟩ = _ := hrow 0 _ rfl
        have r1 := hrow 1 _ rfl
        have r2 := hrow 2 _ rfl
        have r3 := hrow 3 _ rfl
        have hsum := sumL_at q.L k x hx
        have hp0 := HQ.out.ok.pos x (List.mem_of_getElem? hx)
        have hs1 := sumL_take_le q.L (k + 1) HQ.out.ok.pos
        have hs0 := sumL_pos _ (HQ.out.ok.pos.take k)
        have hsS := HQ.out.ok.sum
        have hsM := HQ.out.ok.m2
        rw [hsum] at hs1
        have HSUM := Lib.hid hsum
        obtain ⟨xn, xs, xt, xk⟩ := x
        dsimp only at *
        have e0 : Hid (sumL q.L - sumL (q.L.take k) - xs = sumL q.L - sumL (q.L.take (k + 1))) := Lib.hid (by rw [HSUM.out]; omega)
        have b0 : 0 ≤ sumL q.L - sumL (q.L.take k) - xs := by omega
        have b1 : sumL q.L - sumL (q.L.take k) ≤ 16777216 := by omega
        clear hrow hcell hxT hx hsum hs1 hs0 hsS hsM
        generalize sumL q.L - sumL (q.L.take k) = sz at *
        have HH := Lib.hid (And.intro hblk hts)
        have hpl := hblk.lt
        clear hblk hts
        go_upto_region 6 with fail
        refine (show Code.wp _ _ _ _ (wr.alloc (.cells #[.int .i64 xn, .int .i64 xs, .int .i64 xt, .bool xk] PT)) from ?_)
        have hb4 : Blk (wr.alloc (.cells #[.int .i64 xn, .int .i64 xs, .int .i64 xt, .bool xk] PT)) p (cellsR q.frames q.most v2 sz q.broken) QB := HH.out.1.alloc _
        have hx4 : Blk (wr.alloc (.cells #[.int .i64 xn, .int .i64 xs, .int .i64 xt, .bool xk] PT)) wr.heap.size #[.int .i64 xn, .int .i64 xs, .int .i64 xt, .bool xk] PT := Blk.new _ _ _
        have ht4 : Turns (· = p) w3 (wr.alloc (.cells #[.int .i64 xn, .int .i64 xs, .int .i64 xt, .bool xk] PT)) := HH.out.2.alloc _
        clear HH r0 r1 r2 r3
        generalize wr.alloc (.cells #[.int .i64 xn, .int .i64 xs, .int .i64 xt, .bool xk] PT) = w4 at *
        generalize wr.heap.size = px at *
        have c3 := hb4.cell 3
        have f3 := hb4.free 3
        have x1 := hx4.cell 1
        have H4 := Lib.hid (And.intro hb4 ht4)
        clear hb4 ht4 hx4
        go_region
        go_wp2_with fail
        go_roundw
        case rel => exact ⟨k + 1, by omega, by go_num, by rw [← e0.out]; exact H4.out.1.set 3 _, (H4.out.2.setCell (p := ⟨p, 3, none⟩) (.inl rfl) _).drew⟩
        case measure => simp [intOf]; omega
    · obtain rfl : k = n := by omega
      have hs : sumL q.L - sumL (q.L.take k) = sumL (q.L.drop k) := by have := sumL_cut q.L k; omega
      rw [hs] at hblk
      have HE : Hid (Gone w wr p pv ⟨q.frames, q.most, q.L.drop k, q.broken⟩ (.slice ao1 k c1) (q.L.take k)) := Lib.hid
        ⟨⟨H3.out.1.turns hts (fun g hg e => (HV1.out.1 g hg).1 e), HV1.out.2⟩, ⟨v2, ⟨hblk, H3.out.2.1.turns hts (fun g hg e => hne2 (by rw [hg, e])), hne2, HQ.out.ok.drop k _⟩, H3.out.2.2.1⟩, H3.out.2.2.2.trans (hts.mono (fun i _ hi => .inl (.inl hi)))⟩
      clear hblk hts hs
      go_wp2
      go_ret
      exact ⟨_, rfl, HE.out⟩

theorem Owns.cast {T : TypeId} {w : World} {v : Value} {l m : List It} (h : Owns IE T w v l) (e : l = m) : Owns IE T w v m := e ▸ h

/-- the first one is dropped -/
def dropQ (q : Q) : Q := ⟨q.frames, q.most, q.L.drop (dropN q.L), q.broken || decide (dropN q.L = q.L.length)⟩
set_option maxHeartbeats 1000000 in
theorem drop (p : Nat) (pv : Value) (q : Q) (w : World) (h : Qs w p pv q) (hne : q.L ≠ []) :
    Calls Try.prog 68 #[.pointer (some ⟨p, 0, none⟩)] w fun e w' => ∃ v, e = .returned v ∧ Gone w w' p pv (dropQ q) v (q.L.take (dropN q.L)) := by
  have hsm := h.small
  have hd1 := dropN_pos q.L
  have hdl := dropN_le q.L hne
  obtain ⟨ao, c, hpv, hc, hrd, _⟩ := h.own.form
  have HQ := Lib.hid h
  have HPV := Lib.hid hpv
  have HRD := Lib.hid hrd
  have c2 := h.blk.cell 2
  rw [hpv] at c2
  have hlm : q.L.length ≤ maxLen := by unfold maxLen; omega
  have HNE := Lib.hid hne
  clear h hrd hpv hne
  go_enter Try.func68, Try.ntmps68
  go_wp2_with fail
  go_loopw [3] (fun i wr => ∃ k : Nat, 1 ≤ k ∧ k ≤ q.L.length ∧ i = .int .i64 k ∧ wr = w ∧ k + runL (q.L.drop k) = dropN q.L) (fun i _ => q.L.length - (intOf i).toNat)
  case atStart => exact ⟨1, Nat.le_refl 1, by omega, rfl, rfl, rfl⟩
  case round =>
    obtain ⟨k, hk1, hk, rfl, rfl, hrun⟩ := hrel
    have HRUN := Lib.hid hrun
    clear hrun
    by_cases hlt : k < q.L.length
    · obtain ⟨x, hx⟩ : ∃ x, q.L[k]? = some x := ⟨_, List.getElem?_eq_getElem (by omega)⟩
      rcases HRD.out with h0 | ⟨g, hg, hgl, hcell⟩
      · exact absurd h0 HNE.out
      · subst hg
        have r3 : wr.cell? ⟨g, k * 4 + 3, none⟩ = some (.bool x.key) := hcell k x hx 3 _ rfl
        have HAT := Lib.hid (runL_at q.L k x hx)
        clear hcell hx
        obtain ⟨xn, xs, xt, xk⟩ := x
        dsimp only at *
        cases xk with
        | false =>
          go_wp2_with fail
          go_roundw
          case rel => exact ⟨k + 1, by omega, by omega, by go_num, trivial, by have := HRUN.out; rw [HAT.out] at this; simp at this; omega⟩
          case measure => simp [intOf]; omega
        | true =>
          have hkd : k = dropN q.L := by have := HRUN.out; rw [HAT.out] at this; simpa using this
          have hkl : ((k : Int) == (q.L.length : Int)) = false := by simp; omega
          have e : decide (dropN q.L = q.L.length) = false := decide_eq_false (by omega)
          have hq : dropQ q = ⟨q.frames, q.most, q.L.drop k, q.broken⟩ := by unfold dropQ; rw [e, Bool.or_false, ← hkd]
          have HG := Lib.hid (remove p pv q k wr HQ.out hk)
          have HE := Lib.hid hq
          have HKD := Lib.hid hkd
          clear hkd hq e hd1 hdl
          go_wp2_with fail
          refine HG.out.mono ?_
          rintro e w' ⟨v, rfl, hg⟩
          go_wp2
          go_ret
          exact ⟨_, rfl, by rw [HE.out, ← HKD.out]; exact hg⟩
    · obtain rfl : k = q.L.length := by omega
      have hkd : q.L.length = dropN q.L := by have := HRUN.out; rw [runL_end q.L _ (Nat.le_refl _)] at this; simpa using this
      have e : decide (dropN q.L = q.L.length) = true := decide_eq_true hkd.symm
      have hq : dropQ q = ⟨q.frames, q.most, q.L.drop q.L.length, true⟩ := by unfold dropQ; rw [e, Bool.or_true, ← hkd]
      have c4 := HQ.out.blk.cell 4
      have f4 := HQ.out.blk.free 4
      have tt : Turns (· = p) wr (wr.setCell ⟨p, 4, none⟩ (.bool true)) := (Turns.refl (· = p) _).setCell (.inl rfl) _
      have h2 : Qs (wr.setCell ⟨p, 4, none⟩ (.bool true)) p pv ⟨q.frames, q.most, q.L, true⟩ := ⟨HQ.out.blk.set 4 _, HQ.out.own.turns tt (fun g hg e => HQ.out.ne (by rw [hg, e])), HQ.out.ne, HQ.out.ok.bs true⟩
      have HG := Lib.hid (remove p pv _ q.L.length _ h2 (Nat.le_refl _))
      have HT := Lib.hid tt
      have HE := Lib.hid hq
      have HKD := Lib.hid hkd
      clear hkd hq e hd1 hdl h2 tt
      go_wp2_with fail
      refine HG.out.mono ?_
      rintro e w2 ⟨v, rfl, hg⟩
      have HH : Hid (Gone wr w2 p pv (dropQ q) v (q.L.take (dropN q.L))) := Lib.hid ⟨⟨Owns.cast hg.fr.own (by rw [← HKD.out]), fun g hgv => Nat.le_trans HT.out.size (hg.fr.vb g hgv)⟩, by rw [HE.out]; exact hg.qs, HT.out.mono (fun i _ hi => .inl hi) |>.trans (hg.turns.mono (fun _ _ hk => .inl hk))⟩
      clear hg HT HG
      go_wp2
      go_ret
      exact ⟨_, rfl, HH.out⟩
end Go.Proofs.Ytcaloeolmoodbaa.que
