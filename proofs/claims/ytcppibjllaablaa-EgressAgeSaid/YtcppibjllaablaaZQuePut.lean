/-
  queue.Queue in memory: Put.
-/
import Derived.Test.YtcppibjllaablaaZKaa
import Derived.Deep.AppendLies
set_option linter.unusedVariables false
set_option linter.unusedSimpArgs false
namespace Go.Proofs.Ytcppibjllaablaa.que
open Go.RowKit mem
set_option linter.unusedVariables false

/-- what Put leaves -/
structure PutPost (w w' : World) (p : Nat) (pv : Value) (q : Q) (v : Value) (D : List It) : Prop where
  fr : Fresh PT w w' v D
  lft : Lft w w' p pv q

theorem Gone.drewN {w w1 : World} {p : Nat} {pv v : Value} {q : Q} {D : List It} (h : Gone w w1 p pv q v D) (n : Nat) : Gone w (w1.drewN n) p pv q v D := by
  obtain ⟨pv', hq, he⟩ := h.qs
  exact ⟨⟨h.fr.own, h.fr.vb⟩, ⟨pv', hq.drewN n, he⟩, h.turns.drewN n⟩
theorem Gone.later {w w1 w2 : World} {p : Nat} {pv v : Value} {q : Q} {D : List It} (h : Gone w w1 p pv q v D) (n : New w1 w2) : Gone w w2 p pv q v D := by
  obtain ⟨pv', hq, he⟩ := h.qs
  exact ⟨⟨h.fr.own.turns n (fun _ _ h => h), h.fr.vb⟩, ⟨pv', hq.later n, he⟩, h.turns.trans (n.mono (fun _ _ h => h.elim))⟩

/-- the new item has its place -/
structure Plc (w wx : World) (p pb : Nat) (pv1 v : Value) (q1 : Q) (D : List It) (x : It) (g cap : Nat) : Prop where
  blk : Blk wx p (cellsR q1.frames q1.most (.slice (some ⟨g, 0, none⟩) (q1.L.length + 1) cap) (sumL q1.L) q1.broken) QB
  own : Owns IE PT wx (.slice (some ⟨g, 0, none⟩) (q1.L.length + 1) cap) (q1.L ++ [x])
  ne : g ≠ p
  dr : Owns IE PT wx v D
  va : ∀ g, v.ownBlock = some g → g ≠ p
  box : Blk wx pb x.cs.toArray PT
  loc : pv1.ownBlock = some g ∨ w.heap.size ≤ g
  turns : Turns (Foot p pv1) w wx
theorem Qs.placed {w W w1 : World} {p pb g cap : Nat} {pv1 v : Value} {q1 : Q} {D : List It} {x : It} (h : Qs w p pv1 q1) (hbx : Blk w pb x.cs.toArray PT) (hpb : pb ≠ p ∧ ∀ g, pv1.ownBlock = some g → pb ≠ g) (hv : Owns IE PT w v D) (hva : ∀ g, v.ownBlock = some g → g ≠ p ∧ pv1.ownBlock ≠ some g) (hW : New w W)
    (hown : w1.ownsRow 0 PT 4 (.slice (some ⟨g, 0, none⟩) (q1.L.length + 1) cap) (q1.L.length + 1) (IE.all q1.L ++ x.cs)) (hg : W.grownBy w1 pv1.ownBlock) (hat : pv1.ownBlock = some g ∨ w.heap.size ≤ g) :
    Plc w (w1.setCell ⟨p, 2, none⟩ (.slice (some ⟨g, 0, none⟩) (q1.L.length + 1) cap)) p pb pv1 v q1 D x g cap := by
  have t1 : Turns (fun k => some k = pv1.ownBlock) w w1 := (hW.mono (fun _ _ h => h.elim)).trans ((Turns.of_grown hg).mono (fun _ _ h => .inl h))
  have hpc := h.lt
  have hgp : g ≠ p := by
    rcases hat with e | e
    · intro e2; exact h.ne (by rw [e, e2])
    · omega
  have hb1 := t1.blk h.blk (fun e => h.ne e.symm)
  have hx1 := t1.blk hbx (fun e => hpb.2 pb e.symm rfl)
  have hv1 := hv.turns t1 (fun g' hg' e => (hva g' hg').2 e.symm)
  have t2 : Turns (· = p) w1 (w1.setCell ⟨p, 2, none⟩ (.slice (some ⟨g, 0, none⟩) (q1.L.length + 1) cap)) := (Turns.refl (· = p) _).setCell (.inl rfl) _
  have hO : Owns IE PT w1 (.slice (some ⟨g, 0, none⟩) (q1.L.length + 1) cap) (q1.L ++ [x]) := by
    unfold Owns
    rw [IE.all_append, IE.all_one, List.length_append]
    exact hown
  refine ⟨hb1.set 2 _, hO.turns t2 (fun g' hg' e => ?_), hgp, hv1.turns t2 (fun g' hg' e => (hva g' hg').1 e), fun g' hg' => (hva g' hg').1, t2.blk hx1 hpb.1, hat, (t1.mono (S' := Foot p pv1) (fun _ _ hk => .inr hk.symm)).trans (t2.mono (fun _ _ hk => .inl (.inl hk)))⟩
  have hg2 : g = g' := by simpa [Value.ownBlock] using hg'
  exact hgp (hg2.trans e)
theorem Plc.fin {w wx wz : World} {p pb g cap : Nat} {pv1 v : Value} {q1 : Q} {D : List It} {x : It} (h : Plc w wx p pb pv1 v q1 D x g cap) (t : Turns (· = p) wx wz) (hb : Blk wz p (cellsR q1.frames q1.most (.slice (some ⟨g, 0, none⟩) (q1.L.length + 1) cap) (sumL q1.L + x.size) false) QB) (ok : Q.ok ⟨q1.frames, q1.most, q1.L ++ [x], false⟩) :
    Owns IE PT wz v D ∧ Qs wz p (.slice (some ⟨g, 0, none⟩) (q1.L.length + 1) cap) ⟨q1.frames, q1.most, q1.L ++ [x], false⟩ ∧ Turns (Foot p pv1) w wz := by
  refine ⟨h.dr.turns t (fun g' hg' e => h.va g' hg' e), ⟨?_, h.own.turns t (fun g' hg' e => ?_), fun e => ?_, ok⟩, h.turns.trans (t.mono (fun _ _ hk => .inl (.inl hk)))⟩
  · have e : sumL (q1.L ++ [x]) = sumL q1.L + x.size := by rw [sumL_append]; simp [sumL]
    show Blk wz p (cellsR q1.frames q1.most _ (sumL (q1.L ++ [x])) false) QB
    rw [e]
    exact hb
  · have hg2 : g = g' := by simpa [Value.ownBlock] using hg'
    exact h.ne (hg2.trans e)
  · exact h.ne (by simpa [Value.ownBlock] using e)

set_option maxHeartbeats 1000000 in
set_option maxRecDepth 10000 in
theorem put (p : Nat) (pv : Value) (q : Q) (x : It) (w : World) (h : Qs w p pv q) (s0 : -9223372036854775808 ≤ x.size) (s1 : x.size ≤ 9223372036854775807) :
    Calls Try.prog 38 #[.pointer (some ⟨p, 0, none⟩), x.v] w fun e w' => ∃ v, e = .returned (.tuple #[v, .bool (putOk q x)]) ∧ PutPost w w' p pv (putQ q x) v (putD q x) := by
  have n1 : New w (w.alloc (.cells x.cs.toArray PT)) := (Turns.refl _ _).alloc _
  have hb : Blk (w.alloc (.cells x.cs.toArray PT)) w.heap.size x.cs.toArray PT := Blk.new _ _ _
  have HQ := Lib.hid h
  have HQ1 : Hid (Qs (w.alloc (.cells x.cs.toArray PT)) p pv q) := Lib.hid (h.later n1)
  have HN1 := Lib.hid n1
  have HB1 := Lib.hid hb
  have HX : Hid (∃ y : It, y = x) := Lib.hid ⟨x, rfl⟩
  obtain ⟨y, hy⟩ := HX.out
  have HY := Lib.hid hy
  have c1 := HQ1.out.blk.cell 1
  have x1 := hb.cell 1
  have x0 := hb.cell 0
  have x2 := hb.cell 2
  have x3 := hb.cell 3
  have m1 := HQ.out.ok.m1
  have m2 := HQ.out.ok.m2
  clear n1 hb h hy
  have HR : Hid (∀ w', Qs w' p pv q → _) := Lib.hid (fun w' hq => refuses p pv q x w' hq)
  obtain ⟨xn, xs, xt, xk⟩ := x
  dsimp only [It.cs, It.v] at *
  go_enter Try.func38, Try.ntmps38
  go_upto_region 1 with fail
  refine (show Code.wp _ _ _ _ (w.alloc (.cells #[.int .i64 xn, .int .i64 xs, .int .i64 xt, .bool xk] PT)) from ?_)
  have c1' : (w.alloc (.cells #[.int .i64 xn, .int .i64 xs, .int .i64 xt, .bool xk] PT)).cell? ⟨p, 1, none⟩ = some (.int .i64 q.most) := c1
  have x0' : (w.alloc (.cells #[.int .i64 xn, .int .i64 xs, .int .i64 xt, .bool xk] PT)).cell? ⟨w.heap.size, 0, none⟩ = some (.int .i64 xn) := x0
  have x1' : (w.alloc (.cells #[.int .i64 xn, .int .i64 xs, .int .i64 xt, .bool xk] PT)).cell? ⟨w.heap.size, 1, none⟩ = some (.int .i64 xs) := x1
  have x2' : (w.alloc (.cells #[.int .i64 xn, .int .i64 xs, .int .i64 xt, .bool xk] PT)).cell? ⟨w.heap.size, 2, none⟩ = some (.int .i64 xt) := x2
  have x3' : (w.alloc (.cells #[.int .i64 xn, .int .i64 xs, .int .i64 xt, .bool xk] PT)).cell? ⟨w.heap.size, 3, none⟩ = some (.bool xk) := x3
  have HQ1' : Hid (Qs (w.alloc (.cells #[.int .i64 xn, .int .i64 xs, .int .i64 xt, .bool xk] PT)) p pv q) := HQ1
  have HB1' : Hid (Blk (w.alloc (.cells #[.int .i64 xn, .int .i64 xs, .int .i64 xt, .bool xk] PT)) w.heap.size #[.int .i64 xn, .int .i64 xs, .int .i64 xt, .bool xk] PT) := HB1
  have HN1' : Hid (New w (w.alloc (.cells #[.int .i64 xn, .int .i64 xs, .int .i64 xt, .bool xk] PT))) := HN1
  have HPB : Hid (∃ z, z = w.heap.size) := Lib.hid ⟨_, rfl⟩
  obtain ⟨pb, hpb⟩ := HPB.out
  rw [← hpb] at x0' x1' x2' x3' HB1'
  rw [← hpb]
  have HPB2 := Lib.hid hpb
  clear c1 x1 x0 x2 x3 HQ1 HB1 HN1 hpb HPB
  generalize w.alloc (.cells #[.int .i64 xn, .int .i64 xs, .int .i64 xt, .bool xk] PT) = w1 at *
  have hbad : Hid (bad q y = (decide (xs < 0) || decide (q.most < xs) || (q.broken && !xk))) := Lib.hid (by rw [HY.out]; rfl)
  go_cut [23] (fun v wx => v = .bool (bad q y) ∧ New w1 wx)
  case first =>
    by_cases h1 : xs < 0
    · have d1 : decide (xs < 0) = true := decide_eq_true h1
      rw [d1] at hbad
      go_quiet (fail)
      go_wp2_with fail
      go_meet
      case rel => exact ⟨by rw [hbad.out]; rfl, (Turns.refl _ _).drewN _⟩
    · have d1 : decide (xs < 0) = false := decide_eq_false h1
      by_cases h2 : q.most < xs
      · have d2 : decide (q.most < xs) = true := decide_eq_true h2
        rw [d1, d2] at hbad
        go_quiet (fail)
        go_wp2_with fail
        go_meet
        case rel => exact ⟨by rw [hbad.out]; rfl, (Turns.refl _ _).drewN _⟩
      · have d2 : decide (q.most < xs) = false := decide_eq_false h2
        rw [d1, d2] at hbad
        go_region_with (refine (HR.out _ (HQ1'.out.drewN 1)).mono ?_; rintro e w2 ⟨rfl, n2⟩)
        all_goals
          have N2 : Hid (New w1 w2) := Lib.hid ((Turns.drewN (Turns.refl (fun _ => False) w1) 1).trans (n2.mono (fun _ _ h => h.elim)))
          clear n2
          go_wp2_with fail
          go_meet
          case rel => exact ⟨by rw [hbad.out]; rfl, N2.out⟩
  case rest =>
    obtain ⟨rfl, nx⟩ := hcut
    have HQX := Lib.hid (HQ1'.out.later nx)
    have hbx := nx.blk HB1'.out (fun h => h)
    have HBX := Lib.hid hbx
    have HNX : Hid (New w wc) := Lib.hid (HN1'.out.trans (nx.mono (fun _ _ h => h.elim)))
    obtain ⟨⟨x0, x1, x2, x3⟩, _⟩ := four hbx
    clear nx hbx c1' x0' x1' x2' x3' HQ1' HB1' HN1' HR
    have HSM := Lib.hid HQX.out.small
    by_cases hb : bad q y = true
    · have HB := Lib.hid hb
      have c4 := HQX.out.blk.cell 4
      have f4 := HQX.out.blk.free 4
      rw [hb]
      have HE : Hid (PutPost w (wc.setCell ⟨p, 4, none⟩ (.bool true)) p pv (putQ q y) (.slice none 0 0) (putD q y) ∧ putOk q y = false) := Lib.hid (by
        have tt : Turns (· = p) wc (wc.setCell ⟨p, 4, none⟩ (.bool true)) := (Turns.refl (· = p) _).setCell (.inl rfl) _
        have e1 : putQ q y = ⟨q.frames, q.most, q.L, true⟩ := by unfold putQ; rw [hb, if_pos rfl]
        have e2 : putD q y = [] := by unfold putD; rw [hb, if_pos rfl]
        have e3 : putOk q y = false := by unfold putOk; rw [hb]; rfl
        refine ⟨⟨⟨by rw [e2]; exact Owns.nil _ _, fun g hg => by simp [Value.ownBlock] at hg⟩, ⟨pv, ?_, .inl rfl⟩, ?_⟩, e3⟩
        · rw [e1]
          exact ⟨HQX.out.blk.set 4 _, HQX.out.own.turns tt (fun g hg e => HQX.out.ne (by rw [hg, e])), HQX.out.ne, HQX.out.ok.bs true⟩
        · exact (HNX.out.mono (fun _ _ h => h.elim)).trans (tt.mono (fun _ _ h => .inl (.inl h))))
      clear hb HB hbad HQX HBX HNX x0 x1 x2 x3
      go_wp2
      go_ret2
      rw [← HY.out]
      exact ⟨.slice none 0 0, by rw [HE.out.2]; rfl, HE.out.1⟩
    · have hb : bad q y = false := by simpa using hb
      have HB := Lib.hid hb
      rw [hb]
      have hs : 0 ≤ xs ∧ xs ≤ q.most := by
        have := hbad.out
        rw [hb] at this
        have h2 : (decide (xs < 0) || decide (q.most < xs)) = false := by
          cases h3 : (decide (xs < 0) || decide (q.most < xs)) with
          | false => rfl
          | true => rw [h3] at this; simp at this
        simp at h2; omega
      obtain ⟨xs0, xs1⟩ := hs
      have HY1 : Hid (y.size = xs ∧ y.key = xk) := Lib.hid (by rw [HY.out]; exact ⟨rfl, rfl⟩)
      have H00 : Hid (full q y [] = false) := Lib.hid (full_nil HQ.out.ok (by rw [HY1.out.1]; omega))
      have HG0 := Lib.hid (Gone.zero HQX.out)
      have HP := Lib.hid HQX.out.lt
      have HPV := Lib.hid HQX.out.vlt
      have HF1 := Lib.hid HQ.out.ok
      have HPBX : Hid (pb ≠ p ∧ ∀ g, pv.ownBlock = some g → pb ≠ g) := Lib.hid ⟨by rw [HPB2.out]; exact Nat.ne_of_gt HQ.out.lt, fun g hg => by rw [HPB2.out]; exact Nat.ne_of_gt (HQ.out.vlt g hg)⟩
      clear hb hbad
      go_wp2_with fail
      go_loopw [6] (fun v wr => ∃ k : Nat, k ≤ q.L.length ∧ k + sh (full q y) (q.L.drop k) = putK q y ∧ (∃ ao c, v = .slice ao k c) ∧ Gone wc wr p pv (qk q k) v (q.L.take k)) (fun v _ => q.L.length - slen v)
      case atStart => exact ⟨0, Nat.zero_le _, by rw [List.drop_zero, Nat.zero_add]; rfl, ⟨none, 0, rfl⟩, HG0.out⟩
      case round =>
        obtain ⟨k, hk, hsh, ⟨ao7, c7, rfl⟩, hg⟩ := hrel
        have HG9 := Lib.hid (fun n => hg.drewN n)
        obtain ⟨pv1, hq1, he1⟩ := hg.qs
        have HQ9 := Lib.hid (fun n => hq1.drewN n)
        have HE1 := Lib.hid he1
        obtain ⟨ao, c, hpv1, hc⟩ := hq1.form
        have hlen : (qk q k).L.length = q.L.length - k := List.length_drop
        rw [hlen] at hpv1 hc
        have c0 := hq1.blk.cell 0
        have c1 := hq1.blk.cell 1
        have c2 := hq1.blk.cell 2
        have c3 := hq1.blk.cell 3
        have hbr := hg.turns.blk HBX.out (fun e => by
          rcases e with e | e
          · exact HPBX.out.1 e
          · exact HPBX.out.2 _ e rfl)
        have HBR := Lib.hid (fun n => hbr.drewN n)
        have x1 := hbr.cell 1
        rw [hpv1] at c2
        have HPV1 := Lib.hid hpv1
        have HSH := Lib.hid hsh
        have hsm := HSM.out
        have hsum0 := sumL_pos _ hq1.ok.pos
        have hsum1 := hq1.ok.sum
        have hm1 : (qk q k).most = q.most := rfl
        have hf1 : (qk q k).frames = q.frames := rfl
        have hL1 : (qk q k).L = q.L.drop k := rfl
        have HFU : Hid (full q y (q.L.drop k) = (decide (((q.L.length - k : Nat) : Int) = q.frames) || decide (q.most < sumL (q.L.drop k) + xs))) := Lib.hid (by unfold full; rw [HY1.out.1, List.length_drop])
        rw [hm1] at c1 hsum1
        rw [hf1] at c0
        rw [hL1] at c3 hsum0 hsum1
        have hw : IntKind.i64.wrap (sumL (q.L.drop k) + xs) = sumL (q.L.drop k) + xs := IntWalk.i64_in _ (by omega)
        generalize hsd : sumL (q.L.drop k) = sd at *
        have HSD := Lib.hid hsd
        clear hg hsh hq1 he1 hpv1 hbr hlen hm1 hf1 hL1 hsd
        by_cases hf : full q y (q.L.drop k) = true
        · have HF := Lib.hid hf
          have HGO := Lib.hid (sh_go (full q y) H00.out (q.L.drop k) hf)
          have hne := HGO.out.1
          have hkl : k < q.L.length := by
            rcases Nat.lt_or_ge k q.L.length with h | h
            · exact h
            · exact absurd (List.drop_eq_nil_of_le h) hne
          rw [HFU.out] at hf
          have HNE := Lib.hid hne
          clear hne
          by_cases hd : ((q.L.length - k : Nat) : Int) = q.frames
          · have hd1 : decide (((q.L.length - k : Nat) : Int) = q.frames) = true := decide_eq_true hd
            have hd2 : (((q.L.length - k : Nat) : Int) == q.frames) = true := by simpa using hd
            clear hd hf
            go_wp2_with fail
            go_quiet (fail)
            have hg5 := HG9.out nq
            have hq5 := HQ9.out nq
            clear HG9 HQ9 HBR c0 c1 c2 c3 x1 hd1 hd2 
            generalize wr.drewN nq = w5 at *
            go_wp2_with fail
            refine (drop p pv1 (qk q k) w5 hq5 HNE.out).mono ?_
            rintro e w2 ⟨u, rfl, hg2⟩
            have hdl := dropN_le (q.L.drop k) HNE.out
            have hdn := dropN_pos (q.L.drop k)
            rw [List.length_drop] at hdl
            have HG2 : Hid (Gone w5 w2 p pv1 (qk q (k + dropN (q.L.drop k))) u ((q.L.drop k).take (dropN (q.L.drop k)))) := Lib.hid (by rw [← qk_drop q k hkl]; exact hg2)
            have HA1 := Lib.hid (hg5.still HE1.out hg2 HP.out HPV.out)
            have HA2 := Lib.hid (HG2.out.fr.own.sub 0 (fun _ _ => Nat.zero_le _))
            have hll : Hid ((q.L.take k).length + ((q.L.drop k).take (dropN (q.L.drop k))).length ≤ 1048576) := Lib.hid (by simp only [List.length_take, List.length_drop]; omega)
            have HG5 := Lib.hid hg5
            clear hg2 hg5 hq5
            go_wp2_with (at_builtin; refine wpList_append_sub (E := IE) Try.underlying97 infoP rfl (by decide) (by decide) rfl _ _ rfl _ (q.L.take k) _ rfl HA1.out _ rfl 0 HA2.out hll.out ?_; intro v3 w3 hown3 hgrow3 hat3)
            have hG3 := HG5.out.grow HE1.out HG2.out HP.out HPV.out hown3 hgrow3 hat3
            rw [take_more] at hG3 hown3
            obtain ⟨a3, c3, hv3, _⟩ := hown3.form
            rw [show (q.L.take (k + dropN (q.L.drop k))).length = k + dropN (q.L.drop k) by rw [List.length_take]; omega] at hv3
            have HE := Lib.hid hG3
            have HGO2 := HGO.out.2
            rw [List.drop_drop] at HGO2
            have HS2 : Hid (k + dropN (q.L.drop k) + sh (full q y) (q.L.drop (k + dropN (q.L.drop k))) = putK q y) := Lib.hid (by have := HSH.out; omega)
            clear hown3 hgrow3 hat3 hG3 HGO2 HA1 HA2 hll HGO HSH HG2 HG5
            generalize dropN (q.L.drop k) = d at *
            subst hv3
            go_roundw
            case rel => exact ⟨k + d, by omega, HS2.out, ⟨_, _, rfl⟩, HE.out⟩
            case measure => show q.L.length - (k + d) < q.L.length - k; omega
          · have hd1 : decide (((q.L.length - k : Nat) : Int) = q.frames) = false := decide_eq_false hd
            have hd2 : (((q.L.length - k : Nat) : Int) == q.frames) = false := beq_false_of_ne hd
            rw [hd1, Bool.false_or] at hf
            clear hd
            go_wp2_with fail
            go_quiet (fail)
            have hg5 := HG9.out nq
            have hq5 := HQ9.out nq
            clear HG9 HQ9 HBR c0 c1 c2 c3 x1 hd1 hd2 hf
            generalize wr.drewN nq = w5 at *
            go_wp2_with fail
            refine (drop p pv1 (qk q k) w5 hq5 HNE.out).mono ?_
            rintro e w2 ⟨u, rfl, hg2⟩
            have hdl := dropN_le (q.L.drop k) HNE.out
            have hdn := dropN_pos (q.L.drop k)
            rw [List.length_drop] at hdl
            have HG2 : Hid (Gone w5 w2 p pv1 (qk q (k + dropN (q.L.drop k))) u ((q.L.drop k).take (dropN (q.L.drop k)))) := Lib.hid (by rw [← qk_drop q k hkl]; exact hg2)
            have HA1 := Lib.hid (hg5.still HE1.out hg2 HP.out HPV.out)
            have HA2 := Lib.hid (HG2.out.fr.own.sub 0 (fun _ _ => Nat.zero_le _))
            have hll : Hid ((q.L.take k).length + ((q.L.drop k).take (dropN (q.L.drop k))).length ≤ 1048576) := Lib.hid (by simp only [List.length_take, List.length_drop]; omega)
            have HG5 := Lib.hid hg5
            clear hg2 hg5 hq5
            go_wp2_with (at_builtin; refine wpList_append_sub (E := IE) Try.underlying97 infoP rfl (by decide) (by decide) rfl _ _ rfl _ (q.L.take k) _ rfl HA1.out _ rfl 0 HA2.out hll.out ?_; intro v3 w3 hown3 hgrow3 hat3)
            have hG3 := HG5.out.grow HE1.out HG2.out HP.out HPV.out hown3 hgrow3 hat3
            rw [take_more] at hG3 hown3
            obtain ⟨a3, c3, hv3, _⟩ := hown3.form
            rw [show (q.L.take (k + dropN (q.L.drop k))).length = k + dropN (q.L.drop k) by rw [List.length_take]; omega] at hv3
            have HE := Lib.hid hG3
            have HGO2 := HGO.out.2
            rw [List.drop_drop] at HGO2
            have HS2 : Hid (k + dropN (q.L.drop k) + sh (full q y) (q.L.drop (k + dropN (q.L.drop k))) = putK q y) := Lib.hid (by have := HSH.out; omega)
            clear hown3 hgrow3 hat3 hG3 HGO2 HA1 HA2 hll HGO HSH HG2 HG5
            generalize dropN (q.L.drop k) = d at *
            subst hv3
            go_roundw
            case rel => exact ⟨k + d, by omega, HS2.out, ⟨_, _, rfl⟩, HE.out⟩
            case measure => show q.L.length - (k + d) < q.L.length - k; omega
        · have hf : full q y (q.L.drop k) = false := by simpa using hf
          have HF := Lib.hid hf
          rw [HFU.out] at hf
          simp only [Bool.or_eq_false_iff] at hf
          obtain ⟨hd1, hd3⟩ := hf
          have hd2 : (((q.L.length - k : Nat) : Int) == q.frames) = false := beq_false_of_ne (by simpa using hd1)
          go_wp2_with fail
          go_quiet (fail)
          have hg5 := HG9.out nq
          have hq5 := HQ9.out nq
          have hb5 := HBR.out nq
          have HK : Hid (putK q y = k) := Lib.hid (by have := HSH.out; rw [sh_end _ _ HF.out] at this; omega)
          clear HG9 HQ9 HBR c0 c1 c2 c3 x0 x1 x2 x3 hd1 hd2 hd3 hw HFU
          generalize wr.drewN nq = w5 at *
          obtain ⟨⟨x0, x1, x2, x3⟩, _⟩ := four hb5
          have HG5 := Lib.hid hg5
          have HQ5 := Lib.hid hq5
          have HB5 := Lib.hid hb5
          clear hg5 hq5 hb5
          go_wp2_with fail
          refine (refuses p pv1 (qk q k) ⟨xn, xs, xt, xk⟩ w5 HQ5.out).mono ?_
          rintro e w6 ⟨rfl, n6⟩
          have HG6 := Lib.hid (HG5.out.later n6)
          have HQ6 := Lib.hid (HQ5.out.later n6)
          have hb6 := n6.blk HB5.out (fun h => h)
          have HB6 := Lib.hid hb6
          clear HG5 HQ5 HB5 n6 x0 x1 x2 x3
          obtain ⟨⟨x0, x1, x2, x3⟩, _⟩ := four hb6
          clear hb6
          have HBK : Hid ((putB q y && !y.key) = ((qk q k).broken && !xk)) := Lib.hid (by unfold putB qk; rw [HK.out, HY1.out.2])
          by_cases hB : ((qk q k).broken && !xk) = true
          · dsimp only
            rw [hB]
            have HE : Hid (PutPost w w6 p pv (putQ q y) (.slice ao7 k c7) (putD q y) ∧ putOk q y = false) := Lib.hid (by
              rw [hB] at HBK
              have e1 : putQ q y = qk q k := by
                unfold putQ
                rw [HB.out, if_neg (by simp), HBK.out, if_pos rfl]
                unfold putB qk
                rw [HK.out]
              have e2 : putD q y = q.L.take k := by unfold putD; rw [HB.out, if_neg (by simp), HK.out]
              have e3 : putOk q y = false := by unfold putOk; rw [HBK.out]; simp
              obtain ⟨pv2, hq2, he2⟩ := HG6.out.qs
              rw [e1, e2]
              exact ⟨⟨⟨HG6.out.fr.own, fun g hg => Nat.le_trans HNX.out.size (HG6.out.fr.vb g hg)⟩, ⟨pv2, hq2, .inl he2⟩, (HNX.out.mono (fun _ _ h => h.elim)).trans (HG6.out.turns.mono (fun _ _ h => .inl h))⟩, e3⟩)
            clear hB x0 x1 x2 x3
            go_wp2
            go_ret2
            rw [← HY.out]
            exact ⟨.slice ao7 k c7, by rw [HE.out.2]; rfl, HE.out.1⟩
          · have hB : ((qk q k).broken && !xk) = false := by simpa using hB
            dsimp only
            rw [hB]
            rw [hB] at HBK
            have HVA : Hid (∀ g, (Value.slice ao7 k c7).ownBlock = some g → g ≠ p ∧ pv1.ownBlock ≠ some g) := Lib.hid (fun g hg => by
              have := HG6.out.apart HP.out HPV.out g hg
              exact ⟨this.1, by rw [HE1.out]; exact this.2⟩)
            have HPB1 : Hid (pb ≠ p ∧ ∀ g, pv1.ownBlock = some g → pb ≠ g) := Lib.hid ⟨HPBX.out.1, fun g hg => HPBX.out.2 g (HE1.out ▸ hg)⟩
            have c2 := HQ6.out.blk.cell 2
            have f2 := HQ6.out.blk.free 2
            have hne := HQ6.out.ne
            have hpw := HQ6.out.lt
            have hown : w6.ownsRow 0 PT 4 pv1 (q.L.drop k).length (IE.all (q.L.drop k)) := HQ6.out.own
            rw [List.length_drop] at hown
            obtain ⟨i0, hi, hz0, hz1, hz2⟩ := infoOf infoP
            have hkm : q.L.length - k ≤ 1024 := by omega
            have hpv1 := HPV1.out
            subst hpv1
            clear hB
            go_wp2_with fail
            go_cut [] (fun wx => ∃ g cap, Plc w6 wx p pb (.slice ao (q.L.length - k) c) (.slice ao7 k c7) (qk q k) (q.L.take k) ⟨xn, xs, xt, xk⟩ g cap)
            case first =>
              go_region_law
                ((refine step_append_lies _ (by rfl) _ _ _ (by rfl) 0 PT i0 _ 4 32 Try.underlying97 hi hz0 hz1 hz2 rfl (by decide) (.slice ao (q.L.length - k) c) _ _ (by rfl) ((World.ownsRow.alloc hown _).drew)
                        ⟨w6.heap.size, 0, none⟩ 1 1 [.int .i64 xn, .int .i64 xs, .int .i64 xt, .bool xk] (by rfl) (by rfl) (World.news_of_block (cs := #[.int .i64 xn, .int .i64 xs, .int .i64 xt, .bool xk]) (t := PT) (fr := (0, 0)) (heap_alloc_new w6 _)) (by simp [Value.oneCell'])
                        (by omega) (by unfold maxLen; omega) (by omega) (Nat.zero_le _) (w6.heap.size + 1) (by simp) ?_; intro g cap w7 hown7 hgrow hat hlt7; have hc1 : w7.cell? ⟨p, 2, none⟩ = some (.slice ao (q.L.length - k) c) := (hgrow.cell_far ⟨p, 2, none⟩ (by simp; omega) (fun h => hne h.symm)).trans ((World.cell?_alloc_past _ _ _ hpw).trans c2); have hf1 : w7.frozen? ⟨p, 2, none⟩ = false := (hgrow.frozen_far ⟨p, 2, none⟩ (by simp; omega) (fun h => hne h.symm)).trans ((World.frozen?_alloc_past _ _ _ hpw).trans f2)))
              all_goals
                have M5 := Lib.hid (HQ6.out.placed HB6.out HPB1.out HG6.out.fr.own HVA.out (((Turns.refl (fun _ => False) w6).alloc _).drew) (q1 := qk q k) (x := ⟨xn, xs, xt, xk⟩) (g := g) (cap := cap) (by rw [show (qk q k).L.length = q.L.length - k from List.length_drop]; exact hown7) hgrow (by rcases hat with h | h; exact .inl h; exact .inr (by omega)))
                rw [show (qk q k).L.length = q.L.length - k from List.length_drop] at M5
                go_wp2_with fail
                go_meet
                case rel => exact ⟨_, _, M5.out⟩
            case rest =>
              obtain ⟨g, cap, hp⟩ := hcut
              have HPL := Lib.hid hp
              clear c2 f2 hne hpw hown hi hz0 hz1 hz2 x0 x1 x2 x3
              have e1 : putQ q y = ⟨q.frames, q.most, q.L.drop k ++ [y], false⟩ := by
                unfold putQ
                rw [HB.out, if_neg (by simp), HBK.out, if_neg (by simp), HK.out]
              have hok : Q.ok ⟨(qk q k).frames, (qk q k).most, (qk q k).L ++ [⟨xn, xs, xt, xk⟩], false⟩ := by
                have := putQ_ok HQ.out.ok (x := y)
                rw [e1, HY.out] at this
                exact this
              have e2 : putD q y = q.L.take k := by unfold putD; rw [HB.out, if_neg (by simp), HK.out]
              have e3 : putOk q y = true := by unfold putOk; rw [HB.out, HBK.out]; rfl
              have HE := Lib.hid (And.intro e1 (And.intro e2 (And.intro e3 hok)))
              have c3 := hp.blk.cell 3
              have f3 := hp.blk.free 3
              have c4 := hp.blk.cell 4
              have f4 := hp.blk.free 4
              have x1 : wc.cell? ⟨pb, 1, none⟩ = some (.int .i64 xs) := hp.box.cell 1
              have hSD := HSD.out
              rw [show (qk q k).L = q.L.drop k from rfl, hSD] at c3
              have d3 : ¬ q.most < sd + xs := by
                have := HF.out
                unfold full at this
                rw [HY1.out.1, hSD] at this
                simp at this
                omega
              have b1 : sd + xs ≤ 16777216 := by omega
              have hpl := hp.blk.lt
              clear hp e1 e2 e3 hok hSD d3
              go_wp2_with fail
              go_region
              all_goals
                go_wp2
                go_ret2
                have hfin := HPL.out.fin (((Turns.refl (· = p) _).setCell (p := ⟨p, 3, none⟩) (.inl rfl) (.int .i64 (sd + xs))).drew.setCell (p := ⟨p, 4, none⟩) (.inl rfl) (.bool false)) (by
                  have h := (HPL.out.blk.set 3 (.int .i64 (sd + xs))).drew.set 4 (.bool false)
                  rw [show (qk q k).L = q.L.drop k from rfl, HSD.out]
                  exact h) HE.out.2.2.2
                rw [← HY.out]
                refine ⟨.slice ao7 k c7, by rw [HE.out.2.2.1]; rfl, ⟨⟨by rw [HE.out.2.1]; exact hfin.1, fun g hg => Nat.le_trans HNX.out.size (HG6.out.fr.vb g hg)⟩, ⟨_, by rw [HE.out.1, HY.out]; exact hfin.2.1, ?_⟩, ?_⟩⟩
                · rcases HPL.out.loc with e | e
                  · left; show some g = pv.ownBlock; rw [← HE1.out, e]
                  · right; exact ⟨g, rfl, by have := HNX.out.size; have := HG6.out.turns.size; omega⟩
                · exact (HNX.out.mono (fun _ _ h => h.elim)).trans ((HG6.out.turns.trans (hfin.2.2.mono (fun i _ hi => .inl (by rcases hi with hi | hi; exact .inl hi; exact .inr (HE1.out ▸ hi))))).mono (fun _ _ h => .inl h))
end Go.Proofs.Ytcppibjllaablaa.que
