/-
  The reference of layer 9: Put.
-/
import Derived.Test.YtfgfejcnkjeghaaReoWith
namespace Go.Proofs.Ytfgfejcnkjeghaa.reo
open Go.RowKit mem
set_option linter.unusedVariables false

/-- what Put, Tick hand back -/
structure RQ (w w' : World) (v' : Value) (b' : B) (vo : Value) (o : List Th) : Prop where
  rs : RS w' v' b'.L
  out : Gr TE RT w w' vo o
theorem RQ.puts_ {w w1 : World} {v' vo : Value} {b' : B} {o : List Th} {pr : Nat} {zs : List Value} (h : RQ w w1 v' b' vo o) (hb : Blk w1 pr zrL.toArray XT) (hp : w.heap.size ≤ pr) (hl : zs.length = 6) : Blk (puts w1 pr 0 zs) pr zs.toArray XT ∧ RQ w (puts w1 pr 0 zs) v' b' vo o := by
  have t1 : Turns (· = pr) w1 (puts w1 pr 0 zs) := puts_turns (S := (· = pr)) (.inl rfl) _ 0 _ (Turns.refl _ _)
  exact ⟨puts_blk zrL _ hb hl, h.rs.turns t1 (fun g hg e => h.rs.off hb (by decide) (by rw [hg, e])), ⟨h.out.own.turns t1 (fun g hg e => own_ne h.out.own hb (by decide) (by rw [hg, e])), h.out.vb, h.out.n.trans (t1.mono (fun i _ hi => .inr (by rw [hi]; exact hp)))⟩⟩

/-- in a loop of the reference's Skips -/
structure RLp (c : B → Bool) (M : Int) (w : World) (bnd p9 pr : Nat) (B0 : B) (O0 : List Th) (wr : World) (b : B) (v vo : Value) (o : List Th) : Prop where
  box : Blk wr p9 (rL b v).toArray XT
  rbx : Blk wr pr zrL.toArray XT
  rs : RS wr v b.L
  out : Gr TE RT w wr vo o
  vlt : ∀ g, v.ownBlock = some g → g < bnd
  vge : ∀ g, vo.ownBlock = some g → bnd ≤ g
  p9ge : w.heap.size ≤ p9
  prge : w.heap.size ≤ pr
  pne : p9 ≠ pr
  bl : bnd ≤ wr.heap.size
  ok : b.ok M
  eB : lpB c b = B0
  eO : o ++ lpO c b = O0
  len : o.length + b.L.length ≤ 2000
section
variable {c : B → Bool} {M : Int} {w : World} {bnd p9 pr : Nat} {B0 : B} {O0 : List Th} {wr w2 w3 w4 : World} {b : B} {v v2 vo vo2 vm : Value} {o : List Th}
theorem RLp.later (h : RLp c M w bnd p9 pr B0 O0 wr b v vo o) (n : New wr w2) : RLp c M w bnd p9 pr B0 O0 w2 b v vo o :=
  ⟨n.blk h.box (fun h => h), n.blk h.rbx (fun h => h), h.rs.later n, h.out.later n, h.vlt, h.vge, h.p9ge, h.prge, h.pne, Nat.le_trans h.bl n.size, h.ok, h.eB, h.eO, h.len⟩
theorem RLp.stop (h : RLp c M w bnd p9 pr B0 O0 wr b v vo o) (hb : c b = false) : b = B0 ∧ o = O0 ∧ RQ w wr v B0 vo O0 := by
  obtain ⟨e1, e2⟩ := lp_stop hb
  have h1 := h.eB
  have h2 := h.eO
  rw [e1] at h1
  rw [e2, List.append_nil] at h2
  exact ⟨h1, h2, by rw [← h1]; exact h.rs, by rw [← h2]; exact h.out⟩
theorem RLp.at_ (h : RLp c M w bnd p9 pr B0 O0 wr b v vo o) : rlenAt wr p9 = b.L.length := by
  obtain ⟨ao, n, k, hv, hn, _⟩ := h.rs.form
  unfold rlenAt
  rw [(six h.box).2.2.2.2.1, hv, ← hn]
/-- a Skip, its box stored into this one, what went out appended -/
theorem RLp.step {ob : Obj} (h : RLp c M w bnd p9 pr B0 O0 wr b v vo o) (hc : Few c) (hb : c b = true) (hs : RP wr w2 v v2 (skip b) vm (skipO b))
    (ho : Owns TE RT w4 vo2 (o ++ skipO b)) (hg : (puts (w2.alloc ob) p9 0 (rL (skip b) v2)).grownBy w4 vo.ownBlock) (ha : vo2.ownBlock = vo.ownBlock ∨ vo2.ownBlock = some (puts (w2.alloc ob) p9 0 (rL (skip b) v2)).heap.size) :
    RLp c M w bnd p9 pr B0 O0 w4 (skip b) v2 vo2 (o ++ skipO b) := by
  have j := h.later (hs.out.n.trans ((Turns.refl (fun _ => False) w2).alloc ob |>.mono (fun _ _ h => h.elim)))
  have t1 : Turns (· = p9) (w2.alloc ob) (puts (w2.alloc ob) p9 0 (rL (skip b) v2)) := puts_turns (S := (· = p9)) (.inl rfl) _ 0 _ (Turns.refl _ _)
  have b1 := puts_blk (rL b v) (rL (skip b) v2) j.box rfl
  have r1 := t1.blk j.rbx (fun e => j.pne e.symm)
  have o1 : Owns TE RT (puts (w2.alloc ob) p9 0 (rL (skip b) v2)) vo o := j.out.own.turns t1 (fun g hg e => own_ne j.out.own j.box (by decide) (by rw [hg, e]))
  have hv2 : ∀ g, v2.ownBlock = some g → g < bnd := fun g hg => h.vlt g (by rw [← hs.own]; exact hg)
  have s1 := (hs.rs.later ((Turns.refl (fun _ => False) w2).alloc ob)).turns t1 (fun g hg e => (hs.rs.later ((Turns.refl (fun _ => False) w2).alloc ob)).off j.box (by decide) (by rw [hg, e]))
  have t2 : Turns (fun k => some k = vo.ownBlock) (puts (w2.alloc ob) p9 0 (rL (skip b) v2)) w4 := Turns.of_grown hg
  have n1 : New w (puts (w2.alloc ob) p9 0 (rL (skip b) v2)) := j.out.n.trans (t1.mono (fun i _ hi => .inr (by rw [hi]; exact h.p9ge)))
  have n2 : New w w4 := n1.trans (t2.mono (fun k _ hk => .inr (h.out.vb k hk.symm)))
  obtain ⟨e1, e2⟩ := lp_step hc hb
  refine ⟨t2.blk b1 (fun e => own_ne o1 b1 (by decide) e.symm), t2.blk r1 (fun e => own_ne o1 r1 (by decide) e.symm), s1.turns t2 (fun g hg e => by have := hv2 g hg; have := h.vge g e.symm; omega), ⟨ho, fun g hg => ?_, n2⟩, hv2, fun g hg => ?_, h.p9ge, h.prge, h.pne, Nat.le_trans j.bl (Nat.le_trans t1.size t2.size), skip_ok h.ok, by rw [← e1]; exact h.eB, by rw [List.append_assoc, ← e2]; exact h.eO, by have := h.len; have := skip_split b; rw [List.length_append]; omega⟩
  · rcases ha with e | e
    · exact h.out.vb g (by rw [← e]; exact hg)
    · rw [e] at hg; injection hg with hg; have := n1.size; omega
  · rcases ha with e | e
    · exact h.vge g (by rw [← e]; exact hg)
    · rw [e] at hg; injection hg with hg; have := j.bl; have := t1.size; omega
end

set_option maxRecDepth 10000 in
set_option maxHeartbeats 8000000 in
theorem rput (v : Value) (b : B) (x : Th) (M : Int) (w : World) (h : RS w v b.L) (ho : b.ok M) (hf : Fresh b) (hM : M ≤ 1099511627776) (hl : b.L.length ≤ 1024) (hx0 : 0 ≤ x.at_) (hx1 : x.at_ ≤ M) (ht0 : 0 ≤ x.tick) (ht1 : x.tick ≤ 1099511627776) :
    Calls Try.prog 20 #[.agg (rL b v).toArray, .agg #[.int .i64 x.at_, .string x.tx, .int .i64 x.tick]] w fun e w' => ∃ v' vo, e = .returned (.tuple #[.agg (rL (putB b x) v').toArray, vo, .int .i64 (putE b x)]) ∧ RQ w w' v' (putB b x) vo (putO b x) := by
  have HOK := Lib.hid (And.intro ho hf)
  have HRS := Lib.hid h
  obtain ⟨ao, n, c, hv, hn, hnc, hcm⟩ := h.form
  have HLN := Lib.hid hn
  have hn' : n ≤ 1024 := by omega
  have hnm : n ≤ 9223372036854775807 := by omega
  clear h ho hf hn hnc hcm
  subst hv
  have HN1 : Hid (New w (((w.alloc (.cells #[.int .i64 b.most, .int .i64 b.wait, .bool b.begun, .int .i64 b.next, .slice ao n c, .int .i64 b.lost] XT)).alloc (.cells #[.int .i64 x.at_, .string x.tx, .int .i64 x.tick] RT)).alloc (.cells zrL.toArray XT))) := Lib.hid ((((Turns.refl _ _).alloc _).alloc _).alloc _)
  have hb1 : Blk (((w.alloc (.cells #[.int .i64 b.most, .int .i64 b.wait, .bool b.begun, .int .i64 b.next, .slice ao n c, .int .i64 b.lost] XT)).alloc (.cells #[.int .i64 x.at_, .string x.tx, .int .i64 x.tick] RT)).alloc (.cells zrL.toArray XT)) w.heap.size (rL b (.slice ao n c)).toArray XT := ((Blk.new _ _ _).alloc _).alloc _
  have hx3 : Blk (((w.alloc (.cells #[.int .i64 b.most, .int .i64 b.wait, .bool b.begun, .int .i64 b.next, .slice ao n c, .int .i64 b.lost] XT)).alloc (.cells #[.int .i64 x.at_, .string x.tx, .int .i64 x.tick] RT)).alloc (.cells zrL.toArray XT)) (w.heap.size + 1) #[.int .i64 x.at_, .string x.tx, .int .i64 x.tick] RT := (Blk.new' _ _ _ _ (by simp)).alloc _
  have hr3 : Blk (((w.alloc (.cells #[.int .i64 b.most, .int .i64 b.wait, .bool b.begun, .int .i64 b.next, .slice ao n c, .int .i64 b.lost] XT)).alloc (.cells #[.int .i64 x.at_, .string x.tx, .int .i64 x.tick] RT)).alloc (.cells zrL.toArray XT)) (w.heap.size + 1 + 1) zrL.toArray XT := Blk.new' _ _ _ _ (by simp)
  have HPB : Hid (w.heap.size ≤ w.heap.size ∧ w.heap.size ≤ w.heap.size + 1 ∧ w.heap.size ≤ w.heap.size + 1 + 1 ∧ w.heap.size ≠ w.heap.size + 1 ∧ w.heap.size ≠ w.heap.size + 1 + 1 ∧ w.heap.size + 1 ≠ w.heap.size + 1 + 1) := Lib.hid (by omega)
  have HB1 := Lib.hid hb1
  have HX3 := Lib.hid hx3
  have HR3 := Lib.hid hr3
  clear hb1 hx3 hr3
  unfold rL
  go_enter Try.func20, Try.ntmps20
  go_upto_if 15 with fail
  refine (show Code.wp _ _ _ _ (((w.alloc (.cells #[.int .i64 b.most, .int .i64 b.wait, .bool b.begun, .int .i64 b.next, .slice ao n c, .int .i64 b.lost] XT)).alloc (.cells #[.int .i64 x.at_, .string x.tx, .int .i64 x.tick] RT)).alloc (.cells zrL.toArray XT)) from ?_)
  generalize (((w.alloc (.cells #[.int .i64 b.most, .int .i64 b.wait, .bool b.begun, .int .i64 b.next, .slice ao n c, .int .i64 b.lost] XT)).alloc (.cells #[.int .i64 x.at_, .string x.tx, .int .i64 x.tick] RT)).alloc (.cells zrL.toArray XT)) = w1 at *
  obtain ⟨pb, hpb⟩ : ∃ pb, pb = w.heap.size := ⟨_, rfl⟩
  have HPE := Lib.hid hpb
  rw [← hpb] at HB1 HX3 HR3 HPB
  rw [← hpb]
  clear hpb
  generalize pb + 1 + 1 = pr at *
  generalize pb + 1 = px at *
  obtain ⟨hp1, hp2, hp3, hp4, hp5, hp6⟩ := HPB.out
  obtain ⟨b0, b1, b2, b3, b4, b5, e0, e1, e2, e3, e4, e5⟩ := six HB1.out
  have x0 : w1.cell? ⟨px, 0, none⟩ = some (.int .i64 x.at_) := HX3.out.cell 0
  generalize (Value.agg #[.int .i64 b.most, .int .i64 b.wait, .bool b.begun, .int .i64 b.next, .slice ao n c, .int .i64 b.lost]) = arg0 at *
  go_cut [] (fun wx => Blk wx pb (rL (begin_ b x) (.slice ao n c)).toArray XT ∧ Blk wx px #[.int .i64 x.at_, .string x.tx, .int .i64 x.tick] RT ∧ Blk wx pr zrL.toArray XT ∧ New w wx)
  case first =>
    rcases Bool.eq_false_or_eq_true b.begun with hb | hb
    rotate_left
    · have H1 : Hid (Blk ((w1.setCell ⟨pb, 2, none⟩ (.bool true)).setCell ⟨pb, 3, none⟩ (.int .i64 x.at_)) pb (rL (begin_ b x) (.slice ao n c)).toArray XT ∧ Blk ((w1.setCell ⟨pb, 2, none⟩ (.bool true)).setCell ⟨pb, 3, none⟩ (.int .i64 x.at_)) px #[.int .i64 x.at_, .string x.tx, .int .i64 x.tick] RT ∧ Blk ((w1.setCell ⟨pb, 2, none⟩ (.bool true)).setCell ⟨pb, 3, none⟩ (.int .i64 x.at_)) pr zrL.toArray XT ∧ New w ((w1.setCell ⟨pb, 2, none⟩ (.bool true)).setCell ⟨pb, 3, none⟩ (.int .i64 x.at_))) := Lib.hid
        ⟨by
          have k := (HB1.out.set 2 (.bool true)).set 3 (.int .i64 x.at_)
          rw [List.setIfInBounds_toArray, List.setIfInBounds_toArray] at k
          have e : ((rL b (.slice ao n c)).set 2 (.bool true)).set 3 (.int .i64 x.at_) = rL (begin_ b x) (.slice ao n c) := by unfold begin_; rw [hb]; rfl
          rw [e] at k
          exact k, (HX3.out.setOther (a := ⟨pb, 2, none⟩) hp4 _).setOther (a := ⟨pb, 3, none⟩) hp4 _, (HR3.out.setOther (a := ⟨pb, 2, none⟩) hp5 _).setOther (a := ⟨pb, 3, none⟩) hp5 _, ((HN1.out).setCell (p := ⟨pb, 2, none⟩) (.inr (by rw [← HPE.out]; exact hp1)) _).setCell (p := ⟨pb, 3, none⟩) (.inr (by rw [← HPE.out]; exact hp1)) _⟩
      rw [hb] at b2 ⊢
      clear hb
      go_wp2_with fail
      go_meet
      case rel => exact H1.out
    · have H1 : Hid (begin_ b x = b) := Lib.hid (by unfold begin_; rw [hb]; rfl)
      rw [hb] at b2 ⊢
      clear hb
      go_wp2_with fail
      go_meet
      case rel => exact ⟨by rw [H1.out]; exact HB1.out, HX3.out, HR3.out, HN1.out⟩
  case rest =>
    obtain ⟨hB, hX, hR, hN⟩ := hcut
    obtain ⟨bb, hbb⟩ : ∃ bb, bb = begin_ b x := ⟨_, rfl⟩
    have HBB := Lib.hid hbb
    have HBL : Hid (bb.L = b.L) := Lib.hid (by rw [hbb, begin_L])
    rw [← hbb] at hB
    clear b0 b1 b2 b3 b4 b5 e0 e1 e2 e3 e4 e5 x0 HB1 HX3 HR3 HN1 HPB hbb
    have HB2 := Lib.hid hB
    have HX2 := Lib.hid hX
    have HR2 := Lib.hid hR
    have HN2 := Lib.hid hN
    obtain ⟨b0, b1, b2, b3, b4, b5, e0, e1, e2, e3, e4, e5⟩ := six hB
    obtain ⟨r0, r1, r2, r3, r4, r5, y0, y1, y2, y3, y4, y5⟩ := six hR
    have x0 : wc.cell? ⟨px, 0, none⟩ = some (.int .i64 x.at_) := hX.cell 0
    have x1 : wc.cell? ⟨px, 1, none⟩ = some (.string x.tx) := hX.cell 1
    have x2 : wc.cell? ⟨px, 2, none⟩ = some (.int .i64 x.tick) := hX.cell 2
    have hlb := hB.lt
    have hlx := hX.lt
    have hlr := hR.lt
    have hp5' := hp5.symm
    have HRS2 := Lib.hid (HRS.out.later hN)
    clear hB hX hR hN
    by_cases hlt : x.at_ < bb.next
    · have HE : Hid (putE b x = 13 ∧ putB b x = bb ∧ putO b x = []) := Lib.hid (by
        have e : putE b x = 13 := by unfold putE; rw [← HBB.out, if_pos hlt]
        exact ⟨e, by unfold putB; rw [e, ← HBB.out]; rfl, by unfold putO; rw [e]; rfl⟩)
      have d1 : decide (x.at_ < bb.next) = true := decide_eq_true hlt
      have HF := Lib.hid (RQ.puts_ (v' := .slice ao n c) (b' := bb) (vo := .slice none 0 0) (o := []) (zs := [.int .i64 bb.most, .int .i64 bb.wait, .bool bb.begun, .int .i64 bb.next, .slice ao n c, .int .i64 bb.lost]) ⟨by rw [HBL.out]; exact HRS2.out, Gr.nil _ _ _ _ HN2.out⟩ HR2.out (by rw [← HPE.out]; exact hp3) rfl)
      clear hlt
      go_wp2_with fail
      refine (show bodyPost _ _ _ _ _ (puts wc pr 0 [.int .i64 bb.most, .int .i64 bb.wait, .bool bb.begun, .int .i64 bb.next, .slice ao n c, .int .i64 bb.lost]) from ?_)
      have hff := HF.out
      generalize puts wc pr 0 [.int .i64 bb.most, .int .i64 bb.wait, .bool bb.begun, .int .i64 bb.next, .slice ao n c, .int .i64 bb.lost] = w9 at *
      obtain ⟨g0, g1, g2, g3, g4, g5, gg⟩ := six hff.1
      clear gg
      refine bodyPost_ret (v := .tuple #[.agg #[.int .i64 bb.most, .int .i64 bb.wait, .bool bb.begun, .int .i64 bb.next, .slice ao n c, .int .i64 bb.lost], .slice none 0 0, .int .i64 13]) (by simp [results, Try.results20, go_sem, g0, g1, g2, g3, g4, g5]) rfl ?_
      exact ⟨_, _, (by rw [HE.out.1, HE.out.2.1]), (by rw [HE.out.2.1, HE.out.2.2]; exact hff.2)⟩
    · have d1 : decide (x.at_ < bb.next) = false := decide_eq_false hlt
      have HLT := Lib.hid hlt
      clear hlt
      go_wp2_with fail
      go_loopw [29] (fun i wx => ∃ k : Nat, k ≤ n ∧ i = .int .i64 k ∧ New wc wx ∧ (∀ (j : Nat) (y : Th), j < k → b.L[j]? = some y → y.at_ ≠ x.at_)) (fun i _ => n - (intOf i).toNat)
      case atStart => exact ⟨0, by omega, rfl, Turns.refl _ _, fun j y hj _ => by omega⟩
      case round =>
        obtain ⟨k, hk, rfl, hn, hdif⟩ := hrel
        have HN3 := Lib.hid hn
        have HDF := Lib.hid hdif
        clear b0 b1 b2 b3 b4 b5 e0 e1 e2 e3 e4 e5 x0 x1 x2 r0 r1 r2 r3 r4 r5 y0 y1 y2 y3 y4 y5 hlb hlx hlr
        have hB := hn.blk HB2.out (fun h => h)
        have hX := hn.blk HX2.out (fun h => h)
        have hR := hn.blk HR2.out (fun h => h)
        obtain ⟨b0, b1, b2, b3, b4, b5, e0, e1, e2, e3, e4, e5⟩ := six hB
        obtain ⟨r0, r1, r2, r3, r4, r5, y0, y1, y2, y3, y4, y5⟩ := six hR
        have x0 : wr.cell? ⟨px, 0, none⟩ = some (.int .i64 x.at_) := hX.cell 0
        have x1 : wr.cell? ⟨px, 1, none⟩ = some (.string x.tx) := hX.cell 1
        have x2 : wr.cell? ⟨px, 2, none⟩ = some (.int .i64 x.tick) := hX.cell 2
        have hlb := hB.lt
        have hlx := hX.lt
        have hlr := hR.lt
        have HB3 := Lib.hid hB
        have HR3 := Lib.hid hR
        have HRS3 := Lib.hid (HRS2.out.later hn)
        clear hB hX hR hdif
        by_cases hkn : k < n
        · obtain ⟨y, hy⟩ : ∃ y, b.L[k]? = some y := ⟨_, List.getElem?_eq_getElem (by have := HLN.out; omega)⟩
          have HY := Lib.hid hy
          have hs := HRS3.out.sub
          rcases hs with ⟨q, h0⟩ | hs
          · rw [h0] at hy; simp at hy
          obtain ⟨g, o, c', hv, q1, q2, q3, hgl, hcell⟩ := hs.cell
          injection hv with i1 i2 i3
          subst i1 i3
          clear i2 q1 q2 q3 hs
          have z0 := hcell k y hy 0 _ rfl
          have z1 := hcell k y hy 1 _ rfl
          have z2 := hcell k y hy 2 _ rfl
          obtain ⟨ya, yt, yk⟩ := y
          change wr.cell? ⟨g, o + k * 3, none⟩ = some (.int .i64 ya) at z0
          change wr.cell? ⟨g, o + k * 3 + 1, none⟩ = some (.string yt) at z1
          change wr.cell? ⟨g, o + k * 3 + 2, none⟩ = some (.int .i64 yk) at z2
          have hltI : (k : Int) < (n : Int) := by omega
          have dlt : decide ((k : Int) < (n : Int)) = true := decide_eq_true hltI
          have N4 : Hid (New wc (wr.alloc (.cells #[.int .i64 ya, .string yt, .int .i64 yk] RT))) := Lib.hid (HN3.out.alloc _)
          clear hcell hy hn
          have hB4 := HB3.out.alloc (.cells #[.int .i64 ya, .string yt, .int .i64 yk] RT)
          have hR4 := HR3.out.alloc (.cells #[.int .i64 ya, .string yt, .int .i64 yk] RT)
          have hY4 : Blk (wr.alloc (.cells #[.int .i64 ya, .string yt, .int .i64 yk] RT)) wr.heap.size #[.int .i64 ya, .string yt, .int .i64 yk] RT := Blk.new _ _ _
          have hX4 : (wr.alloc (.cells #[.int .i64 ya, .string yt, .int .i64 yk] RT)).cell? ⟨px, 0, none⟩ = some (.int .i64 x.at_) := (((Turns.refl (fun _ => False) wr).alloc _).cell (a := ⟨px, 0, none⟩) hlx (fun h => h)).trans x0
          have HS4 := Lib.hid (HRS3.out.later ((Turns.refl (fun _ => False) wr).alloc (.cells #[.int .i64 ya, .string yt, .int .i64 yk] RT)))
          go_upto_region 9 with fail
          refine (show Code.wp _ _ _ _ (wr.alloc (.cells #[.int .i64 ya, .string yt, .int .i64 yk] RT)) from ?_)
          generalize wr.alloc (.cells #[.int .i64 ya, .string yt, .int .i64 yk] RT) = w4 at *
          generalize wr.heap.size = py at *
          clear b0 b1 b2 b3 b4 b5 e0 e1 e2 e3 e4 e5 x0 x1 x2 r0 r1 r2 r3 r4 r5 y0 y1 y2 y3 y4 y5 hlb hlx hlr z0 z1 z2 hgl
          obtain ⟨b0, b1, b2, b3, b4, b5, e0, e1, e2, e3, e4, e5⟩ := six hB4
          obtain ⟨r0, r1, r2, r3, r4, r5, y0, y1, y2, y3, y4, y5⟩ := six hR4
          have HR4 := Lib.hid hR4
          have yy0 : w4.cell? ⟨py, 0, none⟩ = some (.int .i64 ya) := hY4.cell 0
          clear hB4 hR4 hY4 e0 e1 e2 e3 e4 e5
          by_cases hya : ya = x.at_
          · have hyb : (ya == x.at_) = true := by simp [hya]
            have HE : Hid (putE b x = 14 ∧ putB b x = bb ∧ putO b x = []) := Lib.hid (by
              have hh : hasT b.L x.at_ = true := List.any_eq_true.2 ⟨_, List.mem_of_getElem? HY.out, by simp [hya]⟩
              have e : putE b x = 14 := by unfold putE; rw [← HBB.out, if_neg (by have := HLT.out; omega), hh]; rfl
              exact ⟨e, by unfold putB; rw [e, ← HBB.out]; rfl, by unfold putO; rw [e]; rfl⟩)
            have HF := Lib.hid (RQ.puts_ (w := w) (w1 := w4) (v' := .slice (some ⟨g, o, none⟩) n c) (b' := bb) (vo := .slice none 0 0) (o := []) (pr := pr) (zs := [.int .i64 bb.most, .int .i64 bb.wait, .bool bb.begun, .int .i64 bb.next, .slice (some ⟨g, o, none⟩) n c, .int .i64 bb.lost]) ⟨by rw [HBL.out]; exact HS4.out, Gr.nil _ _ _ _ (HN2.out.trans (N4.out.mono (fun _ _ h => h.elim)))⟩ HR4.out (by rw [← HPE.out]; exact hp3) rfl)
            clear hya
            go_wp2_with fail
            refine (show bodyPost _ _ _ _ _ (puts w4 pr 0 [.int .i64 bb.most, .int .i64 bb.wait, .bool bb.begun, .int .i64 bb.next, .slice (some ⟨g, o, none⟩) n c, .int .i64 bb.lost]) from ?_)
            have hff := HF.out
            generalize puts w4 pr 0 [.int .i64 bb.most, .int .i64 bb.wait, .bool bb.begun, .int .i64 bb.next, .slice (some ⟨g, o, none⟩) n c, .int .i64 bb.lost] = w9 at *
            obtain ⟨g0, g1, g2, g3, g4, g5, gg⟩ := six hff.1
            clear gg
            refine bodyPost_ret (v := .tuple #[.agg #[.int .i64 bb.most, .int .i64 bb.wait, .bool bb.begun, .int .i64 bb.next, .slice (some ⟨g, o, none⟩) n c, .int .i64 bb.lost], .slice none 0 0, .int .i64 14]) (by simp [results, Try.results20, go_sem, g0, g1, g2, g3, g4, g5]) rfl ?_
            exact ⟨_, _, (by rw [HE.out.1, HE.out.2.1]), (by rw [HE.out.2.1, HE.out.2.2]; exact hff.2)⟩
          · have hyb : (ya == x.at_) = false := by simp [hya]
            have HYA := Lib.hid hya
            clear hya
            go_wp2_with fail
            go_roundw
            case rel => exact ⟨k + 1, by omega, by go_num, N4.out, fun j y hj hy => by
              by_cases e : j = k
              · subst e
                rw [HY.out] at hy
                injection hy with hy
                rw [← hy]; exact HYA.out
              · exact HDF.out j y (by omega) hy⟩
            case measure => simp [intOf]; omega
        · obtain rfl : k = n := by omega
          have dlt : decide ((k : Int) < (k : Int)) = false := decide_eq_false (by omega)
          have HHF : Hid (hasT b.L x.at_ = false) := Lib.hid (by
            cases e : hasT b.L x.at_ with
            | false => rfl
            | true =>
              obtain ⟨y, hy, he⟩ := List.any_eq_true.1 e
              obtain ⟨j, hj⟩ := List.mem_iff_getElem?.1 hy
              exact absurd (by simpa using he) (HDF.out j y (by have := (List.getElem?_eq_some_iff.1 hj).1; have := HLN.out; omega) hj))
          have HWI := Lib.hid (rwith (.slice ao k c) b.L x wr HRS3.out (by omega))
          have N3W := Lib.hid (HN2.out.trans (hn.mono (fun _ _ h => h.elim)))
          clear hkn hn HDF
          have hok1 := put1_ok HOK.out.1 HOK.out.2 hl hx0 hx1 ht0 ht1 (by have := HLT.out; rw [HBB.out] at this; omega) HHF.out
          have HP1 : Hid (put1 b x = { bb with L := insT b.L x }) := Lib.hid (by unfold put1; rw [← HBB.out])
          have HOK1 := Lib.hid hok1
          have HE : Hid (putE b x = 0 ∧ putB b x = lpB overF (follow (put1 b x)) ∧ putO b x = followO (put1 b x) ++ lpO overF (follow (put1 b x))) := Lib.hid (by
            have e : putE b x = 0 := by unfold putE; rw [← HBB.out, if_neg (by have := HLT.out; omega), HHF.out]; rfl
            exact ⟨e, by unfold putB; rw [e]; rfl, by unfold putO; rw [e]; rfl⟩)
          clear hok1
          go_wp2_with fail
          refine HWI.out.mono ?_
          rintro e w5 ⟨u, rfl, g5⟩
          have b1' := g5.n.blk HB3.out (fun h => h)
          have r1' := g5.n.blk HR3.out (fun h => h)
          obtain ⟨au, nu, cu, hu, q1, q2, q3⟩ := (RS.of_owns g5.own).form
          clear q1 q2 q3
          subst hu
          have f4 := b1'.free 4
          have c4 : w5.cell? ⟨pb, 4, none⟩ = some (.slice ao k c) := b1'.cell 4
          have t6 : Turns (· = pb) w5 (w5.setCell ⟨pb, 4, none⟩ (.slice au nu cu)) := (Turns.refl (· = pb) _).setCell (.inl rfl) _
          have hb6 := b1'.set 4 (.slice au nu cu)
          have H6 : Hid (Blk (w5.setCell ⟨pb, 4, none⟩ (.slice au nu cu)) pb #[.int .i64 bb.most, .int .i64 bb.wait, .bool bb.begun, .int .i64 bb.next, .slice au nu cu, .int .i64 bb.lost] XT ∧ Blk (w5.setCell ⟨pb, 4, none⟩ (.slice au nu cu)) pr zrL.toArray XT ∧ RS (w5.setCell ⟨pb, 4, none⟩ (.slice au nu cu)) (.slice au nu cu) (insT b.L x) ∧ New w (w5.setCell ⟨pb, 4, none⟩ (.slice au nu cu))) := Lib.hid
            ⟨hb6, t6.blk r1' (fun e => hp5 e.symm), (RS.of_owns g5.own).turns t6 (fun g hg e => (RS.of_owns g5.own).off b1' (by decide) (by rw [hg, e])), (N3W.out.trans (g5.n.mono (fun _ _ h => h.elim))).trans (t6.mono (fun i _ hi => .inr (by rw [hi, ← HPE.out]; exact hp1)))⟩
          clear g5 b1' r1' t6 hb6 b0 b1 b2 b3 b4 b5 e0 e1 e2 e3 e4 e5 r0 r1 r2 r3 r4 r5 y0 y1 y2 y3 y4 y5 x0 x1 x2 hlb hlx hlr HWI
          go_upto_region 13 with fail
          refine (show Code.wp _ _ _ _ (w5.setCell ⟨pb, 4, none⟩ (.slice au nu cu)) from ?_)
          generalize w5.setCell ⟨pb, 4, none⟩ (.slice au nu cu) = w6 at *
          clear f4 c4
          obtain ⟨hb6, hr6, hs6, hn6⟩ := H6.out
          have HRUN : Hid (Calls Try.prog 31 #[.agg #[.int .i64 bb.most, .int .i64 bb.wait, .bool bb.begun, .int .i64 bb.next, .slice au nu cu, .int .i64 bb.lost]] w6 fun e w' => ∃ v' vo, e = .returned (.tuple #[.agg #[.int .i64 (follow (put1 b x)).most, .int .i64 (follow (put1 b x)).wait, .bool (follow (put1 b x)).begun, .int .i64 (follow (put1 b x)).next, v', .int .i64 (follow (put1 b x)).lost], vo]) ∧ RP w6 w' (.slice au nu cu) v' (follow (put1 b x)) vo (followO (put1 b x))) := Lib.hid (by
            have := rrun (.slice au nu cu) (put1 b x) M w6 (by rw [HP1.out]; exact hs6) HOK1.out hM
            have e : rL (put1 b x) (.slice au nu cu) = [.int .i64 bb.most, .int .i64 bb.wait, .bool bb.begun, .int .i64 bb.next, .slice au nu cu, .int .i64 bb.lost] := by rw [HP1.out]; rfl
            rw [e] at this
            exact this)
          have HULT : Hid (∀ g, (Value.slice au nu cu).ownBlock = some g → g < w6.heap.size) := Lib.hid hs6.lt
          have HR6 := Lib.hid hr6
          have HN6 := Lib.hid hn6
          have HFS := Lib.hid (follow_split (put1 b x))
          have HL1 := HOK1.out.len
          have HFK := Lib.hid (follow_ok HOK1.out)
          obtain ⟨b0, b1, b2, b3, b4, b5, e0, e1, e2, e3, e4, e5⟩ := six hb6
          clear hb6 hr6 hs6 hn6 e0 e1 e2 e3 e4 e5 H6
          generalize hfb : follow (put1 b x) = fb at *
          generalize hfo : followO (put1 b x) = fo at *
          clear hfb hfo
          go_wp2_with fail
          refine HRUN.out.mono ?_
          rintro e w7 ⟨v7, vo7, rfl, rp⟩
          obtain ⟨a7, n7, c7, hv7, q1, q2, q3⟩ := rp.rs.form
          clear q1 q2 q3
          subst hv7
          have H8 : Hid (RLp overF M w w6.heap.size w7.heap.size pr (lpB overF fb) (fo ++ lpO overF fb) (w7.alloc (.cells #[.int .i64 fb.most, .int .i64 fb.wait, .bool fb.begun, .int .i64 fb.next, .slice a7 n7 c7, .int .i64 fb.lost] XT)) fb (.slice a7 n7 c7) vo7 fo) := Lib.hid (by
            have hr7 := rp.out.n.blk HR6.out (fun h => h)
            have hs := rp.out.n.size
            refine ⟨Blk.new _ _ _, hr7.alloc _, rp.rs.later ((Turns.refl _ _).alloc _), ⟨rp.out.own.turns (S := fun _ => False) ((Turns.refl _ _).alloc _) (fun _ _ h => h), fun g hg => Nat.le_trans HN6.out.size (rp.out.vb g hg), (HN6.out.trans (rp.out.n.mono (fun _ _ h => h.elim))).alloc _⟩, fun g hg => HULT.out g (by rw [← rp.own]; exact hg), rp.out.vb, Nat.le_trans HN6.out.size hs, by rw [← HPE.out]; exact hp3, fun e => by have := hr7.lt; omega, ?_, HFK.out, rfl, rfl, by have := HFS.out; omega⟩
            have : w7.heap.size ≤ (w7.alloc (.cells #[.int .i64 fb.most, .int .i64 fb.wait, .bool fb.begun, .int .i64 fb.next, .slice a7 n7 c7, .int .i64 fb.lost] XT)).heap.size := by simp
            omega)
          clear rp b0 b1 b2 b3 b4 b5 HRUN HR6
          go_upto_region 14 with fail
          refine (show Code.wp _ _ _ _ (w7.alloc (.cells #[.int .i64 fb.most, .int .i64 fb.wait, .bool fb.begun, .int .i64 fb.next, .slice a7 n7 c7, .int .i64 fb.lost] XT)) from ?_)
          generalize w7.alloc (.cells #[.int .i64 fb.most, .int .i64 fb.wait, .bool fb.begun, .int .i64 fb.next, .slice a7 n7 c7, .int .i64 fb.lost] XT) = w8 at *
          generalize w7.heap.size = p9 at *
          generalize w6.heap.size = bnd at *
          go_loopw [10] (fun vo wr => ∃ (b9 : B) (v9 : Value) (o : List Th), RLp overF M w bnd p9 pr (lpB overF fb) (fo ++ lpO overF fb) wr b9 v9 vo o) (fun _ wr => rlenAt wr p9)
          case atStart => exact ⟨fb, _, fo, H8.out⟩
          case round =>
            obtain ⟨b9, v9, o, hj⟩ := hrel
            have HJ := Lib.hid hj
            have HLA := Lib.hid hj.at_
            have HRJ := Lib.hid hj.rs
            obtain ⟨a9, n9, c9, hv9, hn9, q2, q3⟩ := hj.rs.form
            have HN9 := Lib.hid hn9
            have HOV := Lib.hid (overF_eq hj.ok.m1)
            rw [← hn9] at HOV
            clear q2 q3 hn9 H8
            obtain ⟨b0, b1, b2, b3, b4, b5, e0, e1, e2, e3, e4, e5⟩ := six hj.box
            obtain ⟨r0, r1, r2, r3, r4, r5, y0, y1, y2, y3, y4, y5⟩ := six hj.rbx
            have hl9 := hj.box.lt
            have hlr := hj.rbx.lt
            have hne9 := hj.pne
            have hne9' := hne9.symm
            clear hj
            subst hv9
            by_cases hov : b9.most < (n9 : Int)
            · have dw : decide (b9.most < (n9 : Int)) = true := decide_eq_true hov
              have HGO : Hid (overF b9 = true) := Lib.hid (by rw [HOV.out]; exact dw)
              have HSL := Lib.hid (skip_len b9 (overF_few b9 HGO.out))
              have HSK : Hid (Calls Try.prog 24 #[.agg #[.int .i64 b9.most, .int .i64 b9.wait, .bool b9.begun, .int .i64 b9.next, .slice a9 n9 c9, .int .i64 b9.lost]] wr fun e w' => ∃ v' vo, e = .returned (.tuple #[.agg #[.int .i64 (skip b9).most, .int .i64 (skip b9).wait, .bool (skip b9).begun, .int .i64 (skip b9).next, v', .int .i64 (skip b9).lost], vo]) ∧ RP wr w' (.slice a9 n9 c9) v' (skip b9) vo (skipO b9)) := Lib.hid (rskip (.slice a9 n9 c9) b9 M wr HRJ.out HJ.out.ok hM (overF_few b9 HGO.out))
              clear hov
              go_wp2_with fail
              refine HSK.out.mono ?_
              rintro e w2 ⟨v2, vm, rfl, rp⟩
              obtain ⟨a2, n2, c2, hv2, q1, q2, q3⟩ := rp.rs.form
              clear q1 q2 q3 HSK
              subst hv2
              have RPH := Lib.hid rp
              have hb2 := (rp.out.n.blk HJ.out.box (fun h => h)).alloc (.cells #[.int .i64 (skip b9).most, .int .i64 (skip b9).wait, .bool (skip b9).begun, .int .i64 (skip b9).next, .slice a2 n2 c2, .int .i64 (skip b9).lost] XT)
              have hd2 : Blk (w2.alloc (.cells #[.int .i64 (skip b9).most, .int .i64 (skip b9).wait, .bool (skip b9).begun, .int .i64 (skip b9).next, .slice a2 n2 c2, .int .i64 (skip b9).lost] XT)) w2.heap.size #[.int .i64 (skip b9).most, .int .i64 (skip b9).wait, .bool (skip b9).begun, .int .i64 (skip b9).next, .slice a2 n2 c2, .int .i64 (skip b9).lost] XT := Blk.new _ _ _
              have hpne : p9 ≠ w2.heap.size := by have := (rp.out.n.blk HJ.out.box (fun h => h)).lt; omega
              clear rp b0 b1 b2 b3 b4 b5 e0 e1 e2 e3 e4 e5 r0 r1 r2 r3 r4 r5 y0 y1 y2 y3 y4 y5 hl9 hlr
              go_upto_region 16 with fail
              refine (show Code.wp _ _ _ _ (w2.alloc (.cells #[.int .i64 (skip b9).most, .int .i64 (skip b9).wait, .bool (skip b9).begun, .int .i64 (skip b9).next, .slice a2 n2 c2, .int .i64 (skip b9).lost] XT)) from ?_)
              have HW3 : Hid (∃ w3, w3 = w2.alloc (.cells #[.int .i64 (skip b9).most, .int .i64 (skip b9).wait, .bool (skip b9).begun, .int .i64 (skip b9).next, .slice a2 n2 c2, .int .i64 (skip b9).lost] XT)) := Lib.hid ⟨_, rfl⟩
              obtain ⟨w3, hw3⟩ := HW3.out
              rw [← hw3] at hb2 hd2 ⊢
              have HWE := Lib.hid hw3
              clear HW3 hw3
              generalize w2.heap.size = pd at *
              obtain ⟨b0, b1, b2, b3, b4, b5, e0, e1, e2, e3, e4, e5⟩ := six hb2
              obtain ⟨d0, d1, d2, d3, d4, d5, q0, q1, q2, q3, q4, q5⟩ := six hd2
              have hl9 := hb2.lt
              have hld := hd2.lt
              clear hb2 hd2 q0 q1 q2 q3 q4 q5
              have HO3 : Hid (Owns TE RT (puts w3 p9 0 [.int .i64 (skip b9).most, .int .i64 (skip b9).wait, .bool (skip b9).begun, .int .i64 (skip b9).next, .slice a2 n2 c2, .int .i64 (skip b9).lost]) u10 o ∧ Sub TE 0 (puts w3 p9 0 [.int .i64 (skip b9).most, .int .i64 (skip b9).wait, .bool (skip b9).begun, .int .i64 (skip b9).next, .slice a2 n2 c2, .int .i64 (skip b9).lost]) vm (skipO b9)) := Lib.hid (by
                have j := (HJ.out.later RPH.out.out.n).later ((Turns.refl (fun _ => False) w2).alloc (.cells #[.int .i64 (skip b9).most, .int .i64 (skip b9).wait, .bool (skip b9).begun, .int .i64 (skip b9).next, .slice a2 n2 c2, .int .i64 (skip b9).lost] XT))
                rw [← HWE.out] at j
                have t1 : Turns (· = p9) w3 (puts w3 p9 0 [.int .i64 (skip b9).most, .int .i64 (skip b9).wait, .bool (skip b9).begun, .int .i64 (skip b9).next, .slice a2 n2 c2, .int .i64 (skip b9).lost]) := puts_turns (S := (· = p9)) (.inl rfl) _ 0 _ (Turns.refl _ _)
                have v1 : Owns TE RT w3 vm (skipO b9) := by rw [HWE.out]; exact RPH.out.out.own.turns (S := fun _ => False) ((Turns.refl _ _).alloc _) (fun _ _ h => h)
                exact ⟨j.out.own.turns t1 (fun g hg e => own_ne j.out.own j.box (by decide) (by rw [hg, e])), (v1.turns t1 (fun g hg e => own_ne v1 j.box (by decide) (by rw [hg, e]))).sub 0 (fun _ _ => Nat.zero_le _)⟩)
              have HLE : Hid (o.length + (skipO b9).length ≤ 1048576) := Lib.hid (by have := HJ.out.len; have := skip_split b9; omega)
              go_upto_region 17 with fail
              refine (show Code.wp _ _ _ _ (puts w3 p9 0 [.int .i64 (skip b9).most, .int .i64 (skip b9).wait, .bool (skip b9).begun, .int .i64 (skip b9).next, .slice a2 n2 c2, .int .i64 (skip b9).lost]) from ?_)
              have HW4 : Hid (∃ w4, w4 = puts w3 p9 0 [.int .i64 (skip b9).most, .int .i64 (skip b9).wait, .bool (skip b9).begun, .int .i64 (skip b9).next, .slice a2 n2 c2, .int .i64 (skip b9).lost]) := Lib.hid ⟨_, rfl⟩
              obtain ⟨w4, hw4⟩ := HW4.out
              rw [← hw4] at HO3 ⊢
              have HWF := Lib.hid hw4
              clear HW4 hw4 b0 b1 b2 b3 b4 b5 e0 e1 e2 e3 e4 e5 d0 d1 d2 d3 d4 d5 hl9 hld
              go_wp2_with (at_builtin; refine wpList_append_sub (E := TE) Try.underlying24 infoR rfl (by decide) (by decide) rfl _ _ rfl _ o (skipO b9) rfl HO3.out.1 _ rfl 0 HO3.out.2 HLE.out ?_)
              intro vo6 w6' hown6 hgrow6 hat6
              have H9 := Lib.hid (HJ.out.step (ob := .cells #[.int .i64 (skip b9).most, .int .i64 (skip b9).wait, .bool (skip b9).begun, .int .i64 (skip b9).next, .slice a2 n2 c2, .int .i64 (skip b9).lost] XT) overF_few HGO.out RPH.out hown6 (by show (puts (w2.alloc (.cells #[.int .i64 (skip b9).most, .int .i64 (skip b9).wait, .bool (skip b9).begun, .int .i64 (skip b9).next, .slice a2 n2 c2, .int .i64 (skip b9).lost] XT)) p9 0 [.int .i64 (skip b9).most, .int .i64 (skip b9).wait, .bool (skip b9).begun, .int .i64 (skip b9).next, .slice a2 n2 c2, .int .i64 (skip b9).lost]).grownBy _ _; rw [← HWE.out, ← HWF.out]; exact hgrow6) (by show _ ∨ _ = some (puts (w2.alloc (.cells #[.int .i64 (skip b9).most, .int .i64 (skip b9).wait, .bool (skip b9).begun, .int .i64 (skip b9).next, .slice a2 n2 c2, .int .i64 (skip b9).lost] XT)) p9 0 [.int .i64 (skip b9).most, .int .i64 (skip b9).wait, .bool (skip b9).begun, .int .i64 (skip b9).next, .slice a2 n2 c2, .int .i64 (skip b9).lost]).heap.size; rw [← HWE.out, ← HWF.out]; exact hat6))
              clear hown6 hgrow6 hat6
              go_wp2_with fail
              go_roundw
              case rel => exact ⟨skip b9, _, _, H9.out⟩
              case measure => rw [H9.out.at_, HLA.out]; exact HSL.out
            · have dw : decide (b9.most < (n9 : Int)) = false := decide_eq_false hov
              have hst := HJ.out.stop (by rw [HOV.out]; exact dw)
              have HST := Lib.hid hst
              have HF := Lib.hid (RQ.puts_ (zs := [.int .i64 b9.most, .int .i64 b9.wait, .bool b9.begun, .int .i64 b9.next, .slice a9 n9 c9, .int .i64 b9.lost]) hst.2.2 HJ.out.rbx HJ.out.prge rfl)
              clear hov hst
              go_wp2_with fail
              refine (show bodyPost _ _ _ _ _ (puts wr pr 0 [.int .i64 b9.most, .int .i64 b9.wait, .bool b9.begun, .int .i64 b9.next, .slice a9 n9 c9, .int .i64 b9.lost]) from ?_)
              have hff := HF.out
              generalize puts wr pr 0 [.int .i64 b9.most, .int .i64 b9.wait, .bool b9.begun, .int .i64 b9.next, .slice a9 n9 c9, .int .i64 b9.lost] = w9 at *
              obtain ⟨g0, g1, g2, g3, g4, g5, gg⟩ := six hff.1
              clear gg
              refine bodyPost_ret (v := .tuple #[.agg #[.int .i64 b9.most, .int .i64 b9.wait, .bool b9.begun, .int .i64 b9.next, .slice a9 n9 c9, .int .i64 b9.lost], u10, .int .i64 0]) (by simp [results, Try.results20, go_sem, g0, g1, g2, g3, g4, g5]) rfl ?_
              exact ⟨_, _, (by rw [HE.out.1, HE.out.2.1, ← HST.out.1]), (by rw [HE.out.2.1, HE.out.2.2]; exact hff.2)⟩
end Go.Proofs.Ytfgfejcnkjeghaa.reo
