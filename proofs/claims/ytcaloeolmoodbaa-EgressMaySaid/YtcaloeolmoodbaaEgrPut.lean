/-
  egress.Out: Put.
-/
import Derived.Test.YtcaloeolmoodbaaEgrNamed
import Derived.BigQuiet
namespace Go.Proofs.Ytcaloeolmoodbaa.egr
open Go.RowKit mem Go.Maps
set_option linter.unusedVariables false

abbrev ics (x : que.It) : Array Value := #[.int .i64 x.n, .int .i64 x.size, .int .i64 x.tick, .bool x.key]
/-- the item as a flow takes it -/
def keyed (f : Ef) (x : que.It) : que.It := ⟨x.n, x.size, x.tick, x.key || !f.video⟩
set_option maxRecDepth 100000 in
set_option maxHeartbeats 2000000 in
theorem put_none (A : Ad) (k : Nat) (e : Eo) (id : Int) (x : que.It) (w : World) (h : Es w A k e) (hf : fnd e.L id = none) (n0 : -9223372036854775808 ≤ id) (n1 : id ≤ 9223372036854775807) :
    Calls Try.prog 57 #[.pointer (some ⟨A.o, 0, none⟩), .int .i64 id, x.v] w fun e w' => e = .returned (.tuple #[.slice none 0 0, .bool false]) ∧ New w w' := by
  obtain ⟨xn, xs, xt, xk⟩ := x
  dsimp only [que.It.v]
  have HN : Hid (New w (w.alloc (.cells #[.int .i64 xn, .int .i64 xs, .int .i64 xt, .bool xk] que.PT))) := Lib.hid ((Turns.refl _ _).alloc _)
  have h1 := h.later HN.out
  have c5 := h1.blk.cell 5
  have hr := h1.look_none hf n0 n1
  clear h h1 hf
  go_enter Try.func57, Try.ntmps57
  go_upto_region 2 with fail
  go_quiet (fail)
  go_wp2
  go_ret2
  exact ⟨rfl, HN.out.drewN _⟩
set_option maxRecDepth 100000 in
set_option maxHeartbeats 2000000 in
theorem put_great (A : Ad) (k : Nat) (e : Eo) (f : Ef) (x : que.It) (w : World) (h : Es w A k e) (hf : f ∈ e.L) (hx : e.most < x.size) :
    Calls Try.prog 57 #[.pointer (some ⟨A.o, 0, none⟩), .int .i64 f.id, x.v] w fun e w' => e = .returned (.tuple #[.slice none 0 0, .bool false]) ∧ New w w' := by
  obtain ⟨xn, xs, xt, xk⟩ := x
  dsimp only [que.It.v]
  have HN : Hid (New w (w.alloc (.cells #[.int .i64 xn, .int .i64 xs, .int .i64 xt, .bool xk] que.PT))) := Lib.hid ((Turns.refl _ _).alloc _)
  have HB : Hid (Blk (w.alloc (.cells #[.int .i64 xn, .int .i64 xs, .int .i64 xt, .bool xk] que.PT)) w.heap.size #[.int .i64 xn, .int .i64 xs, .int .i64 xt, .bool xk] que.PT) := Lib.hid (Blk.new _ _ _)
  have h1 := h.later HN.out
  have c5 := h1.blk.cell 5
  have c3 := h1.blk.cell 3
  have x1 := HB.out.cell 1
  have hr := h1.look hf
  have d1 : decide (e.most < xs) = true := decide_eq_true hx
  clear h h1 hf hx
  go_enter Try.func57, Try.ntmps57
  go_upto_region 2 with fail
  go_quiet (fail)
  go_wp2
  go_ret2
  exact ⟨rfl, HN.out.drewN _⟩
theorem putQ_frames (q : que.Q) (x : que.It) : (que.putQ q x).frames = q.frames ∧ (que.putQ q x).most = q.most := by
  unfold que.putQ
  constructor <;> (repeat' split) <;> rfl
theorem putD_len (q : que.Q) (x : que.It) (h : q.L.length ≤ 1024) : (que.putD q x).length ≤ 1048576 := by
  unfold que.putD
  split
  · exact Nat.zero_le _
  · rw [List.length_take]; omega
theorem putQ_mem {q : que.Q} {x z : que.It} (h : z ∈ (que.putQ q x).L) : z ∈ q.L ∨ z = x := by
  unfold que.putQ at h
  (repeat' split at h) <;> simp at h
  all_goals first | exact .inl h | exact .inl (List.mem_of_mem_drop h) | (rcases h with h | h; exact .inl (List.mem_of_mem_drop h); exact .inr h) | (rcases h with h | h; exact .inl h; exact .inr h)
set_option maxRecDepth 100000 in
set_option maxHeartbeats 2000000 in
theorem put_some (A : Ad) (k : Nat) (e : Eo) (f : Ef) (x : que.It) (w : World) (h : Es w A k e) (hf : f ∈ e.L) (hx : x.size ≤ e.most) (s0 : -9223372036854775808 ≤ x.size) :
    Calls Try.prog 57 #[.pointer (some ⟨A.o, 0, none⟩), .int .i64 f.id, x.v] w fun z w' => ∃ u pv', z = .returned (.tuple #[u, .bool (que.putOk f.q (keyed f x))]) ∧ Es w' A k ⟨e.frames, e.bytes, e.age, e.most, e.guard, e.credit, e.row, setQ e.L f.id pv' (que.putQ f.q (keyed f x)), e.s⟩ ∧ Turns (que.Foot f.qb f.pv) w w' ∧ Owns SE SeT w' u (nam f.id (que.putD f.q (keyed f x))) ∧ (∀ g, u.ownBlock = some g → w.heap.size ≤ g) ∧ (pv'.ownBlock = f.pv.ownBlock ∨ ∃ g, pv'.ownBlock = some g ∧ w.heap.size ≤ g) := by
  have hs1 : x.size ≤ 9223372036854775807 := by have := h.cf.m1; omega
  have HW := Lib.hid h
  have HPD : Hid ((que.putD f.q (keyed f x)).length ≤ 1048576) := Lib.hid (putD_len _ _ (h.qs f hf).small)
  have HPS : Hid (∀ z ∈ (que.putQ f.q (keyed f x)).L, z.size ≤ e.most) := Lib.hid (fun z hz => (putQ_mem hz).elim ((h.fq f hf).sz z) (fun e2 => by rw [e2]; exact hx))
  have HKD : Hid (keyed f x = ⟨x.n, x.size, x.tick, x.key || !f.video⟩ ∧ x.size ≤ e.most) := Lib.hid ⟨rfl, hx⟩
  have HP := Lib.hid (fun W hq => que.put f.qb f.pv f.q (keyed f x) W hq s0 hs1)
  rw [HKD.out.1] at HP
  dsimp only [que.It.v] at HP
  generalize keyed f x = y at *
  obtain ⟨xn, xs, xt, xk⟩ := x
  dsimp only [que.It.v] at *
  have HN : Hid (New w (w.alloc (.cells #[.int .i64 xn, .int .i64 xs, .int .i64 xt, .bool xk] que.PT))) := Lib.hid ((Turns.refl _ _).alloc _)
  have hb : Blk (w.alloc (.cells #[.int .i64 xn, .int .i64 xs, .int .i64 xt, .bool xk] que.PT)) w.heap.size #[.int .i64 xn, .int .i64 xs, .int .i64 xt, .bool xk] que.PT := Blk.new _ _ _
  have HB := Lib.hid hb
  have h1 := h.later HN.out
  have HH := Lib.hid h1
  have HF := Lib.hid hf
  have c5 := h1.blk.cell 5
  have c3 := h1.blk.cell 3
  obtain ⟨⟨x0, x1, x2, x3⟩, g0, g1, g2, g3⟩ := que.four hb
  obtain ⟨⟨f0, f1⟩, _⟩ := drr.two (h1.fb f hf)
  have hr := h1.look hf
  have d1 : decide (e.most < xs) = false := decide_eq_false (by omega)
  clear h h1 hf hx hb hs1 s0
  go_enter Try.func57, Try.ntmps57
  go_upto_region 2 with fail
  go_quiet (fail)
  have HH2 : Hid (Es ((w.alloc (.cells #[.int .i64 xn, .int .i64 xs, .int .i64 xt, .bool xk] que.PT)).drewN nq) A k e) := Lib.hid (HH.out.later ((Turns.refl _ _).drewN _))
  have HB2 : Hid (Blk ((w.alloc (.cells #[.int .i64 xn, .int .i64 xs, .int .i64 xt, .bool xk] que.PT)).drewN nq) w.heap.size #[.int .i64 xn, .int .i64 xs, .int .i64 xt, .bool xk] que.PT) := Lib.hid HB.out
  have HN2 : Hid (New w ((w.alloc (.cells #[.int .i64 xn, .int .i64 xs, .int .i64 xt, .bool xk] que.PT)).drewN nq)) := Lib.hid (HN.out.drewN _)
  have HPB : Hid (∃ pb, pb = w.heap.size) := Lib.hid ⟨_, rfl⟩
  obtain ⟨pb, hpb⟩ := HPB.out
  rw [← hpb] at HB2 ⊢
  have HPL := Lib.hid hpb
  clear HH HN HB c5 c3 x0 x1 x2 x3 g0 g1 g2 g3 f0 f1 hr hpb HPB
  generalize (w.alloc (.cells #[.int .i64 xn, .int .i64 xs, .int .i64 xt, .bool xk] que.PT)).drewN nq = w1 at *
  obtain ⟨⟨x0, x1, x2, x3⟩, g0, g1, g2, g3⟩ := que.four HB2.out
  obtain ⟨⟨f0, f1⟩, _⟩ := drr.two (HH2.out.fb f HF.out)
  generalize f.video = fv at *
  cases xk <;> cases fv
  all_goals
    simp only [Bool.not_false, Bool.not_true, Bool.or_true, Bool.or_false, Bool.true_or, Bool.false_or] at HP HKD
  all_goals
    rw [← HKD.out.1] at HP
    go_upto_region 5 with fail
    have HN3 := Lib.hid (HN2.out.setCell (p := ⟨pb, 3, none⟩) (.inr (by rw [HPL.out]; exact Nat.le_refl _)) (.bool (y.key)))
    have HB3 := Lib.hid (HB2.out.set 3 (.bool (y.key)))
    rw [HKD.out.1] at HN3 HB3
    dsimp only at HN3 HB3
    clear HN2 HB2 x0 x1 x2 x3 g0 g1 g2 g3 f0 f1 HH2
    generalize w1.setCell ⟨pb, 3, none⟩ _ = w3 at *
    have HH3 := Lib.hid (HW.out.later HN3.out)
    obtain ⟨⟨x0, x1, x2, x3⟩, _⟩ := que.four HB3.out
    obtain ⟨⟨f0, f1⟩, _⟩ := drr.two (HH3.out.fb f HF.out)
    have HQ3 := Lib.hid (HH3.out.qs f HF.out)
    go_region_with (go_at_call 44; (with_reducible refine Calls.mono (HP.out _ ?_) ?_); (focus (exact HQ3.out.later ((Turns.refl _ _).drew))); rintro z w4 ⟨v, rfl, hpp⟩; have HPP := Lib.hid hpp; clear hpp)
  all_goals
    obtain ⟨ao, c, hv, _, _, _⟩ := HPP.out.fr.own.form
    subst hv
    have HNM := Lib.hid (named f.id _ _ w4 HPP.out.fr.own HPD.out)
    clear x0 x1 x2 x3 f0 f1
    go_wp2_with fail
    refine HNM.out.mono ?_
    rintro z w5 ⟨u, rfl, hg⟩
    have HG := Lib.hid hg
    clear hg HNM
    go_wp2
    go_ret2
    obtain ⟨pv', hloc, hes⟩ := HH3.out.queue HF.out (q' := que.putQ f.q y) ⟨HPP.out.lft.qs, Turns.of_drew HPP.out.lft.turns⟩ (putQ_frames _ _).1 (putQ_frames _ _).2 HPS.out
    have t : Turns (que.Foot f.qb f.pv) w w4 := (HN3.out.mono (fun _ _ h => h.elim)).trans ((Turns.of_drew HPP.out.lft.turns).mono (fun i _ hi => .inl hi))
    exact ⟨u, pv', rfl, hes.later HG.out.n, t.trans (HG.out.n.mono (fun _ _ h => h.elim)), HG.out.own, (fun g hg => Nat.le_trans t.size (HG.out.vb g hg)), hloc.elim .inl (fun ⟨g, h1, h2⟩ => .inr ⟨g, h1, Nat.le_trans HN3.out.size h2⟩)⟩
end Go.Proofs.Ytcaloeolmoodbaa.egr
