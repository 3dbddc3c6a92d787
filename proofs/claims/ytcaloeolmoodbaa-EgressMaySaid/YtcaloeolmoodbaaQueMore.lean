/-
  queue.Queue in memory: First, Pop, Break, refuses, Expire.
-/
import Derived.Test.YtcaloeolmoodbaaQueRemove
namespace Go.Proofs.Ytcaloeolmoodbaa.que
open Go.RowKit mem
set_option linter.unusedVariables false

def It.v (x : It) : Value := .agg #[.int .i64 x.n, .int .i64 x.size, .int .i64 x.tick, .bool x.key]
theorem four {w : World} {p : Nat} {a b c d : Value} {T : TypeId} (h : Blk w p #[a, b, c, d] T) :
    (w.cell? ⟨p, 0, none⟩ = some a ∧ w.cell? ⟨p, 1, none⟩ = some b ∧ w.cell? ⟨p, 2, none⟩ = some c ∧ w.cell? ⟨p, 3, none⟩ = some d) ∧ w.frozen? ⟨p, 0, none⟩ = false ∧ w.frozen? ⟨p, 1, none⟩ = false ∧ w.frozen? ⟨p, 2, none⟩ = false ∧ w.frozen? ⟨p, 3, none⟩ = false :=
  ⟨⟨h.cell 0, h.cell 1, h.cell 2, h.cell 3⟩, h.free 0, h.free 1, h.free 2, h.free 3⟩
abbrev zcs : List Value := [.int .i64 0, .int .i64 0, .int .i64 0, .bool false]

/-- an item is stored into the block that holds the answer -/
theorem made4 {S : Nat → Prop} {w w1 : World} {pr : Nat} {T : TypeId} (hb : Blk w1 pr zcs.toArray T) (ht : Turns S w w1) (hp : w.heap.size ≤ pr) (x : List Value) (hx : x.length = 4) : Blk (puts w1 pr 0 x) pr x.toArray T ∧ Turns S w (puts w1 pr 0 x) :=
  ⟨puts_blk zcs x hb hx, puts_turns (.inr hp) _ 0 _ ht⟩

set_option maxHeartbeats 400000 in
theorem first_nil (p : Nat) (pv : Value) (q : Q) (w : World) (h : Qs w p pv q) (hL : q.L = []) :
    Calls Try.prog 17 #[.pointer (some ⟨p, 0, none⟩)] w fun e w' => e = .returned (.tuple #[zeroIt, .bool false]) ∧ New w w' := by
  obtain ⟨ao, c, hpv, hc⟩ := h.form
  have c2 := (h.blk.alloc (.cells #[.int .i64 0, .int .i64 0, .int .i64 0, .bool false] PT)).cell 2
  rw [hpv, hL] at c2
  have hb : Blk (w.alloc (.cells #[.int .i64 0, .int .i64 0, .int .i64 0, .bool false] PT)) w.heap.size zcs.toArray PT := Blk.new _ _ _
  have HM := Lib.hid (made4 (S := fun _ => False) hb ((Turns.refl _ _).alloc _) (Nat.le_refl _) zcs rfl)
  obtain ⟨⟨x0, x1, x2, x3⟩, y0, y1, y2, y3⟩ := four hb
  clear h hpv hc hb
  go_enter Try.func17, Try.ntmps17
  go_upto_region 1 with fail
  refine (show Code.wp _ _ _ _ (w.alloc (.cells #[.int .i64 0, .int .i64 0, .int .i64 0, .bool false] PT)) from ?_)
  generalize w.alloc (.cells #[.int .i64 0, .int .i64 0, .int .i64 0, .bool false] PT) = w1 at *
  generalize w.heap.size = pr at *
  go_wp2_with fail
  refine (show bodyPost _ _ _ _ _ (puts w1 pr 0 zcs) from ?_)
  clear x0 x1 x2 x3 y0 y1 y2 y3 c2
  generalize puts w1 pr 0 zcs = w9 at *
  obtain ⟨g0, g1, g2, g3⟩ := (four HM.out.1).1
  refine bodyPost_ret (v := .tuple #[zeroIt, .bool false]) (by simp [results, Try.results17, go_sem, g0, g1, g2, g3]) rfl ⟨rfl, HM.out.2⟩

set_option maxHeartbeats 400000 in
theorem first_cons (p : Nat) (pv : Value) (q : Q) (x : It) (w : World) (h : Qs w p pv q) (hx : q.L[0]? = some x) :
    Calls Try.prog 17 #[.pointer (some ⟨p, 0, none⟩)] w fun e w' => e = .returned (.tuple #[x.v, .bool true]) ∧ New w w' := by
  obtain ⟨ao, c, hpv, hc, hrd, _⟩ := h.own.form
  have hlt : 0 < q.L.length := (List.getElem?_eq_some_iff.1 hx).1
  have hsm := h.small
  have hlm : q.L.length ≤ maxLen := by unfold maxLen; omega
  rcases hrd with h0 | ⟨g, hg, hgl, hcell⟩
  · rw [h0] at hlt; simp at hlt
  subst hg
  have ht : New w (w.alloc (.cells #[.int .i64 0, .int .i64 0, .int .i64 0, .bool false] PT)) := (Turns.refl _ _).alloc _
  have c2 := (h.blk.alloc (.cells #[.int .i64 0, .int .i64 0, .int .i64 0, .bool false] PT)).cell 2
  rw [hpv] at c2
  have hrow := fun (j : Nat) (u : Value) (hu : (IE.cs x)[j]? = some u) => (ht.cell (a := ⟨g, 0 * 4 + j, none⟩) hgl (fun h => h)).trans (hcell 0 x hx j u hu)
  have r0 : (w.alloc (.cells #[.int .i64 0, .int .i64 0, .int .i64 0, .bool false] PT)).cell? ⟨g, 0, none⟩ = _ := hrow 0 _ rfl
  have r1 : (w.alloc (.cells #[.int .i64 0, .int .i64 0, .int .i64 0, .bool false] PT)).cell? ⟨g, 1, none⟩ = _ := hrow 1 _ rfl
  have r2 : (w.alloc (.cells #[.int .i64 0, .int .i64 0, .int .i64 0, .bool false] PT)).cell? ⟨g, 2, none⟩ = _ := hrow 2 _ rfl
  have r3 : (w.alloc (.cells #[.int .i64 0, .int .i64 0, .int .i64 0, .bool false] PT)).cell? ⟨g, 3, none⟩ = _ := hrow 3 _ rfl
  have hb : Blk (w.alloc (.cells #[.int .i64 0, .int .i64 0, .int .i64 0, .bool false] PT)) w.heap.size zcs.toArray PT := Blk.new _ _ _
  have HM := Lib.hid (made4 (S := fun _ => False) hb ht (Nat.le_refl _) x.cs rfl)
  obtain ⟨⟨x0, x1, x2, x3⟩, y0, y1, y2, y3⟩ := four hb
  have hd : decide ((q.L.length : Int) = 0) = false := decide_eq_false (by omega)
  have hd2 : ((q.L.length : Int) == 0) = false := beq_false_of_ne (by omega)
  clear h hpv hb hcell hrow hx
  obtain ⟨xn, xs, xt, xk⟩ := x
  dsimp only [It.cs, It.v] at *
  go_enter Try.func17, Try.ntmps17
  go_upto_region 1 with fail
  refine (show Code.wp _ _ _ _ (w.alloc (.cells #[.int .i64 0, .int .i64 0, .int .i64 0, .bool false] PT)) from ?_)
  have HG2 : g ≠ w.heap.size := Nat.ne_of_lt hgl
  generalize w.alloc (.cells #[.int .i64 0, .int .i64 0, .int .i64 0, .bool false] PT) = w1 at *
  generalize w.heap.size = pr at *
  go_wp2_with fail
  refine (show bodyPost _ _ _ _ _ (puts w1 pr 0 [.int .i64 xn, .int .i64 xs, .int .i64 xt, .bool xk]) from ?_)
  clear x0 x1 x2 x3 y0 y1 y2 y3 c2 r0 r1 r2 r3
  generalize puts w1 pr 0 [.int .i64 xn, .int .i64 xs, .int .i64 xt, .bool xk] = w9 at *
  obtain ⟨g0, g1, g2, g3⟩ := (four HM.out.1).1
  refine bodyPost_ret (v := .tuple #[.agg #[.int .i64 xn, .int .i64 xs, .int .i64 xt, .bool xk], .bool true]) (by simp [results, Try.results17, go_sem, g0, g1, g2, g3]) rfl ⟨rfl, HM.out.2⟩

theorem refuses (p : Nat) (pv : Value) (q : Q) (x : It) (w : World) (h : Qs w p pv q) :
    Calls Try.prog 67 #[.pointer (some ⟨p, 0, none⟩), x.v] w fun e w' => e = .returned (.bool (q.broken && !x.key)) ∧ New w w' := by
  have HN : Hid (New w (w.alloc (.cells x.cs.toArray PT))) := Lib.hid ((Turns.refl _ _).alloc _)
  have c4 := (h.blk.alloc (.cells x.cs.toArray PT)).cell 4
  have b3 := (Blk.new w x.cs.toArray PT).cell 3
  clear h
  obtain ⟨xn, xs, xt, xk⟩ := x
  dsimp only [It.cs, It.v] at *
  generalize q.broken = b at *
  go_enter Try.func67, Try.ntmps67
  go_upto_region 1 with fail
  refine (show Code.wp _ _ _ _ (w.alloc (.cells #[.int .i64 xn, .int .i64 xs, .int .i64 xt, .bool xk] PT)) from ?_)
  have c4' : (w.alloc (.cells #[.int .i64 xn, .int .i64 xs, .int .i64 xt, .bool xk] PT)).cell? ⟨p, 4, none⟩ = some (.bool b) := c4
  have b3' : (w.alloc (.cells #[.int .i64 xn, .int .i64 xs, .int .i64 xt, .bool xk] PT)).cell? ⟨w.heap.size, 3, none⟩ = some (.bool xk) := b3
  clear c4 b3
  generalize w.heap.size = pr at *
  have HN' : Hid (New w (w.alloc (.cells #[.int .i64 xn, .int .i64 xs, .int .i64 xt, .bool xk] PT))) := HN
  generalize w.alloc (.cells #[.int .i64 xn, .int .i64 xs, .int .i64 xt, .bool xk] PT) = w1 at *
  cases b
  · go_wp2
    go_ret
    exact ⟨rfl, HN'.out⟩
  · go_wp2
    go_ret
    exact ⟨rfl, HN'.out⟩

theorem pop_nil (p : Nat) (pv : Value) (q : Q) (w : World) (h : Qs w p pv q) (hL : q.L = []) :
    Calls Try.prog 47 #[.pointer (some ⟨p, 0, none⟩)] w fun e w' => e = .returned (.tuple #[zeroIt, .bool false]) ∧ New w w' := by
  obtain ⟨ao, c, hpv, hc⟩ := h.form
  have c2 := (h.blk.alloc (.cells #[.int .i64 0, .int .i64 0, .int .i64 0, .bool false] PT)).cell 2
  rw [hpv, hL] at c2
  have hb : Blk (w.alloc (.cells #[.int .i64 0, .int .i64 0, .int .i64 0, .bool false] PT)) w.heap.size zcs.toArray PT := Blk.new _ _ _
  have HM := Lib.hid (made4 (S := fun _ => False) hb ((Turns.refl _ _).alloc _) (Nat.le_refl _) zcs rfl)
  obtain ⟨⟨x0, x1, x2, x3⟩, y0, y1, y2, y3⟩ := four hb
  clear h hpv hc hb
  go_enter Try.func47, Try.ntmps47
  go_upto_region 1 with fail
  refine (show Code.wp _ _ _ _ (w.alloc (.cells #[.int .i64 0, .int .i64 0, .int .i64 0, .bool false] PT)) from ?_)
  generalize w.alloc (.cells #[.int .i64 0, .int .i64 0, .int .i64 0, .bool false] PT) = w1 at *
  generalize w.heap.size = pr at *
  go_wp2_with fail
  refine (show bodyPost _ _ _ _ _ (puts w1 pr 0 zcs) from ?_)
  clear x0 x1 x2 x3 y0 y1 y2 y3 c2
  generalize puts w1 pr 0 zcs = w9 at *
  obtain ⟨g0, g1, g2, g3⟩ := (four HM.out.1).1
  refine bodyPost_ret (v := .tuple #[zeroIt, .bool false]) (by simp [results, Try.results47, go_sem, g0, g1, g2, g3]) rfl ⟨rfl, HM.out.2⟩

/-- what a call leaves of the queue -/
structure Lft (w w' : World) (p : Nat) (pv : Value) (q : Q) : Prop where
  qs : ∃ pv', Qs w' p pv' q ∧ (pv'.ownBlock = pv.ownBlock ∨ ∃ g, pv'.ownBlock = some g ∧ w.heap.size ≤ g)
  turns : Turns (Foot p pv) w w'

set_option maxHeartbeats 400000 in
theorem pop_cons (p : Nat) (pv : Value) (q : Q) (x : It) (w : World) (h : Qs w p pv q) (hx : q.L[0]? = some x) :
    Calls Try.prog 47 #[.pointer (some ⟨p, 0, none⟩)] w fun e w' => e = .returned (.tuple #[x.v, .bool true]) ∧ Lft w w' p pv ⟨q.frames, q.most, q.L.drop 1, q.broken⟩ := by
  obtain ⟨ao, c, hpv, hc⟩ := h.form
  have hlt : 0 < q.L.length := (List.getElem?_eq_some_iff.1 hx).1
  have hsm := h.small
  have hlm : q.L.length ≤ maxLen := by unfold maxLen; omega
  have HQ := Lib.hid h
  have ht : New w (w.alloc (.cells #[.int .i64 0, .int .i64 0, .int .i64 0, .bool false] PT)) := (Turns.refl _ _).alloc _
  have HT := Lib.hid ht
  have HQ1 := Lib.hid (h.later ht)
  have hb : Blk (w.alloc (.cells #[.int .i64 0, .int .i64 0, .int .i64 0, .bool false] PT)) w.heap.size zcs.toArray PT := Blk.new _ _ _
  have HB := Lib.hid hb
  have c2 := HQ1.out.blk.cell 2
  rw [hpv] at c2
  have hd : decide ((q.L.length : Int) = 0) = false := decide_eq_false (by omega)
  have hd2 : ((q.L.length : Int) == 0) = false := beq_false_of_ne (by omega)
  have HP : Hid (w.heap.size ≠ p ∧ ∀ g, pv.ownBlock = some g → w.heap.size ≠ g) := Lib.hid ⟨Nat.ne_of_gt h.lt, fun g hg => Nat.ne_of_gt (h.vlt g hg)⟩
  have HX := Lib.hid hx
  clear h hpv hc hb ht hx
  go_enter Try.func47, Try.ntmps47
  go_upto_region 1 with fail
  refine (show Code.wp _ _ _ _ (w.alloc (.cells #[.int .i64 0, .int .i64 0, .int .i64 0, .bool false] PT)) from ?_)
  generalize w.alloc (.cells #[.int .i64 0, .int .i64 0, .int .i64 0, .bool false] PT) = w1 at *
  have hle : w.heap.size ≤ w.heap.size := Nat.le_refl _
  generalize hpr : w.heap.size = pr at *
  have HLE := Lib.hid hpr
  clear hle hpr
  go_wp2_with fail
  refine (remove p pv q 1 w1 HQ1.out hlt).mono ?_
  rintro e w2 ⟨v2, rfl, hg⟩
  have hb2 := hg.turns.blk HB.out (fun e => by
    rcases e with e | e
    · exact HP.out.1 e
    · exact HP.out.2 _ e rfl)
  obtain ⟨ao2, cc2, hv2, hc2, hrd, _⟩ := hg.fr.own.form
  have hlT : (q.L.take 1).length = 1 := by rw [List.length_take]; omega
  rw [hlT] at hv2 hc2
  have hxT : (q.L.take 1)[0]? = some x := by rw [List.getElem?_take, if_pos (by omega)]; exact HX.out
  rcases hrd with h0 | ⟨g, hg2, hgl, hcell⟩
  · rw [h0] at hlT; simp at hlT
  subst hg2
  have r0 : w2.cell? ⟨g, 0, none⟩ = _ := hcell 0 x hxT 0 _ rfl
  have r1 : w2.cell? ⟨g, 1, none⟩ = _ := hcell 0 x hxT 1 _ rfl
  have r2 : w2.cell? ⟨g, 2, none⟩ = _ := hcell 0 x hxT 2 _ rfl
  have r3 : w2.cell? ⟨g, 3, none⟩ = _ := hcell 0 x hxT 3 _ rfl
  have hgp : g ≠ pr := fun e => by
    have := hg.fr.vb g (by rw [hv2]; rfl)
    have h3 := HB.out.lt
    omega
  obtain ⟨⟨x0, x1, x2, x3⟩, y0, y1, y2, y3⟩ := four hb2
  have HM := Lib.hid (made4 (S := fun k => Foot p pv k) hb2 ((HT.out.mono (fun _ _ h => h.elim)).trans (hg.turns.mono (fun _ _ h => .inl h))) (by rw [HLE.out]; exact Nat.le_refl _) x.cs rfl)
  obtain ⟨pv', hq2, hpe⟩ := hg.qs
  have t9 : Turns (· = pr) w2 (puts w2 pr 0 x.cs) := puts_turns (S := (· = pr)) (.inl rfl) _ 0 _ (Turns.refl _ _)
  have HQ9 := Lib.hid (And.intro (hq2.turns t9 (fun e => HP.out.1 e.symm) (fun g hg e => HP.out.2 g (hpe ▸ hg) e.symm)) hpe)
  clear hg hq2 hpe t9 hcell hxT hlT hb2 c2
  obtain ⟨xn, xs, xt, xk⟩ := x
  dsimp only [It.cs, It.v] at *
  subst hv2
  go_wp2_with fail
  refine (show bodyPost _ _ _ _ _ (puts w2 pr 0 [.int .i64 xn, .int .i64 xs, .int .i64 xt, .bool xk]) from ?_)
  clear x0 x1 x2 x3 y0 y1 y2 y3 r0 r1 r2 r3
  generalize puts w2 pr 0 [.int .i64 xn, .int .i64 xs, .int .i64 xt, .bool xk] = w9 at *
  obtain ⟨g0, g1, g2, g3⟩ := (four HM.out.1).1
  refine bodyPost_ret (v := .tuple #[.agg #[.int .i64 xn, .int .i64 xs, .int .i64 xt, .bool xk], .bool true]) (by simp [results, Try.results47, go_sem, g0, g1, g2, g3]) rfl ⟨rfl, ⟨⟨pv', HQ9.out.1, .inl HQ9.out.2⟩, HM.out.2⟩⟩

/-- all go -/
theorem break_ (p : Nat) (pv : Value) (q : Q) (w : World) (h : Qs w p pv q) :
    Calls Try.prog 50 #[.pointer (some ⟨p, 0, none⟩)] w fun e w' => ∃ v, e = .returned v ∧ Gone w w' p pv ⟨q.frames, q.most, [], true⟩ v q.L := by
  obtain ⟨ao, c, hpv, hc⟩ := h.form
  have hsm := h.small
  have hlm : q.L.length ≤ maxLen := by unfold maxLen; omega
  have c4 := h.blk.cell 4
  have f4 := h.blk.free 4
  have tt : Turns (· = p) w (w.setCell ⟨p, 4, none⟩ (.bool true)) := (Turns.refl (· = p) _).setCell (.inl rfl) _
  have h2 : Qs (w.setCell ⟨p, 4, none⟩ (.bool true)) p pv ⟨q.frames, q.most, q.L, true⟩ := ⟨h.blk.set 4 _, h.own.turns tt (fun g hg e => h.ne (by rw [hg, e])), h.ne, h.ok.bs true⟩
  have HG := Lib.hid (remove p pv _ q.L.length _ h2 (Nat.le_refl _))
  have HT := Lib.hid tt
  have c2 := h2.blk.cell 2
  rw [hpv] at c2
  clear h2 tt h hpv
  go_enter Try.func50, Try.ntmps50
  go_upto_region 2 with fail
  refine (show Code.wp _ _ _ _ (w.setCell ⟨p, 4, none⟩ (.bool true)) from ?_)
  generalize w.setCell ⟨p, 4, none⟩ (.bool true) = w1 at *
  go_wp2_with fail
  refine HG.out.mono ?_
  rintro e w2 ⟨v, rfl, hg⟩
  have hq := hg.qs
  rw [show (⟨q.frames, q.most, q.L.drop q.L.length, true⟩ : Q) = ⟨q.frames, q.most, [], true⟩ by rw [List.drop_length]] at hq
  have HH : Hid (Gone w w2 p pv ⟨q.frames, q.most, [], true⟩ v q.L) := Lib.hid ⟨⟨Owns.cast hg.fr.own (by simp), fun g hgv => Nat.le_trans HT.out.size (hg.fr.vb g hgv)⟩, hq, HT.out.mono (fun i _ hi => .inl hi) |>.trans (hg.turns.mono (fun _ _ hk => .inl hk))⟩
  clear hg HT HG hq
  go_wp2
  go_ret
  exact ⟨_, rfl, HH.out⟩
end Go.Proofs.Ytcaloeolmoodbaa.que
