/-
  'awake' of layer 10; FrameMay.
-/
import Derived.Test.YtmfknefihjjgoaaFrmPut
namespace Go.Proofs.Ytmfknefihjjgoaa.frm
open Go.RowKit mem
set_option linter.unusedVariables false

/-- a maker that was made since w -/
structure At (w wr : World) (p : Nat) (v : Value) (q : Q) : Prop where
  m : Mk wr p v q
  o : ∀ g, v.ownBlock = some g → w.heap.size ≤ g
  n : New w wr
  le : w.heap.size ≤ p
theorem At.new {w wr w' : World} {p : Nat} {v : Value} {q : Q} (h : At w wr p v q) (n : New wr w') : At w w' p v q :=
  ⟨h.m.turns n (fun h => h) (fun _ _ h => h), h.o, h.n.trans (n.mono (fun _ _ h => h.elim)), h.le⟩

theorem put_at (w : World) (p : Nat) (v : Value) (s : Q) (u : U) (k : Nat) (wr : World) (h : At w wr p v s) (hs : s.ok k) (hk : k ≤ 1000000) (hu : u.ok) :
    Calls Try.prog 16 #[.pointer (some ⟨p, 0, none⟩), .agg u.cs.toArray] wr fun e w' => ∃ v' ao c, e = .returned (.tuple #[.agg #[.slice ao (putF s u).length c], .bool (putOk s u)]) ∧ At w w' p v' (putS s u) ∧ Row w' (.slice ao (putF s u).length c) (putF s u) := by
  refine (putC p v s u k wr h.m hs hk hu).mono ?_
  rintro e w' ⟨v', vr, rfl, ht, hm, hr, hf, hg⟩
  have hsz := h.n.size
  obtain ⟨ao, c, rfl, _⟩ := hr.form
  refine ⟨v', ao, c, rfl, ⟨hm, ?_, h.n.trans (ht.mono ?_), h.le⟩, hr⟩
  · intro g hg
    rcases hf with f | f | ⟨g', f, hg'⟩
    · rw [f] at hg; cases hg
    · exact h.o g (by rw [← f]; exact hg)
    · rw [f] at hg; injection hg with hg; omega
  · intro j _ hj
    rcases hj with rfl | hj
    · exact .inr h.le
    · exact .inr (h.o j hj.symm)

theorem put_is (w : World) (p : Nat) (v : Value) (s : Q) (u : U) (k : Nat) (t : Q) (f : List U) (b : Bool) (ht : putS s u = t ∧ putF s u = f ∧ putOk s u = b) (wr : World) (h : At w wr p v s) (hs : s.ok k) (hk : k ≤ 1000000) (hu : u.ok) :
    Calls Try.prog 16 #[.pointer (some ⟨p, 0, none⟩), .agg u.cs.toArray] wr fun e w' => ∃ v' ao c, e = .returned (.tuple #[.agg #[.slice ao f.length c], .bool b]) ∧ At w w' p v' t ∧ Row w' (.slice ao f.length c) f := by
  obtain ⟨rfl, rfl, rfl⟩ := ht
  exact put_at w p v s u k wr h hs hk hu

def cA : C := ⟨true, 100, 5, 9⟩
def uA : U := ⟨5, 0, false, true, true, ⟨#[120]⟩, 0⟩
def uB : U := ⟨6, 0, true, false, false, ⟨#[121]⟩, 0⟩
theorem aw1 : putS ⟨cA, [], 0, 0⟩ uA = ⟨cA, [uA], 0, 0⟩ ∧ putF ⟨cA, [], 0, 0⟩ uA = [] ∧ putOk ⟨cA, [], 0, 0⟩ uA = false := ⟨rfl, rfl, rfl⟩
theorem aw2 : putS ⟨cA, [uA], 0, 0⟩ uB = ⟨cA, [], 1, 0⟩ ∧ putF ⟨cA, [uA], 0, 0⟩ uB = [uA, uB] ∧ putOk ⟨cA, [uA], 0, 0⟩ uB = true := ⟨rfl, rfl, rfl⟩
theorem uA_ok : uA.ok := ⟨by decide, by decide, by decide, by decide, by decide, by decide, by decide⟩
theorem uB_ok : uB.ok := ⟨by decide, by decide, by decide, by decide, by decide, by decide, by decide⟩
theorem fresh_ok (c : C) (h : 1 ≤ c.b ∧ c.b ≤ 1048576 ∧ 1 ≤ c.n ∧ c.n ≤ 1024 ∧ 0 ≤ c.w ∧ c.w ≤ 1099511627776) : (⟨c, [], 0, 0⟩ : Q).ok 0 := by
  obtain ⟨h1, h2, h3, h4, h5, h6⟩ := h
  exact ⟨h1, h2, h3, h4, h5, h6, by simp; omega, by simp [size]; omega, by simp, by simp, by simp, by simp, by simp⟩

theorem new_at (c : C) (w : World) (h : 1 ≤ c.b ∧ c.b ≤ 1048576 ∧ 1 ≤ c.n ∧ c.n ≤ 1024 ∧ 0 ≤ c.w ∧ c.w ≤ 1099511627776) :
    Calls Try.prog 15 #[.agg #[.bool c.v, .int .i64 c.b, .int .i64 c.n, .int .i64 c.w]] w fun e w' => ∃ p, e = .returned (.tuple #[.pointer (some ⟨p, 0, none⟩), .int .i64 0]) ∧ At w w' p (.slice none 0 0) ⟨c, [], 0, 0⟩ := by
  refine (newC c w h).mono ?_
  rintro e w' ⟨p, rfl, hn, hp, hm⟩
  exact ⟨p, rfl, hm, (fun g hg => by cases hg), hn, hp⟩

set_option maxRecDepth 100000 in
set_option maxHeartbeats 1000000 in
theorem awake (w : World) :
    Calls Try.prog 9 #[] w fun e w' => e = .returned (.bool true) ∧ New w w' := by
  have hN := Lib.hid (new_at cA w (by decide))
  go_enter Try.func9, Try.ntmps9
  go_wp2_with fail
  refine hN.out.mono ?_
  rintro e w1 ⟨p, rfl, h1⟩
  have H1 := Lib.hid h1
  clear h1 hN
  go_wp2_with fail
  refine (put_is w p _ ⟨cA, [], 0, 0⟩ uA 0 _ _ _ aw1 w1 H1.out (fresh_ok _ (by decide)) (by omega) uA_ok).mono ?_
  rintro e w2 ⟨v2, ao2, c2, rfl, h2, r2⟩
  have H2 := Lib.hid (h2.new ((Turns.refl _ _).alloc (.cells #[.slice ao2 0 c2] 34)))
  simp only [List.length_nil]
  clear h2 r2 H1
  go_wp2_with fail
  generalize w2.alloc (.cells #[.slice ao2 0 c2] 34) = w3 at *
  have hok1 : (⟨cA, [uA], 0, 0⟩ : Q).ok 1 := put_ok (fresh_ok cA (by decide)) uA uA_ok
  refine (put_is w p _ ⟨cA, [uA], 0, 0⟩ uB 1 _ _ _ aw2 w3 H2.out hok1 (by omega) uB_ok).mono ?_
  rintro e w4 ⟨v4, ao4, c4, rfl, h4, r4⟩
  have hb := Blk.new w4 #[.slice ao4 2 c4] 34
  have n5 : New w4 (w4.alloc (.cells #[.slice ao4 2 c4] 34)) := (Turns.refl _ _).alloc _
  have H5 := Lib.hid (h4.new n5)
  have R5 := Lib.hid (r4.turns n5 (fun _ _ h => h))
  simp only [List.length_cons, List.length_nil] at *
  clear h4 r4 H2 n5 hok1
  go_wp2_with fail
  generalize w4.alloc (.cells #[.slice ao4 2 c4] 34) = w5 at *
  generalize w4.heap.size = pf at *
  refine (keyC (.slice ao4 2 c4) [uA, uB] w5 R5.out (by simp)).mono ?_
  rintro e w6 ⟨rfl, n6⟩
  have b6 := n6.blk hb (fun h => h)
  have q6 := b6.cell 0
  have R6 := Lib.hid (R5.out.turns n6 (fun _ _ h => h))
  have H6 := Lib.hid (H5.out.new n6)
  clear R5 H5 hb n6
  go_wp2_with fail
  refine (sizeC (.slice ao4 2 c4) [uA, uB] w6 R6.out (by simp) (by decide)).mono ?_
  rintro e w7 ⟨rfl, n7⟩
  have H7 := Lib.hid (H6.out.new n7)
  have hsz : ((size [uA, uB] : Nat) : Int) = 2 := rfl
  clear R6 H6 b6 q6 n7
  rw [hsz]
  go_wp2_with fail
  refine (openC p _ _ w7 H7.out.m).mono ?_
  rintro e w8 ⟨rfl, rfl⟩
  go_wp2
  go_ret
  exact ⟨rfl, H7.out.n⟩

set_option maxRecDepth 100000 in
set_option maxHeartbeats 1000000 in
theorem may_law (v : Bool) (b n x : Int) (w : World) (hb0 : -9223372036854775808 ≤ b) (hb1 : b ≤ 9223372036854775807) (hn0 : -9223372036854775808 ≤ n) (hn1 : n ≤ 9223372036854775807) (hx0 : -9223372036854775808 ≤ x) (hx1 : x ≤ 9223372036854775807) :
    Calls Try.prog 6 #[.bool v, .int .i64 b, .int .i64 n, .int .i64 x] w fun e w' => e = .returned (.bool true) ∧ Below w.heap.size w w' := by
  clear hb0 hb1 hn0 hn1 hx0 hx1
  have hbw := Blk.new w #[.bool v, .int .i64 b, .int .i64 n, .int .i64 x] 51
  have nw : New w (w.alloc (.cells #[.bool v, .int .i64 b, .int .i64 n, .int .i64 x] 51)) := (Turns.refl _ _).alloc _
  by_cases h : 1 ≤ b ∧ b ≤ 1048576 ∧ 1 ≤ n ∧ n ≤ 1024 ∧ 0 ≤ x ∧ x ≤ 1099511627776
  · have HN := Lib.hid (fun w => new_at ⟨v, b, n, x⟩ w h)
    have HC := Lib.hid (fun w => checkC ⟨v, b, n, x⟩ w)
    simp only [h, and_self, if_true] at HC
    obtain ⟨h1, h2, h3, h4, h5, h6⟩ := h
    go_enter Try.func6, Try.ntmps6
    go_wp2_with fail
    generalize w.alloc (.cells #[.bool v, .int .i64 b, .int .i64 n, .int .i64 x] 51) = w1 at *
    generalize w.heap.size = pc at *
    refine (HN.out w1).mono ?_
    rintro e w2 ⟨p, rfl, hat⟩
    have hb2 := hat.n.blk hbw (fun h => h)
    have n2 : New w w2 := nw.trans (hat.n.mono (fun _ _ h => h.elim))
    clear hat hbw nw HN
    go_upto_region 3 with fail
    go_cut [12] (fun v12 wx => v12 = .bool true ∧ wx = w2)
    case first =>
      go_wp2_with fail
      all_goals first
        | omega
        | (go_meet; case rel => exact ⟨by first | trivial | (simp; omega), by trivial⟩)
    case rest =>
      obtain ⟨rfl, rfl⟩ := hcut
      go_wp2_with fail
      refine (awake wc).mono ?_
      rintro e w3 ⟨rfl, n3⟩
      have hb3 := n3.blk hb2 (fun h => h)
      have n3' : New w w3 := n2.trans (n3.mono (fun _ _ h => h.elim))
      have d0 := hb3.cell 0
      have d1 := hb3.cell 1
      have d2 := hb3.cell 2
      have d3 := hb3.cell 3
      clear hb3 n3 hb2 n2
      go_wp2_with fail
      refine (HC.out w3).mono ?_
      rintro e w4 ⟨rfl, n4⟩
      have n4' : New w w4 := n3'.trans (n4.mono (fun _ _ h => h.elim))
      clear d0 d1 d2 d3 n4 n3' HC
      go_wp2_with fail
      refine (timeC (.slice none 0 0) [] w4 (Row.nil _) (by simp)).mono ?_
      rintro e w5 ⟨rfl, n5⟩
      have n5' : New w w5 := n4'.trans (n5.mono (fun _ _ h => h.elim))
      simp only [timeV]
      clear n5 n4'
      go_wp2_with fail
      refine (keyC (.slice none 0 0) [] w5 (Row.nil _) (by simp)).mono ?_
      rintro e w6 ⟨rfl, n6⟩
      have n6' : New w w6 := n5'.trans (n6.mono (fun _ _ h => h.elim))
      simp only [keyV]
      clear n6 n5'
      go_wp2
      go_ret
      exact ⟨rfl, n6'.below (Nat.le_refl _) (fun _ _ h => h.elim)⟩
  · have HN := Lib.hid (fun w => newBad ⟨v, b, n, x⟩ w h)
    have HC := Lib.hid (fun w => checkC ⟨v, b, n, x⟩ w)
    simp only [h, if_false] at HC
    go_enter Try.func6, Try.ntmps6
    go_wp2_with fail
    generalize w.alloc (.cells #[.bool v, .int .i64 b, .int .i64 n, .int .i64 x] 51) = w1 at *
    generalize w.heap.size = pc at *
    refine (HN.out w1).mono ?_
    rintro e w2 ⟨rfl, hnw⟩
    have hb2 := hnw.blk hbw (fun h => h)
    have n2 : New w w2 := nw.trans (hnw.mono (fun _ _ h => h.elim))
    clear hnw hbw nw HN
    go_upto_region 3 with fail
    go_cut [12] (fun v12 wx => v12 = .bool false ∧ wx = w2)
    case first =>
      go_wp2_with fail
      all_goals first
        | omega
        | (go_meet; case rel => exact ⟨by first | trivial | (simp; omega), by trivial⟩)
    case rest =>
      obtain ⟨rfl, rfl⟩ := hcut
      go_wp2_with fail
      refine (awake wc).mono ?_
      rintro e w3 ⟨rfl, n3⟩
      have hb3 := n3.blk hb2 (fun h => h)
      have n3' : New w w3 := n2.trans (n3.mono (fun _ _ h => h.elim))
      have d0 := hb3.cell 0
      have d1 := hb3.cell 1
      have d2 := hb3.cell 2
      have d3 := hb3.cell 3
      clear hb3 n3 hb2 n2
      go_wp2_with fail
      refine (HC.out w3).mono ?_
      rintro e w4 ⟨rfl, n4⟩
      have n4' : New w w4 := n3'.trans (n4.mono (fun _ _ h => h.elim))
      clear d0 d1 d2 d3 n4 n3' HC
      go_wp2_with fail
      refine (timeC (.slice none 0 0) [] w4 (Row.nil _) (by simp)).mono ?_
      rintro e w5 ⟨rfl, n5⟩
      have n5' : New w w5 := n4'.trans (n5.mono (fun _ _ h => h.elim))
      simp only [timeV]
      clear n5 n4'
      go_wp2_with fail
      refine (keyC (.slice none 0 0) [] w5 (Row.nil _) (by simp)).mono ?_
      rintro e w6 ⟨rfl, n6⟩
      have n6' : New w w6 := n5'.trans (n6.mono (fun _ _ h => h.elim))
      simp only [keyV]
      clear n6 n5'
      go_wp2
      go_ret
      exact ⟨rfl, n6'.below (Nat.le_refl _) (fun _ _ h => h.elim)⟩
end Go.Proofs.Ytmfknefihjjgoaa.frm
