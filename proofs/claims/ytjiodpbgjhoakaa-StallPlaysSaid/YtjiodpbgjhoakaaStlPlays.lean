/-
  StallPlays: the law.
-/
import Derived.Test.YtjiodpbgjhoakaaStlRef
import Derived.Test.YtjiodpbgjhoakaaMask
import Derived.Test.YtjiodpbgjhoakaaPuts
import Derived.Test.YtjiodpbgjhoakaaSactRow
namespace Go.Proofs.Ytjiodpbgjhoakaa.stl
open Go.RowKit mem
set_option linter.unusedVariables false

abbrev XR : TypeId := 54
structure Bd (s : Q) (a b now : Int) (k : Nat) : Prop where
  af : s.after = a
  re : s.rest = b
  s0 : 0 ≤ s.since
  s1 : s.since ≤ now
  t0 : 0 ≤ s.times
  t1 : s.times ≤ k
  sr : s.susp = true → s.recd = false
theorem Bd.ok {s : Q} {a b now : Int} {k : Nat} (h : Bd s a b now k) (hv : Va a b) (hk : k ≤ 10000) (hn : now ≤ 100000) : s.ok := by
  obtain ⟨h1, h2, h3, h4, h5, h6, h7⟩ := h
  obtain ⟨v1, v2, v3, v4⟩ := hv
  exact ⟨by omega, by omega, by omega, by omega, h3, by omega, h5, by omega⟩
theorem Bd.tick {s : Q} {a b now now' : Int} {k : Nat} (h : Bd s a b now k) (h0 : 0 ≤ now) (hn : now ≤ now') (waits sent : Bool) : Bd (tickQ s now' waits sent) a b now' (k + 1) := by
  obtain ⟨h1, h2, h3, h4, h5, h6, h7⟩ := h
  have hnote : ∀ t, t = noteQ s now' sent → t.after = a ∧ t.rest = b ∧ 0 ≤ t.since ∧ t.since ≤ now' ∧ t.times = s.times ∧ t.susp = s.susp := by
    intro t ht
    subst ht
    unfold noteQ
    split
    · exact ⟨h1, h2, by show 0 ≤ now'; omega, Int.le_refl _, rfl, rfl⟩
    · exact ⟨h1, h2, h3, by omega, rfl, rfl⟩
  unfold tickQ
  split
  · unfold restQ
    split
    · exact ⟨h1, h2, h3, by omega, h5, by omega, h7⟩
    · exact ⟨h1, h2, h3, by show s.since ≤ _; omega, h5, by show s.times ≤ _; omega, fun h => by simp at h⟩
  · rename_i hs
    split
    · exact ⟨h1, h2, h3, by show s.since ≤ _; omega, h5, by show s.times ≤ _; omega, fun _ => rfl⟩
    · obtain ⟨g1, g2, g3, g4, g5, g6⟩ := hnote _ rfl
      unfold lateQ
      split
      · exact ⟨g1, g2, g3, g4, by omega, by omega, fun h => by rw [g6] at h; exact absurd h hs⟩
      · exact ⟨g1, g2, by show 0 ≤ now'; omega, Int.le_refl _, by show 0 ≤ (noteQ s now' sent).times + 1; omega, by show (noteQ s now' sent).times + 1 ≤ _; omega, fun _ => rfl⟩

structure Pl (w wr : World) (p px : Nat) (s : Q) : Prop where
  own : Own w wr p s
  x : Blk wr px (rx s) XR
  le : w.heap.size ≤ px
  ne : px ≠ p
theorem until_sign {q : Q} (ho : q.ok) : decide (0 ≤ untilV q) = q.susp := by
  have h1 := ho.s0
  have h2 := ho.r0
  unfold untilV
  cases q.susp
  · simp
  · simp; omega
theorem five {w : World} {p : Nat} {a b c d e : Value} {T : TypeId} (h : Blk w p #[a, b, c, d, e] T) :
    w.cell? ⟨p, 0, none⟩ = some a ∧ w.cell? ⟨p, 1, none⟩ = some b ∧ w.cell? ⟨p, 2, none⟩ = some c ∧ w.cell? ⟨p, 3, none⟩ = some d ∧ w.cell? ⟨p, 4, none⟩ = some e := ⟨h.cell 0, h.cell 1, h.cell 2, h.cell 3, h.cell 4⟩
theorem frees {w : World} {p : Nat} {cs : Array Value} {T : TypeId} (h : Blk w p cs T) : w.frozen? ⟨p, 0, none⟩ = false ∧ w.frozen? ⟨p, 1, none⟩ = false ∧ w.frozen? ⟨p, 2, none⟩ = false ∧ w.frozen? ⟨p, 3, none⟩ = false ∧ w.frozen? ⟨p, 4, none⟩ = false := ⟨h.free 0, h.free 1, h.free 2, h.free 3, h.free 4⟩

set_option maxRecDepth 10000 in
set_option maxHeartbeats 2000000 in
theorem plays_law (a b : Int) (ao : Option Addr) (n c : Nat) (z : Nat → Int × Bool × Bool) (w : World) (ha : -9223372036854775808 ≤ a) (ha' : a ≤ 9223372036854775807) (hb : -9223372036854775808 ≤ b) (hb' : b ≤ 9223372036854775807) (h : args.sactRow w ao n c z) :
    Calls Try.prog 7 #[.int .i64 a, .int .i64 b, .slice ao n c] w fun e w' => e = .returned (.bool true) ∧ Below w.heap.size w w' := by
  have m1 := mask.mask4 a
  have m2 := mask.mask5 b
  obtain ⟨x, hx, hx1⟩ : ∃ x : Nat, a % 16 = (x : Int) ∧ x ≤ 15 := ⟨(a % 16).toNat, by omega, by omega⟩
  obtain ⟨y, hy, hy1⟩ : ∃ y : Nat, b % 32 = (y : Int) ∧ y ≤ 31 := ⟨(b % 32).toNat, by omega, by omega⟩
  rw [hx] at m1
  rw [hy] at m2
  have HV : Hid (Va (1 + (x : Int)) (1 + (y : Int))) := Lib.hid ⟨by omega, by omega, by omega, by omega⟩
  have HN := Lib.hid (fun w => new_ok (1 + (x : Int)) (1 + (y : Int)) w HV.out)
  have HA := Lib.hid (fun w => awake w)
  obtain ⟨hn, hok, hrow⟩ := h
  unfold maxLen at hn
  have HOK := Lib.hid hok
  have HROW := Lib.hid hrow
  clear hx hy hok hrow
  go_enter Try.func7, Try.ntmps7
  go_wp2_with fail
  refine (HN.out _).mono ?_
  rintro e w1 ⟨p, rfl, o1⟩
  have HO1 := Lib.hid o1
  clear HN o1
  go_wp2_with fail
  refine (HA.out _).mono ?_
  rintro e w2 ⟨rfl, n2⟩
  have HO2 := Lib.hid (HO1.out.later n2)
  have HX2 : Hid (Blk (w2.alloc (.cells (rx (fresh (1 + (x : Int)) (1 + (y : Int)))) XR)) w2.heap.size (rx (fresh (1 + (x : Int)) (1 + (y : Int)))) XR) := Lib.hid (Blk.new _ _ _)
  have HP2 : Hid (Pl w (w2.alloc (.cells (rx (fresh (1 + (x : Int)) (1 + (y : Int)))) XR)) p w2.heap.size (fresh (1 + (x : Int)) (1 + (y : Int)))) := Lib.hid ⟨HO2.out.later ((Turns.refl _ _).alloc _), HX2.out, HO2.out.n.size, by have := HO2.out.sq.lt; omega⟩
  have HB2 : Hid (Bd (fresh (1 + (x : Int)) (1 + (y : Int))) (1 + (x : Int)) (1 + (y : Int)) 0 0) := Lib.hid ⟨rfl, rfl, Int.le_refl _, Int.le_refl _, Int.le_refl _, Int.le_refl _, fun h => by simp at h⟩
  clear HO1 n2 HO2 HX2
  go_wp2_with fail
  simp only [rx, sinceV, untilV, Bool.false_eq_true, if_false] at HP2
  generalize (w2.alloc (.cells #[.int .i64 (1 + (x : Int)), .int .i64 (1 + (y : Int)), .int .i64 (-1), .int .i64 (-1), .int .i64 0] XR)) = w3 at *
  generalize w2.heap.size = px at *
  go_loopw [10, 11] (fun nw i wr => ∃ (k : Nat) (now : Int) (s : Q), k ≤ n ∧ k ≤ 200 ∧ nw = .int .i64 now ∧ i = .int .i64 k ∧ Pl w wr p px s ∧ Bd s (1 + (x : Int)) (1 + (y : Int)) now k ∧ 0 ≤ now ∧ now ≤ 7 * k) (fun _ i _ => n - (intOf i).toNat)
  case atStart => exact ⟨0, 0, _, by omega, by omega, rfl, rfl, HP2.out, HB2.out, by omega, by omega⟩
  case round =>
    obtain ⟨k, now, s, hk, hk2, rfl, rfl, h3, hi3, hl0, hn1⟩ := hrel
    clear HP2 HB2
    have H3 := Lib.hid h3
    have HB := Lib.hid hi3
    clear h3 hi3
    by_cases hlt : k < n
    · by_cases hlt2 : k < 200
      · obtain ⟨b0, off, rfl, hb0, hc⟩ := HROW.out.resolve_left (by omega)
        have hzc := hc k hlt
        have e0 := (H3.out.own.n.cell (a := ⟨b0, off + k * 3, none⟩) hb0 (fun h => h)).trans hzc.1
        have e1 := (H3.out.own.n.cell (a := ⟨b0, off + k * 3 + 1, none⟩) hb0 (fun h => h)).trans hzc.2.1
        have e2 := (H3.out.own.n.cell (a := ⟨b0, off + k * 3 + 2, none⟩) hb0 (fun h => h)).trans hzc.2.2
        have hzo := (HOK.out k hlt).1
        have mz := mask.mask3 (z k).1
        have y0 : 0 ≤ (z k).1 % 8 := by omega
        have y1 : (z k).1 % 8 ≤ 7 := by omega
        clear hc hzc HOK HROW hb0
        generalize (z k).2.1 = zw at *
        generalize (z k).2.2 = zs at *
        generalize (z k).1 % 8 = d at *
        generalize (z k).1 = zn at *
        have HBN := Lib.hid (HB.out.tick (now' := now + d) (by omega) (by omega) zw zs)
        have HOKN := Lib.hid (HBN.out.ok HV.out (by omega) (by omega))
        have HT := Lib.hid (fun W (N : New wr W) => tick p s (now + d) zw zs W (H3.out.own.sq.turns N (fun h => h)) (HB.out.ok HV.out (by omega) (by omega)) (by omega) (by omega))
        have HR := Lib.hid (fun W => rtick s (now + d) zw zs W (HB.out.ok HV.out (by omega) (by omega)) HB.out.sr (by omega) (by omega))
        have HUS := Lib.hid (until_sign HOKN.out)
        have HNB : Hid (Blk (wr.alloc (.cells #[.int .i64 zn, .bool zw, .bool zs] 56)) wr.heap.size #[.int .i64 zn, .bool zw, .bool zs] 56) := Lib.hid (Blk.new _ _ _)
        go_wp2_with fail
        refine (HT.out _ ((Turns.refl _ _).alloc _)).mono ?_
        rintro e w4 ⟨rfl, a4⟩
        have hN4 : Turns (· = p) wr w4 := ((Turns.refl _ _).alloc _).trans (a4.2.mono (fun _ _ h => .inl h))
        have hb4 := a4.2.blk HNB.out (by have := H3.out.own.sq.lt; omega)
        have hx4 := hN4.blk H3.out.x H3.out.ne
        have ho4 := H3.out.own.at_ ⟨a4.1, hN4⟩
        have HO4 := Lib.hid ho4
        have HX4 := Lib.hid hx4
        have HP := Lib.hid (And.intro H3.out.le H3.out.ne)
        have b1 : w4.cell? ⟨wr.heap.size, 1, none⟩ = some (.bool zw) := hb4.cell 1
        have b2 : w4.cell? ⟨wr.heap.size, 2, none⟩ = some (.bool zs) := hb4.cell 2
        obtain ⟨x0, x1, x2, x3, x4⟩ := five hx4
        clear HT a4 hN4 hb4 hx4 ho4 HNB H3 HB e0 e1 e2
        generalize tickQ s (now + d) zw zs = q at *
        generalize tickA s (now + d) zw zs = A at *
        generalize wr.heap.size = pb at *
        unfold rx at HR
        generalize s.after = s0 at *
        generalize s.rest = s1 at *
        generalize sinceV s = s2 at *
        generalize untilV s = s3 at *
        generalize s.times = s4 at *
        go_wp2_with fail
        refine (HR.out _).mono ?_
        rintro e w5 ⟨rfl, n5⟩
        have HO5 := Lib.hid (HO4.out.later n5)
        have hx5 := n5.blk HX4.out (fun h => h)
        have HX5 := Lib.hid hx5
        obtain ⟨f0, f1, f2, f3, f4⟩ := frees hx5
        clear HR HO4 HX4 b1 b2 x0 x1 x2 x3 x4
        obtain ⟨x0, x1, x2, x3, x4⟩ := five hx5
        have hpxl := hx5.lt
        have hpl := HO5.out.sq.lt
        clear n5 hx5
        go_upto_region 15 with fail
        refine (show Code.wp _ _ _ _ ((puts w5 px 0 [.int .i64 q.after, .int .i64 q.rest, .int .i64 (sinceV q), .int .i64 (untilV q), .int .i64 q.times]).alloc (.cells #[.int .i64 q.after, .int .i64 q.rest, .int .i64 (sinceV q), .int .i64 (untilV q), .int .i64 q.times] XR)) from ?_)
        have H6 : Hid (Pl w ((puts w5 px 0 [.int .i64 q.after, .int .i64 q.rest, .int .i64 (sinceV q), .int .i64 (untilV q), .int .i64 q.times]).alloc (.cells #[.int .i64 q.after, .int .i64 q.rest, .int .i64 (sinceV q), .int .i64 (untilV q), .int .i64 q.times] XR)) p px q) := Lib.hid (by
          have hb := puts_blk _ [.int .i64 q.after, .int .i64 q.rest, .int .i64 (sinceV q), .int .i64 (untilV q), .int .i64 q.times] HX5.out rfl
          have ht := (puts_turns (S := (· = px)) (p := px) (.inl rfl) [.int .i64 q.after, .int .i64 q.rest, .int .i64 (sinceV q), .int .i64 (untilV q), .int .i64 q.times] 0 _ (Turns.refl (· = px) w5)).alloc (.cells #[.int .i64 q.after, .int .i64 q.rest, .int .i64 (sinceV q), .int .i64 (untilV q), .int .i64 q.times] XR)
          exact ⟨⟨ht.blk HO5.out.sq (fun e => HP.out.2 e.symm), HO5.out.n.trans (ht.mono (fun i _ hi => .inr (by have := HP.out.1; omega))), HO5.out.p0⟩, hb.alloc _, HP.out.1, HP.out.2⟩)
        clear x0 x1 x2 x3 x4 f0 f1 f2 f3 f4 HX5 HO5
        generalize ((puts w5 px 0 [.int .i64 q.after, .int .i64 q.rest, .int .i64 (sinceV q), .int .i64 (untilV q), .int .i64 q.times]).alloc (.cells #[.int .i64 q.after, .int .i64 q.rest, .int .i64 (sinceV q), .int .i64 (untilV q), .int .i64 q.times] XR)) = w6 at *
        have x3 := H6.out.x.cell 3
        have x4 := H6.out.x.cell 4
        have HM := Lib.hid (fun nq => suspended p q (w6.drewN nq) (H6.out.own.sq))
        have HJ := Lib.hid (fun nq => times p q (w6.drewN nq) (H6.out.own.sq))
        have hus := HUS.out
        clear HUS
        have e3 : (rx q)[3]? = some (.int .i64 (untilV q)) := rfl
        have e4 : (rx q)[4]? = some (.int .i64 q.times) := rfl
        rw [e3] at x3
        rw [e4] at x4
        clear e3 e4
        generalize untilV q = uv at *
        generalize q.times = tq at *
        generalize hsu : q.susp = su at *
        have HSU := Lib.hid hsu
        clear hsu
        cases su
        all_goals
          go_quiet ((first
            | (go_at_call 29; exact Calls.quiet_of_same (HM.out _))
            | (go_at_call 30; exact Calls.quiet_of_same (HJ.out _))))
          go_wp2
          go_roundw
          case rel => exact ⟨k + 1, _, _, by omega, by omega, rfl, by go_num, (by exact ⟨H6.out.own.later ((Turns.refl _ _).drewN _), H6.out.x.drewN _, H6.out.le, H6.out.ne⟩), HBN.out, by omega, by omega⟩
          case measure => simp [intOf]; omega
      · go_wp2
        go_ret
        exact ⟨rfl, H3.out.own.below⟩
    · go_wp2
      go_ret
      exact ⟨rfl, H3.out.own.below⟩
end Go.Proofs.Ytjiodpbgjhoakaa.stl
