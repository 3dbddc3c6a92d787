/-
  AntiphonClimbs: the law.
-/
import Derived.Test.YtfhbcdjbfjoknaaTopLive
import Derived.Test.YtfhbcdjbfjoknaaRatSteady
import Derived.Test.YtfhbcdjbfjoknaaLadNew2
import Derived.Test.YtfhbcdjbfjoknaaLadTick
import Derived.Test.YtfhbcdjbfjoknaaMask
namespace Go.Proofs.Ytfhbcdjbfjoknaa.top
open Go.RowKit mem
set_option linter.unusedVariables false

/-- the same ladder, each need times b -/
def scale (s : lad.Q) (b : Int) : lad.Q := { s with N := s.N.map (· * b) }
theorem nd_scale (s : lad.Q) (b : Int) (i : Nat) : lad.nd (scale s b) i = lad.nd s i * b := by
  unfold lad.nd scale
  simp only [List.getD_eq_getElem?_getD, List.getElem?_map]
  cases s.N[i]? <;> simp
theorem bad_scale (s : lad.Q) (b c : Int) (hb : 0 < b) : lad.badB (scale s b) (c * b) = lad.badB s c := by
  unfold lad.badB
  rw [show (scale s b).at' = s.at' from rfl, nd_scale]
  congr 1
  exact decide_eq_decide.2 ⟨fun h => Int.lt_of_mul_lt_mul_right h (Int.le_of_lt hb), fun h => Int.mul_lt_mul_of_pos_right h hb⟩
theorem good_scale (s : lad.Q) (b c : Int) (hb : 0 < b) (hs : s.spare = 0) : lad.goodB (scale s b) (c * b) = lad.goodB s c := by
  unfold lad.goodB lad.ampleF
  rw [show (scale s b).at' = s.at' from rfl, show (scale s b).aim = s.aim from rfl, show (scale s b).spare = s.spare from rfl, nd_scale, hs, Int.zero_mul, Int.zero_mul, Int.add_zero, Int.add_zero]
  congr 1
  exact decide_eq_decide.2 ⟨fun h => Int.le_of_mul_le_mul_right h hb, fun h => Int.mul_le_mul_of_nonneg_right h (Int.le_of_lt hb)⟩
theorem tick_scale (s : lad.Q) (b c : Int) (hb : 0 < b) (hs : s.spare = 0) : lad.tickQ (scale s b) (c * b) = scale (lad.tickQ s c) b := by
  unfold lad.tickQ
  rw [bad_scale s b c hb, good_scale s b c hb hs]
  rw [show (scale s b).down = s.down from rfl, show (scale s b).up = s.up from rfl, show (scale s b).bad = s.bad from rfl, show (scale s b).good = s.good from rfl, show (scale s b).at' = s.at' from rfl]
  split
  · split <;> rfl
  · split
    · split <;> rfl
    · rfl
theorem want_scale (s : lad.Q) (b x : Int) : lad.wantQ (scale s b) x = scale (lad.wantQ s x) b := by
  have hl : (scale s b).N.length = s.N.length := by unfold scale; simp
  unfold lad.wantQ lad.wantB
  rw [hl, show (scale s b).at' = s.at' from rfl]
  split
  · unfold lad.aimQ lad.stepQ; rw [hl]; rfl
  · unfold lad.aimQ; rw [hl]; rfl
def okB (q : lad.Q) : Bool := decide (q.N = [0, 500, 900]) && decide (q.spare = 0) && decide (q.at' < 3) && decide (q.aim < 3) && decide (1 ≤ q.down) && decide (q.down ≤ 8) && decide (1 ≤ q.up) && decide (q.up ≤ 8) && decide (0 ≤ q.bad) && decide (q.bad ≤ 100) && decide (0 ≤ q.good) && decide (q.good ≤ 100) && decide (0 ≤ q.moves) && decide (q.moves ≤ 100)
theorem okB_N {q : lad.Q} (h : okB q = true) : q.N = [0, 500, 900] ∧ q.spare = 0 := by
  simp only [okB, Bool.and_eq_true, decide_eq_true_eq] at h
  exact ⟨h.1.1.1.1.1.1.1.1.1.1.1.1.1, h.1.1.1.1.1.1.1.1.1.1.1.1.2⟩
theorem okB_ok {q : lad.Q} (h : okB q = true) {b : Int} (b0 : 0 ≤ b) (b1 : b ≤ 1024) : (scale q b).ok := by
  obtain ⟨hN, hs⟩ := okB_N h
  simp only [okB, Bool.and_eq_true, decide_eq_true_eq] at h
  obtain ⟨⟨⟨⟨⟨⟨⟨⟨⟨⟨⟨⟨⟨_, _⟩, h1⟩, h2⟩, h3⟩, h4⟩, h5⟩, h6⟩, h7⟩, h8⟩, h9⟩, h10⟩, h11⟩, h12⟩ := h
  have hl : (scale q b).N.length = 3 := by unfold scale; simp [hN]
  refine ⟨by rw [hl]; omega, by rw [hl]; omega, ?_, by rw [hl]; exact h1, by rw [hl]; exact h2, (by show 1 ≤ q.down; omega), (by show q.down ≤ 1048576; omega), (by show 1 ≤ q.up; omega), (by show q.up ≤ 1048576; omega), (by show 0 ≤ q.spare; omega), (by show q.spare ≤ 100; omega), (by show 0 ≤ q.bad; omega), (by show q.bad ≤ _; omega), (by show 0 ≤ q.good; omega), (by show q.good ≤ _; omega), (by show 0 ≤ q.moves; omega), (by show q.moves ≤ _; omega)⟩
  intro x hx
  unfold scale at hx
  rw [hN] at hx
  simp at hx
  rcases hx with rfl | rfl | rfl <;> omega
/-- n ticks are left -/
def chk (fin : Nat) : Nat → Int → lad.Q → Bool
  | 0, _, q => okB q && decide (q.at' = fin)
  | n + 1, t, q => okB q && chk fin n (t + 1) (lad.tickQ q (200 * min (t + 1) 10))
def begin_ (up : Int) (most : Int) : lad.Q := lad.wantQ (lad.wantQ (lad.fresh 3 up 0 [0, 500, 900] most) 0) most
theorem chk_all : (List.range 8).all (fun u => (List.range 4).all (fun m => chk (min m 2) (15 + 3 * u) 0 (begin_ (1 + (u : Int)) (m : Int)) && okB (lad.fresh 3 (1 + (u : Int)) 0 [0, 500, 900] (m : Int)) && okB (lad.wantQ (lad.fresh 3 (1 + (u : Int)) 0 [0, 500, 900] (m : Int)) 0))) = true := by decide +kernel
theorem chk_at (u m : Nat) (hu : u ≤ 7) (hm : m ≤ 3) : chk (min m 2) (15 + 3 * u) 0 (begin_ (1 + (u : Int)) (m : Int)) = true ∧ okB (lad.fresh 3 (1 + (u : Int)) 0 [0, 500, 900] (m : Int)) = true ∧ okB (lad.wantQ (lad.fresh 3 (1 + (u : Int)) 0 [0, 500, 900] (m : Int)) 0) = true := by
  have h1 := List.all_eq_true.1 chk_all u (List.mem_range.2 (by omega))
  have h2 := List.all_eq_true.1 h1 m (List.mem_range.2 (by omega))
  simp only [Bool.and_eq_true] at h2
  exact ⟨h2.1.1, h2.1.2, h2.2⟩
theorem chk_ok {fin n : Nat} {t : Int} {q : lad.Q} (h : chk fin n t q = true) : okB q = true := by
  cases n with
  | zero => simp only [chk, Bool.and_eq_true] at h; exact h.1
  | succ n => simp only [chk, Bool.and_eq_true] at h; exact h.1

/-- what is guessed behind the t-th send -/
theorem rate_small (x : Nat) (b : Int) (t : Nat) (h1 : 1 ≤ t) (h2 : t ≤ 1 + x) : rat.rateQ (rat.st x b t) ((t : Int) - 1) = (t : Int) * b * 1000 / (1 + (x : Int)) := by
  have hz : t - (1 + x) = 0 := by omega
  have hcut : rat.cutOf (rat.ent b (t - (1 + x)) t) ((t : Int) - 1 - (1 + (x : Int)) + 1) = 0 := rat.ent_cut b _ _ _ _ (by omega) (fun h => by omega) (fun h => by omega)
  have hlen : (rat.ent b (t - (1 + x)) t).length = t := by rw [rat.ent_len]; omega
  have hg : (rat.ent b (t - (1 + x)) t).getD 0 (0, 0) = (rat.ent b (t - (1 + x)) t)[0] := by
    rw [List.getD_eq_getElem?_getD, List.getElem?_eq_getElem (by omega), Option.getD_some]
  show (if rat.cutOf (rat.ent b (t - (1 + x)) t) ((t : Int) - 1 - (1 + (x : Int)) + 1) = (rat.ent b (t - (1 + x)) t).length then 0 else ((t : Int) * b - ((rat.ent b (t - (1 + x)) t).getD (rat.cutOf (rat.ent b (t - (1 + x)) t) ((t : Int) - 1 - (1 + (x : Int)) + 1)) (0, 0)).2) * 1000 / (1 + (x : Int))) = _
  rw [hcut, hlen, if_neg (by omega), hg, rat.ent_at _ _ _ _ (by omega)]
  show ((t : Int) * b - ((t - (1 + x) + 0 : Nat) : Int) * b) * 1000 / (1 + (x : Int)) = _
  rw [hz]
  simp
theorem guess_is (b : Int) (t : Nat) (hb : 1 ≤ b) : rat.guessF (rat.st 9 b (t + 1)) false (rat.rateQ (rat.st 9 b (t + 1)) (t : Int)) = 200 * min ((t : Int) + 1) 10 * b := by
  have e : ((t + 1 : Nat) : Int) - 1 = (t : Int) := by omega
  have hr : rat.rateQ (rat.st 9 b (t + 1)) (t : Int) = 100 * min ((t : Int) + 1) 10 * b := by
    by_cases h : t + 1 ≤ 10
    · have := rate_small 9 b (t + 1) (by omega) (by omega)
      rw [e] at this
      have h3 : ((t + 1 : Nat) : Int) * b * 1000 = 10 * (100 * (((t + 1 : Nat) : Int) * b)) := by omega
      rw [this, h3, show (1 + ((9 : Nat) : Int)) = 10 from rfl, show min ((t : Int) + 1) 10 = ((t + 1 : Nat) : Int) by omega, Int.mul_assoc 100]
      exact Int.mul_ediv_cancel_left _ (by decide)
    · have := rat.st_rate 9 b (t + 1) (by omega)
      rw [e] at this
      rw [this, show min ((t : Int) + 1) 10 = 10 by omega, Int.mul_comm]
      rfl
  have hp : 0 ≤ (100 * min ((t : Int) + 1) 10 - 1) * (b - 1) := Int.mul_nonneg (by omega) (by omega)
  unfold rat.guessF
  rw [hr]
  have hge : 1 ≤ 2 * (100 * min ((t : Int) + 1) 10 * b) := by
    have h1 : 0 < 100 * min ((t : Int) + 1) 10 * b := Int.mul_pos (by omega) (by omega)
    omega
  simp only [Bool.false_eq_true, if_false]
  rw [if_neg (by show ¬ (0 : Int) < 0; omega), show max (2 * (100 * min ((t : Int) + 1) 10 * b)) 1 = 2 * (100 * min ((t : Int) + 1) 10 * b) by omega, ← Int.mul_assoc, ← Int.mul_assoc]
  rfl
theorem scale_fresh (up m b : Int) : lad.fresh 3 up 0 [0, b * 500, b * 900] m = scale (lad.fresh 3 up 0 [0, 500, 900] m) b := by
  simp [lad.fresh, scale, Int.mul_comm]
theorem rise3 (b : Int) (h0 : 1 ≤ b) (h1 : b ≤ 1024) : lad.Rise [0, b * 500, b * 900] := by
  refine ⟨by simp, by simp, ?_, by simp, by simp; omega⟩
  intro k h1 h2 h3
  have : k = 1 ∨ k = 2 := by simp at h2; omega
  rcases this with rfl | rfl
  · simp; omega
  · simp; omega

/-- the memory: the meter, the ladder; what the meter's sends lie in is younger than B -/
structure Cm (w wr : World) (B p : Nat) (v : Value) (mt : rat.M) (q g c' : Nat) (s : lad.Q) : Prop where
  m : rat.Own w wr p v mt
  l : lad.Own w wr q g c' s
  ne : p ≠ q
  gp : g ≠ p
  qB : q < B
  gB : g < B
  B0 : B ≤ wr.heap.size
  vq : ∀ x, v.ownBlock = some x → B ≤ x
section
variable {w wr w2 : World} {B p : Nat} {v v2 : Value} {mt mt2 : rat.M} {q g c' : Nat} {s s2 : lad.Q}
theorem Cm.later (h : Cm w wr B p v mt q g c' s) (n : New wr w2) : Cm w w2 B p v mt q g c' s := ⟨h.m.later n, h.l.later n, h.ne, h.gp, h.qB, h.gB, Nat.le_trans h.B0 n.size, h.vq⟩
theorem Cm.sent (h : Cm w wr B p v mt q g c' s) (k : rat.Lft wr w2 p v v2 mt2) : Cm w w2 B p v2 mt2 q g c' s :=
  ⟨h.m.lft k, ⟨⟨k.t.blk h.l.ls.blk (fun e => by
      rcases e with e | e
      · exact h.ne e.symm
      · have := h.vq q e; have := h.qB; omega), fun i hi => (k.t.cell (a := ⟨g, i, none⟩) h.l.ls.gl (fun e => by
      rcases e with e | e
      · exact h.gp e
      · have := h.vq g e; have := h.gB; omega)).trans (h.l.ls.row i hi), Nat.lt_of_lt_of_le h.l.ls.gl k.t.size, h.l.ls.ne⟩, (h.m.lft k).n, h.l.p0⟩, h.ne, h.gp, h.qB, h.gB, Nat.le_trans h.B0 k.t.size, fun x hx => by
    rcases k.vb x hx with e | e
    · exact h.vq x e
    · exact Nat.le_trans h.B0 e⟩
theorem Cm.step (h : Cm w wr B p v mt q g c' s) (k : lad.At wr w2 q g c' s2) : Cm w w2 B p v mt q g c' s2 :=
  ⟨⟨⟨k.2.blk h.m.ms.blk h.ne, h.m.ms.tl.turns k.2 (fun x hx e => by have := h.vq x hx; have := h.qB; omega), h.m.ms.ne⟩, (h.l.at_ k).n, h.m.p0, h.m.v0⟩, h.l.at_ k, h.ne, h.gp, h.qB, h.gB, Nat.le_trans h.B0 k.2.size, h.vq⟩
end

set_option maxRecDepth 10000 in
set_option maxHeartbeats 4000000 in
theorem climbs_law (a0 b0 c0 : Int) (w : World) (ha0 : -9223372036854775808 ≤ a0) (ha1 : a0 ≤ 9223372036854775807) (hb0 : -9223372036854775808 ≤ b0) (hb1 : b0 ≤ 9223372036854775807) (hc0 : -9223372036854775808 ≤ c0) (hc1 : c0 ≤ 9223372036854775807) :
    Calls Try.prog 8 #[.int .i64 a0, .int .i64 b0, .int .i64 c0] w fun e w' => e = .returned (.bool true) ∧ Below w.heap.size w w' := by
  have HL := Lib.hid (live w)
  have M3 := mask.mask3 a0
  have M2 := mask.mask2 b0
  have M10 := mask.mask10 c0
  obtain ⟨x, hx, hx1⟩ : ∃ x : Nat, a0 % 8 = (x : Int) ∧ x ≤ 7 := ⟨(a0 % 8).toNat, by omega, by omega⟩
  obtain ⟨y, hy, hy1⟩ : ∃ y : Nat, b0 % 4 = (y : Int) ∧ y ≤ 3 := ⟨(b0 % 4).toNat, by omega, by omega⟩
  obtain ⟨b, hb, hbb0, hbb1⟩ : ∃ b : Int, 1 + c0 % 1024 = b ∧ 1 ≤ b ∧ b ≤ 1024 := ⟨_, rfl, by omega, by omega⟩
  rw [hx] at M3
  rw [hy] at M2
  have W0 : IntKind.i64.wrap (1 + c0 % 1024) = b := by rw [hb]; exact IntWalk.i64_in _ (by omega)
  have W5 : IntKind.i64.wrap (b * 500) = b * 500 := IntWalk.i64_in _ (by omega)
  have W9 : IntKind.i64.wrap (b * 900) = b * 900 := IntWalk.i64_in _ (by omega)
  have HN := Lib.hid (fun W => rat.new_ok 10 W (by omega))
  have H0 : Hid (rat.fresh 10 = rat.st 9 b 0) := Lib.hid (by simp [rat.fresh, rat.st, rat.ent])
  have HCK := Lib.hid (chk_at x y hx1 hy1)
  have HBB : Hid (1 ≤ b ∧ b ≤ 1024) := Lib.hid ⟨hbb0, hbb1⟩
  have hnw := (fun (W : World) => lad.new_ok 3 (1 + (x : Int)) 0 (y : Int) (some ⟨W.heap.size, 0, none⟩) 3 [0, b * 500, b * 900] (W.alloc (.cells #[.int .i64 0, .int .i64 (b * 500), .int .i64 (b * 900)] 3)) (.inr ⟨W.heap.size, 0, rfl, by simp, fun k hk => by
    have hbk := Blk.new W #[.int .i64 0, .int .i64 (b * 500), .int .i64 (b * 900)] 3
    have : k = 0 ∨ k = 1 ∨ k = 2 := by simp at hk; omega
    rcases this with rfl | rfl | rfl
    · exact hbk.cell 0
    · exact hbk.cell 1
    · exact hbk.cell 2⟩) ⟨by omega, by omega, by omega, by omega, by omega, by omega⟩ (rise3 b HBB.out.1 HBB.out.2))
  simp only [show ([0, b * 500, b * 900] : List Int).length = 3 from rfl] at hnw
  have HNW := Lib.hid hnw
  clear hnw
  clear hx hy hb ha0 ha1 hb0 hb1 hc0 hc1 hbb0 hbb1
  go_enter Try.func8, Try.ntmps8
  go_wp2_with fail
  refine HL.out.mono ?_
  rintro e w1 ⟨rfl, n1⟩
  have N1 := Lib.hid n1
  clear n1 HL
  go_wp2_with fail
  refine (HN.out _).mono ?_
  rintro e w2 ⟨p, rfl, o2⟩
  have HO2 := Lib.hid o2
  have HLT : Hid (p < w2.heap.size ∧ w.heap.size ≤ w1.heap.size) := Lib.hid ⟨o2.ms.blk.lt, N1.out.size⟩
  clear o2 HN
  go_wp2_with fail
  refine (HNW.out _).mono ?_
  rintro e w3 ⟨q, g, c', rfl, o3⟩
  have hsz : (w2.alloc (.cells #[.int .i64 0, .int .i64 (b * 500), .int .i64 (b * 900)] 3)).heap.size = w2.heap.size + 1 := by simp
  have HL3 : Hid (lad.Own w w3 q g c' (scale (lad.fresh 3 (1 + (x : Int)) 0 [0, 500, 900] (y : Int)) b) ∧ p < q ∧ rat.Own w w3 p (.slice none 0 0) (rat.st 9 b 0)) := Lib.hid (by
    rw [← scale_fresh, ← H0.out]
    have n12 : New w w2 := N1.out.trans (HO2.out.n.mono (fun _ _ h => h.elim))
    have n2a : New w2 (w2.alloc (.cells #[.int .i64 0, .int .i64 (b * 500), .int .i64 (b * 900)] 3)) := (Turns.refl _ _).alloc _
    refine ⟨lad.Own.of_new (n12.trans (n2a.mono (fun _ _ h => h.elim))) o3, ?_, ?_⟩
    · have := o3.p0; have := HLT.out; omega
    · have h1 := HO2.out.later (n2a.trans (o3.n.mono (fun _ _ h => h.elim)))
      exact ⟨h1.ms, N1.out.trans (h1.n.mono (fun _ _ h => h.elim)), Nat.le_trans N1.out.size h1.p0, fun g hg => by simp [Value.ownBlock] at hg⟩)
  have HGP : Hid (g ≠ p) := Lib.hid (fun e => by
    have h1 := o3.ls.row 1 (by show 1 < 3; decide)
    have h2 := HL3.out.2.2.ms.blk.cell 1
    rw [e, h2] at h1
    injection h1 with h1
    cases h1)
  have HC3 : Hid (Cm w w3 w3.heap.size p (.slice none 0 0) (rat.st 9 b 0) q g c' (scale (lad.fresh 3 (1 + (x : Int)) 0 [0, 500, 900] (y : Int)) b)) := Lib.hid ⟨HL3.out.2.2, HL3.out.1, by have := HL3.out.2.1; omega, HGP.out, o3.ls.blk.lt, o3.ls.gl, Nat.le_refl _, fun z hz => by simp [Value.ownBlock] at hz⟩
  clear o3 HNW W0 W5 W9 M3 M2 M10 hsz HO2 HLT N1 H0 HL3 HGP
  have hwt1 := lad.want q g c' (scale (lad.fresh 3 (1 + (x : Int)) 0 [0, 500, 900] (y : Int)) b) 0 w3 HC3.out.l.ls (okB_ok HCK.out.2.1 (by have := HBB.out; omega) HBB.out.2)
  rw [want_scale] at hwt1
  have HW1 := Lib.hid hwt1
  clear hwt1
  go_wp2_with fail
  refine HW1.out.mono ?_
  rintro e w4 ⟨rfl, a4⟩
  have HC4 := Lib.hid (HC3.out.step a4)
  clear a4 HW1 HC3
  have hwt2 := lad.want q g c' (scale (lad.wantQ (lad.fresh 3 (1 + (x : Int)) 0 [0, 500, 900] (y : Int)) 0) b) (y : Int) w4 HC4.out.l.ls (okB_ok HCK.out.2.2 (by have := HBB.out; omega) HBB.out.2)
  rw [want_scale] at hwt2
  have HW2 := Lib.hid hwt2
  clear hwt2
  go_wp2_with fail
  refine HW2.out.mono ?_
  rintro e w5 ⟨rfl, a5⟩
  have HC5 : Hid (Cm w w5 w3.heap.size p (.slice none 0 0) (rat.st 9 b 0) q g c' (scale (begin_ (1 + (x : Int)) (y : Int)) b)) := Lib.hid (HC4.out.step a5)
  have HK5 := Lib.hid HCK.out.1
  clear a5 HW2 HC4 HCK
  generalize begin_ (1 + (x : Int)) (y : Int) = s5 at *
  generalize w3.heap.size = B at *
  have W1 : IntKind.i64.wrap (3 * (1 + (x : Int))) = 3 * (1 + (x : Int)) := IntWalk.i64_in _ (by omega)
  have W2 : IntKind.i64.wrap (12 + 3 * (1 + (x : Int))) = ((15 + 3 * x : Nat) : Int) := by rw [IntWalk.i64_in _ (by omega)]; omega
  obtain ⟨T, hT, hT1⟩ : ∃ T, T = 15 + 3 * x ∧ T ≤ 40 := ⟨_, rfl, by omega⟩
  rw [← hT] at W2 HK5
  go_upto_region 11 with fail
  have HT := Lib.hid hT
  clear W1 W2 hT
  go_wp2_with fail
  go_loopw [52] (fun iv wr => ∃ (t k : Nat) (v : Value) (s : lad.Q), t + k = T ∧ iv = .int .i64 t ∧ Cm w wr B p v (rat.st 9 b t) q g c' (scale s b) ∧ chk (min y 2) k t s = true) (fun iv _ => T - (intOf iv).toNat)
  case atStart => exact ⟨0, T, _, s5, by omega, rfl, HC5.out, HK5.out⟩
  case round =>
    obtain ⟨t, k, v, s, htk, rfl, hc, hk⟩ := hrel
    have HC := Lib.hid hc
    have HK := Lib.hid hk
    clear hc hk HC5 HK5
    cases k with
    | zero =>
      obtain rfl : t = T := by omega
      have d1 : decide ((t : Int) < (t : Int)) = false := decide_eq_false (by omega)
      have d2 : decide ((t : Int) < 15 + 3 * (x : Int)) = false := decide_eq_false (by have := HT.out; omega)
      have hk := HK.out
      simp only [chk, Bool.and_eq_true, decide_eq_true_eq] at hk
      have hat := lad.at_ q g c' (scale s b) wr HC.out.l.ls
      rw [show (scale s b).at' = s.at' from rfl, hk.2] at hat
      have HAT := Lib.hid hat
      clear hat hk
      go_wp2_with fail
      refine HAT.out.mono ?_
      rintro e w6 ⟨rfl, rfl⟩
      go_wp2_with fail
      all_goals
        go_ret
        exact ⟨congrArg (fun b => Ending.returned (Value.bool b)) (beq_iff_eq.2 (by omega)), HC.out.l.below⟩
    | succ k =>
      have d1 : decide ((t : Int) < (T : Int)) = true := decide_eq_true (by omega)
      have d2 : decide ((t : Int) < 15 + 3 * (x : Int)) = true := decide_eq_true (by have := HT.out; omega)
      have hk := HK.out
      simp only [chk, Bool.and_eq_true] at hk
      have hsp := (okB_N hk.1).2
      have hadd := rat.addq p v (rat.st 9 b t) t b wr HC.out.m.ms (rat.st_ok 9 b t (by omega) (by have := HBB.out; omega) (by have := HBB.out; omega) (by omega)) (by omega) (by omega) (by have := HBB.out; omega) (by have := HBB.out; omega)
      rw [rat.st_add 9 b t (by have := HBB.out; omega) (by have := HBB.out; omega)] at hadd
      have HADD := Lib.hid hadd
      have HKN := Lib.hid hk.2
      have HTS := Lib.hid (tick_scale s b (200 * min ((t : Int) + 1) 10) (by have := HBB.out; omega) hsp)
      have HOK := Lib.hid (okB_ok hk.1 (b := b) (by have := HBB.out; omega) HBB.out.2)
      clear hadd hk hsp
      go_wp2_with fail
      refine HADD.out.mono ?_
      rintro e w6 ⟨rfl, v6, l6⟩
      have HC6 := Lib.hid (HC.out.sent l6)
      clear l6 HADD HC
      have hgs := rat.guessq p v6 (rat.st 9 b (t + 1)) t false w6 HC6.out.m.ms (rat.st_ok 9 b (t + 1) (by omega) (by have := HBB.out; omega) (by have := HBB.out; omega) (by omega)) (by omega) (by omega)
      rw [guess_is b t HBB.out.1] at hgs
      have HGS := Lib.hid hgs
      clear hgs
      go_wp2_with fail
      refine HGS.out.mono ?_
      rintro e w7 ⟨rfl, n7⟩
      have HC7 := Lib.hid (HC6.out.later n7)
      clear n7 HGS HC6
      have htk2 := lad.tick q g c' (scale s b) (200 * min ((t : Int) + 1) 10 * b) w7 HC7.out.l.ls HOK.out
      rw [HTS.out] at htk2
      have HTK := Lib.hid htk2
      clear htk2
      generalize 200 * min ((t : Int) + 1) 10 * b = gs at *
      go_wp2_with fail
      refine HTK.out.mono ?_
      rintro e w8 ⟨rfl, a8⟩
      have HC8 := Lib.hid (HC7.out.step a8)
      clear a8 HTK HC7
      go_wp2_with fail
      go_roundw
      case rel => exact ⟨t + 1, k, v6, _, by omega, by go_num, HC8.out, HKN.out⟩
      case measure => simp [intOf]; omega
end Go.Proofs.Ytfhbcdjbfjoknaa.top
