/-
  AntiphonAsks: the law.
-/
import Derived.Test.YtfhbcdjbfjoknaaTopLive
import Derived.Test.YtfhbcdjbfjoknaaGatSeq
import Derived.Test.YtfhbcdjbfjoknaaPliAwake
import Derived.Test.YtfhbcdjbfjoknaaBoolsRow
import Derived.Test.YtfhbcdjbfjoknaaMask
namespace Go.Proofs.Ytfhbcdjbfjoknaa.top
open Go.RowKit mem
set_option linter.unusedVariables false

/-- both states behind k steps -/
structure As (g : gat.G) (s : pli.Q) (f m : Int) (k : Nat) : Prop where
  v : g.v = true
  gm : g.m = 0
  gp : g.p = false
  a0 : 0 ≤ g.a
  s0 : 0 ≤ g.s
  s1 : g.s ≤ k
  t0 : 0 ≤ g.t
  t1 : g.t ≤ k
  fi : s.first = f
  mo : s.most = m
  w0 : 0 ≤ s.wait
  w1 : s.wait ≤ m
  n0 : 0 ≤ s.sent
  n1 : s.sent ≤ k
section
variable {g : gat.G} {s : pli.Q} {f m : Int} {k : Nat}
theorem As.gok (h : As g s f m k) (hk : k ≤ 1000) : g.ok := ⟨by rw [h.gm]; decide, h.a0, h.s0, by have := h.s1; omega, h.t0, by have := h.t1; omega⟩
theorem As.sok (h : As g s f m k) (hk : k ≤ 1000) (f0 : 1 ≤ f) (f1 : f ≤ m) (m1 : m ≤ 1073741824) : s.ok :=
  ⟨by rw [h.fi]; exact f0, by rw [h.fi, h.mo]; exact f1, by rw [h.mo]; exact m1, h.w0, by have := h.w1; omega, h.n0, by have := h.n1; omega⟩
theorem As.pass (h : As g s f m k) (b : Bool) : As (gat.passG g 0 b) s f m (k + 1) := by
  obtain ⟨h1, h2, h3, h4, h5, h6, h7, h8, h9, h10, h11, h12, h13, h14⟩ := h
  unfold gat.passG
  rw [h3]
  simp only [Bool.false_eq_true, if_false]
  split
  · exact ⟨h1, h2, h3, h4, h5, by omega, h7, by omega, h9, h10, h11, h12, h13, by omega⟩
  · refine ⟨h1, h2, h3, Int.le_refl 0, h5, (by show g.s ≤ _; omega), ?_, ?_, h9, h10, h11, h12, h13, by omega⟩
    · show 0 ≤ (if (g.v && g.o && (g.a != 0)) = true then g.t + 1 else g.t)
      split <;> omega
    · show (if (g.v && g.o && (g.a != 0)) = true then g.t + 1 else g.t) ≤ _
      split <;> omega
theorem As.shut (h : As g s f m k) : As (gat.shutG g) s f m (k + 1) := by
  obtain ⟨h1, h2, h3, h4, h5, h6, h7, h8, h9, h10, h11, h12, h13, h14⟩ := h
  refine ⟨h1, h2, h3, h4, ?_, ?_, h7, (by show g.t ≤ _; omega), h9, h10, h11, h12, h13, by omega⟩
  · show 0 ≤ (if g.o = true then g.s + 1 else g.s)
    split <;> omega
  · show (if g.o = true then g.s + 1 else g.s) ≤ _
    split <;> omega
theorem As.more (h : As g s f m k) {k' : Nat} (hk : k ≤ k') : As g s f m k' :=
  { h with s1 := by have := h.s1; omega, t1 := by have := h.t1; omega, n1 := by have := h.n1; omega }
theorem As.want (h : As g s f m k) (f0 : 1 ≤ f) (f1 : f ≤ m) (on : Bool) (now : Int) : As g (pli.wantQ s on now) f m (k + 1) ∧ (pli.wantQ s on now).wanted = on ∧ (pli.wantQ s on now).sent = (if pli.wantB s on now = true then s.sent + 1 else s.sent) := by
  obtain ⟨h1, h2, h3, h4, h5, h6, h7, h8, h9, h10, h11, h12, h13, h14⟩ := h
  cases on
  · exact ⟨⟨h1, h2, h3, h4, h5, by omega, h7, by omega, h9, h10, h11, h12, h13, (by show s.sent ≤ _; omega)⟩, rfl, rfl⟩
  · cases hw : s.wanted
    · have e : pli.wantQ s true now = pli.askQ { s with wanted := true } now s.first := by simp [pli.wantQ, hw]
      have eb : pli.wantB s true now = true := by simp [pli.wantB, hw]
      rw [e, eb]
      exact ⟨⟨h1, h2, h3, h4, h5, by omega, h7, by omega, h9, h10, (by show 0 ≤ s.first; omega), (by show s.first ≤ m; omega), (by show 0 ≤ s.sent + 1; omega), (by show s.sent + 1 ≤ _; omega)⟩, rfl, rfl⟩
    · have e : pli.wantQ s true now = pli.tickQ s now := by simp [pli.wantQ, hw]
      have eb : pli.wantB s true now = pli.tickB s now := by simp [pli.wantB, hw]
      rw [e, eb]
      unfold pli.tickQ
      cases ht : pli.tickB s now
      · exact ⟨⟨h1, h2, h3, h4, h5, by omega, h7, by omega, h9, h10, h11, h12, h13, (by show s.sent ≤ _; omega)⟩, hw, rfl⟩
      · simp only [if_true]
        exact ⟨⟨h1, h2, h3, h4, h5, by omega, h7, by omega, h9, h10, (by show 0 ≤ min (2 * s.wait) s.most; omega), (by show min (2 * s.wait) s.most ≤ m; omega), (by show 0 ≤ s.sent + 1; omega), (by show s.sent + 1 ≤ _; omega)⟩, hw, rfl⟩
end
theorem wantB_on {s : pli.Q} {on : Bool} {now : Int} (h : pli.wantB s on now = true) : on = true := by
  unfold pli.wantB at h
  cases on
  · simp at h
  · rfl

/-- the memory -/
structure Am (w wr : World) (p q : Nat) (g : gat.G) (s : pli.Q) : Prop where
  g : gat.Gt wr p g
  s : pli.Sq wr q s
  ne : p ≠ q
  p0 : w.heap.size ≤ p
  q0 : w.heap.size ≤ q
  n : New w wr
section
variable {w wr w2 : World} {p q : Nat} {g g2 : gat.G} {s s2 : pli.Q}
theorem Am.gate (h : Am w wr p q g s) (k : gat.At wr w2 p g2) : Am w w2 p q g2 s :=
  ⟨k.1, h.s.turns k.2 (fun e => h.ne e.symm), h.ne, h.p0, h.q0, h.n.trans (k.2.mono (fun i _ hi => .inr (by rw [hi]; exact h.p0)))⟩
theorem Am.ask (h : Am w wr p q g s) (k : pli.At wr w2 q s2) : Am w w2 p q g s2 :=
  ⟨h.g.turns k.2 h.ne, k.1, h.ne, h.p0, h.q0, h.n.trans (k.2.mono (fun i _ hi => .inr (by rw [hi]; exact h.q0)))⟩
theorem Am.below (h : Am w wr p q g s) : Below w.heap.size w wr := h.n.below (Nat.le_refl _) (fun _ _ h => h.elim)
end

set_option maxRecDepth 10000 in
set_option maxHeartbeats 4000000 in
theorem asks_law (a b : Int) (ao : Option Addr) (n c : Nat) (z : Nat → Bool) (w : World) (a0 : -9223372036854775808 ≤ a) (a1 : a ≤ 9223372036854775807) (b0 : -9223372036854775808 ≤ b) (b1 : b ≤ 9223372036854775807) (h : args.BoolsAt w ao n z) :
    Calls Try.prog 7 #[.int .i64 a, .int .i64 b, .slice ao n c] w fun e w' => e = .returned (.bool true) ∧ Below w.heap.size w w' := by
  have HL := Lib.hid (live w)
  obtain ⟨hn, hrow⟩ := h
  have HROW := Lib.hid hrow
  clear hrow
  unfold maxLen at hn
  have M3 := mask.mask3 a
  have M5 := mask.mask5 b
  have hx : 0 ≤ a % 8 ∧ a % 8 ≤ 7 := by omega
  have hy : 0 ≤ b % 32 ∧ b % 32 ≤ 31 := by omega
  generalize a % 8 = x at *
  generalize b % 32 = y at *
  obtain ⟨hx0, hx1⟩ := hx
  obtain ⟨hy0, hy1⟩ := hy
  obtain ⟨f, hf⟩ : ∃ f, f = 1 + x := ⟨_, rfl⟩
  obtain ⟨m, hm⟩ : ∃ m, m = f + y := ⟨_, rfl⟩
  have W1 : IntKind.i64.wrap (1 + x) = f := by rw [hf]; exact IntWalk.i64_in _ (by omega)
  have W2 : IntKind.i64.wrap (f + y) = m := by rw [hm]; exact IntWalk.i64_in _ (by omega)
  have HB : Hid (1 ≤ f ∧ f ≤ 8 ∧ f ≤ m ∧ m ≤ 100) := Lib.hid (by omega)
  have HG := Lib.hid (fun w => gat.new true 0 w)
  have HN := Lib.hid (fun w => pli.new_ok f m w ⟨HB.out.1, HB.out.2.2.1, by have := HB.out.2.2.2; omega⟩)
  clear hf hm a0 a1 b0 b1
  go_enter Try.func7, Try.ntmps7
  go_wp2_with fail
  refine HL.out.mono ?_
  rintro e w1 ⟨rfl, n1⟩
  have N1 := Lib.hid n1
  clear n1 HL
  go_wp2_with fail
  refine (HG.out w1).mono ?_
  rintro e w2 ⟨rfl, hg2, n2⟩
  have HG2 := Lib.hid hg2
  have N2 : Hid (New w1 w2 ∧ New w w2) := Lib.hid ⟨n2, N1.out.trans (n2.mono (fun _ _ h => h.elim))⟩
  clear hg2 n2 HG
  go_wp2_with fail
  refine (HN.out w2).mono ?_
  rintro e w3 ⟨q, rfl, o3⟩
  have HA3 : Hid (Am w w3 w1.heap.size q (gat.fresh true 0) (pli.fresh f m)) := Lib.hid ⟨HG2.out.turns o3.n (fun h => h), o3.sq, by have := HG2.out.lt; have := o3.p0; omega, N1.out.size, Nat.le_trans N2.out.2.size o3.p0, N2.out.2.trans (o3.n.mono (fun _ _ h => h.elim))⟩
  have HS3 : Hid (As (gat.fresh true 0) (pli.fresh f m) f m 0) := Lib.hid ⟨rfl, rfl, rfl, Int.le_refl _, Int.le_refl _, Int.le_refl _, Int.le_refl _, Int.le_refl _, rfl, rfl, Int.le_refl _, (by show (0 : Int) ≤ m; have := HB.out; omega), Int.le_refl _, Int.le_refl _⟩
  clear o3 HG2 N1 N2 HN
  generalize w1.heap.size = p at *
  go_wp2_with fail
  go_loopw [10, 11] (fun cv tv wr => ∃ (i : Nat) (g : gat.G) (s : pli.Q), i ≤ 200 ∧ i ≤ n ∧ tv = .int .i64 i ∧ cv = .int .i64 s.sent ∧ Am w wr p q g s ∧ As g s f m (3 * i) ∧ s.sent ≤ i) (fun _ tv _ => 200 - (intOf tv).toNat)
  case atStart => exact ⟨0, _, _, by omega, by omega, rfl, rfl, HA3.out, HS3.out, Int.le_refl _⟩
  case round =>
    obtain ⟨i, g, s, hi, hin, rfl, rfl, ha, hs, hsi⟩ := hrel
    have HA := Lib.hid ha
    have HS := Lib.hid hs
    have hs0 := hs.n0
    clear ha hs HA3 HS3
    by_cases hgo : i < n ∧ i < 200
    · obtain ⟨h1, h2⟩ := hgo
      obtain ⟨bb, off, rfl, hb, hc⟩ := HROW.out.resolve_left (by omega)
      have e0 := (HA.out.n.cell (a := ⟨bb, off + i, none⟩) hb (fun h => h)).trans (hc i h1)
      generalize z i = zi at *
      have d1 : decide ((i : Int) < (n : Int)) = true := decide_eq_true (by omega)
      have d2 : decide ((i : Int) < 200) = true := decide_eq_true (by omega)
      have j1 : (i : Int) < (n : Int) := by omega
      have HP := Lib.hid (gat.pass p g 0 zi wr HA.out.g (HS.out.gok (by omega)))
      have HS1 := Lib.hid (HS.out.pass zi)
      obtain ⟨r, hr⟩ : ∃ r : Nat, r = i % 23 := ⟨_, rfl⟩
      have T1 : (i : Int).tmod 23 = (r : Int) := by rw [hr, Int.tmod_eq_emod_of_nonneg (by omega)]; rfl
      have T2 : (i : Int) % 23 = (r : Int) := by rw [hr]; rfl
      clear hr
      clear hc
      go_wp2_with fail
      refine HP.out.mono ?_
      rintro e w4 ⟨rfl, a4⟩
      have HA4 := Lib.hid (HA.out.gate a4)
      clear a4 HP HA HS e0
      generalize gat.passG g 0 zi = g4 at *
      by_cases hr : r = 22
      · have e22 : ((r : Int) == 22) = true := by simp [hr]
        have HSH := Lib.hid (gat.shut p g4 w4 HA4.out.g (HS1.out.gok (by omega)))
        have HS5 := Lib.hid (HS1.out.shut)
        clear hr
        go_wp2_with fail
        refine HSH.out.mono ?_
        rintro e w5 ⟨rfl, a5⟩
        have HA5 := Lib.hid (HA4.out.gate a5)
        clear a5 HSH HA4 HS1
        generalize gat.shutG g4 = g5 at *
        have HNE := gat.needs p g5 w5 HA5.out.g
        generalize (if gat.needsB g5 = true then gat.G.m g5 else 0) = an at HNE
        have HWA := Lib.hid (pli.want q s (gat.needsB g5) (i : Int) w5 HA5.out.s (HS5.out.sok (by omega) HB.out.1 HB.out.2.2.1 (by have := HB.out; omega)) (by omega) (by omega))
        have HSW := Lib.hid (HS5.out.want HB.out.1 HB.out.2.2.1 (gat.needsB g5) (i : Int))
        have HON := Lib.hid (fun h => wantB_on (s := s) (on := gat.needsB g5) (now := (i : Int)) h)
        generalize gat.needsB g5 = nb at *
        have HNE := Lib.hid HNE
        go_wp2_with fail
        refine HNE.out.mono ?_
        rintro e w6 ⟨rfl, rfl⟩
        clear HNE
        go_wp2_with fail
        refine HWA.out.mono ?_
        rintro e w7 ⟨rfl, a7⟩
        have HA7 := Lib.hid (HA5.out.ask a7)
        clear a7 HWA HA5 HS5
        have hsw := HSW.out
        cases hwb : pli.wantB s nb (i : Int)
        · rw [hwb] at hsw
          have HSS := Lib.hid hsw
          have hwd := pli.wanted q (pli.wantQ s nb (i : Int)) w7 HA7.out.s
          rw [hsw.2.1] at hwd
          have HWD := Lib.hid hwd
          clear hwb hwd hsw HSW HON
          generalize pli.wantQ s nb (i : Int) = s7 at *
          have hse : s7.sent = s.sent := HSS.out.2.2
          go_wp2_with fail
          refine HWD.out.mono ?_
          rintro e w8 ⟨rfl, rfl⟩
          cases nb
          all_goals
            go_wp2_with fail
            go_roundw
            case rel => exact ⟨i + 1, _, s7, by omega, by omega, by go_num, by rw [hse], HA7.out, HSS.out.1.more (by omega), by rw [hse]; omega⟩
            case measure => simp [intOf]; omega
        · obtain rfl := HON.out hwb
          rw [hwb] at hsw
          have HSS := Lib.hid hsw
          have hwd := pli.wanted q (pli.wantQ s true (i : Int)) w7 HA7.out.s
          rw [hsw.2.1] at hwd
          have HWD := Lib.hid hwd
          clear hwb hwd hsw HSW HON
          generalize pli.wantQ s true (i : Int) = s7 at *
          have HSE : Hid (s7.sent = s.sent + 1) := Lib.hid HSS.out.2.2
          have W5 : IntKind.i64.wrap (s.sent + 1) = s.sent + 1 := IntWalk.i64_in _ (by omega)
          go_wp2_with fail
          refine HWD.out.mono ?_
          rintro e w8 ⟨rfl, rfl⟩
          go_wp2_with fail
          go_roundw
          case rel => exact ⟨i + 1, _, s7, by omega, by omega, by go_num, by rw [HSE.out], HA7.out, HSS.out.1.more (by omega), by rw [HSE.out]; omega⟩
          case measure => simp [intOf]; omega
      · have e22 : ((r : Int) == 22) = false := by simp; omega
        have HS5 := Lib.hid (HS1.out.more (k' := 3 * i + 2) (by omega))
        have HA5 := Lib.hid HA4.out
        clear hr HA4 HS1
        have HNE := gat.needs p g4 w4 HA5.out.g
        generalize (if gat.needsB g4 = true then gat.G.m g4 else 0) = an at HNE
        have HWA := Lib.hid (pli.want q s (gat.needsB g4) (i : Int) w4 HA5.out.s (HS5.out.sok (by omega) HB.out.1 HB.out.2.2.1 (by have := HB.out; omega)) (by omega) (by omega))
        have HSW := Lib.hid (HS5.out.want HB.out.1 HB.out.2.2.1 (gat.needsB g4) (i : Int))
        have HON := Lib.hid (fun h => wantB_on (s := s) (on := gat.needsB g4) (now := (i : Int)) h)
        generalize gat.needsB g4 = nb at *
        have HNE := Lib.hid HNE
        go_wp2_with fail
        refine HNE.out.mono ?_
        rintro e w6 ⟨rfl, rfl⟩
        clear HNE
        go_wp2_with fail
        refine HWA.out.mono ?_
        rintro e w7 ⟨rfl, a7⟩
        have HA7 := Lib.hid (HA5.out.ask a7)
        clear a7 HWA HA5 HS5
        have hsw := HSW.out
        cases hwb : pli.wantB s nb (i : Int)
        · rw [hwb] at hsw
          have HSS := Lib.hid hsw
          have hwd := pli.wanted q (pli.wantQ s nb (i : Int)) w7 HA7.out.s
          rw [hsw.2.1] at hwd
          have HWD := Lib.hid hwd
          clear hwb hwd hsw HSW HON
          generalize pli.wantQ s nb (i : Int) = s7 at *
          have hse : s7.sent = s.sent := HSS.out.2.2
          go_wp2_with fail
          refine HWD.out.mono ?_
          rintro e w8 ⟨rfl, rfl⟩
          cases nb
          all_goals
            go_wp2_with fail
            go_roundw
            case rel => exact ⟨i + 1, _, s7, by omega, by omega, by go_num, by rw [hse], HA7.out, HSS.out.1.more (by omega), by rw [hse]; omega⟩
            case measure => simp [intOf]; omega
        · obtain rfl := HON.out hwb
          rw [hwb] at hsw
          have HSS := Lib.hid hsw
          have hwd := pli.wanted q (pli.wantQ s true (i : Int)) w7 HA7.out.s
          rw [hsw.2.1] at hwd
          have HWD := Lib.hid hwd
          clear hwb hwd hsw HSW HON
          generalize pli.wantQ s true (i : Int) = s7 at *
          have HSE : Hid (s7.sent = s.sent + 1) := Lib.hid HSS.out.2.2
          have W5 : IntKind.i64.wrap (s.sent + 1) = s.sent + 1 := IntWalk.i64_in _ (by omega)
          go_wp2_with fail
          refine HWD.out.mono ?_
          rintro e w8 ⟨rfl, rfl⟩
          go_wp2_with fail
          go_roundw
          case rel => exact ⟨i + 1, _, s7, by omega, by omega, by go_num, by rw [HSE.out], HA7.out, HSS.out.1.more (by omega), by rw [HSE.out]; omega⟩
          case measure => simp [intOf]; omega
    · have hx : ¬ i < n ∨ (i < n ∧ ¬ i < 200) := by omega
      have HSE := Lib.hid (pli.sent q s wr HA.out.s)
      obtain ⟨hf1, hf8, _, _⟩ := HB.out
      obtain ⟨qt, hqt⟩ : ∃ qt, qt = (200 : Int).tdiv f := ⟨_, rfl⟩
      have hq0 : 0 ≤ qt := by rw [hqt]; exact Int.tdiv_nonneg (by decide) (by omega)
      have hq1 : qt ≤ 200 := by
        rw [hqt, Int.tdiv_eq_ediv_of_nonneg (by decide)]
        exact Int.ediv_le_self _ (by decide)
      have Q1 : (200 : Int).tdiv f = qt := hqt.symm
      have Q2 : (200 : Int) / f = qt := by rw [hqt, Int.tdiv_eq_ediv_of_nonneg (by decide)]
      have Q0 : IntKind.i64.wrap qt = qt := IntWalk.i64_in _ (by omega)
      have Q3 : IntKind.i64.wrap (2 + qt) = 2 + qt := IntWalk.i64_in _ (by omega)
      have Q4 : IntKind.i64.wrap (2 + qt + 8) = 2 + qt + 8 := IntWalk.i64_in _ (by omega)
      have Q5 : IntKind.i64.wrap (2 + qt + 8 + 200) = 2 + qt + 8 + 200 := IntWalk.i64_in _ (by omega)
      have Z1 : (f == 0) = false := by simp; omega
      have dd : decide (s.sent ≤ 2 + qt + 8 + 200) = true := decide_eq_true (by omega)
      generalize s.sent = sn at *
      clear hgo hqt
      rcases hx with h1 | ⟨h1, h2⟩
      · have d1 : decide ((i : Int) < (n : Int)) = false := decide_eq_false (by omega)
        go_wp2_with fail
        refine HSE.out.mono ?_
        rintro e w5 ⟨rfl, rfl⟩
        go_wp2_with fail
        go_ret
        exact ⟨rfl, HA.out.below⟩
      · have d1 : decide ((i : Int) < (n : Int)) = true := decide_eq_true (by omega)
        have d2 : decide ((i : Int) < 200) = false := decide_eq_false (by omega)
        go_wp2_with fail
        refine HSE.out.mono ?_
        rintro e w5 ⟨rfl, rfl⟩
        go_wp2_with fail
        go_ret
        exact ⟨rfl, HA.out.below⟩
end Go.Proofs.Ytfhbcdjbfjoknaa.top
