/-
  ReorderWaits: the law.
-/
import Derived.Test.YtfgfejcnkjeghaaReoDoes
import Derived.Test.YtfgfejcnkjeghaaReactRow
namespace Go.Proofs.Ytfgfejcnkjeghaa.reo
open Go.RowKit mem
open ints (IE)
set_option linter.unusedVariables false

/-- what the laws' loops keep -/
structure WL (w wr : World) (ps p : Nat) (vb : Value) (b : B) (v : Value) (now : Int) (k : Nat) : Prop where
  own : Own w wr p vb b
  rs : RS wr v b.L
  box : Blk wr ps (stL p b v now).toArray TS
  s0 : w.heap.size ≤ ps
  fine : Fine b (1031 + 100 * (k : Int))
  n0 : 0 ≤ now
  n1 : now ≤ 31 * (k : Int)
theorem WL.later {w wr w2 : World} {ps p k : Nat} {vb v : Value} {b : B} {now : Int} (h : WL w wr ps p vb b v now k) (n : New wr w2) : WL w w2 ps p vb b v now k :=
  ⟨h.own.later n, h.rs.later n, n.blk h.box (fun h => h), h.s0, h.fine, h.n0, h.n1⟩
theorem WL.step {w W w5 : World} {ps p k : Nat} {vb v v' u : Value} {b : B} {now kd by_ : Int} {s : ByteArray} {o : List Th} (h : WL w W ps p vb b v now k) (hk : k ≤ 1000) (hd : Dn w W w5 p vb (stepB b kd by_ now s) v' u o) :
    Blk w5 ps (stL p b v now).toArray TS ∧ ∃ vb', WL w (puts w5 ps 0 (stL p (stepB b kd by_ now s) v' (stepN kd by_ now))) ps p vb' (stepB b kd by_ now s) v' (stepN kd by_ now) (k + 1) := by
  have hb5 : Blk w5 ps (stL p b v now).toArray TS := hd.t.blk h.box (fun e => by
    rcases e with e | e
    · have k := h.own.bs.blk
      have k2 := h.box
      rw [e] at k2
      unfold Blk at k k2
      rw [k] at k2
      injection k2 with k2
      injection k2 with _ k2
      exact absurd k2 (by decide)
    · exact own_ne h.own.bs.own h.box (by decide) e)
  obtain ⟨vb', ho⟩ := hd.own
  have t1 : Turns (· = ps) w5 (puts w5 ps 0 (stL p (stepB b kd by_ now s) v' (stepN kd by_ now))) := puts_turns (S := (· = ps)) (.inl rfl) _ 0 _ (Turns.refl _ _)
  have h32 : 0 ≤ by_ % 32 ∧ by_ % 32 < 32 := by omega
  have hn0 := h.n0
  have hn1 := h.n1
  refine ⟨hb5, vb', ho.turnps hb5 t1 h.s0, hd.rs.turns t1 (fun g hg e => hd.rs.off hb5 (by decide) (by rw [hg, e])), puts_blk _ _ hb5 rfl, h.s0, ?_, ?_, ?_⟩
  · have := step_fine (kd := kd) (by_ := by_) (s := s) h.fine (by omega) h.n0 (by omega)
    exact this.mono (by push_cast; omega)
  · unfold stepN; split <;> omega
  · unfold stepN; split <;> (push_cast; omega)
theorem any_nil {b : B} (h : any_ b = false) : b.L = [] := by
  cases e : b.L with
  | nil => rfl
  | cons x l => simp [any_, e] at h
theorem tick_young {b : B} {by_ now : Int} {s : ByteArray} {x : Th} (hx : (stepB b 2 by_ now s).L[0]? = some x) : ¬ ((stepB b 2 by_ now s).wait ≤ stepN 2 by_ now - x.tick) := by
  have eB : stepB b 2 by_ now s = lpB (old (now + by_ % 32)) b := (if_neg (by decide)).trans (if_pos rfl)
  have eN : stepN 2 by_ now = now + by_ % 32 := if_pos rfl
  rw [eB] at hx ⊢
  rw [eN]
  have h := lp_end (old_few (now + by_ % 32)) b
  generalize lpB (old (now + by_ % 32)) b = c at *
  unfold old at h
  cases hL : c.L with
  | nil => rw [hL] at hx; simp at hx
  | cons y l =>
    rw [hL] at hx h
    simp at hx
    subst hx
    exact of_decide_eq_false h

set_option maxRecDepth 100000 in
set_option maxHeartbeats 8000000 in
theorem waits_law (f a : Int) (ao : Option Addr) (n c : Nat) (z : Nat → Int × Int × ByteArray) (w : World) (f0 : -9223372036854775808 ≤ f) (f1 : f ≤ 9223372036854775807) (a0 : -9223372036854775808 ≤ a) (a1 : a ≤ 9223372036854775807) (h : args.reactRow w ao n c z) :
    Calls Try.prog 4 #[.int .i64 f, .int .i64 a, .slice ao n c] w fun e w' => e = .returned (.bool true) ∧ Below w.heap.size w w' := by
  have HA := Lib.hid (fun w => awake w)
  have HBG := Lib.hid (beginC f a w w (Turns.refl _ _))
  have hF : 1 ≤ 1 + f % 256 % 12 ∧ 1 + f % 256 % 12 ≤ 1024 ∧ 0 ≤ a % 16 ∧ a % 16 ≤ 1099511627776 := by omega
  have hfin : Fine (zeroB (1 + f % 256 % 12) (a % 16)) 1031 := zero_fine hF (by decide)
  have hLE : (zeroB (1 + f % 256 % 12) (a % 16)).L = [] := rfl
  obtain ⟨hn, hok, hrow⟩ := h
  have HOK := Lib.hid hok
  have HROW := Lib.hid hrow
  generalize zeroB (1 + f % 256 % 12) (a % 16) = bz at *
  have HFI := Lib.hid hfin
  have HLE := Lib.hid hLE
  clear hok hrow a0 a1 f0 f1 hF hfin hLE
  unfold stL at HBG
  go_enter Try.func4, Try.ntmps4
  go_wp2_with fail
  refine HBG.out.mono ?_
  rintro e w1 ⟨p, rfl, ho1⟩
  have HL0 : Hid (WL w (w1.alloc (.cells #[.pointer (some ⟨p, 0, none⟩), .int .i64 bz.most, .int .i64 bz.wait, .bool bz.begun, .int .i64 bz.next, .slice none 0 0, .int .i64 bz.lost, .int .i64 0] TS)) w1.heap.size p (.slice none 0 0) bz (.slice none 0 0) 0 0) := Lib.hid ⟨ho1.later ((Turns.refl _ _).alloc _), by rw [HLE.out]; exact RS.nil _, Blk.new _ _ _, ho1.n.size, HFI.out, Int.le_refl _, Int.le_refl _⟩
  clear ho1 HBG
  go_upto_region 2 with fail
  refine (show Code.wp _ _ _ _ (w1.alloc (.cells #[.pointer (some ⟨p, 0, none⟩), .int .i64 bz.most, .int .i64 bz.wait, .bool bz.begun, .int .i64 bz.next, .slice none 0 0, .int .i64 bz.lost, .int .i64 0] TS)) from ?_)
  generalize w1.alloc (.cells #[.pointer (some ⟨p, 0, none⟩), .int .i64 bz.most, .int .i64 bz.wait, .bool bz.begun, .int .i64 bz.next, .slice none 0 0, .int .i64 bz.lost, .int .i64 0] TS) = w2 at *
  generalize w1.heap.size = ps at *
  go_wp2_with fail
  refine (HA.out _).mono ?_
  rintro e w3 ⟨rfl, n3⟩
  have HL3 := Lib.hid (HL0.out.later n3)
  clear n3 HL0 HA
  go_wp2_with fail
  go_loopw [9] (fun i wr => ∃ (k : Nat) (vb v : Value) (b : B) (now : Int), k ≤ n ∧ k ≤ 100 ∧ i = .int .i64 k ∧ WL w wr ps p vb b v now k) (fun i _ => n - (intOf i).toNat)
  case atStart => exact ⟨0, _, _, _, _, Nat.zero_le _, by omega, rfl, HL3.out⟩
  case round =>
    obtain ⟨k, vb, v, b, now, hk, hk100, rfl, hlp⟩ := hrel
    obtain ⟨ax, nx, cx, hxv, q1, q2, q3⟩ := hlp.rs.form
    clear q1 q2 q3 HL3
    subst hxv
    have HLP := Lib.hid hlp
    clear hlp
    by_cases hgo : k < n ∧ k < 100
    · obtain ⟨hlt, h100⟩ := hgo
      obtain ⟨bq, off, rfl, hb, hc⟩ := HROW.out.resolve_left (by omega)
      have hzo := HOK.out k hlt
      have hzc := hc k hlt
      have e0 := (HLP.out.own.n.cell (a := ⟨bq, off + k * 3, none⟩) hb (fun h => h)).trans hzc.1
      have e1 := (HLP.out.own.n.cell (a := ⟨bq, off + k * 3 + 1, none⟩) hb (fun h => h)).trans hzc.2.1
      have e2 := (HLP.out.own.n.cell (a := ⟨bq, off + k * 3 + 2, none⟩) hb (fun h => h)).trans hzc.2.2
      have HBQ : Hid (∀ W, New w W → W.cell? ⟨bq, off + k * 3, none⟩ = some (.int .i64 (z k).1)) := Lib.hid (fun W nW => (nW.cell (a := ⟨bq, off + k * 3, none⟩) hb (fun h => h)).trans hzc.1)
      have HSZ := Lib.hid hzo.2.2
      clear hzc hzo hc hb
      generalize z k = zk at *
      obtain ⟨kd, by_, s⟩ := zk
      dsimp only at *
      have d1 : decide ((k : Int) < (n : Int)) = true := decide_eq_true (by omega)
      have d2 : decide ((k : Int) < 100) = true := decide_eq_true (by omega)
      have j2 : (k : Int) < (n : Int) := by omega
      have hn1 := HLP.out.n1
      have HDO : Hid (∀ W, New wr W → Calls Try.prog 10 #[.agg #[.pointer (some ⟨p, 0, none⟩), .int .i64 b.most, .int .i64 b.wait, .bool b.begun, .int .i64 b.next, .slice ax nx cx, .int .i64 b.lost, .int .i64 now], .agg #[.int .i64 kd, .int .i64 by_, .string s]] W fun e w5 => ∃ a5 n5 c5 u5, e = .returned (.tuple #[.agg #[.pointer (some ⟨p, 0, none⟩), .int .i64 (stepB b kd by_ now s).most, .int .i64 (stepB b kd by_ now s).wait, .bool (stepB b kd by_ now s).begun, .int .i64 (stepB b kd by_ now s).next, .slice a5 n5 c5, .int .i64 (stepB b kd by_ now s).lost, .int .i64 (stepN kd by_ now)], u5, .bool true]) ∧ Blk w5 ps #[.pointer (some ⟨p, 0, none⟩), .int .i64 b.most, .int .i64 b.wait, .bool b.begun, .int .i64 b.next, .slice ax nx cx, .int .i64 b.lost, .int .i64 now] TS ∧ ∃ vb', WL w (puts w5 ps 0 [.pointer (some ⟨p, 0, none⟩), .int .i64 (stepB b kd by_ now s).most, .int .i64 (stepB b kd by_ now s).wait, .bool (stepB b kd by_ now s).begun, .int .i64 (stepB b kd by_ now s).next, .slice a5 n5 c5, .int .i64 (stepB b kd by_ now s).lost, .int .i64 (stepN kd by_ now)]) ps p vb' (stepB b kd by_ now s) (.slice a5 n5 c5) (stepN kd by_ now) (k + 1)) := Lib.hid (fun W nW => by
        have hl := HLP.out.later nW
        refine (does w W p vb (.slice ax nx cx) b kd now (1031 + 100 * (k : Int)) by_ s hl.own hl.rs hl.fine (by omega) (by omega) hl.n0 (by omega) HSZ.out).mono ?_
        rintro e w5 ⟨v5, u5, rfl, hd⟩
        obtain ⟨a5, n5, c5, hv5, _⟩ := hd.rs.form
        subst hv5
        obtain ⟨hb5, vb', hw5⟩ := hl.step (by omega) hd
        exact ⟨a5, n5, c5, u5, rfl, hb5, vb', hw5⟩)
      obtain ⟨⟨b0, b1, b2, b3, b4, b5, b6, b7⟩, y0, y1, y2, y3, y4, y5, y6, y7⟩ := eight HLP.out.box
      go_upto_region 7 with fail
      go_cut [8] (fun v8 wx => v8 = .bool true ∧ ∃ vb' v', WL w wx ps p vb' (stepB b kd by_ now s) v' (stepN kd by_ now) (k + 1))
      case first =>
        go_region_with (go_at_call 10; (with_reducible refine Calls.mono (HDO.out _ ?_) ?_); (focus (exact (Turns.refl _ _).drew)); rintro e w5 ⟨a5, n5, c5, u5, rfl, hb5, vb', hw5⟩; have HW5 := Lib.hid hw5; obtain ⟨⟨x0, x1, x2, x3, x4, x5, x6, x7⟩, g0, g1, g2, g3, g4, g5, g6, g7⟩ := eight hb5; clear hb5 hw5)
        all_goals
          go_wp2_with fail
          go_meet
          case rel => exact ⟨rfl, vb', _, HW5.out⟩
      case rest =>
        obtain ⟨rfl, vb', v', hw⟩ := hcut
        have HYG : Hid (kd = 2 → ∀ x, (stepB b kd by_ now s).L[0]? = some x → ¬ ((stepB b kd by_ now s).wait ≤ stepN kd by_ now - x.tick)) := Lib.hid (fun e x hx => by subst e; exact tick_young hx)
        have HW := Lib.hid hw
        clear b0 b1 b2 b3 b4 b5 b6 b7 y0 y1 y2 y3 y4 y5 y6 y7 e0 e1 e2 HDO HLP
        generalize stepB b kd by_ now s = b' at *
        generalize stepN kd by_ now = now' at *
        obtain ⟨a', n', c', hv', hn', q2, q3⟩ := hw.rs.form
        have HN' := Lib.hid hn'
        have e0 := HBQ.out _ hw.own.n
        have m0 := hw.n0
        have m1 := hw.n1
        have hrs := hw.rs
        have hbx := hw.box
        clear q2 q3 hn' hw
        have s1 : IntKind.i64.wrap ((k : Int) + 1) = (k : Int) + 1 := IntWalk.i64_in _ (by omega)
        by_cases h2 : kd = 2
        · have h2b : (kd == 2) = true := by rw [h2]; rfl
          cases hL : b'.L with
          | nil =>
            rw [hL] at hrs
            obtain ⟨a9, c9, hv9⟩ := hrs.nil_form
            clear hrs hL h2 hv' HN'
            subst hv9
            obtain ⟨⟨b0, b1, b2, b3, b4, b5, b6, b7⟩, y0, y1, y2, y3, y4, y5, y6, y7⟩ := eight hbx
            have dlt0 : decide ((0 : Int) < (0 : Int)) = false := rfl
            have dlt1 : decide (0 < 0) = false := rfl
            clear hbx y0 y1 y2 y3 y4 y5 y6 y7
            go_upto_region 10 with fail
            go_quiet (fail)
            have HW2 := Lib.hid (HW.out.later ((Turns.refl _ _).drewN nq))
            go_wp2_with fail
            go_roundw
            case rel => exact ⟨k + 1, _, _, _, _, by omega, by omega, by go_num, HW2.out⟩
            case measure => simp [intOf]; omega
          | cons x r =>
            have hyg := HYG.out h2 x (by rw [hL]; rfl)
            have t1 := HW.out.fine.ok.t1 x (by rw [hL]; simp)
            have t2 := HW.out.fine.ok.t2 x (by rw [hL]; simp)
            rw [hL] at hrs
            obtain ⟨g, o, n9, c9, hv9, hn9, q1, q2, hg, z0, z1, z2, q3, q4⟩ := hrs.at_
            have hn0 : 0 < n9 := by omega
            clear hrs hL h2 hv' HN' hn9 q1 q2 q3 q4 z0 z1
            subst hv9
            obtain ⟨⟨b0, b1, b2, b3, b4, b5, b6, b7⟩, y0, y1, y2, y3, y4, y5, y6, y7⟩ := eight hbx
            clear hbx y0 y1 y2 y3 y4 y5 y6 y7
            generalize x.tick = tk at *
            have s2 : IntKind.i64.wrap (now' - tk) = now' - tk := IntWalk.i64_in _ (by omega)
            have dy : decide (b'.wait ≤ now' - tk) = false := decide_eq_false hyg
            have hl0I : (0 : Int) < (n9 : Int) := by omega
            have dl0 : decide ((0 : Int) < (n9 : Int)) = true := decide_eq_true hl0I
            have dl1 : decide (0 < n9) = true := decide_eq_true hn0
            clear hyg
            go_upto_region 10 with fail
            go_quiet (fail)
            have HW2 := Lib.hid (HW.out.later ((Turns.refl _ _).drewN nq))
            go_wp2_with fail
            go_roundw
            case rel => exact ⟨k + 1, _, _, _, _, by omega, by omega, by go_num, HW2.out⟩
            case measure => simp [intOf]; omega
        · have h2b : (kd == 2) = false := by simp [h2]
          clear h2 hrs HN'
          subst hv'
          obtain ⟨⟨b0, b1, b2, b3, b4, b5, b6, b7⟩, y0, y1, y2, y3, y4, y5, y6, y7⟩ := eight hbx
          clear hbx y0 y1 y2 y3 y4 y5 y6 y7
          go_upto_region 10 with fail
          go_quiet (fail)
          have HW2 := Lib.hid (HW.out.later ((Turns.refl _ _).drewN nq))
          go_wp2_with fail
          go_roundw
          case rel => exact ⟨k + 1, _, _, _, _, by omega, by omega, by go_num, HW2.out⟩
          case measure => simp [intOf]; omega
    · have hx : ¬ k < n ∨ (k < n ∧ ¬ k < 100) := by omega
      clear hgo
      go_upto_region 5 with fail
      go_cut [29] (fun v wx => v = .bool false ∧ wx = wr)
      case first =>
        rcases hx with h1 | ⟨h1, h2⟩
        · have d1 : decide ((k : Int) < (n : Int)) = false := decide_eq_false (by omega)
          go_wp2_with fail
          go_meet
          case rel => exact ⟨rfl, rfl⟩
        · have d1 : decide ((k : Int) < (n : Int)) = true := decide_eq_true (by omega)
          have d2 : decide ((k : Int) < 100) = false := decide_eq_false (by omega)
          go_wp2_with fail
          go_meet
          case rel => exact ⟨rfl, rfl⟩
      case rest =>
        obtain ⟨rfl, rfl⟩ := hcut
        clear hx
        obtain ⟨⟨b0, b1, b2, b3, b4, b5, b6, b7⟩, y0, y1, y2, y3, y4, y5, y6, y7⟩ := eight HLP.out.box
        clear b1 b2 b3 b4 b5 b6 b7 y0 y1 y2 y3 y4 y5 y6 y7
        have HM := Lib.hid (show 1031 + 100 * (k : Int) ≤ 1099511627776 by omega)
        have HF1 := Lib.hid (flush_ p vb b _ _ HLP.out.own.bs HLP.out.fine.ok HM.out)
        go_wp2_with fail
        refine HF1.out.mono ?_
        rintro e w4 ⟨vb4, vo4, rfl, t4⟩
        have hb4 := Blk.two HLP.out.box t4 HLP.out.own.bs (by decide) (by decide)
        have c0 : w4.cell? ⟨ps, 0, none⟩ = some (.pointer (some ⟨p, 0, none⟩)) := hb4.cell 0
        have HB4 := Lib.hid hb4
        have O4 := Lib.hid (HLP.out.own.lft t4)
        have HFN := Lib.hid (lp_fine any_few HLP.out.fine)
        have hany := lp_end any_few b
        have HLN : Hid ((lpB any_ b).L = []) := Lib.hid (any_nil hany)
        have HST := Lib.hid (lp_stop hany)
        clear hb4 t4 HF1 hany b0
        generalize lpB any_ b = b4 at *
        have HLZ : Hid (b4.L.length = 0) := Lib.hid (by rw [HLN.out]; rfl)
        have HMS : Hid ((missA b4).take 9 = []) := Lib.hid (by unfold missA missK; rw [HLN.out]; rfl)
        go_wp2_with fail
        refine (len_ p vb4 b4 w4 O4.out.bs).mono ?_
        rintro e w5 ⟨rfl, rfl⟩
        rw [HLZ.out]
        go_wp2_with fail
        refine (missing_ p vb4 b4 9 _ w5 O4.out.bs HFN.out.ok HM.out (by decide)).mono ?_
        rintro e w6 ⟨u, rfl, g6⟩
        rw [show (9 : Int).toNat = 9 from rfl, HMS.out] at g6
        obtain ⟨am, cm, hu, _⟩ := g6.own.form
        have O6 := Lib.hid (O4.out.later g6.n)
        have c6 : w6.cell? ⟨ps, 0, none⟩ = some (.pointer (some ⟨p, 0, none⟩)) := (g6.n.blk HB4.out (fun h => h)).cell 0
        clear g6 c0
        subst hu
        have hz0 : ([] : List Int).length = 0 := rfl
        rw [hz0]
        clear hz0
        have HF2 := Lib.hid (flush_ p vb4 b4 _ w6 O6.out.bs HFN.out.ok HM.out)
        rw [HST.out.1, HST.out.2] at HF2
        go_wp2_with fail
        refine HF2.out.mono ?_
        rintro e w7 ⟨vb7, vo7, rfl, t7⟩
        have O7 := Lib.hid (O6.out.lft t7)
        obtain ⟨a7, c7, hv7, _⟩ := t7.out.form
        have hz0 : ([] : List Th).length = 0 := rfl
        rw [hz0] at hv7
        clear hz0 t7 c6 HF2
        subst hv7
        go_wp2
        go_ret
        exact ⟨rfl, O7.out.below⟩
end Go.Proofs.Ytfgfejcnkjeghaa.reo
