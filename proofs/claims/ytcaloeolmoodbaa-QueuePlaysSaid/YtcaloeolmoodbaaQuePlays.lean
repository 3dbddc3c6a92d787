/-
  QueuePlays: any calls.
-/
import Derived.Test.YtcaloeolmoodbaaQueLoop
import Derived.Deep.RegionHeld3
namespace Go.Proofs.Ytcaloeolmoodbaa.que
open Go.RowKit mem
set_option linter.unusedVariables false

theorem rsize_nil (ao : Option Addr) (n c : Nat) (hn : n = 0) (w : World) :
    Calls Try.prog 20 #[.slice ao n c] w fun e w' => e = .returned (.int .i64 0) ∧ w' = w := by
  subst hn
  go_enter Try.func20, Try.ntmps20
  go_wp2_with fail
  go_loopw [3, 8] (fun s i wr => i = .int .i64 0 ∧ s = .int .i64 0 ∧ wr = w) (fun _ i _ => 0)
  case atStart => exact ⟨rfl, rfl, rfl⟩
  case round =>
    obtain ⟨rfl, rfl, rfl⟩ := hrel
    go_wp2
    go_ret
    exact ⟨rfl, rfl⟩
theorem Dn.base {w W w' : World} {p : Nat} {pv xv pv' xv' : Value} {q' : Q} (n : New w W) (h : Dn W w' p pv xv q' pv' xv') : Dn w w' p pv xv q' pv' xv' := by
  have hs := n.size
  refine ⟨h.ds, ?_, fun g hg => ?_, (n.mono (fun _ _ h => h.elim)).trans (h.turns.mono (fun _ _ h => .inl h))⟩
  · rcases h.loc with e | ⟨g, e, hg⟩
    · exact .inl e
    · exact .inr ⟨g, e, by omega⟩
  · rcases h.src g hg with e | e
    · exact .inl e
    · exact .inr (by omega)
theorem Lp.drew {w wr : World} {ps p k : Nat} {pv xv : Value} {q : Q} {now nn age : Int} (h : Lp w wr ps p pv xv q now nn age k) : Lp w wr.drew ps p pv xv q now nn age k := h.later (Turns.refl _ _).drew

/-- what the long test holds on to -/
abbrev HeldP (w w' : World) (pb px pw o : Nat) (c0 c1 c2 c3 c4 c5 c6 c7 x0 x1 x2 x3 : Value) : Prop :=
  New w w' ∧ pb < w'.heap.size ∧ px < w'.heap.size ∧ pw < w'.heap.size ∧ w'.cell? ⟨pb, 0, none⟩ = some c0 ∧ w'.cell? ⟨pb, 1, none⟩ = some c1 ∧ w'.cell? ⟨pb, 2, none⟩ = some c2 ∧ w'.cell? ⟨pb, 3, none⟩ = some c3 ∧ w'.cell? ⟨pb, 4, none⟩ = some c4 ∧ w'.cell? ⟨pb, 5, none⟩ = some c5 ∧ w'.cell? ⟨pb, 6, none⟩ = some c6 ∧ w'.cell? ⟨pb, 7, none⟩ = some c7 ∧ w'.cell? ⟨px, 0, none⟩ = some x0 ∧ w'.cell? ⟨px, 1, none⟩ = some x1 ∧ w'.cell? ⟨px, 2, none⟩ = some x2 ∧ w'.cell? ⟨px, 3, none⟩ = some x3 ∧ w'.cell? ⟨pw, o, none⟩ = some x0 ∧ w'.cell? ⟨pw, o + 1, none⟩ = some x1 ∧ w'.cell? ⟨pw, o + 2, none⟩ = some x2 ∧ w'.cell? ⟨pw, o + 3, none⟩ = some x3
section
variable {w w' w1 w2 : World} {pb px pw o : Nat} {c0 c1 c2 c3 c4 c5 c6 c7 x0 x1 x2 x3 : Value}
theorem heldP_drew (h : HeldP w w' pb px pw o c0 c1 c2 c3 c4 c5 c6 c7 x0 x1 x2 x3) : HeldP w w'.drew pb px pw o c0 c1 c2 c3 c4 c5 c6 c7 x0 x1 x2 x3 := by
  obtain ⟨hn, h⟩ := h
  exact ⟨hn.drew, h⟩
theorem heldP_nw (h : HeldP w w' pb px pw o c0 c1 c2 c3 c4 c5 c6 c7 x0 x1 x2 x3) : New w w' := h.1
theorem heldP_new (n : New w1 w2) (h : HeldP w w1 pb px pw o c0 c1 c2 c3 c4 c5 c6 c7 x0 x1 x2 x3) : HeldP w w2 pb px pw o c0 c1 c2 c3 c4 c5 c6 c7 x0 x1 x2 x3 := by
  obtain ⟨hn, hl, hlx, hlu, h0, h1, h2, h3, h4, h5, h6, h7, k0, k1, k2, k3, m0, m1, m2, m3⟩ := h
  have c := fun i => n.cell (a := ⟨pb, i, none⟩) hl (fun h => h)
  have d := fun i => n.cell (a := ⟨px, i, none⟩) hlx (fun h => h)
  have e := fun i => n.cell (a := ⟨pw, i, none⟩) hlu (fun h => h)
  exact ⟨hn.trans (n.mono (fun _ _ h => h.elim)), Nat.lt_of_lt_of_le hl n.size, Nat.lt_of_lt_of_le hlx n.size, Nat.lt_of_lt_of_le hlu n.size, (c 0).trans h0, (c 1).trans h1, (c 2).trans h2, (c 3).trans h3, (c 4).trans h4, (c 5).trans h5, (c 6).trans h6, (c 7).trans h7, (d 0).trans k0, (d 1).trans k1, (d 2).trans k2, (d 3).trans k3, (e _).trans m0, (e _).trans m1, (e _).trans m2, (e _).trans m3⟩
end

set_option maxRecDepth 100000 in
set_option maxHeartbeats 4000000 in
theorem plays_law (f m a : Int) (ao : Option Addr) (n c : Nat) (z : Nat → Int × Int × Bool) (w : World) (f0 : -9223372036854775808 ≤ f) (f1 : f ≤ 9223372036854775807) (m0 : -9223372036854775808 ≤ m) (m1 : m ≤ 9223372036854775807) (a0 : -9223372036854775808 ≤ a) (a1 : a ≤ 9223372036854775807) (h : args.qactRow w ao n c z) :
    Calls Try.prog 3 #[.int .i64 f, .int .i64 m, .int .i64 a, .slice ao n c] w fun e w' => e = .returned (.bool true) ∧ Below w.heap.size w w' := by
  have HA := Lib.hid (fun w => awake w)
  have HBG := Lib.hid (beginC f m a w)
  obtain ⟨hn, hok, hrow⟩ := h
  have HOK := Lib.hid hok
  have HROW := Lib.hid hrow
  clear hok hrow a0 a1 f0 f1 m0 m1
  go_enter Try.func3, Try.ntmps3
  go_wp2_with fail
  refine HBG.out.mono ?_
  rintro e w1 ⟨p, rfl, ho1⟩
  have hA : 1 ≤ 1 + a % 32 ∧ 1 + a % 32 ≤ 32 := by omega
  generalize 1 + a % 32 = age at *
  have hgood : Good (fresh (1 + f % 8) (1 + m % 64)) 0 := ⟨Int.le_refl _, (fun x hx => by cases hx), trivial⟩
  have hLE : (fresh (1 + f % 8) (1 + m % 64)).L = [] := rfl
  generalize fresh (1 + f % 8) (1 + m % 64) = q0 at *
  have hb2 : Blk (w1.alloc (.cells (stL p q0 (.slice none 0 0) 0 0 age).toArray TS)) w1.heap.size (stL p q0 (.slice none 0 0) 0 0 age).toArray TS := Blk.new _ _ _
  have HL0 : Hid (Lp w (w1.alloc (.cells (stL p q0 (.slice none 0 0) 0 0 age).toArray TS)) w1.heap.size p (.slice none 0 0) (.slice none 0 0) q0 0 0 age 0) := Lib.hid (by
    have hpl := ho1.qs.lt
    refine ⟨⟨ho1.qs.later ((Turns.refl _ _).alloc _), by rw [hLE]; exact Sub.nil _ _ _, fun g hg => by simp [Value.ownBlock] at hg⟩, hb2, ho1.n.alloc _, ho1.p0, fun g hg => by simp [Value.ownBlock] at hg, ho1.n.size, ⟨by omega, by simp [Value.ownBlock], by simp [Value.ownBlock]⟩, hgood, ⟨Int.le_refl _, Int.le_refl _⟩, Int.le_refl _⟩)
  clear hb2 hgood ho1 hLE
  obtain ⟨ha0, ha1⟩ := hA
  go_wp2_with fail
  refine (HA.out _).mono ?_
  rintro e w3 ⟨rfl, n3⟩
  have HL3 := Lib.hid (HL0.out.later n3)
  clear n3 HL0 HA HBG
  generalize w1.heap.size = ps at *
  go_wp2_with fail
  go_loopw [11] (fun i wr => ∃ (k : Nat) (pv xv : Value) (q : Q) (now nn : Int), k ≤ n ∧ k ≤ 150 ∧ i = .int .i64 k ∧ Lp w wr ps p pv xv q now nn age k) (fun i _ => n - (intOf i).toNat)
  case atStart => exact ⟨0, _, _, _, _, _, Nat.zero_le _, by omega, rfl, HL3.out⟩
  case round =>
    obtain ⟨k, pv, xv, q, now, nn, hk, hk100, rfl, hlp⟩ := hrel
    obtain ⟨ax, cx, hxv, _, _⟩ := hlp.ds.sub.form
    subst hxv
    have HLP := Lib.hid hlp
    clear hlp
    by_cases hlt : k < n
    · by_cases h100 : k < 150
      · obtain ⟨b, off, rfl, hb, hc⟩ := HROW.out.resolve_left (by omega)
        have hzo := HOK.out k hlt
        have hzc := hc k hlt
        have e0 := (HLP.out.n.cell (a := ⟨b, off + k * 3, none⟩) hb (fun h => h)).trans hzc.1
        have e1 := (HLP.out.n.cell (a := ⟨b, off + k * 3 + 1, none⟩) hb (fun h => h)).trans hzc.2.1
        have e2 := (HLP.out.n.cell (a := ⟨b, off + k * 3 + 2, none⟩) hb (fun h => h)).trans hzc.2.2
        obtain ⟨s0, s1⟩ := bounds_i64 hzo.2.1
        clear hzc hzo hc
        generalize z k = zk at *
        obtain ⟨kd, sz, ky⟩ := zk
        dsimp only at *
        have d1 : decide ((k : Int) < (n : Int)) = true := decide_eq_true (by omega)
        have d2 : decide ((k : Int) < 150) = true := decide_eq_true (by omega)
        have i0 : (0 : Int) ≤ (k : Int) := by omega
        have i1 : (k : Int) < (n : Int) := by omega
        obtain ⟨htk, t0, t1, n0, n1⟩ := HLP.out.ticks (by omega)
        have HDO := Lib.hid (fun W (N : New wr W) => (does p pv (.slice ax q.L.length cx) q now nn age kd sz ky W (HLP.out.ds.later N) s0 s1 n0 n1 t0 t1 htk))
        have hbl : b < wr.heap.size := Nat.lt_of_lt_of_le hb HLP.out.n.size
        obtain ⟨⟨b0, b1, b2, b3, b4, b5, b6, b7⟩, y0, y1, y2, y3, y4, y5, y6, y7⟩ := eight HLP.out.box
        have hpsl := HLP.out.box.lt
        clear htk hb
        go_upto_region 7 with fail
        go_cut [10] (fun v wx => v = .bool true ∧ ∃ pv' xv', Lp w wx ps p pv' xv' (stepQ q now nn age kd sz ky) (stepNow now kd sz) (stepN nn kd) age (k + 1))
        case first =>
          go_region_with (refine (HDO.out _ ((Turns.refl _ _).drewN 1)).mono ?_; rintro e w5 ⟨pv', xv', fl, rfl, hd0⟩; have hd := Dn.base ((Turns.refl _ wr).drewN 1) hd0; obtain ⟨ax', cx', hxv', _, _⟩ := hd.ds.sub.form; have HL6 := Lib.hid (HLP.out.step hd rfl); have hb5 := hd.turns.blk HLP.out.box (fun e => by rcases e with e | e; exact HLP.out.sp.1 e; exact HLP.out.sp.2.1 e); obtain ⟨⟨b0', b1', b2', b3', b4', b5', b6', b7'⟩, y0', y1', y2', y3', y4', y5', y6', y7'⟩ := eight hb5; clear hb5 hd hd0; subst hxv')
          all_goals
            go_wp2_with fail
            go_meet
            case rel => exact ⟨rfl, pv', _, by first | exact HL6.out | exact HL6.out.drew⟩
        case rest =>
          obtain ⟨rfl, pv', xv', hl⟩ := hcut
          generalize stepQ q now nn age kd sz ky = q' at *
          generalize stepNow now kd sz = now' at *
          generalize stepN nn kd = nn' at *
          obtain ⟨ax', cx', hxv', _, _⟩ := hl.ds.sub.form
          subst hxv'
          have HL := Lib.hid hl
          have hw2 : IntKind.i64.wrap ((k : Int) + 1) = (k : Int) + 1 := IntWalk.i64_in _ (by omega)
          have hok' := hl.ds.qs.ok
          have hsm' := hl.ds.qs.small
          have hlm' : q'.L.length ≤ maxLen := by unfold maxLen; omega
          have g1 : decide (q'.frames < (q'.L.length : Int)) = false := decide_eq_false (by have := hok'.len; omega)
          have g2 : decide (q'.most < sumL q'.L) = false := decide_eq_false (by have := hok'.sum; omega)
          have HSZ := Lib.hid (fun W (h : Sub IE 0 W (.slice ax' q'.L.length cx') q'.L) => rsize (.slice ax' q'.L.length cx') q'.L W h (by omega) hok'.pos (by have := hok'.sum; have := hok'.m2; omega))
          clear hl hok' e0 e1 e2 b0 b1 b2 b3 b4 b5 b6 b7 y0 y1 y2 y3 y4 y5 y6 y7 HDO HLP hpsl hbl
          obtain ⟨⟨b0, b1, b2, b3, b4, b5, b6, b7⟩, _⟩ := eight HL.out.box
          cases hL : q'.L with
          | nil =>
            have g3 : decide ((0 : Int) < (q'.L.length : Int)) = false := decide_eq_false (by rw [hL]; simp)
            have g3n : decide (0 < q'.L.length) = false := decide_eq_false (by rw [hL]; simp)
            have HLE0 := Lib.hid hL
            have HLN : Hid (q'.L.length = 0) := Lib.hid (by rw [hL]; rfl)
            have HF := Lib.hid (first_nil p pv' q' wc HL.out.ds.qs hL)
            clear hL
            go_wp2_with fail
            refine HF.out.mono ?_
            rintro e w8 ⟨rfl, n8⟩
            have HL9 := Lib.hid (HL.out.later (n8.alloc (.cells zcs.toArray PT)))
            clear n8 b0 b1 b2 b3 b4 b5 b6 b7
            have hx9 : Blk (w8.alloc (.cells zcs.toArray PT)) w8.heap.size #[.int .i64 0, .int .i64 0, .int .i64 0, .bool false] PT := Blk.new _ _ _
            have HX9 := Lib.hid hx9
            clear hx9
            go_upto_region 11 with fail
            refine (show Code.wp _ _ _ _ (w8.alloc (.cells zcs.toArray PT)) from ?_)
            generalize w8.alloc (.cells zcs.toArray PT) = w9 at *
            generalize w8.heap.size = px at *
            have HLEN := Lib.hid (fun W (N : New w9 W) => len p pv' q' W (HL9.out.ds.qs.later N))
            have HSIZE := Lib.hid (fun W (N : New w9 W) => size p pv' q' W (HL9.out.ds.qs.later N))
            have HBRK := Lib.hid (fun W (N : New w9 W) => broken p pv' q' W (HL9.out.ds.qs.later N))
            have HSZ9 := Lib.hid (fun W (N : New w9 W) => HSZ.out W (Sub.new HL9.out.ds.sub N))
            obtain ⟨⟨b0, b1, b2, b3, b4, b5, b6, b7⟩, _⟩ := eight HL9.out.box
            have hbl := HL9.out.box.lt
            have HRZ := Lib.hid (rsize_nil ax' q'.L.length cx' HLN.out)
            have hs0 : sumL q'.L = 0 := by rw [HLE0.out]; rfl
            rw [hs0] at HSIZE
            have g2' : decide (q'.most < 0) = false := by rw [← hs0]; exact g2
            clear hs0
            simp only [List.append]
            go_quiet (first
              | (go_at_call 18; exact Calls.quiet_of_same (HLEN.out _ ((Turns.refl _ _).drewN _)))
              | (go_at_call 19; exact Calls.quiet_of_same (HSIZE.out _ ((Turns.refl _ _).drewN _)))
              | (go_at_call 21; exact Calls.quiet_of_same (HBRK.out _ ((Turns.refl _ _).drewN _)))
              | (go_at_call 20; exact Calls.quiet_of_same (HRZ.out _)))
            have HLE := Lib.hid (HL9.out.later ((Turns.refl (fun _ => False) w9).drewN nq))
            go_wp2_with fail
            go_roundw
            case rel => exact ⟨k + 1, _, _, _, _, _, by omega, by omega, by go_num, HLE.out⟩
            case measure => simp [intOf]; omega
          | cons x r =>
            have hx0 : q'.L[0]? = some x := by rw [hL]; rfl
            have g3 : decide ((0 : Int) < (q'.L.length : Int)) = true := decide_eq_true (by rw [hL]; simp)
            have g3n : decide (0 < q'.L.length) = true := decide_eq_true (by rw [hL]; simp)
            have l1 : (0 : Int) < (q'.L.length : Int) := by rw [hL]; simp
            have l2 : 0 < q'.L.length := by rw [hL]; simp
            have HF := Lib.hid (first_cons p pv' q' x wc HL.out.ds.qs hx0)
            have HX0 := Lib.hid hx0
            obtain ⟨xn, xs, xt, xk⟩ := x
            dsimp only [It.v] at *
            clear hL hx0
            go_wp2_with fail
            refine HF.out.mono ?_
            rintro e w8 ⟨rfl, n8⟩
            have HL9 := Lib.hid (HL.out.later (n8.alloc (.cells #[.int .i64 xn, .int .i64 xs, .int .i64 xt, .bool xk] PT)))
            clear n8 b0 b1 b2 b3 b4 b5 b6 b7
            have hx9 : Blk (w8.alloc (.cells #[.int .i64 xn, .int .i64 xs, .int .i64 xt, .bool xk] PT)) w8.heap.size #[.int .i64 xn, .int .i64 xs, .int .i64 xt, .bool xk] PT := Blk.new _ _ _
            have HX9 := Lib.hid hx9
            clear hx9
            go_upto_region 11 with fail
            refine (show Code.wp _ _ _ _ (w8.alloc (.cells #[.int .i64 xn, .int .i64 xs, .int .i64 xt, .bool xk] PT)) from ?_)
            generalize w8.alloc (.cells #[.int .i64 xn, .int .i64 xs, .int .i64 xt, .bool xk] PT) = w9 at *
            generalize w8.heap.size = px at *
            obtain ⟨g, o, c', hv, hwl, v0, v1, v2, v3⟩ := Sub.at' HL9.out.ds.sub HX0.out
            injection hv with hv1 _ hv3
            subst hv1 hv3
            have u0 : w9.cell? ⟨g, o, none⟩ = some (.int .i64 xn) := by simpa using v0
            have u1 : w9.cell? ⟨g, o + 1, none⟩ = some (.int .i64 xs) := by simpa using v1
            have u2 : w9.cell? ⟨g, o + 2, none⟩ = some (.int .i64 xt) := by simpa using v2
            have u3 : w9.cell? ⟨g, o + 3, none⟩ = some (.bool xk) := by simpa using v3
            clear v0 v1 v2 v3
            have HLEN := Lib.hid (fun W (N : New w9 W) => len p pv' q' W (HL9.out.ds.qs.later N))
            have HSIZE := Lib.hid (fun W (N : New w9 W) => size p pv' q' W (HL9.out.ds.qs.later N))
            have HBRK := Lib.hid (fun W (N : New w9 W) => broken p pv' q' W (HL9.out.ds.qs.later N))
            have HSZ9 := Lib.hid (fun W (N : New w9 W) => HSZ.out W (Sub.new HL9.out.ds.sub N))
            obtain ⟨⟨b0, b1, b2, b3, b4, b5, b6, b7⟩, _⟩ := eight HL9.out.box
            have hbl := HL9.out.box.lt
            obtain ⟨⟨x0, x1, x2, x3⟩, _⟩ := four HX9.out
            have hxl := HX9.out.lt
            have HH : HeldP w9 w9 ps px g o (.pointer (some ⟨p, 0, none⟩)) (.int .i64 q'.frames) (.int .i64 q'.most) (.slice (some ⟨g, o, none⟩) q'.L.length cx') (.bool q'.broken) (.int .i64 now') (.int .i64 nn') (.int .i64 age) (.int .i64 xn) (.int .i64 xs) (.int .i64 xt) (.bool xk) := ⟨Turns.refl _ _, hbl, hxl, hwl, b0, b1, b2, b3, b4, b5, b6, b7, x0, x1, x2, x3, u0, u1, u2, u3⟩
            clear b0 b1 b2 b3 b4 b5 b6 b7 x0 x1 x2 x3 u0 u1 u2 u3
            obtain ⟨_, _, _, _, b0, b1, b2, b3, b4, b5, b6, b7, x0, x1, x2, x3, u0, u1, u2, u3⟩ := id HH
            simp only [List.append]
            first
              | go_region_held3 (fun w' => New w9 w' ∧ ps < w'.heap.size ∧ px < w'.heap.size ∧ g < w'.heap.size ∧ w'.cell? ⟨ps, 0, none⟩ = some (.pointer (some ⟨p, 0, none⟩)) ∧ w'.cell? ⟨ps, 1, none⟩ = some (.int .i64 q'.frames) ∧ w'.cell? ⟨ps, 2, none⟩ = some (.int .i64 q'.most) ∧ w'.cell? ⟨ps, 3, none⟩ = some (.slice (some ⟨g, o, none⟩) q'.L.length cx') ∧ w'.cell? ⟨ps, 4, none⟩ = some (.bool q'.broken) ∧ w'.cell? ⟨ps, 5, none⟩ = some (.int .i64 now') ∧ w'.cell? ⟨ps, 6, none⟩ = some (.int .i64 nn') ∧ w'.cell? ⟨ps, 7, none⟩ = some (.int .i64 age) ∧ w'.cell? ⟨px, 0, none⟩ = some (.int .i64 xn) ∧ w'.cell? ⟨px, 1, none⟩ = some (.int .i64 xs) ∧ w'.cell? ⟨px, 2, none⟩ = some (.int .i64 xt) ∧ w'.cell? ⟨px, 3, none⟩ = some (.bool xk) ∧ w'.cell? ⟨g, o, none⟩ = some (.int .i64 xn) ∧ w'.cell? ⟨g, o + 1, none⟩ = some (.int .i64 xs) ∧ w'.cell? ⟨g, o + 2, none⟩ = some (.int .i64 xt) ∧ w'.cell? ⟨g, o + 3, none⟩ = some (.bool xk))
                  (first
                    | (with_reducible assumption)
                    | ((with_reducible refine heldP_drew ?_); with_reducible assumption)
                    | ((with_reducible refine heldP_new (by with_reducible assumption) ?_); with_reducible assumption))
                  (first
                    | (go_at_call 18; (with_reducible refine Calls.mono (HLEN.out _ ?_) ?_); (focus (apply heldP_nw; assumption)); rintro e w5 ⟨rfl, rfl⟩)
                    | (go_at_call 19; (with_reducible refine Calls.mono (HSIZE.out _ ?_) ?_); (focus (apply heldP_nw; assumption)); rintro e w5 ⟨rfl, rfl⟩)
                    | (go_at_call 21; (with_reducible refine Calls.mono (HBRK.out _ ?_) ?_); (focus (apply heldP_nw; assumption)); rintro e w5 ⟨rfl, rfl⟩)
                    | (go_at_call 20; (with_reducible refine Calls.mono (HSZ9.out _ ?_) ?_); (focus (apply heldP_nw; assumption)); rintro e w5 ⟨rfl, n5⟩))
              | skip
            all_goals
              rename_i hHl
              have HLE := Lib.hid (HL9.out.later (heldP_nw hHl))
              clear hHl
              go_wp2_with fail
              go_roundw
              case rel => exact ⟨k + 1, _, _, _, _, _, by omega, by omega, by go_num, HLE.out⟩
              case measure => simp [intOf]; omega
      · have d2 : decide ((k : Int) < 150) = false := decide_eq_false (by omega)
        go_wp2
        go_ret
        exact ⟨rfl, HLP.out.n.below (Nat.le_refl _) (fun _ _ h => h.elim)⟩
    · obtain rfl : k = n := by omega
      go_wp2
      go_ret
      exact ⟨rfl, HLP.out.n.below (Nat.le_refl _) (fun _ _ h => h.elim)⟩
end Go.Proofs.Ytcaloeolmoodbaa.que
