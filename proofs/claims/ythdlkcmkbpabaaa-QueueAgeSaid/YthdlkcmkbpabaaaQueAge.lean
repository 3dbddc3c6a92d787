/-
  QueueAge: behind an Expire nothing is there that came so long ago.
-/
import Derived.Test.YthdlkcmkbpabaaaQueLoop
namespace Go.Proofs.Ythdlkcmkbpabaaa.que
open Go.RowKit mem
set_option linter.unusedVariables false

set_option maxRecDepth 100000 in
set_option maxHeartbeats 4000000 in
theorem age_law (f a : Int) (ao : Option Addr) (n c : Nat) (z : Nat → Int × Int × Bool) (w : World) (f0 : -9223372036854775808 ≤ f) (f1 : f ≤ 9223372036854775807) (a0 : -9223372036854775808 ≤ a) (a1 : a ≤ 9223372036854775807) (h : args.qactRow w ao n c z) :
    Calls Try.prog 5 #[.int .i64 f, .int .i64 a, .slice ao n c] w fun e w' => e = .returned (.bool true) ∧ Below w.heap.size w w' := by
  have HA := Lib.hid (fun w => awake w)
  have HBG := Lib.hid (beginC f 63 a w)
  obtain ⟨hn, hok, hrow⟩ := h
  have HOK := Lib.hid hok
  have HROW := Lib.hid hrow
  clear hok hrow a0 a1 f0 f1
  go_enter Try.func5, Try.ntmps5
  go_wp2_with fail
  refine HBG.out.mono ?_
  rintro e w1 ⟨p, rfl, ho1⟩
  have hA : 1 ≤ 1 + a % 32 ∧ 1 + a % 32 ≤ 32 := by omega
  generalize 1 + a % 32 = age at *
  have hgood : Good (fresh (1 + f % 8) (1 + 63 % 64)) 0 := ⟨Int.le_refl _, (fun x hx => by cases hx), trivial⟩
  have hLE : (fresh (1 + f % 8) (1 + 63 % 64)).L = [] := rfl
  generalize fresh (1 + f % 8) (1 + 63 % 64) = q0 at *
  have hb2 : Blk (w1.alloc (.cells (stL p q0 (.slice none 0 0) 0 0 age).toArray TS)) w1.heap.size (stL p q0 (.slice none 0 0) 0 0 age).toArray TS := Blk.new _ _ _
  have HL0 : Hid (Lp w (w1.alloc (.cells (stL p q0 (.slice none 0 0) 0 0 age).toArray TS)) w1.heap.size p (.slice none 0 0) (.slice none 0 0) q0 0 0 age 0) := Lib.hid (by
    have hpl := ho1.qs.lt
    refine ⟨⟨ho1.qs.later ((Turns.refl _ _).alloc _), by rw [hLE]; exact Sub.nil _ _ _, fun g hg => by simp [Value.ownBlock] at hg⟩, hb2, ho1.n.alloc _, ho1.p0, fun g hg => by simp [Value.ownBlock] at hg, ho1.n.size, ⟨by omega, by simp [Value.ownBlock], by simp [Value.ownBlock]⟩, hgood, ⟨Int.le_refl _, Int.le_refl _⟩, Int.le_refl _⟩)
  clear hb2 hgood ho1 hLE
  obtain ⟨ha0, ha1⟩ := hA
  go_wp2_with fail
  refine (HA.out _).mono ?_
  rintro e w3 ⟨rfl, n3⟩
  have HL3 := Lib.hid (HL0.out.later n3)
  clear n3 HL0 HA HBG
  generalize w1.heap.size = ps at *
  go_wp2_with fail
  go_loopw [9] (fun i wr => ∃ (k : Nat) (pv xv : Value) (q : Q) (now nn : Int), k ≤ n ∧ k ≤ 100 ∧ i = .int .i64 k ∧ Lp w wr ps p pv xv q now nn age k) (fun i _ => n - (intOf i).toNat)
  case atStart => exact ⟨0, _, _, _, _, _, Nat.zero_le _, by omega, rfl, HL3.out⟩
  case round =>
    obtain ⟨k, pv, xv, q, now, nn, hk, hk100, rfl, hlp⟩ := hrel
    obtain ⟨ax, cx, hxv, _, _⟩ := hlp.ds.sub.form
    subst hxv
    have HLP := Lib.hid hlp
    clear hlp
    by_cases hlt : k < n
    · by_cases h100 : k < 100
      · obtain ⟨b, off, rfl, hb, hc⟩ := HROW.out.resolve_left (by omega)
        have hzo := HOK.out k hlt
        have hzc := hc k hlt
        have e0 := (HLP.out.n.cell (a := ⟨b, off + k * 3, none⟩) hb (fun h => h)).trans hzc.1
        have e1 := (HLP.out.n.cell (a := ⟨b, off + k * 3 + 1, none⟩) hb (fun h => h)).trans hzc.2.1
        have e2 := (HLP.out.n.cell (a := ⟨b, off + k * 3 + 2, none⟩) hb (fun h => h)).trans hzc.2.2
        obtain ⟨s0, s1⟩ := bounds_i64 hzo.2.1
        clear hzc hzo hc hb
        generalize z k = zk at *
        obtain ⟨kd, sz, ky⟩ := zk
        dsimp only at *
        have d1 : decide ((k : Int) < (n : Int)) = true := decide_eq_true (by omega)
        have d2 : decide ((k : Int) < 100) = true := decide_eq_true (by omega)
        have hnA : New wr (wr.alloc (.cells #[.int .i64 kd, .int .i64 sz, .bool ky] AT)) := (Turns.refl _ _).alloc _
        have HLA0 := Lib.hid (HLP.out.later hnA)
        have HAA0 : Hid (Blk (wr.alloc (.cells #[.int .i64 kd, .int .i64 sz, .bool ky] AT)) wr.heap.size #[.int .i64 kd, .int .i64 sz, .bool ky] AT) := Lib.hid (Blk.new _ _ _)
        have HPA : Hid (wr.heap.size ≠ ps ∧ wr.heap.size ≠ p ∧ pv.ownBlock ≠ some wr.heap.size ∧ (Value.slice ax q.L.length cx).ownBlock ≠ some wr.heap.size ∧ w.heap.size ≤ wr.heap.size) := Lib.hid (by
          have h1 := HLP.out.box.lt
          have h2 := HLP.out.ds.qs.lt
          have h3 := HLP.out.ds.qs.vlt wr.heap.size
          have h4 := fun e => (Sub.lt HLP.out.ds.sub wr.heap.size e).2
          exact ⟨by omega, by omega, fun e => by have := h3 e; omega, fun e => by have := h4 e; omega, HLP.out.n.size⟩)
        clear hnA HLP
        go_upto_region 8 with fail
        refine (show Code.wp _ _ _ _ (wr.alloc (.cells #[.int .i64 kd, .int .i64 sz, .bool ky] AT)) from ?_)
        clear e0 e1 e2
        generalize wr.alloc (.cells #[.int .i64 kd, .int .i64 sz, .bool ky] AT) = wA0 at *
        generalize wr.heap.size = pa at *
        have a0 := HAA0.out.cell 0
        by_cases h1 : kd = 1
        · have h1b : (kd == 1) = true := by rw [h1]; rfl
          have f2 := HAA0.out.free 2
          have a2 := HAA0.out.cell 2
          have HLA := Lib.hid (HLA0.out.aside ((Turns.refl (· = pa) _).setCell (p := ⟨pa, 2, none⟩) (.inl rfl) (.bool true)) HPA.out.2.2.2.2 HPA.out.1 HPA.out.2.1 HPA.out.2.2.1 HPA.out.2.2.2.1)
          have HAA : Hid (Blk (wA0.setCell ⟨pa, 2, none⟩ (.bool true)) pa #[.int .i64 kd, .int .i64 sz, .bool true] AT) := Lib.hid (HAA0.out.set 2 (.bool true))
          clear h1 HLA0 HAA0
          go_upto_region 10 with fail
          refine (show Code.wp _ _ _ _ (wA0.setCell ⟨pa, 2, none⟩ (.bool true)) from ?_)
          clear f2 a0 a2
          generalize wA0.setCell ⟨pa, 2, none⟩ (.bool true) = wA at *
          obtain ⟨⟨b0, b1, b2, b3, b4, b5, b6, b7⟩, y0, y1, y2, y3, y4, y5, y6, y7⟩ := eight HLA.out.box
          have a0 := HAA.out.cell 0
          have a1 := HAA.out.cell 1
          have a2 := HAA.out.cell 2
          obtain ⟨htk, t0, t1, n0, n1⟩ := HLA.out.ticks (by omega)
          have HTK := Lib.hid htk
          clear htk
          go_wp2_with fail
          refine (does p pv (.slice ax q.L.length cx) q now nn age kd sz true wA HLA.out.ds s0 s1 n0 n1 t0 t1 HTK.out).mono ?_
          rintro e w5 ⟨pv', xv', fl, rfl, hd⟩
          obtain ⟨ax', cx', hxv', _, _⟩ := hd.ds.sub.form
          have HL6 := Lib.hid (HLA.out.step hd rfl)
          have hb5 := hd.turns.blk HLA.out.box (fun e => by
            rcases e with e | e
            · exact HLA.out.sp.1 e
            · exact HLA.out.sp.2.1 e)
          have ha5 := hd.turns.blk HAA.out (fun e => by
            rcases e with e | e
            · exact HPA.out.2.1 e
            · exact HPA.out.2.2.1 e)
          have ha6 := (puts_turns (S := (· = ps)) (.inl rfl) (stL p (stepQ q now nn age kd sz true) xv' (stepNow now kd sz) (stepN nn kd) age) 0 _ (Turns.refl _ w5)).blk ha5 (fun e => HPA.out.1 e)
          have HA6 := Lib.hid ha6
          have HYG : Hid (kd = 3 → ∀ x ∈ (stepQ q now nn age kd sz true).L, (stepNow now kd sz) - x.tick < age) := Lib.hid (fun e => by subst e; exact exp_young HLA.out.good)
          clear b0 b1 b2 b3 b4 b5 b6 b7 y0 y1 y2 y3 y4 y5 y6 y7 a0 a1 a2
          obtain ⟨_, y0, y1, y2, y3, y4, y5, y6, y7⟩ := eight hb5
          obtain ⟨⟨b0, b1, b2, b3, b4, b5, b6, b7⟩, _⟩ := eight hb5
          clear hb5 ha5 ha6 hd
          generalize stepQ q now nn age kd sz true = q' at *
          generalize stepNow now kd sz = now' at *
          generalize stepN nn kd = nn' at *
          subst hxv'
          go_upto_region 11 with fail
          refine (show Code.wp _ _ _ _ (puts w5 ps 0 (stL p q' (.slice ax' q'.L.length cx') now' nn' age)) from ?_)
          clear b0 b1 b2 b3 b4 b5 b6 b7 y0 y1 y2 y3 y4 y5 y6 y7
          generalize puts w5 ps 0 (stL p q' (.slice ax' q'.L.length cx') now' nn' age) = w6 at *
          have hsm' := HL6.out.ds.qs.small
          have hlm' : q'.L.length ≤ maxLen := by unfold maxLen; omega
          obtain ⟨⟨b0, b1, b2, b3, b4, b5, b6, b7⟩, _⟩ := eight HL6.out.box
          clear HLA HAA
          go_wp2_with fail
          go_loopw [59] (fun i wr => ∃ j : Nat, j ≤ q'.L.length ∧ i = .int .i64 j ∧ New w6 wr) (fun i _ => q'.L.length - (intOf i).toNat)
          case atStart => exact ⟨0, Nat.zero_le _, rfl, Turns.refl _ _⟩
          case round =>
            obtain ⟨j, hj, rfl, hnx⟩ := hrel
            have HLX := Lib.hid (HL6.out.later hnx)
            have HAX := Lib.hid (hnx.blk HA6.out (fun h => h))
            have HNX := Lib.hid hnx
            clear hnx b0 b1 b2 b3 b4 b5 b6 b7
            by_cases hlj : j < q'.L.length
            · obtain ⟨x, hx⟩ : ∃ x, q'.L[j]? = some x := ⟨_, List.getElem?_eq_getElem hlj⟩
              obtain ⟨g, o, c', hv, hg, d0, d1, d2, d3⟩ := Sub.at' HLX.out.ds.sub hx
              injection hv with hv1 _ hv3
              subst hv1 hv3
              have hty := HLX.out.good.tk x (List.mem_of_getElem? hx)
              have hyg := fun e => HYG.out e x (List.mem_of_getElem? hx)
              have htb := HLX.out.tb
              obtain ⟨xn, xs, xt, xk⟩ := x
              dsimp only at *
              obtain ⟨x0, x1⟩ := hty
              have hw : IntKind.i64.wrap (now' - xt) = now' - xt := IntWalk.i64_in _ (by omega)
              have HB7 := Lib.hid (HLX.out.later ((Turns.refl (fun _ => False) _).alloc (.cells #[.int .i64 xn, .int .i64 xs, .int .i64 xt, .bool xk] OT)))
              have HN7 : Hid (New w6 (wr.alloc (.cells #[.int .i64 xn, .int .i64 xs, .int .i64 xt, .bool xk] OT))) := Lib.hid (HNX.out.alloc _)
              have HA7 := Lib.hid (((Turns.refl (fun _ => False) wr).alloc (.cells #[.int .i64 xn, .int .i64 xs, .int .i64 xt, .bool xk] OT)).blk HAX.out (fun h => h))
              have hx7 : Blk (wr.alloc (.cells #[.int .i64 xn, .int .i64 xs, .int .i64 xt, .bool xk] OT)) wr.heap.size #[.int .i64 xn, .int .i64 xs, .int .i64 xt, .bool xk] OT := Blk.new _ _ _
              have HX7 := Lib.hid hx7
              clear hx hx7
              go_upto_region 16 with fail
              refine (show Code.wp _ _ _ _ (wr.alloc (.cells #[.int .i64 xn, .int .i64 xs, .int .i64 xt, .bool xk] OT)) from ?_)
              clear d0 d1 d2 d3
              generalize wr.alloc (.cells #[.int .i64 xn, .int .i64 xs, .int .i64 xt, .bool xk] OT) = w7 at *
              generalize wr.heap.size = px at *
              have u2 := HX7.out.cell 2
              have a0 := HA7.out.cell 0
              obtain ⟨⟨b0, b1, b2, b3, b4, b5, b6, b7⟩, _⟩ := eight HB7.out.box
              by_cases h3 : kd = 3
              · have h3' : (kd == 3) = true := by rw [h3]; rfl
                have hd3 : decide (age ≤ now' - xt) = false := decide_eq_false (by have := hyg h3; omega)
                clear h3
                go_wp2_with fail
                go_roundw
                case rel => exact ⟨j + 1, by omega, by go_num, HN7.out⟩
                case measure => simp [intOf]; omega
              · have h3' : (kd == 3) = false := beq_false_of_ne h3
                clear h3
                go_wp2_with fail
                go_roundw
                case rel => exact ⟨j + 1, by omega, by go_num, HN7.out⟩
                case measure => simp [intOf]; omega
            · obtain rfl : j = q'.L.length := by omega
              obtain ⟨⟨b0, b1, b2, b3, b4, b5, b6, b7⟩, _⟩ := eight HLX.out.box
              have hw2 : IntKind.i64.wrap ((k : Int) + 1) = (k : Int) + 1 := IntWalk.i64_in _ (by omega)
              clear hlj
              cases hL : q'.L with
              | nil =>
                have HF := Lib.hid (first_nil p pv' q' wr HLX.out.ds.qs hL)
                clear hL
                go_wp2_with fail
                refine HF.out.mono ?_
                rintro e w8 ⟨rfl, n8⟩
                have HL9 := Lib.hid (HLX.out.later (n8.alloc (.cells zcs.toArray PT)))
                have HA9 := Lib.hid ((n8.alloc (.cells zcs.toArray PT)).blk HAX.out (fun h => h))
                clear n8 b0 b1 b2 b3 b4 b5 b6 b7
                go_upto_region 20 with fail
                refine (show Code.wp _ _ _ _ (w8.alloc (.cells zcs.toArray PT)) from ?_)
                generalize w8.alloc (.cells zcs.toArray PT) = w9 at *
                have a0 := HA9.out.cell 0
                go_wp2_with fail
                all_goals
                  go_roundw
                  case rel => exact ⟨k + 1, _, _, _, _, _, by omega, by omega, by go_num, HL9.out⟩
                  case measure => simp [intOf]; omega
              | cons x r =>
                have hx0 : q'.L[0]? = some x := by rw [hL]; rfl
                have hty := HLX.out.good.tk x (List.mem_of_getElem? hx0)
                have hyg := fun e => HYG.out e x (List.mem_of_getElem? hx0)
                have htb := HLX.out.tb
                have HF := Lib.hid (first_cons p pv' q' x wr HLX.out.ds.qs hx0)
                obtain ⟨xn, xs, xt, xk⟩ := x
                dsimp only [It.v] at *
                obtain ⟨x0, x1⟩ := hty
                have hw : IntKind.i64.wrap (now' - xt) = now' - xt := IntWalk.i64_in _ (by omega)
                clear hL hx0
                go_wp2_with fail
                refine HF.out.mono ?_
                rintro e w8 ⟨rfl, n8⟩
                have HL9 := Lib.hid (HLX.out.later (n8.alloc (.cells #[.int .i64 xn, .int .i64 xs, .int .i64 xt, .bool xk] PT)))
                have HA9 := Lib.hid ((n8.alloc (.cells #[.int .i64 xn, .int .i64 xs, .int .i64 xt, .bool xk] PT)).blk HAX.out (fun h => h))
                have hx9 : Blk (w8.alloc (.cells #[.int .i64 xn, .int .i64 xs, .int .i64 xt, .bool xk] PT)) w8.heap.size #[.int .i64 xn, .int .i64 xs, .int .i64 xt, .bool xk] PT := Blk.new _ _ _
                have HX9 := Lib.hid hx9
                clear n8 hx9 b0 b1 b2 b3 b4 b5 b6 b7
                go_upto_region 20 with fail
                refine (show Code.wp _ _ _ _ (w8.alloc (.cells #[.int .i64 xn, .int .i64 xs, .int .i64 xt, .bool xk] PT)) from ?_)
                generalize w8.alloc (.cells #[.int .i64 xn, .int .i64 xs, .int .i64 xt, .bool xk] PT) = w9 at *
                generalize w8.heap.size = px at *
                have u2 := HX9.out.cell 2
                have a0 := HA9.out.cell 0
                obtain ⟨⟨b0, b1, b2, b3, b4, b5, b6, b7⟩, _⟩ := eight HL9.out.box
                by_cases h3 : kd = 3
                · have h3' : (kd == 3) = true := by rw [h3]; rfl
                  have hd3 : decide (age ≤ now' - xt) = false := decide_eq_false (by have := hyg h3; omega)
                  clear h3
                  go_wp2_with fail
                  go_roundw
                  case rel => exact ⟨k + 1, _, _, _, _, _, by omega, by omega, by go_num, HL9.out⟩
                  case measure => simp [intOf]; omega
                · have h3' : (kd == 3) = false := beq_false_of_ne h3
                  clear h3
                  go_wp2_with fail
                  go_roundw
                  case rel => exact ⟨k + 1, _, _, _, _, _, by omega, by omega, by go_num, HL9.out⟩
                  case measure => simp [intOf]; omega
        · have h1b : (kd == 1) = false := beq_false_of_ne h1
          have HLA := HLA0
          have HAA := HAA0
          clear h1 HLA0 HAA0
          go_upto_region 10 with fail
          clear a0
          generalize wA0 = wA at *
          obtain ⟨⟨b0, b1, b2, b3, b4, b5, b6, b7⟩, y0, y1, y2, y3, y4, y5, y6, y7⟩ := eight HLA.out.box
          have a0 := HAA.out.cell 0
          have a1 := HAA.out.cell 1
          have a2 := HAA.out.cell 2
          obtain ⟨htk, t0, t1, n0, n1⟩ := HLA.out.ticks (by omega)
          have HTK := Lib.hid htk
          clear htk
          go_wp2_with fail
          refine (does p pv (.slice ax q.L.length cx) q now nn age kd sz ky wA HLA.out.ds s0 s1 n0 n1 t0 t1 HTK.out).mono ?_
          rintro e w5 ⟨pv', xv', fl, rfl, hd⟩
          obtain ⟨ax', cx', hxv', _, _⟩ := hd.ds.sub.form
          have HL6 := Lib.hid (HLA.out.step hd rfl)
          have hb5 := hd.turns.blk HLA.out.box (fun e => by
            rcases e with e | e
            · exact HLA.out.sp.1 e
            · exact HLA.out.sp.2.1 e)
          have ha5 := hd.turns.blk HAA.out (fun e => by
            rcases e with e | e
            · exact HPA.out.2.1 e
            · exact HPA.out.2.2.1 e)
          have ha6 := (puts_turns (S := (· = ps)) (.inl rfl) (stL p (stepQ q now nn age kd sz ky) xv' (stepNow now kd sz) (stepN nn kd) age) 0 _ (Turns.refl _ w5)).blk ha5 (fun e => HPA.out.1 e)
          have HA6 := Lib.hid ha6
          have HYG : Hid (kd = 3 → ∀ x ∈ (stepQ q now nn age kd sz ky).L, (stepNow now kd sz) - x.tick < age) := Lib.hid (fun e => by subst e; exact exp_young HLA.out.good)
          clear b0 b1 b2 b3 b4 b5 b6 b7 y0 y1 y2 y3 y4 y5 y6 y7 a0 a1 a2
          obtain ⟨_, y0, y1, y2, y3, y4, y5, y6, y7⟩ := eight hb5
          obtain ⟨⟨b0, b1, b2, b3, b4, b5, b6, b7⟩, _⟩ := eight hb5
          clear hb5 ha5 ha6 hd
          generalize stepQ q now nn age kd sz ky = q' at *
          generalize stepNow now kd sz = now' at *
          generalize stepN nn kd = nn' at *
          subst hxv'
          go_upto_region 11 with fail
          refine (show Code.wp _ _ _ _ (puts w5 ps 0 (stL p q' (.slice ax' q'.L.length cx') now' nn' age)) from ?_)
          clear b0 b1 b2 b3 b4 b5 b6 b7 y0 y1 y2 y3 y4 y5 y6 y7
          generalize puts w5 ps 0 (stL p q' (.slice ax' q'.L.length cx') now' nn' age) = w6 at *
          have hsm' := HL6.out.ds.qs.small
          have hlm' : q'.L.length ≤ maxLen := by unfold maxLen; omega
          obtain ⟨⟨b0, b1, b2, b3, b4, b5, b6, b7⟩, _⟩ := eight HL6.out.box
          clear HLA HAA
          go_wp2_with fail
          go_loopw [59] (fun i wr => ∃ j : Nat, j ≤ q'.L.length ∧ i = .int .i64 j ∧ New w6 wr) (fun i _ => q'.L.length - (intOf i).toNat)
          case atStart => exact ⟨0, Nat.zero_le _, rfl, Turns.refl _ _⟩
          case round =>
            obtain ⟨j, hj, rfl, hnx⟩ := hrel
            have HLX := Lib.hid (HL6.out.later hnx)
            have HAX := Lib.hid (hnx.blk HA6.out (fun h => h))
            have HNX := Lib.hid hnx
            clear hnx b0 b1 b2 b3 b4 b5 b6 b7
            by_cases hlj : j < q'.L.length
            · obtain ⟨x, hx⟩ : ∃ x, q'.L[j]? = some x := ⟨_, List.getElem?_eq_getElem hlj⟩
              obtain ⟨g, o, c', hv, hg, d0, d1, d2, d3⟩ := Sub.at' HLX.out.ds.sub hx
              injection hv with hv1 _ hv3
              subst hv1 hv3
              have hty := HLX.out.good.tk x (List.mem_of_getElem? hx)
              have hyg := fun e => HYG.out e x (List.mem_of_getElem? hx)
              have htb := HLX.out.tb
              obtain ⟨xn, xs, xt, xk⟩ := x
              dsimp only at *
              obtain ⟨x0, x1⟩ := hty
              have hw : IntKind.i64.wrap (now' - xt) = now' - xt := IntWalk.i64_in _ (by omega)
              have HB7 := Lib.hid (HLX.out.later ((Turns.refl (fun _ => False) _).alloc (.cells #[.int .i64 xn, .int .i64 xs, .int .i64 xt, .bool xk] OT)))
              have HN7 : Hid (New w6 (wr.alloc (.cells #[.int .i64 xn, .int .i64 xs, .int .i64 xt, .bool xk] OT))) := Lib.hid (HNX.out.alloc _)
              have HA7 := Lib.hid (((Turns.refl (fun _ => False) wr).alloc (.cells #[.int .i64 xn, .int .i64 xs, .int .i64 xt, .bool xk] OT)).blk HAX.out (fun h => h))
              have hx7 : Blk (wr.alloc (.cells #[.int .i64 xn, .int .i64 xs, .int .i64 xt, .bool xk] OT)) wr.heap.size #[.int .i64 xn, .int .i64 xs, .int .i64 xt, .bool xk] OT := Blk.new _ _ _
              have HX7 := Lib.hid hx7
              clear hx hx7
              go_upto_region 16 with fail
              refine (show Code.wp _ _ _ _ (wr.alloc (.cells #[.int .i64 xn, .int .i64 xs, .int .i64 xt, .bool xk] OT)) from ?_)
              clear d0 d1 d2 d3
              generalize wr.alloc (.cells #[.int .i64 xn, .int .i64 xs, .int .i64 xt, .bool xk] OT) = w7 at *
              generalize wr.heap.size = px at *
              have u2 := HX7.out.cell 2
              have a0 := HA7.out.cell 0
              obtain ⟨⟨b0, b1, b2, b3, b4, b5, b6, b7⟩, _⟩ := eight HB7.out.box
              by_cases h3 : kd = 3
              · have h3' : (kd == 3) = true := by rw [h3]; rfl
                have hd3 : decide (age ≤ now' - xt) = false := decide_eq_false (by have := hyg h3; omega)
                clear h3
                go_wp2_with fail
                go_roundw
                case rel => exact ⟨j + 1, by omega, by go_num, HN7.out⟩
                case measure => simp [intOf]; omega
              · have h3' : (kd == 3) = false := beq_false_of_ne h3
                clear h3
                go_wp2_with fail
                go_roundw
                case rel => exact ⟨j + 1, by omega, by go_num, HN7.out⟩
                case measure => simp [intOf]; omega
            · obtain rfl : j = q'.L.length := by omega
              obtain ⟨⟨b0, b1, b2, b3, b4, b5, b6, b7⟩, _⟩ := eight HLX.out.box
              have hw2 : IntKind.i64.wrap ((k : Int) + 1) = (k : Int) + 1 := IntWalk.i64_in _ (by omega)
              clear hlj
              cases hL : q'.L with
              | nil =>
                have HF := Lib.hid (first_nil p pv' q' wr HLX.out.ds.qs hL)
                clear hL
                go_wp2_with fail
                refine HF.out.mono ?_
                rintro e w8 ⟨rfl, n8⟩
                have HL9 := Lib.hid (HLX.out.later (n8.alloc (.cells zcs.toArray PT)))
                have HA9 := Lib.hid ((n8.alloc (.cells zcs.toArray PT)).blk HAX.out (fun h => h))
                clear n8 b0 b1 b2 b3 b4 b5 b6 b7
                go_upto_region 20 with fail
                refine (show Code.wp _ _ _ _ (w8.alloc (.cells zcs.toArray PT)) from ?_)
                generalize w8.alloc (.cells zcs.toArray PT) = w9 at *
                have a0 := HA9.out.cell 0
                go_wp2_with fail
                all_goals
                  go_roundw
                  case rel => exact ⟨k + 1, _, _, _, _, _, by omega, by omega, by go_num, HL9.out⟩
                  case measure => simp [intOf]; omega
              | cons x r =>
                have hx0 : q'.L[0]? = some x := by rw [hL]; rfl
                have hty := HLX.out.good.tk x (List.mem_of_getElem? hx0)
                have hyg := fun e => HYG.out e x (List.mem_of_getElem? hx0)
                have htb := HLX.out.tb
                have HF := Lib.hid (first_cons p pv' q' x wr HLX.out.ds.qs hx0)
                obtain ⟨xn, xs, xt, xk⟩ := x
                dsimp only [It.v] at *
                obtain ⟨x0, x1⟩ := hty
                have hw : IntKind.i64.wrap (now' - xt) = now' - xt := IntWalk.i64_in _ (by omega)
                clear hL hx0
                go_wp2_with fail
                refine HF.out.mono ?_
                rintro e w8 ⟨rfl, n8⟩
                have HL9 := Lib.hid (HLX.out.later (n8.alloc (.cells #[.int .i64 xn, .int .i64 xs, .int .i64 xt, .bool xk] PT)))
                have HA9 := Lib.hid ((n8.alloc (.cells #[.int .i64 xn, .int .i64 xs, .int .i64 xt, .bool xk] PT)).blk HAX.out (fun h => h))
                have hx9 : Blk (w8.alloc (.cells #[.int .i64 xn, .int .i64 xs, .int .i64 xt, .bool xk] PT)) w8.heap.size #[.int .i64 xn, .int .i64 xs, .int .i64 xt, .bool xk] PT := Blk.new _ _ _
                have HX9 := Lib.hid hx9
                clear n8 hx9 b0 b1 b2 b3 b4 b5 b6 b7
                go_upto_region 20 with fail
                refine (show Code.wp _ _ _ _ (w8.alloc (.cells #[.int .i64 xn, .int .i64 xs, .int .i64 xt, .bool xk] PT)) from ?_)
                generalize w8.alloc (.cells #[.int .i64 xn, .int .i64 xs, .int .i64 xt, .bool xk] PT) = w9 at *
                generalize w8.heap.size = px at *
                have u2 := HX9.out.cell 2
                have a0 := HA9.out.cell 0
                obtain ⟨⟨b0, b1, b2, b3, b4, b5, b6, b7⟩, _⟩ := eight HL9.out.box
                by_cases h3 : kd = 3
                · have h3' : (kd == 3) = true := by rw [h3]; rfl
                  have hd3 : decide (age ≤ now' - xt) = false := decide_eq_false (by have := hyg h3; omega)
                  clear h3
                  go_wp2_with fail
                  go_roundw
                  case rel => exact ⟨k + 1, _, _, _, _, _, by omega, by omega, by go_num, HL9.out⟩
                  case measure => simp [intOf]; omega
                · have h3' : (kd == 3) = false := beq_false_of_ne h3
                  clear h3
                  go_wp2_with fail
                  go_roundw
                  case rel => exact ⟨k + 1, _, _, _, _, _, by omega, by omega, by go_num, HL9.out⟩
                  case measure => simp [intOf]; omega
      · have d2 : decide ((k : Int) < 100) = false := decide_eq_false (by omega)
        go_wp2
        go_ret
        exact ⟨rfl, HLP.out.n.below (Nat.le_refl _) (fun _ _ h => h.elim)⟩
    · obtain rfl : k = n := by omega
      go_wp2
      go_ret
      exact ⟨rfl, HLP.out.n.below (Nat.le_refl _) (fun _ _ h => h.elim)⟩
end Go.Proofs.Ythdlkcmkbpabaaa.que
