/-
  The reference of layer 18: Put.
-/
import Derived.Test.YtcppibjllaablaaZKac
set_option linter.unusedVariables false
set_option linter.unusedSimpArgs false
namespace Go.Proofs.Ytcppibjllaablaa.que
open Go.RowKit mem
set_option linter.unusedVariables false

set_option maxHeartbeats 2000000 in
set_option maxRecDepth 10000 in
theorem rput (v : Value) (q : Q) (x : It) (w : World) (h : Sub IE 0 w v q.L) (ok : q.ok) (s0 : -9223372036854775808 ≤ x.size) (s1 : x.size ≤ 9223372036854775807) :
    Calls Try.prog 39 #[.agg (rcs q v), x.v] w fun e w' => ∃ v' u, e = .returned (.tuple #[.agg (rcs (putQ q x) v'), u, .bool (putOk q x)]) ∧ RPost w w' v (putQ q x) v' u (putD q x) := by
  obtain ⟨ao, c, hv, hc, hcm⟩ := h.form
  have HSV := Lib.hid h
  have HOK := Lib.hid ok
  have m1 := ok.m1
  have m2 := ok.m2
  have f1 := ok.f1
  have f2 := ok.f2
  have hsm : q.L.length ≤ 1024 := by have := ok.len; omega
  have hlm : q.L.length ≤ maxLen := by unfold maxLen; omega
  have HY : Hid (∃ y : It, y = x) := Lib.hid ⟨x, rfl⟩
  obtain ⟨y, hy⟩ := HY.out
  have HYE := Lib.hid hy
  clear h ok hy HY
  obtain ⟨xn, xs, xt, xk⟩ := x
  dsimp only [It.v, rcs] at *
  have HY1 : Hid (y.size = xs ∧ y.key = xk) := Lib.hid (by rw [HYE.out]; exact ⟨rfl, rfl⟩)
  have hbad : Hid (bad q y = (decide (xs < 0) || decide (q.most < xs) || (q.broken && !xk))) := Lib.hid (by rw [HYE.out]; rfl)
  rw [← HYE.out]
  go_enter Try.func39, Try.ntmps39
  go_upto_region 1 with fail
  have HW3 : Hid (∃ w3, w3 = ((w.alloc (.cells #[.int .i64 q.frames, .int .i64 q.most, v, .bool q.broken] RQ)).alloc (.cells #[.int .i64 xn, .int .i64 xs, .int .i64 xt, .bool xk] OT)).alloc (.cells #[.int .i64 0, .int .i64 0, .slice none 0 0, .bool false] RQ)) := Lib.hid ⟨_, rfl⟩
  obtain ⟨w3, hw3⟩ := HW3.out
  have hw3' := Lib.hid hw3
  subst hv
  refine (show Code.wp _ _ _ _ (((w.alloc (.cells #[.int .i64 q.frames, .int .i64 q.most, .slice ao q.L.length c, .bool q.broken] RQ)).alloc (.cells #[.int .i64 xn, .int .i64 xs, .int .i64 xt, .bool xk] OT)).alloc (.cells #[.int .i64 0, .int .i64 0, .slice none 0 0, .bool false] RQ)) from ?_)
  rw [← hw3]
  have hn3 : New w w3 := by rw [hw3]; exact (((Turns.refl _ _).alloc _).alloc _).alloc _
  have hb3 : Blk w3 w.heap.size #[.int .i64 q.frames, .int .i64 q.most, .slice ao q.L.length c, .bool q.broken] RQ := by rw [hw3]; exact ((Blk.new _ _ _).alloc _).alloc _
  have hx3 : Blk w3 (w.heap.size + 1) #[.int .i64 xn, .int .i64 xs, .int .i64 xt, .bool xk] OT := by
    rw [hw3, show w.heap.size + 1 = (w.alloc (.cells #[.int .i64 q.frames, .int .i64 q.most, .slice ao q.L.length c, .bool q.broken] RQ)).heap.size by simp]
    exact (Blk.new _ _ _).alloc _
  have hr3 : Blk w3 (w.heap.size + 1 + 1) #[.int .i64 0, .int .i64 0, .slice none 0 0, .bool false] RQ := by
    rw [hw3, show w.heap.size + 1 + 1 = ((w.alloc (.cells #[.int .i64 q.frames, .int .i64 q.most, .slice ao q.L.length c, .bool q.broken] RQ)).alloc (.cells #[.int .i64 xn, .int .i64 xs, .int .i64 xt, .bool xk] OT)).heap.size by simp]
    exact Blk.new _ _ _
  have HPB : Hid (w.heap.size ≤ w.heap.size ∧ w.heap.size ≤ w.heap.size + 1 ∧ w.heap.size ≤ w.heap.size + 1 + 1 ∧ w.heap.size ≠ w.heap.size + 1 ∧ w.heap.size ≠ w.heap.size + 1 + 1 ∧ w.heap.size + 1 ≠ w.heap.size + 1 + 1) := Lib.hid (by omega)
  clear hw3 hw3' HW3
  obtain ⟨pb, hpb⟩ : ∃ pb, pb = w.heap.size := ⟨_, rfl⟩
  rw [← hpb] at hb3 hx3 hr3 HPB
  rw [← hpb]
  have HPE := Lib.hid hpb
  clear hpb
  generalize pb + 1 + 1 = pr at *
  generalize pb + 1 = px at *
  have b1 := hb3.cell 1
  have b3 := hb3.cell 3
  have x1 := hx3.cell 1
  have x3 := hx3.cell 3
  have HB3 := Lib.hid hb3
  have HX3 := Lib.hid hx3
  have HR3 := Lib.hid hr3
  have HN3 := Lib.hid hn3
  clear hb3 hx3 hr3 hn3
  go_cut [28] (fun v wx => v = .bool (bad q y) ∧ wx = w3)
  case first =>
    by_cases h1 : xs < 0
    · have d1 : decide (xs < 0) = true := decide_eq_true h1
      rw [d1] at hbad
      go_wp2_with fail
      go_meet
      case rel => exact ⟨by rw [hbad.out]; rfl, rfl⟩
    · have d1 : decide (xs < 0) = false := decide_eq_false h1
      by_cases h2 : q.most < xs
      · have d2 : decide (q.most < xs) = true := decide_eq_true h2
        rw [d1, d2] at hbad
        go_wp2_with fail
        go_meet
        case rel => exact ⟨by rw [hbad.out]; rfl, rfl⟩
      · have d2 : decide (q.most < xs) = false := decide_eq_false h2
        rw [d1, d2] at hbad
        generalize q.broken = qb at *
        cases qb
        · go_wp2_with fail
          go_meet
          case rel => exact ⟨by rw [hbad.out]; rfl, rfl⟩
        · go_wp2_with fail
          go_meet
          case rel => exact ⟨by rw [hbad.out]; rfl, rfl⟩
  case rest =>
    obtain ⟨rfl, hwc⟩ := hcut
    subst hwc
    clear b1 b3 x1 x3
    by_cases hb : bad q y = true
    · have f3 := HB3.out.free 3
      obtain ⟨⟨b0, b1, b2, b3⟩, _⟩ := four HB3.out
      obtain ⟨⟨r0, r1, r2, r3⟩, y0, y1, y2, y3⟩ := four HR3.out
      rw [hb]
      have hne := HPB.out.2.2.2.2.1
      have HE : Hid (Blk (puts (wc.setCell ⟨pb, 3, none⟩ (.bool true)) pr 0 [.int .i64 q.frames, .int .i64 q.most, .slice ao q.L.length c, .bool true]) pr #[.int .i64 q.frames, .int .i64 q.most, .slice ao q.L.length c, .bool true] RQ ∧ RPost w (puts (wc.setCell ⟨pb, 3, none⟩ (.bool true)) pr 0 [.int .i64 q.frames, .int .i64 q.most, .slice ao q.L.length c, .bool true]) (.slice ao q.L.length c) (putQ q y) (.slice ao q.L.length c) (.slice none 0 0) (putD q y)) := Lib.hid (by
        have e1 : putQ q y = ⟨q.frames, q.most, q.L, true⟩ := by unfold putQ; rw [hb, if_pos rfl]
        have e2 : putD q y = [] := by unfold putD; rw [hb, if_pos rfl]
        have t1 : Turns (fun i => w.heap.size ≤ i) wc (wc.setCell ⟨pb, 3, none⟩ (.bool true)) := (Turns.refl _ _).setCell (p := ⟨pb, 3, none⟩) (.inl (by rw [← HPE.out]; exact HPB.out.1)) _
        have r1 := HR3.out.setOther (a := ⟨pb, 3, none⟩) hne (.bool true)
        have t2 := puts_turns (S := fun i => w.heap.size ≤ i) (p := pr) (.inl (by rw [← HPE.out]; exact HPB.out.2.2.1)) [.int .i64 q.frames, .int .i64 q.most, .slice ao q.L.length c, .bool true] 0 _ t1
        have n2 : New w _ := HN3.out.trans (t2.mono (fun i _ hi => .inr hi))
        rw [e1, e2]
        exact ⟨puts_blk _ _ r1 rfl, Sub.new HSV.out n2, fun g hg => .inl hg, Sub.nil _ _ _, (fun g hg => by simp [Value.ownBlock] at hg), n2, fun g hg => .inl hg⟩)
      have e3 : Hid (putOk q y = false) := Lib.hid (by unfold putOk; rw [hb]; rfl)
      have e1 : Hid (putQ q y = ⟨q.frames, q.most, q.L, true⟩) := Lib.hid (by unfold putQ; rw [hb, if_pos rfl])
      have hne' := hne.symm
      clear hb hbad
      go_wp2_with fail
      refine (show bodyPost _ _ _ _ _ (puts (wc.setCell ⟨pb, 3, none⟩ (.bool true)) pr 0 [.int .i64 q.frames, .int .i64 q.most, .slice ao q.L.length c, .bool true]) from ?_)
      generalize puts (wc.setCell ⟨pb, 3, none⟩ (.bool true)) pr 0 [.int .i64 q.frames, .int .i64 q.most, .slice ao q.L.length c, .bool true] = w9 at *
      obtain ⟨⟨g0, g1, g2, g3⟩, _⟩ := four HE.out.1
      refine bodyPost_ret (v := .tuple #[.agg #[.int .i64 q.frames, .int .i64 q.most, .slice ao q.L.length c, .bool true], .slice none 0 0, .bool false]) (by simp [results, Try.results39, go_sem, g0, g1, g2, g3]) rfl ?_
      exact ⟨_, _, by rw [e3.out, e1.out], HE.out.2⟩
    · have hb : bad q y = false := by simpa using hb
      have HB := Lib.hid hb
      rw [hb]
      have hs : 0 ≤ xs ∧ xs ≤ q.most := by
        have := hbad.out
        rw [hb] at this
        have h2 : (decide (xs < 0) || decide (q.most < xs)) = false := by
          cases h3 : (decide (xs < 0) || decide (q.most < xs)) with
          | false => rfl
          | true => rw [h3] at this; simp at this
        simp at h2; omega
      obtain ⟨xs0, xs1⟩ := hs
      have H00 : Hid (full q y [] = false) := Lib.hid (full_nil HOK.out (by rw [HY1.out.1]; omega))
      clear hb hbad
      have HO4 : Hid (Owns IE OT (wc.alloc (.cells #[] OT)) (.slice (some ⟨wc.heap.size, 0, none⟩) 0 0) []) := Lib.hid (World.ownsRow_made (size := 4) wc #[] 0 (Nat.zero_le _) (Nat.zero_le _) (by simp))
      have HR4 : Hid (RLoop w (wc.alloc (.cells #[] OT)) (.slice ao q.L.length c) q pb px pr y (.slice ao q.L.length c) (.slice (some ⟨wc.heap.size, 0, none⟩) 0 0) 0) := Lib.hid (by
        have n4 : New w (wc.alloc (.cells #[] OT)) := HN3.out.alloc _
        refine ⟨by rw [qk_zero]; exact HB3.out.alloc _, Sub.new HSV.out n4, fun g hg => hg, HO4.out, fun g hg => ?_, by rw [HYE.out]; exact HX3.out.alloc _, HR3.out.alloc _, n4⟩
        have e : wc.heap.size = g := by simpa [Value.ownBlock] using hg
        have l1 := HB3.out.lt
        have l2 := HX3.out.lt
        have l3 := HN3.out.size
        have l4 := HR3.out.lt
        exact ⟨by omega, by omega, by omega, by omega⟩)
      go_upto_region 5 with fail
      refine (show Code.wp _ _ _ _ (wc.alloc (.cells #[] OT)) from ?_)
      generalize wc.alloc (.cells #[] OT) = w4 at *
      generalize wc.heap.size = po at *
      have HVL : Hid (∀ g, (Value.slice ao q.L.length c).ownBlock = some g → g < w.heap.size) := Lib.hid (fun g hg => (Sub.lt HSV.out g hg).2)
      clear HO4 HB3 HX3 HR3 HN3
      go_wp2_with fail
      go_loopw [7] (fun vo wr => ∃ (k : Nat) (vk : Value), k ≤ q.L.length ∧ k + sh (full q y) (q.L.drop k) = putK q y ∧ (∃ ao c, vo = .slice ao k c) ∧ RLoop w wr (.slice ao q.L.length c) q pb px pr y vk vo k) (fun v _ => q.L.length - slen v)
      case atStart => exact ⟨0, _, Nat.zero_le _, by rw [List.drop_zero, Nat.zero_add]; rfl, ⟨_, _, rfl⟩, HR4.out⟩
      case round =>
        obtain ⟨k, vk, hk, hsh, ⟨ao7, c7, rfl⟩, hr⟩ := hrel
        obtain ⟨a1, c1, hvk, hc1, hcm1⟩ := Sub.form hr.sub
        rw [List.length_drop] at hvk hc1
        subst hvk
        have b0 : wr.cell? ⟨pb, 0, none⟩ = some (.int .i64 q.frames) := hr.box.cell 0
        have b1 : wr.cell? ⟨pb, 1, none⟩ = some (.int .i64 q.most) := hr.box.cell 1
        have b2 : wr.cell? ⟨pb, 2, none⟩ = some (.slice a1 (q.L.length - k) c1) := hr.box.cell 2
        have x1 : wr.cell? ⟨px, 1, none⟩ = some (.int .i64 xs) := by rw [← HY1.out.1]; exact hr.xbox.cell 1
        have HR := Lib.hid hr
        have HSH := Lib.hid hsh
        have hkd := HOK.out.drop k false
        have hlenk := hkd.len
        have hpos := hkd.pos
        have hsum := hkd.sum
        simp only [List.length_drop] at hlenk
        have hs0 := sumL_pos _ hpos
        have HFU : Hid (full q y (q.L.drop k) = (decide (q.frames ≤ ((q.L.length - k : Nat) : Int)) || decide (q.most - xs < sumL (q.L.drop k)))) := Lib.hid (by
          unfold full
          rw [HY1.out.1, List.length_drop]
          congr 1
          · apply decide_eq_decide.2; constructor <;> intro h <;> omega
          · apply decide_eq_decide.2; constructor <;> intro h <;> omega)
        have HRS : Hid (∀ w', New wr w' → _) := Lib.hid (fun w' n => rsize (.slice a1 (q.L.length - k) c1) (q.L.drop k) w' (Sub.new hr.sub n) (by rw [List.length_drop]; omega) hpos (by show sumL (q.L.drop k) ≤ _; simp only at hsum; omega))
        simp only at hsum
        have hw : IntKind.i64.wrap (q.most - xs) = q.most - xs := IntWalk.i64_in _ (by omega)
        have hw2 : IntKind.i64.wrap ((q.L.length - k : Nat) : Int) = ((q.L.length - k : Nat) : Int) := IntWalk.i64_in _ (by omega)
        clear hr hsh hkd hpos
        go_upto_region 5 with fail
        go_cut [48] (fun v wx => v = .bool (full q y (q.L.drop k)) ∧ New wr wx)
        case first =>
          by_cases hd : q.frames ≤ ((q.L.length - k : Nat) : Int)
          · have hd1 : decide (q.frames ≤ ((q.L.length - k : Nat) : Int)) = true := decide_eq_true hd
            rw [hd1] at HFU
            go_wp2_with fail
            go_quiet (fail)
            go_wp2_with fail
            go_meet
            case rel => exact ⟨by rw [HFU.out]; rfl, (Turns.refl _ _).drewN _⟩
          · have hd1 : decide (q.frames ≤ ((q.L.length - k : Nat) : Int)) = false := decide_eq_false hd
            rw [hd1] at HFU
            have hpl := HR.out.box.lt
            have hxl := HR.out.xbox.lt
            go_wp2_with fail
            have HH : HeldT wr wr pb px (.int .i64 q.frames) (.int .i64 q.most) (.slice a1 (q.L.length - k) c1) (.int .i64 xs) := ⟨Turns.refl _ _, hpl, hxl, b0, b1, b2, x1⟩
            clear b0 b1 b2 x1
            obtain ⟨_, _, _, b0, b1, b2, x1⟩ := id HH
            go_region_held3 (fun w' => New wr w' ∧ pb < w'.heap.size ∧ px < w'.heap.size ∧ w'.cell? ⟨pb, 0, none⟩ = some (.int .i64 q.frames) ∧ w'.cell? ⟨pb, 1, none⟩ = some (.int .i64 q.most) ∧ w'.cell? ⟨pb, 2, none⟩ = some (.slice a1 (q.L.length - k) c1) ∧ w'.cell? ⟨px, 1, none⟩ = some (.int .i64 xs))
              (first
                | (with_reducible assumption)
                | ((with_reducible refine heldT_drew ?_); with_reducible assumption)
                | ((with_reducible refine heldT_new (by with_reducible assumption) ?_); with_reducible assumption))
              ((go_at_call 16; (with_reducible refine Calls.mono (HRS.out _ ?_) ?_); (focus (apply heldT_nw; assumption)); rintro e w5 ⟨rfl, n5⟩))
            all_goals
              rename_i hHl
              have N5 : Hid (New wr _) := Lib.hid (heldT_nw hHl)
              clear hHl
              go_wp2_with fail
              go_meet
              case rel => exact ⟨by rw [HFU.out]; rfl, N5.out⟩
        case rest =>
          obtain ⟨rfl, n5⟩ := hcut
          have hr5 := HR.out.later n5
          obtain ⟨⟨b0, b1, b2, b3⟩, z0, z1, z2, z3⟩ := four hr5.box
          have HR5 := Lib.hid hr5
          clear HR n5 hr5 x1 hw hw2 HRS HFU hs0
          by_cases hf : full q y (q.L.drop k) = true
          · have HGO := Lib.hid (sh_go (full q y) H00.out (q.L.drop k) hf)
            have hne := HGO.out.1
            have hkl : k < q.L.length := by
              rcases Nat.lt_or_ge k q.L.length with h | h
              · exact h
              · exact absurd (List.drop_eq_nil_of_le h) hne
            have HDR := Lib.hid (rdrop q.frames q.most (.slice a1 (q.L.length - k) c1) (q.L.drop k) (qk q k).broken wc HR5.out.sub (by rw [List.length_drop]; omega) hne)
            have HDB := Lib.hid (dropB q k hkl)
            rw [HDB.out] at HDR
            have hdl := dropN_le (q.L.drop k) hne
            have hdn := dropN_pos (q.L.drop k)
            rw [List.length_drop] at hdl
            have hd : ∃ d, d = dropN (q.L.drop k) := ⟨_, rfl⟩
            obtain ⟨d, hd⟩ := hd
            rw [← hd] at hdl hdn HDR
            have HD := Lib.hid hd
            rw [hf]
            have hq1 : (qk q k).frames = q.frames := rfl
            have hq2 : (qk q k).most = q.most := rfl
            rw [hq1] at b0
            rw [hq2] at b1
            clear hne hd hf hq1 hq2
            go_wp2_with fail
            refine HDR.out.mono ?_
            rintro e w6 ⟨v', u, rfl, hdp⟩
            obtain ⟨a6, c6, hv6, _⟩ := Sub.form (.inr hdp.left)
            rw [List.length_drop, List.length_drop, ← HD.out] at hv6
            subst hv6
            have HDP := Lib.hid hdp
            obtain ⟨z0', z1', z2', z3'⟩ := (four (hdp.n.blk HR5.out.box (fun h => h))).2
            clear hdp b0 b1 b2 b3 z0 z1 z2 z3
            go_upto_region 7 with fail
            refine (show Code.wp _ _ _ _ (w6.alloc (.cells #[.int .i64 q.frames, .int .i64 q.most, .slice a6 (q.L.length - k - d) c6, .bool (qk q (k + d)).broken] RQ)) from ?_)
            have hb7 := ((HDP.out.n.alloc (.cells #[.int .i64 q.frames, .int .i64 q.most, .slice a6 (q.L.length - k - d) c6, .bool (qk q (k + d)).broken] RQ)).blk HR5.out.box (fun h => h))
            have hm7 : Blk (w6.alloc (.cells #[.int .i64 q.frames, .int .i64 q.most, .slice a6 (q.L.length - k - d) c6, .bool (qk q (k + d)).broken] RQ)) w6.heap.size #[.int .i64 q.frames, .int .i64 q.most, .slice a6 (q.L.length - k - d) c6, .bool (qk q (k + d)).broken] RQ := Blk.new _ _ _
            have hp8 : w6.heap.size ≠ pb := by have := (HDP.out.n.blk HR5.out.box (fun h => h)).lt; omega
            obtain ⟨⟨m0, m1', m2', m3⟩, _⟩ := four hm7
            obtain ⟨⟨b0, b1, b2, b3⟩, z0, z1, z2, z3⟩ := four hb7
            have HR8 : Hid (∀ v9 w9, Owns IE OT w9 v9 (q.L.take k ++ (q.L.drop k).take d) → (puts (w6.alloc (.cells #[.int .i64 q.frames, .int .i64 q.most, .slice a6 (q.L.length - k - d) c6, .bool (qk q (k + d)).broken] RQ)) pb 0 [.int .i64 q.frames, .int .i64 q.most, .slice a6 (q.L.length - k - d) c6, .bool (qk q (k + d)).broken]).grownBy w9 (Value.slice ao7 k c7).ownBlock → (v9.ownBlock = (Value.slice ao7 k c7).ownBlock ∨ v9.ownBlock = some (puts (w6.alloc (.cells #[.int .i64 q.frames, .int .i64 q.most, .slice a6 (q.L.length - k - d) c6, .bool (qk q (k + d)).broken] RQ)) pb 0 [.int .i64 q.frames, .int .i64 q.most, .slice a6 (q.L.length - k - d) c6, .bool (qk q (k + d)).broken]).heap.size) → RLoop w w9 (.slice ao q.L.length c) q pb px pr y (.slice a6 (q.L.length - k - d) c6) v9 (k + d)) := Lib.hid (fun v9 w9 ho hg ha =>
              HR5.out.step (o := .cells #[.int .i64 q.frames, .int .i64 q.most, .slice a6 (q.L.length - k - d) c6, .bool (qk q (k + d)).broken] RQ) HDP.out HD.out HVL.out (by rw [← HPE.out]; exact HPB.out.1) HPB.out.2.2.2.1.symm HPB.out.2.2.2.2.1.symm ho hg ha)
            have t8 : Turns (· = pb) (w6.alloc (.cells #[.int .i64 q.frames, .int .i64 q.most, .slice a6 (q.L.length - k - d) c6, .bool (qk q (k + d)).broken] RQ)) (puts (w6.alloc (.cells #[.int .i64 q.frames, .int .i64 q.most, .slice a6 (q.L.length - k - d) c6, .bool (qk q (k + d)).broken] RQ)) pb 0 [.int .i64 q.frames, .int .i64 q.most, .slice a6 (q.L.length - k - d) c6, .bool (qk q (k + d)).broken]) := puts_turns (S := (· = pb)) (.inl rfl) _ 0 _ (Turns.refl _ _)
            have HO8 := Lib.hid ((HR5.out.out.turns (HDP.out.n.alloc (.cells #[.int .i64 q.frames, .int .i64 q.most, .slice a6 (q.L.length - k - d) c6, .bool (qk q (k + d)).broken] RQ)) (fun _ _ h => h)).turns t8 (fun g hg e => (HR5.out.vb g hg).2.1 e))
            have HU8 : Hid (Sub IE 0 _ u ((q.L.drop k).take d)) := Lib.hid (Sub.turns' (Sub.turns' (.inr (by rw [HD.out]; exact HDP.out.gone)) ((Turns.refl (fun _ => False) _).alloc (.cells #[.int .i64 q.frames, .int .i64 q.most, .slice a6 (q.L.length - k - d) c6, .bool (qk q (k + d)).broken] RQ)) (fun _ _ h => h)) t8 (fun g hg e => by
              have h1 := HVL.out g (HR5.out.src g (HDP.out.gb ▸ hg))
              have h2 := HPB.out.1
              have h3 := HPE.out
              omega))
            have hll : Hid ((q.L.take k).length + ((q.L.drop k).take d).length ≤ 1048576) := Lib.hid (by simp only [List.length_take, List.length_drop]; omega)
            have HGO2 := HGO.out.2
            rw [List.drop_drop, ← HD.out] at HGO2
            have HS2 : Hid (k + d + sh (full q y) (q.L.drop (k + d)) = putK q y) := Lib.hid (by have := HSH.out; omega)
            clear hm7 hb7 t8 HGO2 HGO HDR HDB HDP HR5
            generalize w6.alloc (.cells #[.int .i64 q.frames, .int .i64 q.most, .slice a6 (q.L.length - k - d) c6, .bool (qk q (k + d)).broken] RQ) = w7 at *
            generalize w6.heap.size = p8 at *
            go_upto_region 8 with fail
            refine (show Code.wp _ _ _ _ (puts w7 pb 0 [.int .i64 q.frames, .int .i64 q.most, .slice a6 (q.L.length - k - d) c6, .bool (qk q (k + d)).broken]) from ?_)
            clear b0 b1 b2 b3 z0 z1 z2 z3 m0 m1' m2' m3
            generalize puts w7 pb 0 [.int .i64 q.frames, .int .i64 q.most, .slice a6 (q.L.length - k - d) c6, .bool (qk q (k + d)).broken] = w8 at *
            go_wp2_with (at_builtin; refine wpList_append_sub (E := IE) Try.underlying24 infoO rfl (by decide) (by decide) rfl _ _ rfl _ (q.L.take k) _ rfl HO8.out _ rfl 0 HU8.out hll.out ?_; intro v9 w9 hown9 hgrow9 hat9)
            have hr9 := HR8.out v9 w9 hown9 hgrow9 hat9
            obtain ⟨a9, c9, hv9, _⟩ := hown9.form
            rw [take_more, show (q.L.take (k + d)).length = k + d by rw [List.length_take]; omega] at hv9
            have HE := Lib.hid hr9
            clear hr9 hown9 hgrow9 hat9 HR8
            subst hv9
            go_roundw
            case rel => exact ⟨k + d, _, by omega, HS2.out, ⟨_, _, rfl⟩, HE.out⟩
            case measure => show q.L.length - (k + d) < q.L.length - k; omega
          · have hf : full q y (q.L.drop k) = false := by simpa using hf
            have HK : Hid (putK q y = k) := Lib.hid (by have := HSH.out; rw [sh_end _ _ hf] at this; omega)
            have HF := Lib.hid hf
            have x3 : wc.cell? ⟨px, 3, none⟩ = some (.bool xk) := by rw [← HY1.out.2]; exact HR5.out.xbox.cell 3
            have HBK : Hid ((putB q y && !y.key) = ((qk q k).broken && !xk)) := Lib.hid (by unfold putB qk; rw [HK.out, HY1.out.2])
            rw [hf]
            have hne := HPB.out.2.2.2.2.1
            have hne' := hne.symm
            obtain ⟨⟨r0, r1, r2, r3⟩, y0, y1, y2, y3⟩ := four HR5.out.rbox
            have hq1 : (qk q k).frames = q.frames := rfl
            have hq2 : (qk q k).most = q.most := rfl
            rw [hq1] at b0
            rw [hq2] at b1
            go_upto_region 9 with fail
            go_cut [64] (fun v wx => v = .bool ((qk q k).broken && !xk) ∧ wx = wc)
            case first =>
              generalize (qk q k).broken = qb at *
              cases qb
              all_goals
                go_wp2_with fail
                go_meet
                case rel => exact ⟨rfl, rfl⟩
            case rest =>
            obtain ⟨rfl, hwc⟩ := hcut
            subst hwc
            by_cases hB : ((qk q k).broken && !xk) = true
            · have HE : Hid (Blk (puts wc pr 0 [.int .i64 q.frames, .int .i64 q.most, .slice a1 (q.L.length - k) c1, .bool (qk q k).broken]) pr #[.int .i64 q.frames, .int .i64 q.most, .slice a1 (q.L.length - k) c1, .bool (qk q k).broken] RQ ∧ RPost w (puts wc pr 0 [.int .i64 q.frames, .int .i64 q.most, .slice a1 (q.L.length - k) c1, .bool (qk q k).broken]) (.slice ao q.L.length c) (putQ q y) (.slice a1 (q.L.length - k) c1) (.slice ao7 k c7) (putD q y)) := Lib.hid (by
                rw [hB] at HBK
                have e1 : putQ q y = qk q k := by
                  unfold putQ
                  rw [HB.out, if_neg (by simp), HBK.out, if_pos rfl]
                  unfold putB qk
                  rw [HK.out]
                have e2 : putD q y = q.L.take k := by unfold putD; rw [HB.out, if_neg (by simp), HK.out]
                have t2 := puts_turns (S := (· = pr)) (p := pr) (.inl rfl) [.int .i64 q.frames, .int .i64 q.most, .slice a1 (q.L.length - k) c1, .bool (qk q k).broken] 0 _ (Turns.refl _ wc)
                have n2 : New w _ := HR5.out.n.trans (t2.mono (fun i _ hi => .inr (by rw [hi, ← HPE.out]; exact HPB.out.2.2.1)))
                rw [e1, e2]
                refine ⟨puts_blk _ _ HR5.out.rbox rfl, Sub.turns' HR5.out.sub t2 (fun g hg e => ?_), fun g hg => .inl (HR5.out.src g hg), (HR5.out.out.turns t2 (fun g hg e => (HR5.out.vb g hg).2.2.2 e)).sub 0 (fun _ _ => Nat.zero_le _), (fun g hg => (HR5.out.vb g hg).1), n2, fun g hg => .inl (HR5.out.src g hg)⟩
                have h1 := HVL.out g (HR5.out.src g hg)
                have h2 := HPB.out.2.2.1
                have h3 := HPE.out
                omega)
              have e3 : Hid (putOk q y = false) := Lib.hid (by unfold putOk; rw [HBK.out, hB]; simp)
              have e1 : Hid ((putQ q y).frames = q.frames ∧ (putQ q y).most = q.most ∧ (putQ q y).broken = (qk q k).broken) := Lib.hid (by
                unfold putQ
                rw [HB.out, if_neg (by simp), HBK.out, hB, if_pos rfl]
                exact ⟨rfl, rfl, by unfold putB qk; rw [HK.out]⟩)
              have hbk : (qk q k).broken = true := by cases h : (qk q k).broken <;> simp [h] at hB ⊢
              rw [hB]
              rw [hbk] at HE e1 b3
              clear hf hq1 hq2 hB hbk
              go_wp2_with fail
              refine (show bodyPost _ _ _ _ _ (puts wc pr 0 [.int .i64 q.frames, .int .i64 q.most, .slice a1 (q.L.length - k) c1, .bool true]) from ?_)
              generalize puts wc pr 0 [.int .i64 q.frames, .int .i64 q.most, .slice a1 (q.L.length - k) c1, .bool true] = w9 at *
              obtain ⟨⟨g0, g1, g2, g3⟩, _⟩ := four HE.out.1
              refine bodyPost_ret (v := .tuple #[.agg #[.int .i64 q.frames, .int .i64 q.most, .slice a1 (q.L.length - k) c1, .bool true], .slice ao7 k c7, .bool false]) (by simp [results, Try.results39, go_sem, g0, g1, g2, g3]) rfl ?_
              exact ⟨_, _, by rw [e3.out, e1.out.1, e1.out.2.1, e1.out.2.2], HE.out.2⟩
            · have hB : ((qk q k).broken && !xk) = false := by simpa using hB
              rw [hB] at HBK
              rw [hB]
              have hz3 := HR5.out.box.free 3
              have hb7 : Blk (wc.setCell ⟨pb, 3, none⟩ (.bool false)) pb #[.int .i64 q.frames, .int .i64 q.most, .slice a1 (q.L.length - k) c1, .bool false] RQ := HR5.out.box.set 3 (.bool false)
              have t7 : Turns (· = pb) wc (wc.setCell ⟨pb, 3, none⟩ (.bool false)) := (Turns.refl (· = pb) _).setCell (.inl rfl) _
              have hx7 := t7.blk HR5.out.xbox HPB.out.2.2.2.1.symm
              have hr7 := t7.blk HR5.out.rbox hne'
              have ho7 := HR5.out.out.turns t7 (fun g hg e => (HR5.out.vb g hg).2.1 e)
              have hs7 := Sub.turns' HR5.out.sub t7 (fun g hg e => by
                have h1 := HVL.out g (HR5.out.src g hg)
                have h2 := HPB.out.1
                have h3 := HPE.out
                omega)
              have HN7 : Hid (New w (wc.setCell ⟨pb, 3, none⟩ (.bool false))) := Lib.hid (HR5.out.n.trans (t7.mono (fun i _ hi => .inr (by rw [hi, ← HPE.out]; exact HPB.out.1))))
              have H7 := Lib.hid (And.intro hb7 (And.intro hx7 (And.intro hr7 (And.intro ho7 hs7))))
              have HVB := Lib.hid HR5.out.vb
              have HSRC := Lib.hid HR5.out.src
              clear hb7 hx7 hr7 ho7 hs7 t7
              go_upto_region 12 with fail
              refine (show Code.wp _ _ _ _ (wc.setCell ⟨pb, 3, none⟩ (.bool false)) from ?_)
              clear b0 b1 b2 b3 z0 z1 z2 z3 x3 r0 r1 r2 r3 y0 y1 y2 y3 hz3 HR5
              generalize wc.setCell ⟨pb, 3, none⟩ (.bool false) = w7 at *
              obtain ⟨hb7, hx7', hr7, ho7, hs7⟩ := H7.out
              have hx7 : Blk w7 px #[.int .i64 xn, .int .i64 xs, .int .i64 xt, .bool xk] OT := by rw [HYE.out] at hx7'; exact hx7'
              have c2 : w7.cell? ⟨pb, 2, none⟩ = some (.slice a1 (q.L.length - k) c1) := hb7.cell 2
              have f2 := hb7.free 2
              obtain ⟨⟨x0, x1, x2, x3⟩, _⟩ := four hx7
              have hpl := hb7.lt
              have hxl := hx7.lt
              have HB7 := Lib.hid hb7
              have HALL := Lib.hid (fun W (N : New w7 W) => And.intro (show W.cell? ⟨pb, 2, none⟩ = some (.slice a1 (q.L.length - k) c1) ∧ W.frozen? ⟨pb, 2, none⟩ = false ∧ W.cell? ⟨px, 0, none⟩ = some (.int .i64 xn) ∧ W.cell? ⟨px, 1, none⟩ = some (.int .i64 xs) ∧ W.cell? ⟨px, 2, none⟩ = some (.int .i64 xt) ∧ W.cell? ⟨px, 3, none⟩ = some (.bool xk) ∧ pb < W.heap.size ∧ px < W.heap.size from ⟨(N.blk hb7 (fun h => h)).cell 2, (N.blk hb7 (fun h => h)).free 2, (N.blk hx7 (fun h => h)).cell 0, (N.blk hx7 (fun h => h)).cell 1, (N.blk hx7 (fun h => h)).cell 2, (N.blk hx7 (fun h => h)).cell 3, Nat.lt_of_lt_of_le hpl N.size, Nat.lt_of_lt_of_le hxl N.size⟩) (Sub.new hs7 N))
              have N0 : New w7 w7 := Turns.refl _ _
              have hll0 : Hid (([] : List It).length + (q.L.drop k).length ≤ 1048576) := Lib.hid (by rw [List.length_drop]; simp; omega)
              have hll1 : Hid ((q.L.drop k).length + ([⟨xn, xs, xt, xk⟩] : List It).length ≤ 1048576) := Lib.hid (by rw [List.length_drop]; simp; omega)
              have hlen1 : Hid ((q.L.drop k ++ [(⟨xn, xs, xt, xk⟩ : It)]).length = q.L.length - k + 1) := Lib.hid (by simp)
              have HS7 := Lib.hid (And.intro hr7 ho7)
              clear hb7 hx7' hx7 hr7 ho7 hs7 H7
              go_cut [] (fun wx => ∃ g cap, RFin w7 wx pb q.frames q.most (q.L.drop k ++ [⟨xn, xs, xt, xk⟩]) (q.L.length - k) g cap)
              case first =>
                go_region_law
                  (first
                  | (refine step_append_sub (E := IE) Try.underlying24 infoO rfl (by decide) (by decide) (by rfl) _ _ (by rfl) (.slice (some ⟨_, 0, none⟩) 0 0) (.slice a1 (q.L.length - k) c1) [] (q.L.drop k) (by rfl) (by rfl) (Owns.made0 (by repeat (first | with_reducible assumption | with_reducible exact Blk.new _ _ _ | (with_reducible refine Blk.new' _ _ _ ?_; (simp; done)) | with_reducible apply Blk.alloc | with_reducible apply Blk.drew))) 0 (HALL.out _ (by repeat (first | with_reducible assumption | with_reducible apply Turns.alloc | with_reducible apply Turns.drew))).2 hll0.out ?_; intro v8 w8 hown8 hgrow8 hat8; rw [List.nil_append] at hown8; have H8 := madeC (by repeat (first | with_reducible assumption | with_reducible apply Turns.alloc | with_reducible apply Turns.drew)) (by first | exact Nat.le_refl _ | exact Nat.le_succ _ | (simp; done) | omega) hown8 hgrow8 hat8; have G8 := H8.1; have N8 : New w7 w8 := G8.n; have N88 : New w8 w8 := Turns.refl _ _; obtain ⟨⟨z2, zf, zx0, zx1, zx2, zx3, zl1, zl2⟩, _⟩ := HALL.out w8 N8; obtain ⟨a9, c9, hv9, _⟩ := G8.own.form; rw [List.length_drop] at hv9; subst hv9; have H82 : ∀ {b : Nat} {cs : Array Value}, b ≠ _ → Blk _ b cs OT → Blk w8 b cs OT := fun hne hb => H8.2.blk hb hne; clear hown8 hgrow8 hat8 H8)
                  | (refine step_append_sub (E := IE) Try.underlying24 infoO rfl (by decide) (by decide) (by rfl) _ _ (by rfl) (.slice a9 (q.L.length - k) c9) (.slice (some ⟨_, 0, none⟩) 1 1) (q.L.drop k) [⟨xn, xs, xt, xk⟩] (by rfl) (by rfl) (G8.own.turns (S := fun _ => False) (by repeat (first | with_reducible assumption | with_reducible apply Turns.alloc | with_reducible apply Turns.drew)) (fun _ _ h => h)) 0 (Sub.one4 (by repeat (first | with_reducible assumption | with_reducible exact Blk.new _ _ _ | (with_reducible refine Blk.new' _ _ _ ?_; (simp; done)) | with_reducible apply Blk.alloc | with_reducible apply Blk.drew | (with_reducible refine H82 (by omega) ?_)))) hll1.out ?_; intro v10 w10 hown10 hgrow10 hat10; obtain ⟨g10, cap10, hv10, hf10, hb10⟩ := finR (n := q.L.length - k) HB7.out (by repeat (first | with_reducible assumption | with_reducible apply Turns.alloc | with_reducible apply Turns.drew)) G8.vb hown10 hlen1.out hgrow10 hat10; have y2 := hb10.cell 2; have yf := hb10.free 2; have yl := hb10.lt; subst hv10; have HFF := Lib.hid hf10; clear hown10 hgrow10 hat10 hf10 hb10))
                all_goals
                  go_wp2_with fail
                  go_meet
                  case rel => exact ⟨_, _, HFF.out⟩
              case rest =>
                obtain ⟨g, cap, hfin⟩ := hcut
                have HFI := Lib.hid hfin
                obtain ⟨hr7, ho7⟩ := HS7.out
                have hpr9 := hfin.turns.blk hr7 hne'
                obtain ⟨⟨b0, b1, b2, b3⟩, _⟩ := four hfin.blk
                obtain ⟨⟨r0, r1, r2, r3⟩, y0, y1, y2, y3⟩ := four hpr9
                have HE : Hid (Blk (puts wc pr 0 [.int .i64 q.frames, .int .i64 q.most, .slice (some ⟨g, 0, none⟩) (q.L.length - k + 1) cap, .bool false]) pr #[.int .i64 q.frames, .int .i64 q.most, .slice (some ⟨g, 0, none⟩) (q.L.length - k + 1) cap, .bool false] RQ ∧ RPost w (puts wc pr 0 [.int .i64 q.frames, .int .i64 q.most, .slice (some ⟨g, 0, none⟩) (q.L.length - k + 1) cap, .bool false]) (.slice ao q.L.length c) (putQ q y) (.slice (some ⟨g, 0, none⟩) (q.L.length - k + 1) cap) (.slice ao7 k c7) (putD q y)) := Lib.hid (by
                  have e1 : putQ q y = ⟨q.frames, q.most, q.L.drop k ++ [y], false⟩ := by
                    unfold putQ
                    rw [HB.out, if_neg (by simp), HBK.out, if_neg (by simp), HK.out]
                  have e2 : putD q y = q.L.take k := by unfold putD; rw [HB.out, if_neg (by simp), HK.out]
                  have hprl := hr7.lt
                  have t2 := puts_turns (S := (· = pr)) (p := pr) (.inl rfl) [.int .i64 q.frames, .int .i64 q.most, .slice (some ⟨g, 0, none⟩) (q.L.length - k + 1) cap, .bool false] 0 _ (Turns.refl _ wc)
                  have n2 : New w _ := (HN7.out.trans (hfin.turns.mono (fun i _ hi => .inr (by rw [hi, ← HPE.out]; exact HPB.out.1)))).trans (t2.mono (fun i _ hi => .inr (by rw [hi, ← HPE.out]; exact HPB.out.2.2.1)))
                  rw [e1, e2]
                  refine ⟨puts_blk _ _ hpr9 rfl, ?_, fun g' hg' => .inr ?_, ((ho7.turns hfin.turns (fun g' hg' e => (HVB.out g' hg').2.1 e)).turns t2 (fun g' hg' e => (HVB.out g' hg').2.2.2 e)).sub 0 (fun _ _ => Nat.zero_le _), (fun g' hg' => (HVB.out g' hg').1), n2, fun g' hg' => .inr (owns_ty (hfin.own.turns t2 (fun g' hg' e => by
                      have hg2 : g = g' := by simpa [Value.ownBlock] using hg'
                      have := hfin.lo
                      omega)) g' hg')⟩
                  · have := (hfin.own.turns t2 (fun g' hg' e => by
                      have hg2 : g = g' := by simpa [Value.ownBlock] using hg'
                      have := hfin.lo
                      omega)).sub 0 (fun _ _ => Nat.zero_le _)
                    rw [← HYE.out] at this
                    exact this
                  · have hg2 : g = g' := by simpa [Value.ownBlock] using hg'
                    have h1 := hfin.lo
                    have h2 := HN7.out.size
                    omega)
                have e3 : Hid (putOk q y = true) := Lib.hid (by unfold putOk; rw [HB.out, HBK.out]; rfl)
                have e1 : Hid ((putQ q y).frames = q.frames ∧ (putQ q y).most = q.most ∧ (putQ q y).broken = false) := Lib.hid (by
                  unfold putQ
                  rw [HB.out, if_neg (by simp), HBK.out, if_neg (by simp)]
                  exact ⟨rfl, rfl, rfl⟩)
                clear hfin hr7 ho7 hpr9
                go_wp2_with fail
                refine (show bodyPost _ _ _ _ _ (puts wc pr 0 [.int .i64 q.frames, .int .i64 q.most, .slice (some ⟨g, 0, none⟩) (q.L.length - k + 1) cap, .bool false]) from ?_)
                clear b0 b1 b2 b3 r0 r1 r2 r3 y0 y1 y2 y3
                generalize puts wc pr 0 [.int .i64 q.frames, .int .i64 q.most, .slice (some ⟨g, 0, none⟩) (q.L.length - k + 1) cap, .bool false] = w9 at *
                obtain ⟨⟨g0, g1, g2, g3⟩, _⟩ := four HE.out.1
                refine bodyPost_ret (v := .tuple #[.agg #[.int .i64 q.frames, .int .i64 q.most, .slice (some ⟨g, 0, none⟩) (q.L.length - k + 1) cap, .bool false], .slice ao7 k c7, .bool true]) (by simp [results, Try.results39, go_sem, g0, g1, g2, g3]) rfl ?_
                exact ⟨_, _, by rw [e3.out, e1.out.1, e1.out.2.1, e1.out.2.2], HE.out.2⟩
end Go.Proofs.Ytcppibjllaablaa.que
