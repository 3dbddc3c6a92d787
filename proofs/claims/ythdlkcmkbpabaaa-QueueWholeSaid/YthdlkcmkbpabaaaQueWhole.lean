/-
  QueueWhole: the law.
-/
import Derived.Test.YthdlkcmkbpabaaaQueWhole2
namespace Go.Proofs.Ythdlkcmkbpabaaa.que
open Go.RowKit mem Go.Maps
set_option linter.unusedVariables false

set_option maxRecDepth 100000 in
set_option maxHeartbeats 4000000 in
theorem whole_law (f m a : Int) (ao : Option Addr) (n c : Nat) (z : Nat → Int × Int × Bool) (w : World) (f0 : -9223372036854775808 ≤ f) (f1 : f ≤ 9223372036854775807) (m0 : -9223372036854775808 ≤ m) (m1 : m ≤ 9223372036854775807) (a0 : -9223372036854775808 ≤ a) (a1 : a ≤ 9223372036854775807) (h : args.qactRow w ao n c z) :
    Calls Try.prog 7 #[.int .i64 f, .int .i64 m, .int .i64 a, .slice ao n c] w fun e w' => e = .returned (.bool true) ∧ Below w.heap.size w w' := by
  have HA := Lib.hid (fun w => awake w)
  have HBG := Lib.hid (beginC f m a w)
  obtain ⟨hn, hok, hrow⟩ := h
  have HOK := Lib.hid hok
  have HROW := Lib.hid hrow
  have hmm := @run_makeMap Try.prog
  clear hok hrow a0 a1 f0 f1 m0 m1
  go_enter Try.func7, Try.ntmps7
  go_wp2_with fail
  refine HBG.out.mono ?_
  rintro e w1 ⟨p, rfl, ho1⟩
  have hLE : (fresh (1 + f % 8) (1 + m % 64)).L = [] := rfl
  generalize fresh (1 + f % 8) (1 + m % 64) = q0 at *
  generalize 1 + a % 32 = age at *
  have hb2 : Blk (w1.alloc (.cells (stL p q0 (.slice none 0 0) 0 0 age).toArray TS)) w1.heap.size (stL p q0 (.slice none 0 0) 0 0 age).toArray TS := Blk.new _ _ _
  have HO2 := Lib.hid (ho1.later ((Turns.refl (fun _ => False) w1).alloc (.cells (stL p q0 (.slice none 0 0) 0 0 age).toArray TS)))
  have HB2 := Lib.hid hb2
  have HS2 : Hid (w.heap.size ≤ w1.heap.size ∧ w1.heap.size ≠ p) := Lib.hid ⟨ho1.n.size, by have := ho1.qs.lt; omega⟩
  clear hb2 ho1
  go_wp2_with fail
  refine (HA.out _).mono ?_
  rintro e w3 ⟨rfl, n3⟩
  have HO3 := Lib.hid (HO2.out.later n3)
  have HB3 := Lib.hid (n3.blk HB2.out (fun h => h))
  clear n3 HO2 HB2 HA HBG
  generalize w1.heap.size = ps at *
  have HW0 : Hid (Ww w (w3.alloc (.map #[] 0)) ps p w3.heap.size (.slice none 0 0) q0 (stL p q0 (.slice none 0 0) 0 0 age) 0 (.map []) ∧ Wn (.map []) q0 0 0 0 0) := Lib.hid ⟨⟨HO3.out.qs.later ((Turns.refl _ _).alloc _), HB3.out.alloc _, World.ownsMap_made _ _ _ _, HO3.out.n.alloc _, HO3.out.p0, fun g hg => by simp [Value.ownBlock] at hg, HS2.out.1, HO3.out.n.size, ⟨HS2.out.2, by simp [Value.ownBlock]⟩⟩, ⟨by rw [hLE]; trivial, by rw [hLE]; intro x hx; (cases hx), by rw [hLE]; intro x hx; (cases hx), fun m hm => fre_empty m, by rw [hLE]; rfl, by omega⟩⟩
  clear HO3 HB3 hLE
  have hC : (stL p q0 (.slice none 0 0) 0 0 age).toArray[0]? = some (.pointer (some ⟨p, 0, none⟩)) := rfl
  have HC := Lib.hid hC
  clear hC
  generalize stL p q0 (.slice none 0 0) 0 0 age = C at *
  go_upto_region 6 with fail
  have hval := elem1
  have HV := Lib.hid hval
  refine (show Code.wp _ _ _ _ (w3.alloc (.map #[] 0)) from ?_)
  generalize w3.alloc (.map #[] 0) = w4 at *
  generalize w3.heap.size = mb at *
  clear hval
  go_wp2_with fail
  go_loopw [12, 13, 14, 15] (fun tk gn ls i wr => ∃ (k mn : Nat) (pv : Value) (q : Q) (D : DataW Unit) (taken gone last : Int), k ≤ n ∧ k ≤ 120 ∧ i = .int .i64 k ∧ tk = .int .i64 taken ∧ gn = .int .i64 gone ∧ ls = .int .i64 last ∧ (mn : Int) = gone ∧ Ww w wr ps p mb pv q C mn D ∧ Wn D q k taken gone last) (fun _ _ _ i _ => n - (intOf i).toNat)
  case atStart => exact ⟨0, 0, _, _, _, 0, 0, 0, Nat.zero_le _, by omega, rfl, rfl, rfl, rfl, rfl, HW0.out⟩
  case round =>
    obtain ⟨k, mn, pv, q, D, taken, gone, last, hk, hk120, rfl, rfl, rfl, rfl, hmng, hww, hwn⟩ := hrel
    have HWW := Lib.hid hww
    have HWN := Lib.hid hwn
    have hb := hwn.b
    obtain ⟨hb1, hb2, hb3, hb4⟩ := hb
    have hsum := hwn.sum
    clear hww hwn
    have c0 : wr.cell? ⟨ps, 0, none⟩ = some (.pointer (some ⟨p, 0, none⟩)) := (HWW.out.box.cell 0).trans HC.out
    by_cases hlt : k < n
    · by_cases h120 : k < 120
      · obtain ⟨b, off, rfl, hbw, hc⟩ := HROW.out.resolve_left (by omega)
        have hzo := HOK.out k hlt
        have hzc := hc k hlt
        have e0 := (HWW.out.n.cell (a := ⟨b, off + k * 3, none⟩) hbw (fun h => h)).trans hzc.1
        have e1 := (HWW.out.n.cell (a := ⟨b, off + k * 3 + 1, none⟩) hbw (fun h => h)).trans hzc.2.1
        have e2 := (HWW.out.n.cell (a := ⟨b, off + k * 3 + 2, none⟩) hbw (fun h => h)).trans hzc.2.2
        obtain ⟨s0, s1⟩ := bounds_i64 hzo.2.1
        clear hzc hzo hc hbw
        generalize z k = zk at *
        obtain ⟨kd, sz, ky⟩ := zk
        dsimp only at *
        have d1 : decide ((k : Int) < (n : Int)) = true := decide_eq_true (by omega)
        have d2 : decide ((k : Int) < 120) = true := decide_eq_true (by omega)
        have HWA := Lib.hid (HWW.out.later ((Turns.refl (fun _ => False) wr).alloc (.cells #[.int .i64 kd, .int .i64 sz, .bool ky] 35)))
        have HAA : Hid (Blk (wr.alloc (.cells #[.int .i64 kd, .int .i64 sz, .bool ky] 35)) wr.heap.size #[.int .i64 kd, .int .i64 sz, .bool ky] 35) := Lib.hid (Blk.new _ _ _)
        clear HWW
        go_upto_region 10 with fail
        refine (show Code.wp _ _ _ _ (wr.alloc (.cells #[.int .i64 kd, .int .i64 sz, .bool ky] 35)) from ?_)
        clear e0 e1 e2 c0
        generalize wr.alloc (.cells #[.int .i64 kd, .int .i64 sz, .bool ky] 35) = wA at *
        generalize wr.heap.size = pa at *
        have a0 := HAA.out.cell 0
        have a1 := HAA.out.cell 1
        have a2 := HAA.out.cell 2
        have c0 : wA.cell? ⟨ps, 0, none⟩ = some (.pointer (some ⟨p, 0, none⟩)) := (HWA.out.box.cell 0).trans HC.out
        have hw2 : IntKind.i64.wrap ((k : Int) + 1) = (k : Int) + 1 := IntWalk.i64_in _ (by omega)
        by_cases k1 : kd = 1
        · subst k1
          go_wp2_with fail
          refine (put p pv q ⟨(k : Int) + 1, sz, 0, ky⟩ wA HWA.out.qs s0 s1).mono ?_
          rintro e w5 ⟨vl, rfl, hp⟩
          obtain ⟨pv', hw5⟩ := HWA.out.lft hp.lft
          obtain ⟨hin, hlo, hsm⟩ := HWN.out.put HWA.out.qs.ok sz ky
          have hlq := hw5.qs.small
          have hxm : ∀ x ∈ putD q ⟨(k : Int) + 1, sz, 0, ky⟩, 0 < x.n := fun x hx => by
            unfold putD at hx
            split at hx
            · simp at hx
            · have := HWN.out.lo x (List.mem_of_mem_take hx); omega
          generalize putQ q ⟨(k : Int) + 1, sz, 0, ky⟩ = q' at *
          generalize putD q ⟨(k : Int) + 1, sz, 0, ky⟩ = Ld at *
          generalize putOk q ⟨(k : Int) + 1, sz, 0, ky⟩ = okb at *
          have HW5 := Lib.hid hw5
          have HIN := Lib.hid hin
          have HLO := Lib.hid hlo
          have HOV := Lib.hid hp.fr.own
          have HMB := Lib.hid (ownsMap_ne_row hw5.map hp.fr.own)
          have HXM : Hid (∀ x ∈ Ld, 0 < x.n) := Lib.hid hxm
          obtain ⟨al, cl, hvl, _⟩ := hp.fr.own.form
          obtain ⟨taken', htk⟩ : ∃ t, t = taken + (if okb = true then 1 else 0) := ⟨_, rfl⟩
          rw [← htk] at hsm
          have hbt : taken' ≤ (k : Int) + 1 := by rw [htk]; split <;> omega
          have hlm5 : Ld.length ≤ maxLen := by unfold maxLen; omega
          subst hvl
          clear hw5 hin hlo hp hxm a0 a1 a2 c0
          have hwt : IntKind.i64.wrap (taken + 1) = taken + 1 := IntWalk.i64_in _ (by omega)
          cases okb
          · obtain rfl : taken' = taken := by rw [htk]; simp
            clear htk
            go_wp2_with fail
            go_loopw [13, 109] (fun gn i wr => ∃ (j mn' : Nat) (D' : DataW Unit), j ≤ Ld.length ∧ i = .int .i64 j ∧ gn = .int .i64 (gone + j) ∧ (mn' : Int) = gone + j ∧ Ww w wr ps p mb pv' q' C mn' D' ∧ In D' Ld q'.L j ((k : Int) + 1) ∧ Turns (· = mb) w5 wr) (fun _ i _ => Ld.length - (intOf i).toNat)
            case atStart => exact ⟨0, mn, D, Nat.zero_le _, rfl, by simp, by omega, HW5.out, HIN.out, Turns.refl _ _⟩
            case round =>
              obtain ⟨j, mn', D', hj, rfl, rfl, hmn', hwj, hij, htj⟩ := hrel
              have HWJ := Lib.hid hwj
              have HIJ := Lib.hid hij
              have HTJ := Lib.hid htj
              clear hwj hij htj
              by_cases hlj : j < Ld.length
              · obtain ⟨x, hx⟩ : ∃ x, Ld[j]? = some x := ⟨_, List.getElem?_eq_getElem hlj⟩
                have hxf := HIJ.out.now hx
                have HIS := Lib.hid (HIJ.out.step hx)
                have hxK := HIJ.out.hi x (List.mem_of_getElem? hx)
                have hxm := HXM.out x (List.mem_of_getElem? hx)
                have hoj := HOV.out.turns HTJ.out (fun g hg e => HMB.out g hg e.symm)
                obtain ⟨g, o, c', hv, hg, d0, d1, d2, d3⟩ := Sub.at' (hoj.sub 0 (fun _ _ => Nat.zero_le _)) hx
                injection hv with hv1 _ hv3
                subst hv1 hv3
                have HXF := Lib.hid hxf
                obtain ⟨xn, xs, xt, xk⟩ := x
                dsimp only at *
                have HW6 := Lib.hid (HWJ.out.later ((Turns.refl (fun _ => False) wr).alloc (.cells #[.int .i64 xn, .int .i64 xs, .int .i64 xt, .bool xk] PT)))
                have hx6 : Blk (wr.alloc (.cells #[.int .i64 xn, .int .i64 xs, .int .i64 xt, .bool xk] PT)) wr.heap.size #[.int .i64 xn, .int .i64 xs, .int .i64 xt, .bool xk] PT := Blk.new _ _ _
                have HX6 := Lib.hid hx6
                have HT6 := Lib.hid (HTJ.out.alloc (.cells #[.int .i64 xn, .int .i64 xs, .int .i64 xt, .bool xk] PT))
                clear hx hxf hx6 hoj
                go_upto_region 25 with fail
                refine (show Code.wp _ _ _ _ (wr.alloc (.cells #[.int .i64 xn, .int .i64 xs, .int .i64 xt, .bool xk] PT)) from ?_)
                clear d0 d1 d2 d3
                generalize wr.alloc (.cells #[.int .i64 xn, .int .i64 xs, .int .i64 xt, .bool xk] PT) = w6 at *
                generalize wr.heap.size = px at *
                have x0 := HX6.out.cell 0
                have hkey := keyI (n := xn) (by omega) (by omega)
                have hval := HV.out
                have hmn : mn' < maxLen := by unfold maxLen; omega
                go_upto_region 26 with (first
                  | (at_lookup; refine wpList_look_int rfl _ _ 50 rfl 3 3 .i64 law50 Try.underlying50 Try.underlying3 (zeroI _) mb mn' (D') rfl HW6.out.map _ _ rfl hkey _ HXF.out ?_)
                  | (at_mapUpdate; refine wpList_mapUpdate_own _ rfl _ _ _ 50 rfl 3 3 law50 Try.underlying50 (plainElem Try.prog 3) mb mn' (D') rfl HW6.out.map hmn _ _ _ rfl rfl hkey _ [] hval ?_; intro wm hownm hgrowm))
                have HW7 := Lib.hid (HW6.out.put hownm hgrowm)
                have tm : Turns (· = mb) w6 wm := (Turns.of_grown hgrowm).mono (fun k _ hk => by injection hk)
                have hx7 := tm.blk HX6.out (fun e => ownsMap_ne HW6.out.map HX6.out e.symm)
                have HT7 := Lib.hid (HT6.out.trans (tm.mono (fun _ _ h => .inl h)))
                have HIM := Lib.hid (HW6.out.map.isMap)
                clear hownm hgrowm tm x0
                have x0 := hx7.cell 0
                have hone := Lib.hid (one_put (D := D') (m := xn) HIM.out)
                have hw4 : IntKind.i64.wrap (gone + (j : Int) + 1) = gone + (j : Int) + 1 := IntWalk.i64_in _ (by omega)
                go_wp2_with (first
                  | (at_lookup; refine wpList_look_int rfl _ _ 50 rfl 3 3 .i64 law50 Try.underlying50 Try.underlying3 (zeroI _) mb (mn' + 1) (put1 D' xn) rfl HW7.out.map _ _ rfl hkey _ hone.out ?_)
                  | (at_mapUpdate; refine wpList_mapUpdate_own _ rfl _ _ _ 50 rfl 3 3 law50 Try.underlying50 (plainElem Try.prog 3) mb (mn' + 1) (put1 D' xn) rfl HW7.out.map hmn _ _ _ rfl rfl hkey _ [] hval ?_; intro wm hownm hgrowm))
                go_roundw
                case rel => exact ⟨j + 1, mn' + 1, _, by omega, by go_num, by go_num, by omega, HW7.out, HIS.out, HT7.out⟩
                case measure => simp [intOf]; omega
              · obtain rfl : j = Ld.length := by omega
                have hwn' := Wn.after (gone := gone + (Ld.length : Int)) (taken := taken') (last := last) HIJ.out HLO.out (by omega) (by omega)
                have HWE := Lib.hid (And.intro HWJ.out hwn')
                clear hwn' HIJ HWJ hlj
                go_wp2_with fail
                go_roundw
                case rel => exact ⟨k + 1, mn', _, _, _, _, _, _, by omega, by omega, by go_num, rfl, rfl, rfl, hmn', HWE.out⟩
                case measure => simp [intOf]; omega
          · obtain rfl : taken' = taken + 1 := by rw [htk]; simp
            clear htk
            go_wp2_with fail
            go_loopw [13, 109] (fun gn i wr => ∃ (j mn' : Nat) (D' : DataW Unit), j ≤ Ld.length ∧ i = .int .i64 j ∧ gn = .int .i64 (gone + j) ∧ (mn' : Int) = gone + j ∧ Ww w wr ps p mb pv' q' C mn' D' ∧ In D' Ld q'.L j ((k : Int) + 1) ∧ Turns (· = mb) w5 wr) (fun _ i _ => Ld.length - (intOf i).toNat)
            case atStart => exact ⟨0, mn, D, Nat.zero_le _, rfl, by simp, by omega, HW5.out, HIN.out, Turns.refl _ _⟩
            case round =>
              obtain ⟨j, mn', D', hj, rfl, rfl, hmn', hwj, hij, htj⟩ := hrel
              have HWJ := Lib.hid hwj
              have HIJ := Lib.hid hij
              have HTJ := Lib.hid htj
              clear hwj hij htj
              by_cases hlj : j < Ld.length
              · obtain ⟨x, hx⟩ : ∃ x, Ld[j]? = some x := ⟨_, List.getElem?_eq_getElem hlj⟩
                have hxf := HIJ.out.now hx
                have HIS := Lib.hid (HIJ.out.step hx)
                have hxK := HIJ.out.hi x (List.mem_of_getElem? hx)
                have hxm := HXM.out x (List.mem_of_getElem? hx)
                have hoj := HOV.out.turns HTJ.out (fun g hg e => HMB.out g hg e.symm)
                obtain ⟨g, o, c', hv, hg, d0, d1, d2, d3⟩ := Sub.at' (hoj.sub 0 (fun _ _ => Nat.zero_le _)) hx
                injection hv with hv1 _ hv3
                subst hv1 hv3
                have HXF := Lib.hid hxf
                obtain ⟨xn, xs, xt, xk⟩ := x
                dsimp only at *
                have HW6 := Lib.hid (HWJ.out.later ((Turns.refl (fun _ => False) wr).alloc (.cells #[.int .i64 xn, .int .i64 xs, .int .i64 xt, .bool xk] PT)))
                have hx6 : Blk (wr.alloc (.cells #[.int .i64 xn, .int .i64 xs, .int .i64 xt, .bool xk] PT)) wr.heap.size #[.int .i64 xn, .int .i64 xs, .int .i64 xt, .bool xk] PT := Blk.new _ _ _
                have HX6 := Lib.hid hx6
                have HT6 := Lib.hid (HTJ.out.alloc (.cells #[.int .i64 xn, .int .i64 xs, .int .i64 xt, .bool xk] PT))
                clear hx hxf hx6 hoj
                go_upto_region 25 with fail
                refine (show Code.wp _ _ _ _ (wr.alloc (.cells #[.int .i64 xn, .int .i64 xs, .int .i64 xt, .bool xk] PT)) from ?_)
                clear d0 d1 d2 d3
                generalize wr.alloc (.cells #[.int .i64 xn, .int .i64 xs, .int .i64 xt, .bool xk] PT) = w6 at *
                generalize wr.heap.size = px at *
                have x0 := HX6.out.cell 0
                have hkey := keyI (n := xn) (by omega) (by omega)
                have hval := HV.out
                have hmn : mn' < maxLen := by unfold maxLen; omega
                go_upto_region 26 with (first
                  | (at_lookup; refine wpList_look_int rfl _ _ 50 rfl 3 3 .i64 law50 Try.underlying50 Try.underlying3 (zeroI _) mb mn' (D') rfl HW6.out.map _ _ rfl hkey _ HXF.out ?_)
                  | (at_mapUpdate; refine wpList_mapUpdate_own _ rfl _ _ _ 50 rfl 3 3 law50 Try.underlying50 (plainElem Try.prog 3) mb mn' (D') rfl HW6.out.map hmn _ _ _ rfl rfl hkey _ [] hval ?_; intro wm hownm hgrowm))
                have HW7 := Lib.hid (HW6.out.put hownm hgrowm)
                have tm : Turns (· = mb) w6 wm := (Turns.of_grown hgrowm).mono (fun k _ hk => by injection hk)
                have hx7 := tm.blk HX6.out (fun e => ownsMap_ne HW6.out.map HX6.out e.symm)
                have HT7 := Lib.hid (HT6.out.trans (tm.mono (fun _ _ h => .inl h)))
                have HIM := Lib.hid (HW6.out.map.isMap)
                clear hownm hgrowm tm x0
                have x0 := hx7.cell 0
                have hone := Lib.hid (one_put (D := D') (m := xn) HIM.out)
                have hw4 : IntKind.i64.wrap (gone + (j : Int) + 1) = gone + (j : Int) + 1 := IntWalk.i64_in _ (by omega)
                go_wp2_with (first
                  | (at_lookup; refine wpList_look_int rfl _ _ 50 rfl 3 3 .i64 law50 Try.underlying50 Try.underlying3 (zeroI _) mb (mn' + 1) (put1 D' xn) rfl HW7.out.map _ _ rfl hkey _ hone.out ?_)
                  | (at_mapUpdate; refine wpList_mapUpdate_own _ rfl _ _ _ 50 rfl 3 3 law50 Try.underlying50 (plainElem Try.prog 3) mb (mn' + 1) (put1 D' xn) rfl HW7.out.map hmn _ _ _ rfl rfl hkey _ [] hval ?_; intro wm hownm hgrowm))
                go_roundw
                case rel => exact ⟨j + 1, mn' + 1, _, by omega, by go_num, by go_num, by omega, HW7.out, HIS.out, HT7.out⟩
                case measure => simp [intOf]; omega
              · obtain rfl : j = Ld.length := by omega
                have hwn' := Wn.after (gone := gone + (Ld.length : Int)) (taken := taken + 1) (last := last) HIJ.out HLO.out (by omega) (by omega)
                have HWE := Lib.hid (And.intro HWJ.out hwn')
                clear hwn' HIJ HWJ hlj
                go_wp2_with fail
                go_roundw
                case rel => exact ⟨k + 1, mn', _, _, _, _, _, _, by omega, by omega, by go_num, rfl, rfl, rfl, hmn', HWE.out⟩
                case measure => simp [intOf]; omega
        by_cases k2 : kd = 2
        · subst k2
          cases hL : q.L with
          | nil =>
            have HF := Lib.hid (pop_nil p pv q wA HWA.out.qs hL)
            clear hL
            go_wp2_with fail
            refine HF.out.mono ?_
            rintro e w5 ⟨rfl, n5⟩
            have HWE := Lib.hid (HWA.out.later (n5.alloc (.cells zcs.toArray PT)))
            clear n5 a0 a1 a2 c0
            go_wp2_with fail
            go_roundw
            case rel => exact ⟨k + 1, mn, _, _, _, _, _, _, by omega, by omega, by go_num, rfl, rfl, rfl, hmng, HWE.out, HWN.out.skip⟩
            case measure => simp [intOf]; omega
          | cons x r =>
            have hx0 : q.L[0]? = some x := by rw [hL]; rfl
            have HF := Lib.hid (pop_cons p pv q x wA HWA.out.qs hx0)
            obtain ⟨wn', hxl, hxk, hxf⟩ := HWN.out.pop hx0
            have HWN2 := Lib.hid wn'
            have HXF := Lib.hid hxf
            clear hL hx0 wn' hxf
            obtain ⟨xn, xs, xt, xk⟩ := x
            dsimp only [It.v] at *
            go_wp2_with fail
            refine HF.out.mono ?_
            rintro e w5 ⟨rfl, hl5⟩
            obtain ⟨pv', hw5⟩ := HWA.out.lft hl5
            have HW6 := Lib.hid (hw5.later ((Turns.refl (fun _ => False) w5).alloc (.cells #[.int .i64 xn, .int .i64 xs, .int .i64 xt, .bool xk] PT)))
            have hx6 : Blk (w5.alloc (.cells #[.int .i64 xn, .int .i64 xs, .int .i64 xt, .bool xk] PT)) w5.heap.size #[.int .i64 xn, .int .i64 xs, .int .i64 xt, .bool xk] PT := Blk.new _ _ _
            have HX6 := Lib.hid hx6
            clear hw5 hl5 hx6 a0 a1 a2 c0
            go_upto_region 13 with fail
            refine (show Code.wp _ _ _ _ (w5.alloc (.cells #[.int .i64 xn, .int .i64 xs, .int .i64 xt, .bool xk] PT)) from ?_)
            generalize w5.alloc (.cells #[.int .i64 xn, .int .i64 xs, .int .i64 xt, .bool xk] PT) = w6 at *
            generalize w5.heap.size = px at *
            have x0 := HX6.out.cell 0
            have hkey := keyI (n := xn) (by omega) (by omega)
            have hval := HV.out
            have hmn : mn < maxLen := by unfold maxLen; omega
            go_upto_region 15 with (first
              | (at_lookup; refine wpList_look_int rfl _ _ 50 rfl 3 3 .i64 law50 Try.underlying50 Try.underlying3 (zeroI _) mb mn (D) rfl HW6.out.map _ _ rfl hkey _ HXF.out ?_)
              | (at_mapUpdate; refine wpList_mapUpdate_own _ rfl _ _ _ 50 rfl 3 3 law50 Try.underlying50 (plainElem Try.prog 3) mb mn (D) rfl HW6.out.map hmn _ _ _ rfl rfl hkey _ [] hval ?_; intro wm hownm hgrowm))
            have HW7 := Lib.hid (HW6.out.put hownm hgrowm)
            have tm : Turns (· = mb) w6 wm := (Turns.of_grown hgrowm).mono (fun k _ hk => by injection hk)
            have hx7 := tm.blk HX6.out (fun e => ownsMap_ne HW6.out.map HX6.out e.symm)
            have HIM := Lib.hid (HW6.out.map.isMap)
            clear hownm hgrowm tm x0
            have x0 := hx7.cell 0
            have hone := Lib.hid (one_put (D := D) (m := xn) HIM.out)
            have hxl' : decide (xn ≤ last) = false := decide_eq_false (by omega)
            have hw3 : IntKind.i64.wrap (gone + 1) = gone + 1 := IntWalk.i64_in _ (by omega)
            go_wp2_with (first
              | (at_lookup; refine wpList_look_int rfl _ _ 50 rfl 3 3 .i64 law50 Try.underlying50 Try.underlying3 (zeroI _) mb (mn + 1) (put1 D xn) rfl HW7.out.map _ _ rfl hkey _ hone.out ?_)
              | (at_mapUpdate; refine wpList_mapUpdate_own _ rfl _ _ _ 50 rfl 3 3 law50 Try.underlying50 (plainElem Try.prog 3) mb (mn + 1) (put1 D xn) rfl HW7.out.map hmn _ _ _ rfl rfl hkey _ [] hval ?_; intro wm hownm hgrowm))
            go_roundw
            case rel => exact ⟨k + 1, mn + 1, _, _, _, _, _, _, by omega, by omega, by go_num, rfl, by go_num, rfl, by omega, HW7.out, HWN2.out⟩
            case measure => simp [intOf]; omega
        · have k1' : (kd == 1) = false := beq_false_of_ne k1
          have k2' : (kd == 2) = false := beq_false_of_ne k2
          have k1n : (kd != 1) = true := by simp [k1]
          have k2n : (kd != 2) = true := by simp [k2]
          go_wp2_with fail
          go_roundw
          case rel => exact ⟨k + 1, mn, _, _, _, _, _, _, by omega, by omega, by go_num, rfl, rfl, rfl, hmng, HWA.out, HWN.out.skip⟩
          case measure => simp [intOf]; omega
      · have d2 : decide ((k : Int) < 120) = false := decide_eq_false (by omega)
        go_wp2_with fail
        refine (break_ p pv q wr HWW.out.qs).mono ?_
        rintro e w5 ⟨vl, rfl, hg⟩
        obtain ⟨pv', hw5⟩ := HWW.out.lft hg.lft
        have HIN : Hid (In D q.L [] 0 (k : Int)) := Lib.hid ⟨by rw [List.append_nil]; exact HWN.out.inc, by rw [List.append_nil]; exact HWN.out.fr, HWN.out.fut, fun x hx => (HWN.out.lo x hx).2⟩
        have HW5 := Lib.hid hw5
        have HOV := Lib.hid hg.fr.own
        have HMB := Lib.hid (ownsMap_ne_row hw5.map hg.fr.own)
        have HXM : Hid (∀ x ∈ q.L, 0 < x.n) := Lib.hid (fun x hx => by have := (HWN.out.lo x hx).1; omega)
        obtain ⟨al, cl, hvl, _⟩ := hg.fr.own.form
        have hsm5 := HWW.out.qs.small
        have hlm5 : q.L.length ≤ maxLen := by unfold maxLen; omega
        subst hvl
        clear hw5 hg c0
        go_wp2_with fail
        go_loopw [13, 130] (fun gn i wr => ∃ (j mn' : Nat) (D' : DataW Unit), j ≤ q.L.length ∧ i = .int .i64 j ∧ gn = .int .i64 (gone + j) ∧ (mn' : Int) = gone + j ∧ Ww w wr ps p mb pv' ⟨q.frames, q.most, [], true⟩ C mn' D' ∧ In D' q.L [] j ((k : Int)) ∧ Turns (· = mb) w5 wr) (fun _ i _ => q.L.length - (intOf i).toNat)
        case atStart => exact ⟨0, mn, D, Nat.zero_le _, rfl, by simp, by omega, HW5.out, HIN.out, Turns.refl _ _⟩
        case round =>
          obtain ⟨j, mn', D', hj, rfl, rfl, hmn', hwj, hij, htj⟩ := hrel
          have HWJ := Lib.hid hwj
          have HIJ := Lib.hid hij
          have HTJ := Lib.hid htj
          clear hwj hij htj
          by_cases hlj : j < q.L.length
          · obtain ⟨x, hx⟩ : ∃ x, q.L[j]? = some x := ⟨_, List.getElem?_eq_getElem hlj⟩
            have hxf := HIJ.out.now hx
            have HIS := Lib.hid (HIJ.out.step hx)
            have hxK := HIJ.out.hi x (List.mem_of_getElem? hx)
            have hxm := HXM.out x (List.mem_of_getElem? hx)
            have hoj := HOV.out.turns HTJ.out (fun g hg e => HMB.out g hg e.symm)
            obtain ⟨g, o, c', hv, hg, d0, d1, d2, d3⟩ := Sub.at' (hoj.sub 0 (fun _ _ => Nat.zero_le _)) hx
            injection hv with hv1 _ hv3
            subst hv1 hv3
            have HXF := Lib.hid hxf
            obtain ⟨xn, xs, xt, xk⟩ := x
            dsimp only at *
            have HW6 := Lib.hid (HWJ.out.later ((Turns.refl (fun _ => False) wr).alloc (.cells #[.int .i64 xn, .int .i64 xs, .int .i64 xt, .bool xk] PT)))
            have hx6 : Blk (wr.alloc (.cells #[.int .i64 xn, .int .i64 xs, .int .i64 xt, .bool xk] PT)) wr.heap.size #[.int .i64 xn, .int .i64 xs, .int .i64 xt, .bool xk] PT := Blk.new _ _ _
            have HX6 := Lib.hid hx6
            have HT6 := Lib.hid (HTJ.out.alloc (.cells #[.int .i64 xn, .int .i64 xs, .int .i64 xt, .bool xk] PT))
            clear hx hxf hx6 hoj
            go_upto_region 33 with fail
            refine (show Code.wp _ _ _ _ (wr.alloc (.cells #[.int .i64 xn, .int .i64 xs, .int .i64 xt, .bool xk] PT)) from ?_)
            clear d0 d1 d2 d3
            generalize wr.alloc (.cells #[.int .i64 xn, .int .i64 xs, .int .i64 xt, .bool xk] PT) = w6 at *
            generalize wr.heap.size = px at *
            have x0 := HX6.out.cell 0
            have hkey := keyI (n := xn) (by omega) (by omega)
            have hval := HV.out
            have hmn : mn' < maxLen := by unfold maxLen; omega
            go_upto_region 34 with (first
              | (at_lookup; refine wpList_look_int rfl _ _ 50 rfl 3 3 .i64 law50 Try.underlying50 Try.underlying3 (zeroI _) mb mn' (D') rfl HW6.out.map _ _ rfl hkey _ HXF.out ?_)
              | (at_mapUpdate; refine wpList_mapUpdate_own _ rfl _ _ _ 50 rfl 3 3 law50 Try.underlying50 (plainElem Try.prog 3) mb mn' (D') rfl HW6.out.map hmn _ _ _ rfl rfl hkey _ [] hval ?_; intro wm hownm hgrowm))
            have HW7 := Lib.hid (HW6.out.put hownm hgrowm)
            have tm : Turns (· = mb) w6 wm := (Turns.of_grown hgrowm).mono (fun k _ hk => by injection hk)
            have hx7 := tm.blk HX6.out (fun e => ownsMap_ne HW6.out.map HX6.out e.symm)
            have HT7 := Lib.hid (HT6.out.trans (tm.mono (fun _ _ h => .inl h)))
            have HIM := Lib.hid (HW6.out.map.isMap)
            clear hownm hgrowm tm x0
            have x0 := hx7.cell 0
            have hone := Lib.hid (one_put (D := D') (m := xn) HIM.out)
            have hw4 : IntKind.i64.wrap (gone + (j : Int) + 1) = gone + (j : Int) + 1 := IntWalk.i64_in _ (by omega)
            go_wp2_with (first
              | (at_lookup; refine wpList_look_int rfl _ _ 50 rfl 3 3 .i64 law50 Try.underlying50 Try.underlying3 (zeroI _) mb (mn' + 1) (put1 D' xn) rfl HW7.out.map _ _ rfl hkey _ hone.out ?_)
              | (at_mapUpdate; refine wpList_mapUpdate_own _ rfl _ _ _ 50 rfl 3 3 law50 Try.underlying50 (plainElem Try.prog 3) mb (mn' + 1) (put1 D' xn) rfl HW7.out.map hmn _ _ _ rfl rfl hkey _ [] hval ?_; intro wm hownm hgrowm))
            go_roundw
            case rel => exact ⟨j + 1, mn' + 1, _, by omega, by go_num, by go_num, by omega, HW7.out, HIS.out, HT7.out⟩
            case measure => simp [intOf]; omega
          · obtain rfl : j = q.L.length := by omega
            have HLN := Lib.hid (len p pv' ⟨q.frames, q.most, [], true⟩ wr HWJ.out.qs)
            have c0 : wr.cell? ⟨ps, 0, none⟩ = some (.pointer (some ⟨p, 0, none⟩)) := (HWJ.out.box.cell 0).trans HC.out
            have hge : (gone + (q.L.length : Int) == taken) = true := by rw [hsum]; simp
            have hge2 : gone + (q.L.length : Int) = taken := hsum
            have HNE := Lib.hid HWJ.out.n
            clear HIJ HWJ hlj hsum
            go_wp2_with fail
            refine HLN.out.mono ?_
            rintro e w8 ⟨rfl, rfl⟩
            go_wp2
            go_ret
            exact ⟨rfl, HNE.out.below (Nat.le_refl _) (fun _ _ h => h.elim)⟩
    · obtain rfl : k = n := by omega
      go_wp2_with fail
      refine (break_ p pv q wr HWW.out.qs).mono ?_
      rintro e w5 ⟨vl, rfl, hg⟩
      obtain ⟨pv', hw5⟩ := HWW.out.lft hg.lft
      have HIN : Hid (In D q.L [] 0 (k : Int)) := Lib.hid ⟨by rw [List.append_nil]; exact HWN.out.inc, by rw [List.append_nil]; exact HWN.out.fr, HWN.out.fut, fun x hx => (HWN.out.lo x hx).2⟩
      have HW5 := Lib.hid hw5
      have HOV := Lib.hid hg.fr.own
      have HMB := Lib.hid (ownsMap_ne_row hw5.map hg.fr.own)
      have HXM : Hid (∀ x ∈ q.L, 0 < x.n) := Lib.hid (fun x hx => by have := (HWN.out.lo x hx).1; omega)
      obtain ⟨al, cl, hvl, _⟩ := hg.fr.own.form
      have hsm5 := HWW.out.qs.small
      have hlm5 : q.L.length ≤ maxLen := by unfold maxLen; omega
      subst hvl
      clear hw5 hg c0
      go_wp2_with fail
      go_loopw [13, 130] (fun gn i wr => ∃ (j mn' : Nat) (D' : DataW Unit), j ≤ q.L.length ∧ i = .int .i64 j ∧ gn = .int .i64 (gone + j) ∧ (mn' : Int) = gone + j ∧ Ww w wr ps p mb pv' ⟨q.frames, q.most, [], true⟩ C mn' D' ∧ In D' q.L [] j ((k : Int)) ∧ Turns (· = mb) w5 wr) (fun _ i _ => q.L.length - (intOf i).toNat)
      case atStart => exact ⟨0, mn, D, Nat.zero_le _, rfl, by simp, by omega, HW5.out, HIN.out, Turns.refl _ _⟩
      case round =>
        obtain ⟨j, mn', D', hj, rfl, rfl, hmn', hwj, hij, htj⟩ := hrel
        have HWJ := Lib.hid hwj
        have HIJ := Lib.hid hij
        have HTJ := Lib.hid htj
        clear hwj hij htj
        by_cases hlj : j < q.L.length
        · obtain ⟨x, hx⟩ : ∃ x, q.L[j]? = some x := ⟨_, List.getElem?_eq_getElem hlj⟩
          have hxf := HIJ.out.now hx
          have HIS := Lib.hid (HIJ.out.step hx)
          have hxK := HIJ.out.hi x (List.mem_of_getElem? hx)
          have hxm := HXM.out x (List.mem_of_getElem? hx)
          have hoj := HOV.out.turns HTJ.out (fun g hg e => HMB.out g hg e.symm)
          obtain ⟨g, o, c', hv, hg, d0, d1, d2, d3⟩ := Sub.at' (hoj.sub 0 (fun _ _ => Nat.zero_le _)) hx
          injection hv with hv1 _ hv3
          subst hv1 hv3
          have HXF := Lib.hid hxf
          obtain ⟨xn, xs, xt, xk⟩ := x
          dsimp only at *
          have HW6 := Lib.hid (HWJ.out.later ((Turns.refl (fun _ => False) wr).alloc (.cells #[.int .i64 xn, .int .i64 xs, .int .i64 xt, .bool xk] PT)))
          have hx6 : Blk (wr.alloc (.cells #[.int .i64 xn, .int .i64 xs, .int .i64 xt, .bool xk] PT)) wr.heap.size #[.int .i64 xn, .int .i64 xs, .int .i64 xt, .bool xk] PT := Blk.new _ _ _
          have HX6 := Lib.hid hx6
          have HT6 := Lib.hid (HTJ.out.alloc (.cells #[.int .i64 xn, .int .i64 xs, .int .i64 xt, .bool xk] PT))
          clear hx hxf hx6 hoj
          go_upto_region 33 with fail
          refine (show Code.wp _ _ _ _ (wr.alloc (.cells #[.int .i64 xn, .int .i64 xs, .int .i64 xt, .bool xk] PT)) from ?_)
          clear d0 d1 d2 d3
          generalize wr.alloc (.cells #[.int .i64 xn, .int .i64 xs, .int .i64 xt, .bool xk] PT) = w6 at *
          generalize wr.heap.size = px at *
          have x0 := HX6.out.cell 0
          have hkey := keyI (n := xn) (by omega) (by omega)
          have hval := HV.out
          have hmn : mn' < maxLen := by unfold maxLen; omega
          go_upto_region 34 with (first
            | (at_lookup; refine wpList_look_int rfl _ _ 50 rfl 3 3 .i64 law50 Try.underlying50 Try.underlying3 (zeroI _) mb mn' (D') rfl HW6.out.map _ _ rfl hkey _ HXF.out ?_)
            | (at_mapUpdate; refine wpList_mapUpdate_own _ rfl _ _ _ 50 rfl 3 3 law50 Try.underlying50 (plainElem Try.prog 3) mb mn' (D') rfl HW6.out.map hmn _ _ _ rfl rfl hkey _ [] hval ?_; intro wm hownm hgrowm))
          have HW7 := Lib.hid (HW6.out.put hownm hgrowm)
          have tm : Turns (· = mb) w6 wm := (Turns.of_grown hgrowm).mono (fun k _ hk => by injection hk)
          have hx7 := tm.blk HX6.out (fun e => ownsMap_ne HW6.out.map HX6.out e.symm)
          have HT7 := Lib.hid (HT6.out.trans (tm.mono (fun _ _ h => .inl h)))
          have HIM := Lib.hid (HW6.out.map.isMap)
          clear hownm hgrowm tm x0
          have x0 := hx7.cell 0
          have hone := Lib.hid (one_put (D := D') (m := xn) HIM.out)
          have hw4 : IntKind.i64.wrap (gone + (j : Int) + 1) = gone + (j : Int) + 1 := IntWalk.i64_in _ (by omega)
          go_wp2_with (first
            | (at_lookup; refine wpList_look_int rfl _ _ 50 rfl 3 3 .i64 law50 Try.underlying50 Try.underlying3 (zeroI _) mb (mn' + 1) (put1 D' xn) rfl HW7.out.map _ _ rfl hkey _ hone.out ?_)
            | (at_mapUpdate; refine wpList_mapUpdate_own _ rfl _ _ _ 50 rfl 3 3 law50 Try.underlying50 (plainElem Try.prog 3) mb (mn' + 1) (put1 D' xn) rfl HW7.out.map hmn _ _ _ rfl rfl hkey _ [] hval ?_; intro wm hownm hgrowm))
          go_roundw
          case rel => exact ⟨j + 1, mn' + 1, _, by omega, by go_num, by go_num, by omega, HW7.out, HIS.out, HT7.out⟩
          case measure => simp [intOf]; omega
        · obtain rfl : j = q.L.length := by omega
          have HLN := Lib.hid (len p pv' ⟨q.frames, q.most, [], true⟩ wr HWJ.out.qs)
          have c0 : wr.cell? ⟨ps, 0, none⟩ = some (.pointer (some ⟨p, 0, none⟩)) := (HWJ.out.box.cell 0).trans HC.out
          have hge : (gone + (q.L.length : Int) == taken) = true := by rw [hsum]; simp
          have hge2 : gone + (q.L.length : Int) = taken := hsum
          have HNE := Lib.hid HWJ.out.n
          clear HIJ HWJ hlj hsum
          go_wp2_with fail
          refine HLN.out.mono ?_
          rintro e w8 ⟨rfl, rfl⟩
          go_wp2
          go_ret
          exact ⟨rfl, HNE.out.below (Nat.le_refl _) (fun _ _ h => h.elim)⟩
end Go.Proofs.Ythdlkcmkbpabaaa.que
