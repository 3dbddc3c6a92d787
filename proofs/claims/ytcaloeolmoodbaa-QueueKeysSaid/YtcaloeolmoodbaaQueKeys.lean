/-
  QueueKeys: the law.
-/
import Derived.Test.YtcaloeolmoodbaaQueKeys2
namespace Go.Proofs.Ytcaloeolmoodbaa.que
open Go.RowKit mem Go.Maps
set_option linter.unusedVariables false

set_option maxRecDepth 100000 in
set_option maxHeartbeats 4000000 in
theorem keys_law (f m a : Int) (ao : Option Addr) (n c : Nat) (z : Nat → Int × Int × Bool) (w : World) (f0 : -9223372036854775808 ≤ f) (f1 : f ≤ 9223372036854775807) (m0 : -9223372036854775808 ≤ m) (m1 : m ≤ 9223372036854775807) (a0 : -9223372036854775808 ≤ a) (a1 : a ≤ 9223372036854775807) (h : args.qactRow w ao n c z) :
    Calls Try.prog 4 #[.int .i64 f, .int .i64 m, .int .i64 a, .slice ao n c] w fun e w' => e = .returned (.bool true) ∧ Below w.heap.size w w' := by
  have HA := Lib.hid (fun w => awake w)
  have HBG := Lib.hid (beginC f m a w)
  obtain ⟨hn, hok, hrow⟩ := h
  have HOK := Lib.hid hok
  have HROW := Lib.hid hrow
  have hmm := @run_makeMap Try.prog
  clear hok hrow a0 a1 f0 f1 m0 m1
  go_enter Try.func4, Try.ntmps4
  go_wp2_with fail
  refine HBG.out.mono ?_
  rintro e w1 ⟨p, rfl, ho1⟩
  have hA : 1 ≤ 1 + a % 32 ∧ 1 + a % 32 ≤ 32 := by omega
  generalize 1 + a % 32 = age at *
  have hgood : Good (fresh (1 + f % 8) (1 + m % 64)) 0 := ⟨Int.le_refl _, (fun x hx => by cases hx), trivial⟩
  have hLE : (fresh (1 + f % 8) (1 + m % 64)).L = [] := rfl
  have hKN : Kn (fresh (1 + f % 8) (1 + m % 64)) 0 0 := ⟨⟨Int.le_refl _, fun e => by cases e⟩, Int.le_refl _, Int.le_refl _⟩
  have hKM : Km (.map []) (fresh (1 + f % 8) (1 + m % 64)) := fun x hx => by cases hx
  generalize fresh (1 + f % 8) (1 + m % 64) = q0 at *
  have hb2 : Blk (w1.alloc (.cells (stL p q0 (.slice none 0 0) 0 0 age).toArray TS)) w1.heap.size (stL p q0 (.slice none 0 0) 0 0 age).toArray TS := Blk.new _ _ _
  have HL0 : Hid (Lp w (w1.alloc (.cells (stL p q0 (.slice none 0 0) 0 0 age).toArray TS)) w1.heap.size p (.slice none 0 0) (.slice none 0 0) q0 0 0 age 0) := Lib.hid (by
    have hpl := ho1.qs.lt
    refine ⟨⟨ho1.qs.later ((Turns.refl _ _).alloc _), by rw [hLE]; exact Sub.nil _ _ _, fun g hg => by simp [Value.ownBlock] at hg⟩, hb2, ho1.n.alloc _, ho1.p0, fun g hg => by simp [Value.ownBlock] at hg, ho1.n.size, ⟨by omega, by simp [Value.ownBlock], by simp [Value.ownBlock]⟩, hgood, ⟨Int.le_refl _, Int.le_refl _⟩, Int.le_refl _⟩)
  have HKN0 := Lib.hid hKN
  have HKM0 := Lib.hid hKM
  clear hb2 hgood ho1 hLE hKN hKM
  obtain ⟨ha0, ha1⟩ := hA
  go_wp2_with fail
  refine (HA.out _).mono ?_
  rintro e w3 ⟨rfl, n3⟩
  have HL3 := Lib.hid (HL0.out.later n3)
  clear n3 HL0 HA HBG
  generalize w1.heap.size = ps at *
  have HM0 : Hid (Mk w (w3.alloc (.map #[] 0)) ps p w3.heap.size 0 (.slice none 0 0) (.slice none 0 0) q0 0 0 age 0 (.map [])) := Lib.hid ⟨HL3.out.later ((Turns.refl _ _).alloc _), World.ownsMap_made _ _ _ _, HL3.out.n.size, by simp [Value.ownBlock]⟩
  clear HL3
  go_upto_region 5 with fail
  refine (show Code.wp _ _ _ _ (w3.alloc (.map #[] 0)) from ?_)
  generalize w3.alloc (.map #[] 0) = w4 at *
  generalize w3.heap.size = mb at *
  go_wp2_with fail
  go_loopw [12, 13] (fun ls i wr => ∃ (k mn : Nat) (pv xv : Value) (q : Q) (now nn last : Int) (D : DataW Unit), k ≤ n ∧ k ≤ 150 ∧ mn ≤ k ∧ i = .int .i64 k ∧ ls = .int .i64 last ∧ Mk w wr ps p mb mn pv xv q now nn age k D ∧ Kn q nn last ∧ Km D q) (fun _ i _ => n - (intOf i).toNat)
  case atStart => exact ⟨0, 0, _, _, _, _, _, 0, _, Nat.zero_le _, by omega, Nat.le_refl _, rfl, rfl, HM0.out, HKN0.out, HKM0.out⟩
  case round =>
    obtain ⟨k, mn, pv, xv, q, now, nn, last, D, hk, hk150, hmn, rfl, rfl, hmk, hkn, hkm⟩ := hrel
    obtain ⟨ax, cx, hxv, _, _⟩ := hmk.lp.ds.sub.form
    subst hxv
    have HMK := Lib.hid hmk
    have HKN := Lib.hid hkn
    have HKM := Lib.hid hkm
    have hl0 := hkn.l0
    have hln := ch_le _ _ hkn.c
    clear hmk hkn hkm HM0 HKN0 HKM0
    by_cases hlt : k < n
    · by_cases h150 : k < 150
      · obtain ⟨b, off, rfl, hb, hc⟩ := HROW.out.resolve_left (by omega)
        have hzo := HOK.out k hlt
        have hzc := hc k hlt
        have HAC : Hid (∀ wz, New w wz → wz.cell? ⟨b, off + k * 3, none⟩ = some (.int .i64 (z k).1) ∧ wz.cell? ⟨b, off + k * 3 + 1, none⟩ = some (.int .i64 (z k).2.1) ∧ wz.cell? ⟨b, off + k * 3 + 2, none⟩ = some (.bool (z k).2.2)) := Lib.hid (fun wz N => ⟨(N.cell (a := ⟨b, off + k * 3, none⟩) hb (fun h => h)).trans hzc.1, (N.cell (a := ⟨b, off + k * 3 + 1, none⟩) hb (fun h => h)).trans hzc.2.1, (N.cell (a := ⟨b, off + k * 3 + 2, none⟩) hb (fun h => h)).trans hzc.2.2⟩)
        obtain ⟨s0, s1⟩ := bounds_i64 hzo.2.1
        clear hzc hzo hc
        generalize z k = zk at *
        obtain ⟨kd, sz, ky⟩ := zk
        dsimp only at *
        have d1 : decide ((k : Int) < (n : Int)) = true := decide_eq_true (by omega)
        have d2 : decide ((k : Int) < 150) = true := decide_eq_true (by omega)
        have i0 : (0 : Int) ≤ (k : Int) := by omega
        have i1 : (k : Int) < (n : Int) := by omega
        obtain ⟨htk, t0, t1, n0, n1⟩ := HMK.out.lp.ticks (by omega)
        have HDO := Lib.hid (fun W (N : New wr W) => (does p pv (.slice ax q.L.length cx) q now nn age kd sz ky W (HMK.out.lp.ds.later N) s0 s1 n0 n1 t0 t1 htk))
        have hbl : b < wr.heap.size := Nat.lt_of_lt_of_le hb HMK.out.lp.n.size
        have hpl := HMK.out.lp.ds.qs.lt
        have hpsl := HMK.out.lp.box.lt
        have HFT : Hid (¬ Foot p pv ps ∧ ¬ Foot p pv b) := Lib.hid ⟨HMK.out.foot.2.2, fun e => by
          rcases e with e | e
          · have := HMK.out.lp.p0; omega
          · have := HMK.out.lp.v0 b e; omega⟩
        obtain ⟨e0, e1, e2⟩ := HAC.out wr HMK.out.lp.n
        obtain ⟨⟨b0, b1, b2, b3, b4, b5, b6, b7⟩, _⟩ := eight HMK.out.lp.box
        have HH : Hid (HeldK (Foot p pv) wr wr ps b (off + k * 3) (off + k * 3 + 1) (off + k * 3 + 2) (.pointer (some ⟨p, 0, none⟩)) (.int .i64 q.frames) (.int .i64 q.most) (.slice ax q.L.length cx) (.bool q.broken) (.int .i64 now) (.int .i64 nn) (.int .i64 age) (.int .i64 kd) (.int .i64 sz) (.bool ky)) := Lib.hid ⟨Turns.refl _ _, hpsl, hbl, b0, b1, b2, b3, b4, b5, b6, b7, e0, e1, e2⟩
        have HQS := Lib.hid HMK.out.lp.ds.qs
        have HDS := Lib.hid HMK.out.lp.ds
        have HKN0 : Hid (0 ≤ last ∧ last ≤ nn) := Lib.hid ⟨hl0, hln⟩
        clear htk b0 b1 b2 b3 b4 b5 b6 b7 e0 e1 e2
        have hh := HH.out
        obtain ⟨_, _, _, b0, b1, b2, b3, b4, b5, b6, b7, e0, e1, e2⟩ := id hh
        have HST := Lib.hid (fun wx pv' xv' (hd : Dn wr wx p pv (.slice ax q.L.length cx) (stepQ q now nn age kd sz ky) pv' xv') => HMK.out.step hd rfl)
        have HKS := Lib.hid (HKN.out.step (q := q) (now := now) (nn := nn) (age := age) (kd := kd) (sz := sz) (ky := ky) HMK.out.lp.ds.qs.ok)
        have HMS := Lib.hid (HKM.out.step (q := q) (now := now) (nn := nn) (age := age) (kd := kd) (sz := sz) (ky := ky) HMK.out.map.isMap)
        have HOU := Lib.hid (HKN.out.out HKM.out kd)
        have HNN : Hid (kd = 1 → stepN nn kd = nn + 1) := Lib.hid (fun e => by simp [stepN, e])
        clear HKN HKM
        generalize stepQ q now nn age kd sz ky = q' at *
        generalize stepNow now kd sz = now' at *
        generalize stepN nn kd = nn' at *
        generalize stepOut q kd = out at *
        generalize lastOf q kd last = last' at *
        go_upto_region 9 with fail
        go_cut [14, 15, 16, 17] (fun v14 v15 v16 v17 wx => Tk wr p pv (.slice ax q.L.length cx) q' now' nn' age out v14 v15 v17 wx)
        case first =>
          clear HMK HKS HMS HOU HNN HST HAC
          go_region_held3 (fun w' => Turns (Foot p pv) wr w' ∧ ps < w'.heap.size ∧ b < w'.heap.size ∧ w'.cell? ⟨ps, 0, none⟩ = some (.pointer (some ⟨p, 0, none⟩)) ∧ w'.cell? ⟨ps, 1, none⟩ = some (.int .i64 q.frames) ∧ w'.cell? ⟨ps, 2, none⟩ = some (.int .i64 q.most) ∧ w'.cell? ⟨ps, 3, none⟩ = some (.slice ax q.L.length cx) ∧ w'.cell? ⟨ps, 4, none⟩ = some (.bool q.broken) ∧ w'.cell? ⟨ps, 5, none⟩ = some (.int .i64 now) ∧ w'.cell? ⟨ps, 6, none⟩ = some (.int .i64 nn) ∧ w'.cell? ⟨ps, 7, none⟩ = some (.int .i64 age)
              ∧ w'.cell? ⟨b, off + k * 3, none⟩ = some (.int .i64 kd) ∧ w'.cell? ⟨b, off + k * 3 + 1, none⟩ = some (.int .i64 sz) ∧ w'.cell? ⟨b, off + k * 3 + 2, none⟩ = some (.bool ky))
            (first
              | (with_reducible assumption)
              | ((with_reducible refine heldK_drew ?_); with_reducible assumption)
              | ((with_reducible refine heldK_alloc _ ?_); with_reducible assumption)
              | ((with_reducible refine heldK_drew (heldK_alloc _ ?_)); with_reducible assumption)
              | ((with_reducible apply heldK_turns hnq.turns HFT.out.1 HFT.out.2); with_reducible assumption)
              | ((with_reducible refine heldK_turns ?_ HFT.out.1 HFT.out.2 HH.out); (repeat (first | (with_reducible refine Turns.alloc ?_ _) | (with_reducible refine Turns.drew ?_) | (with_reducible refine Turns.setCell ?_ (.inr (Nat.le_refl _)) _))); (with_reducible exact (Dn.base' (by repeat (first | exact Turns.refl _ _ | apply Turns.alloc | apply Turns.drew)) hnq).turns)))
            ((go_at_call 16; (with_reducible refine Calls.mono (HDO.out _ ?_) ?_); (focus ((repeat (first | (with_reducible refine Turns.alloc ?_ _) | (with_reducible refine Turns.drew ?_))); exact Turns.refl _ _)); rintro en wq ⟨pv', xv', fl, rfl, hnq⟩; obtain ⟨ax', cx', hxv', _, _⟩ := hnq.ds.sub.form; subst hxv'; (first | (have hpy := new_t HQS.out hnq rfl; obtain ⟨⟨y0, y1, y2, y3, y4, y5, y6, y7⟩, g0, g1, g2, g3, g4, g5, g6, g7⟩ := eight hpy) | skip)))
          · have HNQ := Lib.hid (Dn.base' (w := wr) (by repeat (first | exact Turns.refl _ _ | apply Turns.alloc | apply Turns.drew)) hnq)
            have HSZ := Lib.hid hnq.turns.size
            go_wp2_with fail
            go_meet
            case rel => exact ⟨_, _, _, rfl, rfl, rfl, HNQ.out.more ((Turns.refl _ _).alloc _), HSZ.out, Blk.new _ _ _⟩
          · have HNQ := Lib.hid (Dn.base' (w := wr) (by repeat (first | exact Turns.refl _ _ | apply Turns.alloc | apply Turns.drew)) hnq)
            have HOF := Lib.hid (Dn.off HDS.out hnq rfl)
            have HBQ := Lib.hid (new_t HQS.out hnq rfl)
            go_wp2_with fail
            go_meet
            case rel => exact ⟨_, _, _, rfl, rfl, rfl, HNQ.out.aside (puts_turns (S := (· = wr.heap.size)) (.inl rfl) (stL p q' (.slice ax' q'.L.length cx') now' nn' age) 0 _ (Turns.refl _ _)) (Nat.le_refl _) HOF.out.1 HOF.out.2.1 HOF.out.2.2, Nat.le_refl _, puts_blk _ (stL p q' (.slice ax' q'.L.length cx') now' nn' age) HBQ.out rfl⟩
        case rest =>
          obtain ⟨pt, pv', xv', rfl, rfl, rfl, hd, hpt, hbt⟩ := hcut
          obtain ⟨ax', cx', hxv', _, _⟩ := hd.ds.sub.form
          subst hxv'
          have HMZ := Lib.hid (HST.out wc pv' _ hd)
          have hbs := hd.turns.blk HMK.out.lp.box HFT.out.1
          obtain ⟨_, f0, f1, f2, f3, f4, f5, f6, f7⟩ := eight hbs
          obtain ⟨⟨y0, y1, y2, y3, y4, y5, y6, y7⟩, _⟩ := eight hbt
          have hnl := HKN0.out.2
          clear hbs hbt hd b0 b1 b2 b3 b4 b5 b6 b7 e0 e1 e2 hh HDO HST HH HQS HDS HMK HFT
          go_upto_region 11 with fail
          refine (show Code.wp _ _ _ _ (puts wc ps 0 (stL p q' (.slice ax' q'.L.length cx') now' nn' age)) from ?_)
          clear f0 f1 f2 f3 f4 f5 f6 f7 y0 y1 y2 y3 y4 y5 y6 y7
          generalize puts wc ps 0 (stL p q' (.slice ax' q'.L.length cx') now' nn' age) = wz at *
          obtain ⟨e0, e1, e2⟩ := HAC.out wz HMZ.out.lp.n
          obtain ⟨⟨b0, b1, b2, b3, b4, b5, b6, b7⟩, _⟩ := eight HMZ.out.lp.box
          have hnb := HMZ.out.lp.nb
          have hw2 : IntKind.i64.wrap ((k : Int) + 1) = (k : Int) + 1 := IntWalk.i64_in _ (by omega)
          have hw3 : IntKind.i64.wrap (last + 1) = last + 1 := IntWalk.i64_in _ (by omega)
          clear HAC
          by_cases k1 : kd = 1
          · obtain ⟨ho, hla⟩ : out = 0 ∧ last' = last := by
              rcases HOU.out with h | ⟨_, _, _, h, _⟩
              · exact h
              · exact absurd k1 h
            subst ho hla
            have hnn := HNN.out k1
            subst k1
            clear HOU HNN
            cases ky
            · have HMS' : Hid (Km D q') := Lib.hid HMS.out
              clear HMS
              go_wp2_with fail
              go_roundw
              case rel =>
                refine ⟨k + 1, mn, _, _, _, _, _, _, _, by omega, by omega, by omega, by go_num, rfl, HMZ.out, HKS.out, HMS'.out⟩
              case measure => simp [intOf]; omega
            · have HMS' : Hid (Km (putT D nn') q') := Lib.hid (by rw [hnn]; exact HMS.out)
              have hkey := keyI (n := nn') (by omega) (by omega)
              have hval := elemT
              have hmx : mn < maxLen := by unfold maxLen; omega
              clear HMS hnn
              go_wp2_with (at_mapUpdate; refine wpList_mapUpdate_own _ rfl _ _ _ 44 rfl 3 4 law50 Try.underlying44 (plainElem Try.prog 4) mb mn D rfl HMZ.out.map hmx _ _ _ rfl rfl hkey _ [] hval ?_; intro wm hownm hgrowm; have HMP := Lib.hid (HMZ.out.put hownm hgrowm); clear hownm hgrowm)
              go_roundw
              case rel => exact ⟨k + 1, mn + 1, _, _, _, _, _, _, _, by omega, by omega, by omega, by go_num, rfl, HMP.out, HKS.out, HMS'.out⟩
              case measure => simp [intOf]; omega
          · have k1n : (kd == 1) = false := beq_false_of_ne k1
            have HMS' : Hid (Km D q') := Lib.hid (by have := HMS.out; unfold nextD at this; rw [if_neg k1] at this; exact this)
            clear HMS HNN
            rcases HOU.out with ⟨ho, hla⟩ | ⟨hla, hlo, hon, _, hy⟩
            · subst ho hla
              clear HOU k1
              go_wp2_with fail
              go_roundw
              case rel =>
                refine ⟨k + 1, mn, _, _, _, _, _, _, _, by omega, by omega, by omega, by go_num, rfl, HMZ.out, HKS.out, HMS'.out⟩
              case measure => simp [intOf]; omega
            · subst hla
              clear HOU k1
              have hgt : decide ((0 : Int) < last') = true := decide_eq_true (by omega)
              by_cases hl : last = 0
              · subst hl
                have hyes : yes D last' := hy.resolve_right (fun e => e.2 rfl)
                have hrun := lookT HMZ.out.map hyes (by omega) (by omega)
                clear hy hyes
                by_cases ho : last' = 1
                · subst ho
                  go_wp2_with fail
                  go_roundw
                  case rel =>
                    refine ⟨k + 1, mn, _, _, _, _, _, _, _, by omega, by omega, by omega, by go_num, rfl, HMZ.out, HKS.out, HMS'.out⟩
                  case measure => simp [intOf]; omega
                · have hn1 : (last' != 1) = true := by simp [ho]
                  have hn2 : (last' == 1) = false := beq_false_of_ne ho
                  clear ho
                  go_wp2_with fail
                  go_roundw
                  case rel =>
                    refine ⟨k + 1, mn, _, _, _, _, _, _, _, by omega, by omega, by omega, by go_num, rfl, HMZ.out, HKS.out, HMS'.out⟩
                  case measure => simp [intOf]; omega
              · have hz : (last == 0) = false := beq_false_of_ne hl
                by_cases ho : last' = last + 1
                · subst ho
                  clear hy hl
                  go_wp2_with fail
                  go_roundw
                  case rel =>
                    refine ⟨k + 1, mn, _, _, _, _, _, _, _, by omega, by omega, by omega, by go_num, rfl, HMZ.out, HKS.out, HMS'.out⟩
                  case measure => simp [intOf]; omega
                · have hyes : yes D last' := hy.resolve_right (fun e => ho e.1)
                  have hrun := lookT HMZ.out.map hyes (by omega) (by omega)
                  have hn1 : (last' != last + 1) = true := by simp [ho]
                  have hn2 : (last' == last + 1) = false := beq_false_of_ne ho
                  clear ho hy hyes hl
                  go_wp2_with fail
                  go_roundw
                  case rel =>
                    refine ⟨k + 1, mn, _, _, _, _, _, _, _, by omega, by omega, by omega, by go_num, rfl, HMZ.out, HKS.out, HMS'.out⟩
                  case measure => simp [intOf]; omega
      · have d2 : decide ((k : Int) < 150) = false := decide_eq_false (by omega)
        go_wp2
        go_ret
        exact ⟨rfl, HMK.out.lp.n.below (Nat.le_refl _) (fun _ _ h => h.elim)⟩
    · obtain rfl : k = n := by omega
      go_wp2
      go_ret
      exact ⟨rfl, HMK.out.lp.n.below (Nat.le_refl _) (fun _ _ h => h.elim)⟩
end Go.Proofs.Ytcaloeolmoodbaa.que
