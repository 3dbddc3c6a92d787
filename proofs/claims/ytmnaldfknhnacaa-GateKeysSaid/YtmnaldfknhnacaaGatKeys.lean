/-
  GateKeys: KEY: the first one is key.
-/
import Derived.Test.YtmnaldfknhnacaaGatHeld
namespace Go.Proofs.Ytmnaldfknhnacaa.gat
open Go.RowKit mem
set_option linter.unusedVariables false

/-- what 'last' and 'fresh' tell of a gate -/
def J (g : G) (L : Int) (F : Bool) : Prop := g.v = true ∧ (g.o = true → F = false ∧ L = g.a)
theorem J_step {g t : G} {L : Int} {F : Bool} {kd ly : Int} {key on B : Bool} (h : J g L F) (ht : stepG g kd ly key on = t) (hB : goesK g kd ly key = B) :
    t.v = true ∧ (B = false → J t L (F || (kd == 3) || ((kd == 4) && on))) ∧ (B = true → kd = 1 ∧ J t (ly % 4) false ∧ (F = true ∨ ly % 4 ≠ L → key = true ∧ ly % 4 = t.m)) := by
  obtain ⟨hv, hj⟩ := h
  have tv : t.v = true := by rw [← ht, step_v]; exact hv
  refine ⟨tv, fun hb => ⟨tv, ?_⟩, fun hb => ?_⟩
  · subst hB ht
    revert hb
    unfold goesK stepG
    by_cases h1 : kd = 1
    · subst h1
      simp only [if_true]
      intro hb
      have hg : passG g (ly % 4) key = g := by
        unfold passG
        by_cases hp : g.p = true
        · rw [if_pos hp]
        · rw [if_neg hp]
          by_cases hgo : goesB g (ly % 4) key = true
          · rw [if_pos hgo]
          · exfalso
            unfold passB at hb
            rw [if_neg hp, if_neg hgo] at hb
            cases hb
      rw [hg]
      intro ho
      have := hj ho
      exact ⟨by rw [this.1]; rfl, this.2⟩
    · rw [if_neg h1, if_neg h1]
      intro _
      by_cases h2 : kd = 2
      · subst h2
        rw [if_pos rfl]
        intro ho
        have := hj ho
        exact ⟨by rw [this.1]; rfl, this.2⟩
      · rw [if_neg h2]
        by_cases h3 : kd = 3
        · rw [if_pos h3]
          intro ho
          exact absurd ho (by simp [shutG])
        · rw [if_neg h3]
          by_cases h4 : kd = 4
          · rw [if_pos h4]
            subst h4
            cases on
            · intro ho
              have := hj ho
              exact ⟨by rw [this.1]; rfl, this.2⟩
            · intro ho
              exact absurd ho (by simp [pauseG, shutG])
          · rw [if_neg h4]
            intro ho
            have := hj ho
            exact ⟨by rw [this.1]; simp [h3, h4], this.2⟩
  · subst hB ht
    revert hb
    unfold goesK stepG
    by_cases h1 : kd = 1
    · rw [if_pos h1, if_pos h1]
      intro hb
      refine ⟨h1, ?_⟩
      unfold passB at hb
      unfold passG
      by_cases hp : g.p = true
      · rw [if_pos hp] at hb; cases hb
      · rw [if_neg hp] at hb
        rw [if_neg hp]
        by_cases hgo : goesB g (ly % 4) key = true
        · rw [if_pos hgo] at hb
          rw [if_pos hgo]
          have hb2 : g.o = true ∧ g.a = ly % 4 := by unfold isAtB at hb; simpa using hb
          have := hj hb2.1
          refine ⟨⟨hv, fun _ => ⟨rfl, hb2.2.symm⟩⟩, fun hx => ?_⟩
          exfalso
          rcases hx with hx | hx
          · rw [this.1] at hx; cases hx
          · exact hx (by rw [this.2, hb2.2])
        · rw [if_neg hgo]
          have hk : key = true ∧ ly % 4 = g.m := by unfold goesB at hgo; rw [hv] at hgo; simpa using hgo
          exact ⟨⟨hv, fun _ => ⟨rfl, rfl⟩⟩, fun _ => hk⟩
    · rw [if_neg h1]; intro hb; cases hb

/-- what the loop holds -/
structure Kn (w wr : World) (k p px : Nat) (L : Int) (F : Bool) (g : G) : Prop where
  j : J g L F
  u : g.upto k
  gt : Gt wr p g
  x : Blk wr px (rx g) XG
  n : New w wr
  le : w.heap.size ≤ p
  lt : p < px

set_option maxHeartbeats 2000000 in
set_option maxRecDepth 100000 in
theorem keys_law (m : Int) (a : Option Addr) (n c : Nat) (z : Nat → Int × Int × Bool × Bool) (w : World) (_ : -9223372036854775808 ≤ m) (_ : m ≤ 9223372036854775807) (hz : args.gactRow w a n c z) :
    Calls Try.prog 3 #[.int .i64 m, .slice a n c] w fun e w' => e = .returned (.bool true) ∧ Below w.heap.size w w' := by
  obtain ⟨hn, hwf, hcell⟩ := hz
  unfold maxLen at hn
  clear hwf
  have HC := Lib.hid hcell
  clear hcell
  have HN := Lib.hid (fun w => new true m w)
  obtain ⟨mx, hmx⟩ : ∃ mx, max m 0 = mx := ⟨_, rfl⟩
  have hfr : fresh true m = ⟨true, mx, false, 0, false, 0, 0⟩ := by unfold fresh; rw [hmx]
  have HF : Hid ((⟨true, mx, false, 0, false, 0, 0⟩ : G).upto 0) := Lib.hid (by rw [← hfr]; exact fresh_upto _ _)
  rw [hfr] at HN
  clear hfr
  have HMX := Lib.hid hmx
  clear hmx
  go_enter Try.func3, Try.ntmps3
  go_wp2_with fail
  refine (awake w).mono ?_
  rintro e w1 ⟨rfl, h1⟩
  have N1 := Lib.hid h1
  clear h1
  go_wp2_with fail
  refine (HN.out _).mono ?_
  rintro e w2 ⟨rfl, h2, n2⟩
  have hle : w.heap.size ≤ w1.heap.size := N1.out.size
  have hpl := h2.lt
  have HS : Hid (Kn w (w2.alloc (.cells #[.bool true, .bool false, .int .i64 (-1), .int .i64 mx, .int .i64 0, .int .i64 0] XG)) 0 w1.heap.size w2.heap.size (-1) true ⟨true, mx, false, 0, false, 0, 0⟩) := Lib.hid
    ⟨⟨rfl, fun h => by cases h⟩, HF.out, h2.alloc _, Blk.new _ _ _, (N1.out.trans (n2.mono (fun _ _ h => h.elim))).alloc _, hle, hpl⟩
  clear n2 HN h2 HF
  generalize w1.heap.size = p at *
  clear N1
  have hmx := HMX.out
  clear HMX
  go_upto_region 4 with fail
  go_cut [6] (fun v6 wx => v6 = .pointer (some ⟨w2.heap.size, 0, none⟩) ∧ wx = w2.alloc (.cells #[.bool true, .bool false, .int .i64 (-1), .int .i64 mx, .int .i64 0, .int .i64 0] XG))
  case first =>
    clear HS HC
    by_cases hm0 : m < 0
    · have hmx0 : mx = 0 := by omega
      subst hmx0
      clear hmx
      go_wp2_with fail
      go_meet
      case rel => exact ⟨rfl, rfl⟩
    · have hmx0 : mx = m := by omega
      subst hmx0
      clear hmx
      go_wp2_with fail
      go_meet
      case rel => exact ⟨rfl, rfl⟩
  case rest =>
    obtain ⟨rfl, rfl⟩ := hcut
    generalize w2.alloc (.cells #[.bool true, .bool false, .int .i64 (-1), .int .i64 mx, .int .i64 0, .int .i64 0] XG) = w3 at *
    generalize w2.heap.size = px at *
    clear hmx
    go_wp2_with fail
    go_loopw [7, 8, 9] (fun l f i wr => ∃ k : Nat, ∃ L : Int, ∃ F : Bool, ∃ g : G, k ≤ n ∧ k ≤ 150 ∧ l = .int .i64 L ∧ f = .bool F ∧ i = .int .i64 k ∧ Kn w wr k p px L F g) (fun _ _ i _ => n - (intOf i).toNat)
    case atStart => exact ⟨0, -1, true, _, Nat.zero_le _, by omega, rfl, rfl, rfl, HS.out⟩
    case round =>
      obtain ⟨k, L, F, g, hk, hk60, rfl, rfl, rfl, hsn⟩ := hrel
      clear HS
      by_cases hgo : k < n ∧ k < 150
      · obtain ⟨hlt, hlt2⟩ := hgo
        obtain ⟨b, off, rfl, hb, hcell⟩ := HC.out.resolve_left (by omega)
        obtain ⟨c0, c1, c2, c3⟩ := hcell k hlt
        obtain ⟨hj, hu, hgt, hx, hnw, hle', hlp⟩ := hsn
        have r0 := (hnw.cell hb (fun h => h)).trans c0
        have r1 := (hnw.cell (a := ⟨b, off + k * 4 + 1, none⟩) hb (fun h => h)).trans c1
        have r2 := (hnw.cell (a := ⟨b, off + k * 4 + 2, none⟩) hb (fun h => h)).trans c2
        have r3 := (hnw.cell (a := ⟨b, off + k * 4 + 3, none⟩) hb (fun h => h)).trans c3
        clear hcell HC c0 c1 c2 c3
        have hok := hu.ok (by omega)
        have m2 := mask.mask2 (z k).2.1
        obtain ⟨t, ht⟩ : ∃ t, stepG g (z k).1 (z k).2.1 (z k).2.2.1 (z k).2.2.2 = t := ⟨_, rfl⟩
        obtain ⟨B, hB⟩ : ∃ B, goesK g (z k).1 (z k).2.1 (z k).2.2.1 = B := ⟨_, rfl⟩
        have HD := Lib.hid (fun w h => does_is p g _ _ _ _ t B ⟨ht, hB⟩ w h hok)
        have HT := Lib.hid (J_step hj ht hB)
        have HU : Hid (t.upto (k + 1)) := Lib.hid (by rw [← ht]; exact step_upto hu _ _ _ _)
        have HG := Lib.hid hgt
        have HX := Lib.hid hx
        have HN := Lib.hid hnw
        clear hu hgt hx hnw hok ht hB hj
        unfold rx at HD HX
        generalize (z k).1 = kd at *
        generalize (z k).2.1 = ly at *
        generalize (z k).2.2.1 = key at *
        generalize (z k).2.2.2 = on at *
        generalize g.v = x0 at *
        generalize g.p = x1 at *
        generalize atV g.o g.a = x2 at *
        generalize g.m = x3 at *
        generalize g.s = x4 at *
        generalize g.t = x5 at *
        have kn : (k : Int) < (n : Int) := by omega
        have k0 : (0 : Int) ≤ (k : Int) := by omega
        have hd : decide ((k : Int) < 150) = true := by simp; omega
        go_upto_region 10 with fail
        have hba : Blk (wr.alloc (.cells #[.int .i64 kd, .int .i64 ly, .bool key, .bool on] 29)) wr.heap.size #[.int .i64 kd, .int .i64 ly, .bool key, .bool on] 29 := Blk.new _ _ _
        have hx4 := HX.out.alloc (.cells #[.int .i64 kd, .int .i64 ly, .bool key, .bool on] 29)
        have hg4 := HG.out.alloc (.cells #[.int .i64 kd, .int .i64 ly, .bool key, .bool on] 29)
        have hn4 := HN.out.alloc (.cells #[.int .i64 kd, .int .i64 ly, .bool key, .bool on] 29)
        have hpa := HX.out.lt
        have hpa2 := HN.out.size
        generalize wr.alloc (.cells #[.int .i64 kd, .int .i64 ly, .bool key, .bool on] 29) = w4 at *
        generalize wr.heap.size = pa at *
        have hap : pa ≠ p := by omega
        have hxp : px ≠ p := by omega
        have hxa : px ≠ pa := by omega
        have hpl3 := hg4.lt
        have hh : HeldS w4 w4 p px pa 0 1 2 3 (.bool x0) (.bool x1) (.int .i64 x2) (.int .i64 x3) (.int .i64 x4) (.int .i64 x5) (.int .i64 kd) (.int .i64 ly) (.bool key) (.bool on) :=
          ⟨Turns.refl _ _, hx4.lt, hba.lt, hx4.cell 0, hx4.cell 1, hx4.cell 2, hx4.cell 3, hx4.cell 4, hx4.cell 5, hba.cell 0, hba.cell 1, hba.cell 2, hba.cell 3⟩
        clear HX HG HN r0 r1 r2 r3
        have HX := Lib.hid hx4
        have HG := Lib.hid hg4
        have HN := Lib.hid hn4
        have HA := Lib.hid hba
        clear hx4 hg4 hn4 hba
        go_cut [11, 12, 13] (fun v6 v7 v8 wx => Ys w4 p t B v6 v7 v8 wx)
        case first =>
          clear HT HX HN HA
          obtain ⟨_, _, _, x0', x1', x2', x3', x4', x5', a0', a1', a2', a3'⟩ := hh
          go_wp2_with fail
          refine (HD.out _ HG.out).mono ?_
          rintro en wq ⟨rfl, hnq⟩
          go_wp2_with fail
          go_meet
          case rel => exact ⟨_, rfl, rfl, rfl, ⟨hnq.1.alloc _, hnq.2.alloc _⟩, hnq.2.size, Blk.new _ _ _⟩
        case rest =>
          obtain ⟨py, rfl, rfl, rfl, hat, hpy, hby⟩ := hcut
          have hbx : Blk wc px [.bool x0, .bool x1, .int .i64 x2, .int .i64 x3, .int .i64 x4, .int .i64 x5].toArray XG := hat.2.blk HX.out hxp
          have hba := hat.2.blk HA.out hap
          obtain ⟨_, f0, f1, f2, f3, f4, f5⟩ := six hbx
          obtain ⟨⟨y0, y1, y2, y3, y4, y5⟩, _⟩ := six hby
          have hw5 : Blk (puts wc px 0 [.bool t.v, .bool t.p, .int .i64 (atV t.o t.a), .int .i64 t.m, .int .i64 t.s, .int .i64 t.t]) px (rx t) XG := puts_blk _ _ hbx rfl
          have hs5 : Gt (puts wc px 0 [.bool t.v, .bool t.p, .int .i64 (atV t.o t.a), .int .i64 t.m, .int .i64 t.s, .int .i64 t.t]) p t := puts_other hxp _ _ _ hat.1
          have ha5 := puts_other (p := px) hxa [.bool t.v, .bool t.p, .int .i64 (atV t.o t.a), .int .i64 t.m, .int .i64 t.s, .int .i64 t.t] 0 wc hba
          have hn5 : New w (puts wc px 0 [.bool t.v, .bool t.p, .int .i64 (atV t.o t.a), .int .i64 t.m, .int .i64 t.s, .int .i64 t.t]) := puts_turns (.inr (by omega)) _ 0 _ (new_at HN.out hat hle')
          obtain ⟨q0, q1, q2, q3⟩ := four ha5
          have HS : Hid (Gt (puts wc px 0 [.bool t.v, .bool t.p, .int .i64 (atV t.o t.a), .int .i64 t.m, .int .i64 t.s, .int .i64 t.t]) p t ∧ Blk (puts wc px 0 [.bool t.v, .bool t.p, .int .i64 (atV t.o t.a), .int .i64 t.m, .int .i64 t.s, .int .i64 t.t]) px (rx t) XG ∧ New w (puts wc px 0 [.bool t.v, .bool t.p, .int .i64 (atV t.o t.a), .int .i64 t.m, .int .i64 t.s, .int .i64 t.t])) := Lib.hid ⟨hs5, hw5, hn5⟩
          clear hw5 hs5 hn5 hby hbx hh hat ha5 hba HX HN HD HG HA
          go_upto_region 12 with fail
          refine (show Code.wp _ _ _ _ (puts wc px 0 [.bool t.v, .bool t.p, .int .i64 (atV t.o t.a), .int .i64 t.m, .int .i64 t.s, .int .i64 t.t]) from ?_)
          generalize puts wc px 0 [.bool t.v, .bool t.p, .int .i64 (atV t.o t.a), .int .i64 t.m, .int .i64 t.s, .int .i64 t.t] = w5 at *
          clear f0 f1 f2 f3 f4 f5 y0 y1 y2 y3 y4 y5
          have HQ := Lib.hid (aim p t w5 HS.out.1)
          have HJ : ∀ (L : Int) (F : Bool), J t L F → Kn w w5 (k + 1) p px L F t := fun L F hj => ⟨hj, HU.out, HS.out.1, HS.out.2.1, HS.out.2.2, hle', hlp⟩
          have HJ := Lib.hid HJ
          cases B
          · have hjf := Lib.hid (HT.out.2.1 rfl)
            clear HT HS HU HQ m2
            have fin : ∀ F' : Bool, (F || (kd == 3) || ((kd == 4) && on)) = F' → Kn w w5 (k + 1) p px L F' t := fun F' h => HJ.out _ _ (h ▸ hjf.out)
            have FIN := Lib.hid fin
            clear fin hjf HJ
            by_cases h3 : kd = 3
            · subst h3
              go_wp2
              go_roundw
              case rel => exact ⟨k + 1, _, _, _, by omega, by omega, rfl, rfl, by go_num, FIN.out _ (by simp)⟩
              case measure => simp [intOf]; omega
            · have h3' : (kd == 3) = false := by simpa using h3
              by_cases h4 : kd = 4
              · subst h4
                cases on
                all_goals
                  go_wp2
                  go_roundw
                  case rel => exact ⟨k + 1, _, _, _, by omega, by omega, rfl, rfl, by go_num, FIN.out _ (by simp)⟩
                  case measure => simp [intOf]; omega
              · have h4' : (kd == 4) = false := by simpa using h4
                go_wp2
                go_roundw
                case rel => exact ⟨k + 1, _, _, _, by omega, by omega, rfl, rfl, by go_num, FIN.out _ (by simp [h3', h4'])⟩
                case measure => simp [intOf]; omega
          · obtain ⟨hk1, hjt, hkey⟩ := HT.out.2.2 rfl
            subst hk1
            have KN := Lib.hid (HJ.out _ _ hjt)
            have HK := Lib.hid hkey
            clear HT HS HU HJ hjt hkey
            generalize ly % 4 = q at *
            by_cases hc : F = false ∧ q = L
            · obtain ⟨rfl, rfl⟩ := hc
              clear HK HQ
              go_wp2
              go_roundw
              case rel => exact ⟨k + 1, _, _, _, by omega, by omega, rfl, rfl, by go_num, KN.out⟩
              case measure => simp [intOf]; omega
            · have hkq := HK.out (by cases F <;> simp_all)
              obtain ⟨rfl, hqm⟩ := hkq
              have HQq := Lib.hid hqm
              rw [← hqm] at HQ
              clear HK hqm
              cases F
              · have hne : (q != L) = true := by simpa using hc
                clear hc
                go_wp2_with ((go_at_call 10; (with_reducible refine (HQ.out).mono ?_); rintro e w' ⟨rfl, rfl⟩))
                go_roundw
                case rel => exact ⟨k + 1, _, _, _, by omega, by omega, rfl, rfl, by go_num, KN.out⟩
                case measure => simp [intOf]; omega
              · clear hc
                go_wp2_with ((go_at_call 10; (with_reducible refine (HQ.out).mono ?_); rintro e w' ⟨rfl, rfl⟩))
                go_roundw
                case rel => exact ⟨k + 1, _, _, _, by omega, by omega, rfl, rfl, by go_num, KN.out⟩
                case measure => simp [intOf]; omega
      · by_cases hlt : k < n
        · have hlt2 : ¬ k < 150 := by omega
          go_wp2
          go_ret
          exact ⟨rfl, hsn.n.below (Nat.le_refl _) (fun _ _ h => h.elim)⟩
        · go_wp2
          go_ret
          exact ⟨rfl, hsn.n.below (Nat.le_refl _) (fun _ _ h => h.elim)⟩
end Go.Proofs.Ytmnaldfknhnacaa.gat
