/-
  GateSounds: all sounds go through.
-/
import Derived.Test.YtmnaldfknhnacaaGatHeld
namespace Go.Proofs.Ytmnaldfknhnacaa.gat
open Go.RowKit mem
set_option linter.unusedVariables false

/-- what the loop holds -/
structure Sn (w wr : World) (k p px : Nat) (v : Bool) (g : G) : Prop where
  hv : g.v = v
  u : g.upto k
  gt : Gt wr p g
  x : Blk wr px (rx g) XG
  n : New w wr
  le : w.heap.size ≤ p
  lt : p < px

set_option maxHeartbeats 1000000 in
set_option maxRecDepth 100000 in
theorem sounds_law (a : Option Addr) (n c : Nat) (z : Nat → Int × Int × Bool × Bool) (w : World) (hz : args.gactRow w a n c z) :
    Calls Try.prog 4 #[.slice a n c] w fun e w' => e = .returned (.bool true) ∧ Below w.heap.size w w' := by
  obtain ⟨hn, hwf, hcell⟩ := hz
  unfold maxLen at hn
  clear hwf
  have HC := Lib.hid hcell
  clear hcell
  have HN := Lib.hid (fun w => new false 0 w)
  go_enter Try.func4, Try.ntmps4
  go_wp2_with fail
  refine (awake w).mono ?_
  rintro e w1 ⟨rfl, h1⟩
  have N1 := Lib.hid h1
  clear h1
  go_wp2_with fail
  refine (HN.out _).mono ?_
  rintro e w2 ⟨rfl, h2, n2⟩
  have hle : w.heap.size ≤ w1.heap.size := N1.out.size
  have hpl := h2.lt
  have HS : Hid (Sn w (w2.alloc (.cells #[.bool false, .bool false, .int .i64 (-1), .int .i64 0, .int .i64 0, .int .i64 0] XG)) 0 w1.heap.size w2.heap.size false (fresh false 0)) := Lib.hid
    ⟨rfl, fresh_upto _ _, h2.alloc _, Blk.new _ _ _, (N1.out.trans (n2.mono (fun _ _ h => h.elim))).alloc _, hle, hpl⟩
  clear n2 HN h2
  generalize w1.heap.size = p at *
  clear N1
  go_wp2_with fail
  generalize w2.alloc (.cells #[.bool false, .bool false, .int .i64 (-1), .int .i64 0, .int .i64 0, .int .i64 0] XG) = w3 at *
  generalize w2.heap.size = px at *
  go_loopw [5] (fun i wr => ∃ k : Nat, ∃ g : G, k ≤ n ∧ k ≤ 100 ∧ i = .int .i64 k ∧ Sn w wr k p px false g) (fun i _ => n - (intOf i).toNat)
  case atStart => exact ⟨0, _, Nat.zero_le _, by omega, rfl, HS.out⟩
  case round =>
    obtain ⟨k, g, hk, hk60, rfl, hsn⟩ := hrel
    clear HS
    by_cases hgo : k < n ∧ k < 100
    · obtain ⟨hlt, hlt2⟩ := hgo
      obtain ⟨b, off, rfl, hb, hcell⟩ := HC.out.resolve_left (by omega)
      obtain ⟨c0, c1, c2, c3⟩ := hcell k hlt
      obtain ⟨hv, hu, hgt, hx, hnw, hle', hlp⟩ := hsn
      have hpl3 := hgt.lt
      have hxl := hx.lt
      have HCK := Lib.hid (hcell k hlt)
      have r0 := (hnw.cell hb (fun h => h)).trans c0
      have r1 := (hnw.cell (a := ⟨b, off + k * 4 + 1, none⟩) hb (fun h => h)).trans c1
      have r2 := (hnw.cell (a := ⟨b, off + k * 4 + 2, none⟩) hb (fun h => h)).trans c2
      have r3 := (hnw.cell (a := ⟨b, off + k * 4 + 3, none⟩) hb (fun h => h)).trans c3
      have hbp : b ≠ p := by omega
      have hxp : px ≠ p := by omega
      have hh : HeldS wr wr p px b (off + k * 4) (off + k * 4 + 1) (off + k * 4 + 2) (off + k * 4 + 3) (.bool g.v) (.bool g.p) (.int .i64 (atV g.o g.a)) (.int .i64 g.m) (.int .i64 g.s) (.int .i64 g.t) (.int .i64 (z k).1) (.int .i64 (z k).2.1) (.bool (z k).2.2.1) (.bool (z k).2.2.2) :=
        ⟨Turns.refl _ _, hxl, Nat.lt_of_lt_of_le hb hnw.size, hx.cell 0, hx.cell 1, hx.cell 2, hx.cell 3, hx.cell 4, hx.cell 5, r0, r1, r2, r3⟩
      clear hcell HC c0 c1 c2 c3 r0 r1 r2 r3
      have hok := hu.ok (by omega)
      obtain ⟨t, ht⟩ : ∃ t, stepG g (z k).1 (z k).2.1 (z k).2.2.1 (z k).2.2.2 = t := ⟨_, rfl⟩
      obtain ⟨B, hB⟩ : ∃ B, goesK g (z k).1 (z k).2.1 (z k).2.2.1 = B := ⟨_, rfl⟩
      have HD := Lib.hid (fun w h => does_is p g _ _ _ _ t B ⟨ht, hB⟩ w h hok)
      have HT : Hid (t.v = false ∧ t.upto (k + 1) ∧ ((z k).1 = 1 → B = !t.p)) := Lib.hid ⟨by rw [← ht, step_v]; exact hv, by rw [← ht]; exact step_upto hu _ _ _ _, fun h1 => by
        rw [← hB, ← ht]; unfold goesK stepG; rw [if_pos h1, if_pos h1, sound_goes hv, (pass_p _ _ _).1]⟩
      have HG := Lib.hid hgt
      have HX := Lib.hid hx
      have HN := Lib.hid hnw
      clear hu hgt hx hnw hok ht hB hv
      unfold rx at HD HX
      generalize (z k).1 = kd at *
      generalize (z k).2.1 = ly at *
      generalize (z k).2.2.1 = key at *
      generalize (z k).2.2.2 = on at *
      generalize g.v = x0 at *
      generalize g.p = x1 at *
      generalize atV g.o g.a = x2 at *
      generalize g.m = x3 at *
      generalize g.s = x4 at *
      generalize g.t = x5 at *
      have kn : (k : Int) < (n : Int) := by omega
      have k0 : (0 : Int) ≤ (k : Int) := by omega
      go_upto_region 8 with fail
      go_cut [6, 7, 8] (fun v6 v7 v8 wx => Ys wr p t B v6 v7 v8 wx)
      case first =>
        clear HT HX HN HCK
        have HH := Lib.hid hh
        go_region_held3 (fun w' => Turns (· = p) wr w' ∧ px < w'.heap.size ∧ b < w'.heap.size ∧ w'.cell? ⟨px, 0, none⟩ = some (.bool x0) ∧ w'.cell? ⟨px, 1, none⟩ = some (.bool x1) ∧ w'.cell? ⟨px, 2, none⟩ = some (.int .i64 x2) ∧ w'.cell? ⟨px, 3, none⟩ = some (.int .i64 x3) ∧ w'.cell? ⟨px, 4, none⟩ = some (.int .i64 x4) ∧ w'.cell? ⟨px, 5, none⟩ = some (.int .i64 x5)
            ∧ w'.cell? ⟨b, off + k * 4, none⟩ = some (.int .i64 kd) ∧ w'.cell? ⟨b, off + k * 4 + 1, none⟩ = some (.int .i64 ly) ∧ w'.cell? ⟨b, off + k * 4 + 2, none⟩ = some (.bool key) ∧ w'.cell? ⟨b, off + k * 4 + 3, none⟩ = some (.bool on))
          (first
            | (with_reducible assumption)
            | ((with_reducible refine heldS_drew ?_); with_reducible assumption)
            | ((with_reducible refine heldS_alloc _ ?_); with_reducible assumption)
            | ((with_reducible refine heldS_drew (heldS_alloc _ ?_)); with_reducible assumption)
            | ((with_reducible apply heldS_turns hnq.2 hxp hbp); with_reducible assumption)
            | ((with_reducible refine heldS_turns ?_ hxp hbp HH.out); (repeat (first | (with_reducible refine Turns.alloc ?_ _) | (with_reducible refine Turns.drew ?_) | (with_reducible refine Turns.setCell ?_ (.inr (Nat.le_refl _)) _))); (with_reducible apply at_sq2 hnq); (repeat (first | (with_reducible refine Turns.alloc ?_ _) | (with_reducible refine Turns.drew ?_))); exact Turns.refl _ _))
          ((go_at_call 9; (with_reducible refine Calls.mono (HD.out _ ?_) ?_); (focus ((repeat (first | (with_reducible refine Gt.alloc ?_ _) | (with_reducible refine Gt.drew ?_))); exact HG.out)); rintro en wq ⟨rfl, hnq⟩; (first | (have hpy := at_y hpl3 hnq rfl; obtain ⟨y0, y1, y2, y3, y4, y5, g0, g1, g2, g3, g4, g5⟩ := hpy) | skip)))
        · go_wp2_with fail
          go_meet
          case rel => exact ⟨_, rfl, rfl, rfl, ⟨(hnq.1.alloc _), ((at_sq2 hnq ((Turns.refl _ _).drew)).alloc _)⟩, hnq.2.size, Blk.new _ _ _⟩
        · have hbq := at_yb hpl3 hnq rfl
          have hn0 : Turns (· = p) wr wq := at_sq2 hnq (by (repeat (first | (with_reducible refine Turns.alloc ?_ _) | (with_reducible refine Turns.drew ?_))); exact Turns.refl _ _)
          have hgq := hnq.1
          have HBQ := Lib.hid hbq
          have nyp : wr.heap.size ≠ p := by omega
          clear hbq
          go_wp2_with fail
          go_meet
          case rel => exact ⟨_, rfl, rfl, rfl, ⟨puts_other nyp [.bool t.v, .bool t.p, .int .i64 (atV t.o t.a), .int .i64 t.m, .int .i64 t.s, .int .i64 t.t] 0 _ hgq, puts_turns (.inr (Nat.le_refl _)) [.bool t.v, .bool t.p, .int .i64 (atV t.o t.a), .int .i64 t.m, .int .i64 t.s, .int .i64 t.t] 0 _ hn0⟩, Nat.le_refl _, puts_blk _ [.bool t.v, .bool t.p, .int .i64 (atV t.o t.a), .int .i64 t.m, .int .i64 t.s, .int .i64 t.t] HBQ.out rfl⟩
      case rest =>
        obtain ⟨py, rfl, rfl, rfl, hat, hpy, hby⟩ := hcut
        have hk4 := heldS_turns hat.2 hxp hbp hh
        obtain ⟨_, hl4, hb4, _, _, _, _, _, _, q0, _, _, _⟩ := hk4
        have hbx : Blk wc px [.bool x0, .bool x1, .int .i64 x2, .int .i64 x3, .int .i64 x4, .int .i64 x5].toArray XG := hat.2.blk HX.out hxp
        obtain ⟨_, f0, f1, f2, f3, f4, f5⟩ := six hbx
        obtain ⟨⟨y0, y1, y2, y3, y4, y5⟩, _⟩ := six hby
        have hw5 : Blk (puts wc px 0 [.bool t.v, .bool t.p, .int .i64 (atV t.o t.a), .int .i64 t.m, .int .i64 t.s, .int .i64 t.t]) px (rx t) XG := puts_blk _ _ hbx rfl
        have hs5 : Gt (puts wc px 0 [.bool t.v, .bool t.p, .int .i64 (atV t.o t.a), .int .i64 t.m, .int .i64 t.s, .int .i64 t.t]) p t := puts_other hxp _ _ _ hat.1
        have hn5 : New w (puts wc px 0 [.bool t.v, .bool t.p, .int .i64 (atV t.o t.a), .int .i64 t.m, .int .i64 t.s, .int .i64 t.t]) := puts_turns (.inr (by omega)) _ 0 _ (new_at HN.out hat hle')
        have hc5 : (puts wc px 0 [.bool t.v, .bool t.p, .int .i64 (atV t.o t.a), .int .i64 t.m, .int .i64 t.s, .int .i64 t.t]).cell? ⟨b, off + k * 4, none⟩ = some (.int .i64 kd) :=
          ((puts_turns (S := (· = px)) (.inl rfl) [.bool t.v, .bool t.p, .int .i64 (atV t.o t.a), .int .i64 t.m, .int .i64 t.s, .int .i64 t.t] 0 wc (Turns.refl _ wc)).cell (a := ⟨b, off + k * 4, none⟩) hb4 (by show ¬ b = px; omega)).trans q0
        have HS : Hid (Sn w (puts wc px 0 [.bool t.v, .bool t.p, .int .i64 (atV t.o t.a), .int .i64 t.m, .int .i64 t.s, .int .i64 t.t]) (k + 1) p px false t) := Lib.hid ⟨HT.out.1, HT.out.2.1, hs5, hw5, hn5, hle', hlp⟩
        clear hw5 hs5 hn5 hby hbx hh hat q0 hl4 hb4 HX HN HD HG
        go_upto_region 10 with fail
        refine (show Code.wp _ _ _ _ (puts wc px 0 [.bool t.v, .bool t.p, .int .i64 (atV t.o t.a), .int .i64 t.m, .int .i64 t.s, .int .i64 t.t]) from ?_)
        generalize puts wc px 0 [.bool t.v, .bool t.p, .int .i64 (atV t.o t.a), .int .i64 t.m, .int .i64 t.s, .int .i64 t.t] = w5 at *
        have HQ := Lib.hid (needs p t w5 HS.out.gt)
        rw [sound_needs HT.out.1] at HQ
        have HP := Lib.hid (paused p t w5 HS.out.gt)
        clear f0 f1 f2 f3 f4 f5 y0 y1 y2 y3 y4 y5
        generalize t.p = tp at *
        go_wp2_with fail
        refine HQ.out.mono ?_
        rintro e w6 ⟨rfl, rfl⟩
        by_cases hk1 : kd = 1
        · have hBq := HT.out.2.2 hk1
          subst hBq hk1
          clear HQ HT
          cases tp
          all_goals
            simp only [Bool.not_false, Bool.not_true]
            go_wp2_with ((go_at_call 12; (with_reducible refine (HP.out).mono ?_); rintro e w' ⟨rfl, rfl⟩))
            go_roundw
            case rel => exact ⟨k + 1, _, by omega, by omega, by go_num, HS.out⟩
            case measure => simp [intOf]; omega
        · have hkd : (kd == 1) = false := by simpa using hk1
          clear HQ HT
          go_wp2
          go_roundw
          case rel => exact ⟨k + 1, _, by omega, by omega, by go_num, HS.out⟩
          case measure => simp [intOf]; omega
    · by_cases hlt : k < n
      · have hlt2 : ¬ k < 100 := by omega
        go_wp2
        go_ret
        exact ⟨rfl, hsn.n.below (Nat.le_refl _) (fun _ _ h => h.elim)⟩
      · go_wp2
        go_ret
        exact ⟨rfl, hsn.n.below (Nat.le_refl _) (fun _ _ h => h.elim)⟩
end Go.Proofs.Ytmnaldfknhnacaa.gat
