/-
  ExtendPlays: any numbers.
-/
import Derived.Test.YtgppddmfdhpaiaaExtTwo
import Derived.Test.YtgppddmfdhpaiaaPuts
import Derived.Deep.RegionHeld3
import Derived.Deep.QuietTactic
import Derived.BigQuiet
import Derived.Deep.DeepCutAuto
import Derived.Outline
namespace Go.Proofs.Ytgppddmfdhpaiaa.ext
open Go.RowKit mem ser
set_option linter.unusedVariables false

abbrev XR : TypeId := 28

/-- what the region of the reference's call holds on to -/
abbrev HeldX (w w' : World) (px b o : Nat) (a0 a1 a2 a3 a4 c : Value) : Prop :=
  New w w' ∧ px < w'.heap.size ∧ b < w'.heap.size ∧ w'.cell? ⟨px, 0, none⟩ = some a0 ∧ w'.cell? ⟨px, 1, none⟩ = some a1 ∧ w'.cell? ⟨px, 2, none⟩ = some a2 ∧ w'.cell? ⟨px, 3, none⟩ = some a3 ∧ w'.cell? ⟨px, 4, none⟩ = some a4 ∧ w'.cell? ⟨b, o, none⟩ = some c
theorem heldX_drew {w w' : World} {px b o : Nat} {a0 a1 a2 a3 a4 c : Value} (h : HeldX w w' px b o a0 a1 a2 a3 a4 c) : HeldX w w'.drew px b o a0 a1 a2 a3 a4 c := by
  obtain ⟨hn, h⟩ := h
  exact ⟨hn.drew, h⟩
theorem heldX_new {w w1 w2 : World} {px b o : Nat} {a0 a1 a2 a3 a4 c : Value} (k : New w1 w2) (h : HeldX w w1 px b o a0 a1 a2 a3 a4 c) : HeldX w w2 px b o a0 a1 a2 a3 a4 c := by
  obtain ⟨hn, hl, hb, h0, h1, h2, h3, h4, h5⟩ := h
  have c := fun i => k.cell (a := ⟨px, i, none⟩) hl (fun h => h)
  exact ⟨hn.trans (k.mono (fun _ _ h => h.elim)), Nat.lt_of_lt_of_le hl k.size, Nat.lt_of_lt_of_le hb k.size, (c 0).trans h0, (c 1).trans h1, (c 2).trans h2, (c 3).trans h3, (c 4).trans h4, (k.cell (a := ⟨b, o, none⟩) hb (fun h => h)).trans h5⟩
theorem heldX_alloc {w w1 : World} {px b o : Nat} {a0 a1 a2 a3 a4 c : Value} (x : Obj) (h : HeldX w w1 px b o a0 a1 a2 a3 a4 c) : HeldX w (w1.alloc x) px b o a0 a1 a2 a3 a4 c :=
  heldX_new ((Turns.refl _ _).alloc x) h

theorem new_of_y {w W wq : World} (h : New W wq) (k : New w W) : New w wq := k.trans (h.mono (fun _ _ h => h.elim))
theorem new_yb {w W wq : World} (h : New W wq) (hW : W.heap = (w.alloc (.cells #[.bool false, .int .i64 0, .int .i64 0, .int .i64 0, .int .i64 0] XR)).heap) : Blk wq w.heap.size [.bool false, .int .i64 0, .int .i64 0, .int .i64 0, .int .i64 0].toArray XR := by
  have h0 : Blk W w.heap.size #[.bool false, .int .i64 0, .int .i64 0, .int .i64 0, .int .i64 0] XR := by
    unfold Blk; rw [hW]; exact Blk.new w _ _
  exact h.blk h0 (fun h => h)
theorem new_y {w W wq : World} (h : New W wq) (hW : W.heap = (w.alloc (.cells #[.bool false, .int .i64 0, .int .i64 0, .int .i64 0, .int .i64 0] XR)).heap) :
    wq.cell? ⟨w.heap.size, 0, none⟩ = some (.bool false) ∧ wq.cell? ⟨w.heap.size, 1, none⟩ = some (.int .i64 0) ∧ wq.cell? ⟨w.heap.size, 2, none⟩ = some (.int .i64 0) ∧ wq.cell? ⟨w.heap.size, 3, none⟩ = some (.int .i64 0) ∧ wq.cell? ⟨w.heap.size, 4, none⟩ = some (.int .i64 0)
    ∧ wq.frozen? ⟨w.heap.size, 0, none⟩ = false ∧ wq.frozen? ⟨w.heap.size, 1, none⟩ = false ∧ wq.frozen? ⟨w.heap.size, 2, none⟩ = false ∧ wq.frozen? ⟨w.heap.size, 3, none⟩ = false ∧ wq.frozen? ⟨w.heap.size, 4, none⟩ = false := by
  have h0 : Blk W w.heap.size #[.bool false, .int .i64 0, .int .i64 0, .int .i64 0, .int .i64 0] XR := by
    unfold Blk; rw [hW]; exact Blk.new w _ _
  have hb : Blk wq w.heap.size _ XR := h.blk h0 (fun h => h)
  exact ⟨hb.cell 0, hb.cell 1, hb.cell 2, hb.cell 3, hb.cell 4, hb.free 0, hb.free 1, hb.free 2, hb.free 3, hb.free 4⟩

def Yx (w3 : World) (q : Q) (A : Int) (O : Bool) (v8 v9 v10 : Value) (wx : World) : Prop :=
  ∃ py, v8 = .pointer (some ⟨py, 0, none⟩) ∧ v9 = .int .i64 A ∧ v10 = .bool O ∧ New w3 wx ∧ w3.heap.size ≤ py ∧ Blk wx py (rx q) XR

/-- what the loop holds -/
structure Pl (w wr : World) (z : Nat → Int) (k p px : Nat) : Prop where
  s : Sq wr p (runs z k)
  x : Blk wr px (rx (runs z k)) XR
  n : New w wr
  le : w.heap.size ≤ p
  lt : p < px

theorem Pl.drewN {w wr : World} {z : Nat → Int} {k p px : Nat} (h : Pl w wr z k p px) (n : Nat) : Pl w (wr.drewN n) z k p px := ⟨h.s.drewN n, h.x.drewN n, h.n.drewN n, h.le, h.lt⟩
theorem rx_zero : rx zero = #[.bool false, .int .i64 0, .int .i64 (-1), .int .i64 0, .int .i64 0] := rfl
theorem runs_j (z : Nat → Int) (k : Nat) (hk : k ≤ 1000) (h : ∀ i, i < k → 0 ≤ z i ∧ z i ≤ 65535) : (runs z k).m = 0 → (runs z k).j = 0 ∧ (runs z k).r = 0 := by
  intro h0
  rcases runs_m z k hk h with rfl | h1
  · exact ⟨rfl, rfl⟩
  · omega
theorem putAt_mod (s : Q) (n : Int) (h0 : 0 ≤ n) (h1 : n ≤ 65535) (hk : putOk s n = true) : putAt s n % 65536 = n := by
  unfold putOk at hk
  unfold putAt
  split at hk
  · rename_i h; rw [if_pos h]; omega
  · rename_i h
    rw [if_neg h]
    split at hk
    · rename_i h2; rw [if_pos h2]; unfold nearv sd; split <;> omega
    · rename_i h2
      rw [if_neg h2]
      split at hk
      · simp at hk
      · rename_i h3; rw [if_neg h3]; unfold leap; omega

theorem rput_is (s : Q) (n : Int) (t : Q) (ht : put s n = t) (w : World) (ho : s.ok) (hj : s.m = 0 → s.j = 0 ∧ s.r = 0) (hn0 : 0 ≤ n) (hn1 : n ≤ 65535) :
    Calls Try.prog 15 #[.agg (rx s), .int .i64 n] w fun e w' => e = .returned (.tuple #[.agg (rx t), .int .i64 (putAt s n), .bool (putOk s n)]) ∧ New w w' := by
  subst ht
  exact rput s n w ho hj hn0 hn1

set_option maxRecDepth 100000 in
set_option maxHeartbeats 2000000 in
theorem plays_law (a : Option Addr) (n c : Nat) (z : Nat → Int) (w : World) (hz : args.IntRow .u16 w a n c z) :
    Calls Try.prog 3 #[.slice a n c] w fun e w' => e = .returned (.bool true) ∧ Below w.heap.size w w' := by
  obtain ⟨hn, hwf, hcell⟩ := hz
  unfold maxLen at hn
  have hbd : ∀ i, i < n → 0 ≤ z i ∧ z i ≤ 65535 := fun i hi => bounds_u16 (hwf i hi)
  have HB := Lib.hid hbd
  have HC := Lib.hid hcell
  clear hwf hcell hbd
  go_enter Try.func3, Try.ntmps3
  go_wp2_with fail
  refine (awake w).mono ?_
  rintro e w1 ⟨rfl, h1⟩
  go_wp2_with fail
  have hpl : Pl w ((w1.alloc (.cells #[.int .i64 0, .int .i64 0, .int .u16 0, .int .i64 0] 26)).alloc (.cells #[.bool false, .int .i64 0, .int .i64 (-1), .int .i64 0, .int .i64 0] 28)) z 0 w1.heap.size (w1.heap.size + 1) := by
    have h2 := Blk.new (w1.alloc (.cells #[.int .i64 0, .int .i64 0, .int .u16 0, .int .i64 0] 26)) #[.bool false, .int .i64 0, .int .i64 (-1), .int .i64 0, .int .i64 0] XR
    rw [World.size_alloc] at h2
    exact ⟨(sq_new w1).alloc _, h2, (h1.alloc _).alloc _, h1.size, by omega⟩
  generalize ((w1.alloc (.cells #[.int .i64 0, .int .i64 0, .int .u16 0, .int .i64 0] 26)).alloc (.cells #[.bool false, .int .i64 0, .int .i64 (-1), .int .i64 0, .int .i64 0] 28)) = w2 at *
  generalize w1.heap.size + 1 = px at *
  generalize w1.heap.size = p at *
  have HP0 := Lib.hid hpl
  clear hpl h1
  go_loopw [5] (fun i wr => ∃ k : Nat, k ≤ n ∧ k ≤ 300 ∧ i = .int .i64 k ∧ Pl w wr z k p px) (fun i _ => n - (intOf i).toNat)
  case atStart => exact ⟨0, Nat.zero_le _, by omega, rfl, HP0.out⟩
  case round =>
    obtain ⟨k, hk, hk300, rfl, h3⟩ := hrel
    clear HP0
    by_cases hgo : k < n ∧ k < 300
    · obtain ⟨hlt, hlt2⟩ := hgo
      obtain ⟨b, off, rfl, hb, hcell⟩ := HC.out.resolve_left (by omega)
      have hck := hcell k hlt
      have hzb := HB.out k hlt
      obtain ⟨z0, z1⟩ := hzb
      have hok := Lib.hid ((runs_upto z k (by omega) (fun i hi => HB.out i (by omega))).ok (by omega))
      have hj := Lib.hid (runs_j z k (by omega) (fun i hi => HB.out i (by omega)))
      obtain ⟨hs, hx, hnw, hle, hlp⟩ := h3
      have hpl := hs.lt
      have hxl := hx.lt
      have hck1 : wr.cell? ⟨b, off + k, none⟩ = some (.int .u16 (z k)) := (hnw.cell hb (fun h => h)).trans hck
      have HP := Lib.hid (put_is p (runs z k) (z k) (runs z (k + 1)) _ _ ⟨rfl, rfl, rfl⟩ wr hs hok.out z0 z1)
      have HR := Lib.hid (fun w => rput_is (runs z k) (z k) (runs z (k + 1)) rfl w hok.out hj.out z0 z1)
      have hmod := Lib.hid (putAt_mod (runs z k) (z k) z0 z1)
      have HCK := Lib.hid hck
      clear hcell HC HB hck hok hj hs
      go_wp2_with fail
      refine HP.out.mono ?_
      rintro e w3 ⟨rfl, h31, h32⟩
      have hx3 := h32.blk hx (by omega)
      have n3 : New w w3 := hnw.trans (h32.mono (fun j _ h => .inr (by omega)))
      have hck3 : w3.cell? ⟨b, off + k, none⟩ = some (.int .u16 (z k)) := (h32.cell (a := ⟨b, off + k, none⟩) (by show b < _; omega) (by show ¬ b = p; omega)).trans hck1
      have hs3 := h32.size
      clear hx HP hck1 hnw h32
      go_upto_region 9 with fail
      obtain ⟨q, hq⟩ : ∃ q, q = runs z (k + 1) := ⟨_, rfl⟩
      rw [← hq] at h31 HR
      have HQ := Lib.hid hq
      have hh : HeldX w3 w3 px b (off + k) (.bool ((runs z k).m != 0)) (.int .i64 (runs z k).m) (.int .i64 (awaitV (runs z k))) (.int .i64 (runs z k).r) (.int .i64 (runs z k).j) (.int .u16 (z k)) :=
        ⟨Turns.refl _ _, by omega, by omega, hx3.cell 0, hx3.cell 1, hx3.cell 2, hx3.cell 3, hx3.cell 4, hck3⟩
      have hbx3 : Hid (Blk w3 px [.bool ((runs z k).m != 0), .int .i64 (runs z k).m, .int .i64 (awaitV (runs z k)), .int .i64 (runs z k).r, .int .i64 (runs z k).j].toArray XR) := Lib.hid hx3
      clear hx3 hck3 hq
      unfold rx at HR
      generalize putAt (runs z k) (z k) = A at *
      generalize putOk (runs z k) (z k) = O at *
      generalize ((runs z k).m != 0) = x0 at *
      generalize (runs z k).m = x1 at *
      generalize awaitV (runs z k) = x2 at *
      generalize (runs z k).r = x3 at *
      generalize (runs z k).j = x4 at *
      have HS := Lib.hid h31
      clear h31
      go_cut [8, 9, 10] (fun v8 v9 v10 wx => Yx w3 q A O v8 v9 v10 wx)
      case first =>
        have kn : (k : Int) < (n : Int) := by omega
        have k0 : (0 : Int) ≤ (k : Int) := by omega
        have s1 : IntKind.i64.wrap (z k) = z k := IntWalk.i64_in _ (by omega)
        clear HQ HS hmod n3
        have HH := Lib.hid hh
        go_region_held3 (fun w' => New w3 w' ∧ px < w'.heap.size ∧ b < w'.heap.size ∧ w'.cell? ⟨px, 0, none⟩ = some (.bool x0) ∧ w'.cell? ⟨px, 1, none⟩ = some (.int .i64 x1) ∧ w'.cell? ⟨px, 2, none⟩ = some (.int .i64 x2) ∧ w'.cell? ⟨px, 3, none⟩ = some (.int .i64 x3) ∧ w'.cell? ⟨px, 4, none⟩ = some (.int .i64 x4) ∧ w'.cell? ⟨b, off + k, none⟩ = some (.int .u16 (z k)))
          (first
            | (with_reducible assumption)
            | ((with_reducible refine heldX_drew ?_); with_reducible assumption)
            | ((with_reducible refine heldX_alloc _ ?_); with_reducible assumption)
            | ((with_reducible refine heldX_drew (heldX_alloc _ ?_)); with_reducible assumption)
            | ((with_reducible refine heldX_new hnq ?_); with_reducible assumption)
            | ((with_reducible refine heldX_new ?_ HH.out); (repeat (first | (with_reducible refine Turns.alloc ?_ _) | (with_reducible refine Turns.drew ?_) | (with_reducible refine Turns.setCell ?_ (.inr (Nat.le_refl _)) _))); (with_reducible refine new_of_y hnq ?_); (repeat (first | (with_reducible refine Turns.alloc ?_ _) | (with_reducible refine Turns.drew ?_))); exact Turns.refl _ _))
          ((go_at_call 15; (with_reducible refine Calls.mono (HR.out _) ?_); rintro en wq ⟨rfl, hnq⟩; (first | (have hpy := new_y hnq rfl; obtain ⟨y0, y1, y2, y3, y4, g0, g1, g2, g3, g4⟩ := hpy) | skip)))
        · go_wp2_with fail
          go_meet
          case rel => exact ⟨_, rfl, rfl, rfl, (Turns.of_drew hnq).alloc _, hnq.size, Blk.new _ _ _⟩
        · have hbq := new_yb hnq rfl
          have hn0 : New w3 wq := new_of_y hnq (by (repeat (first | (with_reducible refine Turns.alloc ?_ _) | (with_reducible refine Turns.drew ?_))); exact Turns.refl _ _)
          have HBQ := Lib.hid hbq
          clear hbq
          go_wp2_with fail
          go_meet
          case rel => exact ⟨_, rfl, rfl, rfl, puts_turns (.inr (Nat.le_refl _)) [.bool (q.m != 0), .int .i64 q.m, .int .i64 (awaitV q), .int .i64 q.r, .int .i64 q.j] 0 _ hn0, Nat.le_refl _, puts_blk _ [.bool (q.m != 0), .int .i64 q.m, .int .i64 (awaitV q), .int .i64 q.r, .int .i64 q.j] HBQ.out rfl⟩
      case rest =>
        obtain ⟨py, rfl, rfl, rfl, n34, hpy, hby⟩ := hcut
        have hk4 := heldX_new n34 hh
        obtain ⟨_, hl4, hb4, x40, x41, x42, x43, x44, hc4⟩ := hk4
        have hbx : Blk wc px [.bool x0, .int .i64 x1, .int .i64 x2, .int .i64 x3, .int .i64 x4].toArray XR := n34.blk hbx3.out (fun h => h)
        have g0 := hbx.free 0
        have g1 := hbx.free 1
        have g2 := hbx.free 2
        have g3 := hbx.free 3
        have g4 := hbx.free 4
        have y0 : wc.cell? ⟨py, 0, none⟩ = some (.bool (q.m != 0)) := hby.cell 0
        have y1 : wc.cell? ⟨py, 1, none⟩ = some (.int .i64 q.m) := hby.cell 1
        have y2 : wc.cell? ⟨py, 2, none⟩ = some (.int .i64 (awaitV q)) := hby.cell 2
        have y3 : wc.cell? ⟨py, 3, none⟩ = some (.int .i64 q.r) := hby.cell 3
        have y4 : wc.cell? ⟨py, 4, none⟩ = some (.int .i64 q.j) := hby.cell 4
        have hw5 : Blk (puts wc px 0 [.bool (q.m != 0), .int .i64 q.m, .int .i64 (awaitV q), .int .i64 q.r, .int .i64 q.j]) px (rx q) XR := puts_blk _ _ hbx rfl
        have hs5 : Sq (puts wc px 0 [.bool (q.m != 0), .int .i64 q.m, .int .i64 (awaitV q), .int .i64 q.r, .int .i64 q.j]) p q := puts_other (by omega) _ _ _ (n34.blk HS.out (fun h => h))
        have hn5 : New w (puts wc px 0 [.bool (q.m != 0), .int .i64 q.m, .int .i64 (awaitV q), .int .i64 q.r, .int .i64 q.j]) := puts_turns (.inr (by omega)) _ 0 _ (n3.trans (n34.mono (fun _ _ h => h.elim)))
        have H5 := Lib.hid (And.intro hw5 (And.intro hs5 hn5))
        clear hw5 hs5 hn5 hby hbx HS HR hh n34 n3 hs3 hpl hxl
        go_upto_region 11 with fail
        refine (show Code.wp _ _ _ _ (puts wc px 0 [.bool (q.m != 0), .int .i64 q.m, .int .i64 (awaitV q), .int .i64 q.r, .int .i64 q.j]) from ?_)
        generalize puts wc px 0 [.bool (q.m != 0), .int .i64 q.m, .int .i64 (awaitV q), .int .i64 q.r, .int .i64 q.j] = w5 at *
        obtain ⟨hx5, hs5, hn5⟩ := H5.out
        have d1 : w5.cell? ⟨px, 1, none⟩ = some (.int .i64 q.m) := hx5.cell 1
        have d4 : w5.cell? ⟨px, 4, none⟩ = some (.int .i64 q.j) := hx5.cell 4
        have hc5 : w5.cell? ⟨b, off + k, none⟩ = some (.int .u16 (z k)) := (hn5.cell hb (fun h => h)).trans (HCK.out)
        have HM := Lib.hid (fun nq => (most p q (w5.drewN nq) (hs5.drewN nq)).mono (fun _ _ h => And.intro h.1 h.2.symm))
        have HJ := Lib.hid (fun nq => (jumps p q (w5.drewN nq) (hs5.drewN nq)).mono (fun _ _ h => And.intro h.1 h.2.symm))
        have HP5 : Hid (Pl w w5 z (k + 1) p px) := Lib.hid ⟨by rw [← HQ.out]; exact hs5, by rw [← HQ.out]; exact hx5, hn5, hle, hlp⟩
        clear hx5 hs5 hn5 H5 HQ
        have kn : (k : Int) < (n : Int) := by omega
        have k0 : (0 : Int) ≤ (k : Int) := by omega
        generalize q.m = qm at *
        generalize q.j = qj at *
        have e1 : O = true → IntKind.u16.wrap A = z k := fun h => by rw [w16]; exact hmod.out h
        cases O
        · clear e1
          go_quiet ((first
            | (go_at_call 16; exact Calls.quiet_of_same (HM.out _))
            | (go_at_call 17; exact Calls.quiet_of_same (HJ.out _))))
          go_wp2
          go_roundw
          case rel => exact ⟨k + 1, by omega, by omega, by go_num, HP5.out.drewN _⟩
          case measure => simp [intOf]; omega
        · have e2 := e1 rfl
          clear e1
          go_quiet ((first
            | (go_at_call 16; exact Calls.quiet_of_same (HM.out _))
            | (go_at_call 17; exact Calls.quiet_of_same (HJ.out _))))
          go_wp2
          go_roundw
          case rel => exact ⟨k + 1, by omega, by omega, by go_num, HP5.out.drewN _⟩
          case measure => simp [intOf]; omega
    · by_cases hlt : k < n
      · have hlt2 : ¬ k < 300 := by omega
        go_wp2
        go_ret
        exact ⟨rfl, h3.n.below (Nat.le_refl _) (fun _ _ h => h.elim)⟩
      · go_wp2
        go_ret
        exact ⟨rfl, h3.n.below (Nat.le_refl _) (fun _ _ h => h.elim)⟩
end Go.Proofs.Ytgppddmfdhpaiaa.ext
