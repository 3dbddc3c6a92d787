/-
  RewriteTimes: the distances of times are kept.
-/
import Derived.Test.YtijpgkkhjjpjoaaRewAwake
import Derived.Test.YtijpgkkhjjpjoaaArgs
import Derived.Test.YtijpgkkhjjpjoaaMask
namespace Go.Proofs.Ytijpgkkhjjpjoaa.rew
open Go.RowKit mem
set_option linter.unusedVariables false

theorem w32 (n : Int) : IntKind.u32.wrap n = n % 4294967296 := by simp [IntKind.wrap, IntKind.bits, IntKind.signed]
/-- a unit of sounds at a time -/
def un (t : Int) (x : ByteArray) : U := ⟨0, t, false, false, false, x, 0⟩
theorem one_last (o : O) (s t : Int) (x : ByteArray) (hv : o.v = false) (hl : lastB o s = true) (hm : o.lat ≤ t) :
    frameO o s [un t x] = { o with lat := t, seq := IntKind.u16.wrap (o.seq + 1), pk := o.pk + 1, by_ := o.by_ + x.size, fr := o.fr + 1 } ∧ frameK o s [un t x] = [⟨false, o.kind, o.seq, shV o t, o.ssrc, x⟩] := by
  have e1 : timeO o s t = { o with lat := t } := by unfold timeO; rw [if_pos hl, show max o.lat t = t by omega]
  have e2 : timeV o s t = shV o t := by unfold timeV; rw [if_pos hl, show max o.lat t = t by omega]
  have e3 : midO o s (un t x) = { o with lat := t } := by unfold midO; rw [if_neg (by rw [hv]; decide)]; exact e1
  have e4 : ∀ q : O, q.v = false → pay q x = x := fun q hq => by unfold pay; rw [if_neg (by rw [hq]; decide)]
  constructor
  · show { packO (midO o s (un t x)) (un t x) with fr := o.fr + 1 } = _
    rw [e3]
    unfold packO
    simp only [un, e4, hv]
  · show [packK (midO o s (un t x)) (un t x) (timeV o s t)] = _
    rw [e2, e3]
    unfold packK
    simp only [un, e4, hv]
theorem one_first (o : O) (s t : Int) (x : ByteArray) (hv : o.v = false) (hl : o.fr = 0) :
    frameO o s [un t x] = { o with src := s, lat := t, seq := IntKind.u16.wrap (o.seq + 1), pk := o.pk + 1, by_ := o.by_ + x.size, fr := o.fr + 1 } ∧ frameK o s [un t x] = [⟨false, o.kind, o.seq, shV o t, o.ssrc, x⟩] := by
  have hl2 : ¬ lastB o s = true := by unfold lastB; rw [hl]; simp
  have e1 : timeO o s t = { o with src := s, lat := t } := by unfold timeO; rw [if_neg hl2, if_neg (by omega)]
  have e2 : timeV o s t = shV o t := by unfold timeV; rw [if_neg hl2, e1]; rfl
  have e3 : midO o s (un t x) = { o with src := s, lat := t } := by unfold midO; rw [if_neg (by rw [hv]; decide)]; exact e1
  have e4 : ∀ q : O, q.v = false → pay q x = x := fun q hq => by unfold pay; rw [if_neg (by rw [hq]; decide)]
  constructor
  · show { packO (midO o s (un t x)) (un t x) with fr := o.fr + 1 } = _
    rw [e3]
    unfold packO
    simp only [un, e4, hv]
  · show [packK (midO o s (un t x)) (un t x) (timeV o s t)] = _
    rw [e2, e3]
    unfold packK
    simp only [un, e4, hv]
theorem one_other (o : O) (s t : Int) (x : ByteArray) (hv : o.v = false) (hl : 0 < o.fr) (hs : o.src ≠ s) :
    frameO o s [un t x] = { o with src := s, lat := t, sh := (shV o o.lat + 3000 - t) % 4294967296, seq := IntKind.u16.wrap (o.seq + 1), pk := o.pk + 1, by_ := o.by_ + x.size, fr := o.fr + 1 } ∧ frameK o s [un t x] = [⟨false, o.kind, o.seq, (t % 4294967296 + (shV o o.lat + 3000 - t) % 4294967296) % 4294967296, o.ssrc, x⟩] := by
  have hl2 : ¬ lastB o s = true := by unfold lastB; simp [hs]
  have e1 : timeO o s t = { o with src := s, lat := t, sh := (shV o o.lat + 3000 - t) % 4294967296 } := by unfold timeO; rw [if_neg hl2, if_pos hl]
  have e2 : timeV o s t = (t % 4294967296 + (shV o o.lat + 3000 - t) % 4294967296) % 4294967296 := by unfold timeV; rw [if_neg hl2, e1]; rfl
  have e3 : midO o s (un t x) = { o with src := s, lat := t, sh := (shV o o.lat + 3000 - t) % 4294967296 } := by unfold midO; rw [if_neg (by rw [hv]; decide)]; exact e1
  have e4 : ∀ q : O, q.v = false → pay q x = x := fun q hq => by unfold pay; rw [if_neg (by rw [hq]; decide)]
  constructor
  · show { packO (midO o s (un t x)) (un t x) with fr := o.fr + 1 } = _
    rw [e3]
    unfold packO
    simp only [un, e4, hv]
  · show [packK (midO o s (un t x)) (un t x) (timeV o s t)] = _
    rw [e2, e3]
    unfold packK
    simp only [un, e4, hv]

/-- the stream behind k frames, the last one at A -/
def ST (k : Nat) (A : Int) : O := if k = 0 then ⟨false, 1, 1, 1, -1, -1, 0, 0, 0, 0, 0, 0⟩ else ⟨false, 1, 1, 1 + k, -1, -1, 7, A, 0, k, k, k⟩
theorem ST_zero (A : Int) : ST 0 A = ⟨false, 1, 1, 1, -1, -1, 0, 0, 0, 0, 0, 0⟩ := rfl
theorem ST_succ (k : Nat) (A : Int) : ST (k + 1) A = ⟨false, 1, 1, 1 + ((k + 1 : Nat) : Int), -1, -1, 7, A, 0, ((k + 1 : Nat) : Int), ((k + 1 : Nat) : Int), ((k + 1 : Nat) : Int)⟩ := rfl
theorem ST_bd (k : Nat) (A : Int) (hk : k ≤ 100) : Bd (ST k A) k k := by
  cases k with
  | zero => rw [ST_zero]; exact ⟨by decide, by decide, by decide, by decide, by decide, by decide, by decide, by decide, by decide, by decide, by decide, by decide⟩
  | succ k =>
    rw [ST_succ]
    refine ⟨?_, ?_, Int.le_refl (-1), (by decide : (-1 : Int) ≤ 32767), Int.le_refl (-1), (by decide : (-1 : Int) ≤ 255), ?_, ?_, ?_, ?_, ?_, ?_⟩ <;> simp only <;> omega
theorem ST_next (k : Nat) (A B : Int) (hk : k ≤ 50) (h0 : 0 ≤ B) (h1 : B < 4294967296) (hAB : 0 < k → A ≤ B) :
    frameO (ST k A) 7 [un B xs] = ST (k + 1) B ∧ frameK (ST k A) 7 [un B xs] = [⟨false, 1, 1 + k, B, 1, xs⟩] := by
  cases k with
  | zero =>
    have h := one_first (ST 0 A) 7 B xs rfl rfl
    have e : shV (ST 0 A) B = B := by show (B % 4294967296 + 0) % 4294967296 = B; omega
    rw [h.1, h.2, e]
    exact ⟨rfl, rfl⟩
  | succ k =>
    have h := one_last (ST (k + 1) A) 7 B xs rfl (by rw [ST_succ]; unfold lastB; simp only [beq_self_eq_true, Bool.and_true, decide_eq_true_eq]; omega) (hAB (by omega))
    have e : shV (ST (k + 1) A) B = B := by show (B % 4294967296 + 0) % 4294967296 = B; omega
    rw [h.1, h.2, e]
    rw [ST_succ, ST_succ]
    have e1 : IntKind.u16.wrap (1 + ((k + 1 : Nat) : Int) + 1) = 1 + ((k + 1 + 1 : Nat) : Int) := by rw [w16]; omega
    have e2 : ((k + 1 : Nat) : Int) + 1 = ((k + 1 + 1 : Nat) : Int) := by omega
    have e3 : ((k + 1 : Nat) : Int) + (xs.size : Int) = ((k + 1 + 1 : Nat) : Int) := by show ((k + 1 : Nat) : Int) + 1 = _; omega
    simp only [e1, e2, e3]
    exact ⟨trivial, trivial⟩

def zs : ByteArray := ⟨#[122]⟩
/-- behind them a frame of another source, at d -/
def SX (k : Nat) (A d : Int) : O := ⟨false, 1, 1, 1 + ((k + 1 + 1 : Nat) : Int), -1, -1, 8, d, (A + 3000 - d) % 4294967296, ((k + 1 + 1 : Nat) : Int), ((k + 1 + 1 : Nat) : Int), ((k + 1 + 1 : Nat) : Int)⟩
theorem SX_bd (k : Nat) (A d : Int) (hk : k ≤ 100) : Bd (SX k A d) (k + 2) (k + 2) := by
  refine ⟨?_, ?_, Int.le_refl (-1), (by decide : (-1 : Int) ≤ 32767), Int.le_refl (-1), (by decide : (-1 : Int) ≤ 255), ?_, ?_, ?_, ?_, ?_, ?_⟩ <;> unfold SX <;> simp only <;> omega
theorem ST_other (k : Nat) (A d : Int) (hk : k ≤ 100) (h0 : 0 ≤ A) (h1 : A ≤ 100000000) (d0 : 0 ≤ d) (d1 : d ≤ 16777215) :
    frameO (ST (k + 1) A) 8 [un d ys] = SX k A d ∧ frameK (ST (k + 1) A) 8 [un d ys] = [⟨false, 1, 1 + ((k + 1 : Nat) : Int), A + 3000, 1, ys⟩] := by
  have h := one_other (ST (k + 1) A) 8 d ys rfl (by rw [ST_succ]; simp only; omega) (by show (7 : Int) ≠ 8; decide)
  have hsv : shV (ST (k + 1) A) (ST (k + 1) A).lat = A := by show (A % 4294967296 + 0) % 4294967296 = A; omega
  rw [hsv] at h
  have et : (d % 4294967296 + (A + 3000 - d) % 4294967296) % 4294967296 = A + 3000 := by omega
  rw [et] at h
  rw [h.1, h.2]
  unfold SX
  rw [ST_succ]
  have e1 : IntKind.u16.wrap (1 + ((k + 1 : Nat) : Int) + 1) = 1 + ((k + 1 + 1 : Nat) : Int) := by rw [w16]; omega
  have e2 : ((k + 1 : Nat) : Int) + 1 = ((k + 1 + 1 : Nat) : Int) := by omega
  have e3 : ((k + 1 : Nat) : Int) + (ys.size : Int) = ((k + 1 + 1 : Nat) : Int) := by show ((k + 1 : Nat) : Int) + 1 = _; omega
  simp only [e1, e2, e3]
  exact ⟨trivial, trivial⟩
theorem SX_next (k : Nat) (A d : Int) (hk : k ≤ 100) (h0 : 0 ≤ A) (h1 : A ≤ 100000000) (d0 : 0 ≤ d) (d1 : d ≤ 16777215) :
    frameO (SX k A d) 8 [un (d + 77) zs] = frameO (SX k A d) 8 [un (d + 77) zs] ∧ frameK (SX k A d) 8 [un (d + 77) zs] = [⟨false, 1, 1 + ((k + 1 + 1 : Nat) : Int), A + 3000 + 77, 1, zs⟩] := by
  have h := one_last (SX k A d) 8 (d + 77) zs rfl (by unfold SX lastB; simp only [beq_self_eq_true, Bool.and_true, decide_eq_true_eq]; omega) (by show d ≤ d + 77; omega)
  have hsv : shV (SX k A d) (d + 77) = A + 3000 + 77 := by show ((d + 77) % 4294967296 + (A + 3000 - d) % 4294967296) % 4294967296 = _; omega
  rw [hsv] at h
  exact ⟨rfl, h.2⟩

set_option maxHeartbeats 2000000 in
set_option maxRecDepth 100000 in
theorem times_law (a : Option Addr) (n c : Nat) (z : Nat → Int) (b0 : Int) (w : World) (hz : args.IntRow .i64 w a n c z) (_ : -9223372036854775808 ≤ b0) (_ : b0 ≤ 9223372036854775807) :
    Calls Try.prog 6 #[.slice a n c, .int .i64 b0] w fun e w' => e = .returned (.bool true) ∧ Below w.heap.size w w' := by
  obtain ⟨hn, hwf, hcell⟩ := hz
  unfold maxLen at hn
  clear hwf
  have HC := Lib.hid hcell
  clear hcell
  have HN := Lib.hid (fun w => new false 1 1 1 w (by decide))
  go_enter Try.func6, Try.ntmps6
  go_wp2_with fail
  refine (awake w).mono ?_
  rintro e w1 ⟨rfl, h1⟩
  have N1 := Lib.hid h1
  clear h1
  go_wp2_with fail
  refine (HN.out _).mono ?_
  rintro e w2 ⟨rfl, h2, n2⟩
  have hle : w.heap.size ≤ w1.heap.size := N1.out.size
  have N2 : Hid (New w w2) := Lib.hid (N1.out.trans (n2.mono (fun _ _ h => h.elim)))
  have H2 : Hid (Ot w2 w1.heap.size (ST 0 5000)) := Lib.hid h2
  clear n2 HN h2
  generalize w1.heap.size = p at *
  clear N1
  go_wp2_with fail
  go_loopw [6, 7, 8, 9] (fun at' fi la i wr => ∃ k : Nat, ∃ A : Int, k ≤ n ∧ k ≤ 50 ∧ at' = .int .i64 A ∧ fi = .int .u32 (if k = 0 then 0 else 5000) ∧ la = .int .u32 (if k = 0 then 0 else A) ∧ i = .int .i64 k ∧ 5000 ≤ A ∧ A ≤ 5000 + 65535 * k ∧ Ot wr p (ST k A) ∧ New w wr) (fun _ _ _ i _ => n - (intOf i).toNat)
  case atStart => exact ⟨0, 5000, Nat.zero_le _, by omega, rfl, rfl, rfl, rfl, by omega, by omega, H2.out, N2.out⟩
  case round =>
    obtain ⟨k, A, hk, hk50, rfl, rfl, rfl, rfl, hA0, hA1, hst, hnw⟩ := hrel
    clear H2 N2
    by_cases hgo : k < n ∧ k < 50
    · obtain ⟨hlt, hlt2⟩ := hgo
      have hd : decide ((k : Int) < 50) = true := by simp; omega
      have HSt := Lib.hid hst
      have HNw := Lib.hid hnw
      have hpw := hst.lt
      have kn : (k : Int) < (n : Int) := by omega
      clear hst hnw
      cases k with
      | zero =>
        simp only [if_true]
        have hA : A = 5000 := by omega
        subst hA
        have HF := Lib.hid (fun B w => frame1 p (ST 0 5000) 7 B (un 5000 xs) _ _ 0 0 (ST_next 0 5000 5000 (by omega) (by omega) (by omega) (fun _ => by omega)).1 (ST_next 0 5000 5000 (by omega) (by omega) (by omega) (fun _ => by omega)).2 (ST_bd 0 5000 (by omega)) (by omega) (by omega) (by decide +kernel) w)
        go_wp2_with fail
        refine (HF.out _ _ (HSt.out.alloc _) (Blk.new wr _ _) (by omega)).mono ?_
        rintro e w3 ⟨g, c3, rfl, r⟩
        have N3 := Lib.hid (new_at (HNw.out.alloc _) r.a hle)
        have O3 := Lib.hid r.a.1
        have k3 : w3.cell? ⟨g, 3, none⟩ = some (.int .u32 5000) := r.c 3 _ rfl
        clear r HF HSt HNw
        go_wp2
        go_roundw
        case rel => exact ⟨1, 5000, by omega, by omega, rfl, rfl, rfl, by go_num, by omega, by omega, O3.out, N3.out⟩
        case measure => simp [intOf]; omega
      | succ k =>
        obtain ⟨b, off, rfl, hb, hcell⟩ := HC.out.resolve_left (by omega)
        have hck1 : wr.cell? ⟨b, off + (k + 1), none⟩ = some (.int .i64 (z (k + 1))) := (HNw.out.cell hb (fun h => h)).trans (hcell (k + 1) hlt)
        have m1 : bits .and .i64 (z (k + 1)) 65535 = z (k + 1) % 65536 := mask.and_mask (z (k + 1)) 65535 16 (by omega) rfl
        clear hcell HC
        obtain ⟨d, hdd⟩ : ∃ d, z (k + 1) % 65536 = d := ⟨_, rfl⟩
        rw [hdd] at m1
        have d0 : 0 ≤ d := by omega
        have d1 : d ≤ 65535 := by omega
        clear hdd
        generalize z (k + 1) = zk at *
        obtain ⟨B, hB⟩ : ∃ B, A + d = B := ⟨_, rfl⟩
        have wB : IntKind.i64.wrap (A + d) = B := by rw [hB]; exact IntWalk.i64_in _ (by omega)
        have B0 : 5000 ≤ B := by omega
        have B1 : B ≤ 5000 + 65535 * ((k + 1 + 1 : Nat) : Int) := by omega
        have hst := ST_next (k + 1) A B (by omega) (by omega) (by omega) (fun _ => by omega)
        have HF := Lib.hid (fun B' w => frame1 p (ST (k + 1) A) 7 B' (un B xs) _ _ _ _ hst.1 hst.2 (ST_bd (k + 1) A (by omega)) (by omega) (by omega) (by show (1 : Nat) ≤ 1048576; omega) w)
        clear hst
        have kpos : ((k + 1 : Nat) : Int) > 0 := by omega
        have ke : (((k + 1 : Nat) : Int) == 0) = false := beq_eq_false_iff_ne.2 (by omega)
        simp only [Nat.add_eq_zero_iff, Nat.one_ne_zero, and_false, if_false]
        have e5 : IntKind.u32.wrap (B - 5000) = B - 5000 := by rw [w32]; omega
        have e6 : (B - 5000) % 4294967296 = B - 5000 := by omega
        have BB := Lib.hid (And.intro B0 B1)
        have HBz := Lib.hid hB
        clear hB
        go_wp2_with fail
        refine (HF.out _ _ (HSt.out.alloc _) (Blk.new wr _ _) (by omega)).mono ?_
        rintro e w3 ⟨g, c3, rfl, r⟩
        have N3 := Lib.hid (new_at (HNw.out.alloc _) r.a hle)
        have O3 := Lib.hid r.a.1
        have k3 : w3.cell? ⟨g, 3, none⟩ = some (.int .u32 B) := r.c 3 _ rfl
        clear r HF HSt HNw hck1 m1 wB
        go_wp2
        go_roundw
        case rel => exact ⟨k + 1 + 1, B, by omega, by omega, rfl, by simp, by simp, by go_num, BB.out.1, BB.out.2, O3.out, N3.out⟩
        case measure => simp [intOf]; omega
    · have m1 : bits .and .i64 b0 16777215 = b0 % 16777216 := mask.and_mask b0 16777215 24 (by omega) rfl
      obtain ⟨d, hdd⟩ : ∃ d, b0 % 16777216 = d := ⟨_, rfl⟩
      rw [hdd] at m1
      have d0 : 0 ≤ d := by omega
      have d1 : d ≤ 16777215 := by omega
      clear hdd HC
      have HE : Hid (∀ w', New w w' → Below w.heap.size w w') := Lib.hid (fun w' h => h.below (Nat.le_refl _) (fun _ _ h => h.elim))
      by_cases hn0 : n = 0
      · subst hn0
        have hk0 : k = 0 := by omega
        subst hk0
        have HX := Lib.hid (next p (ST 0 A) wr hst)
        rw [show (ST 0 A).seq = 1 from rfl] at HX
        have HNw := Lib.hid hnw
        clear hst hnw
        go_wp2_with fail
        refine HX.out.mono ?_
        rintro e w3 ⟨rfl, rfl⟩
        go_wp2
        go_ret
        exact ⟨rfl, HE.out _ HNw.out⟩
      · cases k with
        | zero => exfalso; omega
        | succ k =>
          have hne : (((n : Nat) : Int) == 0) = false := beq_eq_false_iff_ne.2 (by omega)
          simp only [Nat.add_eq_zero_iff, Nat.one_ne_zero, and_false, if_false]
          have t1 := ST_other k A d (by omega) (by omega) (by omega) d0 d1
          have t2 := SX_next k A d (by omega) (by omega) (by omega) d0 d1
          have HF1 := Lib.hid (fun B' w => frame1 p (ST (k + 1) A) 8 B' (un d ys) _ _ _ _ t1.1 t1.2 (ST_bd (k + 1) A (by omega)) (by omega) (by omega) (by show (1 : Nat) ≤ 1048576; omega) w)
          have HF2 := Lib.hid (fun B' w => frame1 p (SX k A d) 8 B' (un (d + 77) zs) _ _ _ _ t2.1 t2.2 (SX_bd k A d (by omega)) (by omega) (by omega) (by show (1 : Nat) ≤ 1048576; omega) w)
          have wB : IntKind.i64.wrap (d + 77) = d + 77 := IntWalk.i64_in _ (by omega)
          have HSt := Lib.hid hst
          have HNw := Lib.hid hnw
          have e5 : IntKind.u32.wrap (A + 3000) = A + 3000 := by rw [w32]; omega
          have e6 : IntKind.u32.wrap (A + 3000 + 77) = A + 3000 + 77 := by rw [w32]; omega
          have hpw := hst.lt
          clear t1 t2 hst hnw
          have hlk : (((k + 1 : Nat) : Int) < n ∧ ¬ ((k + 1 : Nat) : Int) < 50) ∨ ¬ ((k + 1 : Nat) : Int) < n := by omega
          rcases hlk with ⟨hla, hlb⟩ | hla
          all_goals
            go_wp2_with fail
            refine (HF1.out _ _ (HSt.out.alloc _) (Blk.new wr _ _) (by omega)).mono ?_
            rintro e w3 ⟨g1, c1, rfl, r1⟩
            have N3 := Lib.hid (new_at (HNw.out.alloc _) r1.a hle)
            have hp3 := r1.a.1.lt
            have R1 := Lib.hid r1
            clear r1
            go_wp2_with fail
            refine (HF2.out _ _ (R1.out.a.1.alloc _) (Blk.new w3 _ _) (by omega)).mono ?_
            rintro e w4 ⟨g2, c2, rfl, r2⟩
            have N4 := Lib.hid (new_at (N3.out.alloc _) r2.a hle)
            have hg : g1 < w3.heap.size := R1.out.lt
            have k1 : w4.cell? ⟨g1, 3, none⟩ = some (.int .u32 (A + 3000)) := (r2.a.2.cell (a := ⟨g1, 3, none⟩) (by rw [World.size_alloc]; show g1 < _; omega) R1.out.ne).trans (((Turns.refl (fun _ => False) w3).alloc _ |>.cell (a := ⟨g1, 3, none⟩) hg (fun h => h)).trans (R1.out.c 3 _ rfl))
            have k2 : w4.cell? ⟨g2, 3, none⟩ = some (.int .u32 (A + 3000 + 77)) := r2.c 3 _ rfl
            clear R1 r2 HF1 HF2 HSt HNw hg
            go_upto_region 23 with fail
            go_region
            all_goals
              go_wp2
              go_ret
              exact ⟨rfl, HE.out _ N4.out.drew⟩
end Go.Proofs.Ytijpgkkhjjpjoaa.rew
