/-
  extend.Clock, its reference, and ExtendTimes.
-/
import Derived.Test.YtgppddmfdhpaiaaExtRef
import Derived.Test.YtgppddmfdhpaiaaExtJumps
import Derived.Test.YtgppddmfdhpaiaaArgs
namespace Go.Proofs.Ytgppddmfdhpaiaa.ext
open Go.RowKit mem ser
set_option linter.unusedVariables false

def Ck (w : World) (p : Nat) (m : Int) : Prop := Blk w p #[.int .i64 m] 41
theorem Ck.c0 {w : World} {p : Nat} {m : Int} (h : Ck w p m) : w.cell? ⟨p, 0, none⟩ = some (.int .i64 m) := h.cell 0
theorem Ck.f0 {w : World} {p : Nat} {m : Int} (h : Ck w p m) : w.frozen? ⟨p, 0, none⟩ = false := h.free 0
theorem Ck.s0 {w : World} {p : Nat} {m : Int} (h : Ck w p m) (v : Int) : Ck (w.setCell ⟨p, 0, none⟩ (.int .i64 v)) p v := h.set 0 _

def ckAt (m t : Int) : Int := if m = 0 then 68719476736 + t else m + sd 4294967296 t (m % 4294967296)
abbrev CkIs (w w' : World) (p : Nat) (m : Int) : Prop := Ck w' p m ∧ Turns (· = p) w w'

set_option maxRecDepth 100000 in
theorem cput (p : Nat) (m t : Int) (w : World) (h : Ck w p m) (hm : 0 ≤ m) (hm' : m ≤ 1125899906842624) (ht : 0 ≤ t) (ht' : t ≤ 4294967295) :
    Calls Try.prog 18 #[.pointer (some ⟨p, 0, none⟩), .int .u32 t] w fun e w' => e = .returned (.int .i64 (ckAt m t)) ∧ CkIs w w' p (max m (ckAt m t)) := by
  have c0 := h.c0
  have f0 := h.f0
  have hb : ∀ x, max m (ckAt m t) = x → CkIs w (w.setCell ⟨p, 0, none⟩ (.int .i64 x)) p (max m (ckAt m t)) := fun x hx => by
    subst hx; exact ⟨h.s0 _, (Turns.refl (· = p) w).setCell (.inl rfl) _⟩
  have HB := Lib.hid hb
  clear hb
  by_cases h0 : m = 0
  · subst h0
    have hv : Hid (ckAt 0 t = 68719476736 + t) := Lib.hid rfl
    go_enter Try.func18, Try.ntmps18
    go_wp2
    go_ret
    rw [hv.out] at HB ⊢
    exact ⟨rfl, HB.out _ (by omega)⟩
  · have hne : (m != 0) = true := by simp [h0]
    have N := near32 m t (by omega) (by omega) w
    have hv : m + sd 4294967296 t (m % 4294967296) = ckAt m t := by unfold ckAt; rw [if_neg h0]
    rw [hv] at N
    have HN := Lib.hid N
    clear N hv h0
    generalize ckAt m t = v at *
    by_cases hlt : m < v
    all_goals
      go_enter Try.func18, Try.ntmps18
      go_wp2_with fail
      refine HN.out.mono ?_
      rintro e w1 ⟨rfl, rfl⟩
      go_wp2
      go_ret
      exact ⟨rfl, HB.out _ (by omega)⟩

abbrev lastV (m : Int) : Int := if m = 0 then -1 else m
set_option maxRecDepth 100000 in
theorem rtime (m t : Int) (w : World) (hm : 0 ≤ m) (hm' : m ≤ 1125899906842624) (ht : 0 ≤ t) (ht' : t ≤ 4294967295) :
    Calls Try.prog 19 #[.int .i64 (lastV m), .int .i64 t] w fun e w' => e = .returned (.tuple #[.int .i64 (lastV (max m (ckAt m t))), .int .i64 (ckAt m t)]) ∧ w = w' := by
  by_cases h0 : m = 0
  · subst h0
    have hv : ckAt 0 t = 68719476736 + t := rfl
    have hl : Hid (lastV (max 0 (ckAt 0 t)) = 68719476736 + t) := Lib.hid (by rw [hv]; unfold lastV; rw [if_neg (by omega)]; omega)
    have hl0 : lastV 0 = -1 := rfl
    rw [hl.out, hl0, hv]
    clear hl0 hv hl
    go_enter Try.func19, Try.ntmps19
    go_wp2
    go_ret2
    exact ⟨rfl, rfl⟩
  · have hl0 : lastV m = m := if_neg h0
    have hl : lastV (max m (ckAt m t)) = max m (ckAt m t) := if_neg (by omega)
    have N := rnear m t 4294967296 (.inr rfl) (by omega) (by omega) ht ht' w
    have hv : m + sd 4294967296 t (m % 4294967296) = ckAt m t := by unfold ckAt; rw [if_neg h0]
    rw [hv] at N
    rw [hl0, hl]
    have HN := Lib.hid N
    clear N hv h0 hl0 hl
    generalize ckAt m t = v at *
    by_cases hlt : m < v
    · have e : max m v = v := by omega
      rw [e]
      clear e
      go_enter Try.func19, Try.ntmps19
      go_wp2_with fail
      refine HN.out.mono ?_
      rintro e w1 ⟨rfl, rfl⟩
      go_wp2
      go_ret2
      exact ⟨rfl, rfl⟩
    · have e : max m v = m := by omega
      rw [e]
      clear e
      go_enter Try.func19, Try.ntmps19
      go_wp2_with fail
      refine HN.out.mono ?_
      rintro e w1 ⟨rfl, rfl⟩
      go_wp2
      go_ret2
      exact ⟨rfl, rfl⟩

/-- the greatest time so far -/
def ckm (z : Nat → Int) : Nat → Int
  | 0 => 0
  | n + 1 => max (ckm z n) (ckAt (ckm z n) (z n))
theorem ckAt_bd (m t : Int) (hm : 0 ≤ m) (ht : 0 ≤ t) (ht' : t ≤ 4294967295) : ckAt m t ≤ m + 73014444032 ∧ -4294967296 ≤ ckAt m t := by
  unfold ckAt
  have := sd_bd32 t (m % 4294967296)
  split <;> omega
theorem ckAt_mod (m t : Int) (ht : 0 ≤ t) (ht' : t ≤ 4294967295) : ckAt m t % 4294967296 = t := by
  unfold ckAt
  split
  · omega
  · unfold sd; split <;> omega
theorem ckm_bd (z : Nat → Int) (n : Nat) (h : ∀ i, i < n → 0 ≤ z i ∧ z i ≤ 4294967295) : 0 ≤ ckm z n ∧ ckm z n ≤ 73014444032 * n := by
  induction n with
  | zero => simp [ckm]
  | succ n ih =>
    have h1 := ih (fun i hi => h i (by omega))
    have h2 := h n (by omega)
    have h3 := ckAt_bd (ckm z n) (z n) h1.1 h2.1 h2.2
    simp only [ckm]
    omega

set_option maxRecDepth 100000 in
set_option maxHeartbeats 1000000 in
theorem times_law (a : Option Addr) (n c : Nat) (z : Nat → Int) (w : World) (hz : args.IntRow .u32 w a n c z) :
    Calls Try.prog 6 #[.slice a n c] w fun e w' => e = .returned (.bool true) ∧ Below w.heap.size w w' := by
  obtain ⟨hn, hwf, hcell⟩ := hz
  unfold maxLen at hn
  have hbd : ∀ i, i < n → 0 ≤ z i ∧ z i ≤ 4294967295 := fun i hi => bounds_u32 (hwf i hi)
  have HB := Lib.hid hbd
  have HC := Lib.hid hcell
  clear hwf hcell hbd
  go_enter Try.func6, Try.ntmps6
  go_wp2_with fail
  refine (awake w).mono ?_
  rintro e w1 ⟨rfl, h1⟩
  go_wp2_with fail
  have hq : Ck (w1.alloc (.cells #[.int .i64 0] 41)) w1.heap.size 0 := Blk.new w1 _ _
  have N1 : New w (w1.alloc (.cells #[.int .i64 0] 41)) := h1.alloc _
  have hle : w.heap.size ≤ w1.heap.size := h1.size
  generalize w1.alloc (.cells #[.int .i64 0] 41) = w2 at *
  generalize w1.heap.size = p at *
  have HQ := Lib.hid (And.intro hq N1)
  clear hq N1 h1
  go_loopw [4, 5] (fun l i wr => ∃ k : Nat, k ≤ n ∧ k ≤ 200 ∧ i = .int .i64 k ∧ l = .int .i64 (lastV (ckm z k)) ∧ Ck wr p (ckm z k) ∧ New w wr) (fun _ i _ => n - (intOf i).toNat)
  case atStart => exact ⟨0, Nat.zero_le _, by omega, rfl, rfl, HQ.out.1, HQ.out.2⟩
  case round =>
    obtain ⟨k, hk, hk200, rfl, rfl, hs, hnw⟩ := hrel
    clear HQ
    by_cases hgo : k < n ∧ k < 200
    · obtain ⟨hlt, hlt2⟩ := hgo
      obtain ⟨b, off, rfl, hb, hcell⟩ := HC.out.resolve_left (by omega)
      have hck := hcell k hlt
      have hzb := HB.out k hlt
      obtain ⟨z0, z1⟩ := hzb
      have hmb := ckm_bd z k (fun i hi => HB.out i (by omega))
      obtain ⟨m0, m1⟩ := hmb
      have hpl := hs.lt
      have hck1 : wr.cell? ⟨b, off + k, none⟩ = some (.int .u32 (z k)) := (hnw.cell hb (fun h => h)).trans hck
      have hM : Hid (ckm z (k + 1) = max (ckm z k) (ckAt (ckm z k) (z k))) := Lib.hid rfl
      have HP := Lib.hid (cput p (ckm z k) (z k) wr hs m0 (by omega) z0 z1)
      have HR := Lib.hid (fun w => rtime (ckm z k) (z k) w m0 (by omega) z0 z1)
      have e1 : IntKind.u32.wrap (ckAt (ckm z k) (z k)) = z k := by rw [w32]; exact ckAt_mod _ _ z0 z1
      rw [← hM.out] at HP HR
      clear hcell HC HB hck
      generalize ckAt (ckm z k) (z k) = v at *
      generalize lastV (ckm z k) = l0 at *
      generalize ckm z k = m at *
      clear hs
      go_wp2_with fail
      refine HP.out.mono ?_
      rintro e w4 ⟨rfl, h4⟩
      have n4 : Hid (New w w4) := Lib.hid (hnw.trans (h4.2.mono (fun j _ h => .inr (by omega))))
      have hck4 : w4.cell? ⟨b, off + k, none⟩ = some (.int .u32 (z k)) := (h4.2.cell (a := ⟨b, off + k, none⟩) (by show b < _; omega) (by show ¬ b = p; omega)).trans hck1
      have H4 := Lib.hid h4.1
      clear h4 hck1 hnw HP
      go_wp2_with fail
      refine (HR.out _).mono ?_
      rintro e w5 ⟨rfl, rfl⟩
      generalize hlv : lastV (ckm z (k + 1)) = l1 at *
      have HL := Lib.hid hlv
      clear hlv HR hM
      generalize z k = zk at *
      go_wp2
      all_goals
        go_roundw
        case rel => exact ⟨k + 1, by omega, by omega, by go_num, by rw [HL.out], H4.out, n4.out⟩
        case measure => simp [intOf]; omega
    · by_cases hlt : k < n
      · have hlt2 : ¬ k < 200 := by omega
        go_wp2
        go_ret
        exact ⟨rfl, hnw.below (Nat.le_refl _) (fun _ _ h => h.elim)⟩
      · go_wp2
        go_ret
        exact ⟨rfl, hnw.below (Nat.le_refl _) (fun _ _ h => h.elim)⟩
end Go.Proofs.Ytgppddmfdhpaiaa.ext
