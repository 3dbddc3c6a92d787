/-
  vp8: Check, With, Keyframe.
-/
import Derived.Test.YtocmikanhcninaaVpRead
import Derived.Test.YtocmikanhcninaaMask
namespace Go.Proofs.Ytocmikanhcninaa.vp
open Go.RowKit mem rd oref sq
set_option linter.unusedVariables false

def outB (n lo hi : Int) : Bool := decide (n < lo) || decide (hi < n)
theorem outB_false {n lo hi : Int} (h : outB n lo hi = false) : lo ≤ n ∧ n ≤ hi := by unfold outB at h; simp at h; omega
theorem outside_any (n lo hi : Int) (w : World) :
    Calls Try.prog 67 #[.int .i64 n, .int .i64 lo, .int .i64 hi] w fun e w' => e = .returned (.bool (outB n lo hi)) ∧ w = w' := by
  have HB : Hid (outB n lo hi = (decide (n < lo) || decide (hi < n))) := Lib.hid rfl
  by_cases h1 : n < lo
  · have h1' : decide (n < lo) = true := decide_eq_true h1
    rw [h1'] at HB
    go_enter Try.func67, Try.ntmps67
    go_wp2
    go_ret
    rw [HB.out]; exact ⟨rfl, rfl⟩
  · have h1' : decide (n < lo) = false := decide_eq_false h1
    rw [h1'] at HB
    by_cases h2 : hi < n
    · have h2' : decide (hi < n) = true := decide_eq_true h2
      rw [h2'] at HB
      go_enter Try.func67, Try.ntmps67
      go_wp2
      go_ret
      rw [HB.out]; exact ⟨rfl, rfl⟩
    · have h2' : decide (hi < n) = false := decide_eq_false h2
      rw [h2'] at HB
      go_enter Try.func67, Try.ntmps67
      go_wp2
      go_ret
      rw [HB.out]; exact ⟨rfl, rfl⟩

/-- Check's answer -/
def chk (d : D) : Int :=
  if outB d.part 0 7 then 5 else if outB d.pic (-1) 32767 then 5 else if outB d.lev (-1) 255 then 5 else if outB d.lay (-1) 3 then 5 else if outB d.key (-1) 31 then 5
  else if d.wide && decide (d.pic < 0) then 2 else if !d.wide && decide (127 < d.pic) then 2 else if d.sync && decide (d.lay < 0) then 2 else 0

/-- a descriptor that may be -/
structure V (d : D) : Prop where
  part : 0 ≤ d.part ∧ d.part ≤ 7
  pic : -1 ≤ d.pic ∧ d.pic ≤ 32767
  lev : -1 ≤ d.lev ∧ d.lev ≤ 255
  lay : -1 ≤ d.lay ∧ d.lay ≤ 3
  key : -1 ≤ d.key ∧ d.key ≤ 31
  wide : d.wide = true → 0 ≤ d.pic
  narrow : d.wide = false → d.pic ≤ 127
  sync : d.sync = true → 0 ≤ d.lay

theorem chk_V {d : D} (h : chk d = 0) : V d := by
  unfold chk at h
  repeat (split at h; · simp at h)
  rename_i h1 h2 h3 h4 h5 h6 h7 h8
  obtain ⟨nr, st, part, pic, wide, lev, lay, sync, key⟩ := d
  simp only [Bool.not_eq_true] at h1 h2 h3 h4 h5 h6 h7 h8
  refine ⟨outB_false h1, outB_false h2, outB_false h3, outB_false h4, outB_false h5, ?_, ?_, ?_⟩
  · intro hw; subst hw; simp at h6; exact h6
  · intro hw; subst hw; simp at h7; exact h7
  · intro hw; subst hw; simp at h8; exact h8

theorem V_chk {d : D} (h : V d) : chk d = 0 := by
  obtain ⟨nr, st, part, pic, wide, lev, lay, sync, key⟩ := d
  obtain ⟨h1, h2, h3, h4, h5, h6, h7, h8⟩ := h
  simp only at *
  unfold chk outB
  simp only
  rw [if_neg (by simp; omega), if_neg (by simp; omega), if_neg (by simp; omega), if_neg (by simp; omega), if_neg (by simp; omega)]
  cases wide <;> cases sync <;> simp_all <;> omega

set_option maxHeartbeats 2000000 in
theorem check (d : D) (w : World) :
    Calls Try.prog 40 #[.agg (cells d)] w fun e w' => e = .returned (.int .i64 (chk d)) ∧ New w w' := by
  obtain ⟨nr, st, part, pic, wide, lev, lay, sync, key⟩ := d
  have HC : Hid (chk ⟨nr, st, part, pic, wide, lev, lay, sync, key⟩ = if outB part 0 7 then 5 else if outB pic (-1) 32767 then 5 else if outB lev (-1) 255 then 5 else if outB lay (-1) 3 then 5 else if outB key (-1) 31 then 5
    else if wide && decide (pic < 0) then 2 else if !wide && decide (127 < pic) then 2 else if sync && decide (lay < 0) then 2 else 0) := Lib.hid rfl
  have hN : New w (w.alloc (.cells #[.bool nr, .bool st, .int .i64 part, .int .i64 pic, .bool wide, .int .i64 lev, .int .i64 lay, .bool sync, .int .i64 key] DT)) := (Turns.refl _ _).alloc _
  have HN := Lib.hid hN
  clear hN
  simp only [cells]
  by_cases h1 : outB part 0 7 = true
  · rw [if_pos h1] at HC
    go_enter Try.func40, Try.ntmps40
    go_wp2_with (go_at_call 67; refine (outside_any _ _ _ _).mono ?_; rintro e w' ⟨rfl, rfl⟩)
    go_ret
    rw [HC.out]; exact ⟨rfl, HN.out⟩
  rw [if_neg h1] at HC
  rw [Bool.not_eq_true] at h1
  by_cases h2 : outB pic (-1) 32767 = true
  · rw [if_pos h2] at HC
    go_enter Try.func40, Try.ntmps40
    go_wp2_with (go_at_call 67; refine (outside_any _ _ _ _).mono ?_; rintro e w' ⟨rfl, rfl⟩)
    go_ret
    rw [HC.out]; exact ⟨rfl, HN.out⟩
  rw [if_neg h2] at HC
  rw [Bool.not_eq_true] at h2
  by_cases h3 : outB lev (-1) 255 = true
  · rw [if_pos h3] at HC
    go_enter Try.func40, Try.ntmps40
    go_wp2_with (go_at_call 67; refine (outside_any _ _ _ _).mono ?_; rintro e w' ⟨rfl, rfl⟩)
    go_ret
    rw [HC.out]; exact ⟨rfl, HN.out⟩
  rw [if_neg h3] at HC
  rw [Bool.not_eq_true] at h3
  by_cases h4 : outB lay (-1) 3 = true
  · rw [if_pos h4] at HC
    go_enter Try.func40, Try.ntmps40
    go_wp2_with (go_at_call 67; refine (outside_any _ _ _ _).mono ?_; rintro e w' ⟨rfl, rfl⟩)
    go_ret
    rw [HC.out]; exact ⟨rfl, HN.out⟩
  rw [if_neg h4] at HC
  rw [Bool.not_eq_true] at h4
  by_cases h5 : outB key (-1) 31 = true
  · rw [if_pos h5] at HC
    go_enter Try.func40, Try.ntmps40
    go_wp2_with (go_at_call 67; refine (outside_any _ _ _ _).mono ?_; rintro e w' ⟨rfl, rfl⟩)
    go_ret
    rw [HC.out]; exact ⟨rfl, HN.out⟩
  rw [if_neg h5] at HC
  rw [Bool.not_eq_true] at h5
  cases wide
  · simp only [Bool.false_and, Bool.not_false, Bool.true_and, Bool.false_eq_true, if_false] at HC
    by_cases h7 : 127 < pic
    · rw [if_pos (decide_eq_true h7)] at HC
      have h7' : decide (127 < pic) = true := decide_eq_true h7
      go_enter Try.func40, Try.ntmps40
      go_wp2_with (go_at_call 67; refine (outside_any _ _ _ _).mono ?_; rintro e w' ⟨rfl, rfl⟩)
      go_ret
      rw [HC.out]; exact ⟨rfl, HN.out⟩
    · rw [if_neg (by simpa using h7)] at HC
      have h7' : decide (127 < pic) = false := decide_eq_false h7
      cases sync
      · simp only [Bool.false_and, Bool.false_eq_true, if_false] at HC
        go_enter Try.func40, Try.ntmps40
        go_wp2_with (go_at_call 67; refine (outside_any _ _ _ _).mono ?_; rintro e w' ⟨rfl, rfl⟩)
        go_ret
        rw [HC.out]; exact ⟨rfl, HN.out⟩
      · simp only [Bool.true_and] at HC
        by_cases h8 : lay < 0
        · rw [if_pos (decide_eq_true h8)] at HC
          have h8' : decide (lay < 0) = true := decide_eq_true h8
          go_enter Try.func40, Try.ntmps40
          go_wp2_with (go_at_call 67; refine (outside_any _ _ _ _).mono ?_; rintro e w' ⟨rfl, rfl⟩)
          go_ret
          rw [HC.out]; exact ⟨rfl, HN.out⟩
        · rw [if_neg (by simpa using h8)] at HC
          have h8' : decide (lay < 0) = false := decide_eq_false h8
          go_enter Try.func40, Try.ntmps40
          go_wp2_with (go_at_call 67; refine (outside_any _ _ _ _).mono ?_; rintro e w' ⟨rfl, rfl⟩)
          go_ret
          rw [HC.out]; exact ⟨rfl, HN.out⟩
  · simp only [Bool.true_and, Bool.not_true, Bool.false_and, Bool.false_eq_true, if_false] at HC
    by_cases h7 : pic < 0
    · rw [if_pos (decide_eq_true h7)] at HC
      have h7' : decide (pic < 0) = true := decide_eq_true h7
      go_enter Try.func40, Try.ntmps40
      go_wp2_with (go_at_call 67; refine (outside_any _ _ _ _).mono ?_; rintro e w' ⟨rfl, rfl⟩)
      go_ret
      rw [HC.out]; exact ⟨rfl, HN.out⟩
    · rw [if_neg (by simpa using h7)] at HC
      have h7' : decide (pic < 0) = false := decide_eq_false h7
      cases sync
      · simp only [Bool.false_and, Bool.false_eq_true, if_false] at HC
        go_enter Try.func40, Try.ntmps40
        go_wp2_with (go_at_call 67; refine (outside_any _ _ _ _).mono ?_; rintro e w' ⟨rfl, rfl⟩)
        go_ret
        rw [HC.out]; exact ⟨rfl, HN.out⟩
      · simp only [Bool.true_and] at HC
        by_cases h8 : lay < 0
        · rw [if_pos (decide_eq_true h8)] at HC
          have h8' : decide (lay < 0) = true := decide_eq_true h8
          go_enter Try.func40, Try.ntmps40
          go_wp2_with (go_at_call 67; refine (outside_any _ _ _ _).mono ?_; rintro e w' ⟨rfl, rfl⟩)
          go_ret
          rw [HC.out]; exact ⟨rfl, HN.out⟩
        · rw [if_neg (by simpa using h8)] at HC
          have h8' : decide (lay < 0) = false := decide_eq_false h8
          go_enter Try.func40, Try.ntmps40
          go_wp2_with (go_at_call 67; refine (outside_any _ _ _ _).mono ?_; rintro e w' ⟨rfl, rfl⟩)
          go_ret
          rw [HC.out]; exact ⟨rfl, HN.out⟩

/-- With's answer -/
def withD (d : D) (p l : Int) : D :=
  let e : D := if 0 ≤ d.pic then { d with pic := p % 32768, wide := true } else d
  if 0 ≤ d.lev then { e with lev := l % 256 } else e

theorem and32767 (x : Int) : bits .and .i64 x 32767 = x % 32768 := mask.and_mask x 32767 15 (by omega) rfl

set_option maxHeartbeats 1000000 in
theorem with_any (d : D) (p l : Int) (w : World) :
    Calls Try.prog 41 #[.agg (cells d), .int .i64 p, .int .i64 l] w fun e w' => e = .returned (.agg (cells (withD d p l))) ∧ New w w' := by
  obtain ⟨nr, st, part, pic, wide, lev, lay, sync, key⟩ := d
  have hp := and32767 p
  have hl := mask.mask8 l
  have HW : Hid (withD ⟨nr, st, part, pic, wide, lev, lay, sync, key⟩ p l = if 0 ≤ lev then { (if 0 ≤ pic then ⟨nr, st, part, p % 32768, true, lev, lay, sync, key⟩ else ⟨nr, st, part, pic, wide, lev, lay, sync, key⟩ : D) with lev := l % 256 } else (if 0 ≤ pic then ⟨nr, st, part, p % 32768, true, lev, lay, sync, key⟩ else ⟨nr, st, part, pic, wide, lev, lay, sync, key⟩ : D)) := Lib.hid rfl
  simp only [cells]
  by_cases h1 : 0 ≤ pic <;> by_cases h2 : 0 ≤ lev
  all_goals
    simp only [h1, h2, if_true, if_false] at HW
    go_enter Try.func41, Try.ntmps41
    go_wp2
    go_returns
    rw [HW.out]
    exact ⟨rfl, ((Turns.refl _ _).alloc _).alloc _⟩

/-- Keyframe's answer -/
def keyB (d : D) (s : ByteArray) : Bool := d.st && decide (d.part = 0) && decide (0 < s.size) && decide (bt s 0 % 2 = 0)
theorem and1 (a : Int) (h0 : 0 ≤ a) (h1 : a ≤ 255) : bits .and .u8 a 1 = a % 2 := byte_all (fun a => bits .and .u8 a 1 = a % 2) (by decide +kernel) a h0 h1

set_option maxHeartbeats 1000000 in
theorem keyframe (d : D) (s : ByteArray) (w : World) :
    Calls Try.prog 42 #[.agg (cells d), .string s] w fun e w' => e = .returned (.bool (keyB d s)) ∧ New w w' := by
  obtain ⟨nr, st, part, pic, wide, lev, lay, sync, key⟩ := d
  have HK : Hid (keyB ⟨nr, st, part, pic, wide, lev, lay, sync, key⟩ s = (st && decide (part = 0) && decide (0 < s.size) && decide (bt s 0 % 2 = 0))) := Lib.hid rfl
  simp only [cells]
  cases st
  · go_enter Try.func42, Try.ntmps42
    go_wp2
    go_ret
    rw [HK.out]
    exact ⟨rfl, (Turns.refl _ _).alloc _⟩
  · by_cases hp : part = 0
    · subst hp
      by_cases hs : 0 < s.size
      · have hbt := bt_is s 0 hs
        have hbd := bt_bd s 0
        have h1 := and1 (bt s 0) hbd.1 hbd.2
        rw [decide_eq_true hs] at HK
        have hs1 : s.toList.isEmpty = false := by
          cases h : s.toList with
          | nil => rw [toList_nil] at h; omega
          | cons a b => rfl
        have hs2 : s.toList ≠ [] := fun h => by rw [toList_nil] at h; omega
        generalize bt s 0 = a at *
        go_enter Try.func42, Try.ntmps42
        go_wp2
        go_ret
        rw [HK.out]
        refine ⟨?_, (Turns.refl _ _).alloc _⟩
        simp only [Bool.true_and, decide_true]
        by_cases h2 : a % 2 = 0
        · rw [h2]; rfl
        · rw [decide_eq_false h2, show (a % 2 == 0) = false from by simpa using h2]
          rfl
      · have hs1 : s.toList.isEmpty = true := by
          rw [(toList_nil s).2 (by omega)]; rfl
        rw [decide_eq_false hs] at HK
        go_enter Try.func42, Try.ntmps42
        go_wp2
        go_ret
        rw [HK.out]
        exact ⟨rfl, (Turns.refl _ _).alloc _⟩
    · have hp1 : (part == 0) = false := by simp [hp]
      rw [decide_eq_false hp] at HK
      go_enter Try.func42, Try.ntmps42
      go_wp2
      go_ret
      rw [HK.out]
      exact ⟨rfl, (Turns.refl _ _).alloc _⟩
end Go.Proofs.Ytocmikanhcninaa.vp
