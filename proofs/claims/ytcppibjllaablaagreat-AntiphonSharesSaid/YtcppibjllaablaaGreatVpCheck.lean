/-
  vp8: Check, With, Keyframe.
-/
import Derived.Test.YtcppibjllaablaaGreatVpRead
import Derived.Test.YtcppibjllaablaaGreatMask
namespace Go.Proofs.YtcppibjllaablaaGreat.vp
open Go.RowKit mem rd oref sq
set_option linter.unusedVariables false

def outB (n lo hi : Int) : Bool := decide (n < lo) || decide (hi < n)
theorem outB_false {n lo hi : Int} (h : outB n lo hi = false) : lo ≤ n ∧ n ≤ hi := by unfold outB at h; simp at h; omega
/-- Check's answer -/
def chk (d : D) : Int :=
  if outB d.part 0 7 then 5 else if outB d.pic (-1) 32767 then 5 else if outB d.lev (-1) 255 then 5 else if outB d.lay (-1) 3 then 5 else if outB d.key (-1) 31 then 5
  else if d.wide && decide (d.pic < 0) then 2 else if !d.wide && decide (127 < d.pic) then 2 else if d.sync && decide (d.lay < 0) then 2 else 0

/-- a descriptor that may be -/
structure V (d : D) : Prop where
  part : 0 ≤ d.part ∧ d.part ≤ 7
  pic : -1 ≤ d.pic ∧ d.pic ≤ 32767
  lev : -1 ≤ d.lev ∧ d.lev ≤ 255
  lay : -1 ≤ d.lay ∧ d.lay ≤ 3
  key : -1 ≤ d.key ∧ d.key ≤ 31
  wide : d.wide = true → 0 ≤ d.pic
  narrow : d.wide = false → d.pic ≤ 127
  sync : d.sync = true → 0 ≤ d.lay

theorem chk_V {d : D} (h : chk d = 0) : V d := by
  unfold chk at h
  repeat (split at h; · simp at h)
  rename_i h1 h2 h3 h4 h5 h6 h7 h8
  obtain ⟨nr, st, part, pic, wide, lev, lay, sync, key⟩ := d
  simp only [Bool.not_eq_true] at h1 h2 h3 h4 h5 h6 h7 h8
  refine ⟨outB_false h1, outB_false h2, outB_false h3, outB_false h4, outB_false h5, ?_, ?_, ?_⟩
  · intro hw; subst hw; simp at h6; exact h6
  · intro hw; subst hw; simp at h7; exact h7
  · intro hw; subst hw; simp at h8; exact h8

theorem V_chk {d : D} (h : V d) : chk d = 0 := by
  obtain ⟨nr, st, part, pic, wide, lev, lay, sync, key⟩ := d
  obtain ⟨h1, h2, h3, h4, h5, h6, h7, h8⟩ := h
  simp only at *
  unfold chk outB
  simp only
  rw [if_neg (by simp; omega), if_neg (by simp; omega), if_neg (by simp; omega), if_neg (by simp; omega), if_neg (by simp; omega)]
  cases wide <;> cases sync <;> simp_all <;> omega

/-- With's answer -/
def withD (d : D) (p l : Int) : D :=
  let e : D := if 0 ≤ d.pic then { d with pic := p % 32768, wide := true } else d
  if 0 ≤ d.lev then { e with lev := l % 256 } else e

theorem and32767 (x : Int) : bits .and .i64 x 32767 = x % 32768 := mask.and_mask x 32767 15 (by omega) rfl

/-- Keyframe's answer -/
def keyB (d : D) (s : ByteArray) : Bool := d.st && decide (d.part = 0) && decide (0 < s.size) && decide (bt s 0 % 2 = 0)
theorem and1 (a : Int) (h0 : 0 ≤ a) (h1 : a ≤ 255) : bits .and .u8 a 1 = a % 2 := byte_all (fun a => bits .and .u8 a 1 = a % 2) (by decide +kernel) a h0 h1

end Go.Proofs.YtcppibjllaablaaGreat.vp
