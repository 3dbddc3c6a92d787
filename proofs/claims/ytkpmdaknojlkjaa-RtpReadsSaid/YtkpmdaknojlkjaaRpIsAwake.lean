/-
  rtp.Is, and 'awake' of layer 3.
-/
import Derived.Test.YtkpmdaknojlkjaaRpParse
namespace Go.Proofs.Ytkpmdaknojlkjaa.rp
open Go.RowKit mem rd oref sq
set_option linter.unusedVariables false

/-- Is's answer for two bytes and more -/
def isB (a b : Int) : Bool := decide (a / 64 = 2) && (decide (b < 192) || decide (223 < b))

theorem is_short (s : ByteArray) (w : World) (h : s.size < 2) :
    Calls Try.prog 34 #[.string s] w fun e w' => e = .returned (.bool false) ∧ w = w' := by
  have h' : decide (2 ≤ (s.size : Int)) = false := decide_eq_false (by omega)
  have h2 : (s.size : Int) < 2 := by omega
  go_enter Try.func34, Try.ntmps34
  go_wp2
  go_ret
  exact ⟨rfl, rfl⟩

set_option maxHeartbeats 1000000 in
theorem is_long (s : ByteArray) (w : World) (h : 2 ≤ s.size) (hs : s.size ≤ 4611686018427387904) :
    Calls Try.prog 34 #[.string s] w fun e w' => e = .returned (.bool (isB (bt s 0) (bt s 1))) ∧ w = w' := by
  have h' : decide (2 ≤ (s.size : Int)) = true := decide_eq_true (by omega)
  have h2 : (2 : Int) ≤ (s.size : Int) := by omega
  have h0 := bt_is s 0 (by omega)
  have h1 := bt_is s 1 (by omega)
  have hb0 := bt_bd s 0
  have hb1 := bt_bd s 1
  have HB : Hid (isB (bt s 0) (bt s 1) = (decide (bt s 0 / 64 = 2) && (decide (bt s 1 < 192) || decide (223 < bt s 1)))) := Lib.hid rfl
  have h3 : 0 < s.size := by omega
  have h4 : 1 < s.size := by omega
  generalize bt s 0 = a at *
  generalize bt s 1 = b at *
  by_cases hv : a / 64 = 2
  · have hvb : (a / 64 == 2) = true := by simp [hv]
    rw [decide_eq_true hv] at HB
    clear hv
    by_cases hl : b < 192
    · have hlb : decide (b < 192) = true := decide_eq_true hl
      rw [hlb] at HB
      go_enter Try.func34, Try.ntmps34
      go_wp2
      go_ret
      rw [HB.out]
      exact ⟨rfl, rfl⟩
    · have hlb : decide (b < 192) = false := decide_eq_false hl
      rw [hlb] at HB
      by_cases hg : 223 < b
      · have hgb : decide (223 < b) = true := decide_eq_true hg
        rw [hgb] at HB
        go_enter Try.func34, Try.ntmps34
        go_wp2
        go_ret
        rw [HB.out]
        exact ⟨rfl, rfl⟩
      · have hgb : decide (223 < b) = false := decide_eq_false hg
        rw [hgb] at HB
        go_enter Try.func34, Try.ntmps34
        go_wp2
        go_ret
        rw [HB.out]
        exact ⟨rfl, rfl⟩
  · have hvb : (a / 64 == 2) = false := by simp [hv]
    rw [decide_eq_false hv] at HB
    clear hv
    go_enter Try.func34, Try.ntmps34
    go_wp2
    go_ret
    rw [HB.out]
    exact ⟨rfl, rfl⟩

/-! ### the document's example -/
def exL : List UInt8 := [128, 96, 0, 1, 0, 0, 0, 2, 0, 0, 0, 3, 97]
theorem exE : outE exL = 0 := by decide +kernel
theorem ex1 : (outP exL).typ = 96 := by decide +kernel
theorem ex2 : (outP exL).seq = 1 := by decide +kernel
theorem ex3 : (outP exL).time = 2 := by decide +kernel
theorem ex4 : (outP exL).ssrc = 3 := by decide +kernel
theorem ex5 : (outP exL).pay.data = #[97] := by decide +kernel
theorem is1 : isB (bt ⟨#[128, 96]⟩ 0) (bt ⟨#[128, 96]⟩ 1) = true := by decide +kernel
theorem is2 : isB (bt ⟨#[128, 200]⟩ 0) (bt ⟨#[128, 200]⟩ 1) = false := by decide +kernel

set_option maxHeartbeats 2000000 in
theorem awake (w : World) :
    Calls Try.prog 25 #[] w fun e w' => e = .returned (.bool true) ∧ New w w' := by
  have HP := Lib.hid (fun w => parse_small ⟨#[128, 96, 0, 1, 0, 0, 0, 2, 0, 0, 0, 3, 97]⟩ w (by show 13 ≤ _; omega))
  have HI1 := Lib.hid (fun w => is_long ⟨#[128, 96]⟩ w (by show 2 ≤ 2; omega) (by show 2 ≤ _; omega))
  have HI2 := Lib.hid (fun w => is_long ⟨#[128, 200]⟩ w (by show 2 ≤ 2; omega) (by show 2 ≤ _; omega))
  rw [is1] at HI1
  rw [is2] at HI2
  have hE : outE ({ data := #[128, 96, 0, 1, 0, 0, 0, 2, 0, 0, 0, 3, 97] } : ByteArray).data.toList = 0 := exE
  have hP : ∃ mrk cs ext prof data pad, outP ({ data := #[128, 96, 0, 1, 0, 0, 0, 2, 0, 0, 0, 3, 97] } : ByteArray).data.toList = ⟨mrk, 96, 1, 2, 3, cs, ext, prof, data, ⟨#[97]⟩, pad⟩ := by
    show ∃ mrk cs ext prof data pad, outP exL = _
    have e1 := ex1
    have e2 := ex2
    have e3 := ex3
    have e4 := ex4
    have e5 := ex5
    generalize outP exL = p at *
    obtain ⟨mrk, typ, seq, time, ssrc, cs, ext, prof, data, pay, pad⟩ := p
    simp only at e1 e2 e3 e4 e5
    subst e1 e2 e3 e4
    exact ⟨mrk, cs, ext, prof, data, pad, by congr 1; exact ByteArray.ext e5⟩
  rw [hE] at HP
  obtain ⟨mrk, cs, ext, prof, data, pad, hP⟩ := hP
  rw [hP] at HP
  clear hE hP
  simp only [pc] at HP
  go_enter Try.func25, Try.ntmps25
  go_wp2_with fail
  refine (HP.out _).mono ?_
  rintro e w1 ⟨v, rfl, hn1, ho1⟩
  obtain ⟨av, cv, rfl⟩ := own_shape ho1
  have hn2 := hn1.alloc (.cells #[.bool mrk, .int .u8 96, .int .u16 1, .int .u32 2, .int .u32 3, .slice av cs.length cv, .bool ext, .int .u16 prof, .string data, .string ⟨#[97]⟩, .int .i64 pad] PT)
  have HN := Lib.hid hn2
  clear hn1 hn2 ho1
  have e1 : (({ data := #[97] } : ByteArray).toList == ({ data := #[97] } : ByteArray).toList) = true := by simp
  generalize cs.length = nv at *
  go_wp2_with fail
  refine (HI1.out _).mono ?_
  rintro e w2 ⟨rfl, rfl⟩
  go_wp2_with fail
  refine (HI2.out _).mono ?_
  rintro e w2 ⟨rfl, rfl⟩
  go_wp2
  go_ret
  exact ⟨rfl, HN.out⟩
end Go.Proofs.Ytkpmdaknojlkjaa.rp
