/-
  rtp: Check.
-/
import Derived.Test.YtijpgkkhjjpjoaaRpMath
namespace Go.Proofs.Ytijpgkkhjjpjoaa.rp
open Go.RowKit mem rd wr oref sq
set_option linter.unusedVariables false

/-- Check's answer -/
def chk (p : P) : Int :=
  if 127 < p.typ then 5 else if p.pad < 0 then 5 else if 255 < p.pad then 5 else if 15 < p.cs.length then 4 else if 65535 < p.data.size / 4 then 4
  else if p.data.size % 4 ≠ 0 then 2 else if p.ext = false ∧ p.prof ≠ 0 then 2 else if p.ext = false ∧ p.data.size ≠ 0 then 2 else if 1500 < lenI p then 4 else 0

/-- fields that are what Go's types hold, and short -/
structure F (p : P) : Prop where
  typ : 0 ≤ p.typ ∧ p.typ ≤ 255
  seq : 0 ≤ p.seq ∧ p.seq ≤ 65535
  time : 0 ≤ p.time ∧ p.time ≤ 4294967295
  ssrc : 0 ≤ p.ssrc ∧ p.ssrc ≤ 4294967295
  cs : ∀ x ∈ p.cs, 0 ≤ x ∧ x ≤ 4294967295
  csn : p.cs.length ≤ 17
  prof : 0 ≤ p.prof ∧ p.prof ≤ 65535
  pad : -2 ≤ p.pad ∧ p.pad ≤ 300
  data : p.data.size ≤ 1500
  pay : p.pay.size ≤ 1500

theorem chk_V {p : P} (hf : F p) (h : chk p = 0) : V p := by
  unfold chk at h
  repeat (split at h; · simp at h)
  rename_i a1 a2 a3 a4 a5 a6 a7 a8 a9
  refine ⟨⟨hf.typ.1, by omega⟩, hf.seq, hf.time, hf.ssrc, hf.cs, by omega, hf.prof, ⟨by omega, by omega⟩, by omega, ?_, ?_⟩
  · intro he
    exact ⟨by by_cases hp : p.prof = 0; exact hp; exact absurd ⟨he, hp⟩ a7, by by_cases hd : p.data.size = 0; exact hd; exact absurd ⟨he, hd⟩ a8⟩
  · unfold lenI at a9
    split <;> rename_i he <;> simp only [he, if_true, Bool.false_eq_true, if_false] at a9 <;> omega
theorem V_chk {p : P} (h : V p) : chk p = 0 := by
  unfold chk
  have h1 := h.typ
  have h2 := h.pad
  have h3 := h.csn
  have h4 := h.data
  have h5 := h.none
  have h6 := h.len
  have h7 : p.data.size ≤ 1500 := by
    by_cases he : p.ext = true
    · rw [if_pos he] at h6; omega
    · have := h5 (by simpa using he); omega
  rw [if_neg (by omega), if_neg (by omega), if_neg (by omega), if_neg (by omega), if_neg (by omega), if_neg (by omega), if_neg (fun ⟨a, b⟩ => b (h5 a).1), if_neg (fun ⟨a, b⟩ => b (h5 a).2), if_neg ?_]
  unfold lenI
  split <;> rename_i he <;> simp only [he, if_true, Bool.false_eq_true, if_false] at h6 <;> omega

theorem empty_of (s : ByteArray) : (s.toList.isEmpty = true ↔ s.size = 0) := by
  rw [List.isEmpty_iff, toList_nil]

set_option maxHeartbeats 4000000 in
theorem check (p : P) (hf : F p) (a : Option Addr) (c : Nat) (w : World) :
    Calls Try.prog 14 #[.agg (pc p (.slice a p.cs.length c))] w fun e w' => e = .returned (.int .i64 (chk p)) ∧ New w w' := by
  have hty := hf.typ
  have hpd := hf.pad
  have hcn := hf.csn
  have hda := hf.data
  have hpy := hf.pay
  have hpr := hf.prof
  have HLen := Lib.hid (fun w => len_any p a c w (by omega) (by omega) (by omega) (by omega) (by omega))
  have HC : Hid (chk p = if 127 < p.typ then 5 else if p.pad < 0 then 5 else if 255 < p.pad then 5 else if 15 < p.cs.length then 4 else if 65535 < p.data.size / 4 then 4
    else if p.data.size % 4 ≠ 0 then 2 else if p.ext = false ∧ p.prof ≠ 0 then 2 else if p.ext = false ∧ p.data.size ≠ 0 then 2 else if 1500 < lenI p then 4 else 0) := Lib.hid rfl
  generalize lenI p = L at *
  obtain ⟨mrk, typ, seq, time, ssrc, cs, ext, prof, data, pay, pad⟩ := p
  simp only [pc] at *
  have HE := Lib.hid (empty_of data)
  generalize cs.length = n at *
  have hN : New w (w.alloc (.cells #[.bool mrk, .int .u8 typ, .int .u16 seq, .int .u32 time, .int .u32 ssrc, .slice a n c, .bool ext, .int .u16 prof, .string data, .string pay, .int .i64 pad] PT)) := (Turns.refl _ _).alloc _
  have HN := Lib.hid hN
  clear hN hf
  have d5 : decide (65535 < (data.size : Int) / 4) = false := decide_eq_false (by omega)
  have d5' : ¬ 65535 < data.size / 4 := by omega
  by_cases a1 : 127 < typ
  · have a1' : decide (127 < typ) = true := decide_eq_true (by omega)
    rw [if_pos a1] at HC
    go_enter Try.func14, Try.ntmps14
    go_wp2
    go_ret
    rw [HC.out]; exact ⟨rfl, HN.out⟩
  have a1' : decide (127 < typ) = false := decide_eq_false (by omega)
  rw [if_neg a1] at HC
  by_cases a2 : pad < 0
  · have a2' : decide (pad < 0) = true := decide_eq_true (by omega)
    rw [if_pos a2] at HC
    go_enter Try.func14, Try.ntmps14
    go_wp2
    go_ret
    rw [HC.out]; exact ⟨rfl, HN.out⟩
  have a2' : decide (pad < 0) = false := decide_eq_false (by omega)
  rw [if_neg a2] at HC
  by_cases a3 : 255 < pad
  · have a3' : decide (255 < pad) = true := decide_eq_true (by omega)
    rw [if_pos a3] at HC
    go_enter Try.func14, Try.ntmps14
    go_wp2
    go_ret
    rw [HC.out]; exact ⟨rfl, HN.out⟩
  have a3' : decide (255 < pad) = false := decide_eq_false (by omega)
  rw [if_neg a3] at HC
  by_cases a4 : 15 < n
  · have a4' : decide (15 < (n : Int)) = true := decide_eq_true (by omega)
    rw [if_pos a4] at HC
    go_enter Try.func14, Try.ntmps14
    go_wp2
    go_ret
    rw [HC.out]; exact ⟨rfl, HN.out⟩
  have a4' : decide (15 < (n : Int)) = false := decide_eq_false (by omega)
  rw [if_neg a4] at HC
  rw [if_neg d5'] at HC
  by_cases a6 : data.size % 4 ≠ 0
  · have a6' : ((data.size : Int) % 4 != 0) = true := by simp; omega
    rw [if_pos a6] at HC
    go_enter Try.func14, Try.ntmps14
    go_wp2
    go_ret
    rw [HC.out]; exact ⟨rfl, HN.out⟩
  have a6' : ((data.size : Int) % 4 != 0) = false := by simp; omega
  rw [if_neg a6] at HC
  clear d5' a6
  have key : ∀ (hl : Hid (chk ⟨mrk, typ, seq, time, ssrc, cs, ext, prof, data, pay, pad⟩ = if 1500 < L then 4 else 0)), True := fun _ => trivial
  clear key
  cases ext
  · by_cases a7 : prof = 0
    · have a7' : (prof != 0) = false := by simp [a7]
      rw [if_neg (by simp [a7])] at HC
      by_cases a8 : data.size = 0
      · have a8' : data.toList.isEmpty = true := HE.out.2 a8
        rw [if_neg (by simp [a8])] at HC
        clear a7 a8
        by_cases a9 : 1500 < L
        · have a9' : decide (1500 < L) = true := decide_eq_true a9
          rw [if_pos a9] at HC
          go_enter Try.func14, Try.ntmps14
          go_wp2_with fail
          refine (HLen.out _).mono ?_
          rintro e w1 ⟨rfl, hn1⟩
          go_wp2
          go_ret
          rw [HC.out]; exact ⟨rfl, HN.out.trans (hn1.mono (fun _ _ h => h.elim))⟩
        · have a9' : decide (1500 < L) = false := decide_eq_false a9
          rw [if_neg a9] at HC
          go_enter Try.func14, Try.ntmps14
          go_wp2_with fail
          refine (HLen.out _).mono ?_
          rintro e w1 ⟨rfl, hn1⟩
          go_wp2
          go_ret
          rw [HC.out]; exact ⟨rfl, HN.out.trans (hn1.mono (fun _ _ h => h.elim))⟩
      · have a8' : data.toList.isEmpty = false := by
          cases h : data.toList.isEmpty
          · rfl
          · exact absurd (HE.out.1 h) a8
        rw [if_pos ⟨rfl, a8⟩] at HC
        clear a7 a8
        go_enter Try.func14, Try.ntmps14
        go_wp2
        go_ret
        rw [HC.out]; exact ⟨rfl, HN.out⟩
    · have a7' : (prof != 0) = true := by simp [a7]
      rw [if_pos ⟨rfl, a7⟩] at HC
      clear a7
      go_enter Try.func14, Try.ntmps14
      go_wp2
      go_ret
      rw [HC.out]; exact ⟨rfl, HN.out⟩
  · rw [if_neg (by simp), if_neg (by simp)] at HC
    by_cases a9 : 1500 < L
    · have a9' : decide (1500 < L) = true := decide_eq_true a9
      rw [if_pos a9] at HC
      go_enter Try.func14, Try.ntmps14
      go_wp2_with fail
      refine (HLen.out _).mono ?_
      rintro e w1 ⟨rfl, hn1⟩
      go_wp2
      go_ret
      rw [HC.out]; exact ⟨rfl, HN.out.trans (hn1.mono (fun _ _ h => h.elim))⟩
    · have a9' : decide (1500 < L) = false := decide_eq_false a9
      rw [if_neg a9] at HC
      go_enter Try.func14, Try.ntmps14
      go_wp2_with fail
      refine (HLen.out _).mono ?_
      rintro e w1 ⟨rfl, hn1⟩
      go_wp2
      go_ret
      rw [HC.out]; exact ⟨rfl, HN.out.trans (hn1.mono (fun _ _ h => h.elim))⟩
end Go.Proofs.Ytijpgkkhjjpjoaa.rp
