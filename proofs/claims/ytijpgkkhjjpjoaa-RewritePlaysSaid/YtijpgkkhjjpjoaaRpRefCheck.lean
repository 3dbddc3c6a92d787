/-
  rtp: the reference's Check.
-/
import Derived.Test.YtijpgkkhjjpjoaaRpRefText2
import Derived.Test.YtijpgkkhjjpjoaaRpCheck
namespace Go.Proofs.Ytijpgkkhjjpjoaa.rp
open Go.RowKit mem rd wr oref sq
set_option linter.unusedVariables false

set_option maxHeartbeats 4000000 in
theorem rcheck (p : P) (hf : F p) (a : Option Addr) (c : Nat) (w : World) (hr : Row w a p.cs) :
    Calls Try.prog 21 #[.agg (pc p (.slice a p.cs.length c))] w fun e w' => e = .returned (.int .i64 (chk p)) ∧ New w w' := by
  have hty := hf.typ
  have hpd := hf.pad
  have hcn := hf.csn
  have hda := hf.data
  have hpy := hf.pay
  have hpr := hf.prof
  have HTex := Lib.hid (fun (h : T p) W (k : New w W) => rtext p h a c W (Row.new hr k))
  have HTl := Lib.hid (fun h => txT_len p h)
  have HTT := Lib.hid (fun (h1 : p.typ ≤ 127) (h2 : 0 ≤ p.pad) (h3 : p.pad ≤ 255) (h4 : p.cs.length ≤ 15) => (⟨⟨hf.typ.1, h1⟩, hf.seq, hf.time, hf.ssrc, hf.cs, h4, hf.prof, ⟨h2, h3⟩, by omega, hpy⟩ : T p))
  clear hr
  have HC : Hid (chk p = if 127 < p.typ then 5 else if p.pad < 0 then 5 else if 255 < p.pad then 5 else if 15 < p.cs.length then 4 else if 65535 < p.data.size / 4 then 4
    else if p.data.size % 4 ≠ 0 then 2 else if p.ext = false ∧ p.prof ≠ 0 then 2 else if p.ext = false ∧ p.data.size ≠ 0 then 2 else if 1500 < lenI p then 4 else 0) := Lib.hid rfl
  generalize lenI p = L at *
  generalize tx p = TX at *
  obtain ⟨mrk, typ, seq, time, ssrc, cs, ext, prof, data, pay, pad⟩ := p
  simp only [pc] at *
  have HE := Lib.hid (empty_of data)
  generalize cs.length = n at *
  have hN : New w (w.alloc (.cells #[.bool mrk, .int .u8 typ, .int .u16 seq, .int .u32 time, .int .u32 ssrc, .slice a n c, .bool ext, .int .u16 prof, .string data, .string pay, .int .i64 pad] QR)) := (Turns.refl _ _).alloc _
  have HN := Lib.hid hN
  clear hN hf
  have d5 : decide (65535 < (data.size : Int) / 4) = false := decide_eq_false (by omega)
  have d5' : ¬ 65535 < data.size / 4 := by omega
  by_cases a1 : 127 < typ
  · have a1' : decide (127 < typ) = true := decide_eq_true (by omega)
    rw [if_pos a1] at HC
    go_enter Try.func21, Try.ntmps21
    go_wp2
    go_ret
    rw [HC.out]; exact ⟨rfl, HN.out⟩
  have a1' : decide (127 < typ) = false := decide_eq_false (by omega)
  rw [if_neg a1] at HC
  by_cases a2 : pad < 0
  · have a2' : decide (pad < 0) = true := decide_eq_true (by omega)
    rw [if_pos a2] at HC
    go_enter Try.func21, Try.ntmps21
    go_wp2
    go_ret
    rw [HC.out]; exact ⟨rfl, HN.out⟩
  have a2' : decide (pad < 0) = false := decide_eq_false (by omega)
  rw [if_neg a2] at HC
  by_cases a3 : 255 < pad
  · have a3' : decide (255 < pad) = true := decide_eq_true (by omega)
    rw [if_pos a3] at HC
    go_enter Try.func21, Try.ntmps21
    go_wp2
    go_ret
    rw [HC.out]; exact ⟨rfl, HN.out⟩
  have a3' : decide (255 < pad) = false := decide_eq_false (by omega)
  rw [if_neg a3] at HC
  by_cases a4 : 15 < n
  · have a4' : decide (15 < (n : Int)) = true := decide_eq_true (by omega)
    rw [if_pos a4] at HC
    go_enter Try.func21, Try.ntmps21
    go_wp2
    go_ret
    rw [HC.out]; exact ⟨rfl, HN.out⟩
  have a4' : decide (15 < (n : Int)) = false := decide_eq_false (by omega)
  rw [if_neg a4] at HC
  rw [if_neg d5'] at HC
  by_cases a6 : data.size % 4 ≠ 0
  · have a6' : decide (0 < (data.size : Int) % 4) = true := by simp; omega
    rw [if_pos a6] at HC
    go_enter Try.func21, Try.ntmps21
    go_wp2
    go_ret
    rw [HC.out]; exact ⟨rfl, HN.out⟩
  have a6' : decide (0 < (data.size : Int) % 4) = false := by simp; omega
  rw [if_neg a6] at HC
  clear d5' a6
  have key : ∀ (hl : Hid (chk ⟨mrk, typ, seq, time, ssrc, cs, ext, prof, data, pay, pad⟩ = if 1500 < L then 4 else 0)), True := fun _ => trivial
  clear key
  cases ext
  · by_cases a7 : prof = 0
    · have a7' : (prof != 0) = false := by simp [a7]
      rw [if_neg (by simp [a7])] at HC
      by_cases a8 : data.size = 0
      · have a8' : data.toList.isEmpty = true := HE.out.2 a8
        rw [if_neg (by simp [a8])] at HC
        clear a7 a8
        have hTl : (TX.length : Int) = L := HTl.out (by omega)
        by_cases a9 : 1500 < L
        · have a9' : decide (1500 < (TX.length : Int)) = true := decide_eq_true (by omega)
          rw [if_pos a9] at HC
          go_enter Try.func21, Try.ntmps21
          go_wp2_with fail
          refine ((HTex.out (HTT.out (by omega) (by omega) (by omega) (by omega))) _ HN.out).mono ?_
          rintro e w1 ⟨rfl, hn1⟩
          go_wp2
          go_ret
          rw [HC.out]; exact ⟨rfl, HN.out.trans (hn1.mono (fun _ _ h => h.elim))⟩
        · have a9' : decide (1500 < (TX.length : Int)) = false := decide_eq_false (by omega)
          rw [if_neg a9] at HC
          go_enter Try.func21, Try.ntmps21
          go_wp2_with fail
          refine ((HTex.out (HTT.out (by omega) (by omega) (by omega) (by omega))) _ HN.out).mono ?_
          rintro e w1 ⟨rfl, hn1⟩
          go_wp2
          go_ret
          rw [HC.out]; exact ⟨rfl, HN.out.trans (hn1.mono (fun _ _ h => h.elim))⟩
      · have a8' : data.toList.isEmpty = false := by
          cases h : data.toList.isEmpty
          · rfl
          · exact absurd (HE.out.1 h) a8
        rw [if_pos ⟨rfl, a8⟩] at HC
        clear a7 a8
        go_enter Try.func21, Try.ntmps21
        go_wp2
        go_ret
        rw [HC.out]; exact ⟨rfl, HN.out⟩
    · have a7' : (prof != 0) = true := by simp [a7]
      rw [if_pos ⟨rfl, a7⟩] at HC
      clear a7
      go_enter Try.func21, Try.ntmps21
      go_wp2
      go_ret
      rw [HC.out]; exact ⟨rfl, HN.out⟩
  · rw [if_neg (by simp), if_neg (by simp)] at HC
    have hTl : (TX.length : Int) = L := HTl.out (by omega)
    by_cases a9 : 1500 < L
    · have a9' : decide (1500 < (TX.length : Int)) = true := decide_eq_true (by omega)
      rw [if_pos a9] at HC
      go_enter Try.func21, Try.ntmps21
      go_wp2_with fail
      refine ((HTex.out (HTT.out (by omega) (by omega) (by omega) (by omega))) _ HN.out).mono ?_
      rintro e w1 ⟨rfl, hn1⟩
      go_wp2
      go_ret
      rw [HC.out]; exact ⟨rfl, HN.out.trans (hn1.mono (fun _ _ h => h.elim))⟩
    · have a9' : decide (1500 < (TX.length : Int)) = false := decide_eq_false (by omega)
      rw [if_neg a9] at HC
      go_enter Try.func21, Try.ntmps21
      go_wp2_with fail
      refine ((HTex.out (HTT.out (by omega) (by omega) (by omega) (by omega))) _ HN.out).mono ?_
      rintro e w1 ⟨rfl, hn1⟩
      go_wp2
      go_ret
      rw [HC.out]; exact ⟨rfl, HN.out.trans (hn1.mono (fun _ _ h => h.elim))⟩
end Go.Proofs.Ytijpgkkhjjpjoaa.rp
