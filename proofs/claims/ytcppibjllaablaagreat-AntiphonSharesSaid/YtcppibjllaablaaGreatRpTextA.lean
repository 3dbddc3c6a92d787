/-
  rtp: what is written; first, second, Len, the sources' numbers.
-/
import Derived.Test.YtcppibjllaablaaGreatRpParse
import Derived.Test.YtcppibjllaablaaGreatVpText
import Derived.Test.YtcppibjllaablaaGreatOctNow
namespace Go.Proofs.YtcppibjllaablaaGreat.rp
open Go.RowKit mem rd wr oref sq
set_option linter.unusedVariables false

/-- a packet that may be -/
structure V (p : P) : Prop where
  typ : 0 ≤ p.typ ∧ p.typ ≤ 127
  seq : 0 ≤ p.seq ∧ p.seq ≤ 65535
  time : 0 ≤ p.time ∧ p.time ≤ 4294967295
  ssrc : 0 ≤ p.ssrc ∧ p.ssrc ≤ 4294967295
  cs : ∀ x ∈ p.cs, 0 ≤ x ∧ x ≤ 4294967295
  csn : p.cs.length ≤ 15
  prof : 0 ≤ p.prof ∧ p.prof ≤ 65535
  pad : 0 ≤ p.pad ∧ p.pad ≤ 255
  data : p.data.size % 4 = 0
  none : p.ext = false → p.prof = 0 ∧ p.data.size = 0
  len : 12 + 4 * p.cs.length + p.pay.size + p.pad.toNat + (if p.ext then 4 + p.data.size else 0) ≤ 1500

def bitI (b : Bool) (v : Int) : Int := if b then v else 0
def h1 (p : P) : Int := 128 + (p.cs.length : Int) + bitI p.ext 16 + bitI (decide (0 < p.pad)) 32
def h2 (p : P) : Int := p.typ + bitI p.mrk 128
/-- up to the extension -/
def tx1 (p : P) : List UInt8 := be 1 (h1 p) ++ be 1 (h2 p) ++ be 2 p.seq ++ be 4 p.time ++ be 4 p.ssrc ++ p.cs.flatMap (be 4)
def txE (p : P) : List UInt8 := if p.ext then be 2 p.prof ++ be 2 ((p.data.size / 4 : Nat) : Int) ++ p.data.data.toList else []
def txP (p : P) : List UInt8 := if 0 < p.pad then List.replicate (p.pad - 1).toNat 0 ++ be 1 p.pad else []
def tx (p : P) : List UInt8 := tx1 p ++ txE p ++ p.pay.data.toList ++ txP p

theorem or_h1 : ∀ n : Nat, n < 16 → bits .or .u8 128 n = 128 + n ∧ bits .or .u8 (128 + (n : Int)) 16 = 144 + n ∧ bits .or .u8 (128 + (n : Int)) 32 = 160 + n ∧ bits .or .u8 (144 + (n : Int)) 32 = 176 + n := by decide +kernel
theorem and15_nat : ∀ n : Nat, n < 16 → bits .and .i64 n 15 = n := by decide +kernel
theorem or128_nat : ∀ n : Nat, n < 128 → bits .or .u8 n 128 = n + 128 := vp.or128_nat

section
variable {w : World} {p : Nat} {d : P} {v : Value} {t : TypeId} (h : Blk w p (pc d v) t)
include h
theorem pc0 : w.cell? ⟨p, 0, none⟩ = some (.bool d.mrk) := h.cell 0
theorem pc1 : w.cell? ⟨p, 1, none⟩ = some (.int .u8 d.typ) := h.cell 1
end

set_option maxHeartbeats 2000000 in
theorem first (p : P) (hv : V p) (a : Option Addr) (c : Nat) (w : World) :
    Calls Tryz.prog 51 #[.agg (pc p (.slice a p.cs.length c))] w fun e w' => e = .returned (.int .u8 (h1 p)) ∧ New w w' := by
  have hn := hv.csn
  have hpd := hv.pad
  have HH : Hid (h1 p = 128 + (p.cs.length : Int) + bitI p.ext 16 + bitI (decide (0 < p.pad)) 32) := Lib.hid rfl
  obtain ⟨e1, e2, e3, e4⟩ := or_h1 p.cs.length (by omega)
  have e5 := and15_nat p.cs.length (by omega)
  obtain ⟨mrk, typ, seq, time, ssrc, cs, ext, prof, data, pay, pad⟩ := p
  simp only [pc] at *
  generalize cs.length = n at *
  have hcv : IntKind.u8.wrap pad = pad := by rw [IntKind.wrap_u8]; omega
  have hcn : IntKind.u8.wrap (n : Int) = (n : Int) := by rw [IntKind.wrap_u8]; omega
  have hN : New w (w.alloc (.cells #[.bool mrk, .int .u8 typ, .int .u16 seq, .int .u32 time, .int .u32 ssrc, .slice a n c, .bool ext, .int .u16 prof, .string data, .string pay, .int .i64 pad] PT)) := (Turns.refl _ _).alloc _
  have HN := Lib.hid hN
  clear hN
  cases ext
  · by_cases hp : 0 < pad
    · have hp' : decide (0 < pad) = true := decide_eq_true hp
      rw [hp'] at HH
      go_enter Tryz.func51, Tryz.ntmps51
      go_wp2
      go_ret
      refine ⟨?_, HN.out⟩
      rw [HH.out]
      exact ret_int (by simp [bitI]; omega)
    · have hp' : decide (0 < pad) = false := decide_eq_false hp
      rw [hp'] at HH
      go_enter Tryz.func51, Tryz.ntmps51
      go_wp2
      go_ret
      refine ⟨?_, HN.out⟩
      rw [HH.out]
      exact ret_int (by simp [bitI])
  · by_cases hp : 0 < pad
    · have hp' : decide (0 < pad) = true := decide_eq_true hp
      rw [hp'] at HH
      go_enter Tryz.func51, Tryz.ntmps51
      go_wp2
      go_ret
      refine ⟨?_, HN.out⟩
      rw [HH.out]
      exact ret_int (by simp [bitI]; omega)
    · have hp' : decide (0 < pad) = false := decide_eq_false hp
      rw [hp'] at HH
      go_enter Tryz.func51, Tryz.ntmps51
      go_wp2
      go_ret
      refine ⟨?_, HN.out⟩
      rw [HH.out]
      exact ret_int (by simp [bitI]; omega)

set_option maxHeartbeats 2000000 in
theorem second (p : P) (hv : V p) (a : Option Addr) (n c : Nat) (w : World) :
    Calls Tryz.prog 52 #[.agg (pc p (.slice a n c))] w fun e w' => e = .returned (.int .u8 (h2 p)) ∧ New w w' := by
  have ht := hv.typ
  have HH : Hid (h2 p = p.typ + bitI p.mrk 128) := Lib.hid rfl
  have h127 := vp.and127 p.typ (by omega) (by omega)
  rw [show p.typ % 128 = p.typ from by omega] at h127
  have hor := vp.or128 p.typ ht.1 (by omega)
  obtain ⟨mrk, typ, seq, time, ssrc, cs, ext, prof, data, pay, pad⟩ := p
  simp only [pc] at *
  have hN : New w (w.alloc (.cells #[.bool mrk, .int .u8 typ, .int .u16 seq, .int .u32 time, .int .u32 ssrc, .slice a n c, .bool ext, .int .u16 prof, .string data, .string pay, .int .i64 pad] PT)) := (Turns.refl _ _).alloc _
  have HN := Lib.hid hN
  clear hN
  cases mrk
  · go_enter Tryz.func52, Tryz.ntmps52
    go_wp2
    go_ret
    refine ⟨?_, HN.out⟩
    rw [HH.out]
    exact ret_int (by simp [bitI])
  · go_enter Tryz.func52, Tryz.ntmps52
    go_wp2
    go_ret
    refine ⟨?_, HN.out⟩
    rw [HH.out]
    exact ret_int (by simp [bitI])

/-- Len's answer -/
def lenI (p : P) : Int := 12 + 4 * (p.cs.length : Int) + (p.pay.size : Int) + p.pad + (if p.ext then 4 + (p.data.size : Int) else 0)
set_option maxHeartbeats 1000000 in
theorem u32_row (p : Nat) (q : Option Nat) (xs : List UInt8) (a : Option Addr) (c m : Nat) (z : Nat → Int) (w : World) (h : Wr w p q xs)
    (hc : m = 0 ∨ ∃ B off, a = some ⟨B, off, none⟩ ∧ B < w.heap.size ∧ B ≠ p ∧ q ≠ some B ∧ ∀ i, i < m → w.cell? ⟨B, off + i, none⟩ = some (.int .u32 (z i))) (hz : ∀ i, i < m → 0 ≤ z i ∧ z i ≤ 4294967295) (hmax : xs.length + 8 * m ≤ 140737488355328) :
    Calls Tryz.prog 54 #[.pointer (some ⟨p, 0, none⟩), .slice a m c] w fun en w' => en = .returned (.pointer (some ⟨p, 0, none⟩)) ∧ Wrote w w' p q (xs ++ (List.range m).flatMap fun i => be 4 (z i)) := by
  have HC := Lib.hid hc
  have HZ := Lib.hid hz
  clear hc hz
  go_enter Tryz.func54, Tryz.ntmps54
  go_wp2
  go_loopw [9] (fun j wr => ∃ k : Nat, k ≤ m ∧ j = .int .i64 k ∧ Wrote w wr p q (xs ++ (List.range k).flatMap fun i => be 4 (z i))) (fun j _ => m - (intOf j).toNat)
  case atStart => exact ⟨0, Nat.zero_le _, rfl, by simpa using Wrote.refl h⟩
  case round =>
    obtain ⟨k, hk, rfl, hwr⟩ := hrel
    by_cases hlt : k < m
    · obtain ⟨B, off, rfl, hB, hBp, hBq, hcell⟩ := HC.out.resolve_left (by omega)
      have hck : wr.cell? ⟨B, off + k, none⟩ = some (.int .u32 (z k)) := ((Wrote.turns hwr).cell hB (by simp [hBp]; exact fun h => hBq h.symm)).trans (hcell k hlt)
      have hzk := HZ.out k hlt
      obtain ⟨hz0, hz1⟩ := hzk
      obtain ⟨q1, hw1, hqp, hpl, hql, hwa, _, hst⟩ := Wrote.call hwr
      have hN := num p q1 (xs ++ (List.range k).flatMap fun i => be 4 (z i)) 4 4 (by decide) wr.heap.size 1 1 (fun _ => z k) (wr.alloc (.cells #[.int .u64 (z k)] 183)) (hwa _)
        (fun i hi => by obtain rfl : i = 0 := by omega
                        exact (Blk.new wr #[.int .u64 (z k)] 183).cell 0) (fun _ _ => ⟨hz0, by omega⟩) (by simp) (by omega) (fun h => by have := hql _ h; omega)
        (by rw [List.length_append, bes_length]; omega)
      have HN := Lib.hid hN
      have HS := Lib.hid hst
      have HF := Lib.hid (flat_add 4 z xs k)
      clear hN hst hwa hw1 hwr HC HZ hcell
      go_wp2_with (go_at_call 85; refine (HN.out).mono ?_; rintro e w' ⟨rfl, hw2⟩)
      have hw3 := HS.out _ _ _ hw2
      rw [show ((List.range 1).flatMap fun _ => be 4 (z k)) = be 4 (z k) from by simp] at hw3
      rw [HF.out] at hw3
      go_roundw
      case rel => exact ⟨k + 1, by omega, by go_num, hw3⟩
      case measure => simp [intOf]; omega
    · obtain rfl : k = m := by omega
      go_wp2
      go_ret
      exact ⟨rfl, hwr⟩

/-- a packet's sources in memory -/
def Row (w : World) (a : Option Addr) (cs : List Int) : Prop := cs.length = 0 ∨ ∃ B off, a = some ⟨B, off, none⟩ ∧ B < w.heap.size ∧ ∀ i, i < cs.length → w.cell? ⟨B, off + i, none⟩ = some (.int .u32 (cs.getD i 0))
theorem Row.new {w w' : World} {a : Option Addr} {cs : List Int} (h : Row w a cs) (k : New w w') : Row w' a cs := by
  rcases h with h | ⟨B, off, rfl, hB, hc⟩
  · exact .inl h
  · exact .inr ⟨B, off, rfl, Nat.lt_of_lt_of_le hB k.size, fun i hi => (k.cell hB (fun h => h)).trans (hc i hi)⟩
end Go.Proofs.YtcppibjllaablaaGreat.rp
