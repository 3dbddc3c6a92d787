/-
  rtp: what is written; first, second, Len, the sources' numbers.
-/
import Derived.Test.YtijpgkkhjjpjoaaRpParse
import Derived.Test.YtijpgkkhjjpjoaaVpText
import Derived.Test.YtijpgkkhjjpjoaaOctNow
namespace Go.Proofs.Ytijpgkkhjjpjoaa.rp
open Go.RowKit mem rd wr oref sq
set_option linter.unusedVariables false

/-- a packet that may be -/
structure V (p : P) : Prop where
  typ : 0 ≤ p.typ ∧ p.typ ≤ 127
  seq : 0 ≤ p.seq ∧ p.seq ≤ 65535
  time : 0 ≤ p.time ∧ p.time ≤ 4294967295
  ssrc : 0 ≤ p.ssrc ∧ p.ssrc ≤ 4294967295
  cs : ∀ x ∈ p.cs, 0 ≤ x ∧ x ≤ 4294967295
  csn : p.cs.length ≤ 15
  prof : 0 ≤ p.prof ∧ p.prof ≤ 65535
  pad : 0 ≤ p.pad ∧ p.pad ≤ 255
  data : p.data.size % 4 = 0
  none : p.ext = false → p.prof = 0 ∧ p.data.size = 0
  len : 12 + 4 * p.cs.length + p.pay.size + p.pad.toNat + (if p.ext then 4 + p.data.size else 0) ≤ 1500

def bitI (b : Bool) (v : Int) : Int := if b then v else 0
def h1 (p : P) : Int := 128 + (p.cs.length : Int) + bitI p.ext 16 + bitI (decide (0 < p.pad)) 32
def h2 (p : P) : Int := p.typ + bitI p.mrk 128
/-- up to the extension -/
def tx1 (p : P) : List UInt8 := be 1 (h1 p) ++ be 1 (h2 p) ++ be 2 p.seq ++ be 4 p.time ++ be 4 p.ssrc ++ p.cs.flatMap (be 4)
def txE (p : P) : List UInt8 := if p.ext then be 2 p.prof ++ be 2 ((p.data.size / 4 : Nat) : Int) ++ p.data.data.toList else []
def txP (p : P) : List UInt8 := if 0 < p.pad then List.replicate (p.pad - 1).toNat 0 ++ be 1 p.pad else []
def tx (p : P) : List UInt8 := tx1 p ++ txE p ++ p.pay.data.toList ++ txP p

theorem or_h1 : ∀ n : Nat, n < 16 → bits .or .u8 128 n = 128 + n ∧ bits .or .u8 (128 + (n : Int)) 16 = 144 + n ∧ bits .or .u8 (128 + (n : Int)) 32 = 160 + n ∧ bits .or .u8 (144 + (n : Int)) 32 = 176 + n := by decide +kernel
theorem and15_nat : ∀ n : Nat, n < 16 → bits .and .i64 n 15 = n := by decide +kernel
theorem or128_nat : ∀ n : Nat, n < 128 → bits .or .u8 n 128 = n + 128 := vp.or128_nat

section
variable {w : World} {p : Nat} {d : P} {v : Value} {t : TypeId} (h : Blk w p (pc d v) t)
include h
theorem pc0 : w.cell? ⟨p, 0, none⟩ = some (.bool d.mrk) := h.cell 0
theorem pc1 : w.cell? ⟨p, 1, none⟩ = some (.int .u8 d.typ) := h.cell 1
end



/-- Len's answer -/
def lenI (p : P) : Int := 12 + 4 * (p.cs.length : Int) + (p.pay.size : Int) + p.pad + (if p.ext then 4 + (p.data.size : Int) else 0)
set_option maxHeartbeats 2000000 in
theorem len_any (p : P) (a : Option Addr) (c : Nat) (w : World) (hc : p.cs.length ≤ 1000) (hp : p.pay.size ≤ 2000) (hd : p.data.size ≤ 2000) (h0 : -1000 ≤ p.pad) (h1 : p.pad ≤ 1000) :
    Calls Try.prog 30 #[.agg (pc p (.slice a p.cs.length c))] w fun e w' => e = .returned (.int .i64 (lenI p)) ∧ New w w' := by
  have HH : Hid (lenI p = 12 + 4 * (p.cs.length : Int) + (p.pay.size : Int) + p.pad + (if p.ext then 4 + (p.data.size : Int) else 0)) := Lib.hid rfl
  obtain ⟨mrk, typ, seq, time, ssrc, cs, ext, prof, data, pay, pad⟩ := p
  simp only [pc] at *
  generalize cs.length = n at *
  have hN : New w (w.alloc (.cells #[.bool mrk, .int .u8 typ, .int .u16 seq, .int .u32 time, .int .u32 ssrc, .slice a n c, .bool ext, .int .u16 prof, .string data, .string pay, .int .i64 pad] PT)) := (Turns.refl _ _).alloc _
  have HN := Lib.hid hN
  clear hN
  cases ext
  · go_enter Try.func30, Try.ntmps30
    go_wp2
    go_ret
    refine ⟨?_, HN.out⟩
    rw [HH.out]
    exact ret_int (by simp)
  · go_enter Try.func30, Try.ntmps30
    go_wp2
    go_ret
    refine ⟨?_, HN.out⟩
    rw [HH.out]
    exact ret_int (by simp)


/-- a packet's sources in memory -/
def Row (w : World) (a : Option Addr) (cs : List Int) : Prop := cs.length = 0 ∨ ∃ B off, a = some ⟨B, off, none⟩ ∧ B < w.heap.size ∧ ∀ i, i < cs.length → w.cell? ⟨B, off + i, none⟩ = some (.int .u32 (cs.getD i 0))
theorem Row.new {w w' : World} {a : Option Addr} {cs : List Int} (h : Row w a cs) (k : New w w') : Row w' a cs := by
  rcases h with h | ⟨B, off, rfl, hB, hc⟩
  · exact .inl h
  · exact .inr ⟨B, off, rfl, Nat.lt_of_lt_of_le hB k.size, fun i hi => (k.cell hB (fun h => h)).trans (hc i hi)⟩
end Go.Proofs.Ytijpgkkhjjpjoaa.rp
