/-
  rtp's packets: what is read, as plain functions. No program.
-/
import Derived.Test.YtcppibjllaablaaGreatVpPure
namespace Go.Proofs.YtcppibjllaablaaGreat.rp
open Go.RowKit mem rd oref sq
set_option linter.unusedVariables false

structure P where
  mrk : Bool
  typ : Int
  seq : Int
  time : Int
  ssrc : Int
  cs : List Int
  ext : Bool
  prof : Int
  data : ByteArray
  pay : ByteArray
  pad : Int

def nob : ByteArray := ⟨#[]⟩
/-- a packet's cells; v: its sources -/
def pc (p : P) (v : Value) : Array Value := #[.bool p.mrk, .int .u8 p.typ, .int .u16 p.seq, .int .u32 p.time, .int .u32 p.ssrc, v, .bool p.ext, .int .u16 p.prof, .string p.data, .string p.pay, .int .i64 p.pad]
def zero : P := ⟨false, 0, 0, 0, 0, [], false, 0, nob, nob, 0⟩

/-! ### reading -/
def lst (l : List UInt8) : ByteArray := ⟨l.toArray⟩
/-- the extension -/
def exS1 (s : St) : St := nx 2 (nx 2 s)
def exN (s : St) : Nat := (4 * vn 2 (nx 2 s)).toNat
def exS (s : St) : St := nx (exN s) (exS1 s)
def exP (p : P) (s : St) : P := { p with ext := true, prof := vn 2 s, data := lst (bn (exN s) (exS1 s)) }
/-- padding: the number, the error -/
def lastB (l : List UInt8) : Int := ((l.getLast?.getD 0).toNat : Int)
def pdN (l : List UInt8) : Int := if l = [] then 0 else if lastB l = 0 then 0 else if (l.length : Int) < lastB l then 0 else lastB l
def pdE (l : List UInt8) : Int := if l = [] then 1 else if lastB l = 0 then 2 else if (l.length : Int) < lastB l then 1 else 0
theorem pdN_bd (l : List UInt8) : 0 ≤ pdN l ∧ pdN l ≤ l.length ∧ pdN l ≤ 255 := by
  unfold pdN
  have h : 0 ≤ lastB l ∧ lastB l ≤ 255 := by
    unfold lastB
    have := (l.getLast?.getD 0).toNat_lt
    omega
  split
  · omega
  · split
    · omega
    · split <;> omega
/-- the sources -/
def it (s : St) : Nat → St
  | 0 => s
  | k + 1 => nx 4 (it s k)
def csL (s : St) (n : Nat) : List Int := (List.range n).map fun i => vn 4 (it s i)
theorem csL_succ (s : St) (n : Nat) : csL s (n + 1) = csL s n ++ [vn 4 (it s n)] := by unfold csL; rw [List.range_succ, List.map_append]; rfl
theorem csL_len (s : St) (n : Nat) : (csL s n).length = n := by unfold csL; simp
theorem it_ok {s : St} (h : Ok s) (n : Nat) : Ok (it s n) := by
  induction n with
  | zero => exact h
  | succ n ih => exact nx_ok 4 ih
theorem it_len (s : St) (n : Nat) : (it s n).1.length ≤ s.1.length := by
  induction n with
  | zero => exact Nat.le_refl _
  | succ n ih => exact Nat.le_trans (nx_len _ _) ih

/-- behind the first two bytes a, b: the packet so far, and what is left -/
def hdP (b : Int) (s : St) (n : Nat) : P := { zero with mrk := vp.b128 b, typ := b % 128, seq := vn 2 s, time := vn 4 (nx 2 s), ssrc := vn 4 (nx 4 (nx 2 s)), cs := csL (nx 4 (nx 4 (nx 2 s))) n }
def hdS (s : St) (n : Nat) : St := it (nx 4 (nx 4 (nx 2 s))) n
def xtP (a : Int) (p : P) (s : St) : P := if a / 16 % 2 = 1 then exP p s else p
def xtS (a : Int) (s : St) : St := if a / 16 % 2 = 1 then exS s else s
def pyP (a : Int) (p : P) (s : St) : P := if a / 32 % 2 = 1 then { p with pay := lst (s.1.take (s.1.length - (pdN s.1).toNat)), pad := pdN s.1 } else { p with pay := lst s.1 }
def pyE (a : Int) (s : St) : Int := if a / 32 % 2 = 1 then (fl (pdE s.1) ([], s.2)).2 else s.2
/-- behind both bytes -/
def bodyP (a b : Int) (s : St) : P := pyP a (xtP a (hdP b s (a % 16).toNat) (hdS s (a % 16).toNat)) (xtS a (hdS s (a % 16).toNat))
def bodyE (a : Int) (s : St) : Int := pyE a (xtS a (hdS s (a % 16).toNat))
/-- all of it: the state behind two bytes, an error if the version is another -/
def vr (s : St) : St := if vn 1 s / 64 = 2 then nx 1 (nx 1 s) else fl 2 (nx 1 (nx 1 s))
def allE (s : St) : Int := bodyE (vn 1 s) (vr s)
def allP (s : St) : P := bodyP (vn 1 s) (vn 1 (nx 1 s)) (vr s)
/-- Parse's answer -/
def outE (l : List UInt8) : Int := if 1500 < l.length then 4 else allE (l, 0)
def outP (l : List UInt8) : P := if outE l = 0 then allP (l, 0) else zero
end Go.Proofs.YtcppibjllaablaaGreat.rp
