/-
  vp8's descriptors: what is read and written, as plain functions. No program.
-/
import Derived.Test.YtcppibjllaablaaGreatSeq
namespace Go.Proofs.YtcppibjllaablaaGreat.vp
open Go.RowKit mem rd oref sq
set_option linter.unusedVariables false

structure D where
  nr : Bool
  st : Bool
  part : Int
  pic : Int
  wide : Bool
  lev : Int
  lay : Int
  sync : Bool
  key : Int

def cells (d : D) : Array Value := #[.bool d.nr, .bool d.st, .int .i64 d.part, .int .i64 d.pic, .bool d.wide, .int .i64 d.lev, .int .i64 d.lay, .bool d.sync, .int .i64 d.key]
def plain : D := ⟨false, false, 0, -1, false, -1, -1, false, -1⟩
def zero : D := ⟨false, false, 0, 0, false, 0, 0, false, 0⟩

/-! ### bits of a byte -/
theorem byte_all (P : Int → Prop) [DecidablePred fun n : Nat => P n] (h : ∀ n : Nat, n < 256 → P n) (a : Int) (h0 : 0 ≤ a) (h1 : a ≤ 255) : P a := by
  have := h a.toNat (by omega)
  rwa [Int.toNat_of_nonneg h0] at this
/-- the bits of value 128, 64, 32, 16: the test that the program makes -/
def b128 (a : Int) : Bool := bits .and .u8 a 128 != 0
def b64 (a : Int) : Bool := bits .and .u8 a 64 != 0
def b32 (a : Int) : Bool := bits .and .u8 a 32 != 0
def b16 (a : Int) : Bool := bits .and .u8 a 16 != 0
theorem b128_is (a : Int) (h0 : 0 ≤ a) (h1 : a ≤ 255) : b128 a = decide (128 ≤ a) := byte_all (fun a => b128 a = decide (128 ≤ a)) (by decide +kernel) a h0 h1
theorem b64_is (a : Int) (h0 : 0 ≤ a) (h1 : a ≤ 255) : b64 a = decide (a / 64 % 2 = 1) := byte_all (fun a => b64 a = decide (a / 64 % 2 = 1)) (by decide +kernel) a h0 h1
theorem b32_is (a : Int) (h0 : 0 ≤ a) (h1 : a ≤ 255) : b32 a = decide (a / 32 % 2 = 1) := byte_all (fun a => b32 a = decide (a / 32 % 2 = 1)) (by decide +kernel) a h0 h1
theorem b16_is (a : Int) (h0 : 0 ≤ a) (h1 : a ≤ 255) : b16 a = decide (a / 16 % 2 = 1) := byte_all (fun a => b16 a = decide (a / 16 % 2 = 1)) (by decide +kernel) a h0 h1
theorem and7 (a : Int) (h0 : 0 ≤ a) (h1 : a ≤ 255) : bits .and .u8 a 7 = a % 8 := byte_all (fun a => bits .and .u8 a 7 = a % 8) (by decide +kernel) a h0 h1
theorem and31 (a : Int) (h0 : 0 ≤ a) (h1 : a ≤ 255) : bits .and .u8 a 31 = a % 32 := byte_all (fun a => bits .and .u8 a 31 = a % 32) (by decide +kernel) a h0 h1
theorem and127 (a : Int) (h0 : 0 ≤ a) (h1 : a ≤ 255) : bits .and .u8 a 127 = a % 128 := byte_all (fun a => bits .and .u8 a 127 = a % 128) (by decide +kernel) a h0 h1
theorem and15 (a : Int) (h0 : 0 ≤ a) (h1 : a ≤ 255) : bits .and .u8 a 15 = a % 16 := byte_all (fun a => bits .and .u8 a 15 = a % 16) (by decide +kernel) a h0 h1
theorem and128 (a : Int) (h0 : 0 ≤ a) (h1 : a ≤ 255) : bits .and .u8 a 128 = if 128 ≤ a then 128 else 0 := byte_all (fun a => bits .and .u8 a 128 = if 128 ≤ a then 128 else 0) (by decide +kernel) a h0 h1
theorem and64 (a : Int) (h0 : 0 ≤ a) (h1 : a ≤ 255) : bits .and .u8 a 64 = if a / 64 % 2 = 1 then 64 else 0 := byte_all (fun a => bits .and .u8 a 64 = if a / 64 % 2 = 1 then 64 else 0) (by decide +kernel) a h0 h1
theorem and32 (a : Int) (h0 : 0 ≤ a) (h1 : a ≤ 255) : bits .and .u8 a 32 = if a / 32 % 2 = 1 then 32 else 0 := byte_all (fun a => bits .and .u8 a 32 = if a / 32 % 2 = 1 then 32 else 0) (by decide +kernel) a h0 h1
theorem and16 (a : Int) (h0 : 0 ≤ a) (h1 : a ≤ 255) : bits .and .u8 a 16 = if a / 16 % 2 = 1 then 16 else 0 := byte_all (fun a => bits .and .u8 a 16 = if a / 16 % 2 = 1 then 16 else 0) (by decide +kernel) a h0 h1
theorem and48 (a : Int) (h0 : 0 ≤ a) (h1 : a ≤ 255) : bits .and .u8 a 48 = (a / 16 % 4) * 16 := byte_all (fun a => bits .and .u8 a 48 = (a / 16 % 4) * 16) (by decide +kernel) a h0 h1

theorem or_low64 (x b : Int) (hx : 0 ≤ x) (hx' : x ≤ 65535) (hb : 0 ≤ b) (hb' : b ≤ 255) : bits .or .i64 (x * 256) b = x * 256 + b := by
  obtain ⟨X, rfl⟩ := Int.eq_ofNat_of_zero_le hx
  obtain ⟨B, rfl⟩ := Int.eq_ofNat_of_zero_le hb
  have h1 : ((X : Int) * 256) = ((X * 256 : Nat) : Int) := by omega
  rw [h1]
  show IntKind.i64.wrap ((BitVec.ofInt 64 ((X * 256 : Nat) : Int) ||| BitVec.ofInt 64 (B : Int)).toNat : Int) = _
  rw [BitVec.toNat_or, ofInt_u64 _ (by omega), ofInt_u64 _ (by omega)]
  have e : X * 256 = X <<< 8 := by rw [Nat.shiftLeft_eq]
  rw [e, ← Nat.shiftLeft_add_eq_or_of_lt (show B < 2 ^ 8 by omega), ← e]
  rw [IntWalk.i64_in _ (by omega)]
  omega

/-! ### reading -/
def d0 (a : Int) : D := { plain with nr := b32 a, st := b16 a, part := a % 8 }
def picV (s : St) : Int := if 128 ≤ vn 1 s then (vn 1 s - 128) * 256 + vn 1 (nx 1 s) else vn 1 s
def picW (s : St) : Bool := b128 (vn 1 s)
def picS (s : St) : St := if 128 ≤ vn 1 s then nx 1 (nx 1 s) else nx 1 s
def tk1D (f : Int) (d : D) (s : St) : D := if 128 ≤ f then { d with pic := picV s, wide := picW s } else d
def tk1S (f : Int) (s : St) : St := if 128 ≤ f then picS s else s
def tk2D (f : Int) (d : D) (s : St) : D := if f / 64 % 2 = 1 then { d with lev := vn 1 s } else d
def tk2S (f : Int) (s : St) : St := if f / 64 % 2 = 1 then nx 1 s else s
def tk3D (f b : Int) (d : D) : D := if f / 32 % 2 = 1 then { d with lay := b / 64, sync := b32 b } else d
def tk4D (f b : Int) (d : D) : D := if f / 16 % 2 = 1 then { d with key := b % 32 } else d
/-- the level's part and what is behind it -/
def tkLD (f : Int) (d : D) (s : St) : D := if f / 16 % 4 = 0 then d else tk4D f (vn 1 s) (tk3D f (vn 1 s) d)
def tkLS (f : Int) (s : St) : St := if f / 16 % 4 = 0 then s else nx 1 s
/-- behind the second byte f -/
def tkD (f : Int) (d : D) (s : St) : D := tkLD f (tk2D f (tk1D f d s) (tk1S f s)) (tk2S f (tk1S f s))
def tkS (f : Int) (s : St) : St := tkLS f (tk2S f (tk1S f s))
/-- all of it -/
def pD (s : St) : D := if 128 ≤ vn 1 s then tkD (vn 1 (nx 1 s)) (d0 (vn 1 s)) (nx 1 (nx 1 s)) else d0 (vn 1 s)
def pS (s : St) : St := if 128 ≤ vn 1 s then tkS (vn 1 (nx 1 s)) (nx 1 (nx 1 s)) else nx 1 s

theorem tkS_ok (f : Int) {s : St} (h : Ok s) : Ok (tkS f s) := by
  unfold tkS tkLS tk2S tk1S picS
  repeat (first | exact h | split | apply nx_ok)
theorem pS_ok {s : St} (h : Ok s) : Ok (pS s) := by
  unfold pS
  split
  · exact tkS_ok _ (nx_ok _ (nx_ok _ h))
  · exact nx_ok _ h
end Go.Proofs.YtcppibjllaablaaGreat.vp
