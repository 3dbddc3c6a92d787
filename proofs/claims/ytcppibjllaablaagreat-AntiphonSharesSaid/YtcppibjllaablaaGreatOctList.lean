/-
  Reading back what a list of bytes holds: octet.Reader's calls, front to back.
-/
import Derived.Test.YtcppibjllaablaaGreatOctNum
namespace Go.Proofs.YtcppibjllaablaaGreat.rd
open Go.RowKit mem
set_option linter.unusedVariables false

/-- a reader at p with the bytes l left, and no error -/
abbrev Rl (w : World) (p : Nat) (l : List UInt8) : Prop := Rd w p ⟨l.toArray⟩ 0
def Read1 (w w' : World) (p : Nat) (l : List UInt8) : Prop := Rl w' p l ∧ Turns (· = p) w w'

theorem bytes_list (p : Nat) (a r : List UInt8) (n : Int) (hn : n = (a.length : Int)) (w : World) (h : Rl w p (a ++ r)) (hs : (a ++ r).length ≤ 4611686018427387904) :
    Calls Tryz.prog 83 #[.pointer (some ⟨p, 0, none⟩), .int .i64 n] w fun en w' => en = .returned (.string ⟨a.toArray⟩) ∧ Read1 w w' p r := by
  subst hn
  have := bytes p _ 0 a.length w h hs
  unfold Takes at this
  rw [oref.takeB_mk, oref.takeS_mk, oref.takeE_mk] at this
  exact this
theorem num_list (p : Nat) (x n : Int) (N : Nat) (hN : lim n = (N : Int)) (hx : 0 ≤ x) (r : List UInt8) (w : World) (h : Rl w p (wr.be N x ++ r)) (hs : (wr.be N x ++ r).length ≤ 4611686018427387904) :
    Calls Tryz.prog 82 #[.pointer (some ⟨p, 0, none⟩), .int .i64 n] w fun en w' => en = .returned (.int .u64 (x % 256 ^ N)) ∧ Read1 w w' p r := by
  have := num p _ 0 n w h hs
  unfold Takes at this
  have h1 := oref.takeS_mk (wr.be N x) r 0
  have h2 := oref.takeE_mk (wr.be N x) r 0
  rw [wr.be_length] at h1 h2
  rw [oref.numV_be n x N hN hx, hN, h1, h2] at this
  exact this

theorem u8_list (p : Nat) (x : Int) (hx : 0 ≤ x) (hx' : x ≤ 255) (r : List UInt8) (w : World) (h : Rl w p (wr.be 1 x ++ r)) (hs : (wr.be 1 x ++ r).length ≤ 4611686018427387904) :
    Calls Tryz.prog 42 #[.pointer (some ⟨p, 0, none⟩)] w fun en w' => en = .returned (.int .u8 x) ∧ Read1 w w' p r := by
  have := oref.ru8 p _ 0 w h hs
  unfold Takes at this
  have h1 := oref.takeS_mk (wr.be 1 x) r 0
  have h2 := oref.takeE_mk (wr.be 1 x) r 0
  rw [wr.be_length] at h1 h2
  rw [oref.numV_be 1 x 1 (by decide) hx, show x % 256 ^ 1 = x from by omega, show ((1 : Nat) : Int) = 1 from rfl] at *
  rw [h1, h2] at this
  exact this

theorem u16_list (p : Nat) (x : Int) (hx : 0 ≤ x) (hx' : x ≤ 65535) (r : List UInt8) (w : World) (h : Rl w p (wr.be 2 x ++ r)) (hs : (wr.be 2 x ++ r).length ≤ 4611686018427387904) :
    Calls Tryz.prog 44 #[.pointer (some ⟨p, 0, none⟩)] w fun en w' => en = .returned (.int .u16 x) ∧ Read1 w w' p r := by
  have := oref.ru16 p _ 0 w h hs
  unfold Takes at this
  have h1 := oref.takeS_mk (wr.be 2 x) r 0
  have h2 := oref.takeE_mk (wr.be 2 x) r 0
  rw [wr.be_length] at h1 h2
  rw [oref.numV_be 2 x 2 (by decide) hx, show x % 256 ^ 2 = x from by omega, show ((2 : Nat) : Int) = 2 from rfl] at *
  rw [h1, h2] at this
  exact this

theorem u32_list (p : Nat) (x : Int) (hx : 0 ≤ x) (hx' : x ≤ 4294967295) (r : List UInt8) (w : World) (h : Rl w p (wr.be 4 x ++ r)) (hs : (wr.be 4 x ++ r).length ≤ 4611686018427387904) :
    Calls Tryz.prog 45 #[.pointer (some ⟨p, 0, none⟩)] w fun en w' => en = .returned (.int .u32 x) ∧ Read1 w w' p r := by
  have := oref.ru32 p _ 0 w h hs
  unfold Takes at this
  have h1 := oref.takeS_mk (wr.be 4 x) r 0
  have h2 := oref.takeE_mk (wr.be 4 x) r 0
  rw [wr.be_length] at h1 h2
  rw [oref.numV_be 4 x 4 (by decide) hx, show x % 256 ^ 4 = x from by omega, show ((4 : Nat) : Int) = 4 from rfl] at *
  rw [h1, h2] at this
  exact this

end Go.Proofs.YtcppibjllaablaaGreat.rd
