/-
  OctetParts: bytes read in any parts, one behind the other, are all of them; what is padded is a multiple, and begins with what was put.
-/
import Derived.Test.YtcppibjllaablaaGreatOctLit
import Derived.Test.YtcppibjllaablaaGreatOctList
import Derived.Test.YtcppibjllaablaaGreatMask
import Derived.Test.YtcppibjllaablaaGreatArgs
namespace Go.Proofs.YtcppibjllaablaaGreat.oref
open Go.RowKit mem rd wr
set_option linter.unusedVariables false

theorem pad_nat (p : Nat) (q : Option Nat) (xs : List UInt8) (t : Nat) (w : World) (h : Wr w p q xs) (ht : 1 ≤ t) (hto : t ≤ 1048576) (hmax : xs.length ≤ 70368744177664) :
    Calls Tryz.prog 99 #[.pointer (some ⟨p, 0, none⟩), .int .i64 t] w fun en w' => en = .returned (.pointer (some ⟨p, 0, none⟩)) ∧ Wrote w w' p q (xs ++ List.replicate (padN xs.length t) 0) := by
  by_cases h1 : t = 1
  · subst h1
    have e : padN xs.length 1 = 0 := by unfold padN; omega
    rw [e, List.replicate_zero, List.append_nil]
    exact pad_one p q xs 1 w h (by omega)
  · exact pad_many p q xs t w h (by omega) hto hmax


/-- the reader, and what has been read -/
def Part (w0 wr : World) (P : Nat) (l done rest : List UInt8) : Prop := Rl wr P rest ∧ done ++ rest = l ∧ Below w0.heap.size w0 wr

theorem part_next {w0 wr w8 : World} {P : Nat} {l done rest A B : List UInt8} (h : Part w0 wr P l done rest) (h8 : Read1 wr.drew w8 P B) (he : (done ++ A) ++ B = l) (hP : w0.heap.size ≤ P := by omega) : Part w0 w8 P l (done ++ A) B :=
  ⟨h8.1, he, h.2.2.trans ((Turns.of_drew h8.2).below h.2.2.size (fun k _ hk => by omega))⟩

theorem rest_list (P : Nat) (l : List UInt8) (w : World) (h : Rl w P l) (hs : l.length ≤ 4611686018427387904) :
    Calls Tryz.prog 47 #[.pointer (some ⟨P, 0, none⟩)] w fun en w' => en = .returned (.string ⟨l.toArray⟩) ∧ Read1 w w' P [] := by
  have := rest P ⟨l.toArray⟩ 0 w h hs
  unfold Takes at this
  have h1 := takeB_mk l []
  have h2 := takeS_mk l [] 0
  have h3 := takeE_mk l [] 0
  rw [List.append_nil] at h1 h2 h3
  rw [size_mk, h1, h2, h3] at this
  exact this

theorem cat_size (a b : List UInt8) : (⟨a.toArray⟩ : ByteArray).size + (⟨b.toArray⟩ : ByteArray).size = (a ++ b).length := by rw [size_mk, size_mk, List.length_append]

end Go.Proofs.YtcppibjllaablaaGreat.oref
