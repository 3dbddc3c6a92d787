/-
  OctetTakes: any bytes, read as any values.
-/
import Derived.Test.YtefhhilaadmghabOctKinds
import Derived.Test.YtefhhilaadmghabOctAwake
import Derived.Test.YtefhhilaadmghabTakeRow
import Derived.Deep.DeepCutAuto
import Derived.Deep.QuietTactic
namespace Go.Proofs.Ytefhhilaadmghab.oref
open Go.RowKit mem rd wr
set_option linter.unusedVariables false

def stepS (s : ByteArray) (e k n : Int) : ByteArray :=
  if k = 1 then takeS s e n else if k = 2 then takeS s e (lim n) else if k = 3 then takeS s e 1 else if k = 4 then takeS s e 2 else if k = 5 then takeS s e 4 else if k = 6 then takeS s e s.size else if k = 7 then failS s e (n % 8) else s
def stepE (s : ByteArray) (e k n : Int) : Int :=
  if k = 1 then takeE s e n else if k = 2 then takeE s e (lim n) else if k = 3 then takeE s e 1 else if k = 4 then takeE s e 2 else if k = 5 then takeE s e 4 else if k = 6 then takeE s e s.size else if k = 7 then failE e (n % 8) else e

theorem _root_.Go.Proofs.Ytefhhilaadmghab.rd.Rd.drew {w : World} {p : Nat} {s : ByteArray} {e : Int} (h : Rd w p s e) : Rd w.drew p s e := h

theorem _root_.Go.Proofs.Ytefhhilaadmghab.rd.Rd.alloc {w : World} {p : Nat} {s : ByteArray} {e : Int} (h : Rd w p s e) (o : Obj) : Rd (w.alloc o) p s e := Blk.alloc h o

theorem _root_.Go.Proofs.Ytefhhilaadmghab.rd.Rd.drewN {w : World} {p : Nat} {s : ByteArray} {e : Int} (h : Rd w p s e) (n : Nat) : Rd (w.drewN n) p s e := h

theorem step_inv {s : ByteArray} {e : Int} (h : Inv s e) (k n : Int) : Inv (stepS s e k n) (stepE s e k n) := by
  unfold stepS stepE
  repeat' split
  all_goals first | exact h.take _ | exact h.fail _ | exact h
theorem step_size (s : ByteArray) (e k n : Int) : (stepS s e k n).size ≤ s.size := by
  unfold stepS
  repeat' split
  all_goals first | exact takeS_size _ _ _ | exact failS_size _ _ _ | exact Nat.le_refl _

theorem take_any (p : Nat) (s : ByteArray) (e k n : Int) (w : World) (h : Rd w p s e) (hi : Inv s e) (hs : s.size ≤ 4611686018427387904) :
    Calls Try.prog 28 #[.pointer (some ⟨p, 0, none⟩), .agg #[.string s, .int .i64 e], .agg #[.int .i64 k, .int .i64 n]] w fun en w' =>
      en = .returned (.tuple #[.agg #[.string (stepS s e k n), .int .i64 (stepE s e k n)], .bool true]) ∧ Stepped w w' p (stepS s e k n) (stepE s e k n) := by
  by_cases h1 : k = 1
  · subst h1; exact take_1 p s e n w h hi hs
  by_cases h2 : k = 2
  · subst h2; exact take_2 p s e n w h hi hs
  by_cases h3 : k = 3
  · subst h3; exact take_3 p s e n w h hi hs
  by_cases h4 : k = 4
  · subst h4; exact take_4 p s e n w h hi hs
  by_cases h5 : k = 5
  · subst h5; exact take_5 p s e n w h hi hs
  by_cases h6 : k = 6
  · subst h6; exact take_6 p s e n w h hi hs
  by_cases h7 : k = 7
  · subst h7; exact take_7 p s e n w h
  have e1 : stepS s e k n = s := by unfold stepS; simp [h1, h2, h3, h4, h5, h6, h7]
  have e2 : stepE s e k n = e := by unfold stepE; simp [h1, h2, h3, h4, h5, h6, h7]
  rw [e1, e2]
  exact take_0 p s e k n w ⟨h1, h2, h3, h4, h5, h6, h7⟩ h

/-- the two readers, side by side -/
structure Both (w0 wr : World) (P X : Nat) (s : ByteArray) (e : Int) : Prop where
  rd : Rd wr P s e
  bx : Blk wr X #[.string s, .int .i64 e] 55
  inv : Inv s e
  size : s.size ≤ 100
  bel : Below w0.heap.size w0 wr

/-- .. in the middle of a round: the reference's new state lies in a block of its own -/
structure Mid (w0 wr : World) (P X D : Nat) (s : ByteArray) (e : Int) (s1 : ByteArray) (e1 : Int) : Prop where
  rd : Rd wr P s1 e1
  bx : Blk wr X #[.string s, .int .i64 e] 55
  bd : Blk wr D #[.string s1, .int .i64 e1] 55
  bel : Below w0.heap.size w0 wr
  ne : D ≠ X

theorem midA {w wr w3 : World} {P X : Nat} {s s1 : ByteArray} {e e1 : Int} (hb : Both w wr P X s e) (h : Stepped wr.drew w3 P s1 e1) (hPX : X ≠ P := by omega) (hP : w.heap.size ≤ P := by omega) :
    Mid w (w3.alloc (.cells #[.string s1, .int .i64 e1] 55)) P X w3.heap.size s e s1 e1 := by
  have ht : Turns (· = P) wr w3 := Turns.of_drew h.2
  have hx3 := ht.blk hb.bx hPX
  have hsz := ht.size
  have hxl := hb.bx.lt
  refine ⟨h.1.alloc _, hx3.alloc _, Blk.new _ _ _, ?_, by omega⟩
  have hsz0 := hb.bel.size
  exact (hb.bel.trans (ht.below (by omega) (fun k _ hk => by omega))).alloc (by omega) _

theorem midB {w wr w3 : World} {P X : Nat} {s s1 : ByteArray} {e e1 : Int} (hb : Both w wr P X s e) (h : Stepped (wr.alloc (.cells #[.string ⟨#[]⟩, .int .i64 0] 55)).drew w3 P s1 e1) (hPX : X ≠ P := by omega) (hP : w.heap.size ≤ P := by omega) :
    Mid w ((w3.setCell ⟨wr.heap.size, 0, none⟩ (.string s1)).setCell ⟨wr.heap.size, 1, none⟩ (.int .i64 e1)) P X wr.heap.size s e s1 e1 := by
  have ht : Turns (· = P) (wr.alloc (.cells #[.string ⟨#[]⟩, .int .i64 0] 55)) w3 := Turns.of_drew h.2
  have hx3 := ht.blk (hb.bx.alloc _) hPX
  have hpl := hb.rd.lt
  have hd := ht.blk (Blk.new wr #[.string ⟨#[]⟩, .int .i64 0] 55) (show ¬ (wr.heap.size = P) by omega)
  have hsz := ht.size
  rw [World.size_alloc] at hsz
  have hxl := hb.bx.lt
  have hsz0 := hb.bel.size
  refine ⟨?_, ?_, (hd.set 0 _).set 1 _, ?_, by omega⟩
  · exact (Blk.setOther (Blk.setOther h.1 (a := ⟨wr.heap.size, 0, none⟩) (show wr.heap.size ≠ P by omega) _) (a := ⟨wr.heap.size, 1, none⟩) (show wr.heap.size ≠ P by omega) _)
  · exact ((hx3.setOther (a := ⟨wr.heap.size, 0, none⟩) (show wr.heap.size ≠ X by omega) _).setOther (a := ⟨wr.heap.size, 1, none⟩) (show wr.heap.size ≠ X by omega) _)
  · have b1 := (hb.bel.alloc (by omega) (.cells #[.string ⟨#[]⟩, .int .i64 0] 55)).trans (ht.below (B := w.heap.size) (by rw [World.size_alloc]; omega) (fun k _ hk => by omega))
    exact (b1.setCell (p := ⟨wr.heap.size, 0, none⟩) (show w.heap.size ≤ wr.heap.size by omega) _).setCell (p := ⟨wr.heap.size, 1, none⟩) (show w.heap.size ≤ wr.heap.size by omega) _

theorem ended_len (s : ByteArray) (e : Int) (h : Inv s e) : (endS s e).size = 0 := by
  unfold endS
  split
  · rename_i hlt
    have he : e = 0 := by
      apply Classical.byContradiction
      intro he
      have := h he
      subst this
      exact absurd hlt (by decide)
    unfold failS
    rw [if_pos ⟨he, by decide⟩]
    rfl
  · omega

theorem Both.drewN {w wr : World} {P X : Nat} {s : ByteArray} {e : Int} (h : Both w wr P X s e) (n : Nat) : Both w (wr.drewN n) P X s e :=
  ⟨h.rd, h.bx, h.inv, h.size, ⟨h.bel.os, h.bel.tape, h.bel.output, h.bel.size, h.bel.block⟩⟩

theorem takes_end {w wr w6 w7 : World} {X : Nat} {s : ByteArray} {e : Int} (hb : Both w wr w.heap.size X s e) (h6 : Ended wr.drew w6 w.heap.size s e) (h7 : New w6 w7) : Below w.heap.size w w7 :=
  hb.bel.trans ((((Turns.of_drew h6.2).trans (h7.mono (fun _ _ h => h.elim))).below (B := w.heap.size) hb.bel.size (fun k _ hk => by omega)))

end Go.Proofs.Ytefhhilaadmghab.oref
