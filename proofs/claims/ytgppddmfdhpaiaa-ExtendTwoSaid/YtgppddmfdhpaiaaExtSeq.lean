/-
  extend.Seq: what each call answers, and what it leaves.
-/
import Derived.Test.YtgppddmfdhpaiaaRows
import Derived.Test.YtgppddmfdhpaiaaMem
import Derived.Test.YtgppddmfdhpaiaaSerial
import Derived.Handy
import Derived.Outline
namespace Go.Proofs.Ytgppddmfdhpaiaa.ext
open Go.RowKit mem ser
set_option linter.unusedVariables false

structure Q where
  m : Int
  j : Int
  a : Int
  r : Int

/-- the values that come about -/
structure Q.ok (s : Q) : Prop where
  m0 : 0 ≤ s.m
  m1 : s.m ≤ 1125899906842624
  j0 : 0 ≤ s.j
  j1 : s.j ≤ 1048576
  a0 : 0 ≤ s.a
  a1 : s.a ≤ 65535
  r0 : 0 ≤ s.r
  r1 : s.r ≤ 1

abbrev Q.cells (s : Q) : Array Value := #[.int .i64 s.m, .int .i64 s.j, .int .u16 s.a, .int .i64 s.r]
def Sq (w : World) (p : Nat) (s : Q) : Prop := Blk w p s.cells 26

section
variable {w : World} {p : Nat} {s : Q} (h : Sq w p s)
include h
theorem Sq.c0 : w.cell? ⟨p, 0, none⟩ = some (.int .i64 s.m) := h.cell 0
theorem Sq.c1 : w.cell? ⟨p, 1, none⟩ = some (.int .i64 s.j) := h.cell 1
theorem Sq.c2 : w.cell? ⟨p, 2, none⟩ = some (.int .u16 s.a) := h.cell 2
theorem Sq.c3 : w.cell? ⟨p, 3, none⟩ = some (.int .i64 s.r) := h.cell 3
theorem Sq.f0 : w.frozen? ⟨p, 0, none⟩ = false := h.free 0
theorem Sq.f1 : w.frozen? ⟨p, 1, none⟩ = false := h.free 1
theorem Sq.f2 : w.frozen? ⟨p, 2, none⟩ = false := h.free 2
theorem Sq.f3 : w.frozen? ⟨p, 3, none⟩ = false := h.free 3
theorem Sq.s0 (v : Int) : Sq (w.setCell ⟨p, 0, none⟩ (.int .i64 v)) p { s with m := v } := h.set 0 _
theorem Sq.s1 (v : Int) : Sq (w.setCell ⟨p, 1, none⟩ (.int .i64 v)) p { s with j := v } := h.set 1 _
theorem Sq.s2 (v : Int) : Sq (w.setCell ⟨p, 2, none⟩ (.int .u16 v)) p { s with a := v } := h.set 2 _
theorem Sq.s3 (v : Int) : Sq (w.setCell ⟨p, 3, none⟩ (.int .i64 v)) p { s with r := v } := h.set 3 _
theorem Sq.lt : p < w.heap.size := Blk.lt h
theorem Sq.turns {S : Nat → Prop} {w' : World} (ht : Turns S w w') (hp : ¬ S p) : Sq w' p s := ht.blk h hp
end

abbrev At (w w' : World) (p : Nat) (s : Q) : Prop := Sq w' p s ∧ Turns (· = p) w w'

theorem most (p : Nat) (s : Q) (w : World) (h : Sq w p s) :
    Calls Try.prog 16 #[.pointer (some ⟨p, 0, none⟩)] w fun e w' => e = .returned (.int .i64 s.m) ∧ w = w' := by
  have h0 := h.c0
  go_enter Try.func16, Try.ntmps16
  go_wp2
  go_ret
  exact ⟨rfl, rfl⟩

theorem jumps (p : Nat) (s : Q) (w : World) (h : Sq w p s) :
    Calls Try.prog 17 #[.pointer (some ⟨p, 0, none⟩)] w fun e w' => e = .returned (.int .i64 s.j) ∧ w = w' := by
  have h0 := h.c1
  go_enter Try.func17, Try.ntmps17
  go_wp2
  go_ret
  exact ⟨rfl, rfl⟩

def believed (s : Q) (at' : Int) : Q := { s with m := max s.m at', r := 0 }
theorem believe (p : Nat) (s : Q) (at' : Int) (w : World) (h : Sq w p s) :
    Calls Try.prog 31 #[.pointer (some ⟨p, 0, none⟩), .int .i64 at'] w fun e w' => e = .returned (.int .i64 at') ∧ At w w' p (believed s at') := by
  have h0 := h.c0
  have f0 := h.f0
  have f3 := h.f3
  have h3 := h.c3
  have hb : ∀ x, max s.m at' = x → At w ((w.setCell ⟨p, 0, none⟩ (.int .i64 x)).setCell ⟨p, 3, none⟩ (.int .i64 0)) p (believed s at') := fun x hx => by
    subst hx; exact ⟨(h.s0 _).s3 _, ((Turns.refl (· = p) w).setCell (.inl rfl) _).setCell (.inl rfl) _⟩
  have HB := Lib.hid hb
  clear hb
  by_cases hlt : s.m < at'
  all_goals
    go_enter Try.func31, Try.ntmps31
    go_wp2
    go_ret
    exact ⟨rfl, HB.out _ (by omega)⟩

def nearB (s : Q) (at' : Int) : Bool := decide (s.m - 3000 ≤ at' ∧ at' ≤ s.m + 3000)
theorem isNear (p : Nat) (s : Q) (at' : Int) (w : World) (h : Sq w p s) (ho : s.ok) :
    Calls Try.prog 33 #[.pointer (some ⟨p, 0, none⟩), .int .i64 at'] w fun e w' => e = .returned (.bool (nearB s at')) ∧ w = w' := by
  have h0 := h.c0
  have m0 := ho.m0
  have m1 := ho.m1
  generalize hm : s.m = m at *
  have HM := Lib.hid hm
  clear hm
  by_cases hl : m - 3000 ≤ at'
  all_goals
    go_enter Try.func33, Try.ntmps33
    go_wp2
    go_ret
    refine ⟨ret_bool ?_, rfl⟩
    unfold nearB
    rw [HM.out]
    simp
    try omega

def followed (s : Q) (n : Int) : Q := { s with r := (if n = s.a then s.r else 0) + 1, a := (n + 1) % 65536 }
theorem follow (p : Nat) (s : Q) (n : Int) (w : World) (h : Sq w p s) (ho : s.ok) (hn0 : 0 ≤ n) (hn1 : n ≤ 65535) :
    Calls Try.prog 34 #[.pointer (some ⟨p, 0, none⟩), .int .u16 n] w fun e w' => e = .returned (.tuple #[]) ∧ At w w' p (followed s n) := by
  have c2 := h.c2
  have c3 := h.c3
  have f2 := h.f2
  have f3 := h.f3
  have r0 := ho.r0
  have r1 := ho.r1
  have e1 : IntKind.u16.wrap (n + 1) = (n + 1) % 65536 := w16 _
  by_cases hn : n = s.a
  · have hb : At w ((w.setCell ⟨p, 3, none⟩ (.int .i64 (s.r + 1))).setCell ⟨p, 2, none⟩ (.int .u16 ((n + 1) % 65536))) p (followed s n) := by
      unfold followed; rw [if_pos hn]
      exact ⟨(h.s3 _).s2 _, ((Turns.refl (· = p) w).setCell (.inl rfl) _).setCell (.inl rfl) _⟩
    have HB := Lib.hid hb
    have hq : (n != s.a) = false := by simp [hn]
    clear hb
    generalize s.a = a at *
    have HN := Lib.hid hn
    clear hn
    go_enter Try.func34, Try.ntmps34
    go_wp2
    go_end0
    exact ⟨rfl, HB.out⟩
  · have hb : At w (((w.setCell ⟨p, 3, none⟩ (.int .i64 0)).setCell ⟨p, 3, none⟩ (.int .i64 1)).setCell ⟨p, 2, none⟩ (.int .u16 ((n + 1) % 65536))) p (followed s n) := by
      unfold followed; rw [if_neg hn]
      exact ⟨((h.s3 _).s3 _).s2 _, (((Turns.refl (· = p) w).setCell (.inl rfl) _).setCell (.inl rfl) _).setCell (.inl rfl) _⟩
    have HB := Lib.hid hb
    have hq : (n != s.a) = true := by simp [hn]
    clear hb
    generalize s.a = a at *
    go_enter Try.func34, Try.ntmps34
    go_wp2
    go_end0
    exact ⟨rfl, HB.out⟩
end Go.Proofs.Ytgppddmfdhpaiaa.ext
