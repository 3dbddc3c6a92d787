/-
  gate.Gate: what each call answers, and what it leaves.
-/
import Derived.Test.YtfhbcdjbfjoknaaRows
import Derived.Test.YtfhbcdjbfjoknaaMem
import Derived.Handy
import Derived.Lib.Hide
import Derived.Outline
namespace Go.Proofs.Ytfhbcdjbfjoknaa.gat
open Go.RowKit mem
set_option linter.unusedVariables false

structure G where
  v : Bool
  m : Int
  o : Bool
  a : Int
  p : Bool
  s : Int
  t : Int

/-- the values that come about -/
structure G.ok (g : G) : Prop where
  m0 : 0 ≤ g.m
  a0 : 0 ≤ g.a
  s0 : 0 ≤ g.s
  s1 : g.s ≤ 1048576
  t0 : 0 ≤ g.t
  t1 : g.t ≤ 1048576

abbrev G.cells (g : G) : Array Value := #[.bool g.v, .int .i64 g.m, .bool g.o, .int .i64 g.a, .bool g.p, .int .i64 g.s, .int .i64 g.t]
def Gt (w : World) (p : Nat) (g : G) : Prop := Blk w p g.cells 84

section
variable {w : World} {p : Nat} {g : G} (h : Gt w p g)
include h
theorem Gt.c0 : w.cell? ⟨p, 0, none⟩ = some (.bool g.v) := h.cell 0
theorem Gt.c1 : w.cell? ⟨p, 1, none⟩ = some (.int .i64 g.m) := h.cell 1
theorem Gt.c2 : w.cell? ⟨p, 2, none⟩ = some (.bool g.o) := h.cell 2
theorem Gt.c3 : w.cell? ⟨p, 3, none⟩ = some (.int .i64 g.a) := h.cell 3
theorem Gt.c4 : w.cell? ⟨p, 4, none⟩ = some (.bool g.p) := h.cell 4
theorem Gt.c5 : w.cell? ⟨p, 5, none⟩ = some (.int .i64 g.s) := h.cell 5
theorem Gt.c6 : w.cell? ⟨p, 6, none⟩ = some (.int .i64 g.t) := h.cell 6
theorem Gt.f (i : Nat) : w.frozen? ⟨p, i, none⟩ = false := h.free i
theorem Gt.s1 (x : Int) : Gt (w.setCell ⟨p, 1, none⟩ (.int .i64 x)) p { g with m := x } := h.set 1 _
theorem Gt.s2 (x : Bool) : Gt (w.setCell ⟨p, 2, none⟩ (.bool x)) p { g with o := x } := h.set 2 _
theorem Gt.s3 (x : Int) : Gt (w.setCell ⟨p, 3, none⟩ (.int .i64 x)) p { g with a := x } := h.set 3 _
theorem Gt.s4 (x : Bool) : Gt (w.setCell ⟨p, 4, none⟩ (.bool x)) p { g with p := x } := h.set 4 _
theorem Gt.s5 (x : Int) : Gt (w.setCell ⟨p, 5, none⟩ (.int .i64 x)) p { g with s := x } := h.set 5 _
theorem Gt.s6 (x : Int) : Gt (w.setCell ⟨p, 6, none⟩ (.int .i64 x)) p { g with t := x } := h.set 6 _
theorem Gt.lt : p < w.heap.size := Blk.lt h
theorem Gt.turns {S : Nat → Prop} {w' : World} (ht : Turns S w w') (hp : ¬ S p) : Gt w' p g := ht.blk h hp
end

abbrev At (w w' : World) (p : Nat) (g : G) : Prop := Gt w' p g ∧ Turns (· = p) w w'
theorem at_trans {w w1 w2 : World} {p : Nat} {s t : G} (h1 : At w w1 p s) (h2 : At w1 w2 p t) : At w w2 p t :=
  ⟨h2.1, h1.2.trans (h2.2.mono (fun _ _ h => .inl h))⟩
abbrev New (w w' : World) : Prop := Turns (fun _ => False) w w'
theorem new_at {w w1 w2 : World} {p : Nat} {t : G} (h1 : New w w1) (h2 : At w1 w2 p t) (hp : w.heap.size ≤ p) : New w w2 :=
  h1.trans (h2.2.mono (fun k _ h => .inr (by omega)))

/-! ### what the calls do, as functions -/
def isAtB (g : G) (l : Int) : Bool := g.o && (g.a == l)
def turnG (g : G) (l : Int) : G := { g with t := (if (g.v && g.o && (g.a != l)) = true then g.t + 1 else g.t), o := true, a := l }
def wantG (g : G) (l : Int) : G := { g with m := max l 0 }
def shutG (g : G) : G := { g with s := (if g.o = true then g.s + 1 else g.s), o := false }
def pauseG (g : G) (on : Bool) : G := { (if on = true then shutG g else g) with p := on }
def needsB (g : G) : Bool := !(!g.v || g.p || isAtB g g.m)
def goesB (g : G) (l : Int) (k : Bool) : Bool := g.v && !(k && (l == g.m))
def passB (g : G) (l : Int) (k : Bool) : Bool := if g.p = true then false else if goesB g l k = true then isAtB g l else true
def passG (g : G) (l : Int) (k : Bool) : G := if g.p = true then g else if goesB g l k = true then g else turnG g l

/-! ### the calls -/




theorem isAt (p : Nat) (g : G) (l : Int) (w : World) (h : Gt w p g) :
    Calls Try.prog 44 #[.pointer (some ⟨p, 0, none⟩), .int .i64 l] w fun e w' => e = .returned (.bool (isAtB g l)) ∧ w = w' := by
  have h2 := h.c2
  have h3 := h.c3
  obtain ⟨v, m, o, a, b, s, t⟩ := g
  cases o
  all_goals
    go_enter Try.func44, Try.ntmps44
    go_wp2
    go_ret
    exact ⟨rfl, rfl⟩

theorem want (p : Nat) (g : G) (l : Int) (w : World) (h : Gt w p g) :
    Calls Try.prog 42 #[.pointer (some ⟨p, 0, none⟩), .int .i64 l] w fun e w' => e = .returned (.tuple #[]) ∧ At w w' p (wantG g l) := by
  have f1 := h.f 1
  have c1 := h.c1
  have hb : ∀ x, max l 0 = x → At w (w.setCell ⟨p, 1, none⟩ (.int .i64 x)) p (wantG g l) := fun x hx => by
    subst hx; exact ⟨h.s1 _, (Turns.refl (· = p) w).setCell (.inl rfl) _⟩
  have HB := Lib.hid hb
  clear hb
  by_cases hl : l < 0
  all_goals
    go_enter Try.func42, Try.ntmps42
    go_wp2
    go_end0
    exact ⟨rfl, HB.out _ (by omega)⟩

theorem shut (p : Nat) (g : G) (w : World) (h : Gt w p g) (ho : g.ok) :
    Calls Try.prog 21 #[.pointer (some ⟨p, 0, none⟩)] w fun e w' => e = .returned (.tuple #[]) ∧ At w w' p (shutG g) := by
  have c2 := h.c2
  have c5 := h.c5
  have f2 := h.f 2
  have f5 := h.f 5
  have s0 := ho.s0
  have s1 := ho.s1
  have hb1 : g.o = true → At w ((w.setCell ⟨p, 5, none⟩ (.int .i64 (g.s + 1))).setCell ⟨p, 2, none⟩ (.bool false)) p (shutG g) := fun hx => by
    unfold shutG; rw [if_pos hx]
    exact ⟨(h.s5 _).s2 _, ((Turns.refl (· = p) w).setCell (.inl rfl) _).setCell (.inl rfl) _⟩
  have hb2 : g.o = false → At w (w.setCell ⟨p, 2, none⟩ (.bool false)) p (shutG g) := fun hx => by
    unfold shutG; rw [if_neg (by simp [hx])]
    exact ⟨h.s2 _, (Turns.refl (· = p) w).setCell (.inl rfl) _⟩
  have HB1 := Lib.hid hb1
  have HB2 := Lib.hid hb2
  clear hb1 hb2 h ho
  obtain ⟨v, m, o, a, b, s, t⟩ := g
  dsimp only at *
  cases o
  · go_enter Try.func21, Try.ntmps21
    go_wp2
    go_end0
    exact ⟨rfl, HB2.out (by trivial)⟩
  · go_enter Try.func21, Try.ntmps21
    go_wp2
    go_end0
    exact ⟨rfl, HB1.out (by trivial)⟩


theorem turn (p : Nat) (g : G) (l : Int) (w : World) (h : Gt w p g) (ho : g.ok) :
    Calls Try.prog 45 #[.pointer (some ⟨p, 0, none⟩), .int .i64 l] w fun e w' => e = .returned (.tuple #[]) ∧ At w w' p (turnG g l) := by
  have c0 := h.c0
  have c2 := h.c2
  have c3 := h.c3
  have c6 := h.c6
  have f2 := h.f 2
  have f3 := h.f 3
  have f6 := h.f 6
  have t0 := ho.t0
  have t1 := ho.t1
  have hb1 : (g.v && g.o && (g.a != l)) = true → At w (((w.setCell ⟨p, 6, none⟩ (.int .i64 (g.t + 1))).setCell ⟨p, 2, none⟩ (.bool true)).setCell ⟨p, 3, none⟩ (.int .i64 l)) p (turnG g l) := fun hx => by
    unfold turnG; rw [if_pos hx]
    exact ⟨((h.s6 _).s2 _).s3 _, (((Turns.refl (· = p) w).setCell (.inl rfl) _).setCell (.inl rfl) _).setCell (.inl rfl) _⟩
  have hb2 : (g.v && g.o && (g.a != l)) = false → At w ((w.setCell ⟨p, 2, none⟩ (.bool true)).setCell ⟨p, 3, none⟩ (.int .i64 l)) p (turnG g l) := fun hx => by
    unfold turnG; rw [if_neg (by simp [hx])]
    exact ⟨(h.s2 _).s3 _, ((Turns.refl (· = p) w).setCell (.inl rfl) _).setCell (.inl rfl) _⟩
  have HB1 := Lib.hid hb1
  have HB2 := Lib.hid hb2
  clear hb1 hb2 h ho
  obtain ⟨v, m, o, a, b, s, t⟩ := g
  dsimp only at *
  by_cases ha : a = l
  · subst ha
    cases v <;> cases o
    all_goals
      go_enter Try.func45, Try.ntmps45
      go_wp2
      go_end0
      exact ⟨rfl, HB2.out (by simp)⟩
  · have hne : (a != l) = true := by simpa using ha
    cases v <;> cases o
    case true.true =>
      go_enter Try.func45, Try.ntmps45
      go_wp2
      go_end0
      exact ⟨rfl, HB1.out (by simpa using ha)⟩
    all_goals
      go_enter Try.func45, Try.ntmps45
      go_wp2
      go_end0
      exact ⟨rfl, HB2.out (by simp)⟩

theorem needs (p : Nat) (g : G) (w : World) (h : Gt w p g) :
    Calls Try.prog 22 #[.pointer (some ⟨p, 0, none⟩)] w fun e w' => e = .returned (.tuple #[.int .i64 (if needsB g = true then g.m else 0), .bool (needsB g)]) ∧ w = w' := by
  have c0 := h.c0
  have c1 := h.c1
  have c4 := h.c4
  have HI := Lib.hid (isAt p g g.m w h)
  have HE : Hid (needsB g = !(!g.v || g.p || isAtB g g.m)) := Lib.hid rfl
  clear h
  rw [HE.out]
  generalize isAtB g g.m = q at *
  obtain ⟨v, m, o, a, b, s, t⟩ := g
  cases v <;> cases b <;> cases q
  all_goals
    go_enter Try.func22, Try.ntmps22
    go_wp2_with ((go_at_call 44; (with_reducible refine (HI.out).mono ?_); rintro e w' ⟨rfl, rfl⟩))
    go_ret2
    exact ⟨rfl, rfl⟩

theorem pass (p : Nat) (g : G) (l : Int) (k : Bool) (w : World) (h : Gt w p g) (ho : g.ok) :
    Calls Try.prog 20 #[.pointer (some ⟨p, 0, none⟩), .int .i64 l, .bool k] w fun e w' => e = .returned (.bool (passB g l k)) ∧ At w w' p (passG g l k) := by
  have c0 := h.c0
  have c1 := h.c1
  have c4 := h.c4
  have HI := Lib.hid (isAt p g l w h)
  have HT := Lib.hid (turn p g l w h ho)
  have HR := Lib.hid (And.intro h (Turns.refl (· = p) w))
  by_cases hp : g.p = true
  · have e1 : passB g l k = false := by simp [passB, hp]
    have e2 : passG g l k = g := by simp [passG, hp]
    rw [e1, e2]
    rw [hp] at c4
    clear h ho
    go_enter Try.func20, Try.ntmps20
    go_wp2
    go_ret
    exact ⟨rfl, HR.out⟩
  · have hp' : g.p = false := by simpa using hp
    rw [hp'] at c4
    by_cases hg : goesB g l k = true
    · have e1 : passB g l k = isAtB g l := by simp [passB, hp, hg]
      have e2 : passG g l k = g := by simp [passG, hp, hg]
      rw [e1, e2]
      have hv : g.v = true := by unfold goesB at hg; revert hg; cases g.v <;> simp
      rw [hv] at c0
      have hk : (k && (l == g.m)) = false := by unfold goesB at hg; revert hg; cases (k && (l == g.m)) <;> simp
      clear h ho hg e1 e2 hp hp' hv HT
      generalize g.m = m at *
      cases k
      · clear hk
        go_enter Try.func20, Try.ntmps20
        go_wp2_with ((go_at_call 44; (with_reducible refine (HI.out).mono ?_); rintro e w' ⟨rfl, rfl⟩))
        go_ret
        exact ⟨rfl, HR.out⟩
      · have hne : (l == m) = false := by simpa using hk
        clear hk
        go_enter Try.func20, Try.ntmps20
        go_wp2_with ((go_at_call 44; (with_reducible refine (HI.out).mono ?_); rintro e w' ⟨rfl, rfl⟩))
        go_ret
        exact ⟨rfl, HR.out⟩
    · have e1 : passB g l k = true := by simp [passB, hp, hg]
      have e2 : passG g l k = turnG g l := by simp [passG, hp, hg]
      rw [e1, e2]
      have hg' : goesB g l k = false := by simpa using hg
      unfold goesB at hg'
      clear h ho hg e1 e2 hp hp' HI HR
      generalize g.m = m at *
      generalize g.v = v at *
      cases v
      · clear hg'
        go_enter Try.func20, Try.ntmps20
        go_wp2_with ((go_at_call 45; (with_reducible refine (HT.out).mono ?_); rintro e w' ⟨rfl, ht⟩))
        go_ret
        exact ⟨rfl, ht⟩
      · have hkt : k = true ∧ l = m := by simpa using hg'
        obtain ⟨rfl, rfl⟩ := hkt
        clear hg'
        go_enter Try.func20, Try.ntmps20
        go_wp2_with ((go_at_call 45; (with_reducible refine (HT.out).mono ?_); rintro e w' ⟨rfl, ht⟩))
        go_ret
        exact ⟨rfl, ht⟩

def fresh (v : Bool) (m : Int) : G := ⟨v, max m 0, false, 0, false, 0, 0⟩
theorem new (v : Bool) (m : Int) (w : World) :
    Calls Try.prog 18 #[.bool v, .int .i64 m] w fun e w' => e = .returned (.pointer (some ⟨w.heap.size, 0, none⟩)) ∧ Gt w' w.heap.size (fresh v m) ∧ New w w' := by
  have h0 : Gt (w.alloc (.cells #[.bool v, .int .i64 0, .bool false, .int .i64 0, .bool false, .int .i64 0, .int .i64 0] 84)) w.heap.size ⟨v, 0, false, 0, false, 0, 0⟩ := Blk.new w _ _
  have HN : Hid (New w (w.alloc (.cells #[.bool v, .int .i64 0, .bool false, .int .i64 0, .bool false, .int .i64 0, .int .i64 0] 84))) := Lib.hid ((Turns.refl _ _).alloc _)
  have HW := Lib.hid (want w.heap.size _ m _ h0)
  clear h0
  go_enter Try.func18, Try.ntmps18
  go_wp2_with fail
  refine HW.out.mono ?_
  rintro e w1 ⟨rfl, h1⟩
  have H1 := Lib.hid h1
  clear h1
  go_wp2
  go_ret
  exact ⟨rfl, H1.out.1, new_at HN.out H1.out (Nat.le_refl _)⟩
end Go.Proofs.Ytfhbcdjbfjoknaa.gat
