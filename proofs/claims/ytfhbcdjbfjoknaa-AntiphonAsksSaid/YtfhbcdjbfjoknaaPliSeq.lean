/-
  pli.Asker: what each call answers, and what it leaves.
-/
import Derived.Test.YtfhbcdjbfjoknaaRows
import Derived.Test.YtfhbcdjbfjoknaaMem
import Derived.Handy
import Derived.Outline
import Derived.Lib.Hide
import Derived.RegionTactic
import Derived.Deep.RegionHeld3
import Derived.Deep.QuietTactic
import Derived.BigQuiet
import Derived.Deep.DeepCutAuto
namespace Go.Proofs.Ytfhbcdjbfjoknaa.pli
open Go.RowKit mem
set_option linter.unusedVariables false

structure Q where
  first : Int
  most : Int
  wanted : Bool
  wait : Int
  due : Int
  sent : Int
deriving DecidableEq

/-- the values that come about -/
structure Q.ok (s : Q) : Prop where
  f0 : 1 ≤ s.first
  f1 : s.first ≤ s.most
  m1 : s.most ≤ 1073741824
  w0 : 0 ≤ s.wait
  w1 : s.wait ≤ 1073741824
  s0 : 0 ≤ s.sent
  s1 : s.sent ≤ 1048576

abbrev New (w w' : World) : Prop := Turns (fun _ => False) w w'
abbrev Q.cells (s : Q) : Array Value := #[.int .i64 s.first, .int .i64 s.most, .bool s.wanted, .int .i64 s.wait, .int .i64 s.due, .int .i64 s.sent]
def Sq (w : World) (p : Nat) (s : Q) : Prop := Blk w p s.cells 86

section
variable {w : World} {p : Nat} {s : Q} (h : Sq w p s)
include h
theorem Sq.c0 : w.cell? ⟨p, 0, none⟩ = some (.int .i64 s.first) := h.cell 0
theorem Sq.c1 : w.cell? ⟨p, 1, none⟩ = some (.int .i64 s.most) := h.cell 1
theorem Sq.c2 : w.cell? ⟨p, 2, none⟩ = some (.bool s.wanted) := h.cell 2
theorem Sq.c3 : w.cell? ⟨p, 3, none⟩ = some (.int .i64 s.wait) := h.cell 3
theorem Sq.c4 : w.cell? ⟨p, 4, none⟩ = some (.int .i64 s.due) := h.cell 4
theorem Sq.c5 : w.cell? ⟨p, 5, none⟩ = some (.int .i64 s.sent) := h.cell 5
theorem Sq.f2 : w.frozen? ⟨p, 2, none⟩ = false := h.free 2
theorem Sq.f3 : w.frozen? ⟨p, 3, none⟩ = false := h.free 3
theorem Sq.f4 : w.frozen? ⟨p, 4, none⟩ = false := h.free 4
theorem Sq.f5 : w.frozen? ⟨p, 5, none⟩ = false := h.free 5
theorem Sq.s2 (v : Bool) : Sq (w.setCell ⟨p, 2, none⟩ (.bool v)) p { s with wanted := v } := h.set 2 _
theorem Sq.s3 (v : Int) : Sq (w.setCell ⟨p, 3, none⟩ (.int .i64 v)) p { s with wait := v } := h.set 3 _
theorem Sq.s4 (v : Int) : Sq (w.setCell ⟨p, 4, none⟩ (.int .i64 v)) p { s with due := v } := h.set 4 _
theorem Sq.s5 (v : Int) : Sq (w.setCell ⟨p, 5, none⟩ (.int .i64 v)) p { s with sent := v } := h.set 5 _
theorem Sq.lt : p < w.heap.size := Blk.lt h
theorem Sq.turns {S : Nat → Prop} {w' : World} (ht : Turns S w w') (hp : ¬ S p) : Sq w' p s := ht.blk h hp
end

abbrev At (w w' : World) (p : Nat) (s : Q) : Prop := Sq w' p s ∧ Turns (· = p) w w'
theorem At.same {w : World} {p : Nat} {s : Q} (h : Sq w p s) : At w w p s := ⟨h, Turns.refl _ _⟩
theorem At.trans {w w1 w2 : World} {p : Nat} {s t : Q} (h1 : At w w1 p s) (h2 : At w1 w2 p t) : At w w2 p t :=
  ⟨h2.1, h1.2.trans (h2.2.mono (fun _ _ h => .inl h))⟩

theorem At.of_drew {w w1 : World} {p : Nat} {s : Q} (h : At w.drew w1 p s) : At w w1 p s := ⟨h.1, h.2.of_drew⟩

def askQ (s : Q) (now wait : Int) : Q := { s with wait := wait, due := now + wait, sent := s.sent + 1 }
def tickB (s : Q) (now : Int) : Bool := s.wanted && !decide (now < s.due)
def tickQ (s : Q) (now : Int) : Q := if tickB s now = true then askQ s now (min (2 * s.wait) s.most) else s
def wantB (s : Q) (on : Bool) (now : Int) : Bool := on && (!s.wanted || tickB s now)
def wantQ (s : Q) (on : Bool) (now : Int) : Q :=
  if on = true then (if s.wanted = true then tickQ s now else askQ { s with wanted := true } now s.first) else { s with wanted := false }

theorem wanted (p : Nat) (s : Q) (w : World) (h : Sq w p s) :
    Calls Try.prog 24 #[.pointer (some ⟨p, 0, none⟩)] w fun e w' => e = .returned (.bool s.wanted) ∧ w' = w := by
  have h0 := h.c2
  go_enter Try.func24, Try.ntmps24
  go_wp2
  go_ret
  exact ⟨rfl, rfl⟩

theorem sent (p : Nat) (s : Q) (w : World) (h : Sq w p s) :
    Calls Try.prog 25 #[.pointer (some ⟨p, 0, none⟩)] w fun e w' => e = .returned (.int .i64 s.sent) ∧ w' = w := by
  have h0 := h.c5
  go_enter Try.func25, Try.ntmps25
  go_wp2
  go_ret
  exact ⟨rfl, rfl⟩


theorem ask (p : Nat) (s : Q) (now wait : Int) (w : World) (h : Sq w p s) (hs0 : 0 ≤ s.sent) (hs1 : s.sent ≤ 1048576) (n0 : 0 ≤ now) (n1 : now ≤ 4398046511104) (w0 : 0 ≤ wait) (w1 : wait ≤ 1073741824) :
    Calls Try.prog 47 #[.pointer (some ⟨p, 0, none⟩), .int .i64 now, .int .i64 wait] w fun e w' => e = .returned (.tuple #[]) ∧ At w w' p (askQ s now wait) := by
  have c3 := h.c3
  have c4 := h.c4
  have c5 := h.c5
  have f3 := h.f3
  have f4 := h.f4
  have f5 := h.f5
  have HB : Hid (At w (((w.setCell ⟨p, 3, none⟩ (.int .i64 wait)).setCell ⟨p, 4, none⟩ (.int .i64 (now + wait))).setCell ⟨p, 5, none⟩ (.int .i64 (s.sent + 1))) p (askQ s now wait)) :=
    Lib.hid ⟨((h.s3 _).s4 _).s5 _, (((Turns.refl (· = p) w).setCell (.inl rfl) _).setCell (.inl rfl) _).setCell (.inl rfl) _⟩
  go_enter Try.func47, Try.ntmps47
  go_wp2
  go_end0
  exact ⟨rfl, HB.out⟩

theorem min_bd {s : Q} (ho : s.ok) : 0 ≤ min (2 * s.wait) s.most ∧ min (2 * s.wait) s.most ≤ 1073741824 := by
  obtain ⟨h1, h2, h3, h4, h5, h6, h7⟩ := ho
  omega

theorem tick (p : Nat) (s : Q) (now : Int) (w : World) (h : Sq w p s) (ho : s.ok) (n0 : 0 ≤ now) (n1 : now ≤ 4398046511104) :
    Calls Try.prog 46 #[.pointer (some ⟨p, 0, none⟩), .int .i64 now] w fun e w' => e = .returned (.bool (tickB s now)) ∧ At w w' p (tickQ s now) := by
  have c1 := h.c1
  have c2 := h.c2
  have c3 := h.c3
  have c4 := h.c4
  cases hw : s.wanted
  · have HE : Hid (tickB s now = false ∧ tickQ s now = s) := Lib.hid (by simp [tickB, tickQ, hw])
    rw [HE.out.1, HE.out.2]
    rw [hw] at c2
    clear hw ho
    go_enter Try.func46, Try.ntmps46
    go_wp2
    go_ret
    exact ⟨rfl, At.same h⟩
  · by_cases hd : now < s.due
    · have HE : Hid (tickB s now = false ∧ tickQ s now = s) := Lib.hid (by simp [tickB, tickQ, hw, hd])
      rw [HE.out.1, HE.out.2]
      rw [hw] at c2
      clear hw ho
      go_enter Try.func46, Try.ntmps46
      go_wp2
      go_ret
      exact ⟨rfl, At.same h⟩
    · have HE : Hid (tickB s now = true ∧ tickQ s now = askQ s now (min (2 * s.wait) s.most)) := Lib.hid (by simp [tickB, tickQ, hw, hd])
      rw [HE.out.1, HE.out.2]
      rw [hw] at c2
      have hb := min_bd ho
      have w0 := ho.w0
      have w1 := ho.w1
      have HA := Lib.hid (fun wq (n : New w wq) => ask p s now (min (2 * s.wait) s.most) wq (h.turns n (fun h => h)) ho.s0 ho.s1 n0 n1 hb.1 hb.2)
      clear hw ho hb h
      obtain ⟨db, hdb⟩ : ∃ db, db = 2 * s.wait := ⟨_, rfl⟩
      have s1 : IntKind.i64.wrap (2 * s.wait) = db := by rw [hdb]; exact IntWalk.i64_in _ (by omega)
      have hmn : (if s.most < db then s.most else db) = min (2 * s.wait) s.most := by omega
      clear hdb
      generalize s.wait = wt at *
      generalize s.due = du at *
      generalize s.most = mo at *
      generalize min (2 * wt) mo = mn at *
      go_enter Try.func46, Try.ntmps46
      go_wp2_with fail
      go_region_with (go_at_call 47; (with_reducible refine Calls.mono (HA.out _ ?_) ?_); (focus (exact (Turns.refl _ _).drew)); rintro e w1 ⟨rfl, ha⟩)
      all_goals
        go_wp2
        go_ret
        exact ⟨rfl, ha.of_drew⟩

theorem want (p : Nat) (s : Q) (on : Bool) (now : Int) (w : World) (h : Sq w p s) (ho : s.ok) (n0 : 0 ≤ now) (n1 : now ≤ 4398046511104) :
    Calls Try.prog 23 #[.pointer (some ⟨p, 0, none⟩), .bool on, .int .i64 now] w fun e w' => e = .returned (.bool (wantB s on now)) ∧ At w w' p (wantQ s on now) := by
  have c0 := h.c0
  have c2 := h.c2
  have f2 := h.f2
  cases on
  · have HE : Hid (wantB s false now = false ∧ wantQ s false now = { s with wanted := false }) := Lib.hid (by simp [wantB, wantQ])
    rw [HE.out.1, HE.out.2]
    have HB : Hid (At w (w.setCell ⟨p, 2, none⟩ (.bool false)) p { s with wanted := false }) := Lib.hid ⟨h.s2 _, (Turns.refl (· = p) w).setCell (.inl rfl) _⟩
    clear ho h
    go_enter Try.func23, Try.ntmps23
    go_wp2
    go_ret
    exact ⟨rfl, HB.out⟩
  · cases hw : s.wanted
    · have HE : Hid (wantB s true now = true ∧ wantQ s true now = askQ { s with wanted := true } now s.first) := Lib.hid (by simp [wantB, wantQ, hw])
      rw [HE.out.1, HE.out.2]
      rw [hw] at c2
      have hb : At w (w.setCell ⟨p, 2, none⟩ (.bool true)) p { s with wanted := true } := ⟨h.s2 _, (Turns.refl (· = p) w).setCell (.inl rfl) _⟩
      have HB := Lib.hid hb
      have HC : Hid ((w.setCell ⟨p, 2, none⟩ (.bool true)).cell? ⟨p, 0, none⟩ = some (.int .i64 s.first)) := Lib.hid hb.1.c0
      have HA := Lib.hid (ask p { s with wanted := true } now s.first _ hb.1 ho.s0 ho.s1 n0 n1 (by have := ho.f0; omega) (by have := ho.f1; have := ho.m1; omega))
      clear hw ho hb h
      go_enter Try.func23, Try.ntmps23
      go_wp2_with fail
      refine HA.out.mono ?_
      rintro e w1 ⟨rfl, ha⟩
      go_wp2
      go_ret
      exact ⟨rfl, HB.out.trans ha⟩
    · have HE : Hid (wantB s true now = tickB s now ∧ wantQ s true now = tickQ s now) := Lib.hid (by simp [wantB, wantQ, hw])
      rw [HE.out.1, HE.out.2]
      rw [hw] at c2
      have HA := Lib.hid (tick p s now w h ho n0 n1)
      clear hw ho h
      go_enter Try.func23, Try.ntmps23
      go_wp2_with fail
      refine HA.out.mono ?_
      rintro e w1 ⟨rfl, ha⟩
      go_wp2
      go_ret
      exact ⟨rfl, ha⟩

abbrev CT : TypeId := 49
abbrev Va (a b : Int) : Prop := 1 ≤ a ∧ a ≤ b ∧ b ≤ 1073741824
abbrev fresh (a b : Int) : Q := ⟨a, b, false, 0, 0, 0⟩
abbrev cfg (a b : Int) : Array Value := #[.int .i64 a, .int .i64 b]

theorem check_bad (a b : Int) (w : World) (h : ¬ Va a b) :
    Calls Try.prog 43 #[.agg (cfg a b)] w fun e w' => e = .returned (.int .i64 5) ∧ New w w' := by
  have hb : Blk (w.alloc (.cells (cfg a b) CT)) w.heap.size (cfg a b) CT := Blk.new _ _ _
  have c0 : (w.alloc (.cells (cfg a b) CT)).cell? ⟨w.heap.size, 0, none⟩ = some (.int .i64 a) := hb.cell 0
  have c1 : (w.alloc (.cells (cfg a b) CT)).cell? ⟨w.heap.size, 1, none⟩ = some (.int .i64 b) := hb.cell 1
  have HN : Hid (New w (w.alloc (.cells (cfg a b) CT))) := Lib.hid ((Turns.refl _ _).alloc _)
  clear hb
  go_enter Try.func43, Try.ntmps43
  by_cases l0 : a < 1
  · have dl0 : decide (a < 1) = true := decide_eq_true l0
    clear h l0
    go_wp2
    go_ret
    exact ⟨rfl, HN.out⟩
  · have dl0 : decide (a < 1) = false := decide_eq_false l0
    by_cases u0 : b < a
    · have du0 : decide (b < a) = true := decide_eq_true u0
      clear h u0
      go_wp2
      go_ret
      exact ⟨rfl, HN.out⟩
    · have du0 : decide (b < a) = false := decide_eq_false u0
      by_cases l1 : 1073741824 < b
      · have dl1 : decide (1073741824 < b) = true := decide_eq_true l1
        clear h l1
        go_wp2
        go_ret
        exact ⟨rfl, HN.out⟩
      · exact absurd ⟨by omega, by omega, by omega⟩ h
theorem check_ok (a b : Int) (w : World) (h : Va a b) :
    Calls Try.prog 43 #[.agg (cfg a b)] w fun e w' => e = .returned (.int .i64 0) ∧ New w w' := by
  have hb : Blk (w.alloc (.cells (cfg a b) CT)) w.heap.size (cfg a b) CT := Blk.new _ _ _
  have c0 : (w.alloc (.cells (cfg a b) CT)).cell? ⟨w.heap.size, 0, none⟩ = some (.int .i64 a) := hb.cell 0
  have c1 : (w.alloc (.cells (cfg a b) CT)).cell? ⟨w.heap.size, 1, none⟩ = some (.int .i64 b) := hb.cell 1
  have HN : Hid (New w (w.alloc (.cells (cfg a b) CT))) := Lib.hid ((Turns.refl _ _).alloc _)
  obtain ⟨h0, h1, h2⟩ := h
  have dl0 : decide (a < 1) = false := decide_eq_false (by omega)
  have du0 : decide (b < a) = false := decide_eq_false (by omega)
  have dl1 : decide (1073741824 < b) = false := decide_eq_false (by omega)
  clear hb h0 h1 h2
  go_enter Try.func43, Try.ntmps43
  go_wp2
  go_ret
  exact ⟨rfl, HN.out⟩
end Go.Proofs.Ytfhbcdjbfjoknaa.pli
