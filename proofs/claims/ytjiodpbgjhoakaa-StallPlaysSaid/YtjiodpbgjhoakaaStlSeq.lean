/-
  stall.Dog: what each call answers, and what it leaves.
-/
import Derived.Test.YtjiodpbgjhoakaaRows
import Derived.Test.YtjiodpbgjhoakaaMem
import Derived.Handy
import Derived.Outline
import Derived.Lib.Hide
import Derived.RegionTactic
import Derived.Deep.RegionHeld3
import Derived.Deep.QuietTactic
import Derived.BigQuiet
import Derived.Deep.DeepCutAuto
namespace Go.Proofs.Ytjiodpbgjhoakaa.stl
open Go.RowKit mem
set_option linter.unusedVariables false

structure Q where
  after : Int
  rest : Int
  susp : Bool
  recd : Bool
  since : Int
  times : Int
deriving DecidableEq

/-- the values that come about -/
structure Q.ok (s : Q) : Prop where
  a0 : 1 ≤ s.after
  a1 : s.after ≤ 1099511627776
  r0 : 1 ≤ s.rest
  r1 : s.rest ≤ 1099511627776
  s0 : 0 ≤ s.since
  s1 : s.since ≤ 4398046511104
  t0 : 0 ≤ s.times
  t1 : s.times ≤ 1048576

abbrev New (w w' : World) : Prop := Turns (fun _ => False) w w'
abbrev Q.cells (s : Q) : Array Value := #[.int .i64 s.after, .int .i64 s.rest, .bool s.susp, .bool s.recd, .int .i64 s.since, .int .i64 s.times]
def Sq (w : World) (p : Nat) (s : Q) : Prop := Blk w p s.cells 83

section
variable {w : World} {p : Nat} {s : Q} (h : Sq w p s)
include h
theorem Sq.c0 : w.cell? ⟨p, 0, none⟩ = some (.int .i64 s.after) := h.cell 0
theorem Sq.c1 : w.cell? ⟨p, 1, none⟩ = some (.int .i64 s.rest) := h.cell 1
theorem Sq.c2 : w.cell? ⟨p, 2, none⟩ = some (.bool s.susp) := h.cell 2
theorem Sq.c3 : w.cell? ⟨p, 3, none⟩ = some (.bool s.recd) := h.cell 3
theorem Sq.c4 : w.cell? ⟨p, 4, none⟩ = some (.int .i64 s.since) := h.cell 4
theorem Sq.c5 : w.cell? ⟨p, 5, none⟩ = some (.int .i64 s.times) := h.cell 5
theorem Sq.f2 : w.frozen? ⟨p, 2, none⟩ = false := h.free 2
theorem Sq.f3 : w.frozen? ⟨p, 3, none⟩ = false := h.free 3
theorem Sq.f4 : w.frozen? ⟨p, 4, none⟩ = false := h.free 4
theorem Sq.f5 : w.frozen? ⟨p, 5, none⟩ = false := h.free 5
theorem Sq.s2 (v : Bool) : Sq (w.setCell ⟨p, 2, none⟩ (.bool v)) p { s with susp := v } := h.set 2 _
theorem Sq.s3 (v : Bool) : Sq (w.setCell ⟨p, 3, none⟩ (.bool v)) p { s with recd := v } := h.set 3 _
theorem Sq.s4 (v : Int) : Sq (w.setCell ⟨p, 4, none⟩ (.int .i64 v)) p { s with since := v } := h.set 4 _
theorem Sq.s5 (v : Int) : Sq (w.setCell ⟨p, 5, none⟩ (.int .i64 v)) p { s with times := v } := h.set 5 _
theorem Sq.lt : p < w.heap.size := Blk.lt h
theorem Sq.turns {S : Nat → Prop} {w' : World} (ht : Turns S w w') (hp : ¬ S p) : Sq w' p s := ht.blk h hp
end

abbrev At (w w' : World) (p : Nat) (s : Q) : Prop := Sq w' p s ∧ Turns (· = p) w w'
theorem At.same {w : World} {p : Nat} {s : Q} (h : Sq w p s) : At w w p s := ⟨h, Turns.refl _ _⟩
theorem At.drew {w w1 : World} {p : Nat} {s : Q} (h : At w w1 p s) : At w w1.drew p s := ⟨h.1, h.2.drew⟩
theorem At.trans {w w1 w2 : World} {p : Nat} {s t : Q} (h1 : At w w1 p s) (h2 : At w1 w2 p t) : At w w2 p t :=
  ⟨h2.1, h1.2.trans (h2.2.mono (fun _ _ h => .inl h))⟩

def restQ (s : Q) (now : Int) : Q := if now - s.since < s.rest then s else { s with susp := false }
def restA (s : Q) (now : Int) : Int := if now - s.since < s.rest then 0 else 2
def noteQ (s : Q) (now : Int) (sent : Bool) : Q := if sent = true ∨ s.recd = false then { s with recd := true, since := now } else s
def lateQ (s : Q) (now : Int) : Q := if now - s.since < s.after then s else { s with susp := true, recd := false, since := now, times := s.times + 1 }
def lateA (s : Q) (now : Int) : Int := if now - s.since < s.after then 0 else 1
def tickQ (s : Q) (now : Int) (waits sent : Bool) : Q := if s.susp = true then restQ s now else if waits = false then { s with recd := false } else lateQ (noteQ s now sent) now
def tickA (s : Q) (now : Int) (waits sent : Bool) : Int := if s.susp = true then restA s now else if waits = false then 0 else lateA (noteQ s now sent) now

theorem suspended (p : Nat) (s : Q) (w : World) (h : Sq w p s) :
    Calls Try.prog 29 #[.pointer (some ⟨p, 0, none⟩)] w fun e w' => e = .returned (.bool s.susp) ∧ w' = w := by
  have h0 := h.c2
  go_enter Try.func29, Try.ntmps29
  go_wp2
  go_ret
  exact ⟨rfl, rfl⟩

theorem times (p : Nat) (s : Q) (w : World) (h : Sq w p s) :
    Calls Try.prog 30 #[.pointer (some ⟨p, 0, none⟩)] w fun e w' => e = .returned (.int .i64 s.times) ∧ w' = w := by
  have h0 := h.c5
  go_enter Try.func30, Try.ntmps30
  go_wp2
  go_ret
  exact ⟨rfl, rfl⟩

theorem rest (p : Nat) (s : Q) (now : Int) (w : World) (h : Sq w p s) (ho : s.ok) (n0 : 0 ≤ now) (n1 : now ≤ 4398046511104) :
    Calls Try.prog 42 #[.pointer (some ⟨p, 0, none⟩), .int .i64 now] w fun e w' => e = .returned (.int .i64 (restA s now)) ∧ At w w' p (restQ s now) := by
  have c1 := h.c1
  have c2 := h.c2
  have c4 := h.c4
  have f2 := h.f2
  have s0 := ho.s0
  have s1 := ho.s1
  by_cases hl : now - s.since < s.rest
  · have HE : Hid (restA s now = 0 ∧ restQ s now = s) := Lib.hid (by simp [restA, restQ, hl])
    rw [HE.out.1, HE.out.2]
    have HB : Hid (At w w p s) := Lib.hid (At.same h)
    clear ho h
    generalize s.since = si at *
    generalize s.rest = re at *
    go_enter Try.func42, Try.ntmps42
    go_wp2
    go_region
    all_goals
      go_wp2
      go_ret
      exact ⟨rfl, by repeat (first | exact HB.out | refine At.drew ?_)⟩
  · have HE : Hid (restA s now = 2 ∧ restQ s now = { s with susp := false }) := Lib.hid (by simp [restA, restQ, hl])
    rw [HE.out.1, HE.out.2]
    have HB : Hid (At w (w.setCell ⟨p, 2, none⟩ (.bool false)) p { s with susp := false }) := Lib.hid ⟨h.s2 _, (Turns.refl (· = p) w).setCell (.inl rfl) _⟩
    clear ho h
    generalize s.since = si at *
    generalize s.rest = re at *
    go_enter Try.func42, Try.ntmps42
    go_wp2
    go_region
    all_goals
      go_wp2
      go_ret
      exact ⟨rfl, by repeat (first | exact HB.out | refine At.drew ?_)⟩

set_option maxHeartbeats 1000000 in
theorem tick (p : Nat) (s : Q) (now : Int) (waits sent : Bool) (w : World) (h : Sq w p s) (ho : s.ok) (n0 : 0 ≤ now) (n1 : now ≤ 4398046511104) :
    Calls Try.prog 27 #[.pointer (some ⟨p, 0, none⟩), .int .i64 now, .bool waits, .bool sent] w fun e w' => e = .returned (.int .i64 (tickA s now waits sent)) ∧ At w w' p (tickQ s now waits sent) := by
  have c0 := h.c0
  have c2 := h.c2
  have c3 := h.c3
  have c4 := h.c4
  have c5 := h.c5
  have f2 := h.f2
  have f3 := h.f3
  have f4 := h.f4
  have f5 := h.f5
  have s0 := ho.s0
  have s1 := ho.s1
  have t0 := ho.t0
  have t1 := ho.t1
  have a0 := ho.a0
  cases hs : s.susp
  · rw [hs] at c2
    cases waits
    · have HE : Hid (tickA s now false sent = 0 ∧ tickQ s now false sent = { s with recd := false }) := Lib.hid (by simp [tickA, tickQ, hs])
      rw [HE.out.1, HE.out.2]
      have HB : Hid (At w (w.setCell ⟨p, 3, none⟩ (.bool false)) p { s with recd := false }) := Lib.hid ⟨h.s3 _, (Turns.refl (· = p) w).setCell (.inl rfl) _⟩
      clear ho h hs
      go_enter Try.func27, Try.ntmps27
      go_wp2
      go_ret
      exact ⟨rfl, by repeat (first | exact HB.out | refine At.drew ?_)⟩
    · have HE : Hid (tickA s now true sent = lateA (noteQ s now sent) now ∧ tickQ s now true sent = lateQ (noteQ s now sent) now) := Lib.hid (by simp [tickA, tickQ, hs])
      rw [HE.out.1, HE.out.2]
      by_cases hn : sent = true ∨ s.recd = false
      · have HN : Hid (noteQ s now sent = { s with recd := true, since := now }) := Lib.hid (by simp only [noteQ, if_pos hn])
        rw [HN.out]
        by_cases hl : now - now < s.after
        · have HE : Hid (lateA { s with recd := true, since := now } now = 0 ∧ lateQ { s with recd := true, since := now } now = { s with recd := true, since := now }) := Lib.hid (by simp only [lateA, lateQ, if_pos hl, and_self])
          rw [HE.out.1, HE.out.2]
          have HB : Hid (At w ((w.setCell ⟨p, 3, none⟩ (.bool true)).setCell ⟨p, 4, none⟩ (.int .i64 now)) p { s with recd := true, since := now }) := Lib.hid ⟨(h.s3 _).s4 _, ((Turns.refl (· = p) w).setCell (.inl rfl) _).setCell (.inl rfl) _⟩
          have hn' := hn
          clear ho h hs hn HE HN
          generalize s.after = af at *
          generalize s.recd = re at *
          have d1 : decide ((0 : Int) < af) = true := decide_eq_true (by omega)
          cases sent
          · have hre : re = false := by simpa using hn'
            subst hre
            clear hn'
            go_enter Try.func27, Try.ntmps27
            go_wp2
            go_region
            all_goals
              go_wp2
              go_ret
              exact ⟨rfl, by repeat (first | exact HB.out | refine At.drew ?_)⟩
          · clear hn'
            go_enter Try.func27, Try.ntmps27
            go_wp2
            go_region
            all_goals
              go_wp2
              go_ret
              exact ⟨rfl, by repeat (first | exact HB.out | refine At.drew ?_)⟩
        · omega
      · have hn1 : sent = false := by simpa using (fun h => hn (.inl h))
        have hn2 : s.recd = true := by simpa using (fun h => hn (.inr h))
        have HN : Hid (noteQ s now sent = s) := Lib.hid (by simp only [noteQ, if_neg hn])
        rw [HN.out]
        rw [hn2] at c3
        subst hn1
        clear hn HN
        by_cases hl : now - s.since < s.after
        · have HE : Hid (lateA s now = 0 ∧ lateQ s now = s) := Lib.hid (by simp only [lateA, lateQ, if_pos hl, and_self])
          rw [HE.out.1, HE.out.2]
          have HB : Hid (At w w p s) := Lib.hid (At.same h)
          clear ho h hs hn2
          generalize s.since = si at *
          generalize s.after = af at *
          go_enter Try.func27, Try.ntmps27
          go_wp2
          go_region
          all_goals
            go_wp2
            go_ret
            exact ⟨rfl, by repeat (first | exact HB.out | refine At.drew ?_)⟩
        · have HE : Hid (lateA s now = 1 ∧ lateQ s now = { s with susp := true, recd := false, since := now, times := s.times + 1 }) := Lib.hid (by simp only [lateA, lateQ, if_neg hl, and_self])
          rw [HE.out.1, HE.out.2]
          have HB : Hid (At w ((((w.setCell ⟨p, 2, none⟩ (.bool true)).setCell ⟨p, 3, none⟩ (.bool false)).setCell ⟨p, 4, none⟩ (.int .i64 now)).setCell ⟨p, 5, none⟩ (.int .i64 (s.times + 1))) p { s with susp := true, recd := false, since := now, times := s.times + 1 }) :=
            Lib.hid ⟨(((h.s2 _).s3 _).s4 _).s5 _, ((((Turns.refl (· = p) w).setCell (.inl rfl) _).setCell (.inl rfl) _).setCell (.inl rfl) _).setCell (.inl rfl) _⟩
          clear ho h hs hn2
          generalize s.since = si at *
          generalize s.after = af at *
          generalize s.times = ti at *
          go_enter Try.func27, Try.ntmps27
          go_wp2
          go_region
          all_goals
            go_wp2
            go_ret
            exact ⟨rfl, by repeat (first | exact HB.out | refine At.drew ?_)⟩
  · have HE : Hid (tickA s now waits sent = restA s now ∧ tickQ s now waits sent = restQ s now) := Lib.hid (by simp [tickA, tickQ, hs])
    rw [HE.out.1, HE.out.2]
    rw [hs] at c2
    have HR := Lib.hid (rest p s now w h ho n0 n1)
    clear ho h hs
    go_enter Try.func27, Try.ntmps27
    go_wp2_with fail
    refine HR.out.mono ?_
    rintro e w1 ⟨rfl, ha⟩
    go_wp2
    go_ret
    exact ⟨rfl, ha⟩

abbrev CT : TypeId := 52
abbrev Va (a b : Int) : Prop := 1 ≤ a ∧ a ≤ 1099511627776 ∧ 1 ≤ b ∧ b ≤ 1099511627776
abbrev fresh (a b : Int) : Q := ⟨a, b, false, false, 0, 0⟩
abbrev cfg (a b : Int) : Array Value := #[.int .i64 a, .int .i64 b]

theorem check_bad (a b : Int) (w : World) (h : ¬ Va a b) :
    Calls Try.prog 41 #[.agg (cfg a b)] w fun e w' => e = .returned (.int .i64 5) ∧ New w w' := by
  have hb : Blk (w.alloc (.cells (cfg a b) CT)) w.heap.size (cfg a b) CT := Blk.new _ _ _
  have c0 : (w.alloc (.cells (cfg a b) CT)).cell? ⟨w.heap.size, 0, none⟩ = some (.int .i64 a) := hb.cell 0
  have c1 : (w.alloc (.cells (cfg a b) CT)).cell? ⟨w.heap.size, 1, none⟩ = some (.int .i64 b) := hb.cell 1
  have HN : Hid (New w (w.alloc (.cells (cfg a b) CT))) := Lib.hid ((Turns.refl _ _).alloc _)
  clear hb
  go_enter Try.func41, Try.ntmps41
  by_cases l0 : a < 1
  · have dl0 : decide (a < 1) = true := decide_eq_true l0
    clear h l0
    go_wp2
    go_ret
    exact ⟨rfl, HN.out⟩
  · have dl0 : decide (a < 1) = false := decide_eq_false l0
    by_cases u0 : 1099511627776 < a
    · have du0 : decide (1099511627776 < a) = true := decide_eq_true u0
      clear h u0
      go_wp2
      go_ret
      exact ⟨rfl, HN.out⟩
    · have du0 : decide (1099511627776 < a) = false := decide_eq_false u0
      by_cases l1 : b < 1
      · have dl1 : decide (b < 1) = true := decide_eq_true l1
        clear h l1
        go_wp2
        go_ret
        exact ⟨rfl, HN.out⟩
      · have dl1 : decide (b < 1) = false := decide_eq_false l1
        by_cases u1 : 1099511627776 < b
        · have du1 : decide (1099511627776 < b) = true := decide_eq_true u1
          clear h u1
          go_wp2
          go_ret
          exact ⟨rfl, HN.out⟩
        · exact absurd ⟨by omega, by omega, by omega, by omega⟩ h
theorem check_ok (a b : Int) (w : World) (h : Va a b) :
    Calls Try.prog 41 #[.agg (cfg a b)] w fun e w' => e = .returned (.int .i64 0) ∧ New w w' := by
  have hb : Blk (w.alloc (.cells (cfg a b) CT)) w.heap.size (cfg a b) CT := Blk.new _ _ _
  have c0 : (w.alloc (.cells (cfg a b) CT)).cell? ⟨w.heap.size, 0, none⟩ = some (.int .i64 a) := hb.cell 0
  have c1 : (w.alloc (.cells (cfg a b) CT)).cell? ⟨w.heap.size, 1, none⟩ = some (.int .i64 b) := hb.cell 1
  have HN : Hid (New w (w.alloc (.cells (cfg a b) CT))) := Lib.hid ((Turns.refl _ _).alloc _)
  obtain ⟨h0, h1, h2, h3⟩ := h
  have dl0 : decide (a < 1) = false := decide_eq_false (by omega)
  have du0 : decide (1099511627776 < a) = false := decide_eq_false (by omega)
  have dl1 : decide (b < 1) = false := decide_eq_false (by omega)
  have du1 : decide (1099511627776 < b) = false := decide_eq_false (by omega)
  clear hb h0 h1 h2 h3
  go_enter Try.func41, Try.ntmps41
  go_wp2
  go_ret
  exact ⟨rfl, HN.out⟩
end Go.Proofs.Ytjiodpbgjhoakaa.stl
