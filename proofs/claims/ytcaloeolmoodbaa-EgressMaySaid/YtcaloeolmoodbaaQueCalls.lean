/-
  queue.Queue in memory: what is taken out, and dropped; the calls that only read.
-/
import Derived.Test.YtcaloeolmoodbaaQueSeq
import Derived.Test.YtcaloeolmoodbaaPuts
namespace Go.Proofs.Ytcaloeolmoodbaa.que
open Go.RowKit mem
set_option linter.unusedVariables false

abbrev QB : TypeId := 114
abbrev cellsR (f m : Int) (pv : Value) (sz : Int) (b : Bool) : Array Value := #[.int .i64 f, .int .i64 m, pv, .int .i64 sz, .bool b]

/-- a queue in block p, its items in pv -/
structure Qs (w : World) (p : Nat) (pv : Value) (q : Q) : Prop where
  blk : Blk w p (cellsR q.frames q.most pv (sumL q.L) q.broken) QB
  own : Owns IE PT w pv q.L
  ne : pv.ownBlock ≠ some p
  ok : q.ok
/-- what a call may turn -/
def Foot (p : Nat) (pv : Value) (k : Nat) : Prop := k = p ∨ pv.ownBlock = some k
section
variable {w w' : World} {p : Nat} {pv : Value} {q : Q} (h : Qs w p pv q)
include h
theorem Qs.lt : p < w.heap.size := h.blk.lt
theorem Qs.vlt : ∀ g, pv.ownBlock = some g → g < w.heap.size := h.own.lt
theorem Qs.turns {S : Nat → Prop} (ht : Turns S w w') (hp : ¬ S p) (hv : ∀ g, pv.ownBlock = some g → ¬ S g) : Qs w' p pv q := ⟨ht.blk h.blk hp, h.own.turns ht hv, h.ne, h.ok⟩
theorem Qs.later (ht : New w w') : Qs w' p pv q := h.turns ht (fun h => h) (fun _ _ h => h)
theorem Qs.drewN (n : Nat) : Qs (w.drewN n) p pv q := ⟨h.blk, h.own, h.ne, h.ok⟩
theorem Qs.form : ∃ ao c, pv = .slice ao q.L.length c ∧ q.L.length ≤ c := by
  obtain ⟨ao, c, e, hc, _⟩ := h.own.form
  exact ⟨ao, c, e, hc⟩
theorem Qs.small : q.L.length ≤ 1024 := by have := h.ok.len; have := h.ok.f2; omega
end

theorem len (p : Nat) (pv : Value) (q : Q) (w : World) (h : Qs w p pv q) :
    Calls Try.prog 18 #[.pointer (some ⟨p, 0, none⟩)] w fun e w' => e = .returned (.int .i64 q.L.length) ∧ w' = w := by
  obtain ⟨ao, c, rfl, _⟩ := h.form
  have c2 := h.blk.cell 2
  clear h
  go_enter Try.func18, Try.ntmps18
  go_wp2
  go_ret
  exact ⟨rfl, rfl⟩
theorem size (p : Nat) (pv : Value) (q : Q) (w : World) (h : Qs w p pv q) :
    Calls Try.prog 19 #[.pointer (some ⟨p, 0, none⟩)] w fun e w' => e = .returned (.int .i64 (sumL q.L)) ∧ w' = w := by
  have c3 := h.blk.cell 3
  clear h
  go_enter Try.func19, Try.ntmps19
  go_wp2
  go_ret
  exact ⟨rfl, rfl⟩
theorem broken (p : Nat) (pv : Value) (q : Q) (w : World) (h : Qs w p pv q) :
    Calls Try.prog 21 #[.pointer (some ⟨p, 0, none⟩)] w fun e w' => e = .returned (.bool q.broken) ∧ w' = w := by
  have c4 := h.blk.cell 4
  clear h
  go_enter Try.func21, Try.ntmps21
  go_wp2
  go_ret
  exact ⟨rfl, rfl⟩

def fresh (frames most : Int) : Q := ⟨frames, most, [], true⟩
theorem new_bad (frames most : Int) (w : World) (h : frames < 1 ∨ (1 ≤ frames ∧ 1024 < frames) ∨ (1 ≤ frames ∧ frames ≤ 1024 ∧ most < 1) ∨ (1 ≤ frames ∧ frames ≤ 1024 ∧ 1 ≤ most ∧ 16777216 < most)) :
    Calls Try.prog 43 #[.int .i64 frames, .int .i64 most] w fun e w' => e = .returned (.tuple #[.pointer none, .int .i64 5]) ∧ w = w' := by
  rcases h with h1 | ⟨h1, h2⟩ | ⟨h1, h2, h3⟩ | ⟨h1, h2, h3, h4⟩
  all_goals
    go_enter Try.func43, Try.ntmps43
    go_wp2
    go_ret2
    exact ⟨rfl, rfl⟩
theorem new (frames most : Int) (w : World) (f1 : 1 ≤ frames) (f2 : frames ≤ 1024) (m1 : 1 ≤ most) (m2 : most ≤ 16777216) :
    Calls Try.prog 43 #[.int .i64 frames, .int .i64 most] w fun e w' => e = .returned (.tuple #[.pointer (some ⟨w.heap.size, 0, none⟩), .int .i64 0]) ∧ Qs w' w.heap.size (.slice none 0 0) (fresh frames most) ∧ New w w' := by
  have hb : Qs (w.alloc (.cells (cellsR frames most (.slice none 0 0) 0 true) QB)) w.heap.size (.slice none 0 0) (fresh frames most) :=
    ⟨Blk.new _ _ _, Owns.nil _ _, by simp [Value.ownBlock], ⟨f1, f2, m1, m2, by show (0 : Int) ≤ frames; omega, by show (0 : Int) ≤ most; omega, fun x hx => by cases hx⟩⟩
  have hn : New w (w.alloc (.cells (cellsR frames most (.slice none 0 0) 0 true) QB)) := (Turns.refl _ _).alloc _
  have HB := Lib.hid (And.intro hb hn)
  clear hb hn
  have h1 : ¬ frames < 1 := by omega
  have h2 : ¬ 1024 < frames := by omega
  have h3 : ¬ most < 1 := by omega
  have h4 : ¬ 16777216 < most := by omega
  go_enter Try.func43, Try.ntmps43
  go_wp2
  go_ret2
  exact ⟨rfl, HB.out⟩
end Go.Proofs.Ytcaloeolmoodbaa.que
