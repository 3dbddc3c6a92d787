/-
  drr.Sched in memory; New, Add, Remove, Left, Take, grant.
-/
import Derived.Test.YtcaloeolmoodbaaRows
import Derived.Test.YtcaloeolmoodbaaDrrPure
import Derived.Test.YtcaloeolmoodbaaMapU
import Derived.Test.YtcaloeolmoodbaaPuts
import Derived.Handy
import Derived.Lib.Hide
import Derived.Outline
import Derived.WalkLawsBesides
import Derived.IntWalk
import Derived.RegionTactic
import Derived.Maps.RangeWalk
namespace Go.Proofs.Ytcaloeolmoodbaa.drr
open Go.RowKit mem Go.Maps
set_option linter.unusedVariables false

abbrev SB : TypeId := 117
abbrev FB : TypeId := 121
abbrev MT : TypeId := 115
abbrev New (w w' : World) : Prop := Turns (fun _ => False) w w'
theorem lawI : Keyed Try.prog 3 := int_keyed Try.underlying3
theorem keyI {n : Int} (n0 : -9223372036854775808 ≤ n) (n1 : n ≤ 9223372036854775807) : keyOf Try.prog 3 (.int .i64 n) = some (.int .i64 n) :=
  keyOf_int_mk Try.underlying3 (by simp [Lit.wf, IntKind.min, IntKind.max, IntKind.bits, IntKind.signed]; omega)
theorem zeroP (w : World) : (zeroValue 118).run Try.prog w = .ok (.pointer none) w := by kernel_rfl

/-- a pointer to a block, as a number -/
def ptrE (v : Value) : Option (DataW Unit × List MemPlace) :=
  match v with
  | .pointer (some ⟨g, 0, none⟩) => some (.lit (.int .i64 (g : Int)), [])
  | .pointer none => some (.lit (.int .i64 (-1)), [])
  | _ => none
theorem ptrE_inv {v : Value} {g : Nat} {ps : List MemPlace} (h : ptrE v = some (.lit (.int .i64 (g : Int)), ps)) : v = .pointer (some ⟨g, 0, none⟩) := by
  unfold ptrE at h
  split at h
  · injection h with h
    injection h with h _
    injection h with h
    injection h with _ h
    have : (_ : Nat) = g := Int.ofNat.inj h
    rw [this]
  · injection h with h
    injection h with h _
    injection h with h
    injection h with _ h
    omega
  · cases h
theorem ptrE_nil {v : Value} {ps : List MemPlace} (h : ptrE v = some (.lit (.int .i64 (-1)), ps)) : v = .pointer none := by
  unfold ptrE at h
  split at h
  · injection h with h
    injection h with h _
    injection h with h
    injection h with _ h
    omega
  · rfl
  · cases h
theorem ptrE_shape {v : Value} {y : DataW Unit × List MemPlace} (h : ptrE v = some y) : ∃ g : Option Nat, v = .pointer (g.map (fun g => ⟨g, 0, none⟩)) := by
  unfold ptrE at h
  split at h
  · exact ⟨some _, rfl⟩
  · exact ⟨none, rfl⟩
  · cases h

section
variable {w : World} {mb c : Nat} {D : DataW Unit} {id : Int}
theorem look_at (h : w.ownsMap Try.prog 3 ptrE mb c D) (n0 : -9223372036854775808 ≤ id) (n1 : id ≤ 9223372036854775807) {b : Nat} (hb : ∀ z, D.atKey (.int .i64 id) z = .lit (.int .i64 b)) :
    (Instr.lookup MT (.map (some mb)) (.int .i64 id) false).run Try.prog w = .ok (.pointer (some ⟨b, 0, none⟩)) w := by
  obtain ⟨v, ps, hrun, hv⟩ := h.lookup lawI Try.underlying115 (zeroP w) (zd := .lit (.int .i64 (-1))) (zp := []) rfl (keyI n0 n1)
  rw [hb] at hv
  rw [ptrE_inv hv] at hrun
  exact hrun
theorem look_ok_at (h : w.ownsMap Try.prog 3 ptrE mb c D) (n0 : -9223372036854775808 ≤ id) (n1 : id ≤ 9223372036854775807) {b : Nat} (hb : ∀ z, D.atKey (.int .i64 id) z = .lit (.int .i64 b)) :
    (Instr.lookup MT (.map (some mb)) (.int .i64 id) true).run Try.prog w = .ok (.tuple #[.pointer (some ⟨b, 0, none⟩), .bool true]) w := by
  obtain ⟨v, ps, hrun, hv⟩ := h.look_ok lawI Try.underlying115 (zeroP w) (zd := .lit (.int .i64 (-1))) (zp := []) rfl (keyI n0 n1)
  rw [hb] at hv
  rw [ptrE_inv hv, has_true_of_atKey hb] at hrun
  exact hrun
theorem look_ok_none (h : w.ownsMap Try.prog 3 ptrE mb c D) (n0 : -9223372036854775808 ≤ id) (n1 : id ≤ 9223372036854775807) (hb : has D (.int .i64 id) = false) :
    (Instr.lookup MT (.map (some mb)) (.int .i64 id) true).run Try.prog w = .ok (.tuple #[.pointer none, .bool false]) w := by
  obtain ⟨v, ps, hrun, hv⟩ := h.look_ok lawI Try.underlying115 (zeroP w) (zd := .lit (.int .i64 (-1))) (zp := []) rfl (keyI n0 n1)
  rw [atKey_of_not_has hb] at hv
  rw [ptrE_nil hv, hb] at hrun
  exact hrun
end

abbrev cells (s : Sc) (mb : Nat) : Array Value := #[.int .i64 s.most, .map (some mb), .int .i64 s.turn, .bool s.g]
abbrev fcells (f : Fl) : Array Value := #[.int .i64 f.share, .int .i64 f.left]
/-- a schedule in block p, its map in mb -/
structure Ss (w : World) (p mb c : Nat) (D : DataW Unit) (s : Sc) : Prop where
  blk : Blk w p (cells s mb) SB
  map : w.ownsMap Try.prog 3 ptrE mb c D
  rd1 : ∀ id, has D (.int .i64 id) = (fnd s.L id).isSome
  rd2 : ∀ f ∈ s.L, ∀ z, D.atKey (.int .i64 f.id) z = .lit (.int .i64 (f.b : Int))
  fb : ∀ f ∈ s.L, Blk w f.b (fcells f) FB
  ap : Ap s.L
  pf : ∀ f ∈ s.L, f.b ≠ p
  rg : ∀ f ∈ s.L, -9223372036854775808 ≤ f.id ∧ f.id ≤ 9223372036854775807
  tr : -9223372036854775808 ≤ s.turn ∧ s.turn ≤ 9223372036854775807
  ok : s.ok
/-- what a call may turn -/
def Foot (p mb : Nat) (s : Sc) (k : Nat) : Prop := k = p ∨ k = mb ∨ ∃ f ∈ s.L, f.b = k
section
variable {w w' : World} {p mb c : Nat} {D : DataW Unit} {s : Sc} (h : Ss w p mb c D s)
include h
theorem Ss.lt : p < w.heap.size := h.blk.lt
theorem Ss.mlt : mb < w.heap.size := h.map.lt
theorem Ss.flt : ∀ f ∈ s.L, f.b < w.heap.size := fun f hf => (h.fb f hf).lt
theorem Ss.mp : mb ≠ p := ownsMap_ne h.map h.blk
theorem Ss.mf : ∀ f ∈ s.L, mb ≠ f.b := fun f hf => ownsMap_ne h.map (h.fb f hf)
theorem Ss.turns {S : Nat → Prop} (t : Turns S w w') (hp : ¬ S p) (hm : ¬ S mb) (hf : ∀ f ∈ s.L, ¬ S f.b) : Ss w' p mb c D s :=
  ⟨t.blk h.blk hp, ownsMap_turns h.map t hm, h.rd1, h.rd2, fun f hf' => t.blk (h.fb f hf') (hf f hf'), h.ap, h.pf, h.rg, h.tr, h.ok⟩
theorem Ss.later (t : New w w') : Ss w' p mb c D s := h.turns t (fun h => h) (fun h => h) (fun _ _ h => h)
theorem Ss.drewN (n : Nat) : Ss (w.drewN n) p mb c D s := ⟨h.blk, h.map, h.rd1, h.rd2, h.fb, h.ap, h.pf, h.rg, h.tr, h.ok⟩
theorem Ss.foot : ∀ k, Foot p mb s k → k < w.heap.size := fun k hk => by
  rcases hk with e | e | ⟨f, hf, e⟩
  · rw [e]; exact h.lt
  · rw [e]; exact h.mlt
  · rw [← e]; exact h.flt f hf
end
theorem two {w : World} {p : Nat} {a b : Value} {T : TypeId} (h : Blk w p #[a, b] T) :
    (w.cell? ⟨p, 0, none⟩ = some a ∧ w.cell? ⟨p, 1, none⟩ = some b) ∧ w.frozen? ⟨p, 0, none⟩ = false ∧ w.frozen? ⟨p, 1, none⟩ = false := ⟨⟨h.cell 0, h.cell 1⟩, h.free 0, h.free 1⟩
theorem four {w : World} {p : Nat} {a b c d : Value} {T : TypeId} (h : Blk w p #[a, b, c, d] T) :
    (w.cell? ⟨p, 0, none⟩ = some a ∧ w.cell? ⟨p, 1, none⟩ = some b ∧ w.cell? ⟨p, 2, none⟩ = some c ∧ w.cell? ⟨p, 3, none⟩ = some d) ∧ w.frozen? ⟨p, 0, none⟩ = false ∧ w.frozen? ⟨p, 1, none⟩ = false ∧ w.frozen? ⟨p, 2, none⟩ = false ∧ w.frozen? ⟨p, 3, none⟩ = false :=
  ⟨⟨h.cell 0, h.cell 1, h.cell 2, h.cell 3⟩, h.free 0, h.free 1, h.free 2, h.free 3⟩
/-- turn and granted anew -/
theorem Ss.turn {w : World} {p mb c : Nat} {D : DataW Unit} {s : Sc} (h : Ss w p mb c D s) {w' : World} (t' : Int) (g' : Bool) (hb : Blk w' p (cells ⟨s.most, s.L, t', g'⟩ mb) SB) (ht : Turns (· = p) w w') (h0 : -9223372036854775808 ≤ t' ∧ t' ≤ 9223372036854775807) (hok : Sc.ok ⟨s.most, s.L, t', g'⟩) : Ss w' p mb c D ⟨s.most, s.L, t', g'⟩ :=
  ⟨hb, ownsMap_turns h.map ht h.mp, h.rd1, h.rd2, fun f hf => ht.blk (h.fb f hf) (h.pf f hf), h.ap, h.pf, h.rg, h0, hok⟩
/-- one flow's balance anew -/
theorem Ss.left {w : World} {p mb c : Nat} {D : DataW Unit} {s : Sc} (h : Ss w p mb c D s) {f : Fl} (hf : f ∈ s.L) (x : Int) (hok : Sc.ok ⟨s.most, upd s.L (fun g => if g.id = f.id then x else g.left), s.turn, s.g⟩) :
    Ss (w.setCell ⟨f.b, 1, none⟩ (.int .i64 x)) p mb c D ⟨s.most, upd s.L (fun g => if g.id = f.id then x else g.left), s.turn, s.g⟩ ∧ Turns (· = f.b) w (w.setCell ⟨f.b, 1, none⟩ (.int .i64 x)) := by
  have t : Turns (· = f.b) w (w.setCell ⟨f.b, 1, none⟩ (.int .i64 x)) := Turns.setCell (S := (· = f.b)) (Turns.refl _ w) (p := ⟨f.b, 1, none⟩) (.inl rfl) _
  refine ⟨⟨t.blk h.blk (fun e => h.pf f hf e.symm), ownsMap_turns h.map t (h.mf f hf), fun id => ?_, fun g hg => ?_, fun g hg => ?_, h.ap.upd _, fun g hg => ?_, fun g hg => ?_, h.tr, hok⟩, t⟩
  · rw [h.rd1 id]
    show _ = (fnd (upd s.L _) id).isSome
    rw [fnd_upd]
    cases fnd s.L id <;> rfl
  · obtain ⟨f', hf', rfl⟩ := upd_mem hg
    exact h.rd2 f' hf'
  · obtain ⟨f', hf', rfl⟩ := upd_mem hg
    show Blk _ f'.b #[.int .i64 f'.share, .int .i64 (if f'.id = f.id then x else f'.left)] FB
    by_cases e : f'.id = f.id
    · have e2 := h.ap.eq hf' hf (.inl e)
      subst e2
      rw [if_pos rfl]
      exact (h.fb f' hf').set 1 _
    · rw [if_neg e]
      have hne : f.b ≠ f'.b := fun e2 => e (by rw [h.ap.eq hf hf' (.inr e2)])
      exact (h.fb f' hf').setOther hne _
  · obtain ⟨f', hf', rfl⟩ := upd_mem hg
    exact h.pf f' hf'
  · obtain ⟨f', hf', rfl⟩ := upd_mem hg
    exact h.rg f' hf'

theorem new_bad (m : Int) (w : World) (h : ¬ (1 ≤ m ∧ m ≤ 16777216)) :
    Calls Try.prog 22 #[.int .i64 m] w fun e w' => e = .returned (.tuple #[.pointer none, .int .i64 5]) ∧ w' = w := by
  go_enter Try.func22, Try.ntmps22
  by_cases h1 : m < 1
  · have d1 : decide (m < 1) = true := decide_eq_true h1
    go_wp2
    go_ret2
    exact ⟨rfl, rfl⟩
  · have d1 : decide (m < 1) = false := decide_eq_false h1
    have d2 : decide (16777216 < m) = true := decide_eq_true (by omega)
    go_wp2
    go_ret2
    exact ⟨rfl, rfl⟩
def fresh (m : Int) : Sc := ⟨m, [], 0, false⟩
theorem fresh_ok (m : Int) (m0 : 1 ≤ m) (m1 : m ≤ 16777216) : (fresh m).ok := ⟨m0, m1, (fun f hf => by cases hf), (fun e => by cases e)⟩
theorem new_ok (m : Int) (w : World) (m0 : 1 ≤ m) (m1 : m ≤ 16777216) :
    Calls Try.prog 22 #[.int .i64 m] w fun e w' => ∃ p, e = .returned (.tuple #[.pointer (some ⟨p, 0, none⟩), .int .i64 0]) ∧ Ss w' p w.heap.size 0 (.map []) (fresh m) ∧ New w w' ∧ w.heap.size ≤ p := by
  have hmm := @run_makeMap Try.prog
  have d1 : decide (m < 1) = false := decide_eq_false (by omega)
  have d2 : decide (16777216 < m) = false := decide_eq_false (by omega)
  have hok := fresh_ok m m0 m1
  clear m0 m1
  go_enter Try.func22, Try.ntmps22
  go_wp2
  go_ret2
  have e1 : (w.alloc (.map #[] 0)).heap.size = w.heap.size + 1 := by unfold World.alloc; exact Array.size_push _
  have hb := Blk.new (w.alloc (.map #[] 0)) (cells (fresh m) w.heap.size) SB
  rw [e1] at hb
  refine ⟨_, rfl, ⟨hb, (World.ownsMap_made _ _ _ _).alloc _, (fun id => rfl), (fun f hf => by cases hf), (fun f hf => by cases hf), List.Pairwise.nil, (fun f hf => by cases hf), (fun f hf => by cases hf), ⟨by show -9223372036854775808 ≤ (0 : Int); omega, by show (0 : Int) ≤ _; omega⟩, hok⟩, ((Turns.refl _ _).alloc _).alloc _, by omega⟩

theorem left_none (p mb c : Nat) (D : DataW Unit) (s : Sc) (id : Int) (w : World) (h : Ss w p mb c D s) (n0 : -9223372036854775808 ≤ id) (n1 : id ≤ 9223372036854775807) (hf : fnd s.L id = none) :
    Calls Try.prog 29 #[.pointer (some ⟨p, 0, none⟩), .int .i64 id] w fun e w' => e = .returned (.int .i64 0) ∧ w' = w := by
  have hrun := look_ok_none h.map n0 n1 (by rw [h.rd1 id, hf]; rfl)
  obtain ⟨⟨c0, c1, c2, c3⟩, _⟩ := four h.blk
  clear h hf
  go_enter Try.func29, Try.ntmps29
  go_wp2
  go_ret
  exact ⟨rfl, rfl⟩
theorem left_some (p mb c : Nat) (D : DataW Unit) (s : Sc) (f : Fl) (w : World) (h : Ss w p mb c D s) (hf : f ∈ s.L) :
    Calls Try.prog 29 #[.pointer (some ⟨p, 0, none⟩), .int .i64 f.id] w fun e w' => e = .returned (.int .i64 f.left) ∧ w' = w := by
  have hrun := look_ok_at h.map (h.rg f hf).1 (h.rg f hf).2 (h.rd2 f hf)
  obtain ⟨⟨c0, c1, c2, c3⟩, _⟩ := four h.blk
  obtain ⟨⟨f0, f1⟩, _⟩ := two (h.fb f hf)
  clear h hf
  go_enter Try.func29, Try.ntmps29
  go_wp2
  go_ret
  exact ⟨rfl, rfl⟩
end Go.Proofs.Ytcaloeolmoodbaa.drr
