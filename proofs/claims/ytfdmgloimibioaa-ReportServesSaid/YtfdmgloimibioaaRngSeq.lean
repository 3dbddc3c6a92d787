/-
  ring.Ring in memory; its small calls.
-/
import Derived.Test.YtfdmgloimibioaaRows
import Derived.Test.YtfdmgloimibioaaRngPure
import Derived.Handy
import Derived.Lib.Hide
import Derived.Outline
import Derived.WalkLawsBesides
import Derived.IntWalk
namespace Go.Proofs.Ytfdmgloimibioaa.rng
open Go.RowKit mem Go.Maps
set_option linter.unusedVariables false

abbrev PT : TypeId := 118
abbrev RT : TypeId := 115
theorem law16 : Keyed Try.prog 29 := int_keyed Try.underlying29
theorem zeroI (w : World) : (zeroValue 3).run Try.prog w = .ok (.int .i64 0) w := by kernel_rfl
theorem keyU {n : Int} (n0 : 0 ≤ n) (n1 : n ≤ 65535) : keyOf Try.prog 29 (.int .u16 n) = some (.int .u16 n) :=
  keyOf_int_mk Try.underlying29 (by simp [Lit.wf, IntKind.min, IntKind.max, IntKind.bits, IntKind.signed]; omega)

abbrev cells (r : R) (bm : Nat) (pv : Value) : Array Value := #[.int .i64 r.size, .int .i64 r.most, .int .i64 r.gap, pv, .int .i64 r.old, .map (some bm), .int .i64 r.sent]

/-- a ring in block p, its map in bm, its packets in pv -/
structure Rg (w : World) (p bm : Nat) (pv : Value) (k : Nat) (r : R) : Prop where
  blk : Blk w p (cells r bm pv) RT
  own : ∃ l, Owns PE PT w pv l ∧ Rot r.size r.old l r.L
  map : ∃ D, w.ownsMap Try.prog 29 (plainElem Try.prog 3) bm k D ∧ Mp D r.size r.old r.L
  ne : pv.ownBlock ≠ some p
  ok : r.ok

/-- what a call may turn -/
def Foot (p bm : Nat) (pv : Value) (k : Nat) : Prop := k = p ∨ k = bm ∨ pv.ownBlock = some k

section
variable {w w' : World} {p bm : Nat} {pv : Value} {k : Nat} {r : R} (h : Rg w p bm pv k r)
include h
theorem Rg.lt : p < w.heap.size := h.blk.lt
theorem Rg.mlt : bm < w.heap.size := by obtain ⟨D, hD, _⟩ := h.map; exact hD.lt
theorem Rg.vlt : ∀ g, pv.ownBlock = some g → g < w.heap.size := by obtain ⟨l, hl, _⟩ := h.own; exact hl.lt
theorem Rg.mne : bm ≠ p := by obtain ⟨D, hD, _⟩ := h.map; exact ownsMap_ne hD h.blk
theorem Rg.mnv : ∀ g, pv.ownBlock = some g → bm ≠ g := by
  obtain ⟨D, hD, _⟩ := h.map
  obtain ⟨l, hl, _⟩ := h.own
  exact ownsMap_ne_row hD hl
theorem Rg.turns {S : Nat → Prop} (ht : Turns S w w') (hp : ¬ S p) (hm : ¬ S bm) (hv : ∀ g, pv.ownBlock = some g → ¬ S g) : Rg w' p bm pv k r := by
  obtain ⟨D, hD, hMp⟩ := h.map
  obtain ⟨l, hl, hr⟩ := h.own
  exact ⟨ht.blk h.blk hp, ⟨l, hl.turns ht hv, hr⟩, ⟨D, ownsMap_turns hD ht hm, hMp⟩, h.ne, h.ok⟩
theorem Rg.drew : Rg w.drew p bm pv k r := ⟨h.blk, h.own, h.map, h.ne, h.ok⟩
theorem Rg.alloc (o : Obj) : Rg (w.alloc o) p bm pv k r := h.turns (S := fun _ => False) ((Turns.refl _ _).alloc o) (fun h => h) (fun h => h) (fun _ _ h => h)
theorem Rg.more {k' : Nat} (hk : k ≤ k') : Rg w p bm pv k' r := by
  obtain ⟨D, hD, hMp⟩ := h.map
  exact ⟨h.blk, h.own, ⟨D, hD.mono hk, hMp⟩, h.ne, h.ok⟩
theorem Rg.size0 : 0 < r.size := by obtain ⟨l, _, hr⟩ := h.own; have := hr.lt; omega
theorem Rg.le : r.L.length ≤ r.size := by obtain ⟨l, _, hr⟩ := h.own; exact hr.le
theorem Rg.form : ∃ (ao : Option Addr) (c : Nat), pv = .slice ao r.L.length c := by
  obtain ⟨l, hl, hr⟩ := h.own
  obtain ⟨ao, c, e, _⟩ := hl.form
  exact ⟨ao, c, by rw [← hr.len]; exact e⟩
/-- where a packet lies -/
theorem Rg.at' {i : Nat} {x : P} (hx : r.L[i]? = some x) : ∃ g c j, pv = .slice (some ⟨g, 0, none⟩) r.L.length c ∧ j = (r.old + i) % r.size ∧ j < r.L.length ∧
    w.cell? ⟨g, j * 4, none⟩ = some (.int .u16 x.q) ∧ w.cell? ⟨g, j * 4 + 1, none⟩ = some (.string x.t) ∧ w.cell? ⟨g, j * 4 + 2, none⟩ = some (.int .i64 x.g) ∧ w.cell? ⟨g, j * 4 + 3, none⟩ = some (.int .i64 x.a) := by
  obtain ⟨l, hl, hr⟩ := h.own
  have hi : i < r.L.length := (List.getElem?_eq_some_iff.1 hx).1
  have hj := hr.idx hi
  have he := hr.at' i hi
  rw [hx] at he
  obtain ⟨ao, c, e, hc, hrd, hb⟩ := hl.form
  rcases hrd with h0 | ⟨g, rfl, hg, hcell⟩
  · rw [h0] at hj; exact absurd hj (Nat.not_lt_zero _)
  · exact ⟨g, c, _, by rw [← hr.len]; exact e, rfl, by rw [← hr.len]; exact hj, hcell _ x he 0 _ rfl, hcell _ x he 1 _ rfl, hcell _ x he 2 _ rfl, hcell _ x he 3 _ rfl⟩
end

abbrev New (w w' : World) : Prop := Turns (fun _ => False) w w'

theorem size_ok {r : R} (h : r.ok) : (r.size : Int) ≤ 4096 := by have := h.z1; omega

theorem len (p bm : Nat) (pv : Value) (k : Nat) (r : R) (w : World) (h : Rg w p bm pv k r) :
    Calls Try.prog 21 #[.pointer (some ⟨p, 0, none⟩)] w fun e w' => e = .returned (.int .i64 r.L.length) ∧ w = w' := by
  obtain ⟨ao, c, rfl⟩ := h.form
  have c3 := h.blk.cell 3
  clear h
  go_enter Try.func21, Try.ntmps21
  go_wp2
  go_ret
  exact ⟨rfl, rfl⟩

theorem sent (p bm : Nat) (pv : Value) (k : Nat) (r : R) (w : World) (h : Rg w p bm pv k r) :
    Calls Try.prog 22 #[.pointer (some ⟨p, 0, none⟩)] w fun e w' => e = .returned (.int .i64 r.sent) ∧ w = w' := by
  have c6 := h.blk.cell 6
  clear h
  go_enter Try.func22, Try.ntmps22
  go_wp2
  go_ret
  exact ⟨rfl, rfl⟩

def fresh (size : Nat) (most gap : Int) : R := ⟨size, 0, most, gap, [], 0⟩
theorem new_bad (size most gap : Int) (w : World) (h : size < 1 ∨ 4096 < size ∨ most < 0 ∨ gap < 0) :
    Calls Try.prog 11 #[.int .i64 size, .int .i64 most, .int .i64 gap] w fun e w' => e = .returned (.tuple #[.pointer none, .int .i64 5]) ∧ w = w' := by
  by_cases h1 : size < 1
  · clear h
    go_enter Try.func11, Try.ntmps11
    go_wp2
    go_ret2
    exact ⟨rfl, rfl⟩
  · by_cases h2 : 4096 < size
    · clear h
      go_enter Try.func11, Try.ntmps11
      go_wp2
      go_ret2
      exact ⟨rfl, rfl⟩
    · by_cases h3 : most < 0
      · clear h
        go_enter Try.func11, Try.ntmps11
        go_wp2
        go_ret2
        exact ⟨rfl, rfl⟩
      · have h4 : gap < 0 := by omega
        clear h
        go_enter Try.func11, Try.ntmps11
        go_wp2
        go_ret2
        exact ⟨rfl, rfl⟩
theorem new (size : Nat) (most gap : Int) (w : World) (z0 : 1 ≤ size) (z1 : size ≤ 4096) (m0 : 0 ≤ most) (m1 : most ≤ 9223372036854775807) (g0 : 0 ≤ gap) (g1 : gap ≤ 9223372036854775807) :
    Calls Try.prog 11 #[.int .i64 size, .int .i64 most, .int .i64 gap] w fun e w' => e = .returned (.tuple #[.pointer (some ⟨w.heap.size + 1, 0, none⟩), .int .i64 0]) ∧ Rg w' (w.heap.size + 1) w.heap.size (.slice none 0 0) 0 (fresh size most gap) ∧ New w w' := by
  have hmm := @run_makeMap Try.prog
  have hb : Rg ((w.alloc (.map #[] 0)).alloc (.cells (cells (fresh size most gap) w.heap.size (.slice none 0 0)) RT)) (w.heap.size + 1) w.heap.size (.slice none 0 0) 0 (fresh size most gap) := by
    have e : (w.alloc (.map #[] 0)).heap.size = w.heap.size + 1 := by simp
    refine ⟨?_, ⟨[], Owns.nil _ _, ⟨rfl, Nat.zero_le _, z0, fun _ => rfl, fun i hi => absurd hi (Nat.not_lt_zero _)⟩⟩, ⟨_, (World.ownsMap_made _ _ _ _).alloc _, Mp.empty _⟩, by simp [Value.ownBlock], ⟨z1, m0, m1, g0, g1, Int.le_refl 0, (by decide : (0 : Int) ≤ 1048576), fun x hx => by cases hx⟩⟩
    rw [← e]
    exact Blk.new _ _ _
  have hn : New w ((w.alloc (.map #[] 0)).alloc (.cells (cells (fresh size most gap) w.heap.size (.slice none 0 0)) RT)) := ((Turns.refl _ _).alloc _).alloc _
  have HB := Lib.hid (And.intro hb hn)
  clear hb hn
  have h1 : ¬ (size : Int) < 1 := by omega
  have h2 : ¬ 4096 < (size : Int) := by omega
  have h3 : ¬ most < 0 := by omega
  have h4 : ¬ gap < 0 := by omega
  go_enter Try.func11, Try.ntmps11
  go_wp2
  go_ret2
  exact ⟨rfl, HB.out⟩

theorem find_none (p bm : Nat) (pv : Value) (k : Nat) (r : R) (n : Int) (w : World) (h : Rg w p bm pv k r) (n0 : 0 ≤ n) (n1 : n ≤ 65535) (hf : lastIdx r.L n = none) :
    Calls Try.prog 37 #[.pointer (some ⟨p, 0, none⟩), .int .u16 n] w fun e w' => e = .returned (.pointer none) ∧ w = w' := by
  obtain ⟨D, hD, hMp⟩ := h.map
  have hh := (hMp n n0 n1).1 hf
  have ha := atKey_of_not_has hh (.lit (.int .i64 0))
  have c5 := h.blk.cell 5
  have hkey := keyU n0 n1
  clear h hMp hf
  go_enter Try.func37, Try.ntmps37
  go_wp2_with (at_lookup; refine wpList_look_ok_int rfl _ _ 112 rfl 29 3 .i64 law16 Try.underlying112 Try.underlying3 (zeroI _) bm k D rfl hD _ _ rfl hkey 0 ha false hh ?_)
  go_ret
  exact ⟨rfl, rfl⟩

theorem find_some (p bm : Nat) (k : Nat) (r : R) (n : Int) (i j g c : Nat) (w : World) (h : Rg w p bm (.slice (some ⟨g, 0, none⟩) r.L.length c) k r) (n0 : 0 ≤ n) (n1 : n ≤ 65535) (hf : lastIdx r.L n = some i) (hj : j = (r.old + i) % r.size) (hjl : j < r.L.length) :
    Calls Try.prog 37 #[.pointer (some ⟨p, 0, none⟩), .int .u16 n] w fun e w' => e = .returned (.pointer (some ⟨g, j * 4, none⟩)) ∧ w = w' := by
  obtain ⟨D, hD, hMp⟩ := h.map
  obtain ⟨hh, ha'⟩ := (hMp n n0 n1).2 i hf
  have ha := ha' (.lit (.int .i64 0))
  rw [← hj] at ha
  have c5 := h.blk.cell 5
  have c3 := h.blk.cell 3
  have hkey := keyU n0 n1
  have hl := h.le
  have hz := h.ok.z1
  have b0 : (0 : Int) ≤ (j : Int) := by omega
  have b1 : (j : Int) < (r.L.length : Int) := by omega
  have hlm : r.L.length ≤ maxLen := by unfold maxLen; omega
  clear h hMp hf ha' hj
  go_enter Try.func37, Try.ntmps37
  go_wp2_with (at_lookup; refine wpList_look_ok_int rfl _ _ 112 rfl 29 3 .i64 law16 Try.underlying112 Try.underlying3 (zeroI _) bm k D rfl hD _ _ rfl hkey j ha true hh ?_)
  go_ret
  exact ⟨rfl, rfl⟩
end Go.Proofs.Ytfdmgloimibioaa.rng
