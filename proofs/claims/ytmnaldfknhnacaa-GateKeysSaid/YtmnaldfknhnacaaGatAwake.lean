/-
  'awake' of layer 14; what stays of a gate's numbers.
-/
import Derived.Test.YtmnaldfknhnacaaGatDoes
namespace Go.Proofs.Ytmnaldfknhnacaa.gat
open Go.RowKit mem
set_option linter.unusedVariables false

theorem pass_is (p : Nat) (g : G) (l : Int) (k : Bool) (t : G) (b : Bool) (ht : passG g l k = t ∧ passB g l k = b) (w : World) (h : Gt w p g) (ho : g.ok) :
    Calls Try.prog 13 #[.pointer (some ⟨p, 0, none⟩), .int .i64 l, .bool k] w fun e w' => e = .returned (.bool b) ∧ At w w' p t := by
  obtain ⟨rfl, rfl⟩ := ht
  exact pass p g l k w h ho

theorem ok_mk {v o p : Bool} {m a s t : Int} (m0 : 0 ≤ m) (a0 : 0 ≤ a) (s0 : 0 ≤ s) (s1 : s ≤ 1048576) (t0 : 0 ≤ t) (t1 : t ≤ 1048576) : (⟨v, m, o, a, p, s, t⟩ : G).ok := ⟨m0, a0, s0, s1, t0, t1⟩

def g0 : G := ⟨true, 1, false, 0, false, 0, 0⟩
def g1 : G := ⟨true, 1, true, 1, false, 0, 0⟩
theorem fresh_1 : fresh true 1 = g0 := rfl
theorem g0_ok : g0.ok := ⟨by decide, by decide, by decide, by decide, by decide, by decide⟩
theorem g1_ok : g1.ok := ⟨by decide, by decide, by decide, by decide, by decide, by decide⟩

theorem awake (w : World) :
    Calls Try.prog 7 #[] w fun e w' => e = .returned (.bool true) ∧ New w w' := by
  have HN := Lib.hid (new true 1 w)
  go_enter Try.func7, Try.ntmps7
  go_wp2_with fail
  refine HN.out.mono ?_
  rintro e w1 ⟨rfl, h1, n1⟩
  rw [fresh_1] at h1
  generalize hpe : w.heap.size = p at *
  have HP := Lib.hid hpe
  have N1 := Lib.hid n1
  clear hpe HN n1
  go_wp2_with fail
  refine (pass_is p g0 1 false g0 false ⟨rfl, rfl⟩ _ h1 g0_ok).mono ?_
  rintro e w2 ⟨rfl, h2⟩
  have N2 := Lib.hid (new_at N1.out h2 (Nat.le_of_eq HP.out))
  clear h1 N1
  go_wp2_with fail
  refine (pass_is p g0 0 true g0 false ⟨rfl, rfl⟩ _ h2.1 g0_ok).mono ?_
  rintro e w3 ⟨rfl, h3⟩
  have N3 := Lib.hid (new_at N2.out h3 (Nat.le_of_eq HP.out))
  clear h2 N2
  go_wp2_with fail
  refine (pass_is p g0 1 true g1 true ⟨rfl, rfl⟩ _ h3.1 g0_ok).mono ?_
  rintro e w4 ⟨rfl, h4⟩
  have N4 := Lib.hid (new_at N3.out h4 (Nat.le_of_eq HP.out))
  clear h3 N3
  go_wp2_with fail
  refine (pass_is p g1 1 false g1 true ⟨rfl, rfl⟩ _ h4.1 g1_ok).mono ?_
  rintro e w5 ⟨rfl, h5⟩
  have N5 := Lib.hid (new_at N4.out h5 (Nat.le_of_eq HP.out))
  clear h4 N4 h5
  go_wp2
  go_ret
  exact ⟨rfl, N5.out⟩

/-- the bounds after k calls -/
structure G.upto (g : G) (k : Nat) : Prop where
  m0 : 0 ≤ g.m
  a0 : 0 ≤ g.a
  s0 : 0 ≤ g.s
  s1 : g.s ≤ k
  t0 : 0 ≤ g.t
  t1 : g.t ≤ k
theorem G.upto.ok {g : G} {k : Nat} (h : g.upto k) (hk : k ≤ 1000) : g.ok :=
  ⟨h.m0, h.a0, h.s0, by have := h.s1; omega, h.t0, by have := h.t1; omega⟩
theorem G.upto.more {g : G} {k : Nat} (h : g.upto k) : g.upto (k + 1) :=
  ⟨h.m0, h.a0, h.s0, by have := h.s1; omega, h.t0, by have := h.t1; omega⟩
theorem fresh_upto (v : Bool) (m : Int) : (fresh v m).upto 0 := ⟨by show 0 ≤ max m 0; omega, Int.le_refl 0, Int.le_refl 0, Int.le_refl 0, Int.le_refl 0, Int.le_refl 0⟩
theorem shut_upto {g : G} {k : Nat} (h : g.upto k) : (shutG g).upto (k + 1) := by
  obtain ⟨m0, a0, s0, s1, t0, t1⟩ := h
  refine ⟨m0, a0, ?_, ?_, t0, by show g.t ≤ _; omega⟩ <;> unfold shutG <;> dsimp only <;> split <;> omega
theorem turn_upto {g : G} {k : Nat} (h : g.upto k) (l : Int) (hl : 0 ≤ l) : (turnG g l).upto (k + 1) := by
  obtain ⟨m0, a0, s0, s1, t0, t1⟩ := h
  refine ⟨m0, hl, s0, by show g.s ≤ _; omega, ?_, ?_⟩ <;> unfold turnG <;> dsimp only <;> split <;> omega
theorem pass_upto {g : G} {k : Nat} (h : g.upto k) (l : Int) (key : Bool) (hl : 0 ≤ l) : (passG g l key).upto (k + 1) := by
  unfold passG
  split
  · exact h.more
  · split
    · exact h.more
    · exact turn_upto h l hl
theorem pause_upto {g : G} {k : Nat} (h : g.upto k) (on : Bool) : (pauseG g on).upto (k + 1) := by
  unfold pauseG
  cases on
  · have := h.more; exact ⟨this.m0, this.a0, this.s0, this.s1, this.t0, this.t1⟩
  · have := shut_upto h; exact ⟨this.m0, this.a0, this.s0, this.s1, this.t0, this.t1⟩
theorem want_upto {g : G} {k : Nat} (h : g.upto k) (l : Int) : (wantG g l).upto (k + 1) :=
  ⟨by show 0 ≤ max l 0; omega, h.a0, h.s0, h.more.s1, h.t0, h.more.t1⟩
theorem step_upto {g : G} {k : Nat} (h : g.upto k) (kd l : Int) (key on : Bool) : (stepG g kd l key on).upto (k + 1) := by
  unfold stepG
  split
  · exact pass_upto h _ _ (by omega)
  · split
    · exact want_upto h _
    · split
      · exact shut_upto h
      · split
        · exact pause_upto h _
        · exact h.more

theorem does_is (p : Nat) (g : G) (k l : Int) (key on : Bool) (t : G) (b : Bool) (ht : stepG g k l key on = t ∧ goesK g k l key = b) (w : World) (h : Gt w p g) (ho : g.ok) :
    Calls Try.prog 9 #[.pointer (some ⟨p, 0, none⟩), .agg (rx g), .agg #[.int .i64 k, .int .i64 l, .bool key, .bool on]] w fun e w' => e = .returned (.tuple #[.agg (rx t), .bool b, .bool true]) ∧ At w w' p t := by
  obtain ⟨rfl, rfl⟩ := ht
  exact does_any p g k l key on w h ho
end Go.Proofs.Ytmnaldfknhnacaa.gat
