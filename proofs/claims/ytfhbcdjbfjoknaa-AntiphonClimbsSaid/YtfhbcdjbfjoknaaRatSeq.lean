/-
  rate.Meter in memory; the search for the oldest.
-/
import Derived.Test.YtfhbcdjbfjoknaaRows
import Derived.Test.YtfhbcdjbfjoknaaRowsG5
import Derived.Test.YtfhbcdjbfjoknaaPuts
import Derived.Handy
import Derived.Outline
import Derived.Lib.Hide
import Derived.RegionTactic
import Derived.Deep.RegionHeld3
import Derived.Deep.QuietTactic
import Derived.BigQuiet
import Derived.Deep.DeepCutAuto
import Derived.ArgAppend
namespace Go.Proofs.Ytfhbcdjbfjoknaa.rat
open Go.RowKit mem
set_option linter.unusedVariables false

abbrev New (w w' : World) : Prop := Turns (fun _ => False) w w'
abbrev PT : TypeId := 91
abbrev ST : TypeId := 87
abbrev MT : TypeId := 89
/-- a tick, and what went ahead of it -/
def SE : Enc (Int × Int) := ⟨2, fun x => [.int .i64 x.1, .int .i64 x.2], fun _ => rfl, fun x u hu => by
  simp at hu
  rcases hu with rfl | rfl <;> rfl⟩
theorem infoS : (Try.prog.info? PT).map (fun i => (i.zero, i.size, i.bytes)) = some (some (.agg #[.int .i64 0, .int .i64 0]), 2, 16) := by kernel_rfl

/-- the sends l lie at v, from somewhere in a block on; what the slice has room for may be written -/
def Tl (w : World) (v : Value) (l : List (Int × Int)) : Prop :=
  (v = .slice none 0 0 ∧ l = []) ∨ ∃ g o c, v = .slice (some ⟨g, o, none⟩) l.length c ∧ l.length ≤ c ∧ c ≤ maxLen ∧ g < w.heap.size ∧ (∀ j u, (SE.all l)[j]? = some u → w.cell? ⟨g, o + j, none⟩ = some u) ∧
    (∀ j, j < (c - l.length) * 2 → (w.cell? ⟨g, o + l.length * 2 + j, none⟩).isSome = true ∧ w.frozen? ⟨g, o + l.length * 2 + j, none⟩ = false)
theorem Tl.turns {w w' : World} {v : Value} {l : List (Int × Int)} {S : Nat → Prop} (h : Tl w v l) (ht : Turns S w w') (hn : ∀ g, v.ownBlock = some g → ¬ S g) : Tl w' v l := by
  rcases h with h | ⟨g, o, c, rfl, h1, h2, h3, h4, h5⟩
  · exact .inl h
  · have hg := hn g rfl
    exact .inr ⟨g, o, c, rfl, h1, h2, Nat.lt_of_lt_of_le h3 ht.size, fun j u hu => (ht.cell (a := ⟨g, o + j, none⟩) h3 hg).trans (h4 j u hu), fun j hj => by
      rw [ht.cell (a := ⟨g, o + l.length * 2 + j, none⟩) h3 hg, ht.frozen (a := ⟨g, o + l.length * 2 + j, none⟩) h3 hg]
      exact h5 j hj⟩
theorem Tl.lt {w : World} {v : Value} {l : List (Int × Int)} (h : Tl w v l) : ∀ g, v.ownBlock = some g → g < w.heap.size := by
  rcases h with ⟨rfl, _⟩ | ⟨g, o, c, rfl, h1, h2, h3, h4, h5⟩
  · intro g hg; simp [Value.ownBlock] at hg
  · intro g' hg'
    have : g = g' := by simpa [Value.ownBlock] using hg'
    omega
theorem Tl.form {w : World} {v : Value} {l : List (Int × Int)} (h : Tl w v l) : ∃ ao c, v = .slice ao l.length c ∧ l.length ≤ c ∧ c ≤ maxLen := by
  rcases h with ⟨rfl, rfl⟩ | ⟨g, o, c, rfl, h1, h2, h3, h4, h5⟩
  · exact ⟨none, 0, rfl, Nat.le_refl _, Nat.zero_le _⟩
  · exact ⟨_, c, rfl, h1, h2⟩
/-- what is read at a place -/
theorem Tl.at_ {w : World} {v : Value} {l : List (Int × Int)} (h : Tl w v l) (hl : l ≠ []) : ∃ g o c, v = .slice (some ⟨g, o, none⟩) l.length c ∧ l.length ≤ c ∧ c ≤ maxLen ∧ g < w.heap.size ∧
    ∀ k, (hk : k < l.length) → w.cell? ⟨g, o + k * 2, none⟩ = some (.int .i64 l[k].1) ∧ w.cell? ⟨g, o + k * 2 + 1, none⟩ = some (.int .i64 l[k].2) := by
  rcases h with ⟨_, h0⟩ | ⟨g, o, c, rfl, h1, h2, h3, h4, h5⟩
  · exact absurd h0 hl
  · refine ⟨g, o, c, rfl, h1, h2, h3, fun k hk => ?_⟩
    have e := List.getElem?_eq_getElem hk
    have a0 := SE.all_at l k _ e 0 (.int .i64 l[k].1) rfl
    have a1 := SE.all_at l k _ e 1 (.int .i64 l[k].2) rfl
    have b0 := h4 _ _ a0
    have b1 := h4 _ _ a1
    exact ⟨b0, by rw [Nat.add_assoc]; exact b1⟩
theorem Tl.drop {w : World} {ao : Option Addr} {c : Nat} {l : List (Int × Int)} (h : Tl w (.slice ao l.length c) l) (n : Nat) (hn : n ≤ l.length) :
    (l = [] → Tl w (.slice ao l.length c) (l.drop n)) ∧
    (∀ g o, ao = some ⟨g, o, none⟩ → Tl w (.slice (if c = n then some ⟨g, o, none⟩ else some ⟨g, o + n * 2, none⟩) (l.length - n) (c - n)) (l.drop n)) := by
  refine ⟨fun e => by subst e; simpa using h, fun g o hao => ?_⟩
  subst hao
  rcases h with ⟨e, _⟩ | ⟨g', o', c', e, h1, h2, h3, h4, h5⟩
  · injection e with e1; cases e1
  · injection e with e1 _ e3
    injection e1 with e1
    injection e1 with e1 e2
    subst e1 e2 e3
    have hl : (l.drop n).length = l.length - n := by rw [List.length_drop]
    right
    split
    next hc =>
      have hnil : l.drop n = [] := List.drop_eq_nil_of_le (by omega)
      refine ⟨g, o, c - n, by rw [hl], by omega, by omega, h3, fun j u hu => ?_, fun j hj => by rw [hl] at hj; omega⟩
      rw [hnil] at hu
      simp [Enc.all] at hu
    next hc =>
      refine ⟨g, o + n * 2, c - n, by rw [hl], by omega, by omega, h3, fun j u hu => ?_, fun j hj => ?_⟩
      · rw [SE.all_drop, List.getElem?_drop] at hu
        rw [Nat.add_assoc]
        exact h4 _ u hu
      · rw [hl] at hj ⊢
        have := h5 j (by omega)
        rwa [show o + n * 2 + (l.length - n) * 2 + j = o + l.length * 2 + j by omega]

/-! ### the search -/
def cmpF (a t : Int) : Int := if a < t then -1 else if t < a then 1 else 0
theorem isNaN (x : Int) (w : World) : Calls Try.prog 96 #[.int .i64 x] w fun e w' => e = .returned (.bool false) ∧ w' = w := by
  go_enter Try.func96, Try.ntmps96
  go_wp2
  go_ret
  exact ⟨rfl, rfl⟩
theorem compare (x y : Int) (w : World) : Calls Try.prog 76 #[.int .i64 x, .int .i64 y] w fun e w' => e = .returned (.int .i64 (cmpF x y)) ∧ w' = w := by
  have HI := Lib.hid (fun x w => isNaN x w)
  by_cases h1 : x < y
  · have HE : Hid (cmpF x y = -1) := Lib.hid (by simp [cmpF, h1])
    rw [HE.out]
    have d1 : decide (x < y) = true := decide_eq_true h1
    go_enter Try.func76, Try.ntmps76
    go_wp2_with fail
    refine (HI.out _ _).mono ?_
    rintro e w1 ⟨rfl, rfl⟩
    go_wp2_with fail
    refine (HI.out _ _).mono ?_
    rintro e w1 ⟨rfl, rfl⟩
    go_wp2
    go_ret
    exact ⟨rfl, rfl⟩
  · have d1 : decide (x < y) = false := decide_eq_false h1
    by_cases h2 : y < x
    · have HE : Hid (cmpF x y = 1) := Lib.hid (by simp [cmpF, h1, h2])
      rw [HE.out]
      have d2 : decide (y < x) = true := decide_eq_true h2
      go_enter Try.func76, Try.ntmps76
      go_wp2_with fail
      refine (HI.out _ _).mono ?_
      rintro e w1 ⟨rfl, rfl⟩
      go_wp2_with fail
      refine (HI.out _ _).mono ?_
      rintro e w1 ⟨rfl, rfl⟩
      go_wp2
      go_ret
      exact ⟨rfl, rfl⟩
    · have HE : Hid (cmpF x y = 0) := Lib.hid (by simp [cmpF, h1, h2])
      rw [HE.out]
      have d2 : decide (y < x) = false := decide_eq_false h2
      go_enter Try.func76, Try.ntmps76
      go_wp2_with fail
      refine (HI.out _ _).mono ?_
      rintro e w1 ⟨rfl, rfl⟩
      go_wp2_with fail
      refine (HI.out _ _).mono ?_
      rintro e w1 ⟨rfl, rfl⟩
      go_wp2
      go_ret
      exact ⟨rfl, rfl⟩
theorem closure (a b t : Int) (w : World) : Calls Try.prog 75 #[.agg #[.int .i64 a, .int .i64 b], .int .i64 t] w fun e w' => e = .returned (.int .i64 (cmpF a t)) ∧ New w w' := by
  have HC := Lib.hid (fun w => compare a t w)
  have HN : Hid (New w (w.alloc (.cells #[.int .i64 a, .int .i64 b] PT))) := Lib.hid ((Turns.refl _ _).alloc _)
  go_enter Try.func75, Try.ntmps75
  go_wp2_with fail
  refine (HC.out _).mono ?_
  rintro e w1 ⟨rfl, rfl⟩
  go_wp2
  go_ret
  exact ⟨rfl, HN.out⟩
end Go.Proofs.Ytfhbcdjbfjoknaa.rat
