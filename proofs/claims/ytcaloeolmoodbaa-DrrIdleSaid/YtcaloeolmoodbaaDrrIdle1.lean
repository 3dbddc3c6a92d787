/-
  DrrIdle: two flows with one share; what Choose does with them. No program.
-/
import Derived.Test.YtcaloeolmoodbaaDrrAwake
namespace Go.Proofs.Ytcaloeolmoodbaa.drr
open Go.RowKit mem Go.Maps
set_option linter.unusedVariables false

/-- flows 1 and 2 with the share S, balances x and y -/
def sq (m S : Int) (b1 b2 : Nat) (x y t : Int) (g : Bool) : Sc := ⟨m, [⟨1, b1, S, x⟩, ⟨2, b2, S, y⟩], t, g⟩
def hs1 (a : Int) : Hs := [(1, a)]
section
variable (m S : Int) (b1 b2 : Nat) (x y : Int)
theorem next12 (t : Int) : nextId [1, 2] t = if t < 1 then 1 else if t < 2 then 2 else 1 := by
  unfold nextId
  by_cases h1 : t < 1
  · have e1 : decide ((1 : Int) < t) = false := decide_eq_false (by omega)
    have e2 : decide ((2 : Int) < t) = false := decide_eq_false (by omega)
    have e3 : ¬ t = 1 := by omega
    have e4 : ¬ t = 2 := by omega
    simp [List.countP_cons, e1, e2, e3, e4, h1]
  · by_cases h2 : t < 2
    · have e0 : t = 1 := by omega
      subst e0
      rfl
    · by_cases h3 : t = 2
      · subst h3; rfl
      · have e1 : decide ((1 : Int) < t) = true := decide_eq_true (by omega)
        have e2 : decide ((2 : Int) < t) = true := decide_eq_true (by omega)
        have e3 : ¬ t = 1 := by omega
        simp [List.countP_cons, e1, e2, e3, h3, h1, h2]
theorem next1 (t : Int) : nextId [1] t = 1 := by
  unfold nextId
  have : ∀ k : Nat, k % [(1 : Int)].length = 0 := fun k => by simp [Nat.mod_one]
  rw [this]; rfl
theorem beg2 (t : Int) (g : Bool) : begS (hs2 m m) (sq m S b1 b2 x y t g) = sq m S b1 b2 x y t g := by
  simp [begS, sq, hs2, upd, forgetF, ids]
theorem beg1 (t : Int) (g : Bool) : begS (hs1 m) (sq m S b1 b2 x y t g) = sq m S b1 b2 x 0 t g := by
  simp [begS, sq, hs1, upd, forgetF, ids]
theorem pass2 (t : Int) (g : Bool) : passS (hs2 m m) (sq m S b1 b2 x y t g) = sq m S b1 b2 x y (nextId [1, 2] t) false := rfl
theorem pass1 (t : Int) (g : Bool) : passS (hs1 m) (sq m S b1 b2 x y t g) = sq m S b1 b2 x y 1 false := by
  show sq m S b1 b2 x y (nextId [1] t) false = _
  rw [next1]
theorem grantT (t : Int) : grantS (sq m S b1 b2 x y t true) = sq m S b1 b2 x y t true := rfl
theorem grant1 : grantS (sq m S b1 b2 x y 1 false) = sq m S b1 b2 (x + S) y 1 true := by simp [grantS, sq, upd]
theorem grant2 : grantS (sq m S b1 b2 x y 2 false) = sq m S b1 b2 x (y + S) 2 true := by simp [grantS, sq, upd]
theorem left1 (t : Int) (g : Bool) : leftOf (sq m S b1 b2 x y t g) 1 = x := rfl
theorem left2 (t : Int) (g : Bool) : leftOf (sq m S b1 b2 x y t g) 2 = y := rfl
theorem size2a : sizeOf' (hs2 m m) 1 = m := rfl
theorem size2b : sizeOf' (hs2 m m) 2 = m := rfl
theorem size1a : sizeOf' (hs1 m) 1 = m := rfl
theorem fir2 (t : Int) (g : Bool) (h : t = 1 ∨ t = 2) : firS (hs2 m m) (sq m S b1 b2 x y t g) = sq m S b1 b2 x y t g := by
  unfold firS
  rw [if_pos (by rcases h with rfl | rfl <;> simp [sq, hs2, ids]), beg2]
theorem choose_1 (hS : m ≤ S) (hy : 0 ≤ y) : chooseS (hs2 m m) (sq m S b1 b2 x y 1 true) = if x < m then sq m S b1 b2 x (y + S) 2 true else sq m S b1 b2 x y 1 true := by
  show runS (hs2 m m) (firS (hs2 m m) (sq m S b1 b2 x y 1 true)) = _
  rw [fir2 m S b1 b2 x y 1 true (.inl rfl)]
  unfold runS lowS
  rw [grantT]
  show (if decide (leftOf (sq m S b1 b2 x y 1 true) 1 < sizeOf' (hs2 m m) 1) = true then _ else _) = _
  rw [left1, size2a, pass2, next12]
  by_cases h : x < m
  · rw [decide_eq_true h, if_pos rfl, if_pos h]
    exact grant2 m S b1 b2 x y
  · rw [decide_eq_false h, if_neg h]; rfl
theorem choose_2 (hS : m ≤ S) (hx : 0 ≤ x) : chooseS (hs2 m m) (sq m S b1 b2 x y 2 true) = if y < m then sq m S b1 b2 (x + S) y 1 true else sq m S b1 b2 x y 2 true := by
  show runS (hs2 m m) (firS (hs2 m m) (sq m S b1 b2 x y 2 true)) = _
  rw [fir2 m S b1 b2 x y 2 true (.inr rfl)]
  unfold runS lowS
  rw [grantT]
  show (if decide (leftOf (sq m S b1 b2 x y 2 true) 2 < sizeOf' (hs2 m m) 2) = true then _ else _) = _
  rw [left2, size2b, pass2, next12]
  by_cases h : y < m
  · rw [decide_eq_true h, if_pos rfl, if_pos h]
    exact grant1 m S b1 b2 x y
  · rw [decide_eq_false h, if_neg h]; rfl
theorem choose_0 (hS : m ≤ S) (hx : 0 ≤ x) : chooseS (hs2 m m) (sq m S b1 b2 x y 0 false) = sq m S b1 b2 (x + S) y 1 true := by
  show runS (hs2 m m) (firS (hs2 m m) (sq m S b1 b2 x y 0 false)) = _
  have hf : firS (hs2 m m) (sq m S b1 b2 x y 0 false) = sq m S b1 b2 x y 1 false := by
    unfold firS
    rw [if_neg (by simp [sq, hs2, ids]), beg2, pass2, next12]
    rfl
  rw [hf]
  unfold runS lowS
  rw [grant1]
  show (if decide (leftOf (sq m S b1 b2 (x + S) y 1 true) 1 < sizeOf' (hs2 m m) 1) = true then _ else _) = _
  rw [left1, size2a, decide_eq_false (by omega)]
  rfl
theorem chooseA (hS : m ≤ S) (hx : 0 ≤ x) (t : Int) (g : Bool) (h : t = 1 ∧ g = true ∨ t = 0 ∧ g = false) : chooseS (hs1 m) (sq m S b1 b2 x y t g) = if g = true ∧ m ≤ x then sq m S b1 b2 x 0 1 true else sq m S b1 b2 (x + S) 0 1 true := by
  show runS (hs1 m) (firS (hs1 m) (sq m S b1 b2 x y t g)) = _
  rcases h with ⟨rfl, rfl⟩ | ⟨rfl, rfl⟩
  · have hf : firS (hs1 m) (sq m S b1 b2 x y 1 true) = sq m S b1 b2 x 0 1 true := by
      unfold firS
      rw [if_pos (by simp [sq, hs1, ids]), beg1]
    rw [hf]
    unfold runS lowS
    rw [grantT]
    show (if decide (leftOf (sq m S b1 b2 x 0 1 true) 1 < sizeOf' (hs1 m) 1) = true then _ else _) = _
    rw [left1, size1a, pass1]
    by_cases h : x < m
    · rw [decide_eq_true h, if_pos rfl, if_neg (by omega)]
      exact grant1 m S b1 b2 x 0
    · rw [decide_eq_false h, if_neg (by decide), if_pos ⟨rfl, by omega⟩]
  · have hf : firS (hs1 m) (sq m S b1 b2 x y 0 false) = sq m S b1 b2 x 0 1 false := by
      unfold firS
      rw [if_neg (by simp [sq, hs1, ids]), beg1, pass1]
    rw [hf]
    unfold runS lowS
    rw [grant1]
    show (if decide (leftOf (sq m S b1 b2 (x + S) 0 1 true) 1 < sizeOf' (hs1 m) 1) = true then _ else _) = _
    rw [left1, size1a, decide_eq_false (by omega), if_neg (by decide), if_neg (by rintro ⟨h, _⟩; cases h)]
theorem take_1 (n : Int) (h0 : 0 ≤ n) (h : n ≤ x) : takeS n (sq m S b1 b2 x y 1 true) = sq m S b1 b2 (x - n) y 1 true := by
  unfold takeS
  rw [if_pos ⟨rfl, h0, by show n ≤ leftOf (sq m S b1 b2 x y 1 true) 1; rw [left1]; exact h⟩]
  simp [sq, upd]
theorem take_2 (n : Int) (h0 : 0 ≤ n) (h : n ≤ y) : takeS n (sq m S b1 b2 x y 2 true) = sq m S b1 b2 x (y - n) 2 true := by
  unfold takeS
  rw [if_pos ⟨rfl, h0, by show n ≤ leftOf (sq m S b1 b2 x y 2 true) 2; rw [left2]; exact h⟩]
  simp [sq, upd]
end
theorem sq_two (m S : Int) (b1 b2 : Nat) (x y t : Int) (g : Bool) : two12 (sq m S b1 b2 x y t g) := ⟨⟨_, List.mem_cons_self, rfl⟩, ⟨_, List.mem_cons_of_mem _ List.mem_cons_self, rfl⟩⟩
theorem ok1 {s : Sc} (h : ∃ f ∈ s.L, f.id = 1) {a : Int} (a0 : 0 ≤ a) (a1 : a ≤ s.most) : Ok s (hs1 a) :=
  ⟨by simp [hs1, ids], (fun x hx => by simp [hs1] at hx; subst hx; exact h), (fun x hx => by simp [hs1] at hx; subst hx; exact ⟨a0, a1⟩)⟩
theorem hrow1 (w : World) (a : Int) : HRow (w.alloc (.cells #[.int .i64 1, .int .i64 a] HT)) (.slice (some ⟨w.heap.size, 0, none⟩) 1 1) (hs1 a) :=
  hrow_new w (hs1 a) _ (fun j h hj => by
    match j, hj with
    | 0, hj => simp [hs1] at hj; subst hj; exact ⟨rfl, rfl⟩
    | j + 1, hj => simp [hs1] at hj)
theorem choose1 (p mb c : Nat) (D : DataW Unit) (s : Sc) (a : Int) (w : World) (h : Ss w p mb c D s) (h2 : ∃ f ∈ s.L, f.id = 1) (a0 : 0 ≤ a) (a1 : a ≤ s.most) :
    Calls Try.prog 25 #[.pointer (some ⟨p, 0, none⟩), .slice (some ⟨w.heap.size, 0, none⟩) 1 1] (w.alloc (.cells #[.int .i64 1, .int .i64 a] HT)) fun e w' => e = .returned (.tuple #[.int .i64 (chooseS (hs1 a) s).turn, .bool true]) ∧ Lf w w' p mb c D s (chooseS (hs1 a) s) := by
  refine (choose_cons p mb c D s (hs1 a) _ _ (h.later ((Turns.refl _ _).alloc _)) (hrow1 w a) (ok1 h2 a0 a1) (by simp [hs1]) (by simp [hs1]) (fun x hx => by simp [hs1, ids] at hx; subst hx; omega)).mono ?_
  rintro e w' ⟨rfl, h1, h2⟩
  exact ⟨rfl, h1, (((Turns.refl (Foot p mb s) w).alloc (.cells #[.int .i64 1, .int .i64 a] HT))).trans (h2.mono (fun _ _ h => .inl h))⟩
end Go.Proofs.Ytcaloeolmoodbaa.drr
