/-
  queue, as pure functions: items, what is dropped together, Put, Expire. No program.
-/
import Derived.Test.YtcaloeolmoodbaaRowsG5
namespace Go.Proofs.Ytcaloeolmoodbaa.que
open Go.RowKit mem
set_option linter.unusedVariables false

structure It where
  n : Int
  size : Int
  tick : Int
  key : Bool
def It.cs (x : It) : List Value := [.int .i64 x.n, .int .i64 x.size, .int .i64 x.tick, .bool x.key]
def IE : Enc It := ⟨4, It.cs, fun _ => rfl, fun x u hu => by
  simp [It.cs] at hu
  rcases hu with rfl | rfl | rfl | rfl <;> rfl⟩

def sumL : List It → Int
  | [] => 0
  | x :: l => x.size + sumL l
theorem sumL_append (a b : List It) : sumL (a ++ b) = sumL a + sumL b := by
  induction a with
  | nil => simp [sumL]
  | cons x a ih => rw [List.cons_append, sumL, sumL, ih]; omega
theorem sumL_cut (l : List It) (n : Nat) : sumL l = sumL (l.take n) + sumL (l.drop n) := by rw [← sumL_append, List.take_append_drop]
def pos (l : List It) : Prop := ∀ x ∈ l, 0 ≤ x.size
theorem sumL_pos : ∀ (l : List It), pos l → 0 ≤ sumL l
  | [], _ => Int.le_refl 0
  | x :: l, h => by
    have h1 := h x List.mem_cons_self
    have h2 := sumL_pos l (fun y hy => h y (List.mem_cons_of_mem _ hy))
    rw [sumL]; omega
theorem pos.drop {l : List It} (h : pos l) (n : Nat) : pos (l.drop n) := fun x hx => h x (List.mem_of_mem_drop hx)
theorem pos.take {l : List It} (h : pos l) (n : Nat) : pos (l.take n) := fun x hx => h x (List.mem_of_mem_take hx)
theorem sumL_drop_le (l : List It) (n : Nat) (h : pos l) : sumL (l.drop n) ≤ sumL l := by
  have := sumL_cut l n
  have := sumL_pos _ (h.take n)
  omega
theorem sumL_take_le (l : List It) (n : Nat) (h : pos l) : sumL (l.take n) ≤ sumL l := by
  have := sumL_cut l n
  have := sumL_pos _ (h.drop n)
  omega
theorem sumL_at (l : List It) (n : Nat) (x : It) (h : l[n]? = some x) : sumL (l.take (n + 1)) = sumL (l.take n) + x.size := by
  rw [List.take_add_one, h, sumL_append]
  simp [sumL]

/-- how many of the first ones aren't Key -/
def runL : List It → Nat
  | [] => 0
  | x :: l => if x.key then 0 else 1 + runL l
theorem runL_le : ∀ (l : List It), runL l ≤ l.length
  | [] => Nat.le_refl 0
  | x :: l => by
    have := runL_le l
    rw [runL, List.length_cons]
    split <;> omega
/-- how many are dropped with the first one -/
def dropN (l : List It) : Nat := 1 + runL (l.drop 1)
theorem dropN_pos (l : List It) : 1 ≤ dropN l := Nat.le_add_right 1 _
theorem dropN_le (l : List It) (h : l ≠ []) : dropN l ≤ l.length := by
  have := runL_le (l.drop 1)
  have h0 : l.length ≠ 0 := fun e => h (List.length_eq_zero_iff.1 e)
  rw [List.length_drop] at this
  unfold dropN; omega
theorem runL_at (l : List It) (n : Nat) (x : It) (h : l[n]? = some x) : runL (l.drop n) = if x.key then 0 else 1 + runL (l.drop (n + 1)) := by
  obtain ⟨hlt, hx⟩ := List.getElem?_eq_some_iff.1 h
  rw [List.drop_eq_getElem_cons hlt, runL, hx]
theorem runL_end (l : List It) (n : Nat) (h : l.length ≤ n) : runL (l.drop n) = 0 := by rw [List.drop_eq_nil_of_le h]; rfl

/-- as long as P, the first one is dropped: how many in all -/
def shed (P : List It → Bool) : Nat → List It → Nat
  | 0, _ => 0
  | f + 1, l => if P l then dropN l + shed P f (l.drop (dropN l)) else 0
theorem shed_two (P : List It → Bool) (h0 : P [] = false) : ∀ (f g : Nat) (l : List It), l.length ≤ f → l.length ≤ g → shed P f l = shed P g l
  | 0, g, l, h, _ => by
    have : l = [] := List.length_eq_zero_iff.1 (by omega)
    subst this
    cases g with
    | zero => rfl
    | succ g => rw [shed, shed, h0]; rfl
  | f + 1, 0, l, _, h => by
    have : l = [] := List.length_eq_zero_iff.1 (by omega)
    subst this
    rw [shed, shed, h0]; rfl
  | f + 1, g + 1, l, h1, h2 => by
    have hd := dropN_pos l
    rw [shed, shed]
    split
    next hp => rw [shed_two P h0 f g _ (by rw [List.length_drop]; omega) (by rw [List.length_drop]; omega)]
    next => rfl
theorem shed_fuel (P : List It → Bool) (h0 : P [] = false) (f : Nat) (l : List It) (h : l.length ≤ f) : shed P f l = shed P l.length l := shed_two P h0 f _ l h (Nat.le_refl _)
def sh (P : List It → Bool) (l : List It) : Nat := shed P l.length l
theorem sh_go (P : List It → Bool) (h0 : P [] = false) (l : List It) (h : P l = true) : l ≠ [] ∧ sh P l = dropN l + sh P (l.drop (dropN l)) := by
  have hne : l ≠ [] := fun e => by rw [e, h0] at h; cases h
  refine ⟨hne, ?_⟩
  obtain ⟨x, r, rfl⟩ := List.exists_cons_of_ne_nil hne
  have hd := dropN_pos (x :: r)
  unfold sh
  rw [List.length_cons, shed, h, if_pos rfl, shed_fuel P h0 r.length _ (by rw [List.length_drop, List.length_cons]; omega)]
theorem sh_end (P : List It → Bool) (l : List It) (h : P l = false) : sh P l = 0 := by
  unfold sh
  cases l with
  | nil => rfl
  | cons x l => rw [List.length_cons, shed, h]; rfl
theorem sh_le (P : List It → Bool) : ∀ (f : Nat) (l : List It), P [] = false → shed P f l ≤ l.length
  | 0, l, _ => Nat.zero_le _
  | f + 1, l, h0 => by
    rw [shed]
    split
    next h =>
      have hne : l ≠ [] := fun e => by rw [e, h0] at h; cases h
      have h1 := sh_le P f (l.drop (dropN l)) h0
      have h2 := dropN_le l hne
      rw [List.length_drop] at h1
      omega
    next => exact Nat.zero_le _

/-- is it broken when k of l are gone? -/
def brk (b : Bool) (l : List It) (k : Nat) : Bool := b || (decide (0 < k) && decide (k = l.length))
theorem brk_zero (b : Bool) (l : List It) : brk b l 0 = b := by simp [brk]
theorem brk_step (b : Bool) (l : List It) (k d : Nat) (hk : k < l.length) (hd : 1 ≤ d) : (brk b l k || decide (d = (l.drop k).length)) = brk b l (k + d) := by
  have e1 : decide (k = l.length) = false := decide_eq_false (by omega)
  have e2 : decide (0 < k + d) = true := decide_eq_true (by omega)
  have e3 : decide (d = l.length - k) = decide (k + d = l.length) := by apply decide_eq_decide.2; omega
  simp [brk, e1, e2, e3]

structure Q where
  frames : Int
  most : Int
  L : List It
  broken : Bool
structure Q.ok (q : Q) : Prop where
  f1 : 1 ≤ q.frames
  f2 : q.frames ≤ 1024
  m1 : 1 ≤ q.most
  m2 : q.most ≤ 16777216
  len : (q.L.length : Int) ≤ q.frames
  sum : sumL q.L ≤ q.most
  pos : pos q.L
theorem Q.ok.drop {q : Q} (h : q.ok) (n : Nat) (b : Bool) : Q.ok ⟨q.frames, q.most, q.L.drop n, b⟩ :=
  ⟨h.f1, h.f2, h.m1, h.m2, by have := h.len; rw [List.length_drop]; show ((q.L.length - n : Nat) : Int) ≤ q.frames; omega, Int.le_trans (sumL_drop_le _ _ h.pos) h.sum, h.pos.drop n⟩
theorem Q.ok.bs {q : Q} (h : q.ok) (b : Bool) : Q.ok ⟨q.frames, q.most, q.L, b⟩ := ⟨h.f1, h.f2, h.m1, h.m2, h.len, h.sum, h.pos⟩

def full (q : Q) (x : It) (l : List It) : Bool := decide ((l.length : Int) = q.frames) || decide (q.most < sumL l + x.size)
def late (now age : Int) : List It → Bool
  | [] => false
  | y :: _ => decide (age ≤ now - y.tick)
def bad (q : Q) (x : It) : Bool := decide (x.size < 0) || decide (q.most < x.size) || (q.broken && !x.key)
def putK (q : Q) (x : It) : Nat := sh (full q x) q.L
def putB (q : Q) (x : It) : Bool := brk q.broken q.L (putK q x)
def putOk (q : Q) (x : It) : Bool := !bad q x && !(putB q x && !x.key)
def putD (q : Q) (x : It) : List It := if bad q x then [] else q.L.take (putK q x)
def putQ (q : Q) (x : It) : Q :=
  if bad q x then ⟨q.frames, q.most, q.L, true⟩
  else if putB q x && !x.key then ⟨q.frames, q.most, q.L.drop (putK q x), putB q x⟩
  else ⟨q.frames, q.most, q.L.drop (putK q x) ++ [x], false⟩
def expK (q : Q) (now age : Int) : Nat := sh (late now age) q.L
def expQ (q : Q) (now age : Int) : Q := ⟨q.frames, q.most, q.L.drop (expK q now age), brk q.broken q.L (expK q now age)⟩
def expD (q : Q) (now age : Int) : List It := q.L.take (expK q now age)
theorem full_nil {q : Q} (h : q.ok) {x : It} (hx : x.size ≤ q.most) : full q x [] = false := by
  have := h.f1
  simp [full, sumL]; omega
/-- when the loop has ended, it fits -/
theorem shed_last (P : List It → Bool) (h0 : P [] = false) : ∀ (f : Nat) (l : List It), l.length ≤ f → P (l.drop (shed P f l)) = false
  | 0, l, h => by
    have : l = [] := List.length_eq_zero_iff.1 (by omega)
    subst this; exact h0
  | f + 1, l, h => by
    rw [shed]
    split
    next hp =>
      have hne : l ≠ [] := fun e => by rw [e, h0] at hp; cases hp
      have hd := dropN_pos l
      have hl : 0 < l.length := List.length_pos_iff.2 hne
      rw [← List.drop_drop]
      exact shed_last P h0 f _ (by rw [List.length_drop]; omega)
    next hp => simpa using hp
theorem putQ_ok {q : Q} (h : q.ok) {x : It} : (putQ q x).ok := by
  unfold putQ
  split
  · exact h.bs true
  next hb =>
    simp [bad] at hb
    split
    · exact h.drop _ _
    · have h0 := full_nil h (x := x) (by omega)
      have hl := shed_last (full q x) h0 q.L.length q.L (Nat.le_refl _)
      have hle := sh_le (full q x) q.L.length q.L h0
      change full q x (q.L.drop (putK q x)) = false at hl
      change putK q x ≤ q.L.length at hle
      have hd := h.drop (putK q x) false
      have hlen := hd.len
      simp only [full, Bool.or_eq_false_iff, decide_eq_false_iff_not] at hl
      refine ⟨h.f1, h.f2, h.m1, h.m2, ?_, ?_, ?_⟩
      · simp only [List.length_append, List.length_singleton]
        simp only at hlen
        omega
      · simp only [sumL_append, sumL]
        omega
      · intro y hy
        rcases List.mem_append.1 hy with hy | hy
        · exact hd.pos y hy
        · simp at hy; subst hy; omega
end Go.Proofs.Ytcaloeolmoodbaa.que
