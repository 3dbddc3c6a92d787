/-
  Frame's maker as a state; its small calls.
-/
import Derived.Test.YtmfknefihjjgoaaAppend
import Derived.Test.YtmfknefihjjgoaaRows
import Derived.WalkLawsBesides
import Derived.Handy
import Derived.Outline
import Derived.Lib.Hide
import Derived.RegionTactic
import Derived.Deep.DeepCutAuto
namespace Go.Proofs.Ytmfknefihjjgoaa.frm
open Go.RowKit mem
set_option linter.unusedVariables false

/-- a unit -/
structure U where
  a : Int
  t : Int
  mr : Bool
  st : Bool
  ky : Bool
  x : ByteArray
  tick : Int
def U.cs (u : U) : List Value := [.int .i64 u.a, .int .i64 u.t, .bool u.mr, .bool u.st, .bool u.ky, .string u.x, .int .i64 u.tick]
def us (l : List U) : List Value := l.flatMap U.cs
theorem us_nil : us [] = [] := rfl
theorem us_cons (u : U) (l : List U) : us (u :: l) = u.cs ++ us l := rfl
theorem us_append (l m : List U) : us (l ++ m) = us l ++ us m := by simp [us]
theorem us_one (u : U) : us [u] = u.cs := by simp [us]
theorem us_length (l : List U) : (us l).length = l.length * 7 := by
  induction l with
  | nil => rfl
  | cons u l ih => rw [us_cons, List.length_append, ih]; simp [U.cs]; omega
/-- what a unit holds is no more than this -/
structure U.ok (u : U) : Prop where
  a0 : 0 ≤ u.a
  a1 : u.a ≤ 1152921504606846976
  t0 : 0 ≤ u.t
  t1 : u.t ≤ 1152921504606846976
  k0 : 0 ≤ u.tick
  k1 : u.tick ≤ 1152921504606846976
  x1 : u.x.size ≤ 1048576
def size : List U → Nat
  | [] => 0
  | u :: l => u.x.size + size l
theorem size_append (l m : List U) : size (l ++ m) = size l + size m := by
  induction l with
  | nil => simp [size]
  | cons u l ih => simp [size, ih]; omega
theorem size_take_succ (l : List U) (k : Nat) (u : U) (h : l[k]? = some u) : size (l.take (k + 1)) = size (l.take k) + u.x.size := by
  rw [List.take_add_one, h, size_append]; simp [size]
theorem size_take_le (l : List U) (k : Nat) : size (l.take k) ≤ size l := by
  have h := size_append (l.take k) (l.drop k)
  rw [List.take_append_drop] at h
  omega

/-- the cells of unit k -/
theorem us_at (l : List U) (k : Nat) (u : U) (h : l[k]? = some u) (j : Nat) (v : Value) (hj : u.cs[j]? = some v) : (us l)[k * 7 + j]? = some v := by
  induction l generalizing k with
  | nil => simp at h
  | cons y l ih =>
    have hyl : y.cs.length = 7 := rfl
    have hj7 : j < 7 := by have := (List.getElem?_eq_some_iff.1 hj).1; simpa [U.cs] using this
    rw [us_cons]
    cases k with
    | zero =>
      simp at h
      subst h
      rw [List.getElem?_append_left (by omega)]
      simpa using hj
    | succ k =>
      rw [List.getElem?_append_right (by omega), hyl]
      have := ih k (by simpa using h)
      rw [show (k + 1) * 7 + j - 7 = k * 7 + j by omega]
      exact this

/-- a slice that holds units, in a block of its own -/
def Row (w : World) (v : Value) (l : List U) : Prop := w.ownsRow 0 43 7 v l.length (us l)
theorem Row.nil (w : World) : Row w (.slice none 0 0) [] := World.ownsRow_nil w 0 _ _
theorem Row.lt {w : World} {v : Value} {l : List U} (h : Row w v l) : ∀ g, v.ownBlock = some g → g < w.heap.size := fun g hg => (World.ownsRow.lt h g hg).2
theorem Row.turns {S : Nat → Prop} {w w' : World} {v : Value} {l : List U} (h : Row w v l) (ht : Turns S w w') (hn : ∀ g, v.ownBlock = some g → ¬ S g) : Row w' v l := by
  have hl := h.lt
  refine ⟨h.1, ?_⟩
  rcases h.2 with h0 | ⟨g, cap, cur, rfl, hb, hg, r⟩
  · exact .inl h0
  · exact .inr ⟨g, cap, cur, rfl, hb, by rw [ht.block g (hl g rfl) (hn g rfl)]; exact hg, r⟩
/-- the value is a slice: its address, and its cells -/
theorem Row.form {w : World} {v : Value} {l : List U} (h : Row w v l) :
    ∃ (ao : Option Addr) (c : Nat), v = .slice ao l.length c ∧ (l = [] ∨ ∃ g, ao = some ⟨g, 0, none⟩ ∧ v.ownBlock = some g ∧ g < w.heap.size ∧ ∀ (k : Nat) (u : U), l[k]? = some u →
      w.cell? ⟨g, k * 7, none⟩ = some (.int .i64 u.a) ∧ w.cell? ⟨g, k * 7 + 1, none⟩ = some (.int .i64 u.t) ∧ w.cell? ⟨g, k * 7 + 2, none⟩ = some (.bool u.mr) ∧ w.cell? ⟨g, k * 7 + 3, none⟩ = some (.bool u.st) ∧ w.cell? ⟨g, k * 7 + 4, none⟩ = some (.bool u.ky) ∧ w.cell? ⟨g, k * 7 + 5, none⟩ = some (.string u.x) ∧ w.cell? ⟨g, k * 7 + 6, none⟩ = some (.int .i64 u.tick)) := by
  have hlt := h.lt
  have hcs := @World.ownsRow.cells _ _ _ _ _ _ _ h
  rcases h.2 with ⟨rfl, h0⟩ | ⟨g, cap, cur, rfl, hb, hg, r⟩
  · have : l = [] := List.length_eq_zero_iff.1 h0
    subst this
    exact ⟨none, 0, rfl, .inl rfl⟩
  · refine ⟨some ⟨g, 0, none⟩, cap, rfl, .inr ⟨g, rfl, rfl, hlt g rfl, fun k u hu => ?_⟩⟩
    have hc : ∀ (j : Nat) (x : Value), u.cs[j]? = some x → w.cell? ⟨g, k * 7 + j, none⟩ = some x := fun j x hj => by
      have := hcs (g := g) rfl (k * 7 + j) x (us_at l k u hu j x hj)
      rwa [show (⟨g, 0, none⟩ : Addr).add (k * 7 + j) = ⟨g, k * 7 + j, none⟩ by unfold Addr.add; split <;> simp_all] at this
    exact ⟨hc 0 _ rfl, hc 1 _ rfl, hc 2 _ rfl, hc 3 _ rfl, hc 4 _ rfl, hc 5 _ rfl, hc 6 _ rfl⟩

/-- what makers are -/
structure C where
  v : Bool
  b : Int
  n : Int
  w : Int
/-- a maker's state -/
structure Q where
  c : C
  o : List U
  wh : Int
  lo : Int
abbrev mcs (s : Q) (v : Value) : Array Value := #[.bool s.c.v, .int .i64 s.c.b, .int .i64 s.c.n, .int .i64 s.c.w, v, .int .i64 s.wh, .int .i64 s.lo]
def Mk (w : World) (p : Nat) (v : Value) (s : Q) : Prop := Blk w p (mcs s v) 69 ∧ Row w v s.o ∧ v.ownBlock ≠ some p
theorem Mk.turns {S : Nat → Prop} {w w' : World} {p : Nat} {v : Value} {s : Q} (h : Mk w p v s) (ht : Turns S w w') (hp : ¬ S p) (hn : ∀ g, v.ownBlock = some g → ¬ S g) : Mk w' p v s :=
  ⟨ht.blk h.1 hp, h.2.1.turns ht hn, h.2.2⟩
theorem Mk.lt {w : World} {p : Nat} {v : Value} {s : Q} (h : Mk w p v s) : p < w.heap.size := h.1.lt

abbrev New (w w' : World) : Prop := Turns (fun _ => False) w w'

theorem openC (p : Nat) (v : Value) (s : Q) (w : World) (h : Mk w p v s) :
    Calls Try.prog 12 #[.pointer (some ⟨p, 0, none⟩)] w fun e w' => e = .returned (.int .i64 s.o.length) ∧ w = w' := by
  have c4 := h.1.cell 4
  obtain ⟨ao, c, rfl, _⟩ := h.2.1.form
  go_enter Try.func12, Try.ntmps12
  go_wp2
  go_ret
  exact ⟨rfl, rfl⟩

theorem countsC (p : Nat) (v : Value) (s : Q) (w : World) (h : Mk w p v s) :
    Calls Try.prog 11 #[.pointer (some ⟨p, 0, none⟩)] w fun e w' => e = .returned (.tuple #[.int .i64 s.wh, .int .i64 s.lo]) ∧ New w w' := by
  have c5 := h.1.cell 5
  have c6 := h.1.cell 6
  go_enter Try.func11, Try.ntmps11
  go_wp2
  go_region
  go_wp2
  go_returns
  exact ⟨rfl, (Turns.refl _ _).drew⟩

theorem checkC (c : C) (w : World) :
    Calls Try.prog 18 #[.agg #[.bool c.v, .int .i64 c.b, .int .i64 c.n, .int .i64 c.w]] w fun e w' => e = .returned (.int .i64 (if 1 ≤ c.b ∧ c.b ≤ 1048576 ∧ 1 ≤ c.n ∧ c.n ≤ 1024 ∧ 0 ≤ c.w ∧ c.w ≤ 1099511627776 then 0 else 5)) ∧ New w w' := by
  obtain ⟨cv, b, n, x⟩ := c
  by_cases h : 1 ≤ b ∧ b ≤ 1048576 ∧ 1 ≤ n ∧ n ≤ 1024 ∧ 0 ≤ x ∧ x ≤ 1099511627776
  · simp only [h, and_self, if_true]
    obtain ⟨h1, h2, h3, h4, h5, h6⟩ := h
    go_enter Try.func18, Try.ntmps18
    go_wp2
    go_ret
    exact ⟨rfl, (Turns.refl _ _).alloc _⟩
  · simp only [h, if_false]
    go_enter Try.func18, Try.ntmps18
    go_wp2
    all_goals first | omega | (go_ret; first | exact ⟨rfl, (Turns.refl _ _).alloc _⟩ | omega)
end Go.Proofs.Ytmfknefihjjgoaa.frm
