/-
  ring.Ring: what it holds, as a list. No program.
-/
import Derived.Test.YtfdmgloimibioaaMapU
namespace Go.Proofs.Ytfdmgloimibioaa.rng
open Go.RowKit mem Go.Maps
set_option linter.unusedVariables false

/-- a packet that was sent -/
structure P where
  q : Int
  t : ByteArray
  g : Int
  a : Int
def P.cs (x : P) : List Value := [.int .u16 x.q, .string x.t, .int .i64 x.g, .int .i64 x.a]
def PE : Enc P := ⟨4, P.cs, fun _ => rfl, by
  intro a u hu
  simp [P.cs] at hu
  rcases hu with rfl | rfl | rfl | rfl <;> rfl⟩

/-- the place of the last one with a number -/
def lastIdx : List P → Int → Option Nat
  | [], _ => none
  | x :: l, n => match lastIdx l n with
    | some i => some (i + 1)
    | none => if x.q = n then some 0 else none
theorem lastIdx_cons (x : P) (l : List P) (n : Int) : lastIdx (x :: l) n = match lastIdx l n with | some i => some (i + 1) | none => if x.q = n then some 0 else none := rfl
theorem lastIdx_snoc (l : List P) (x : P) (n : Int) : lastIdx (l ++ [x]) n = if x.q = n then some l.length else lastIdx l n := by
  induction l with
  | nil => simp [lastIdx]
  | cons y l ih =>
    rw [List.cons_append, lastIdx_cons, ih, lastIdx_cons]
    by_cases h : x.q = n
    · simp [h]
    · simp [h]
theorem lastIdx_some {l : List P} {n : Int} {i : Nat} (h : lastIdx l n = some i) : ∃ x, l[i]? = some x ∧ x.q = n := by
  induction l generalizing i with
  | nil => simp [lastIdx] at h
  | cons y l ih =>
    rw [lastIdx_cons] at h
    cases hl : lastIdx l n with
    | some j =>
      rw [hl] at h
      simp at h
      subst h
      simpa using ih hl
    | none =>
      rw [hl] at h
      by_cases hy : y.q = n
      · simp [hy] at h
        subst h
        exact ⟨y, rfl, hy⟩
      · simp [hy] at h
theorem lastIdx_lt {l : List P} {n : Int} {i : Nat} (h : lastIdx l n = some i) : i < l.length := by
  obtain ⟨x, hx, _⟩ := lastIdx_some h
  exact (List.getElem?_eq_some_iff.1 hx).1
theorem lastIdx_set {l : List P} {i : Nat} {x y : P} (hx : l[i]? = some x) (hq : y.q = x.q) (n : Int) : lastIdx (l.set i y) n = lastIdx l n := by
  induction l generalizing i with
  | nil => simp at hx
  | cons z l ih =>
    cases i with
    | zero =>
      simp at hx
      subst hx
      rw [List.set_cons_zero, lastIdx_cons, lastIdx_cons, hq]
    | succ i =>
      rw [List.set_cons_succ, lastIdx_cons, lastIdx_cons, ih (by simpa using hx)]
theorem lastIdx_head {x : P} {l : List P} : ∃ i, lastIdx (x :: l) x.q = some i := by
  rw [lastIdx_cons]
  cases h : lastIdx l x.q with
  | some j => exact ⟨j + 1, rfl⟩
  | none => exact ⟨0, by simp⟩

/-- the list l in memory holds the list L, the eldest one at old -/
structure Rot (size old : Nat) (l L : List P) : Prop where
  len : l.length = L.length
  le : L.length ≤ size
  lt : old < size
  full : L.length < size → old = 0
  at' : ∀ i, i < L.length → l[(old + i) % size]? = L[i]?

def mapKey (n : Int) : Lit := .int .u16 n
/-- what the map says -/
def Mp (D : DataW Unit) (size old : Nat) (L : List P) : Prop :=
  ∀ n : Int, 0 ≤ n → n ≤ 65535 →
    (lastIdx L n = none → Maps.has D (.int .u16 n) = false) ∧
    (∀ i, lastIdx L n = some i → Maps.has D (.int .u16 n) = true ∧ ∀ z, D.atKey (.int .u16 n) z = .lit (.int .i64 (((old + i) % size : Nat) : Int)))

structure R where
  size : Nat
  old : Nat
  most : Int
  gap : Int
  L : List P
  sent : Int

structure P.ok (x : P) (most : Int) : Prop where
  q0 : 0 ≤ x.q
  q1 : x.q ≤ 65535
  g0 : 0 ≤ x.g
  g1 : x.g ≤ most
  a0 : 0 ≤ x.a
  a1 : x.a ≤ 1048576

/-- the values that come about -/
structure R.ok (r : R) : Prop where
  z1 : r.size ≤ 4096
  m0 : 0 ≤ r.most
  m1 : r.most ≤ 9223372036854775807
  g0 : 0 ≤ r.gap
  g1 : r.gap ≤ 9223372036854775807
  s0 : 0 ≤ r.sent
  s1 : r.sent ≤ 1048576
  p : ∀ x ∈ r.L, x.ok r.most

/-- a packet is put -/
def putR (r : R) (n : Int) (s : ByteArray) : R :=
  if r.L.length < r.size then { r with L := r.L ++ [⟨n, s, 0, 0⟩] } else { r with L := r.L.tail ++ [⟨n, s, 0, 0⟩], old := (r.old + 1) % r.size }
def findR (r : R) (n : Int) : Option P := match lastIdx r.L n with | none => none | some i => r.L[i]?
/-- may it be sent again? -/
def tooSoon (r : R) (x : P) (now : Int) : Bool := decide (0 < x.g) && decide (now - x.a < r.gap)
def againE (r : R) (n now : Int) : Int := match findR r n with
  | none => 12
  | some x => if r.most ≤ x.g then 11 else if tooSoon r x now = true then 14 else 0
def againS (r : R) (n now : Int) : ByteArray := match findR r n with
  | none => ⟨#[]⟩
  | some x => if r.most ≤ x.g then ⟨#[]⟩ else if tooSoon r x now = true then ⟨#[]⟩ else x.t
def againR (r : R) (n now : Int) : R := match lastIdx r.L n with
  | none => r
  | some i => match r.L[i]? with
    | none => r
    | some x => if r.most ≤ x.g then r else if tooSoon r x now = true then r else { r with L := r.L.set i { x with g := x.g + 1, a := now }, sent := r.sent + 1 }

theorem putR_ok {r : R} (h : r.ok) {n : Int} (n0 : 0 ≤ n) (n1 : n ≤ 65535) (s : ByteArray) : (putR r n s).ok := by
  have hp : (⟨n, s, 0, 0⟩ : P).ok r.most := ⟨n0, n1, Int.le_refl 0, h.m0, Int.le_refl 0, (by decide : (0 : Int) ≤ 1048576)⟩
  unfold putR
  split
  · refine ⟨h.z1, h.m0, h.m1, h.g0, h.g1, h.s0, h.s1, ?_⟩
    intro x hx
    simp at hx
    rcases hx with hx | rfl
    · exact h.p x hx
    · exact hp
  · refine ⟨h.z1, h.m0, h.m1, h.g0, h.g1, h.s0, h.s1, ?_⟩
    intro x hx
    simp at hx
    rcases hx with hx | rfl
    · exact h.p x (List.mem_of_mem_tail hx)
    · exact hp
theorem againR_ok {r : R} (h : r.ok) (n : Int) {now : Int} (n0 : 0 ≤ now) (n1 : now ≤ 1048576) (hs : r.sent < 1048576) : (againR r n now).ok := by
  unfold againR
  split
  · exact h
  · split
    · exact h
    · rename_i x hx
      split
      · exact h
      · split
        · exact h
        · have hxo := h.p x (List.mem_of_getElem? hx)
          refine ⟨h.z1, h.m0, h.m1, h.g0, h.g1, by show 0 ≤ r.sent + 1; have := h.s0; omega, by show r.sent + 1 ≤ _; omega, ?_⟩
          intro y hy
          rcases List.mem_or_eq_of_mem_set hy with hy | rfl
          · exact h.p y hy
          · exact ⟨hxo.q0, hxo.q1, by show 0 ≤ x.g + 1; have := hxo.g0; omega, by show x.g + 1 ≤ r.most; omega, n0, n1⟩

/-! ### the list in memory -/
theorem Rot.idx {size old : Nat} {l L : List P} (h : Rot size old l L) {i : Nat} (hi : i < L.length) : (old + i) % size < l.length := by
  rcases Nat.lt_or_ge L.length size with hl | hl
  · have := h.full hl; subst this; rw [h.len, Nat.zero_add, Nat.mod_eq_of_lt (by omega)]; exact hi
  · have := h.le; rw [h.len, show L.length = size by omega]; exact Nat.mod_lt _ (by have := h.lt; omega)
theorem mod_is {size old i : Nat} (ho : old < size) (hi : i < size) : (old + i) % size = if old + i < size then old + i else old + i - size := by
  split
  · exact Nat.mod_eq_of_lt (by assumption)
  · rw [Nat.mod_eq_sub_mod (by omega), Nat.mod_eq_of_lt (by omega)]
theorem mod_inj {size old i j : Nat} (ho : old < size) (hi : i < size) (hj : j < size) (h : (old + i) % size = (old + j) % size) : i = j := by
  rw [mod_is ho hi, mod_is ho hj] at h
  split at h <;> split at h <;> omega
theorem mod_next {size old i : Nat} (ho : old < size) : ((old + 1) % size + i) % size = (old + (i + 1)) % size := by
  rw [Nat.mod_add_mod]; congr 1; omega

theorem Rot.push {size old : Nat} {l L : List P} (h : Rot size old l L) (hl : L.length < size) (x : P) : Rot size old (l ++ [x]) (L ++ [x]) := by
  have ho := h.full hl
  subst ho
  refine ⟨by simp [h.len], by simp; omega, h.lt, fun _ => rfl, ?_⟩
  intro i hi
  rw [List.length_append, List.length_singleton] at hi
  rw [Nat.zero_add, Nat.mod_eq_of_lt (by omega)]
  by_cases hi2 : i < L.length
  · rw [List.getElem?_append_left hi2, List.getElem?_append_left (by rw [h.len]; exact hi2)]
    have := h.at' i hi2
    rwa [Nat.zero_add, Nat.mod_eq_of_lt (by omega)] at this
  · have : i = L.length := by omega
    subst this
    rw [List.getElem?_append_right (Nat.le_refl _), List.getElem?_append_right (by rw [h.len]; exact Nat.le_refl _), h.len]
theorem Rot.turn {size old : Nat} {l L : List P} (h : Rot size old l L) (hl : ¬ L.length < size) (x : P) : Rot size ((old + 1) % size) (l.set old x) (L.tail ++ [x]) := by
  have hle := h.le
  have hlt := h.lt
  have he : L.length = size := by omega
  refine ⟨by simp [h.len]; omega, by simp; omega, Nat.mod_lt _ (by omega), fun hh => by simp at hh; omega, ?_⟩
  intro i hi
  rw [List.length_append, List.length_singleton, List.length_tail] at hi
  rw [mod_next hlt]
  by_cases hi2 : i + 1 < size
  · rw [List.getElem?_append_left (by rw [List.length_tail]; omega), List.getElem?_tail, List.getElem?_set_ne, h.at' (i + 1) (by omega)]
    intro e
    have e2 : (old + 0) % size = (old + (i + 1)) % size := by rw [Nat.add_zero, Nat.mod_eq_of_lt hlt]; exact e
    have := mod_inj hlt (by omega) hi2 e2
    omega
  · have hi3 : i + 1 = size := by omega
    rw [hi3, Nat.add_mod_right, Nat.mod_eq_of_lt hlt, List.getElem?_set_self (by rw [h.len]; omega), List.getElem?_append_right (by rw [List.length_tail]; omega), List.length_tail, show i - (L.length - 1) = 0 by omega]
    rfl
theorem Rot.set {size old : Nat} {l L : List P} (h : Rot size old l L) {i : Nat} (hi : i < L.length) (y : P) : Rot size old (l.set ((old + i) % size) y) (L.set i y) := by
  have hle := h.le
  refine ⟨by simp [h.len], by simpa using hle, h.lt, by simpa using h.full, ?_⟩
  intro j hj
  rw [List.length_set] at hj
  by_cases e : i = j
  · subst e
    rw [List.getElem?_set_self (h.idx hi), List.getElem?_set_self hi]
  · rw [List.getElem?_set_ne e, List.getElem?_set_ne (fun e2 => e (mod_inj h.lt (by omega) (by omega) e2)), h.at' j hj]

/-! ### the map -/
theorem Mp.empty (size : Nat) : Mp (.map []) size 0 [] := fun n _ _ => ⟨fun _ => rfl, fun i h => by simp [lastIdx] at h⟩
theorem lit_ne {n m : Int} (h : n ≠ m) : (Lit.int .u16 n) ≠ Lit.int .u16 m := fun e => h (by injection e)
theorem isKey16 {n : Int} : WideAt.IsKeyLit (.int .u16 n) := trivial
theorem Mp.push {D : DataW Unit} {size old : Nat} {L : List P} (h : Mp D size old L) (hD : IsMap D) (x : P) : Mp (D.put (.int .u16 x.q) (.lit (.int .i64 (((old + L.length) % size : Nat) : Int)))) size old (L ++ [x]) := by
  intro n n0 n1
  rw [lastIdx_snoc]
  by_cases e : x.q = n
  · subst e
    refine ⟨fun hh => by simp at hh, ?_⟩
    intro i hi
    simp at hi
    subst hi
    exact ⟨has_put_same hD isKey16 _, fun z => atKey_put_same hD isKey16 _ z⟩
  · have e2 : (Lit.int .u16 n) ≠ Lit.int .u16 x.q := lit_ne (fun h => e h.symm)
    rw [if_neg e]
    obtain ⟨h1, h2⟩ := h n n0 n1
    refine ⟨fun hh => by rw [has_put_other e2]; exact h1 hh, fun i hi => ⟨by rw [has_put_other e2]; exact (h2 i hi).1, fun z => by rw [atKey_put_other e2]; exact (h2 i hi).2 z⟩⟩
theorem Mp.tail_keep {D : DataW Unit} {size old : Nat} {x : P} {t : List P} (h : Mp D size old (x :: t)) (ho : old < size) {i : Nat} (hi : lastIdx t x.q = some i) : Mp D size ((old + 1) % size) t := by
  intro n n0 n1
  obtain ⟨h1, h2⟩ := h n n0 n1
  rw [lastIdx_cons] at h1 h2
  refine ⟨fun hh => ?_, fun j hj => ?_⟩
  · rw [hh] at h1 h2
    by_cases e : x.q = n
    · rw [e] at hi; rw [hi] at hh; cases hh
    · exact h1 (by simp [e])
  · rw [hj] at h2
    have := h2 (j + 1) rfl
    rw [mod_next ho]
    exact this
theorem Mp.tail_del {D : DataW Unit} {size old : Nat} {x : P} {t : List P} (h : Mp D size old (x :: t)) (ho : old < size) (hi : lastIdx t x.q = none) : Mp (D.del (.int .u16 x.q)) size ((old + 1) % size) t := by
  intro n n0 n1
  obtain ⟨h1, h2⟩ := h n n0 n1
  rw [lastIdx_cons] at h1 h2
  by_cases e : x.q = n
  · subst e
    exact ⟨fun _ => has_del_same, fun j hj => by rw [hi] at hj; cases hj⟩
  · have e2 : (Lit.int .u16 n) ≠ Lit.int .u16 x.q := lit_ne (fun h => e h.symm)
    refine ⟨fun hh => ?_, fun j hj => ?_⟩
    · rw [has_del_other e2]
      rw [hh] at h1
      exact h1 (by simp [e])
    · rw [hj] at h2
      have := h2 (j + 1) rfl
      rw [mod_next ho, has_del_other e2]
      exact ⟨this.1, fun z => by rw [atKey_del_other e2]; exact this.2 z⟩
theorem Mp.set {D : DataW Unit} {size old : Nat} {L : List P} (h : Mp D size old L) {i : Nat} {x y : P} (hx : L[i]? = some x) (hq : y.q = x.q) : Mp D size old (L.set i y) := by
  intro n n0 n1
  rw [lastIdx_set hx hq]
  exact h n n0 n1
end Go.Proofs.Ytfdmgloimibioaa.rng
