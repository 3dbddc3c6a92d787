/-
  A ring after a run of packets.
-/
import Derived.Test.YtfdmgloimibioaaRngAwake
namespace Go.Proofs.Ytfdmgloimibioaa.rng
open Go.RowKit mem Go.Maps
set_option linter.unusedVariables false

/-- the last of the first k packets -/
def Lf (f : Nat → P) (size k : Nat) : List P := (List.range' (k - size) (min k size)).map f
def rf (f : Nat → P) (size : Nat) (most gap : Int) (k : Nat) : R := ⟨size, (k - size) % size, most, gap, Lf f size k, 0⟩
theorem Lf_len (f : Nat → P) (size k : Nat) : (Lf f size k).length = min k size := by simp [Lf]
theorem rf_zero (f : Nat → P) (size : Nat) (most gap : Int) : rf f size most gap 0 = fresh size most gap := by simp [rf, fresh, Lf]
theorem putR_rf (f : Nat → P) (size : Nat) (most gap : Int) (k : Nat) (hs : 0 < size) (q : Int) (s : ByteArray) (hf : f k = ⟨q, s, 0, 0⟩) : putR (rf f size most gap k) q s = rf f size most gap (k + 1) := by
  have hL : (rf f size most gap k).L = Lf f size k := rfl
  have hz : (rf f size most gap k).size = size := rfl
  unfold putR
  rw [hL, hz, Lf_len, ← hf]
  by_cases h : k < size
  · rw [if_pos (by omega)]
    have e1 : Lf f size k ++ [f k] = Lf f size (k + 1) := by
      unfold Lf
      rw [show k - size = 0 by omega, show min k size = k by omega, show k + 1 - size = 0 by omega, show min (k + 1) size = k + 1 by omega, List.range'_concat]
      simp
    show (⟨size, (k - size) % size, most, gap, Lf f size k ++ [f k], 0⟩ : R) = _
    rw [e1]
    unfold rf
    rw [show k - size = 0 by omega, show k + 1 - size = 0 by omega]
  · rw [if_neg (by omega)]
    have e1 : (Lf f size k).tail ++ [f k] = Lf f size (k + 1) := by
      unfold Lf
      obtain ⟨m, rfl⟩ : ∃ m, size = m + 1 := ⟨size - 1, by omega⟩
      rw [show min k (m + 1) = m + 1 by omega, show min (k + 1) (m + 1) = m + 1 by omega, List.range'_succ, List.map_cons, List.tail_cons, List.range'_concat, List.map_append, show k - (m + 1) + 1 = k + 1 - (m + 1) by omega]
      simp
      congr 1
      omega
    show (⟨size, ((k - size) % size + 1) % size, most, gap, (Lf f size k).tail ++ [f k], 0⟩ : R) = _
    rw [e1]
    unfold rf
    rw [Nat.mod_add_mod, show k - size + 1 = k + 1 - size by omega]

/-! ### what stays while packets are asked for -/
def qt (x : P) : Int × ByteArray := (x.q, x.t)
theorem lastIdx_congr : ∀ (l m : List P), l.map qt = m.map qt → ∀ n, lastIdx l n = lastIdx m n
  | [], [], _, _ => rfl
  | [], _ :: _, h, _ => by simp at h
  | _ :: _, [], h, _ => by simp at h
  | x :: l, y :: m, h, n => by
    simp only [List.map_cons, List.cons.injEq] at h
    have h1 : x.q = y.q := congrArg Prod.fst h.1
    rw [lastIdx_cons, lastIdx_cons, lastIdx_congr l m h.2 n, h1]
theorem againR_qt (r : R) (n now : Int) : (againR r n now).L.map qt = r.L.map qt := by
  unfold againR
  cases hf : lastIdx r.L n with
  | none => rfl
  | some i =>
    obtain ⟨x, hx, _⟩ := lastIdx_some hf
    simp only [hx]
    split
    · rfl
    · split
      · rfl
      · show (r.L.set i _).map qt = _
        rw [List.map_set]
        apply List.ext_getElem?
        intro j
        by_cases e : i = j
        · subst e
          have hl : i < r.L.length := (List.getElem?_eq_some_iff.1 hx).1
          rw [List.getElem?_set_self (by simpa using hl), List.getElem?_map, hx]
          rfl
        · rw [List.getElem?_set_ne e]
theorem againR_sent (r : R) (n now : Int) : (againR r n now).sent = r.sent ∨ (againR r n now).sent = r.sent + 1 := by
  unfold againR
  split
  · exact .inl rfl
  · split
    · exact .inl rfl
    · split
      · exact .inl rfl
      · split
        · exact .inl rfl
        · exact .inr rfl
theorem againR_len (r : R) (n now : Int) : (againR r n now).L.length = r.L.length := by
  have := congrArg List.length (againR_qt r n now)
  simpa using this
/-- what Again answers of a number, by the list alone -/
theorem again_cases (r : R) (n now : Int) :
    (lastIdx r.L n = none ∧ againE r n now = 12 ∧ againS r n now = ⟨#[]⟩) ∨
    (∃ i x, lastIdx r.L n = some i ∧ r.L[i]? = some x ∧ ((againE r n now = 11 ∨ againE r n now = 14) ∧ againS r n now = ⟨#[]⟩ ∨ againE r n now = 0 ∧ againS r n now = x.t)) := by
  cases hf : lastIdx r.L n with
  | none =>
    have hF : findR r n = none := by unfold findR; rw [hf]
    exact .inl ⟨rfl, by unfold againE; rw [hF], by unfold againS; rw [hF]⟩
  | some i =>
    obtain ⟨x, hx, _⟩ := lastIdx_some hf
    have hF : findR r n = some x := by unfold findR; rw [hf]; exact hx
    refine .inr ⟨i, x, rfl, hx, ?_⟩
    unfold againE againS
    rw [hF]
    by_cases h1 : r.most ≤ x.g
    · simp [h1]
    · by_cases h2 : tooSoon r x now = true
      · simp [h1, h2]
      · simp [h1, h2]

/-! ### a map of the last texts -/
def Ms (D : DataW Unit) (l : List P) : Prop :=
  ∀ n : Int, 0 ≤ n → n ≤ 65535 →
    (lastIdx l n = none → Maps.has D (.int .u16 n) = false) ∧
    (∀ i x, lastIdx l n = some i → l[i]? = some x → Maps.has D (.int .u16 n) = true ∧ ∀ z, D.atKey (.int .u16 n) z = .lit (.string x.t.data.toList))
theorem Ms.empty : Ms (.map []) [] := fun n _ _ => ⟨fun _ => rfl, fun i x h => by simp [lastIdx] at h⟩
theorem Ms.push {D : DataW Unit} {l : List P} (h : Ms D l) (hD : IsMap D) (x : P) : Ms (D.put (.int .u16 x.q) (.lit (.string x.t.data.toList))) (l ++ [x]) := by
  intro n n0 n1
  rw [lastIdx_snoc]
  by_cases e : x.q = n
  · subst e
    refine ⟨fun hh => by simp at hh, ?_⟩
    intro i y hi hy
    simp at hi
    subst hi
    rw [List.getElem?_append_right (Nat.le_refl _)] at hy
    simp at hy
    subst hy
    exact ⟨has_put_same hD isKey16 _, fun z => atKey_put_same hD isKey16 _ z⟩
  · have e2 : (Lit.int .u16 n) ≠ Lit.int .u16 x.q := lit_ne (fun h => e h.symm)
    rw [if_neg e]
    obtain ⟨h1, h2⟩ := h n n0 n1
    refine ⟨fun hh => by rw [has_put_other e2]; exact h1 hh, fun i y hi hy => ?_⟩
    have hil := lastIdx_lt hi
    rw [List.getElem?_append_left hil] at hy
    obtain ⟨h3, h4⟩ := h2 i y hi hy
    exact ⟨by rw [has_put_other e2]; exact h3, fun z => by rw [atKey_put_other e2]; exact h4 z⟩
/-- what is put down behind k steps, from step a on -/
def Lm (f : Nat → P) (a k : Nat) : List P := (List.range' a (k - a)).map f
theorem Lm_zero (f : Nat → P) (a : Nat) : Lm f a 0 = [] := by simp [Lm]
theorem Lm_step (f : Nat → P) (a k : Nat) : Lm f a (k + 1) = if a ≤ k then Lm f a k ++ [f k] else Lm f a k := by
  unfold Lm
  split
  · rename_i h
    rw [show k + 1 - a = (k - a) + 1 by omega, List.range'_concat, List.map_append]
    simp
    congr 1; omega
  · rename_i h
    rw [show k + 1 - a = 0 by omega, show k - a = 0 by omega]
theorem Lm_end (f : Nat → P) (size n : Nat) : Lm f (n - size) n = Lf f size n := by
  unfold Lm Lf
  congr 2
  omega
end Go.Proofs.Ytfdmgloimibioaa.rng
