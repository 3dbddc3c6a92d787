/-
  What a meter's list and the list of all that went have to do with one another.
-/
import Derived.Test.YtjiodpbgjhoakabRatRef
namespace Go.Proofs.Ytjiodpbgjhoakab.rat
open Go.RowKit mem
set_option linter.unusedVariables false

def gain : List (Int × Int) → Int → Int → Int
  | [], _, _ => 0
  | x :: xs, T, t => if x.1 < t then gain xs T t else T - x.2
theorem gain_rate (L : List (Int × Int)) (T t wi : Int) : (if cutOf L t = L.length then 0 else (T - (L.getD (cutOf L t) (0, 0)).2) * 1000 / wi) = gain L T t * 1000 / wi := by
  induction L with
  | nil => simp [cutOf, gain]
  | cons x xs ih =>
    unfold cutOf gain
    by_cases h : x.1 < t
    · rw [if_pos h, if_pos h, ← ih]
      simp
    · rw [if_neg h, if_neg h]
      simp
theorem gain_drop (L : List (Int × Int)) (T t t' : Int) (h : t' ≤ t) : gain (L.drop (cutOf L t')) T t = gain L T t := by
  induction L with
  | nil => simp [cutOf]
  | cons x xs ih =>
    unfold cutOf
    by_cases hx : x.1 < t'
    · rw [if_pos hx, List.drop_succ_cons, ih]
      conv => rhs; unfold gain
      rw [if_pos (by omega)]
    · rw [if_neg hx, List.drop_zero]
theorem gain_none (L : List (Int × Int)) (T t : Int) (h : ∀ x ∈ L, x.1 < t) : gain L T t = 0 := by
  induction L with
  | nil => rfl
  | cons x xs ih =>
    unfold gain
    rw [if_pos (h x (by simp)), ih (fun y hy => h y (by simp [hy]))]
theorem gain_snoc (xs : List (Int × Int)) (n T B t : Int) (h : ∀ x ∈ xs, x.1 ≤ n) : gain (xs ++ [(n, T)]) (T + B) t = gain xs T t + (if t ≤ n then B else 0) := by
  induction xs with
  | nil =>
    simp only [List.nil_append, gain]
    split <;> split <;> omega
  | cons x xs ih =>
    have hx := h x (by simp)
    have := ih (fun y hy => h y (by simp [hy]))
    simp only [List.cons_append, gain]
    split
    · exact this
    · rw [if_pos (by omega)]; omega
theorem gain_same (xs : List (Int × Int)) (n b T B t : Int) (h : ∀ x ∈ xs, x.1 ≤ n) : gain (xs ++ [(n, b)]) (T + B) t = gain (xs ++ [(n, b)]) T t + (if t ≤ n then B else 0) := by
  induction xs with
  | nil =>
    simp only [List.nil_append, gain]
    split <;> split <;> omega
  | cons x xs ih =>
    have hx := h x (by simp)
    have := ih (fun y hy => h y (by simp [hy]))
    simp only [List.cons_append, gain]
    split
    · exact this
    · rw [if_pos (by omega)]; omega
theorem last_split {L : List (Int × Int)} {n : Int} (h0 : 0 ≤ n) (h : (L.getLastD (-1, 0)).1 = n) : ∃ ys b, L = ys ++ [(n, b)] := by
  rcases List.eq_nil_or_concat L with rfl | ⟨ys, x, rfl⟩
  · simp at h; omega
  · rw [List.concat_eq_append] at h ⊢
    simp at h
    exact ⟨ys, x.2, by rw [← h]⟩
theorem gain_addL (L : List (Int × Int)) (n T B t : Int) (h0 : 0 ≤ n) (h : ∀ x ∈ L, x.1 ≤ n) : gain (addL L n T) (T + B) t = gain L T t + (if t ≤ n then B else 0) := by
  unfold addL
  split
  · rename_i hl
    obtain ⟨ys, b, rfl⟩ := last_split h0 hl
    exact gain_same ys n b T B t (fun x hx => h x (by simp [hx]))
  · exact gain_snoc L n T B t h
theorem mem_addL {L : List (Int × Int)} {n T : Int} {x : Int × Int} (h : x ∈ addL L n T) : x ∈ L ∨ x = (n, T) := by
  unfold addL at h
  split at h
  · exact .inl h
  · rw [List.mem_append, List.mem_singleton] at h
    exact h
theorem len_addL (L : List (Int × Int)) (n T : Int) : (addL L n T).length ≤ L.length + 1 := by
  unfold addL
  split
  · omega
  · simp
theorem asc_addL {L : List (Int × Int)} (n T : Int) (ha : Asc L) (h : ∀ x ∈ L, x.1 ≤ n) : Asc (addL L n T) := by
  unfold addL
  split
  · exact ha
  · rename_i hl
    intro i j hi hj
    rw [List.length_append, List.length_singleton] at hj
    by_cases hj' : j < L.length
    · rw [List.getElem_append_left hj', List.getElem_append_left (by omega)]
      exact ha i j hi hj'
    · have hj2 : j = L.length := by omega
      subst hj2
      rw [List.getElem_append_right (Nat.le_refl _), List.getElem_append_left (by omega)]
      simp only [Nat.sub_self, List.getElem_singleton]
      obtain ⟨m, hm⟩ : ∃ m, L.length = m + 1 := ⟨L.length - 1, by omega⟩
      rw [getLastD_at hm] at hl
      have h1 := h _ (List.getElem_mem (show m < L.length by omega))
      by_cases him : i = m
      · subst him; omega
      · have := ha i m (by omega) (by omega)
        omega

structure Inv (s : M) (l : List (Int × Int)) (wi now most : Int) (k : Nat) : Prop where
  win : s.win = wi
  cap : s.cap = most
  asc : Asc s.L
  le : ∀ x ∈ s.L, x.1 ≤ now
  len : s.L.length ≤ k
  bd : ∀ x ∈ s.L, 0 ≤ x.2 ∧ x.2 ≤ s.total
  t0 : 0 ≤ s.total
  t1 : s.total ≤ k * 1073741824
  c0 : 0 ≤ most
  c1 : most ≤ 1099511627776
  ll : l.length ≤ k
  lx : ∀ x ∈ l, 0 ≤ x.1 ∧ x.1 ≤ now ∧ 0 ≤ x.2 ∧ x.2 ≤ 1073741824
  eq : ∀ t, now - wi + 1 ≤ t → gain s.L s.total t = sm l t
theorem Inv.ok {s : M} {l : List (Int × Int)} {wi now most : Int} {k : Nat} (h : Inv s l wi now most k) (w0 : 1 ≤ wi) (w1 : wi ≤ 64) (hk : k ≤ 200) : s.ok := by
  have t1 := h.t1
  have c0 := h.c0
  have c1 := h.c1
  refine ⟨by rw [h.win]; exact w0, by rw [h.win]; omega, h.t0, by omega, by rw [h.cap]; exact c0, by rw [h.cap]; exact c1, h.asc, by have := h.len; omega, h.bd⟩
theorem Inv.okl {s : M} {l : List (Int × Int)} {wi now most : Int} {k : Nat} (h : Inv s l wi now most k) (hk : k ≤ 200) : okL l now := ⟨by have := h.ll; omega, h.lx⟩
theorem Inv.on {s : M} {l : List (Int × Int)} {wi now most : Int} {k : Nat} (h : Inv s l wi now most k) {now' : Int} {k' : Nat} (hn : now ≤ now') (hk : k ≤ k') : Inv s l wi now' most k' := by
  have t1 := h.t1
  exact ⟨h.win, h.cap, h.asc, fun x hx => by have := h.le x hx; omega, by have := h.len; omega, h.bd, h.t0, by omega, h.c0, h.c1, by have := h.ll; omega, fun x hx => by have := h.lx x hx; omega, fun t ht => h.eq t (by omega)⟩
theorem Inv.capped {s : M} {l : List (Int × Int)} {wi now most : Int} {k : Nat} (h : Inv s l wi now most k) (c : Int) (h0 : 0 ≤ c) (h1 : c ≤ 1099511627776) : Inv { s with cap := c } l wi now c k :=
  ⟨h.win, rfl, h.asc, h.le, h.len, h.bd, h.t0, h.t1, h0, h1, h.ll, h.lx, h.eq⟩
theorem Inv.add {s : M} {l : List (Int × Int)} {wi now most : Int} {k : Nat} (h : Inv s l wi now most k) (n0 : 0 ≤ now) (bytes : Int) : Inv (addQ s now bytes) (l ++ [(now, clampB bytes)]) wi now most (k + 1) := by
  have hb : 0 ≤ clampB bytes ∧ clampB bytes ≤ 1073741824 := by unfold clampB; omega
  have t0 := h.t0
  have t1 := h.t1
  have hd : ∀ x ∈ s.L.drop (cutOf s.L (now - s.win + 1)), x ∈ s.L := fun x hx => List.mem_of_mem_drop hx
  refine ⟨h.win, h.cap, asc_addL _ _ (h.asc.drop _) (fun x hx => h.le x (hd x hx)), ?_, ?_, ?_, ?_, ?_, h.c0, h.c1, ?_, ?_, ?_⟩
  · intro x hx
    rcases mem_addL hx with hx | rfl
    · exact h.le x (hd x hx)
    · exact Int.le_refl _
  · have h1 := len_addL (s.L.drop (cutOf s.L (now - s.win + 1))) now s.total
    have h2 := h.len
    rw [List.length_drop] at h1
    show (addL (s.L.drop (cutOf s.L (now - s.win + 1))) now s.total).length ≤ k + 1
    omega
  · intro x hx
    show 0 ≤ x.2 ∧ x.2 ≤ s.total + clampB bytes
    rcases mem_addL hx with hx | rfl
    · have := h.bd x (hd x hx); omega
    · exact ⟨t0, by show s.total ≤ _; omega⟩
  · show 0 ≤ s.total + clampB bytes
    omega
  · show s.total + clampB bytes ≤ ((k + 1 : Nat) : Int) * 1073741824
    omega
  · rw [List.length_append, List.length_singleton]
    have := h.ll
    omega
  · intro x hx
    rw [List.mem_append, List.mem_singleton] at hx
    rcases hx with hx | rfl
    · exact h.lx x hx
    · exact ⟨n0, Int.le_refl _, hb⟩
  · intro t ht
    have e1 := gain_addL (s.L.drop (cutOf s.L (now - s.win + 1))) now s.total (clampB bytes) t n0 (fun x hx => h.le x (hd x hx))
    rw [gain_drop _ _ _ _ (by rw [h.win]; exact ht), h.eq t ht] at e1
    refine e1.trans ?_
    rw [sm_app]
    simp [sm]
theorem Inv.rate {s : M} {l : List (Int × Int)} {wi now most : Int} {k : Nat} (h : Inv s l wi now most k) : rateQ s now = refR l wi now := by
  have e := gain_rate s.L s.total (now - s.win + 1) s.win
  have e2 := h.eq (now - wi + 1) (Int.le_refl _)
  show (if cutOf s.L (now - s.win + 1) = s.L.length then 0 else (s.total - (s.L.getD (cutOf s.L (now - s.win + 1)) (0, 0)).2) * 1000 / s.win) = sm l (now - wi + 1) * 1000 / wi
  rw [e, h.win, e2]
theorem Inv.guess {s : M} {l : List (Int × Int)} {wi now most : Int} {k : Nat} (h : Inv s l wi now most k) (waits : Bool) : guessF s waits (rateQ s now) = refG l wi now most waits := by
  rw [h.rate]
  unfold guessF refG
  rw [h.cap]
theorem Inv.end {s : M} {l : List (Int × Int)} {wi now most : Int} {k : Nat} (h : Inv s l wi now most k) : rateQ s (now + wi) = 0 ∧ guessF s true (rateQ s (now + wi)) = 0 := by
  have e := gain_rate s.L s.total (now + wi - s.win + 1) s.win
  have e2 := gain_none s.L s.total (now + wi - s.win + 1) (fun x hx => by have := h.le x hx; rw [h.win]; omega)
  have e3 : rateQ s (now + wi) = 0 := by
    show (if cutOf s.L (now + wi - s.win + 1) = s.L.length then 0 else (s.total - (s.L.getD (cutOf s.L (now + wi - s.win + 1)) (0, 0)).2) * 1000 / s.win) = 0
    rw [e, e2]
    simp
  refine ⟨e3, ?_⟩
  rw [e3]
  have c0 := h.c0
  simp only [guessF, if_true, h.cap]
  split <;> omega
theorem Inv.start (wi : Int) : Inv (fresh wi) [] wi 0 0 0 := by
  refine ⟨rfl, rfl, fun i j _ hj => ?_, fun x hx => ?_, Nat.le_refl _, fun x hx => ?_, Int.le_refl _, by show (0 : Int) ≤ _; omega, by omega, by omega, Nat.le_refl _, fun x hx => ?_, fun t _ => rfl⟩
  · simp at hj
  all_goals simp at hx
end Go.Proofs.Ytjiodpbgjhoakab.rat
