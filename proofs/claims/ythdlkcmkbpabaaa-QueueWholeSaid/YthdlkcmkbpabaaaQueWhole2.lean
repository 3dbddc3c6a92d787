/-
  QueueWhole: each item just once.
-/
import Derived.Test.YthdlkcmkbpabaaaQueWhole1
namespace Go.Proofs.Ythdlkcmkbpabaaa.que
open Go.RowKit mem Go.Maps
set_option linter.unusedVariables false

structure Wn (D : DataW Unit) (q : Q) (k : Nat) (taken gone last : Int) : Prop where
  inc : inc q.L
  lo : ∀ x ∈ q.L, last < x.n ∧ x.n ≤ k
  fr : ∀ x ∈ q.L, fre D x.n
  fut : ∀ m : Int, (k : Int) < m → fre D m
  sum : gone + (q.L.length : Int) = taken
  b : 0 ≤ gone ∧ taken ≤ k ∧ 0 ≤ last ∧ last ≤ k
theorem Wn.skip {D : DataW Unit} {q : Q} {k : Nat} {taken gone last : Int} (h : Wn D q k taken gone last) : Wn D q (k + 1) taken gone last :=
  ⟨h.inc, fun x hx => by have := h.lo x hx; omega, h.fr, fun m hm => h.fut m (by omega), h.sum, by have := h.b; omega⟩
theorem Wn.pop {D : DataW Unit} {q : Q} {k : Nat} {taken gone last : Int} (h : Wn D q k taken gone last) {x : It} (hx : q.L[0]? = some x) :
    Wn (put1 D x.n) ⟨q.frames, q.most, q.L.drop 1, q.broken⟩ (k + 1) taken (gone + 1) x.n ∧ last < x.n ∧ x.n ≤ k ∧ fre D x.n := by
  have hm := List.mem_of_getElem? hx
  have hl := h.lo x hm
  have hlt : 0 < q.L.length := (List.getElem?_eq_some_iff.1 hx).1
  have ha := inc.at' q.L 0 x h.inc hx
  have hb := h.b
  refine ⟨⟨h.inc.drop _ 1, fun y hy => ?_, fun y hy => ?_, fun m hm => fre_put (h.fut m (by omega)) (by omega), ?_, ?_⟩, hl.1, hl.2, h.fr x hm⟩
  · have h1 := ha y hy
    have h2 := h.lo y (List.mem_of_mem_drop hy)
    omega
  · have h1 := ha y hy
    exact fre_put (h.fr y (List.mem_of_mem_drop hy)) (by omega)
  · have := h.sum
    show gone + 1 + ((q.L.drop 1).length : Int) = taken
    rw [List.length_drop]; omega
  · omega
theorem Wn.put {D : DataW Unit} {q : Q} {k : Nat} {taken gone last : Int} (h : Wn D q k taken gone last) (ok : q.ok) (sz : Int) (ky : Bool) :
    In D (putD q ⟨k + 1, sz, 0, ky⟩) (putQ q ⟨k + 1, sz, 0, ky⟩).L 0 ((k : Int) + 1) ∧ (∀ x ∈ (putQ q ⟨k + 1, sz, 0, ky⟩).L, last < x.n ∧ x.n ≤ (k : Int) + 1) ∧ gone + ((putD q ⟨k + 1, sz, 0, ky⟩).length : Int) + ((putQ q ⟨k + 1, sz, 0, ky⟩).L.length : Int) = taken + (if putOk q ⟨k + 1, sz, 0, ky⟩ = true then 1 else 0) := by
  have hb := h.b
  have hs := h.sum
  have hkl : putK q ⟨k + 1, sz, 0, ky⟩ ≤ q.L.length ∨ bad q ⟨k + 1, sz, 0, ky⟩ = true := by
    cases hbd : bad q ⟨k + 1, sz, 0, ky⟩ with
    | true => exact .inr rfl
    | false =>
      simp [bad] at hbd
      exact .inl (sh_le _ q.L.length q.L (full_nil ok (x := ⟨k + 1, sz, 0, ky⟩) (by show sz ≤ _; omega)))
  have base : ∀ j : Nat, j = 0 → ∀ Ld rest : List It, Ld ++ rest = q.L → In D Ld rest 0 ((k : Int) + 1) := fun j _ Ld rest e =>
    ⟨by rw [e]; exact h.inc, by rw [e]; exact h.fr, fun m hm => h.fut m (by omega), fun x hx => by have := h.lo x (by rw [← e]; exact List.mem_append_left _ hx); omega⟩
  obtain ⟨X, hX⟩ : ∃ X : It, X = ⟨k + 1, sz, 0, ky⟩ := ⟨_, rfl⟩
  have hXk : X.key = ky := by rw [hX]
  have hXn : X.n = (k : Int) + 1 := by rw [hX]
  rw [← hX] at hkl ⊢
  cases hbd : bad q X with
  | true =>
    have e1 : putQ q X = ⟨q.frames, q.most, q.L, true⟩ := by unfold putQ; rw [hbd, if_pos rfl]
    have e2 : putD q X = [] := by unfold putD; rw [hbd, if_pos rfl]
    have e3 : putOk q X = false := by unfold putOk; rw [hbd]; rfl
    rw [e1, e2, e3]
    refine ⟨base 0 rfl _ _ rfl, fun x hx => by have := h.lo x hx; omega, by simp; omega⟩
  | false =>
    have hkl := hkl.resolve_right (by rw [hbd]; simp)
    cases hrf : (putB q X && !X.key) with
    | true =>
      have e1 : putQ q X = ⟨q.frames, q.most, q.L.drop (putK q X), putB q X⟩ := by unfold putQ; rw [hbd, if_neg (by simp), hrf, if_pos rfl]
      have e2 : putD q X = q.L.take (putK q X) := by unfold putD; rw [hbd, if_neg (by simp)]
      have e3 : putOk q X = false := by unfold putOk; rw [hbd, hrf]; rfl
      rw [e1, e2, e3]
      refine ⟨base 0 rfl _ _ (List.take_append_drop _ _), fun x hx => by have := h.lo x (List.mem_of_mem_drop hx); omega, ?_⟩
      simp [List.length_take, List.length_drop]; omega
    | false =>
      have e1 : putQ q X = ⟨q.frames, q.most, q.L.drop (putK q X) ++ [X], false⟩ := by unfold putQ; rw [hbd, if_neg (by simp), hrf, if_neg (by simp)]
      have e2 : putD q X = q.L.take (putK q X) := by unfold putD; rw [hbd, if_neg (by simp)]
      have e3 : putOk q X = true := by unfold putOk; rw [hbd, hrf]; rfl
      rw [e1, e2, e3]
      have e : q.L.take (putK q X) ++ (q.L.drop (putK q X) ++ [X]) = q.L ++ [X] := by rw [← List.append_assoc, List.take_append_drop]
      refine ⟨⟨?_, ?_, fun m hm => h.fut m (by omega), ?_⟩, ?_, ?_⟩
      · show que.inc (q.L.take (putK q X) ++ (q.L.drop (putK q X) ++ [X]))
        rw [e]
        exact h.inc.snoc _ _ (fun y hy => by have := h.lo y hy; omega)
      · show ∀ x ∈ (q.L.take (putK q X) ++ (q.L.drop (putK q X) ++ [X])), fre D x.n
        rw [e]
        intro x hx
        rcases List.mem_append.1 hx with hx | hx
        · exact h.fr x hx
        · simp at hx; subst hx; exact h.fut _ (by omega)
      · intro x hx
        have := h.lo x (List.mem_of_mem_take hx); omega
      · intro x hx
        rcases List.mem_append.1 hx with hx | hx
        · have := h.lo x (List.mem_of_mem_drop hx); omega
        · simp at hx; subst hx; exact ⟨by omega, by omega⟩
      · simp [List.length_take, List.length_drop]; omega
theorem Wn.after {D : DataW Unit} {q : Q} {k : Nat} {taken gone last : Int} {Ld : List It} (h : In D Ld q.L Ld.length ((k : Int) + 1)) (hl : ∀ x ∈ q.L, last < x.n ∧ x.n ≤ (k : Int) + 1) (hs : gone + (q.L.length : Int) = taken) (hb : 0 ≤ gone ∧ taken ≤ k + 1 ∧ 0 ≤ last ∧ last ≤ k + 1) : Wn D q (k + 1) taken gone last :=
  ⟨by have := inc.drop _ Ld.length h.inc; rw [List.drop_left] at this; exact this, fun x hx => by have := hl x hx; omega, by have := h.fr; rw [List.drop_left] at this; exact this, fun m hm => h.fut m (by omega), hs, by omega⟩
end Go.Proofs.Ythdlkcmkbpabaaa.que
