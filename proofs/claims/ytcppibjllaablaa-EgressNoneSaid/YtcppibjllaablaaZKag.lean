/-
  The reference of layer 20: Add; what it does to the list of flows (as in layer 19's).
-/
import Derived.Test.YtcppibjllaablaaZEgrR20r
set_option linter.unusedVariables false
set_option linter.unusedSimpArgs false
namespace Go.Proofs.Ytcppibjllaablaa.egr
open Go.RowKit mem
set_option linter.unusedVariables false

def insR (x : Rf) : List Rf → List Rf
  | [] => [x]
  | f :: l => if x.id < f.id then x :: f :: l else f :: insR x l
def donR (x : Rf) (l : List Rf) : Bool := l.any (fun f => decide (x.id < f.id))
def outR (x : Rf) (l : List Rf) : List Rf := if donR x l then insR x l else l
theorem donR_snoc (x : Rf) (l : List Rf) (f : Rf) : donR x (l ++ [f]) = (donR x l || decide (x.id < f.id)) := by
  unfold donR
  rw [List.any_append]
  simp
theorem insR_no {x : Rf} : ∀ {l : List Rf}, donR x l = false → insR x l = l ++ [x]
  | [], _ => rfl
  | f :: l, h => by
    have h1 : decide (x.id < f.id) = false ∧ donR x l = false := by
      unfold donR at h ⊢
      rw [List.any_cons] at h
      simpa using h
    unfold insR
    rw [if_neg (of_decide_eq_false h1.1), insR_no h1.2]
    rfl
theorem insR_snoc {x : Rf} : ∀ {l : List Rf} (f : Rf), donR x l = true → insR x (l ++ [f]) = insR x l ++ [f]
  | [], f, h => by cases h
  | g :: l, f, h => by
    show insR x (g :: (l ++ [f])) = insR x (g :: l) ++ [f]
    unfold insR
    by_cases e : x.id < g.id
    · rw [if_pos e, if_pos e]; rfl
    · rw [if_neg e, if_neg e]
      have h1 : donR x l = true := by
        unfold donR at h ⊢
        rw [List.any_cons, decide_eq_false e, Bool.false_or] at h
        exact h
      rw [insR_snoc f h1]
      rfl
theorem insR_here {x : Rf} : ∀ {l : List Rf} (f : Rf), donR x l = false → x.id < f.id → insR x (l ++ [f]) = l ++ [x] ++ [f]
  | [], f, _, e => by
    show insR x [f] = _
    unfold insR
    rw [if_pos e]; rfl
  | g :: l, f, h, e => by
    have h1 : decide (x.id < g.id) = false ∧ donR x l = false := by
      unfold donR at h ⊢
      rw [List.any_cons] at h
      simpa using h
    show insR x (g :: (l ++ [f])) = _
    unfold insR
    rw [if_neg (of_decide_eq_false h1.1), insR_here f h1.2 e]
    rfl
def preR (x : Rf) (l : List Rf) (f : Rf) : List Rf := if donR x l = false ∧ x.id < f.id then l ++ [x] else outR x l
theorem outR_snoc (x : Rf) (l : List Rf) (f : Rf) : outR x (l ++ [f]) = preR x l f ++ [f] := by
  unfold outR preR outR
  rw [donR_snoc]
  cases h : donR x l
  · by_cases e : x.id < f.id
    · have := insR_here f h e
      simp [e, this]
    · simp [e]
  · have := insR_snoc f h
    simp [this]
theorem insR_len (x : Rf) : ∀ l : List Rf, (insR x l).length = l.length + 1
  | [] => rfl
  | f :: l => by
    unfold insR
    split
    · rfl
    · rw [List.length_cons, insR_len x l]; rfl
theorem outR_len (x : Rf) (l : List Rf) : (outR x l).length ≤ l.length + 1 := by
  unfold outR
  split
  · rw [insR_len]; exact Nat.le_refl _
  · omega
theorem insR_mem {x g : Rf} : ∀ {l : List Rf}, g ∈ insR x l → g = x ∨ g ∈ l
  | [], h => by
    have : g ∈ [x] := h
    simp at this; exact .inl this
  | f :: l, h => by
    unfold insR at h
    split at h
    · rcases List.mem_cons.1 h with h | h
      · exact .inl h
      · exact .inr h
    · rcases List.mem_cons.1 h with h | h
      · exact .inr (by rw [h]; exact List.mem_cons_self)
      · rcases insR_mem h with h | h
        · exact .inl h
        · exact .inr (List.mem_cons_of_mem _ h)
theorem insR_asc {x : Rf} : ∀ {l : List Rf}, RAsc l → (∀ f ∈ l, f.id ≠ x.id) → RAsc (insR x l)
  | [], _, _ => by show RAsc [x]; unfold RAsc; simp
  | f :: l, h, hne => by
    have h' : (f.id :: l.map (·.id)).Pairwise (· < ·) := h
    obtain ⟨h1, h2⟩ := List.pairwise_cons.1 h'
    have hf := hne f List.mem_cons_self
    unfold insR
    split
    next e =>
      show (x.id :: f.id :: l.map (·.id)).Pairwise (· < ·)
      refine List.pairwise_cons.2 ⟨fun y hy => ?_, h'⟩
      rcases List.mem_cons.1 hy with hy | hy
      · rw [hy]; exact e
      · have := h1 y hy; omega
    next e =>
      have ih := insR_asc (l := l) h2 (fun g hg => hne g (List.mem_cons_of_mem _ hg))
      show (f.id :: (insR x l).map (·.id)).Pairwise (· < ·)
      refine List.pairwise_cons.2 ⟨fun y hy => ?_, ih⟩
      obtain ⟨g, hg, rfl⟩ := List.mem_map.1 hy
      rcases insR_mem hg with hg | hg
      · rw [hg]; omega
      · exact h1 _ (List.mem_map.2 ⟨g, hg, rfl⟩)

theorem insR_of {x : Rf} {l : List Rf} (h : donR x l = true) : outR x l = insR x l := if_pos h
theorem outR_no {x : Rf} {l : List Rf} (h : donR x l = false) : outR x l ++ [x] = insR x l := by rw [insR_no h]; unfold outR; rw [h]; rfl
end Go.Proofs.Ytcppibjllaablaa.egr
