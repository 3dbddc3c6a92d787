/-
  A region of which eight operations are left, in whatever order: four values made, four calls in a row. No program.
-/
import Derived.Deep.RegionHeld3
namespace Go.Proofs.Ytkpmdaknojlkjaa.ord
set_option linter.unusedVariables false

theorem take_of {l r : List Oper} {i : Nat} {o : Oper} (h : l.drop i = o :: r) : (l.toArray)[i]? = some o := by
  have : l[i]? = some o := by
    have := List.getElem?_drop (xs := l) (i := i) (j := 0)
    rw [h] at this
    simpa using this.symm
  simpa using this

/-- what is listed when the eight stand so -/
def LL (s1 c1 s2 c2 s3 c3 s4 c4 : Bool) : Array Bool := #[true, true, true, true, true, true, true, true, true, s1, c1, true, true, true, true, true, s2, c2, true, true, true, true, true, s3, c3, true, true, true, true, true, s4, c4]
def cnt (s1 c1 s2 c2 s3 c3 s4 c4 : Bool) : Nat := (!s1).toNat + (!c1).toNat + (!s2).toNat + (!c2).toNat + (!s3).toNat + (!c3).toNat + (!s4).toNat + (!c4).toNat
def okOp (s1 c1 s2 c2 s3 c3 s4 c4 : Bool) (j : Nat) : Bool :=
  (j == 9 && !s1) || (j == 10 && s1 && !c1) || (j == 16 && !s2) || (j == 17 && c1 && s2 && !c2) || (j == 23 && !s3) || (j == 24 && c2 && s3 && !c3) || (j == 30 && !s4) || (j == 31 && c3 && s4 && !c4)
def chk (s1 c1 s2 c2 s3 c3 s4 c4 : Bool) (l : List Nat) : Bool := l.all (okOp s1 c1 s2 c2 s3 c3 s4 c4) && (!l.isEmpty || (s1 && c1 && s2 && c2 && s3 && c3 && s4 && c4))

section
variable {P : Program} {ops : Array Oper} {Q : Exit → Act → World → Prop} {md : Region.Mode} {S : World → Prop}

theorem wp_opaque {o : Oper} {a : Act} {w : World} {K : Act → World → Prop} (h : ∀ K' : Act → World → Prop, (∀ a w, K a w → K' a w) → o.wp P a w K' Q) : o.wp P a w K Q := h K (fun _ _ h => h)

theorem via8 (F : Value → Value → Value → Value → Value → Value → Value → Value → Act)
    (I : Bool → Bool → Bool → Bool → Bool → Bool → Bool → Bool → Value → Value → Value → Value → Value → Value → Value → Value → World → Prop)
    (hchk : ∀ s1 c1 s2 c2 s3 c3 s4 c4, chk s1 c1 s2 c2 s3 c3 s4 c4 (Region.ready md ops (LL s1 c1 s2 c2 s3 c3 s4 c4)) = true)
    (hdone : ∀ a b c d e f g h w, I true true true true true true true true a b c d e f g h w → S w → Q .normal (F a b c d e f g h) w)
    (h9 : ∀ c1 s2 c2 s3 c3 s4 c4 a b c d e f g h w, I false c1 s2 c2 s3 c3 s4 c4 a b c d e f g h w → S w → wpOp P ops Q 9 (fun a' w' => ∃ v, a' = F v b c d e f g h ∧ S w' ∧ I true c1 s2 c2 s3 c3 s4 c4 v b c d e f g h w') (F a b c d e f g h) w)
    (h10 : ∀ s2 c2 s3 c3 s4 c4 a b c d e f g h w, I true false s2 c2 s3 c3 s4 c4 a b c d e f g h w → S w → wpOp P ops Q 10 (fun a' w' => ∃ v, a' = F a v c d e f g h ∧ S w' ∧ I true true s2 c2 s3 c3 s4 c4 a v c d e f g h w') (F a b c d e f g h) w)
    (h16 : ∀ s1 c1 c2 s3 c3 s4 c4 a b c d e f g h w, I s1 c1 false c2 s3 c3 s4 c4 a b c d e f g h w → S w → wpOp P ops Q 16 (fun a' w' => ∃ v, a' = F a b v d e f g h ∧ S w' ∧ I s1 c1 true c2 s3 c3 s4 c4 a b v d e f g h w') (F a b c d e f g h) w)
    (h17 : ∀ s1 s3 c3 s4 c4 a b c d e f g h w, I s1 true true false s3 c3 s4 c4 a b c d e f g h w → S w → wpOp P ops Q 17 (fun a' w' => ∃ v, a' = F a b c v e f g h ∧ S w' ∧ I s1 true true true s3 c3 s4 c4 a b c v e f g h w') (F a b c d e f g h) w)
    (h23 : ∀ s1 c1 s2 c2 c3 s4 c4 a b c d e f g h w, I s1 c1 s2 c2 false c3 s4 c4 a b c d e f g h w → S w → wpOp P ops Q 23 (fun a' w' => ∃ v, a' = F a b c d v f g h ∧ S w' ∧ I s1 c1 s2 c2 true c3 s4 c4 a b c d v f g h w') (F a b c d e f g h) w)
    (h24 : ∀ s1 c1 s2 s4 c4 a b c d e f g h w, I s1 c1 s2 true true false s4 c4 a b c d e f g h w → S w → wpOp P ops Q 24 (fun a' w' => ∃ v, a' = F a b c d e v g h ∧ S w' ∧ I s1 c1 s2 true true true s4 c4 a b c d e v g h w') (F a b c d e f g h) w)
    (h30 : ∀ s1 c1 s2 c2 s3 c3 c4 a b c d e f g h w, I s1 c1 s2 c2 s3 c3 false c4 a b c d e f g h w → S w → wpOp P ops Q 30 (fun a' w' => ∃ v, a' = F a b c d e f v h ∧ S w' ∧ I s1 c1 s2 c2 s3 c3 true c4 a b c d e f v h w') (F a b c d e f g h) w)
    (h31 : ∀ s1 c1 s2 c2 s3 a b c d e f g h w, I s1 c1 s2 c2 s3 true true false a b c d e f g h w → S w → wpOp P ops Q 31 (fun a' w' => ∃ v, a' = F a b c d e f g v ∧ S w' ∧ I s1 c1 s2 c2 s3 true true true a b c d e f g v w') (F a b c d e f g h) w) :
    ∀ n s1 c1 s2 c2 s3 c3 s4 c4, cnt s1 c1 s2 c2 s3 c3 s4 c4 = n → ∀ a b c d e f g h w, I s1 c1 s2 c2 s3 c3 s4 c4 a b c d e f g h w → S w → wpAnyH P md ops Q S n (LL s1 c1 s2 c2 s3 c3 s4 c4) (F a b c d e f g h) w := by
  intro n
  induction n with
  | zero =>
    intro s1 c1 s2 c2 s3 c3 s4 c4 hc a b c d e f g h w hI hS
    have hall : s1 = true ∧ c1 = true ∧ s2 = true ∧ c2 = true ∧ s3 = true ∧ c3 = true ∧ s4 = true ∧ c4 = true := by
      unfold cnt at hc
      cases s1 <;> cases c1 <;> cases s2 <;> cases c2 <;> cases s3 <;> cases c3 <;> cases s4 <;> cases c4 <;> first | exact ⟨rfl, rfl, rfl, rfl, rfl, rfl, rfl, rfl⟩ | (simp at hc)
    obtain ⟨rfl, rfl, rfl, rfl, rfl, rfl, rfl, rfl⟩ := hall
    have hk := hchk true true true true true true true true
    refine ⟨?_, hdone _ _ _ _ _ _ _ _ _ hI hS⟩
    cases hr : Region.ready md ops (LL true true true true true true true true) with
    | nil => rfl
    | cons x xs => rw [hr] at hk; simp [chk, okOp] at hk
  | succ n ih =>
    intro s1 c1 s2 c2 s3 c3 s4 c4 hc a b c d e f g h w hI hS
    have hk := hchk s1 c1 s2 c2 s3 c3 s4 c4
    unfold chk at hk
    rw [Bool.and_eq_true] at hk
    obtain ⟨hk1, hk2⟩ := hk
    refine ⟨fun hr => ?_, fun j hj => ?_⟩
    · rw [hr] at hk2
      simp only [List.isEmpty_nil, Bool.not_true, Bool.false_or, Bool.and_eq_true] at hk2
      obtain ⟨⟨⟨⟨⟨⟨⟨rfl, rfl⟩, rfl⟩, rfl⟩, rfl⟩, rfl⟩, rfl⟩, rfl⟩ := hk2
      exact hdone _ _ _ _ _ _ _ _ _ hI hS
    · have hok := List.all_eq_true.1 hk1 j hj
      unfold okOp at hok
      simp only [Bool.or_eq_true, Bool.and_eq_true, beq_iff_eq, Bool.not_eq_true'] at hok
      rcases hok with ((((((⟨rfl, rfl⟩ | ⟨⟨rfl, rfl⟩, rfl⟩) | ⟨rfl, rfl⟩) | ⟨⟨⟨rfl, rfl⟩, rfl⟩, rfl⟩) | ⟨rfl, rfl⟩) | ⟨⟨⟨rfl, rfl⟩, rfl⟩, rfl⟩) | ⟨rfl, rfl⟩) | ⟨⟨⟨rfl, rfl⟩, rfl⟩, rfl⟩
      · refine wpOp_mono (fun a' w' ⟨v, e1, e2, e3⟩ => ?_) (h9 _ _ _ _ _ _ _ _ _ _ _ _ _ _ _ _ hI hS)
        subst e1
        exact ⟨e2, ih true c1 s2 c2 s3 c3 s4 c4 (by revert hc; unfold cnt; simp <;> omega) _ _ _ _ _ _ _ _ _ e3 e2⟩
      · refine wpOp_mono (fun a' w' ⟨v, e1, e2, e3⟩ => ?_) (h10 _ _ _ _ _ _ _ _ _ _ _ _ _ _ _ hI hS)
        subst e1
        exact ⟨e2, ih true true s2 c2 s3 c3 s4 c4 (by revert hc; unfold cnt; simp <;> omega) _ _ _ _ _ _ _ _ _ e3 e2⟩
      · refine wpOp_mono (fun a' w' ⟨v, e1, e2, e3⟩ => ?_) (h16 _ _ _ _ _ _ _ _ _ _ _ _ _ _ _ _ hI hS)
        subst e1
        exact ⟨e2, ih s1 c1 true c2 s3 c3 s4 c4 (by revert hc; unfold cnt; simp <;> omega) _ _ _ _ _ _ _ _ _ e3 e2⟩
      · refine wpOp_mono (fun a' w' ⟨v, e1, e2, e3⟩ => ?_) (h17 _ _ _ _ _ _ _ _ _ _ _ _ _ _ hI hS)
        subst e1
        exact ⟨e2, ih s1 true true true s3 c3 s4 c4 (by revert hc; unfold cnt; simp <;> omega) _ _ _ _ _ _ _ _ _ e3 e2⟩
      · refine wpOp_mono (fun a' w' ⟨v, e1, e2, e3⟩ => ?_) (h23 _ _ _ _ _ _ _ _ _ _ _ _ _ _ _ _ hI hS)
        subst e1
        exact ⟨e2, ih s1 c1 s2 c2 true c3 s4 c4 (by revert hc; unfold cnt; simp <;> omega) _ _ _ _ _ _ _ _ _ e3 e2⟩
      · refine wpOp_mono (fun a' w' ⟨v, e1, e2, e3⟩ => ?_) (h24 _ _ _ _ _ _ _ _ _ _ _ _ _ _ hI hS)
        subst e1
        exact ⟨e2, ih s1 c1 s2 true true true s4 c4 (by revert hc; unfold cnt; simp <;> omega) _ _ _ _ _ _ _ _ _ e3 e2⟩
      · refine wpOp_mono (fun a' w' ⟨v, e1, e2, e3⟩ => ?_) (h30 _ _ _ _ _ _ _ _ _ _ _ _ _ _ _ _ hI hS)
        subst e1
        exact ⟨e2, ih s1 c1 s2 c2 s3 c3 true c4 (by revert hc; unfold cnt; simp <;> omega) _ _ _ _ _ _ _ _ _ e3 e2⟩
      · refine wpOp_mono (fun a' w' ⟨v, e1, e2, e3⟩ => ?_) (h31 _ _ _ _ _ _ _ _ _ _ _ _ _ _ hI hS)
        subst e1
        exact ⟨e2, ih s1 c1 s2 c2 s3 true true true (by revert hc; unfold cnt; simp <;> omega) _ _ _ _ _ _ _ _ _ e3 e2⟩
theorem wpOp_go {i : Nat} {o : Oper} {a : Act} {w : World} {K : Act → World → Prop} (ho : ops[i]? = some o) (hg : o.guard = none) (h : ∀ K' : Act → World → Prop, (∀ a w, K a w → K' a w) → o.wp P a w K' Q) : wpOp P ops Q i K a w := by
  unfold wpOp
  rw [ho]
  have hw : Region.wanted o (yielded ops a.tmps) = true := by simp [Region.wanted, hg]
  show if Region.wanted o (yielded ops a.tmps) = true then _ else _
  rw [if_pos hw]
  exact .inl (h K (fun _ _ h => h))
theorem cast8 {n m : Nat} {L L' : Array Bool} {a : Act} {w : World} (hn : n = m) (hL : L = L') (h : wpAnyH P md ops Q S m L' a w) : wpAnyH P md ops Q S n L a w := by
  subst hn; subst hL; exact h
theorem abs8 {A : Act} (F : Value → Value → Value → Value → Value → Value → Value → Value → Act) (a b c d e f g h : Value) {w : World} {n : Nat} {L : Array Bool} (hF : F a b c d e f g h = A) (hk : wpAnyH P md ops Q S n L (F a b c d e f g h) w) : wpAnyH P md ops Q S n L A w := by
  subst hF; exact hk
end
end Go.Proofs.Ytkpmdaknojlkjaa.ord
