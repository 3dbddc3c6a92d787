/-
  reorder, as pure functions: things, a buffer, what follows on, what is passed over, Put, Tick, Flush. No program.
-/
import Derived.Test.YtfgfejcnkjeghaaRowsG5
namespace Go.Proofs.Ytfgfejcnkjeghaa.reo
open Go.RowKit mem
set_option linter.unusedVariables false

structure Th where
  at_ : Int
  tx : ByteArray
  tick : Int
def TE : Enc Th := ⟨3, fun x => [.int .i64 x.at_, .string x.tx, .int .i64 x.tick], fun _ => rfl, fun x u hu => by
  simp at hu
  rcases hu with rfl | rfl | rfl <;> rfl⟩

/-- rising numbers -/
def Asc (l : List Th) : Prop := l.Pairwise (fun a b => a.at_ < b.at_)
theorem Asc.drop {l : List Th} (h : Asc l) (n : Nat) : Asc (l.drop n) := List.Pairwise.sublist (List.drop_sublist n l) h
theorem Asc.lt {l : List Th} (h : Asc l) (i j : Nat) (hi : i < j) (hj : j < l.length) : l[i].at_ < l[j].at_ := List.pairwise_iff_getElem.1 h i j (by omega) hj hi

/-- n of them are ahead of t -/
def Cut (l : List Th) (t : Int) (n : Nat) : Prop := n ≤ l.length ∧ (∀ k, (h : k < l.length) → k < n → l[k].at_ < t) ∧ (∀ k, (h : k < l.length) → n ≤ k → t ≤ l[k].at_)
def hasT (l : List Th) (t : Int) : Bool := l.any (fun x => x.at_ == t)
/-- one more, in its place -/
def insT : List Th → Th → List Th
  | [], x => [x]
  | y :: l, x => if x.at_ < y.at_ then x :: y :: l else y :: insT l x

theorem Cut.tail {y : Th} {l : List Th} {t : Int} {n : Nat} (h : Cut (y :: l) t (n + 1)) : Cut l t n :=
  ⟨by have := h.1; simp at this; exact this, fun k hk hn => by have := h.2.1 (k + 1) (by simp; omega) (by omega); simpa using this, fun k hk hn => by have := h.2.2 (k + 1) (by simp; omega) (by omega); simpa using this⟩
theorem insT_cut (x : Th) : ∀ (l : List Th) (n : Nat), Cut l x.at_ n → hasT l x.at_ = false → insT l x = l.take n ++ x :: l.drop n
  | [], n, h, _ => by
    have : n = 0 := by simpa using h.1
    subst this; rfl
  | y :: l, 0, h, hn => by
    have h1 := h.2.2 0 (by simp) (Nat.le_refl _)
    have h2 : y.at_ ≠ x.at_ := by
      intro e
      simp [hasT, e] at hn
    rw [insT, if_pos (by simp at h1; omega)]
    rfl
  | y :: l, n + 1, h, hn => by
    have h1 := h.2.1 0 (by simp) (by omega)
    rw [insT, if_neg (by simp at h1; omega), insT_cut x l n h.tail (by
      simp only [hasT, List.any_cons, Bool.or_eq_false_iff] at hn
      exact hn.2)]
    rfl
theorem insT_length (x : Th) : ∀ (l : List Th), (insT l x).length = l.length + 1
  | [] => rfl
  | y :: l => by
    rw [insT]
    split
    · rfl
    · rw [List.length_cons, insT_length x l, List.length_cons]
theorem insT_mem (x : Th) : ∀ (l : List Th) (u : Th), u ∈ insT l x ↔ u = x ∨ u ∈ l
  | [], u => by simp [insT]
  | y :: l, u => by
    rw [insT]
    split
    · simp
    · rw [List.mem_cons, insT_mem x l u, List.mem_cons]
      constructor
      · rintro (h | h | h)
        · exact .inr (.inl h)
        · exact .inl h
        · exact .inr (.inr h)
      · rintro (h | h | h)
        · exact .inr (.inl h)
        · exact .inl h
        · exact .inr (.inr h)
theorem insT_asc (x : Th) : ∀ (l : List Th), Asc l → hasT l x.at_ = false → Asc (insT l x)
  | [], _, _ => List.pairwise_singleton _ _
  | y :: l, h, hn => by
    obtain ⟨h1, h2⟩ := List.pairwise_cons.1 h
    simp only [hasT, List.any_cons, Bool.or_eq_false_iff] at hn
    have hne : y.at_ ≠ x.at_ := by simpa using hn.1
    rw [insT]
    split
    next hlt =>
      refine List.pairwise_cons.2 ⟨fun u hu => ?_, h⟩
      rcases List.mem_cons.1 hu with rfl | hu
      · exact hlt
      · have := h1 u hu; omega
    next hge =>
      refine List.pairwise_cons.2 ⟨fun u hu => ?_, insT_asc x l h2 hn.2⟩
      rcases (insT_mem x l u).1 hu with rfl | hu
      · omega
      · exact h1 u hu
/-- whether the number is there, by the place where it would be -/
theorem has_cut {l : List Th} {t : Int} {n : Nat} (ha : Asc l) (h : Cut l t n) : (if hn : n < l.length then decide (l[n].at_ = t) else false) = hasT l t := by
  cases hh : hasT l t with
  | true =>
    obtain ⟨x, hx, he⟩ := List.any_eq_true.1 hh
    obtain ⟨k, hk, rfl⟩ := List.getElem_of_mem hx
    have he : l[k].at_ = t := by simpa using he
    have h1 : n ≤ k := Nat.le_of_not_lt fun hlt => by have := h.2.1 k hk hlt; omega
    have h2 : n < l.length := by omega
    rw [dif_pos h2]
    rcases Nat.lt_or_eq_of_le h1 with h3 | rfl
    · have := ha.lt n k h3 hk
      have := h.2.2 n h2 (Nat.le_refl _)
      omega
    · exact decide_eq_true he
  | false =>
    split
    next hn =>
      refine decide_eq_false fun e => ?_
      have : hasT l t = true := List.any_eq_true.2 ⟨_, List.getElem_mem hn, by simpa using e⟩
      rw [this] at hh; cases hh
    next => rfl

theorem has_some {l : List Th} {t : Int} {n : Nat} {x : Th} (ha : Asc l) (h : Cut l t n) (hx : l[n]? = some x) : decide (x.at_ = t) = hasT l t := by
  obtain ⟨hn, e⟩ := List.getElem?_eq_some_iff.1 hx
  have := has_cut ha h
  rw [dif_pos hn, e] at this
  exact this
theorem has_none {l : List Th} {t : Int} {n : Nat} (ha : Asc l) (h : Cut l t n) (hx : l[n]? = none) : false = hasT l t := by
  have := has_cut ha h
  rw [dif_neg (by have := List.getElem?_eq_none_iff.1 hx; omega)] at this
  exact this

/-- how many follow on -/
def runN : Int → List Th → Nat
  | _, [] => 0
  | next, x :: l => if x.at_ = next then 1 + runN (next + 1) l else 0
theorem runN_le : ∀ (l : List Th) (next : Int), runN next l ≤ l.length
  | [], _ => Nat.le_refl 0
  | x :: l, next => by
    have := runN_le l (next + 1)
    rw [runN, List.length_cons]
    split <;> omega
theorem runN_at : ∀ (l : List Th) (next : Int) (k : Nat), (h : k < l.length) → k < runN next l → l[k].at_ = next + k
  | x :: l, next, 0, _, h => by
    rw [runN] at h
    split at h
    next e => simpa using e
    next => omega
  | x :: l, next, k + 1, hk, h => by
    rw [runN] at h
    split at h
    next e =>
      have := runN_at l (next + 1) k (by simpa using hk) (by omega)
      simp
      omega
    next => omega
theorem runN_stop : ∀ (l : List Th) (next : Int), (h : runN next l < l.length) → l[runN next l].at_ ≠ next + runN next l
  | [], _, h => by simp at h
  | x :: l, next, h => by
    by_cases e : x.at_ = next
    · have h0 : runN next (x :: l) = runN (next + 1) l + 1 := by rw [runN, if_pos e]; omega
      have h1 : runN (next + 1) l < l.length := by rw [h0] at h; simpa using h
      have := runN_stop l (next + 1) h1
      simp only [h0, List.getElem_cons_succ]
      push_cast
      omega
    · have h0 : runN next (x :: l) = 0 := by rw [runN, if_neg e]
      simp only [h0, List.getElem_cons_zero]
      simpa using e
/-- the k-th follows on -/
theorem runN_go (l : List Th) (next : Int) (k : Nat) (hk : k ≤ runN next l) (h : k < l.length) : (l[k].at_ = next + k) ↔ k < runN next l := by
  constructor
  · intro e
    rcases Nat.lt_or_eq_of_le hk with h1 | h1
    · exact h1
    · subst h1
      exact absurd e (runN_stop l next h)
  · exact runN_at l next k h

structure B where
  most : Int
  wait : Int
  L : List Th
  next : Int
  begun : Bool
  lost : Int
structure B.ok (b : B) (M : Int) : Prop where
  m1 : 1 ≤ b.most
  m2 : b.most ≤ 1024
  w1 : 0 ≤ b.wait
  w2 : b.wait ≤ 1099511627776
  n1 : 0 ≤ b.next
  n2 : b.next ≤ M + 1
  l1 : 0 ≤ b.lost
  l2 : b.lost ≤ b.next
  asc : Asc b.L
  at1 : ∀ x ∈ b.L, b.next ≤ x.at_
  at2 : ∀ x ∈ b.L, x.at_ ≤ M
  t1 : ∀ x ∈ b.L, 0 ≤ x.tick
  t2 : ∀ x ∈ b.L, x.tick ≤ 1099511627776
  len : b.L.length ≤ 1025
theorem B.ok.mono {b : B} {M M' : Int} (h : b.ok M) (hM : M ≤ M') : b.ok M' :=
  ⟨h.m1, h.m2, h.w1, h.w2, h.n1, by have := h.n2; omega, h.l1, h.l2, h.asc, h.at1, fun x hx => by have := h.at2 x hx; omega, h.t1, h.t2, h.len⟩

def follow (b : B) : B := { b with L := b.L.drop (runN b.next b.L), next := b.next + (runN b.next b.L : Int) }
def followO (b : B) : List Th := b.L.take (runN b.next b.L)
def low (b : B) : Int := match b.L with | [] => b.next | x :: _ => x.at_
def passed (b : B) : B := { b with lost := b.lost + (low b - b.next), next := low b }
def skip (b : B) : B := follow (passed b)
def skipO (b : B) : List Th := followO (passed b)

theorem follow_ok {b : B} {M : Int} (h : b.ok M) : (follow b).ok M := by
  have hle := runN_le b.L b.next
  refine ⟨h.m1, h.m2, h.w1, h.w2, by have := h.n1; show (0 : Int) ≤ b.next + (runN b.next b.L : Int); omega, ?_, h.l1, by have := h.l2; show b.lost ≤ b.next + (runN b.next b.L : Int); omega, h.asc.drop _, ?_, fun x hx => h.at2 x (List.mem_of_mem_drop hx), fun x hx => h.t1 x (List.mem_of_mem_drop hx), fun x hx => h.t2 x (List.mem_of_mem_drop hx), by
    have := h.len; show (b.L.drop _).length ≤ 1025; rw [List.length_drop]; omega⟩
  · show b.next + (runN b.next b.L : Int) ≤ M + 1
    cases hn : runN b.next b.L with
    | zero => have := h.n2; simpa using this
    | succ m =>
      have hm : m < b.L.length := by omega
      have h1 := runN_at b.L b.next m hm (by omega)
      have h2 := h.at2 _ (List.getElem_mem hm)
      push_cast
      omega
  · intro x hx
    show b.next + (runN b.next b.L : Int) ≤ x.at_
    change x ∈ b.L.drop (runN b.next b.L) at hx
    obtain ⟨k, hk, rfl⟩ := List.getElem_of_mem hx
    rw [List.length_drop] at hk
    simp only [List.getElem_drop]
    rcases Nat.eq_zero_or_pos (runN b.next b.L) with h0 | h0
    · have := h.at1 _ (List.getElem_mem (show runN b.next b.L + k < b.L.length by omega))
      omega
    · have h1 := runN_at b.L b.next (runN b.next b.L - 1) (by omega) (by omega)
      have h2 := h.asc.lt (runN b.next b.L - 1) (runN b.next b.L + k) (by omega) (by omega)
      omega
theorem low_le {b : B} {M : Int} (h : b.ok M) : b.next ≤ low b ∧ low b ≤ M + 1 := by
  unfold low
  split
  next => exact ⟨Int.le_refl _, h.n2⟩
  next x l e => exact ⟨h.at1 x (by rw [e]; simp), by have := h.at2 x (by rw [e]; simp); omega⟩
theorem low_at {b : B} {M : Int} (h : b.ok M) : ∀ x ∈ b.L, low b ≤ x.at_ := by
  intro x hx
  unfold low
  split
  next e => rw [e] at hx; simp at hx
  next y l e =>
    rw [e] at hx
    have ha := h.asc
    rw [e] at ha
    rcases List.mem_cons.1 hx with rfl | hx
    · exact Int.le_refl _
    · have := (List.pairwise_cons.1 ha).1 x hx; omega
theorem passed_ok {b : B} {M : Int} (h : b.ok M) : (passed b).ok M :=
  ⟨h.m1, h.m2, h.w1, h.w2, by have := h.n1; have := (low_le h).1; show (0 : Int) ≤ low b; omega, (low_le h).2, by have := h.l1; have := (low_le h).1; show (0 : Int) ≤ b.lost + (low b - b.next); omega, by have := h.l2; show b.lost + (low b - b.next) ≤ low b; omega, h.asc, low_at h, h.at2, h.t1, h.t2, h.len⟩
theorem skip_ok {b : B} {M : Int} (h : b.ok M) : (skip b).ok M := follow_ok (passed_ok h)
theorem skip_len (b : B) (h : b.L ≠ []) : (skip b).L.length < b.L.length := by
  show (b.L.drop (runN (low b) b.L)).length < b.L.length
  unfold low
  cases e : b.L with
  | nil => exact absurd e h
  | cons x l =>
    simp only
    rw [runN, if_pos rfl, List.length_drop, List.length_cons]
    omega
theorem skip_same (b : B) : (skip b).most = b.most ∧ (skip b).wait = b.wait ∧ (skip b).begun = b.begun := ⟨rfl, rfl, rfl⟩

/-- skip, as long as c says so -/
def loopB (c : B → Bool) : Nat → B → B
  | 0, b => b
  | n + 1, b => if c b then loopB c n (skip b) else b
def loopO (c : B → Bool) : Nat → B → List Th
  | 0, _ => []
  | n + 1, b => if c b then skipO b ++ loopO c n (skip b) else []
theorem loopB_stop (c : B → Bool) (n : Nat) (b : B) (h : c b = false) : loopB c n b = b := by
  cases n with
  | zero => rfl
  | succ n => rw [loopB, h]; rfl
theorem loopO_stop (c : B → Bool) (n : Nat) (b : B) (h : c b = false) : loopO c n b = [] := by
  cases n with
  | zero => rfl
  | succ n => rw [loopO, h]; rfl
/-- c wants something that waits -/
def Few (c : B → Bool) : Prop := ∀ b, c b = true → b.L ≠ []
theorem loopB_step (c : B → Bool) (hc : Few c) : ∀ (n : Nat) (b : B), b.L.length ≤ n → c b = true → loopB c n b = loopB c (skip b).L.length (skip b) ∧ loopO c n b = skipO b ++ loopO c (skip b).L.length (skip b) := by
  have key : ∀ (n m : Nat) (b : B), b.L.length ≤ n → b.L.length ≤ m → loopB c n b = loopB c m b ∧ loopO c n b = loopO c m b := by
    intro n
    induction n with
    | zero =>
      intro m b h1 _
      have hf : c b = false := by
        cases hcb : c b with
        | false => rfl
        | true => exact absurd (List.length_eq_zero_iff.1 (Nat.le_zero.1 h1)) (hc b hcb)
      exact ⟨by rw [loopB_stop c m b hf]; rfl, by rw [loopO_stop c m b hf]; rfl⟩
    | succ n ih =>
      intro m b h1 h2
      cases hcb : c b with
      | false => exact ⟨by rw [loopB_stop c m b hcb, loopB_stop c _ b hcb], by rw [loopO_stop c m b hcb, loopO_stop c _ b hcb]⟩
      | true =>
        have hne := hc b hcb
        have hlt := skip_len b hne
        cases m with
        | zero => exact absurd (List.length_eq_zero_iff.1 (Nat.le_zero.1 h2)) hne
        | succ m =>
          obtain ⟨k1, k2⟩ := ih m (skip b) (by omega) (by omega)
          exact ⟨by rw [loopB, loopB, hcb, if_pos rfl, if_pos rfl, k1], by rw [loopO, loopO, hcb, if_pos rfl, if_pos rfl, k2]⟩
  intro n b h1 h2
  have hne := hc b h2
  have hlt := skip_len b hne
  cases n with
  | zero => exact absurd (List.length_eq_zero_iff.1 (Nat.le_zero.1 h1)) hne
  | succ n =>
    obtain ⟨k1, k2⟩ := key n (skip b).L.length (skip b) (by omega) (Nat.le_refl _)
    exact ⟨by rw [loopB, h2, if_pos rfl, k1], by rw [loopO, h2, if_pos rfl, k2]⟩
theorem loopB_ok (c : B → Bool) {M : Int} : ∀ (n : Nat) (b : B), b.ok M → (loopB c n b).ok M
  | 0, b, h => h
  | n + 1, b, h => by
    rw [loopB]
    split
    · exact loopB_ok c n _ (skip_ok h)
    · exact h
def lpB (c : B → Bool) (b : B) : B := loopB c b.L.length b
def lpO (c : B → Bool) (b : B) : List Th := loopO c b.L.length b
theorem lp_step {c : B → Bool} (hc : Few c) {b : B} (h : c b = true) : lpB c b = lpB c (skip b) ∧ lpO c b = skipO b ++ lpO c (skip b) := loopB_step c hc _ b (Nat.le_refl _) h
theorem lp_stop {c : B → Bool} {b : B} (h : c b = false) : lpB c b = b ∧ lpO c b = [] := ⟨loopB_stop c _ b h, loopO_stop c _ b h⟩

def over (b : B) : Bool := decide (b.most < (b.L.length : Int))
def old (now : Int) (b : B) : Bool := match b.L with | [] => false | x :: _ => decide (b.wait ≤ now - x.tick)
def any_ (b : B) : Bool := match b.L with | [] => false | _ :: _ => true
theorem old_few (now : Int) : Few (old now) := fun b h e => by simp [old, e] at h
theorem any_few : Few any_ := fun b h e => by simp [any_, e] at h
/-- at least one may wait -/
def overF (b : B) : Bool := over b && any_ b
theorem overF_few : Few overF := fun b h => any_few b (by simp [overF] at h; exact h.2)
theorem overF_eq {b : B} (h : 1 ≤ b.most) : overF b = decide (b.most < (b.L.length : Int)) := by
  unfold overF over any_
  cases e : b.L with
  | nil => simp; omega
  | cons x l => simp

/-- a Put's first steps -/
def begin_ (b : B) (x : Th) : B := if b.begun then b else { b with begun := true, next := x.at_ }
def put1 (b : B) (x : Th) : B := { begin_ b x with L := insT b.L x }
def putE (b : B) (x : Th) : Int := if x.at_ < (begin_ b x).next then 13 else if hasT b.L x.at_ then 14 else 0
def putB (b : B) (x : Th) : B := if putE b x = 0 then lpB overF (follow (put1 b x)) else begin_ b x
def putO (b : B) (x : Th) : List Th := if putE b x = 0 then followO (put1 b x) ++ lpO overF (follow (put1 b x)) else []
end Go.Proofs.Ytfgfejcnkjeghaa.reo
