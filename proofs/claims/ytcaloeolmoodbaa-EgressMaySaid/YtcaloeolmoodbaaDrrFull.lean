/-
  drr: flows 0 .. n-1, each of which has a head: Choose stays, or goes to the next one. Pure; the rows that the laws build.
-/
import Derived.Test.YtcaloeolmoodbaaDrrAwake
import Derived.Test.YtcaloeolmoodbaaGrow
namespace Go.Proofs.Ytcaloeolmoodbaa.drr
open Go.RowKit mem Go.Maps
set_option linter.unusedVariables false

def natL (n : Nat) : List Int := (List.range n).map Int.ofNat
theorem natL_len (n : Nat) : (natL n).length = n := by simp [natL]
theorem natL_mem {n : Nat} {x : Int} : x ∈ natL n ↔ ∃ i : Nat, i < n ∧ (i : Int) = x := by
  unfold natL
  rw [List.mem_map]
  constructor
  · rintro ⟨i, hi, e⟩
    exact ⟨i, List.mem_range.1 hi, e⟩
  · rintro ⟨i, hi, e⟩
    exact ⟨i, List.mem_range.2 hi, e⟩
theorem natL_succ (n : Nat) : natL (n + 1) = natL n ++ [(n : Int)] := by
  unfold natL
  rw [List.range_succ, List.map_append]; rfl
theorem natL_asc (n : Nat) : (natL n).Pairwise (· < ·) := by
  induction n with
  | zero => exact List.Pairwise.nil
  | succ n ih =>
    rw [natL_succ, List.pairwise_append]
    refine ⟨ih, List.pairwise_singleton _ _, fun x hx y hy => ?_⟩
    obtain ⟨i, hi, rfl⟩ := natL_mem.1 hx
    simp at hy; subst hy
    omega
theorem natL_get (n j : Nat) (h : j < n) : (natL n).getD j 0 = (j : Int) := by
  unfold natL
  rw [List.getD_eq_getElem?_getD, List.getElem?_map, List.getElem?_range h]; rfl
theorem natL_count (n j : Nat) (h : j ≤ n) : (natL n).countP (fun x => decide (x < (j : Int))) = j := by
  induction n with
  | zero =>
    have : j = 0 := by omega
    subst this; rfl
  | succ n ih =>
    rw [natL_succ, List.countP_append]
    by_cases e : j ≤ n
    · rw [ih e, List.countP_cons, decide_eq_false (by omega)]
      simp
    · have hj : j = n + 1 := by omega
      subst hj
      have h1 : ∀ m : Nat, m ≤ n + 1 → (natL m).countP (fun x => decide (x < ((n + 1 : Nat) : Int))) = m := by
        intro m hm
        induction m with
        | zero => rfl
        | succ m ihm =>
          rw [natL_succ, List.countP_append, ihm (by omega), List.countP_cons, decide_eq_true (by push_cast; omega)]
          simp
      rw [h1 n (by omega), List.countP_cons, decide_eq_true (by push_cast; omega)]
      simp
theorem next_full (n j : Nat) (h : j < n) : nextId (natL n) (j : Int) = (((j + 1) % n : Nat) : Int) := by
  unfold nextId
  have hm : (j : Int) ∈ natL n := natL_mem.2 ⟨j, h, rfl⟩
  rw [natL_count n j (by omega), if_pos hm, natL_len]
  exact natL_get n _ (Nat.mod_lt _ (by omega))

/-- a head for each of the flows 0 .. n-1 -/
def hsN (n : Nat) (z : Nat → Int) : Hs := (List.range n).map (fun (i : Nat) => ((i : Int), z i))
theorem hsN_ids (n : Nat) (z : Nat → Int) : ids (hsN n z) = natL n := by
  unfold ids hsN natL
  rw [List.map_map]; rfl
theorem hsN_len (n : Nat) (z : Nat → Int) : (hsN n z).length = n := by
  unfold hsN
  rw [List.length_map, List.length_range]
theorem hsN_succ (n : Nat) (z : Nat → Int) : hsN (n + 1) z = hsN n z ++ [((n : Int), z n)] := by
  unfold hsN
  rw [List.range_succ, List.map_append]; rfl
theorem hsN_get {n : Nat} {z : Nat → Int} {j : Nat} (h : j < n) : (hsN n z)[j]? = some ((j : Int), z j) := by
  unfold hsN
  rw [List.getElem?_map, List.getElem?_range h]; rfl
theorem hsN_mem {n : Nat} {z : Nat → Int} {x : Int × Int} (h : x ∈ hsN n z) : ∃ i : Nat, i < n ∧ x = ((i : Int), z i) := by
  obtain ⟨i, hi, e⟩ := List.mem_map.1 h
  exact ⟨i, List.mem_range.1 hi, e.symm⟩
theorem hsN_size {n : Nat} {z : Nat → Int} {j : Nat} (h : j < n) : sizeOf' (hsN n z) (j : Int) = z j := by
  have h1 : (j : Int) ∈ ids (hsN n z) := by rw [hsN_ids]; exact natL_mem.2 ⟨j, h, rfl⟩
  obtain ⟨i, hi, e⟩ := hsN_mem (sizeOf_mem h1)
  injection e with e1 e2
  have : i = j := by omega
  subst this
  exact e2

/-- flows 0 .. n-1, and no other one; whose turn it is -/
structure Fu (n : Nat) (m : Int) (s : Sc) (t : Nat) : Prop where
  mo : s.most = m
  id : s.L.map (·.id) = natL n
  tu : s.turn = (t : Int)
theorem Fu.fl {n : Nat} {m : Int} {s : Sc} {t : Nat} (h : Fu n m s t) {i : Nat} (hi : i < n) : ∃ f ∈ s.L, f.id = (i : Int) := by
  have : (i : Int) ∈ s.L.map (·.id) := by rw [h.id]; exact natL_mem.2 ⟨i, hi, rfl⟩
  obtain ⟨f, hf, e⟩ := List.mem_map.1 this
  exact ⟨f, hf, e⟩
theorem Fu.ok {n : Nat} {m : Int} {s : Sc} {t : Nat} (h : Fu n m s t) {z : Nat → Int} (hz : ∀ i, i < n → 0 ≤ z i ∧ z i ≤ m) : Ok s (hsN n z) :=
  ⟨by rw [hsN_ids]; exact natL_asc n, (fun x hx => by obtain ⟨i, hi, rfl⟩ := hsN_mem hx; exact h.fl hi), (fun x hx => by obtain ⟨i, hi, rfl⟩ := hsN_mem hx; rw [h.mo]; exact hz i hi)⟩
theorem Fu.none {n : Nat} {m : Int} {s : Sc} {t : Nat} (h : Fu n m s t) : fnd s.L (n : Int) = none := by
  cases hx : fnd s.L (n : Int) with
  | none => rfl
  | some f =>
    obtain ⟨h1, h2⟩ := fnd_some hx
    have : f.id ∈ s.L.map (·.id) := List.mem_map.2 ⟨f, h1, rfl⟩
    rw [h.id, h2] at this
    obtain ⟨i, hi, e⟩ := natL_mem.1 this
    omega
theorem Fu.add {n : Nat} {m : Int} {s : Sc} {t : Nat} (h : Fu n m s t) (b : Nat) (sh : Int) : Fu (n + 1) m (addS s (n : Int) b sh) t :=
  ⟨h.mo, by show (s.L ++ [_]).map _ = _; rw [List.map_append, h.id, natL_succ]; rfl, h.tu⟩
theorem Fu.sim {n : Nat} {m : Int} {s s' : Sc} {t t' : Nat} (h : Fu n m s t) (k : Sim s s') (ht : s'.turn = (t' : Int)) : Fu n m s' t' := by
  obtain ⟨e, F, e2⟩ := k
  refine ⟨e.trans h.mo, ?_, ht⟩
  rw [e2]
  show (s.L.map _).map _ = _
  rw [List.map_map]
  exact h.id
theorem beg_full {n : Nat} {m : Int} {s : Sc} {t : Nat} (h : Fu n m s t) (z : Nat → Int) : begS (hsN n z) s = s := by
  unfold begS
  have : upd s.L (forgetF (hsN n z)) = s.L := upd_same _ _ (fun f hf => by
    unfold forgetF
    rw [if_pos]
    rw [hsN_ids, ← h.id]
    exact List.mem_map.2 ⟨f, hf, rfl⟩)
  rw [this]
theorem hs_ne {n : Nat} {z : Nat → Int} (hn : 0 < n) : hsN n z ≠ [] := fun e => by
  have := hsN_len n z
  rw [e] at this; simp at this; omega
/-- Choose, told by whether the flow whose turn it is has enough -/
theorem choose_full {n : Nat} {m : Int} {s : Sc} {t : Nat} (h : Fu n m s t) (z : Nat → Int) (ht : t < n) :
    chooseS (hsN n z) s = if leftOf (grantS s) (t : Int) < z t then grantS ⟨s.most, (grantS s).L, (((t + 1) % n : Nat) : Int), false⟩ else grantS s := by
  have e1 : chooseS (hsN n z) s = runS (hsN n z) (firS (hsN n z) s) := by
    have := hs_ne (z := z) (show 0 < n by omega)
    cases hx : hsN n z with
    | nil => exact absurd hx this
    | cons _ _ => rfl
  have e2 : firS (hsN n z) s = s := by
    unfold firS
    rw [if_pos (by rw [hsN_ids, h.tu]; exact natL_mem.2 ⟨t, ht, rfl⟩)]
    exact beg_full h z
  rw [e1, e2]
  unfold runS lowS
  rw [h.tu, hsN_size ht]
  by_cases hlow : leftOf (grantS s) (t : Int) < z t
  · rw [decide_eq_true hlow, if_pos rfl, if_pos hlow]
    unfold passS
    rw [(grant_turn s).1, (grant_turn s).2.1, h.tu, hsN_ids, next_full n t ht]
  · rw [decide_eq_false hlow, if_neg (by decide), if_neg hlow]
theorem choose_turn {n : Nat} {m : Int} {s : Sc} {t : Nat} (h : Fu n m s t) (z : Nat → Int) (ht : t < n) :
    ∃ t' : Nat, (t' = t ∨ t' = (t + 1) % n) ∧ (chooseS (hsN n z) s).turn = (t' : Int) := by
  rw [choose_full h z ht]
  split
  · exact ⟨_, .inr rfl, (grant_turn _).1⟩
  · exact ⟨t, .inl rfl, (grant_turn _).1.trans h.tu⟩

/-! ### rows -/
def HE : Enc (Int × Int) := ⟨2, fun x => [.int .i64 x.1, .int .i64 x.2], fun _ => rfl, fun x u hu => by
  simp at hu
  rcases hu with rfl | rfl <;> rfl⟩
theorem infoH : (Try.prog.info? HT).map (fun i => (i.zero, i.size, i.bytes)) = some (some (.agg #[.int .i64 0, .int .i64 0]), 2, 16) := by kernel_rfl
theorem infoI : (Try.prog.info? 3).map (fun i => (i.zero, i.size, i.bytes)) = some (some (.int .i64 0), 1, 8) := by kernel_rfl
theorem hrow_owns {w : World} {v : Value} {l : Hs} (h : Owns HE HT w v l) : HRow w v l := by
  obtain ⟨ao, c, rfl, hc, hr, _⟩ := h.form
  refine ⟨ao, c, rfl, hc, ?_⟩
  rcases hr with e | ⟨g, e, hg, hcell⟩
  · exact .inl e
  · refine .inr ⟨g, 0, e, hg, fun j x hj => ?_⟩
    have h0 := hcell j x hj 0 _ rfl
    have h1 := hcell j x hj 1 _ rfl
    rw [Nat.zero_add]
    exact ⟨h0, h1⟩
/-- a schedule, and a row beside it -/
structure Wr {α : Type} (E : Enc α) (T : TypeId) (w wr : World) (p mb : Nat) (s : Sc) (v : Value) (l : List α) : Prop where
  own : Owns E T wr v l
  vb : ∀ g, v.ownBlock = some g → w.heap.size ≤ g
  off : ∀ g, v.ownBlock = some g → ¬ Foot p mb s g
section
variable {α : Type} {E : Enc α} {T : TypeId} {w wr w2 : World} {p mb : Nat} {s s' : Sc} {v v' : Value} {l : List α}
theorem Wr.later (h : Wr E T w wr p mb s v l) (n : New wr w2) : Wr E T w w2 p mb s v l := ⟨h.own.turns n (fun _ _ h => h), h.vb, h.off⟩
theorem Wr.call (h : Wr E T w wr p mb s v l) (t : Turns (Foot p mb s) wr w2) (sim : Sim s s') : Wr E T w w2 p mb s' v l :=
  ⟨h.own.turns t h.off, h.vb, fun g hg e => h.off g hg (sim.foot e)⟩
theorem Wr.add (h : Wr E T w wr p mb s v l) (t : Turns (· = mb) wr w2) (id sh : Int) : Wr E T w w2 p mb (addS s id wr.heap.size sh) v l :=
  ⟨h.own.turns t (fun g hg e => h.off g hg (.inr (.inl e))), h.vb, fun g hg e => by
    rcases e with e | e | ⟨f, hf, e⟩
    · exact h.off g hg (.inl e)
    · exact h.off g hg (.inr (.inl e))
    · rcases List.mem_append.1 hf with hf | hf
      · exact h.off g hg (.inr (.inr ⟨f, hf, e⟩))
      · simp at hf; subst hf
        have := h.own.lt g hg
        have e2 : wr.heap.size = g := e
        omega⟩
/-- something is appended -/
theorem Wr.push {u : List α} {o : Obj} {c : Nat} {D : DataW Unit} (h : Wr E T w wr p mb s v l) (hn : New w wr) (hs : Ss wr p mb c D s) (ho : Owns E T w2 v' (l ++ u)) (hg : (wr.alloc o).grownBy w2 v.ownBlock) (ha : v'.ownBlock = v.ownBlock ∨ v'.ownBlock = some (wr.alloc o).heap.size) : Wr E T w w2 p mb s v' (l ++ u) := by
  have hsz : (wr.alloc o).heap.size = wr.heap.size + 1 := by unfold World.alloc; exact Array.size_push _
  refine ⟨ho, fun g hg => ?_, fun g hg e => ?_⟩
  · rcases ha with e | e
    · exact h.vb g (by rw [← e]; exact hg)
    · rw [e] at hg; injection hg with hg
      have := hn.size; omega
  · rcases ha with e2 | e2
    · exact h.off g (by rw [← e2]; exact hg) e
    · rw [e2] at hg; injection hg with hg
      have := hs.foot g e; omega
end
/-- the schedule behind an append -/
theorem Rn.push {α : Type} {E : Enc α} {T : TypeId} {w wr w2 : World} {p mb c : Nat} {D : DataW Unit} {s : Sc} {v : Value} {l : List α} {o : Obj} (h : Rn w wr p mb c D s) (hw : Wr E T w wr p mb s v l) (hg : (wr.alloc o).grownBy w2 v.ownBlock) : Rn w w2 p mb c D s ∧ Turns (fun k => some k = v.ownBlock) wr w2 := by
  have t := Gr.turned hg
  exact ⟨⟨h.ss.turns t (fun e => hw.off p e.symm (.inl rfl)) (fun e => hw.off mb e.symm (.inr (.inl rfl))) (fun f hf e => hw.off f.b e.symm (.inr (.inr ⟨f, hf, rfl⟩))), h.n.trans (t.mono (fun i _ hi => .inr (hw.vb i hi.symm))), h.p0, h.m0, h.f0⟩, t⟩
end Go.Proofs.Ytcaloeolmoodbaa.drr
