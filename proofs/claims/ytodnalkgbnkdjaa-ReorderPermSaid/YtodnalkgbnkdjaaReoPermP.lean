/-
  ReorderPerm: things that come in any order go out in their order.
-/
import Derived.Test.YtodnalkgbnkdjaaReoAwake
import Derived.Test.YtodnalkgbnkdjaaMask
import Derived.Test.YtodnalkgbnkdjaaMapU
import Derived.Test.YtodnalkgbnkdjaaArgs
namespace Go.Proofs.Ytodnalkgbnkdjaa.reo
open Go.RowKit mem Go.Maps
open ints (IE IT infoI)
set_option linter.unusedVariables false

theorem lawI : Keyed Try.prog 3 := int_keyed Try.underlying3
theorem zeroI (w : World) : (zeroValue 3).run Try.prog w = .ok (.int .i64 0) w := by kernel_rfl
theorem keyI {n : Int} (n0 : -9223372036854775808 ≤ n) (n1 : n ≤ 9223372036854775807) : keyOf Try.prog 3 (.int .i64 n) = some (.int .i64 n) :=
  keyOf_int_mk Try.underlying3 (by simp [Lit.wf, IntKind.min, IntKind.max, IntKind.bits, IntKind.signed]; omega)
theorem elemC {n : Int} (n0 : -9223372036854775808 ≤ n) (n1 : n ≤ 9223372036854775807) : plainElem (H := Unit) Try.prog 3 (.int .i64 n) = some (.lit (.int .i64 n), []) := plainElem_int Try.underlying3 (by simp [Lit.wf, IntKind.min, IntKind.max, IntKind.bits, IntKind.signed]; omega)

/-- the map's counts -/
structure Mp (D : DataW Unit) (f : Int → Int) : Prop where
  tidy : Tidy D
  at_ : ∀ k : Int, D.atKey (.int .i64 k) (.lit (.int .i64 0)) = .lit (.int .i64 (f k))
theorem Mp.first : Mp (.map []) (fun _ => 0) := ⟨tidy_empty, fun k => rfl⟩
def upF (f : Int → Int) (k : Int) : Int → Int := fun j => if j = k then f k + 1 else f j
theorem Mp.put {D : DataW Unit} {f : Int → Int} (h : Mp D f) (k : Int) : Mp (D.put (.int .i64 k) (.lit (.int .i64 (f k + 1)))) (upF f k) := by
  have hlit : WideAt.IsKeyLit (.int .i64 k) := trivial
  refine ⟨h.tidy.put hlit _, fun j => ?_⟩
  by_cases e : j = k
  · subst e
    rw [atKey_put_same h.tidy.isMap hlit]
    unfold upF
    rw [if_pos rfl]
  · rw [atKey_put_other (fun e2 => e (by cases e2; rfl)), h.at_ j]
    unfold upF
    rw [if_neg e]

/-! ### what has come -/
theorem asc_len : ∀ (l : List Th) (lo hi : Int), Asc l → lo ≤ hi → (∀ x ∈ l, lo ≤ x.at_ ∧ x.at_ < hi) → (l.length : Int) ≤ hi - lo
  | [], lo, hi, _, h, _ => by show (0 : Int) ≤ hi - lo; omega
  | x :: l, lo, hi, ha, _, hb => by
    obtain ⟨h1, h2⟩ := List.pairwise_cons.1 ha
    have hx := hb x (by simp)
    have := asc_len l (x.at_ + 1) hi h2 (by omega) (fun y hy => ⟨by have := h1 y hy; omega, (hb y (by simp [hy])).2⟩)
    simp only [List.length_cons]
    push_cast
    omega
structure Rx (b : B) (r : List Int) : Prop where
  fine : Fine b 1000
  begun : b.begun = true
  most : b.most = 64
  lost : b.lost = 0
  nx : 101 ≤ b.next
  rr : ∀ j ∈ r, 1 ≤ j ∧ j ≤ 60
  i1 : ∀ j : Int, 101 ≤ j → j < b.next → j - 100 ∈ r
  i2 : ∀ x ∈ b.L, x.at_ - 100 ∈ r
  i3 : ∀ j ∈ r, 100 + j < b.next ∨ ∃ x ∈ b.L, x.at_ = 100 + j
  gt : ∀ x ∈ b.L, b.next < x.at_
theorem begin_same {b : B} (x : Th) (h : b.begun = true) : begin_ b x = b := by unfold begin_; rw [h]; rfl
theorem Rx.put {b : B} {r : List Int} (h : Rx b r) (n : Int) (n1 : 1 ≤ n) (n2 : n ≤ 60) (hn : n ∉ r) :
    putE b (th (100 + n)) = 0 ∧ Rx (putB b (th (100 + n))) (r ++ [n]) ∧ (putB b (th (100 + n))).next = b.next + ((putO b (th (100 + n))).length : Int) ∧ ∀ (j : Nat) (y : Th), (putO b (th (100 + n)))[j]? = some y → y.at_ = b.next + (j : Int) := by
  have hbg := begin_same (th (100 + n)) h.begun
  have hlt : ¬ (100 + n < b.next) := fun e => hn (by have := h.i1 (100 + n) (by omega) e; rwa [show 100 + n - 100 = n by omega] at this)
  have hh : hasT b.L (100 + n) = false := by
    cases e : hasT b.L (100 + n) with
    | false => rfl
    | true =>
      obtain ⟨x, hx, he⟩ := List.any_eq_true.1 e
      have := h.i2 x hx
      rw [show x.at_ = 100 + n by simpa using he, show 100 + n - 100 = n by omega] at this
      exact absurd this hn
  have hE : putE b (th (100 + n)) = 0 := by unfold putE; rw [hbg, if_neg hlt, hh]; rfl
  have hf := put_fine (x := th (100 + n)) h.fine (by show (0 : Int) ≤ 100 + n; omega) (by show 100 + n ≤ (1000 : Int); omega) (Int.le_refl 0) (by show (0 : Int) ≤ _; decide)
  have hp1 : put1 b (th (100 + n)) = { b with L := insT b.L (th (100 + n)) } := by unfold put1; rw [hbg]
  have hok1 := put1_ok (x := th (100 + n)) h.fine.ok h.fine.fr h.fine.len (by show (0 : Int) ≤ 100 + n; omega) (by show 100 + n ≤ (1000 : Int); omega) (Int.le_refl 0) (by show (0 : Int) ≤ _; decide) (by rw [hbg]; exact hlt) hh
  obtain ⟨L1, hL1⟩ : ∃ L1, L1 = insT b.L (th (100 + n)) := ⟨_, rfl⟩
  rw [← hL1] at hp1
  rw [hp1] at hok1
  obtain ⟨R, hR⟩ : ∃ R, R = runN b.next L1 := ⟨_, rfl⟩
  have hRl : R ≤ L1.length := by rw [hR]; exact runN_le _ _
  have hfo : follow (put1 b (th (100 + n))) = { b with L := L1.drop R, next := b.next + (R : Int) } := by rw [hp1]; unfold follow; rw [← hR]
  have hfO : followO (put1 b (th (100 + n))) = L1.take R := by rw [hp1]; unfold followO; rw [← hR]
  have hmem : ∀ y, y ∈ L1 ↔ y = th (100 + n) ∨ y ∈ b.L := fun y => by rw [hL1]; exact insT_mem _ _ _
  have hrr : ∀ j ∈ r ++ [n], 1 ≤ j ∧ j ≤ 60 := fun j hj => by
    rcases List.mem_append.1 hj with hj | hj
    · exact h.rr j hj
    · rw [List.mem_singleton.1 hj]; exact ⟨n1, n2⟩
  have hm1 : ∀ y ∈ L1, y.at_ - 100 ∈ r ++ [n] := fun y hy => by
    rcases (hmem y).1 hy with rfl | hy
    · exact List.mem_append_right _ (by simp; omega)
    · exact List.mem_append_left _ (h.i2 y hy)
  have hfk := follow_ok (b := { b with L := L1 }) hok1
  rw [← hp1, hfo] at hfk
  have hgt : ∀ y ∈ L1.drop R, b.next + (R : Int) < y.at_ := by
    intro y hy
    have h1 := hfk.at1 y hy
    change b.next + (R : Int) ≤ y.at_ at h1
    obtain ⟨i, hi, rfl⟩ := List.getElem_of_mem hy
    rw [List.length_drop] at hi
    rw [List.getElem_drop] at h1 ⊢
    have hs := runN_stop L1 b.next (by rw [← hR]; omega)
    simp only [← hR] at hs
    have h0 := hfk.at1 (L1[R]'(by omega)) (List.mem_drop_iff_getElem.2 ⟨0, by omega, by simp⟩)
    change b.next + (R : Int) ≤ (L1[R]'(by omega)).at_ at h0
    rcases Nat.eq_zero_or_pos i with rfl | hp
    · simp only [Nat.add_zero] at h1 ⊢
      omega
    · have := hok1.asc.lt R (R + i) (by omega) (show R + i < L1.length by omega)
      change (L1[R]'(by omega)).at_ < (L1[R + i]'(by omega)).at_ at this
      omega
  have hlen : (L1.drop R).length ≤ 60 := by
    have := asc_len (L1.drop R) 101 161 (hok1.asc.drop R) (by omega) (fun y hy => by
      have := hrr _ (hm1 y (List.mem_of_mem_drop hy))
      omega)
    omega
  have hov : overF (follow (put1 b (th (100 + n)))) = false := by
    rw [hfo, overF_eq (by show 1 ≤ b.most; rw [h.most]; decide)]
    refine decide_eq_false ?_
    show ¬ (b.most < ((L1.drop R).length : Int))
    rw [h.most]
    omega
  obtain ⟨e1, e2⟩ := lp_stop hov
  have eB : putB b (th (100 + n)) = { b with L := L1.drop R, next := b.next + (R : Int) } := by unfold putB; rw [hE, if_pos rfl, e1, hfo]
  have eO : putO b (th (100 + n)) = L1.take R := by unfold putO; rw [hE, if_pos rfl, e2, hfO, List.append_nil]
  have hat : ∀ (i : Nat) (y : Th), i < R → L1[i]? = some y → y.at_ = b.next + (i : Int) := fun i y hi hy => by
    obtain ⟨hl, rfl⟩ := List.getElem?_eq_some_iff.1 hy
    exact runN_at L1 b.next i hl (by rw [← hR]; exact hi)
  refine ⟨hE, ?_, ?_, ?_⟩
  · rw [eB] at hf ⊢
    refine ⟨hf, h.begun, h.most, h.lost, by have := h.nx; show (101 : Int) ≤ b.next + (R : Int); omega, hrr, fun j j1 j2 => ?_, fun y hy => hm1 y (List.mem_of_mem_drop hy), fun j hj => ?_, hgt⟩
    · change j < b.next + (R : Int) at j2
      by_cases hj : j < b.next
      · exact List.mem_append_left _ (h.i1 j j1 hj)
      · have hi : (j - b.next).toNat < R := by omega
        have hy : L1[(j - b.next).toNat]? = some (L1[(j - b.next).toNat]'(by omega)) := List.getElem?_eq_getElem (by omega)
        have := hm1 _ (List.getElem_mem (show (j - b.next).toNat < L1.length by omega))
        rw [hat _ _ hi hy] at this
        rwa [show b.next + (((j - b.next).toNat : Nat) : Int) - 100 = j - 100 by omega] at this
    · have hex : 100 + j < b.next ∨ ∃ y ∈ L1, y.at_ = 100 + j := by
        rcases List.mem_append.1 hj with hj | hj
        · rcases h.i3 j hj with k | ⟨y, hy, e⟩
          · exact .inl k
          · exact .inr ⟨y, (hmem y).2 (.inr hy), e⟩
        · rw [List.mem_singleton.1 hj]
          exact .inr ⟨th (100 + n), (hmem _).2 (.inl rfl), rfl⟩
      rcases hex with k | ⟨y, hy, e⟩
      · exact .inl (by show 100 + j < b.next + (R : Int); omega)
      · obtain ⟨i, hi, rfl⟩ := List.getElem_of_mem hy
        by_cases hiR : i < R
        · have := hat i _ hiR (List.getElem?_eq_getElem hi)
          exact .inl (by show 100 + j < b.next + (R : Int); omega)
        · exact .inr ⟨L1[i], List.mem_drop_iff_getElem.2 ⟨i - R, by omega, by congr 1; omega⟩, e⟩
  · rw [eB, eO, List.length_take, Nat.min_eq_left hRl]
  · intro j y hy
    rw [eO, List.getElem?_take] at hy
    split at hy
    next hj => exact hat j y hj hy
    next => cases hy
theorem Rx.end_ {b : B} {r : List Int} (h : Rx b r) (hall : ∀ j : Int, 1 ≤ j → j ≤ 60 → j ∈ r) : b.next = 161 ∧ b.L = [] := by
  have h1 : ¬ b.next ≤ 160 := fun e => by
    have h0 := h.nx
    rcases h.i3 (b.next - 100) (hall _ (by omega) (by omega)) with k | ⟨x, hx, e2⟩
    · omega
    · have := h.gt x hx; omega
  have h2 : b.next ≤ 161 := by
    have := h.rr _ (h.i1 (b.next - 1) (by omega) (by omega))
    omega
  refine ⟨by omega, ?_⟩
  cases hL : b.L with
  | nil => rfl
  | cons x l =>
    have k1 := h.rr _ (h.i2 x (by rw [hL]; simp))
    have k2 := h.gt x (by rw [hL]; simp)
    omega
def b100 : B := putB (zeroB 64 10) (th 100)
theorem b100_eq : b100 = ⟨64, 10, [], 101, true, 0⟩ := rfl
theorem rx0 : Rx b100 [] := by
  refine ⟨put_fine (zero_fine (by decide) (by decide)) (by decide) (by decide) (by decide) (by decide), rfl, rfl, rfl, by decide, (fun j hj => by simp at hj), fun j j1 j2 => ?_, fun x hx => ?_, (fun j hj => by simp at hj), fun x hx => ?_⟩
  · rw [b100_eq] at j2
    change j < 101 at j2
    omega
  · rw [b100_eq] at hx; simp at hx
  · rw [b100_eq] at hx; simp at hx

/-! ### memory -/
theorem rows_ne {α β : Type} {E : Enc α} {F : Enc β} {T U : TypeId} {w : World} {v u : Value} {l : List α} {m : List β} (h : Owns E T w v l) (k : Owns F U w u m) (hT : T ≠ U) : ∀ g, v.ownBlock = some g → u.ownBlock ≠ some g := by
  intro g hg
  rcases h.2 with ⟨rfl, _⟩ | ⟨g', cap, cur, rfl, _, hb, _⟩
  · simp [Value.ownBlock] at hg
  · have : g' = g := by simpa [Value.ownBlock] using hg
    subst this
    exact own_ne k (show Blk w g' cur T from hb) (fun e => hT e.symm)
structure Ph (w wr : World) (p : Nat) (v : Value) (b : B) (mb mn : Nat) (D : DataW Unit) (vo : Value) (o : List Int) : Prop where
  own : Own w wr p v b
  m : wr.ownsMap Try.prog 3 (plainElem Try.prog 3) mb mn D
  le : w.heap.size ≤ mb
  ro : Owns IE IT wr vo o
  vb : ∀ g, vo.ownBlock = some g → w.heap.size ≤ g
theorem Ph.put {w wr w2 : World} {p mb mn : Nat} {v vo : Value} {b : B} {D D' : DataW Unit} {o : List Int} (h : Ph w wr p v b mb mn D vo o)
    (h2 : w2.ownsMap Try.prog 3 (plainElem Try.prog 3) mb (mn + 1) D') (hg : wr.grownBy w2 (some mb)) : Ph w w2 p v b mb (mn + 1) D' vo o := by
  have t : Turns (· = mb) wr w2 := (Turns.of_grown hg).mono (fun k _ hk => by injection hk)
  exact ⟨⟨h.own.bs.turns t (fun e => ownsMap_ne h.m h.own.bs.blk e.symm) (fun g hg e => ownsMap_ne_row h.m h.own.bs.own g hg e.symm), h.own.n.trans (t.mono (fun k _ hk => .inr (by rw [hk]; exact h.le))), h.own.p0, h.own.vb⟩, h2, h.le, h.ro.turns t (fun g hg e => ownsMap_ne_row h.m h.ro g hg e.symm), h.vb⟩
theorem Ph.push {w wr w2 : World} {p mb mn : Nat} {v vo vo2 : Value} {b : B} {D : DataW Unit} {o l : List Int} {ob : Obj} (h : Ph w wr p v b mb mn D vo o)
    (ho : Owns IE IT w2 vo2 (o ++ l)) (hg : (wr.alloc ob).grownBy w2 vo.ownBlock) (ha : vo2.ownBlock = vo.ownBlock ∨ vo2.ownBlock = some (wr.alloc ob).heap.size) : Ph w w2 p v b mb mn D vo2 (o ++ l) := by
  have t1 := Gr.turned hg
  have hne := rows_ne h.own.bs.own h.ro (by decide)
  refine ⟨⟨h.own.bs.turns t1 (fun e => own_ne h.ro h.own.bs.blk (by decide) e.symm) (fun g hg e => hne g hg e.symm), h.own.n.trans (t1.mono (fun k _ hk => .inr (h.vb k hk.symm))), h.own.p0, h.own.vb⟩, ownsMap_turns h.m t1 (fun e => ownsMap_ne_row h.m h.ro mb e.symm rfl), h.le, ho, fun g hg => ?_⟩
  rcases ha with e | e
  · exact h.vb g (by rw [← e]; exact hg)
  · rw [e] at hg
    injection hg with hg
    have := h.own.n.size
    have : wr.heap.size ≤ (wr.alloc ob).heap.size := by simp
    omega
theorem ro_two {wx w2 : World} {p : Nat} {v v' vo u : Value} {b b' : B} {o : List Th} {l : List Int} (k : Two wx p v w2 v' b' vo o) (hb : Bs wx p v b) (hu : Owns IE IT wx u l) : Owns IE IT w2 u l :=
  hu.turns k.t (fun g hgu e => by
    rcases e with e | e
    · exact own_ne hu hb.blk (by decide) (by rw [hgu, e])
    · exact rows_ne hb.own hu (by decide) g e hgu)
end Go.Proofs.Ytodnalkgbnkdjaa.reo
