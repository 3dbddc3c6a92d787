/-
  reorder: what every call keeps (Fine); a buffer made here (Own); 'awake' of layer 9; ReorderMay.
-/
import Derived.Test.YtfgfejcnkjeghaaReoMiss
namespace Go.Proofs.Ytfgfejcnkjeghaa.reo
open Go.RowKit mem
open ints (IE)
set_option linter.unusedVariables false

theorem loopB_same (c : B → Bool) : ∀ (n : Nat) (b : B), (loopB c n b).most = b.most ∧ (loopB c n b).wait = b.wait ∧ (loopB c n b).begun = b.begun ∧ (loopB c n b).L.length ≤ b.L.length
  | 0, b => ⟨rfl, rfl, rfl, Nat.le_refl _⟩
  | n + 1, b => by
    rw [loopB]
    split
    · obtain ⟨h1, h2, h3, h4⟩ := loopB_same c n (skip b)
      have := skip_split b
      exact ⟨h1, h2, h3, by omega⟩
    · exact ⟨rfl, rfl, rfl, Nat.le_refl _⟩
theorem loopB_end {c : B → Bool} (hc : Few c) : ∀ (n : Nat) (b : B), b.L.length ≤ n → c (loopB c n b) = false
  | 0, b, h => by
    cases hb : c b with
    | false => exact hb
    | true => exact absurd (List.length_eq_zero_iff.1 (Nat.le_zero.1 h)) (hc b hb)
  | n + 1, b, h => by
    rw [loopB]
    cases hb : c b with
    | false => exact hb
    | true =>
      have := skip_len b (hc b hb)
      exact loopB_end hc n (skip b) (by omega)
theorem lp_end {c : B → Bool} (hc : Few c) (b : B) : c (lpB c b) = false := loopB_end hc _ b (Nat.le_refl _)

structure Fine (b : B) (M : Int) : Prop where
  ok : b.ok M
  fr : Fresh b
  few : (b.L.length : Int) ≤ b.most
theorem Fine.mono {b : B} {M M' : Int} (h : Fine b M) (hM : M ≤ M') : Fine b M' := ⟨h.ok.mono hM, h.fr, h.few⟩
theorem Fine.len {b : B} {M : Int} (h : Fine b M) : b.L.length ≤ 1024 := by have := h.few; have := h.ok.m2; omega
theorem lp_fine {c : B → Bool} (hc : Few c) {b : B} {M : Int} (h : Fine b M) : Fine (lpB c b) M := by
  obtain ⟨h1, h2, h3, h4⟩ := loopB_same c b.L.length b
  refine ⟨loopB_ok c _ b h.ok, fun hb => ?_, by show ((loopB c b.L.length b).L.length : Int) ≤ (loopB c b.L.length b).most; rw [h1]; have := h.few; omega⟩
  have hb' : b.begun = false := by rw [← h3]; exact hb
  have hcb : c b = false := by
    cases hcb : c b with
    | false => rfl
    | true => exact absurd (h.fr hb').1 (hc b hcb)
  rw [(lp_stop hcb).1]
  exact h.fr hb'
theorem begin_begun {b : B} {x : Th} {M : Int} (h : Fine b M) (hE : putE b x ≠ 0) : begin_ b x = b := by
  unfold begin_
  split
  next => rfl
  next hb =>
    exfalso
    apply hE
    have hb' : b.begun = false := by simpa using hb
    unfold putE begin_
    rw [if_neg hb, if_neg (by show ¬ x.at_ < x.at_; omega), (h.fr hb').1]
    rfl
theorem putE_zero {b : B} {x : Th} (h : putE b x = 0) : ¬ x.at_ < (begin_ b x).next ∧ hasT b.L x.at_ = false := by
  unfold putE at h
  split at h
  next => cases h
  next hlt =>
    split at h
    next => cases h
    next hh => exact ⟨hlt, by simpa using hh⟩
theorem put_fine {b : B} {x : Th} {M : Int} (h : Fine b M) (hx0 : 0 ≤ x.at_) (hx1 : x.at_ ≤ M) (ht0 : 0 ≤ x.tick) (ht1 : x.tick ≤ 1099511627776) : Fine (putB b x) M := by
  unfold putB
  by_cases hE : putE b x = 0
  · rw [if_pos hE]
    obtain ⟨hlt, hh⟩ := putE_zero hE
    have h1 := follow_ok (put1_ok h.ok h.fr h.len hx0 hx1 ht0 ht1 hlt hh)
    obtain ⟨k1, k2, k3, k4⟩ := loopB_same overF (follow (put1 b x)).L.length (follow (put1 b x))
    have hb : (begin_ b x).begun = true := by
      unfold begin_
      split
      next h => exact h
      next => rfl
    refine ⟨loopB_ok _ _ _ h1, fun hb' => ?_, ?_⟩
    · have : (lpB overF (follow (put1 b x))).begun = true := k3.trans hb
      rw [this] at hb'; cases hb'
    · have he := lp_end overF_few (follow (put1 b x))
      have hm : 1 ≤ (lpB overF (follow (put1 b x))).most := by
        show 1 ≤ (loopB overF (follow (put1 b x)).L.length (follow (put1 b x))).most
        rw [k1]; exact h1.m1
      rw [overF_eq hm] at he
      have := of_decide_eq_false he
      omega
  · rw [if_neg hE, begin_begun h hE]
    exact h
theorem zero_fine {most wait M : Int} (h : 1 ≤ most ∧ most ≤ 1024 ∧ 0 ≤ wait ∧ wait ≤ 1099511627776) (hM : 0 ≤ M) : Fine (zeroB most wait) M :=
  ⟨⟨h.1, h.2.1, h.2.2.1, h.2.2.2, Int.le_refl _, by show (0 : Int) ≤ M + 1; omega, Int.le_refl _, Int.le_refl _, List.Pairwise.nil, fun x hx => by simp [zeroB] at hx, fun x hx => by simp [zeroB] at hx, fun x hx => by simp [zeroB] at hx, fun x hx => by simp [zeroB] at hx, by simp [zeroB]⟩, fun _ => ⟨rfl, rfl⟩, by show (0 : Int) ≤ most; omega⟩

/-- a buffer that was made since w -/
structure Own (w w' : World) (p : Nat) (v : Value) (b : B) : Prop where
  bs : Bs w' p v b
  n : New w w'
  p0 : w.heap.size ≤ p
  vb : ∀ g, v.ownBlock = some g → w.heap.size ≤ g
theorem Own.lft {w w1 w2 : World} {p : Nat} {v v' vo : Value} {b b' : B} {o : List Th} (h : Own w w1 p v b) (k : Two w1 p v w2 v' b' vo o) : Own w w2 p v' b' :=
  ⟨k.bs, h.n.trans (k.t.mono (fun m _ hm => by
    rcases hm with e | e
    · exact .inr (by rw [e]; exact h.p0)
    · exact .inr (h.vb m e))), h.p0, fun g hg => by
    rcases k.src g hg with e | e
    · exact h.vb g e
    · exact Nat.le_trans h.n.size e⟩
theorem Own.later {w w1 w2 : World} {p : Nat} {v : Value} {b : B} (h : Own w w1 p v b) (n : New w1 w2) : Own w w2 p v b :=
  ⟨h.bs.later n, h.n.trans (n.mono (fun _ _ h => h.elim)), h.p0, h.vb⟩
theorem Own.below {w w1 : World} {p : Nat} {v : Value} {b : B} (h : Own w w1 p v b) : Below w.heap.size w w1 := h.n.below (Nat.le_refl _) (fun _ _ h => h.elim)
theorem new_own (most wait : Int) (w0 w : World) (n0 : New w0 w) (h : 1 ≤ most ∧ most ≤ 1024 ∧ 0 ≤ wait ∧ wait ≤ 1099511627776) :
    Calls Try.prog 17 #[.agg #[.int .i64 most, .int .i64 wait]] w fun e w' => ∃ p, e = .returned (.tuple #[.pointer (some ⟨p, 0, none⟩), .int .i64 0]) ∧ Own w0 w' p (.slice none 0 0) (zeroB most wait) := by
  refine (new_ok most wait w h).mono ?_
  rintro e w' ⟨p, rfl, hb, hn, hp⟩
  exact ⟨p, rfl, hb, n0.trans (hn.mono (fun _ _ h => h.elim)), Nat.le_trans n0.size hp, fun g hg => by simp [Value.ownBlock] at hg⟩
/-- what another call on the buffer leaves of a row made behind it -/
theorem row_keeps {α : Type} {E : Enc α} {T : TypeId} {w1 wx w2 : World} {p : Nat} {v v' vo u : Value} {b b' : B} {o : List Th} {l : List α} (h : Two wx p v w2 v' b' vo o) (hb : Bs w1 p v b) (hu : Owns E T wx u l) (hg : ∀ g, u.ownBlock = some g → w1.heap.size ≤ g) : Owns E T w2 u l :=
  hu.turns h.t (fun g hgu e => by
    have := hg g hgu
    rcases e with e | e
    · have := hb.lt; omega
    · have := hb.own.lt g e; omega)
/-- Put on a buffer made here -/
theorem own_put {w0 w : World} {p : Nat} {v : Value} {b : B} {M : Int} (x : Th) (h : Own w0 w p v b) (hf : Fine b M) (hM : M ≤ 1099511627776) (hx0 : 0 ≤ x.at_) (hx1 : x.at_ ≤ M) (ht0 : 0 ≤ x.tick) (ht1 : x.tick ≤ 1099511627776) :
    Calls Try.prog 18 #[.pointer (some ⟨p, 0, none⟩), .agg #[.int .i64 x.at_, .string x.tx, .int .i64 x.tick]] w fun e w' => ∃ v' ao c, e = .returned (.tuple #[.slice ao (putO b x).length c, .int .i64 (putE b x)]) ∧ Own w0 w' p v' (putB b x) ∧ Two w p v w' v' (putB b x) (.slice ao (putO b x).length c) (putO b x) := by
  refine (put_ p v b x M w h.bs hf.ok hf.fr hM hf.len hx0 hx1 ht0 ht1).mono ?_
  rintro e w' ⟨v', vo, rfl, h2⟩
  obtain ⟨ao, c, hv, _⟩ := h2.out.form
  subst hv
  exact ⟨v', ao, c, rfl, h.lft h2, h2⟩

/-! ### awake -/
abbrev th (a : Int) : Th := ⟨a, ⟨#[]⟩, 0⟩
def bA1 : B := putB (zeroB 4 5) (th 5)
def bA2 : B := putB bA1 (th 7)
def bA3 : B := putB bA2 (th 6)
theorem bA : (putO (zeroB 4 5) (th 5)).length = 1 ∧ (putO bA1 (th 7)).length = 0 ∧ (missA bA2).take 9 = [6] ∧ putO bA2 (th 6) = [th 6, th 7] := ⟨rfl, rfl, rfl, rfl⟩

set_option maxHeartbeats 2000000 in
theorem awake (w : World) :
    Calls Try.prog 9 #[] w fun e w' => e = .returned (.bool true) ∧ New w w' := by
  have f0 : Fine (zeroB 4 5) 1000 := zero_fine (by decide) (by decide)
  have f1 : Fine bA1 1000 := put_fine f0 (by decide) (by decide) (by decide) (by decide)
  have f2 : Fine bA2 1000 := put_fine f1 (by decide) (by decide) (by decide) (by decide)
  have F := Lib.hid (And.intro f0 (And.intro f1 f2))
  clear f0 f1 f2
  have HN := Lib.hid (new_own 4 5 w w (Turns.refl _ _) (by decide))
  go_enter Try.func9, Try.ntmps9
  go_wp2_with fail
  refine HN.out.mono ?_
  rintro e w1 ⟨p, rfl, o1⟩
  have O1 := Lib.hid o1
  clear o1 HN
  go_wp2_with fail
  refine (own_put (th 5) O1.out F.out.1 (by decide) (by decide) (by decide) (by decide) (by decide)).mono ?_
  rintro e w2 ⟨v2, ax, cx, rfl, o2, t2⟩
  have O2 := Lib.hid o2
  change Hid (Own w w2 p v2 bA1) at O2
  rw [bA.1]
  clear o2 O1 t2
  go_wp2_with fail
  refine (own_put (th 7) O2.out F.out.2.1 (by decide) (by decide) (by decide) (by decide) (by decide)).mono ?_
  rintro e w3 ⟨v3, ay, cy, rfl, o3, t3⟩
  have O3 := Lib.hid o3
  change Hid (Own w w3 p v3 bA2) at O3
  rw [bA.2.1]
  clear o3 O2 t3
  go_wp2_with fail
  refine (missing_ p v3 bA2 9 1000 w3 O3.out.bs F.out.2.2.ok (by decide) (by decide)).mono ?_
  rintro e w4 ⟨u, rfl, g4⟩
  rw [show (9 : Int).toNat = 9 from rfl, bA.2.2.1] at g4
  have G4 := Lib.hid g4
  have O4 := Lib.hid (O3.out.later g4.n)
  obtain ⟨am, cm, hu, _⟩ := g4.own.form
  clear g4
  subst hu
  go_wp2_with fail
  refine (own_put (th 6) O4.out F.out.2.2 (by decide) (by decide) (by decide) (by decide) (by decide)).mono ?_
  rintro e w5 ⟨v5, az, cz, rfl, o5, t5⟩
  rw [bA.2.2.2] at t5 ⊢
  have K5 := Lib.hid (row_keeps t5 O3.out.bs G4.out.own G4.out.vb)
  obtain ⟨am', cm', hu, _, hrm, _⟩ := K5.out.form
  injection hu with e1 _ e3
  subst e1 e3
  obtain ⟨az', cz', hu, _, hrz, _⟩ := t5.out.form
  injection hu with e1 _ e3
  subst e1 e3
  rcases hrm with h0 | ⟨gm, rfl, _, hcm⟩
  · cases h0
  rcases hrz with h0 | ⟨gz, rfl, _, hcz⟩
  · cases h0
  have m0 : w5.cell? ⟨gm, 0, none⟩ = some (.int .i64 6) := hcm 0 6 rfl 0 _ rfl
  have z1 : w5.cell? ⟨gz, 3, none⟩ = some (.int .i64 7) := hcz 1 (th 7) rfl 0 _ rfl
  have O5 := Lib.hid o5
  clear hcm hcz o5 t5 O4 O3
  simp only [List.length_cons, List.length_nil, Nat.zero_add, Nat.reduceAdd]
  go_wp2
  go_ret
  exact ⟨rfl, O5.out.n⟩

theorem may_law (a0 a1 : Int) (W : World) (g0 : -9223372036854775808 ≤ a0) (g0' : a0 ≤ 9223372036854775807) (g1 : -9223372036854775808 ≤ a1) (g1' : a1 ≤ 9223372036854775807) :
    Calls Try.prog 6 #[.int .i64 a0, .int .i64 a1] W fun e W' => e = .returned (.bool true) ∧ Below W.heap.size W W' := by
  by_cases hv : 1 ≤ a0 ∧ a0 ≤ 1024 ∧ 0 ≤ a1 ∧ a1 ≤ 1099511627776
  · have HN := Lib.hid (new_own a0 a1 W W (Turns.refl _ _) hv)
    have d1 : decide (1 ≤ a0) = true := decide_eq_true hv.1
    have d2 : decide (a0 ≤ 1024) = true := decide_eq_true hv.2.1
    have d3 : decide (0 ≤ a1) = true := decide_eq_true hv.2.2.1
    have d4 : decide (a1 ≤ 1099511627776) = true := decide_eq_true hv.2.2.2
    clear hv g0 g0' g1 g1'
    go_enter Try.func6, Try.ntmps6
    go_wp2_with fail
    refine HN.out.mono ?_
    rintro e w1 ⟨p, rfl, o1⟩
    have HO1 := Lib.hid o1
    have HW := Lib.hid (awake w1)
    clear HN o1
    go_wp2_with fail
    refine HW.out.mono ?_
    rintro e w2 ⟨rfl, n2⟩
    have HO2 := Lib.hid (HO1.out.later n2)
    clear HW HO1 n2
    go_wp2
    go_ret
    exact ⟨rfl, HO2.out.below⟩
  · have HN := Lib.hid (new_bad a0 a1 W hv)
    have HD : Hid (∀ W', New W W' → Below W.heap.size W W') := Lib.hid (fun W' n => n.below (Nat.le_refl _) (fun _ _ h => h.elim))
    have hc : decide (1 ≤ a0) = false ∨ (decide (1 ≤ a0) = true ∧ decide (a0 ≤ 1024) = false) ∨ (decide (1 ≤ a0) = true ∧ decide (a0 ≤ 1024) = true ∧ decide (0 ≤ a1) = false) ∨ (decide (1 ≤ a0) = true ∧ decide (a0 ≤ 1024) = true ∧ decide (0 ≤ a1) = true ∧ decide (a1 ≤ 1099511627776) = false) := by
      by_cases h1 : 1 ≤ a0
      · by_cases h2 : a0 ≤ 1024
        · by_cases h3 : 0 ≤ a1
          · exact .inr (.inr (.inr ⟨decide_eq_true h1, decide_eq_true h2, decide_eq_true h3, decide_eq_false (fun h4 => hv ⟨h1, h2, h3, h4⟩)⟩))
          · exact .inr (.inr (.inl ⟨decide_eq_true h1, decide_eq_true h2, decide_eq_false h3⟩))
        · exact .inr (.inl ⟨decide_eq_true h1, decide_eq_false h2⟩)
      · exact .inl (decide_eq_false h1)
    clear hv g0 g0' g1 g1'
    rcases hc with d1 | ⟨d1, d2⟩ | ⟨d1, d2, d3⟩ | ⟨d1, d2, d3, d4⟩
    all_goals
      go_enter Try.func6, Try.ntmps6
      go_wp2_with fail
      refine HN.out.mono ?_
      rintro e w1 ⟨rfl, n1⟩
      have N1 := Lib.hid n1
      have HW := Lib.hid (awake w1)
      clear n1
      go_wp2_with fail
      refine HW.out.mono ?_
      rintro e w2 ⟨rfl, n2⟩
      have HB := Lib.hid (HD.out _ (N1.out.trans (n2.mono (fun _ _ h => h.elim))))
      clear HW n2
      go_wp2
      go_ret
      exact ⟨rfl, HB.out⟩
end Go.Proofs.Ytfgfejcnkjeghaa.reo
