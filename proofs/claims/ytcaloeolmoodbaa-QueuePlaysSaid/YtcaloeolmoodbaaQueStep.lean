/-
  'Does' of layer 18's laws, for any act; what the laws' loops keep.
-/
import Derived.Test.YtcaloeolmoodbaaQueDoes1
import Derived.Test.YtcaloeolmoodbaaQueDoes2
import Derived.Test.YtcaloeolmoodbaaQueDoes3
namespace Go.Proofs.Ytcaloeolmoodbaa.que
open Go.RowKit mem
set_option linter.unusedVariables false

def stepQ (q : Q) (now n age kd sz : Int) (ky : Bool) : Q :=
  if kd = 1 then putQ q ⟨n + 1, sz, now, ky⟩ else if kd = 2 then ⟨q.frames, q.most, q.L.drop 1, q.broken⟩ else if kd = 3 then expQ q (now + sz % 16) age else if kd = 4 then ⟨q.frames, q.most, [], true⟩ else q
def stepNow (now kd sz : Int) : Int := if kd = 3 then now + sz % 16 else now
def stepN (n kd : Int) : Int := if kd = 1 then n + 1 else n
def stepOut (q : Q) (kd : Int) : Int := if kd = 2 then (match q.L[0]? with | some x => x.n | none => 0) else 0

theorem does (p : Nat) (pv xv : Value) (q : Q) (now n age kd sz : Int) (ky : Bool) (w : World) (h : Ds w p pv q xv) (s0 : -9223372036854775808 ≤ sz) (s1 : sz ≤ 9223372036854775807) (n0 : 0 ≤ n) (n1 : n ≤ 1048576) (t0 : 0 ≤ now) (t1 : now ≤ 1048576) (ht : ∀ x ∈ q.L, 0 ≤ x.tick ∧ x.tick ≤ 2199023255552) :
    Calls Try.prog 16 #[.agg (stL p q xv now n age).toArray, .agg #[.int .i64 kd, .int .i64 sz, .bool ky]] w fun e w' => ∃ pv' xv' fl, e = .returned (.tuple #[.agg (stL p (stepQ q now n age kd sz ky) xv' (stepNow now kd sz) (stepN n kd) age).toArray, .int .i64 (stepOut q kd), .bool fl, .bool true]) ∧ Dn w w' p pv xv (stepQ q now n age kd sz ky) pv' xv' := by
  by_cases k1 : kd = 1
  · subst k1
    refine (does1 p pv xv q now n age sz ky w h s0 s1 n0 n1).mono ?_
    rintro e w' ⟨pv', xv', rfl, hd⟩
    exact ⟨pv', xv', _, rfl, hd⟩
  by_cases k2 : kd = 2
  · subst k2
    cases hL : q.L with
    | nil =>
      refine (does2_nil p pv xv q now n age sz ky w h hL).mono ?_
      rintro e w' ⟨pv', xv', rfl, hd⟩
      have hq : stepQ q now n age 2 sz ky = q := by
        obtain ⟨f, m, L, b⟩ := q
        simp only at hL
        subst hL
        rfl
      have ho : stepOut q 2 = 0 := by simp [stepOut, hL]
      rw [hq, ho]
      exact ⟨pv', xv', _, rfl, hd⟩
    | cons x r =>
      refine (does2_cons p pv xv q x now n age sz ky w h (by rw [hL]; rfl)).mono ?_
      rintro e w' ⟨pv', xv', rfl, hd⟩
      have ho : stepOut q 2 = x.n := by simp [stepOut, hL]
      rw [ho]
      exact ⟨pv', xv', _, rfl, hd⟩
  by_cases k3 : kd = 3
  · subst k3
    refine (does3 p pv xv q now n age sz ky _ rfl w h t0 t1 ht).mono ?_
    rintro e w' ⟨pv', xv', rfl, hd⟩
    exact ⟨pv', xv', _, rfl, hd⟩
  by_cases k4 : kd = 4
  · subst k4
    refine (does4 p pv xv q now n age sz ky w h).mono ?_
    rintro e w' ⟨pv', xv', rfl, hd⟩
    exact ⟨pv', xv', _, rfl, hd⟩
  · refine (does0 p pv xv q now n age kd sz ky w h (beq_false_of_ne k1) (beq_false_of_ne k2) (beq_false_of_ne k3) (beq_false_of_ne k4)).mono ?_
    rintro e w' ⟨pv', xv', rfl, hd⟩
    have hq : stepQ q now n age kd sz ky = q := by simp [stepQ, k1, k2, k3, k4]
    have ho : stepOut q kd = 0 := by simp [stepOut, k2]
    have hn : stepN n kd = n := by simp [stepN, k1]
    have hw : stepNow now kd sz = now := by simp [stepNow, k3]
    rw [hq, ho, hn, hw]
    exact ⟨pv', xv', _, rfl, hd⟩

/-! ### the ticks rise -/
def srt : List It → Prop
  | [] => True
  | x :: l => (∀ y ∈ l, x.tick ≤ y.tick) ∧ srt l
theorem srt.drop : ∀ (l : List It) (n : Nat), srt l → srt (l.drop n)
  | [], n, h => by simpa using h
  | x :: l, 0, h => h
  | x :: l, n + 1, h => srt.drop l n h.2
theorem srt.snoc : ∀ (l : List It) (x : It), srt l → (∀ y ∈ l, y.tick ≤ x.tick) → srt (l ++ [x])
  | [], x, _, _ => ⟨fun y hy => by simp at hy, trivial⟩
  | z :: l, x, h, hx => ⟨fun y hy => by
      rcases List.mem_append.1 hy with hy | hy
      · exact h.1 y hy
      · simp at hy; subst hy; exact hx z List.mem_cons_self, srt.snoc l x h.2 (fun y hy => hx y (List.mem_cons_of_mem _ hy))⟩
/-- what a state keeps -/
structure Good (q : Q) (now : Int) : Prop where
  t0 : 0 ≤ now
  tk : ∀ x ∈ q.L, 0 ≤ x.tick ∧ x.tick ≤ now
  st : srt q.L
theorem Good.step {q : Q} {now n age kd sz : Int} {ky : Bool} (h : Good q now) : Good (stepQ q now n age kd sz ky) (stepNow now kd sz) := by
  have hz : 0 ≤ sz % 16 := Int.emod_nonneg _ (by decide)
  have hd : ∀ k b, Good ⟨q.frames, q.most, q.L.drop k, b⟩ now := fun k b => ⟨h.t0, fun x hx => h.tk x (List.mem_of_mem_drop hx), h.st.drop _ k⟩
  unfold stepQ stepNow
  by_cases k1 : kd = 1
  · subst k1
    simp only [if_true]
    rw [if_neg (by decide)]
    unfold putQ
    split
    · exact ⟨h.t0, h.tk, h.st⟩
    · split
      · exact hd _ _
      · have h1 := hd (putK q ⟨n + 1, sz, now, ky⟩) false
        refine ⟨h.t0, fun x hx => ?_, h1.st.snoc _ _ (fun y hy => (h1.tk y hy).2)⟩
        rcases List.mem_append.1 hx with hx | hx
        · exact h1.tk x hx
        · simp at hx; subst hx; exact ⟨h.t0, Int.le_refl _⟩
  by_cases k2 : kd = 2
  · subst k2
    simp only [if_true]
    rw [if_neg (by decide), if_neg (by decide)]
    exact hd _ _
  by_cases k3 : kd = 3
  · subst k3
    simp only [if_true]
    rw [if_neg (by decide), if_neg (by decide)]
    have h1 := hd (expK q (now + sz % 16) age) (brk q.broken q.L (expK q (now + sz % 16) age))
    exact ⟨by have := h.t0; omega, fun x hx => by have := h1.tk x hx; exact ⟨this.1, by omega⟩, h1.st⟩
  by_cases k4 : kd = 4
  · subst k4
    simp only [if_true]
    rw [if_neg (by decide), if_neg (by decide), if_neg (by decide), if_neg (by decide)]
    exact ⟨h.t0, fun x hx => by simp at hx, trivial⟩
  · simp only [k1, k2, k3, k4, if_false]
    exact h
/-- behind an Expire nothing is there that came so long ago -/
theorem exp_young {q : Q} {now now' age : Int} (h : Good q now) : ∀ x ∈ (expQ q now' age).L, now' - x.tick < age := by
  have hl := shed_last (late now' age) rfl q.L.length q.L (Nat.le_refl _)
  change late now' age (q.L.drop (expK q now' age)) = false at hl
  have hs := h.st.drop q.L (expK q now' age)
  show ∀ x ∈ q.L.drop (expK q now' age), now' - x.tick < age
  cases hc : q.L.drop (expK q now' age) with
  | nil => intro x hx; simp at hx
  | cons y l =>
    rw [hc] at hl hs
    simp only [late, decide_eq_false_iff_not] at hl
    intro x hx
    rcases List.mem_cons.1 hx with rfl | hx
    · omega
    · have := hs.1 x hx; omega
end Go.Proofs.Ytcaloeolmoodbaa.que
