/-
  reorder: what goes out rises (pure, for ReorderPlays). 'Up lo l hi': the numbers of l rise, from lo on, below hi.
-/
import Derived.Test.YtfgfejcnkjeghaaReoDoes
namespace Go.Proofs.Ytfgfejcnkjeghaa.reo
open Go.RowKit mem
set_option linter.unusedVariables false

def Up : Int → List Th → Int → Prop
  | lo, [], hi => lo ≤ hi
  | lo, x :: l, hi => lo ≤ x.at_ ∧ Up (x.at_ + 1) l hi
theorem Up.le : ∀ {l : List Th} {lo hi : Int}, Up lo l hi → lo ≤ hi
  | [], _, _, h => h
  | x :: l, lo, hi, h => by
    have := Up.le h.2
    have := h.1
    omega
theorem Up.down {l : List Th} {lo hi : Int} (h : Up lo l hi) {lo' : Int} (hl : lo' ≤ lo) : Up lo' l hi := by
  cases l with
  | nil => exact Int.le_trans hl h
  | cons x l => exact ⟨Int.le_trans hl h.1, h.2⟩
theorem Up.app : ∀ {l m : List Th} {a b c : Int}, Up a l b → Up b m c → Up a (l ++ m) c
  | [], m, a, b, c, h, k => k.down h
  | x :: l, m, a, b, c, h, k => ⟨h.1, Up.app h.2 k⟩
/-- how the law's loop uses it: at the i-th, with the one before it at 'last' -/
theorem Up.at : ∀ {l : List Th} {lo hi : Int}, Up lo l hi → ∀ (i : Nat) (h : i < l.length), lo ≤ l[i].at_ ∧ l[i].at_ < hi ∧ ∀ (j : Nat) (hj : j < l.length), j < i → l[j].at_ < l[i].at_
  | x :: l, lo, hi, h, 0, hi' => ⟨h.1, by have := h.2.le; show x.at_ < hi; omega, fun j _ hj => absurd hj (Nat.not_lt_zero j)⟩
  | x :: l, lo, hi, h, i + 1, hi' => by
    have hi2 : i < l.length := by simpa using hi'
    obtain ⟨h1, h2, h3⟩ := Up.at h.2 i hi2
    have h0 := h.1
    refine ⟨by show lo ≤ l[i].at_; omega, h2, fun j hj hji => ?_⟩
    cases j with
    | zero =>
      have : x.at_ < l[i].at_ := by omega
      exact this
    | succ j => exact h3 j (by simpa using hj) (by omega)
/-- the last number that went out: 'last' behind n of them -/
def lastU (last : Int) (l : List Th) (n : Nat) : Int := match (l.take n).getLast? with | some x => x.at_ | none => last
theorem lastU_zero (last : Int) (l : List Th) : lastU last l 0 = last := rfl
theorem lastU_succ (last : Int) (l : List Th) (n : Nat) (h : n < l.length) : lastU last l (n + 1) = l[n].at_ := by
  have e : l.take (n + 1) = l.take n ++ [l[n]] := by rw [List.take_add_one, List.getElem?_eq_getElem h]; rfl
  have : (l.take (n + 1)).getLast? = some l[n] := by rw [e]; exact List.getLast?_concat
  unfold lastU
  rw [this]
/-- the law's test passes at each of them -/
theorem Up.rise {l : List Th} {lo hi last : Int} (h : Up lo l hi) (hl : last < lo) (n : Nat) (hn : n < l.length) : lastU last l n < l[n].at_ := by
  obtain ⟨h1, h2, h3⟩ := h.at n hn
  cases n with
  | zero => rw [lastU_zero]; omega
  | succ m =>
    rw [lastU_succ last l m (by omega)]
    exact h3 m (by omega) (Nat.lt_succ_self m)
/-- and behind them the last is still below what is awaited -/
theorem Up.last {l : List Th} {lo hi last : Int} (h : Up lo l hi) (hl : last < lo) : lastU last l l.length < hi := by
  have hle := h.le
  cases e : l.length with
  | zero => rw [lastU_zero]; omega
  | succ m =>
    rw [lastU_succ last l m (by omega)]
    exact (h.at m (by omega)).2.1

theorem run_up : ∀ (l : List Th) (next : Int), Up next (l.take (runN next l)) (next + (runN next l : Int))
  | [], next => by show next ≤ next + ((0 : Nat) : Int); omega
  | x :: l, next => by
    rw [runN]
    split
    next e =>
      have h := run_up l (next + 1)
      rw [Nat.add_comm 1, List.take_succ_cons]
      refine ⟨by omega, ?_⟩
      rw [e]
      have : next + ((runN (next + 1) l + 1 : Nat) : Int) = next + 1 + (runN (next + 1) l : Int) := by push_cast; omega
      rw [this]
      exact h
    next => show next ≤ next + ((0 : Nat) : Int); omega
theorem follow_up (b : B) : Up b.next (followO b) (follow b).next := run_up b.L b.next
theorem skip_up {b : B} {M : Int} (h : b.ok M) : Up b.next (skipO b) (skip b).next := (follow_up (passed b)).down (low_le h).1
theorem loop_up (c : B → Bool) {M : Int} : ∀ (n : Nat) (b : B), b.ok M → Up b.next (loopO c n b) (loopB c n b).next
  | 0, b, h => Int.le_refl _
  | n + 1, b, h => by
    rw [loopO, loopB]
    split
    · exact (skip_up h).app (loop_up c n _ (skip_ok h))
    · exact Int.le_refl _
theorem lp_up (c : B → Bool) {b : B} {M : Int} (h : b.ok M) : Up b.next (lpO c b) (lpB c b).next := loop_up c _ b h

/-- nothing is awaited before the first Put -/
def Zero (b : B) : Prop := b.begun = false → b.next = 0
theorem begin_up {b : B} (hz : Zero b) {x : Th} (h0 : 0 ≤ x.at_) : b.next ≤ (begin_ b x).next := by
  unfold begin_
  split
  · exact Int.le_refl _
  next hb =>
    have h1 := hz (by simpa using hb)
    have : b.next ≤ x.at_ := by omega
    exact this
theorem put_up {b : B} {M : Int} (h : Fine b M) (hz : Zero b) {x : Th} (hx0 : 0 ≤ x.at_) (hx1 : x.at_ ≤ M) (ht0 : 0 ≤ x.tick) (ht1 : x.tick ≤ 1099511627776) : Up b.next (putO b x) (putB b x).next := by
  have h1 := begin_up hz hx0
  by_cases hE : putE b x = 0
  · obtain ⟨hlt, hh⟩ := putE_zero hE
    have hk := put1_ok h.ok h.fr h.len hx0 hx1 ht0 ht1 hlt hh
    have eO : putO b x = followO (put1 b x) ++ lpO overF (follow (put1 b x)) := if_pos hE
    have eB : putB b x = lpB overF (follow (put1 b x)) := if_pos hE
    rw [eO, eB]
    have h2 : Up (put1 b x).next (followO (put1 b x)) (follow (put1 b x)).next := follow_up _
    exact (h2.app (lp_up overF (follow_ok hk))).down h1
  · have eO : putO b x = [] := if_neg hE
    have eB : putB b x = begin_ b x := if_neg hE
    rw [eO, eB]
    exact h1
theorem put_begun (b : B) (x : Th) : (putB b x).begun = true := by
  have hb : (begin_ b x).begun = true := by
    unfold begin_
    split
    next h => exact h
    next => rfl
  unfold putB
  split
  · exact (loopB_same overF _ _).2.2.1.trans hb
  · exact hb
theorem lp_zero {c : B → Bool} (hc : Few c) {b : B} {M : Int} (h : Fine b M) (hz : Zero b) : Zero (lpB c b) := by
  intro hb
  have hb' : b.begun = false := by rw [← (loopB_same c b.L.length b).2.2.1]; exact hb
  have hcb : c b = false := by
    cases hcb : c b with
    | false => rfl
    | true => exact absurd (h.fr hb').1 (hc b hcb)
  rw [(lp_stop hcb).1]
  exact hz hb'
theorem step_zero {b : B} {kd by_ now M : Int} {s : ByteArray} (h : Fine b M) (hz : Zero b) : Zero (stepB b kd by_ now s) := by
  unfold stepB
  split
  · intro hb
    rw [put_begun] at hb; cases hb
  · split
    · exact lp_zero (old_few _) h hz
    · split
      · exact lp_zero any_few h hz
      · exact hz
/-- an act's things rise, from what was awaited on, and stay below what is awaited then -/
theorem step_up {b : B} {kd by_ now M : Int} {s : ByteArray} (h : Fine b M) (hz : Zero b) (hM0 : 1031 ≤ M) (n0 : 0 ≤ now) (n1 : now ≤ 1099511600000) : Up b.next (stepO b kd by_ now s) (stepB b kd by_ now s).next := by
  have h1 := h.mono (show M ≤ M + 100 by omega)
  unfold stepB stepO
  split
  · have k1 := h.ok.n1
    have k2 := h.ok.n2
    have ha : 0 ≤ atF b by_ ∧ atF b by_ ≤ M + 100 := by unfold atF; split <;> (try split) <;> omega
    exact put_up h1 hz ha.1 ha.2 n0 (by show now ≤ _; omega)
  · split
    · exact lp_up _ h.ok
    · split
      · exact lp_up _ h.ok
      · exact Int.le_refl _
theorem zero_zero (most wait : Int) : Zero (zeroB most wait) := fun _ => rfl
end Go.Proofs.Ytfgfejcnkjeghaa.reo
