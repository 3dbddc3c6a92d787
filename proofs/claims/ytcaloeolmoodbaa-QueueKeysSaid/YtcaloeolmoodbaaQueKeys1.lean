/-
  QueueKeys: what waits is Key or follows on; which numbers are Key, as a map of bools.
-/
import Derived.Test.YtcaloeolmoodbaaQueLoop
import Derived.Test.YtcaloeolmoodbaaQueWhole1
namespace Go.Proofs.Ytcaloeolmoodbaa.que
open Go.RowKit mem Go.Maps
set_option linter.unusedVariables false

/-- from the number p on each item is Key, or has the next number; where nothing is broken the last one has the last number that there is -/
def ch (nn : Int) (b : Bool) : Int → List It → Prop
  | p, [] => p ≤ nn ∧ (b = false → p = nn ∧ p ≠ 0)
  | p, x :: l => (x.key = true ∨ (x.n = p + 1 ∧ p ≠ 0)) ∧ p < x.n ∧ ch nn b x.n l
theorem ch_le {nn : Int} {b : Bool} : ∀ (l : List It) (p : Int), ch nn b p l → p ≤ nn
  | [], p, h => h.1
  | x :: l, p, h => by
    have := ch_le l x.n h.2.2
    have := h.2.1
    omega
theorem ch_mono {nn nn' : Int} {b : Bool} (hn : nn ≤ nn') : ∀ (l : List It) (p : Int), ch nn b p l → ch nn' true p l
  | [], p, h => ⟨Int.le_trans h.1 hn, fun e => by cases e⟩
  | x :: l, p, h => ⟨h.1, h.2.1, ch_mono hn l x.n h.2.2⟩
theorem ch_drop {nn : Int} {b : Bool} : ∀ (k : Nat) (l : List It) (p : Int), ch nn b p l → ∃ p', p ≤ p' ∧ ch nn b p' (l.drop k)
  | 0, l, p, h => ⟨p, Int.le_refl _, h⟩
  | k + 1, [], p, h => ⟨p, Int.le_refl _, h⟩
  | k + 1, x :: l, p, h => by
    obtain ⟨p', h1, h2⟩ := ch_drop k l x.n h.2.2
    have := h.2.1
    exact ⟨p', by omega, h2⟩
/-- nothing, or what is Key, stands first -/
def hd (l : List It) : Prop := l = [] ∨ ∃ y r, l = y :: r ∧ y.key = true
theorem hd_run : ∀ l : List It, hd (l.drop (runL l))
  | [] => .inl rfl
  | x :: l => by
    rw [runL]
    split
    next h => exact .inr ⟨x, l, rfl, h⟩
    next h =>
      rw [Nat.add_comm, List.drop_succ_cons]
      exact hd_run l
theorem hd_drop (l : List It) : hd (l.drop (dropN l)) := by
  cases l with
  | nil => exact .inl (by simp)
  | cons x r =>
    unfold dropN
    rw [Nat.add_comm, List.drop_succ_cons, List.drop_succ_cons]
    exact hd_run r
theorem hd_shed (P : List It → Bool) : ∀ (f : Nat) (l : List It), shed P f l = 0 ∨ hd (l.drop (shed P f l))
  | 0, l => .inl rfl
  | f + 1, l => by
    rw [shed]
    split
    next h =>
      right
      rw [← List.drop_drop]
      rcases hd_shed P f (l.drop (dropN l)) with e | e
      · rw [e]; exact hd_drop l
      · exact e
    next h => exact .inl rfl
theorem ch_sh {nn p : Int} {b : Bool} {l : List It} {k : Nat} (h : ch nn b p l) (hk : k = 0 ∨ hd (l.drop k)) (hl : k ≤ l.length) : ch nn (brk b l k) p (l.drop k) := by
  rcases hk with rfl | hk
  · rw [brk_zero]; exact h
  · obtain ⟨p', hp, hc⟩ := ch_drop k l p h
    rcases hk with e | ⟨y, r, e, hy⟩
    · rw [e] at hc ⊢
      have hle : p' ≤ nn := hc.1
      by_cases h0 : k = 0
      · subst h0
        have : l = [] := by simpa using e
        subst this
        rw [brk_zero]; exact h
      · have hkl : k = l.length := by
          have := congrArg List.length e
          rw [List.length_drop, List.length_nil] at this
          omega
        have hb : brk b l k = true := by
          have e1 : decide (0 < k) = true := decide_eq_true (by omega)
          have e2 : decide (k = l.length) = true := decide_eq_true hkl
          simp [brk, e1, e2]
        rw [hb]
        exact ⟨by omega, fun e => by cases e⟩
    · have hlt : k ≠ l.length := by
        intro e2
        have := congrArg List.length e
        rw [List.length_drop, List.length_cons] at this
        omega
      have hb : brk b l k = b := by
        have e2 : decide (k = l.length) = false := decide_eq_false hlt
        simp [brk, e2]
      rw [hb, e]
      rw [e] at hc
      exact ⟨.inl hy, by have := hc.2.1; omega, hc.2.2⟩
theorem ch_snoc {nn : Int} {b : Bool} (X : It) (hX : X.n = nn + 1) (h0 : 0 ≤ nn) (hb : b = false ∨ X.key = true) : ∀ (l : List It) (p : Int), ch nn b p l → ch (nn + 1) false p (l ++ [X])
  | [], p, h => by
    refine ⟨?_, by have := h.1; omega, by omega, fun _ => ⟨hX, by omega⟩⟩
    rcases hb with hb | hb
    · have := h.2 hb
      exact .inr ⟨by omega, this.2⟩
    · exact .inl hb
  | x :: l, p, h => ⟨h.1, h.2.1, ch_snoc X hX h0 hb l x.n h.2.2⟩

structure Kn (q : Q) (nn last : Int) : Prop where
  c : ch nn q.broken last q.L
  l0 : 0 ≤ last
  n0 : 0 ≤ nn
def lastOf (q : Q) (kd last : Int) : Int := if kd = 2 then (match q.L[0]? with | some x => x.n | none => last) else last
theorem Kn.step {q : Q} {now nn age kd sz last : Int} {ky : Bool} (h : Kn q nn last) (ok : q.ok) : Kn (stepQ q now nn age kd sz ky) (stepN nn kd) (lastOf q kd last) := by
  have h0 := h.l0
  have hn := h.n0
  by_cases k1 : kd = 1
  · subst k1
    have e1 : stepQ q now nn age 1 sz ky = putQ q ⟨nn + 1, sz, now, ky⟩ := by simp [stepQ]
    have e2 : stepN nn 1 = nn + 1 := by simp [stepN]
    have e3 : lastOf q 1 last = last := by simp [lastOf]
    rw [e1, e2, e3]
    refine ⟨?_, h0, by omega⟩
    obtain ⟨X, hX⟩ : ∃ X : It, X = ⟨nn + 1, sz, now, ky⟩ := ⟨_, rfl⟩
    have hXn : X.n = nn + 1 := by rw [hX]
    rw [← hX]
    cases hbd : bad q X with
    | true =>
      have e : putQ q X = ⟨q.frames, q.most, q.L, true⟩ := by unfold putQ; rw [hbd, if_pos rfl]
      rw [e]
      exact ch_mono (by omega) _ _ h.c
    | false =>
      have hk : putK q X ≤ q.L.length := by
        simp [bad] at hbd
        exact sh_le _ q.L.length q.L (full_nil ok (x := X) (by omega))
      have hc := ch_sh h.c (hd_shed (full q X) q.L.length q.L) hk
      cases hrf : (putB q X && !X.key) with
      | true =>
        have e : putQ q X = ⟨q.frames, q.most, q.L.drop (putK q X), putB q X⟩ := by unfold putQ; rw [hbd, if_neg (by simp), hrf, if_pos rfl]
        have hb : putB q X = true := by simp at hrf; exact hrf.1
        rw [e, hb]
        exact ch_mono (by omega) _ _ hc
      | false =>
        have e : putQ q X = ⟨q.frames, q.most, q.L.drop (putK q X) ++ [X], false⟩ := by unfold putQ; rw [hbd, if_neg (by simp), hrf, if_neg (by simp)]
        rw [e]
        refine ch_snoc X hXn hn ?_ _ _ hc
        show putB q X = false ∨ _
        cases hb : putB q X
        · exact .inl rfl
        · rw [hb] at hrf; simp at hrf; exact .inr hrf
  by_cases k2 : kd = 2
  · subst k2
    have e1 : stepQ q now nn age 2 sz ky = ⟨q.frames, q.most, q.L.drop 1, q.broken⟩ := by simp [stepQ]
    have e2 : stepN nn 2 = nn := by simp [stepN]
    rw [e1, e2]
    have hc := h.c
    cases hL : q.L with
    | nil =>
      have e3 : lastOf q 2 last = last := by simp [lastOf, hL]
      rw [e3]
      rw [hL] at hc
      exact ⟨hc, h0, hn⟩
    | cons x r =>
      have e3 : lastOf q 2 last = x.n := by simp [lastOf, hL]
      rw [e3]
      rw [hL] at hc
      exact ⟨hc.2.2, by have := hc.2.1; omega, hn⟩
  have e3 : lastOf q kd last = last := by simp [lastOf, k2]
  have e2 : stepN nn kd = nn := by simp [stepN, k1]
  rw [e2, e3]
  by_cases k3 : kd = 3
  · subst k3
    have e1 : stepQ q now nn age 3 sz ky = expQ q (now + sz % 16) age := by simp [stepQ]
    rw [e1]
    refine ⟨?_, h0, hn⟩
    exact ch_sh h.c (hd_shed (late (now + sz % 16) age) q.L.length q.L) (sh_le _ q.L.length q.L rfl)
  by_cases k4 : kd = 4
  · subst k4
    have e1 : stepQ q now nn age 4 sz ky = ⟨q.frames, q.most, [], true⟩ := by simp [stepQ]
    rw [e1]
    exact ⟨⟨ch_le _ _ h.c, fun e => by cases e⟩, h0, hn⟩
  · have e1 : stepQ q now nn age kd sz ky = q := by simp [stepQ, k1, k2, k3, k4]
    rw [e1]
    exact h
/-- what goes out first -/
theorem Kn.head {q : Q} {nn last : Int} (h : Kn q nn last) {x : It} (hx : q.L[0]? = some x) : last < x.n ∧ x.n ≤ nn ∧ (x.key = true ∨ (x.n = last + 1 ∧ last ≠ 0)) := by
  have hc := h.c
  cases hL : q.L with
  | nil => rw [hL] at hx; cases hx
  | cons y r =>
    rw [hL] at hx hc
    simp at hx; subst hx
    exact ⟨hc.2.1, ch_le _ _ hc.2.2, hc.1⟩

/-! ### the map -/
theorem zeroB (w : World) : (zeroValue 4).run Try.prog w = .ok (.bool false) w := by kernel_rfl
theorem elemT : plainElem (H := Unit) Try.prog 4 (.bool true) = some (.lit (.bool true), []) := plainElem_bool Try.underlying4 true
def yes (D : DataW Unit) (m : Int) : Prop := D.atKey (.int .i64 m) (.lit (.bool false)) = .lit (.bool true)
def putT (D : DataW Unit) (m : Int) : DataW Unit := D.put (.int .i64 m) (.lit (.bool true))
theorem yes_put {D : DataW Unit} {m m' : Int} (hD : IsMap D) (h : yes D m' ∨ m' = m) : yes (putT D m) m' := by
  unfold yes putT
  by_cases e : m' = m
  · subst e
    exact atKey_put_same hD (show WideAt.IsKeyLit (.int .i64 m') from trivial) _ _
  · rw [atKey_put_other (fun e2 => e (by injection e2))]
    exact h.resolve_right e
theorem elemB_inv {P : Program} {e : TypeId} (he : P.underlying e = some .bool) {v : Value} {z : DataW Unit × List MemPlace} (h : plainElem P e v = some z) : ∃ b, v = .bool b ∧ z = (.lit (.bool b), []) := by
  unfold plainElem at h
  rw [he] at h
  cases v <;> simp at h
  next b => exact ⟨b, rfl, h.symm⟩
/-- 'm[k]' in a map of bools where the entry is known -/
theorem wpList_look_bool {P : Program} {w : World} {ops : Array Oper} {rest : List Oper} {o : Oper} {a : Act} {Q : Exit → Act → World → Prop} (hg : o.guard = none) (m x : Operand) (t : TypeId) (hop : o.op = Op.lookup t m x false)
    (k e : TypeId) (K : Keyed P k) (ht : P.underlying t = some (.map k e)) (he : P.underlying e = some .bool) (hz : (zeroValue e).run P w = .ok (.bool false) w) (b n : Nat) (D : DataW Unit)
    (hm : a.eval m = .map (some b)) (hown : w.ownsMap P k (plainElem P e) b n D) (key : Value) (kl : Lit) (hx : a.eval x = key) (hkey : keyOf P k key = some kl)
    (c : Bool) (hc : D.atKey kl (.lit (.bool false)) = .lit (.bool c))
    (hK : wpList P ops Q rest (a.put o.dst (.bool c)) w) :
    wpList P ops Q (o :: rest) a w := by
  refine wpList_plain hg fun K' hK' => ?_
  obtain ⟨v, ps, hrun, hv⟩ := hown.lookup K ht hz (plainElem_bool he false) hkey
  obtain ⟨c', rfl, h2⟩ := elemB_inv he hv
  rw [hc] at h2
  injection h2 with h2 _
  injection h2 with h2
  injection h2 with h2
  subst h2
  unfold Oper.wp
  simp [execOp, hop, hm, hx, hrun, Result.andThen]
  exact hK' _ _ hK

/-- what is Key is so in the map -/
def Km (D : DataW Unit) (q : Q) : Prop := ∀ x ∈ q.L, x.key = true → yes D x.n
def nextD (D : DataW Unit) (nn kd : Int) (ky : Bool) : DataW Unit := if kd = 1 then (if ky = true then putT D (nn + 1) else D) else D
theorem mem_step {q : Q} {now nn age kd sz : Int} {ky : Bool} {x : It} (hx : x ∈ (stepQ q now nn age kd sz ky).L) : x ∈ q.L ∨ (kd = 1 ∧ x = ⟨nn + 1, sz, now, ky⟩) := by
  by_cases k1 : kd = 1
  · subst k1
    have e1 : stepQ q now nn age 1 sz ky = putQ q ⟨nn + 1, sz, now, ky⟩ := by simp [stepQ]
    rw [e1] at hx
    unfold putQ at hx
    split at hx
    · exact .inl hx
    · split at hx
      · exact .inl (List.mem_of_mem_drop hx)
      · rcases List.mem_append.1 hx with hx | hx
        · exact .inl (List.mem_of_mem_drop hx)
        · simp at hx; exact .inr ⟨rfl, hx⟩
  left
  by_cases k2 : kd = 2
  · subst k2
    have e1 : stepQ q now nn age 2 sz ky = ⟨q.frames, q.most, q.L.drop 1, q.broken⟩ := by simp [stepQ]
    rw [e1] at hx
    exact List.mem_of_mem_drop hx
  by_cases k3 : kd = 3
  · subst k3
    have e1 : stepQ q now nn age 3 sz ky = expQ q (now + sz % 16) age := by simp [stepQ]
    rw [e1] at hx
    exact List.mem_of_mem_drop hx
  by_cases k4 : kd = 4
  · subst k4
    have e1 : stepQ q now nn age 4 sz ky = ⟨q.frames, q.most, [], true⟩ := by simp [stepQ]
    rw [e1] at hx
    simp at hx
  · have e1 : stepQ q now nn age kd sz ky = q := by simp [stepQ, k1, k2, k3, k4]
    rw [e1] at hx
    exact hx
theorem Km.step {D : DataW Unit} {q : Q} {now nn age kd sz : Int} {ky : Bool} (h : Km D q) (hD : IsMap D) : Km (nextD D nn kd ky) (stepQ q now nn age kd sz ky) := by
  intro x hx hk
  rcases mem_step hx with hx | ⟨rfl, rfl⟩
  · have := h x hx hk
    unfold nextD
    split
    · split
      · exact yes_put hD (.inl this)
      · exact this
    · exact this
  · simp only at hk
    subst hk
    simp only [nextD, if_true]
    exact yes_put hD (.inr rfl)
theorem Kn.out {q : Q} {nn last : Int} {D : DataW Unit} (h : Kn q nn last) (hm : Km D q) (kd : Int) :
    (stepOut q kd = 0 ∧ lastOf q kd last = last) ∨ (lastOf q kd last = stepOut q kd ∧ last < stepOut q kd ∧ stepOut q kd ≤ nn ∧ kd ≠ 1 ∧ (yes D (stepOut q kd) ∨ (stepOut q kd = last + 1 ∧ last ≠ 0))) := by
  by_cases k2 : kd = 2
  · subst k2
    cases hL : q.L with
    | nil => exact .inl ⟨by simp [stepOut, hL], by simp [lastOf, hL]⟩
    | cons x r =>
      have hx : q.L[0]? = some x := by rw [hL]; rfl
      obtain ⟨h1, h2, h3⟩ := h.head hx
      have e1 : stepOut q 2 = x.n := by simp [stepOut, hL]
      have e2 : lastOf q 2 last = x.n := by simp [lastOf, hL]
      rw [e1, e2]
      refine .inr ⟨rfl, h1, h2, by decide, ?_⟩
      rcases h3 with h3 | h3
      · exact .inl (hm x (List.mem_of_getElem? hx) h3)
      · exact .inr h3
  · exact .inl ⟨by simp [stepOut, k2], by simp [lastOf, k2]⟩
end Go.Proofs.Ytcaloeolmoodbaa.que
