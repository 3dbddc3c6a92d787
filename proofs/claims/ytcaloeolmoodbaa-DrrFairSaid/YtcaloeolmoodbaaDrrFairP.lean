/-
  DrrFair: what each of the flows 0 .. n-1 has sent, against its share. Pure.
-/
import Derived.Test.YtcaloeolmoodbaaDrrFull
namespace Go.Proofs.Ytcaloeolmoodbaa.drr
open Go.RowKit mem Go.Maps
set_option linter.unusedVariables false

theorem leftOf_mem {s : Sc} (ap : Ap s.L) {f : Fl} (hf : f ∈ s.L) : leftOf s f.id = f.left := by unfold leftOf; rw [ap.fnd hf]
theorem leftOf_upd {m : Int} {L : List Fl} (ap : Ap L) (F : Fl → Int) (t : Int) (g : Bool) {f : Fl} (hf : f ∈ L) : leftOf ⟨m, upd L F, t, g⟩ f.id = F f := by
  unfold leftOf
  show (match fnd (upd L F) f.id with | some f => f.left | none => 0) = _
  rw [fnd_upd, ap.fnd hf]; rfl
/-- how often flow i got its share -/
def Tk' (g : Bool) (c t i : Nat) : Int := if g = true then ((c + (if i ≤ t then 1 else 0) : Nat) : Int) else 0
structure Fa (n : Nat) (m : Int) (q : Nat → Int) (s : Sc) (t c : Nat) (u : Nat → Int) : Prop where
  fu : Fu n m s t
  tn : t < n
  sh : ∀ f ∈ s.L, ∀ i : Nat, f.id = (i : Int) → f.share = q i
  acc : ∀ i, i < n → u i + leftOf s (i : Int) = Tk' s.g c t i * q i
  in0 : s.g = false → t = 0 ∧ c = 0
theorem sh_upd {L : List Fl} {q : Nat → Int} (h : ∀ f ∈ L, ∀ i : Nat, f.id = (i : Int) → f.share = q i) (F : Fl → Int) : ∀ f ∈ upd L F, ∀ i : Nat, f.id = (i : Int) → f.share = q i := fun f hf i e => by
  obtain ⟨f', hf', rfl⟩ := upd_mem hf
  exact h f' hf' i e
theorem Tk_one (c t i : Nat) : Tk' true c t i = (c : Int) + (if i ≤ t then 1 else 0) := by
  unfold Tk'
  rw [if_pos rfl]
  split <;> simp
/-- Choose, of heads for all -/
theorem Fa.choose {n : Nat} {m : Int} {q : Nat → Int} {s : Sc} {t c : Nat} {u : Nat → Int} (h : Fa n m q s t c u) (ok : s.ok) (ap : Ap s.L) {z : Nat → Int} (hz : ∀ i, i < n → 1 ≤ z i ∧ z i ≤ m) :
    ∃ t' c' : Nat, t' < n ∧ (chooseS (hsN n z) s).turn = (t' : Int) ∧ (chooseS (hsN n z) s).g = true ∧ z t' ≤ leftOf (chooseS (hsN n z) s) (t' : Int) ∧ Fa n m q (chooseS (hsN n z) s) t' c' u := by
  have hn : 0 < n := Nat.lt_of_le_of_lt (Nat.zero_le _) h.tn
  have hsim := Sim.choose (hsN n z) s
  obtain ⟨ft, hft, hfi⟩ := h.fu.fl h.tn
  have hturn := h.fu.tu
  rw [choose_full h.fu z h.tn] at hsim ⊢
  by_cases hlow : leftOf (grantS s) (t : Int) < z t
  · rw [if_pos hlow] at hsim ⊢
    have hg : s.g = true := by
      cases hg : s.g
      · have := grant_enough ok ap ⟨ft, hft, by rw [hfi, hturn]⟩ hg (n := z t) (by rw [h.fu.mo]; exact (hz t h.tn).2)
        rw [hturn] at this
        omega
      · rfl
    have hgs : grantS s = s := by unfold grantS; rw [hg]; rfl
    rw [hgs] at hsim hlow ⊢
    have ht' : (t + 1) % n < n := Nat.mod_lt _ hn
    obtain ⟨f2, hf2, hi2⟩ := h.fu.fl ht'
    have hgo : grantS ⟨s.most, s.L, (((t + 1) % n : Nat) : Int), false⟩ = ⟨s.most, upd s.L (fun f => if f.id = (((t + 1) % n : Nat) : Int) then f.left + f.share else f.left), (((t + 1) % n : Nat) : Int), true⟩ := rfl
    rw [hgo] at hsim ⊢
    obtain ⟨k1, k2, k3, k4, k5⟩ := ok.f f2 hf2
    have hmz := hz _ ht'
    have hmo := h.fu.mo
    have hacc2 : ∀ i, i < n → u i + leftOf ⟨s.most, upd s.L (fun f => if f.id = (((t + 1) % n : Nat) : Int) then f.left + f.share else f.left), (((t + 1) % n : Nat) : Int), true⟩ (i : Int) = Tk' true (if t + 1 < n then c else c + 1) ((t + 1) % n) i * q i := fun i hi => by
      obtain ⟨f, hf, hid⟩ := h.fu.fl hi
      have h1 := h.acc i hi
      rw [hg, Tk_one] at h1
      rw [Tk_one, ← hid, leftOf_upd ap _ _ _ hf]
      rw [← hid, leftOf_mem ap hf] at h1
      have hs := h.sh f hf i hid
      by_cases hlt : t + 1 < n
      · rw [if_pos hlt, Nat.mod_eq_of_lt hlt]
        by_cases e : i = t + 1
        · rw [if_pos (by rw [hid, e]), if_pos (by omega)]
          rw [if_neg (by omega), Int.add_zero] at h1
          rw [hs, Int.add_mul, Int.one_mul]
          omega
        · rw [if_neg (by rw [hid]; omega)]
          by_cases e2 : i ≤ t
          · rw [if_pos (by omega)]; rw [if_pos e2] at h1; exact h1
          · rw [if_neg (by omega)]; rw [if_neg e2] at h1; exact h1
      · have hn1 : t + 1 = n := by have := h.tn; omega
        rw [if_neg hlt, hn1, Nat.mod_self]
        rw [if_pos (by omega)] at h1
        by_cases e : i = 0
        · rw [if_pos (by rw [hid, e]), if_pos (by omega)]
          rw [hs]
          push_cast
          rw [Int.add_mul, Int.one_mul]
          omega
        · rw [if_neg (by rw [hid]; omega), if_neg (by omega)]
          push_cast
          rw [Int.add_zero]
          exact h1
    refine ⟨(t + 1) % n, if t + 1 < n then c else c + 1, ht', rfl, rfl, ?_, ⟨h.fu.sim hsim rfl, ht', sh_upd h.sh _, hacc2, fun e => by cases e⟩⟩
    rw [← hi2, leftOf_upd ap _ _ _ hf2, if_pos rfl]
    omega
  · rw [if_neg hlow] at hsim ⊢
    cases hg : s.g
    · obtain ⟨e1, e2⟩ := h.in0 hg
      subst e1 e2
      have hgo : grantS s = ⟨s.most, upd s.L (fun f => if f.id = s.turn then f.left + f.share else f.left), s.turn, true⟩ := by unfold grantS; rw [hg]; rfl
      rw [hgo] at hsim hlow ⊢
      refine ⟨0, 0, h.tn, hturn, rfl, by omega, ⟨h.fu.sim hsim hturn, h.tn, sh_upd h.sh _, fun i hi => ?_, fun e => by cases e⟩⟩
      obtain ⟨f, hf, hid⟩ := h.fu.fl hi
      have h1 := h.acc i hi
      have e0 : Tk' s.g 0 0 i = 0 := by unfold Tk'; rw [hg]; rfl
      rw [e0, Int.zero_mul] at h1
      rw [← hid, leftOf_upd ap _ _ _ hf, Tk_one, hturn]
      rw [← hid, leftOf_mem ap hf] at h1
      have hs := h.sh f hf i hid
      by_cases e : i = 0
      · rw [if_pos (by rw [hid, e]), if_pos (by omega), hs]
        simp
        omega
      · rw [if_neg (by rw [hid]; omega), if_neg (by omega)]
        simp
        omega
    · have hgs : grantS s = s := by unfold grantS; rw [hg]; rfl
      rw [hgs] at hlow ⊢
      exact ⟨t, c, h.tn, hturn, hg, by omega, h⟩
theorem Fa.take {n : Nat} {m : Int} {q : Nat → Int} {s : Sc} {t c : Nat} {u : Nat → Int} (h : Fa n m q s t c u) (ap : Ap s.L) {x : Int} (hg : s.g = true) (h0 : 0 ≤ x) (hx : x ≤ leftOf s (t : Int)) :
    Fa n m q (takeS x s) t c (fun i => if i = t then u i + x else u i) := by
  have hsim := Sim.take s x
  have e : takeS x s = ⟨s.most, upd s.L (fun f => if f.id = s.turn then f.left - x else f.left), s.turn, s.g⟩ := by
    unfold takeS
    rw [if_pos ⟨hg, h0, by rw [h.fu.tu]; exact hx⟩]
  rw [e] at hsim ⊢
  refine ⟨h.fu.sim hsim h.fu.tu, h.tn, sh_upd h.sh _, fun i hi => ?_, h.in0⟩
  obtain ⟨f, hf, hid⟩ := h.fu.fl hi
  have h1 := h.acc i hi
  rw [← hid, leftOf_upd ap _ _ _ hf]
  rw [← hid, leftOf_mem ap hf] at h1
  show _ = Tk' s.g c t i * q i
  rw [← h1, h.fu.tu]
  by_cases e : i = t
  · rw [if_pos e, if_pos (by rw [hid, e])]; omega
  · rw [if_neg e, if_neg (by rw [hid]; omega)]
/-- what two flows have sent -/
def Bd (n : Nat) (m : Int) (q u : Nat → Int) : Prop := ∀ a b, a < b → b < n → -(m * q b) < u a * q b - u b * q a ∧ u a * q b - u b * q a < q a * q b + m * q a
theorem Fa.bd {n : Nat} {m : Int} {q : Nat → Int} {s : Sc} {t c : Nat} {u : Nat → Int} (h : Fa n m q s t c u) (ok : s.ok) (ap : Ap s.L) (hq : ∀ i, i < n → 1 ≤ q i) : Bd n m q u := by
  intro a b hab hb
  obtain ⟨fa, ha1, ha2⟩ := h.fu.fl (show a < n by omega)
  obtain ⟨fb, hb1, hb2⟩ := h.fu.fl hb
  have ea := h.acc a (by omega)
  have eb := h.acc b hb
  rw [← ha2, leftOf_mem ap ha1] at ea
  rw [← hb2, leftOf_mem ap hb1] at eb
  obtain ⟨_, _, xa0, xa1, xa2⟩ := ok.f fa ha1
  obtain ⟨_, _, xb0, xb1, xb2⟩ := ok.f fb hb1
  rw [h.sh fa ha1 a ha2, h.fu.mo] at xa1
  rw [h.sh fb hb1 b hb2, h.fu.mo] at xb1
  rw [h.fu.tu, h.fu.mo, ha2] at xa2
  rw [h.fu.tu, h.fu.mo, hb2] at xb2
  have qa := hq a (by omega)
  have qb := hq b hb
  generalize q a = p at *
  generalize q b = r at *
  generalize fa.left = x at *
  generalize fb.left = y at *
  generalize u a = A at *
  generalize u b = B at *
  have hA : A = Tk' s.g c t a * p - x := by omega
  have hB : B = Tk' s.g c t b * r - y := by omega
  have hD : A * r - B * p = (Tk' s.g c t a - Tk' s.g c t b) * (p * r) - x * r + y * p := by
    rw [hA, hB, Int.sub_mul, Int.sub_mul, Int.sub_mul, Int.mul_assoc, Int.mul_assoc, Int.mul_comm r p]
    omega
  rw [hD]
  have x0 : 0 ≤ x * r := Int.mul_nonneg xa0 (by omega)
  have y0 : 0 ≤ y * p := Int.mul_nonneg xb0 (by omega)
  have pr : 0 ≤ p * r := Int.mul_nonneg (by omega) (by omega)
  have xs : (a ≠ t ∨ s.g = false) → x * r < m * r := fun e => Int.mul_lt_mul_of_pos_right (xa2 (by rcases e with e | e; exact .inl (by omega); exact .inr e)) (by omega)
  have ys : (b ≠ t ∨ s.g = false) → y * p < m * p := fun e => Int.mul_lt_mul_of_pos_right (xb2 (by rcases e with e | e; exact .inl (by omega); exact .inr e)) (by omega)
  have xl : x * r < m * r + p * r := by
    have := Int.mul_lt_mul_of_pos_right xa1 (show 0 < r by omega)
    rwa [Int.add_mul] at this
  have yl : y * p < m * p + p * r := by
    have := Int.mul_lt_mul_of_pos_right xb1 (show 0 < p by omega)
    rwa [Int.add_mul, Int.mul_comm r p] at this
  generalize x * r = X at *
  generalize y * p = Y at *
  generalize p * r = P at *
  generalize m * r = MR at *
  generalize m * p = MP at *
  cases hg : s.g
  · have xs' := xs (.inr hg)
    have ys' := ys (.inr hg)
    have e0 : Tk' false c t a - Tk' false c t b = 0 := by simp [Tk']
    rw [e0, Int.zero_mul]
    omega
  · rw [Tk_one, Tk_one]
    by_cases c1 : t < a
    · have xs' := xs (.inl (by omega))
      have ys' := ys (.inl (by omega))
      rw [if_neg (by omega), if_neg (by omega), Int.sub_self, Int.zero_mul]
      omega
    · by_cases c2 : t < b
      · have ys' := ys (.inl (by omega))
        rw [if_pos (by omega), if_neg (by omega)]
        have e1 : ((c : Int) + 1 - (c + 0)) = 1 := by omega
        rw [e1, Int.one_mul]
        by_cases c3 : a = t
        · omega
        · have xs' := xs (.inl c3)
          omega
      · have xs' := xs (.inl (by omega))
        rw [if_pos (by omega), if_pos (by omega), Int.sub_self, Int.zero_mul]
        by_cases c3 : b = t
        · omega
        · have ys' := ys (.inl c3)
          omega
/-- the test of the law -/
def nearP (a b p q m : Int) : Prop := a * q - b * p ≤ p * q + m * q + m * p ∧ -(a * q - b * p) ≤ p * q + m * q + m * p
theorem Bd.near {n : Nat} {m : Int} {q u : Nat → Int} (h : Bd n m q u) (hm : 0 ≤ m) (hq : ∀ i, i < n → 1 ≤ q i) {a b : Nat} (ha : a < n) (hb : b < n) : nearP (u a) (u b) (q a) (q b) m := by
  have p1 : 0 ≤ q a * q b := Int.mul_nonneg (by have := hq a ha; omega) (by have := hq b hb; omega)
  have p2 : 0 ≤ m * q a := Int.mul_nonneg hm (by have := hq a ha; omega)
  have p3 : 0 ≤ m * q b := Int.mul_nonneg hm (by have := hq b hb; omega)
  unfold nearP
  rcases Nat.lt_trichotomy a b with e | e | e
  · have := h a b e hb
    omega
  · subst e
    omega
  · have := h b a e ha
    have e1 : q b * q a = q a * q b := Int.mul_comm _ _
    rw [e1] at this
    omega
theorem Bd.near2 {n : Nat} {m : Int} {q u v : Nat → Int} (h : Bd n m q u) (k : Bd n m q v) (hm : 0 ≤ m) (hq : ∀ i, i < n → 1 ≤ q i) {a b : Nat} (ha : a < n) (hb : b < n) : nearP (u a - v a) (u b - v b) (q a) (q b) m := by
  have p1 : 0 ≤ q a * q b := Int.mul_nonneg (by have := hq a ha; omega) (by have := hq b hb; omega)
  have p2 : 0 ≤ m * q a := Int.mul_nonneg hm (by have := hq a ha; omega)
  have p3 : 0 ≤ m * q b := Int.mul_nonneg hm (by have := hq b hb; omega)
  unfold nearP
  rw [Int.sub_mul, Int.sub_mul]
  rcases Nat.lt_trichotomy a b with e | e | e
  · have := h a b e hb
    have := k a b e hb
    omega
  · subst e
    omega
  · have h1 := h b a e ha
    have h2 := k b a e ha
    have e1 : q b * q a = q a * q b := Int.mul_comm _ _
    rw [e1] at h1 h2
    omega
theorem Bd.zero {n : Nat} {m : Int} {q : Nat → Int} (hm : 1 ≤ m) (hq : ∀ i, i < n → 1 ≤ q i) : Bd n m q (fun _ => 0) := by
  intro a b hab hb
  have p1 : 0 ≤ q a * q b := Int.mul_nonneg (by have := hq a (by omega); omega) (by have := hq b hb; omega)
  have p2 : 0 < m * q a := Int.mul_pos (by omega) (by have := hq a (by omega); omega)
  have p3 : 0 < m * q b := Int.mul_pos (by omega) (by have := hq b hb; omega)
  simp only [Int.zero_mul, Int.sub_self]
  omega
end Go.Proofs.Ytcaloeolmoodbaa.drr
