/-
  Meter: New, Total, Rate, Cap, Guess.
-/
import Derived.Test.YtfhbcdjbfjoknaaRatAdd
namespace Go.Proofs.Ytfhbcdjbfjoknaa.rat
open Go.RowKit mem
set_option linter.unusedVariables false


def rateF (s : M) (n : Nat) : Int := if n = s.L.length then 0 else (s.total - (s.L.getD n (0, 0)).2) * 1000 / s.win
set_option maxRecDepth 10000 in
set_option maxHeartbeats 2000000 in
theorem rate (p : Nat) (v : Value) (s : M) (now : Int) (w : World) (h : Ms w p v s) (ho : s.ok) (n0 : 0 ≤ now) (n1 : now ≤ 4398046511104) :
    Calls Try.prog 49 #[.pointer (some ⟨p, 0, none⟩), .int .i64 now] w fun e w' => ∃ n, e = .returned (.int .i64 (rateF s n)) ∧ Cut s.L (now - s.win + 1) n ∧ New w w' := by
  have HOL := Lib.hid (oldest p v s now w h ho n0 n1)
  have HMS := Lib.hid h
  have HOK := Lib.hid ho
  clear h ho
  go_enter Try.func49, Try.ntmps49
  go_wp2_with fail
  refine HOL.out.mono ?_
  rintro e w1 ⟨n, rfl, hc, nw⟩
  have HC := Lib.hid (And.intro hc nw)
  have hnl := hc.1
  have HM1 := Lib.hid (HMS.out.later nw)
  clear hc nw HOL
  obtain ⟨⟨c0, c1, c2, c3⟩, _⟩ := four HM1.out.blk
  obtain ⟨ao, c, hv, hlc, hcm⟩ := HM1.out.tl.form
  subst hv
  have HRF : Hid (rateF s n = if n = s.L.length then 0 else (s.total - (s.L.getD n (0, 0)).2) * 1000 / s.win) := Lib.hid rfl
  by_cases hn : n = s.L.length
  · rw [if_pos hn] at HRF
    have d1 : ((n : Int) == (s.L.length : Int)) = true := by simp; omega
    have d2 : (n == s.L.length) = true := by simp [hn]
    clear hn
    go_wp2
    go_ret
    exact ⟨n, by rw [HRF.out]; rfl, HC.out⟩
  · rw [if_neg hn] at HRF
    have hlt : n < s.L.length := by omega
    have d1 : ((n : Int) == (s.L.length : Int)) = false := by simp; omega
    have d2 : (n == s.L.length) = false := by simp [hn]
    obtain ⟨g, o, c', hv, _, _, hg, hcell⟩ := Tl.at_ HM1.out.tl (by intro e; simp [e] at hlt)
    injection hv with e1 _ e3
    subst e1 e3
    have x1 := (hcell n hlt).2
    have hx : s.L.getD n (0, 0) = s.L[n] := by simp [hlt]
    have hb := HOK.out.bd _ (List.getElem_mem hlt)
    rw [hx] at HRF
    have w0 := HOK.out.w0
    have w1' := HOK.out.w1
    have t1 := HOK.out.t1
    have hnI : (n : Int) < (s.L.length : Int) := by omega
    clear hn hcell hx
    generalize s.L[n] = y at *
    obtain ⟨y0, y1⟩ := hb
    generalize s.total = tt at *
    generalize hwi : s.win = wi at *
    have HWI := Lib.hid hwi
    clear hwi
    generalize y.2 = bf at *
    obtain ⟨d, hd⟩ : ∃ d, tt - bf = d := ⟨_, rfl⟩
    have s1 : IntKind.i64.wrap (tt - bf) = d := by rw [hd]; exact IntWalk.i64_in _ (by omega)
    obtain ⟨m, hm⟩ : ∃ m, d * 1000 = m := ⟨_, rfl⟩
    have s2 : IntKind.i64.wrap (d * 1000) = m := by rw [hm]; exact IntWalk.i64_in _ (by omega)
    have hm0 : 0 ≤ m ∧ m ≤ 1152921504606846976 := by omega
    obtain ⟨q, hq⟩ : ∃ q, m / wi = q := ⟨_, rfl⟩
    have hq0 : 0 ≤ q ∧ q ≤ 1152921504606846976 := by
      rw [← hq]
      refine ⟨Int.ediv_nonneg hm0.1 (by omega), Int.le_trans (Int.ediv_le_self _ hm0.1) hm0.2⟩
    have s3 : m.tdiv wi = q := by rw [Int.tdiv_eq_ediv_of_nonneg hm0.1]; exact hq
    have s4 : IntKind.i64.wrap q = q := IntWalk.i64_in _ (by omega)
    have hw0 : (wi == 0) = false := by simp; omega
    have HFI : Hid (rateF s n = q) := Lib.hid (by rw [HRF.out, hd, hm, hq])
    clear hd hm hm0 hq0 HRF
    go_wp2_with fail
    go_quiet (fail)
    go_wp2
    go_ret
    exact ⟨n, by rw [HFI.out]; rfl, by rw [HWI.out]; exact HC.out.1, HC.out.2.drewN _⟩


def guessF (s : M) (waits : Bool) (r : Int) : Int :=
  let g := if waits = true then r else max (2 * r) 1
  if 0 < s.cap then min g s.cap else g
theorem rate_bd {s : M} (ho : s.ok) (n : Nat) (hn : n ≤ s.L.length) : 0 ≤ rateF s n ∧ rateF s n ≤ 1152921504606846976 := by
  unfold rateF
  split
  · omega
  · rename_i h
    have hlt : n < s.L.length := by omega
    have hx : s.L.getD n (0, 0) = s.L[n] := by simp [hlt]
    have hb := ho.bd _ (List.getElem_mem hlt)
    rw [hx]
    have h1 := ho.t1
    have h2 := ho.w0
    have hm : 0 ≤ (s.total - (s.L[n]).2) * 1000 ∧ (s.total - (s.L[n]).2) * 1000 ≤ 1152921504606846976 := by omega
    exact ⟨Int.ediv_nonneg hm.1 (by omega), Int.le_trans (Int.ediv_le_self _ hm.1) hm.2⟩
set_option maxHeartbeats 1000000 in
theorem guess (p : Nat) (v : Value) (s : M) (now : Int) (waits : Bool) (w : World) (h : Ms w p v s) (ho : s.ok) (n0 : 0 ≤ now) (n1 : now ≤ 4398046511104) :
    Calls Try.prog 28 #[.pointer (some ⟨p, 0, none⟩), .int .i64 now, .bool waits] w fun e w' => ∃ n, e = .returned (.int .i64 (guessF s waits (rateF s n))) ∧ Cut s.L (now - s.win + 1) n ∧ New w w' := by
  have HR := Lib.hid (rate p v s now w h ho n0 n1)
  have HMS := Lib.hid h
  have HOK := Lib.hid ho
  have cc0 := ho.c0
  have cc1 := ho.c1
  clear h ho
  go_enter Try.func28, Try.ntmps28
  go_wp2_with fail
  refine HR.out.mono ?_
  rintro e w1 ⟨n, rfl, hc, nw⟩
  have HC := Lib.hid (And.intro hc nw)
  obtain ⟨r0, r1⟩ := rate_bd HOK.out n hc.1
  have HM1 := Lib.hid (HMS.out.later nw)
  have HG : Hid (guessF s waits (rateF s n) = (if 0 < s.cap then min (if waits = true then rateF s n else max (2 * rateF s n) 1) s.cap else (if waits = true then rateF s n else max (2 * rateF s n) 1))) := Lib.hid rfl
  clear hc nw HR
  obtain ⟨⟨c0, c1, c2, c3⟩, _⟩ := four HM1.out.blk
  generalize hr : rateF s n = r at *
  have HRR := Lib.hid hr
  clear hr
  generalize s.cap = cp at *
  have HX : Hid (∃ g, (if waits = true then r else max (2 * r) 1) = g ∧ 0 ≤ g ∧ g ≤ 2305843009213693952) := Lib.hid ⟨_, rfl, by split <;> omega, by split <;> omega⟩
  cases waits
  · obtain ⟨g, hg, hg0, hg1⟩ := HX.out
    rw [if_neg (by simp)] at hg
    have hmx : (if 2 * r < 1 then 1 else 2 * r) = g := by rw [← hg]; split <;> omega
    have HGG : Hid (guessF s false r = if 0 < cp then min g cp else g) := Lib.hid (by rw [HG.out]; simp only [Bool.false_eq_true, if_false, hg])
    clear hg HG HX
    by_cases hcp : 0 < cp
    · have d1 : decide (0 < cp) = true := decide_eq_true hcp
      rw [if_pos hcp] at HGG
      have hmn : (if cp < g then cp else g) = min g cp := by split <;> omega
      generalize min g cp = f at *
      go_wp2
      go_ret
      exact ⟨n, by rw [HRR.out, HGG.out]; rfl, HC.out⟩
    · have d1 : decide (0 < cp) = false := decide_eq_false hcp
      rw [if_neg hcp] at HGG
      go_wp2
      go_ret
      exact ⟨n, by rw [HRR.out, HGG.out]; rfl, HC.out⟩
  · have HGG : Hid (guessF s true r = if 0 < cp then min r cp else r) := Lib.hid (by rw [HG.out]; simp)
    clear HG HX
    by_cases hcp : 0 < cp
    · have d1 : decide (0 < cp) = true := decide_eq_true hcp
      rw [if_pos hcp] at HGG
      have hmn : (if cp < r then cp else r) = min r cp := by split <;> omega
      generalize min r cp = f at *
      go_wp2
      go_ret
      exact ⟨n, by rw [HRR.out, HGG.out]; rfl, HC.out⟩
    · have d1 : decide (0 < cp) = false := decide_eq_false hcp
      rw [if_neg hcp] at HGG
      go_wp2
      go_ret
      exact ⟨n, by rw [HRR.out, HGG.out]; rfl, HC.out⟩

/-! ### New -/
abbrev fresh (wi : Int) : M := ⟨wi, 0, 0, []⟩
theorem new_bad (wi : Int) (w : World) (h : ¬ (1 ≤ wi ∧ wi ≤ 1048576)) :
    Calls Try.prog 26 #[.int .i64 wi] w fun e w' => e = .returned (.tuple #[.pointer none, .int .i64 5]) ∧ w' = w := by
  by_cases h1 : wi < 1
  · have d1 : decide (wi < 1) = true := decide_eq_true h1
    clear h h1
    go_enter Try.func26, Try.ntmps26
    go_wp2
    go_ret2
    exact ⟨rfl, rfl⟩
  · have d1 : decide (wi < 1) = false := decide_eq_false h1
    have d2 : decide (1048576 < wi) = true := decide_eq_true (by omega)
    clear h h1
    go_enter Try.func26, Try.ntmps26
    go_wp2
    go_ret2
    exact ⟨rfl, rfl⟩
/-- a meter that was made here -/
structure Own (w w' : World) (p : Nat) (v : Value) (s : M) : Prop where
  ms : Ms w' p v s
  n : New w w'
  p0 : w.heap.size ≤ p
  v0 : ∀ g, v.ownBlock = some g → w.heap.size ≤ g
theorem Own.lft {w w1 w2 : World} {p : Nat} {v v' : Value} {s t : M} (h : Own w w1 p v s) (k : Lft w1 w2 p v v' t) : Own w w2 p v' t :=
  ⟨k.ms, h.n.trans (k.t.mono (fun i _ hi => .inr (by
    rcases hi with hi | hi
    · have := h.p0; omega
    · exact h.v0 i hi))), h.p0, fun g hg => by
    rcases k.vb g hg with e | e
    · exact h.v0 g e
    · exact Nat.le_trans h.n.size e⟩
theorem Own.later {w w1 w2 : World} {p : Nat} {v : Value} {s : M} (h : Own w w1 p v s) (n : New w1 w2) : Own w w2 p v s := ⟨h.ms.later n, h.n.trans (n.mono (fun _ _ h => h.elim)), h.p0, h.v0⟩
theorem Own.below {w w' : World} {p : Nat} {v : Value} {s : M} (h : Own w w' p v s) : Below w.heap.size w w' := h.n.below (Nat.le_refl _) (fun _ _ h => h.elim)
theorem new_ok (wi : Int) (w : World) (h : 1 ≤ wi ∧ wi ≤ 1048576) :
    Calls Try.prog 26 #[.int .i64 wi] w fun e w' => ∃ p, e = .returned (.tuple #[.pointer (some ⟨p, 0, none⟩), .int .i64 0]) ∧ Own w w' p (.slice none 0 0) (fresh wi) := by
  have d1 : decide (wi < 1) = false := decide_eq_false (by omega)
  have d2 : decide (1048576 < wi) = false := decide_eq_false (by omega)
  have HB : Hid (Own w (w.alloc (.cells (cells (fresh wi) (.slice none 0 0)) MT)) w.heap.size (.slice none 0 0) (fresh wi)) := Lib.hid ⟨⟨Blk.new _ _ _, .inl ⟨rfl, rfl⟩, fun g hg => by simp [Value.ownBlock] at hg⟩, (Turns.refl _ _).alloc _, Nat.le_refl _, fun g hg => by simp [Value.ownBlock] at hg⟩
  clear h
  go_enter Try.func26, Try.ntmps26
  go_wp2
  go_ret2
  exact ⟨_, rfl, HB.out⟩
end Go.Proofs.Ytfhbcdjbfjoknaa.rat
