/-
  The reference of layer 24: Rate, Guess; what it has to do with a meter's list.
-/
import Derived.Test.YtjiodpbgjhoakabRatSteady
namespace Go.Proofs.Ytjiodpbgjhoakab.rat
open Go.RowKit mem
set_option linter.unusedVariables false

abbrev RT : TypeId := 34
abbrev RST : TypeId := 28
theorem infoR : (Try.prog.info? RT).map (fun i => (i.zero, i.size, i.bytes)) = some (some (.agg #[.int .i64 0, .int .i64 0]), 2, 16) := by kernel_rfl
theorem made0 {W : World} {B : Nat} (h : Blk W B #[] RT) : Owns SE RT W (.slice (some ⟨B, 0, none⟩) 0 0) [] :=
  ⟨by simp [Enc.all], .inr ⟨B, 0, #[], rfl, Nat.zero_le _, h, Nat.le_refl _, Nat.zero_le _, by simp, by simp [Enc.all]⟩⟩

/-- what went at t and behind it -/
def sm : List (Int × Int) → Int → Int
  | [], _ => 0
  | x :: xs, t => (if t ≤ x.1 then x.2 else 0) + sm xs t
theorem sm_app (l m : List (Int × Int)) (t : Int) : sm (l ++ m) t = sm l t + sm m t := by
  induction l with
  | nil => simp [sm]
  | cons x xs ih => simp only [List.cons_append, sm, ih]; omega
theorem sm_take (l : List (Int × Int)) (t : Int) (k : Nat) (h : k < l.length) : sm (l.take (k + 1)) t = sm (l.take k) t + (if t ≤ l[k].1 then l[k].2 else 0) := by
  rw [List.take_succ_eq_append_getElem h, sm_app]
  simp [sm]
theorem sm_bd (l : List (Int × Int)) (t : Int) (h : ∀ x ∈ l, 0 ≤ x.2 ∧ x.2 ≤ 1073741824) : 0 ≤ sm l t ∧ sm l t ≤ l.length * 1073741824 := by
  induction l with
  | nil => simp [sm]
  | cons x xs ih =>
    have h1 := h x (by simp)
    have h2 := ih (fun y hy => h y (by simp [hy]))
    simp only [sm, List.length_cons]
    split <;> omega
theorem sm_none (l : List (Int × Int)) (t : Int) (h : ∀ x ∈ l, x.1 < t) : sm l t = 0 := by
  induction l with
  | nil => rfl
  | cons x xs ih =>
    have h1 := h x (by simp)
    have h2 := ih (fun y hy => h y (by simp [hy]))
    simp only [sm, h2]
    rw [if_neg (by omega)]
    rfl

abbrev okL (l : List (Int × Int)) (now : Int) : Prop := l.length ≤ 200 ∧ ∀ x ∈ l, 0 ≤ x.1 ∧ x.1 ≤ now ∧ 0 ≤ x.2 ∧ x.2 ≤ 1073741824
def refR (l : List (Int × Int)) (wi now : Int) : Int := sm l (now - wi + 1) * 1000 / wi
set_option maxHeartbeats 2000000 in
theorem rrate (v : Value) (l : List (Int × Int)) (wi now m : Int) (w : World) (h : Owns SE RT w v l) (hl : okL l m) (w0 : 1 ≤ wi) (w1 : wi ≤ 64) (n0 : 0 ≤ now) (n1 : now ≤ 1099511627776) (m1 : m ≤ 1099511627776) :
    Calls Try.prog 12 #[v, .int .i64 wi, .int .i64 now] w fun e w' => e = .returned (.int .i64 (refR l wi now)) ∧ New w w' := by
  obtain ⟨ao, c, hv, hlc, hr, hown⟩ := h.form
  subst hv
  have HR := Lib.hid hr
  have HL := Lib.hid hl
  have hl200 := hl.1
  have HLT := Lib.hid h.lt
  have HT0 : Hid (New w w) := Lib.hid (Turns.refl _ _)
  have HO := Lib.hid hown
  clear h hr hl hown
  go_enter Try.func12, Try.ntmps12
  go_wp2_with fail
  go_loopw [7, 12] (fun s i wr => ∃ k : Nat, k ≤ l.length ∧ s = .int .i64 (sm (l.take k) (now - wi + 1)) ∧ i = .int .i64 k ∧ New w wr) (fun _ i _ => l.length - (intOf i).toNat)
  case atStart => exact ⟨0, by omega, by simp [sm], rfl, HT0.out⟩
  case round =>
    obtain ⟨k, hk, rfl, rfl, h3⟩ := hrel
    clear HT0
    have H3 := Lib.hid h3
    clear h3
    have hsb := sm_bd (l.take k) (now - wi + 1) (fun x hx => (HL.out.2 x (List.mem_of_mem_take hx)).2.2)
    have hkl : (l.take k).length ≤ 200 := by rw [List.length_take]; omega
    have hs0 : 0 ≤ sm (l.take k) (now - wi + 1) ∧ sm (l.take k) (now - wi + 1) ≤ 214748364800 := by omega
    clear hsb hkl
    by_cases hgo : k < l.length
    · have d1 : decide ((k : Int) < (l.length : Int)) = true := decide_eq_true (by omega)
      have hst := sm_take l (now - wi + 1) k hgo
      have hx := HL.out.2 _ (List.getElem_mem hgo)
      obtain ⟨g, rfl, hg, hcell⟩ := HR.out.resolve_left (by intro e; simp [e] at hgo)
      have e := List.getElem?_eq_getElem hgo
      have x0 := (H3.out.cell (a := ⟨g, k * 2, none⟩) hg (fun h => h)).trans (hcell k _ e 0 (.int .i64 l[k].1) rfl)
      have x1 := (H3.out.cell (a := ⟨g, k * 2 + 1, none⟩) hg (fun h => h)).trans (hcell k _ e 1 (.int .i64 l[k].2) rfl)
      have HN : Hid (New w (wr.alloc (.cells #[.int .i64 l[k].1, .int .i64 l[k].2] RT))) := Lib.hid (H3.out.alloc _)
      clear hcell e
      generalize l[k] = y at *
      obtain ⟨y1, y2⟩ := y
      dsimp only at *
      have HST := Lib.hid hst
      clear hst
      generalize sm (l.take k) (now - wi + 1) = S at *
      by_cases hin : now - wi + 1 ≤ y1
      · have d2 : decide (now - y1 < wi) = true := decide_eq_true (by omega)
        rw [if_pos hin] at HST
        clear hin
        go_wp2
        go_roundw
        case rel => exact ⟨k + 1, by omega, by rw [HST.out], by go_num, HN.out⟩
        case measure => simp [intOf]; omega
      · have d2 : decide (now - y1 < wi) = false := decide_eq_false (by omega)
        rw [if_neg hin] at HST
        clear hin
        go_wp2
        go_roundw
        case rel => exact ⟨k + 1, by omega, by rw [HST.out, Int.add_zero], by go_num, HN.out⟩
        case measure => simp [intOf]; omega
    · obtain rfl : k = l.length := by omega
      have d1 : decide ((l.length : Int) < (l.length : Int)) = false := decide_eq_false (by omega)
      have HRF : Hid (refR l wi now = sm (l.take l.length) (now - wi + 1) * 1000 / wi) := Lib.hid (by rw [List.take_length]; rfl)
      generalize hR : refR l wi now = R at *
      have HRR := Lib.hid hR
      clear hR
      generalize sm (l.take l.length) (now - wi + 1) = S at *
      obtain ⟨q, hq⟩ : ∃ q, S * 1000 / wi = q := ⟨_, rfl⟩
      have hq0 : 0 ≤ q ∧ q ≤ 214748364800000 := by
        rw [← hq]
        exact ⟨Int.ediv_nonneg (by omega) (by omega), Int.le_trans (Int.ediv_le_self _ (by omega)) (by omega)⟩
      have s3 : (S * 1000).tdiv wi = q := by rw [Int.tdiv_eq_ediv_of_nonneg (by omega)]; exact hq
      have s4 : IntKind.i64.wrap q = q := IntWalk.i64_in _ (by omega)
      have hw0 : (wi == 0) = false := by simp; omega
      rw [hq] at HRF
      clear hq hgo hk
      go_wp2
      go_ret
      exact ⟨by rw [HRR.out, HRF.out]; rfl, H3.out⟩

def refG (l : List (Int × Int)) (wi now most : Int) (waits : Bool) : Int :=
  let g := if waits = true then refR l wi now else max (2 * refR l wi now) 1
  if 0 < most then min g most else g
theorem refR_bd (l : List (Int × Int)) (wi now m : Int) (hl : okL l m) (w0 : 1 ≤ wi) : 0 ≤ refR l wi now ∧ refR l wi now ≤ 214748364800000 := by
  have hsb := sm_bd l (now - wi + 1) (fun x hx => (hl.2 x hx).2.2)
  have hl200 := hl.1
  unfold refR
  exact ⟨Int.ediv_nonneg (by omega) (by omega), Int.le_trans (Int.ediv_le_self _ (by omega)) (by omega)⟩
set_option maxHeartbeats 2000000 in
theorem rguess (v : Value) (l : List (Int × Int)) (wi now most m : Int) (waits : Bool) (w : World) (h : Owns SE RT w v l) (hl : okL l m) (w0 : 1 ≤ wi) (w1 : wi ≤ 64) (n0 : 0 ≤ now) (n1 : now ≤ 1099511627776) (m1 : m ≤ 1099511627776) (c0 : 0 ≤ most) (c1 : most ≤ 1099511627776) :
    Calls Try.prog 14 #[v, .int .i64 wi, .int .i64 now, .int .i64 most, .bool waits] w fun e w' => e = .returned (.int .i64 (refG l wi now most waits)) ∧ New w w' := by
  have HR := Lib.hid (rrate v l wi now m w h hl w0 w1 n0 n1 m1)
  obtain ⟨r0, r1⟩ := refR_bd l wi now m hl w0
  have HG : Hid (refG l wi now most waits = (if 0 < most then min (if waits = true then refR l wi now else max (2 * refR l wi now) 1) most else (if waits = true then refR l wi now else max (2 * refR l wi now) 1))) := Lib.hid rfl
  generalize refG l wi now most waits = G at *
  generalize refR l wi now = r at *
  clear h hl
  go_enter Try.func14, Try.ntmps14
  go_wp2_with fail
  refine HR.out.mono ?_
  rintro e w1 ⟨rfl, n1⟩
  have HN := Lib.hid n1
  clear n1 HR
  have HX : Hid (∃ g, (if waits = true then r else max (2 * r) 1) = g ∧ 0 ≤ g ∧ g ≤ 2305843009213693952) := Lib.hid ⟨_, rfl, by split <;> omega, by split <;> omega⟩
  obtain ⟨g, hg, hg0, hg1⟩ := HX.out
  rw [hg] at HG
  clear HX
  have HC : Hid ((0 < most ∧ most < g ∧ G = most) ∨ (0 < most ∧ ¬ most < g ∧ G = g) ∨ (¬ 0 < most ∧ G = g)) := Lib.hid (by
    rw [HG.out]
    by_cases h1 : 0 < most
    · rw [if_pos h1]
      by_cases h2 : most < g
      · exact .inl ⟨h1, h2, by omega⟩
      · exact .inr (.inl ⟨h1, h2, by omega⟩)
    · rw [if_neg h1]
      exact .inr (.inr ⟨h1, rfl⟩))
  clear HG
  cases waits
  · simp only [Bool.false_eq_true, if_false] at hg
    have hmx : (if 2 * r < 1 then 1 else 2 * r) = g := by rw [← hg]; split <;> omega
    clear hg
    rcases HC.out with ⟨h1, h2, rfl⟩ | ⟨h1, h2, rfl⟩ | ⟨h1, rfl⟩
    · have d1 := decide_eq_true h1
      have d2 := decide_eq_true h2
      clear HC
      go_wp2
      go_ret
      exact ⟨rfl, HN.out⟩
    · have d1 := decide_eq_true h1
      have d2 := decide_eq_false h2
      clear HC h2
      go_wp2
      go_ret
      exact ⟨rfl, HN.out⟩
    · have d1 := decide_eq_false h1
      clear HC h1
      go_wp2
      go_ret
      exact ⟨rfl, HN.out⟩
  · simp only [if_true] at hg
    subst hg
    rcases HC.out with ⟨h1, h2, rfl⟩ | ⟨h1, h2, rfl⟩ | ⟨h1, rfl⟩
    · have d1 := decide_eq_true h1
      have d2 := decide_eq_true h2
      clear HC
      go_wp2
      go_ret
      exact ⟨rfl, HN.out⟩
    · have d1 := decide_eq_true h1
      have d2 := decide_eq_false h2
      clear HC h2
      go_wp2
      go_ret
      exact ⟨rfl, HN.out⟩
    · have d1 := decide_eq_false h1
      clear HC h1
      go_wp2
      go_ret
      exact ⟨rfl, HN.out⟩
end Go.Proofs.Ytjiodpbgjhoakab.rat
