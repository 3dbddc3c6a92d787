/-
  slices.BinarySearchFunc at rate.send; Meter.oldest.
-/
import Derived.Test.YtfhbcdjbfjoknaaRatSeq
namespace Go.Proofs.Ytfhbcdjbfjoknaa.rat
open Go.RowKit mem
set_option linter.unusedVariables false

/-- ascending by tick -/
def Asc (l : List (Int × Int)) : Prop := ∀ i j, (hi : i < j) → (hj : j < l.length) → l[i].1 < l[j].1
/-- n of them are ahead of t -/
def Cut (l : List (Int × Int)) (t : Int) (n : Nat) : Prop := n ≤ l.length ∧ (∀ k, (h : k < l.length) → k < n → l[k].1 < t) ∧ (∀ k, (h : k < l.length) → n ≤ k → t ≤ l[k].1)

set_option maxRecDepth 10000 in
set_option maxHeartbeats 2000000 in
theorem search (v : Value) (l : List (Int × Int)) (t : Int) (w : World) (h : Tl w v l) (hl : l.length ≤ 1048576) (ha : Asc l) :
    Calls Try.prog 74 #[v, .int .i64 t, .func (.func 75) #[] #[]] w fun e w' => ∃ n b, e = .returned (.tuple #[.int .i64 (n : Nat), .bool b]) ∧ Cut l t n ∧ New w w' := by
  obtain ⟨ao, c, hv, hlc, hcm⟩ := h.form
  have HT := Lib.hid h
  have HAS := Lib.hid ha
  have hcm' : c ≤ 9223372036854775807 := by unfold maxLen at hcm; omega
  clear h ha
  subst hv
  have HCL := Lib.hid (fun a b w => closure a b t w)
  go_enter Try.func74, Try.ntmps74
  go_wp2_with fail
  go_loopw [9, 10] (fun i j wr => ∃ a b : Nat, a ≤ b ∧ b ≤ l.length ∧ i = .int .i64 a ∧ j = .int .i64 b ∧ (∀ k, (h : k < l.length) → k < a → l[k].1 < t) ∧ (∀ k, (h : k < l.length) → b ≤ k → t ≤ l[k].1) ∧ New w wr) (fun i j _ => (intOf j - intOf i).toNat)
  case atStart => exact ⟨0, l.length, Nat.zero_le _, Nat.le_refl _, rfl, rfl, fun k h1 h2 => by omega, fun k h1 h2 => by omega, Turns.refl _ _⟩
  case round =>
    obtain ⟨a, b, hab, hbl, rfl, rfl, hlo, hhi, hn⟩ := hrel
    have HLO := Lib.hid (And.intro hlo hhi)
    have HN := Lib.hid hn
    clear hlo hhi hn
    by_cases hgo : a < b
    · have d1 : decide ((a : Int) < (b : Int)) = true := decide_eq_true (by omega)
      obtain ⟨m, hm⟩ : ∃ m : Nat, m = (a + b) / 2 := ⟨_, rfl⟩
      have hm0 : a ≤ m ∧ m < b := by omega
      have HM := Lib.hid hm0
      have hml : m < l.length := by omega
      have hmi : ((a : Int) + (b : Int)) / 2 = (m : Int) := by omega
      obtain ⟨g, o, c', hv, _, _, hg, hcell⟩ := Tl.at_ (HT.out.turns HN.out (fun _ _ h => h)) (by intro e; simp [e] at hml)
      injection hv with e1 _ e3
      subst e1 e3
      have hc0 := (hcell m hml).1
      have hc1 := (hcell m hml).2
      have i1 : (m : Int) < (l.length : Int) := by omega
      have HMT : Hid (∀ k, (hk : k < l.length) → (k < m → l[k].1 < l[m].1) ∧ (m < k → l[m].1 < l[k].1)) := Lib.hid (fun k hk => ⟨fun h => HAS.out k m h hml, fun h => HAS.out m k h hk⟩)
      have HEQ : Hid (∀ k, (hk : k < l.length) → k = m → l[k] = l[m]) := Lib.hid (fun k hk e => by subst e; rfl)
      clear hm hm0
      generalize l[m] = y at *
      clear hcell
      go_wp2_with fail
      refine (HCL.out _ _ _).mono ?_
      rintro e w2 ⟨rfl, n2⟩
      have HN2 := Lib.hid (HN.out.trans (n2.mono (fun _ _ h => h.elim)))
      clear n2 hc0 hc1
      by_cases hlt : y.1 < t
      · have e1 : cmpF y.1 t = -1 := by simp [cmpF, hlt]
        rw [e1]
        clear e1
        go_wp2_with fail
        go_roundw
        case rel => exact ⟨m + 1, b, by have := HM.out; omega, hbl, by go_num, rfl, fun k hk hkm => by
          rcases Nat.lt_trichotomy k m with h | h | h
          · have := ((HMT.out k hk).1 h); omega
          · have := HEQ.out k hk h; rw [this]; exact hlt
          · omega, HLO.out.2, HN2.out⟩
        case measure => have := HM.out; simp [intOf]; omega
      · have hge : ¬ (cmpF y.1 t < 0) := by unfold cmpF; rw [if_neg hlt]; split <;> omega
        have d2 : decide (cmpF y.1 t < 0) = false := decide_eq_false hge
        generalize cmpF y.1 t = cf at *
        clear hge
        go_wp2_with fail
        go_roundw
        case rel => exact ⟨a, m, by have := HM.out; omega, by omega, rfl, rfl, HLO.out.1, fun k hk hkm => by
          rcases Nat.lt_trichotomy k m with h | h | h
          · omega
          · have := HEQ.out k hk h; rw [this]; omega
          · have := ((HMT.out k hk).2 h); omega, HN2.out⟩
        case measure => have := HM.out; simp [intOf]; omega
    · obtain rfl : a = b := by omega
      have d1 : decide ((a : Int) < (a : Int)) = false := decide_eq_false (by omega)
      have HCUT : Hid (Cut l t a) := Lib.hid ⟨hbl, HLO.out.1, HLO.out.2⟩
      by_cases hal : a < l.length
      · have d2 : decide ((a : Int) < (l.length : Int)) = true := decide_eq_true (by omega)
        obtain ⟨g, o, c', hv, _, _, hg, hcell⟩ := Tl.at_ (HT.out.turns HN.out (fun _ _ h => h)) (by intro e; simp [e] at hal)
        injection hv with e1 _ e3
        subst e1 e3
        have hc0 := (hcell a hal).1
        have hc1 := (hcell a hal).2
        generalize l[a] = y at *
        clear hcell
        go_wp2_with fail
        refine (HCL.out _ _ _).mono ?_
        rintro e w2 ⟨rfl, n2⟩
        have HN2 := Lib.hid (HN.out.trans (n2.mono (fun _ _ h => h.elim)))
        clear n2 hc0 hc1
        generalize cmpF y.1 t = cf at *
        go_wp2
        go_ret2
        exact ⟨a, _, rfl, HCUT.out, HN2.out⟩
      · have d2 : decide ((a : Int) < (l.length : Int)) = false := decide_eq_false (by omega)
        go_wp2
        go_ret2
        exact ⟨a, false, rfl, HCUT.out, HN.out⟩

structure M where
  win : Int
  total : Int
  cap : Int
  L : List (Int × Int)
structure M.ok (s : M) : Prop where
  w0 : 1 ≤ s.win
  w1 : s.win ≤ 1048576
  t0 : 0 ≤ s.total
  t1 : s.total ≤ 1125899906842624
  c0 : 0 ≤ s.cap
  c1 : s.cap ≤ 1099511627776
  asc : Asc s.L
  ln : s.L.length ≤ 2000
  bd : ∀ x ∈ s.L, 0 ≤ x.2 ∧ x.2 ≤ s.total
abbrev cells (s : M) (v : Value) : Array Value := #[.int .i64 s.win, v, .int .i64 s.total, .int .i64 s.cap]
structure Ms (w : World) (p : Nat) (v : Value) (s : M) : Prop where
  blk : Blk w p (cells s v) MT
  tl : Tl w v s.L
  ne : ∀ g, v.ownBlock = some g → g ≠ p
theorem four {w : World} {p : Nat} {a b c d : Value} {T : TypeId} (h : Blk w p #[a, b, c, d] T) :
    (w.cell? ⟨p, 0, none⟩ = some a ∧ w.cell? ⟨p, 1, none⟩ = some b ∧ w.cell? ⟨p, 2, none⟩ = some c ∧ w.cell? ⟨p, 3, none⟩ = some d) ∧ w.frozen? ⟨p, 1, none⟩ = false ∧ w.frozen? ⟨p, 2, none⟩ = false ∧ w.frozen? ⟨p, 3, none⟩ = false := ⟨⟨h.cell 0, h.cell 1, h.cell 2, h.cell 3⟩, h.free 1, h.free 2, h.free 3⟩
theorem Ms.later {w w1 : World} {p : Nat} {v : Value} {s : M} (h : Ms w p v s) (n : New w w1) : Ms w1 p v s := ⟨n.blk h.blk (fun h => h), h.tl.turns n (fun _ _ h => h), h.ne⟩

set_option maxHeartbeats 1000000 in
theorem oldest (p : Nat) (v : Value) (s : M) (now : Int) (w : World) (h : Ms w p v s) (ho : s.ok) (n0 : 0 ≤ now) (n1 : now ≤ 4398046511104) :
    Calls Try.prog 48 #[.pointer (some ⟨p, 0, none⟩), .int .i64 now] w fun e w' => ∃ n, e = .returned (.int .i64 (n : Nat)) ∧ Cut s.L (now - s.win + 1) n ∧ New w w' := by
  obtain ⟨⟨c0, c1, c2, c3⟩, _⟩ := four h.blk
  obtain ⟨ao, c, hv, _⟩ := h.tl.form
  have HS := Lib.hid (fun W (n : New w W) => search v s.L (now - s.win + 1) W (h.tl.turns n (fun _ _ h => h)) (by have := ho.ln; omega) ho.asc)
  have w0 := ho.w0
  have w1 := ho.w1
  clear h ho
  subst hv
  generalize s.win = wi at *
  have s1 : IntKind.i64.wrap (now - wi) = now - wi := IntWalk.i64_in _ (by omega)
  have s2 : IntKind.i64.wrap (now - wi + 1) = now - wi + 1 := IntWalk.i64_in _ (by omega)
  go_enter Try.func48, Try.ntmps48
  go_upto_region 1 with fail
  go_region_with (go_at_call 74; (with_reducible refine Calls.mono (HS.out _ ?_) ?_); (focus (exact (Turns.refl _ _).drew)); rintro e w2 ⟨n, b, rfl, hc, n2⟩)
  all_goals
    have HCN := Lib.hid (And.intro hc (Turns.of_drew n2))
    clear hc n2
    go_wp2
    go_ret
    exact ⟨n, rfl, HCN.out⟩
end Go.Proofs.Ytfhbcdjbfjoknaa.rat
