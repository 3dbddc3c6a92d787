/-
  A frame's Key, Time, Size; New.
-/
import Derived.Test.YtmfknefihjjgoaaFrmSeq
namespace Go.Proofs.Ytmfknefihjjgoaa.frm
open Go.RowKit mem
set_option linter.unusedVariables false

def keyV : List U → Bool
  | [] => false
  | u :: _ => u.ky
def timeV : List U → Int
  | [] => 0
  | u :: _ => u.t

theorem keyC (v : Value) (l : List U) (w : World) (h : Row w v l) (hl : l.length ≤ 1000000) :
    Calls Try.prog 14 #[.agg #[v]] w fun e w' => e = .returned (.bool (keyV l)) ∧ New w w' := by
  obtain ⟨ao, c, rfl, hf⟩ := h.form
  cases l with
  | nil =>
    clear hf
    go_enter Try.func14, Try.ntmps14
    go_wp2
    go_ret
    exact ⟨rfl, (Turns.refl _ _).alloc _⟩
  | cons u l =>
    obtain ⟨g, rfl, _, hg, hc⟩ := hf.resolve_left (by simp)
    obtain ⟨_, _, _, _, c4, _, _⟩ := hc 0 u rfl
    simp only [Nat.zero_mul, Nat.zero_add] at c4
    simp only [List.length_cons] at hl ⊢
    generalize l.length = n at *
    clear hf hc
    go_enter Try.func14, Try.ntmps14
    go_wp2
    go_ret
    exact ⟨rfl, (Turns.refl _ _).alloc _⟩

theorem timeC (v : Value) (l : List U) (w : World) (h : Row w v l) (hl : l.length ≤ 1000000) :
    Calls Try.prog 13 #[.agg #[v]] w fun e w' => e = .returned (.int .i64 (timeV l)) ∧ New w w' := by
  obtain ⟨ao, c, rfl, hf⟩ := h.form
  cases l with
  | nil =>
    clear hf
    go_enter Try.func13, Try.ntmps13
    go_wp2
    go_ret
    exact ⟨rfl, (Turns.refl _ _).alloc _⟩
  | cons u l =>
    obtain ⟨g, rfl, _, hg, hc⟩ := hf.resolve_left (by simp)
    obtain ⟨_, c4, _⟩ := hc 0 u rfl
    simp only [Nat.zero_mul, Nat.zero_add] at c4
    simp only [List.length_cons] at hl ⊢
    generalize l.length = n at *
    clear hf hc
    go_enter Try.func13, Try.ntmps13
    go_wp2
    go_ret
    exact ⟨rfl, (Turns.refl _ _).alloc _⟩

theorem size_at (l : List U) (k : Nat) (u : U) (h : l[k]? = some u) : size (l.take k) + u.x.size ≤ size l := by
  have := size_take_le l (k + 1)
  rwa [size_take_succ l k u h] at this

theorem sizeC (v : Value) (l : List U) (w : World) (h : Row w v l) (hl : l.length ≤ 1000000) (hs : size l ≤ 1000000000000) :
    Calls Try.prog 17 #[.agg #[v]] w fun e w' => e = .returned (.int .i64 (size l)) ∧ New w w' := by
  obtain ⟨ao, c, rfl, hf⟩ := h.form
  have HF := Lib.hid hf
  clear hf
  have HT : Hid (size (l.take 0) = 0) := Lib.hid rfl
  have HE : Hid (size (l.take l.length) = size l) := Lib.hid (by rw [List.take_length])
  have HA := Lib.hid (fun k u h => size_at l k u h)
  have HU := Lib.hid (fun k u h => size_take_succ l k u h)
  generalize hn : l.length = n at *
  have HN := Lib.hid hn
  clear hn
  generalize size l = z at *
  go_enter Try.func17, Try.ntmps17
  go_wp2_with fail
  go_loopw [3, 9] (fun m i wr => ∃ k : Nat, k ≤ n ∧ i = .int .i64 k ∧ m = .int .i64 (size (l.take k)) ∧ New w wr) (fun _ i _ => n - (intOf i).toNat)
  case atStart => exact ⟨0, Nat.zero_le _, rfl, by rw [HT.out]; rfl, (Turns.refl _ _).alloc _⟩
  case round =>
    obtain ⟨k, hk, rfl, rfl, hnw⟩ := hrel
    by_cases hlt : k < n
    · have hkl : k < l.length := by rw [HN.out]; exact hlt
      obtain ⟨g, rfl, _, hg, hc⟩ := HF.out.resolve_left (by intro h0; subst h0; simp at hkl)
      obtain ⟨u, hu⟩ : ∃ u, l[k]? = some u := ⟨l[k], by simp [hkl]⟩
      obtain ⟨k0, k1, k2, k3, k4, k5, k6⟩ := hc k u hu
      have t0 := (hnw.cell (a := ⟨g, k * 7, none⟩) hg (fun h => h)).trans k0
      have t1 := (hnw.cell (a := ⟨g, k * 7 + 1, none⟩) hg (fun h => h)).trans k1
      have t2 := (hnw.cell (a := ⟨g, k * 7 + 2, none⟩) hg (fun h => h)).trans k2
      have t3 := (hnw.cell (a := ⟨g, k * 7 + 3, none⟩) hg (fun h => h)).trans k3
      have t4 := (hnw.cell (a := ⟨g, k * 7 + 4, none⟩) hg (fun h => h)).trans k4
      have t5 := (hnw.cell (a := ⟨g, k * 7 + 5, none⟩) hg (fun h => h)).trans k5
      have t6 := (hnw.cell (a := ⟨g, k * 7 + 6, none⟩) hg (fun h => h)).trans k6
      have ha := HA.out k u hu
      have hU := Lib.hid (HU.out k u hu)
      clear k0 k1 k2 k3 k4 k5 k6 hc hu HF HA HU HT HE h hkl
      generalize size (l.take k) = a at *
      go_wp2
      go_roundw
      case rel => exact ⟨k + 1, by omega, by go_num, by rw [hU.out]; go_num, by (repeat (first | (refine Turns.setCell ?_ (.inr (by simp; try omega)) _) | (refine Turns.alloc ?_ _) | (refine Turns.drew ?_))); exact hnw⟩
      case measure => simp [intOf]; omega
    · have : k = n := by omega
      subst this
      rw [HE.out]
      go_wp2
      go_ret
      exact ⟨rfl, hnw⟩

theorem newC (c : C) (w : World) (h : 1 ≤ c.b ∧ c.b ≤ 1048576 ∧ 1 ≤ c.n ∧ c.n ≤ 1024 ∧ 0 ≤ c.w ∧ c.w ≤ 1099511627776) :
    Calls Try.prog 15 #[.agg #[.bool c.v, .int .i64 c.b, .int .i64 c.n, .int .i64 c.w]] w fun e w' => ∃ p, e = .returned (.tuple #[.pointer (some ⟨p, 0, none⟩), .int .i64 0]) ∧ New w w' ∧ w.heap.size ≤ p ∧ Mk w' p (.slice none 0 0) ⟨c, [], 0, 0⟩ := by
  have K := Lib.hid (checkC c)
  simp only [h, and_self, if_true] at K
  clear h
  go_enter Try.func15, Try.ntmps15
  go_wp2_with fail
  refine (K.out _).mono ?_
  rintro e w1 ⟨rfl, h1⟩
  have hb := h1.blk (Blk.new w #[.bool c.v, .int .i64 c.b, .int .i64 c.n, .int .i64 c.w] 51) (fun h => h)
  have d0 := hb.cell 0
  have d1 := hb.cell 1
  have d2 := hb.cell 2
  have d3 := hb.cell 3
  have n1 : New w w1 := ((Turns.refl (fun _ => False) w).alloc _).trans (h1.mono (fun _ _ h => h.elim))
  have hle := n1.size
  clear K h1 hb
  go_wp2
  go_returns
  exact ⟨w1.heap.size, rfl, n1.alloc _, hle, Blk.new _ _ _, Row.nil _, by simp [Value.ownBlock]⟩

theorem newBad (c : C) (w : World) (h : ¬ (1 ≤ c.b ∧ c.b ≤ 1048576 ∧ 1 ≤ c.n ∧ c.n ≤ 1024 ∧ 0 ≤ c.w ∧ c.w ≤ 1099511627776)) :
    Calls Try.prog 15 #[.agg #[.bool c.v, .int .i64 c.b, .int .i64 c.n, .int .i64 c.w]] w fun e w' => e = .returned (.tuple #[.pointer none, .int .i64 5]) ∧ New w w' := by
  have K := Lib.hid (checkC c)
  simp only [h, if_false] at K
  clear h
  go_enter Try.func15, Try.ntmps15
  go_wp2_with fail
  refine (K.out _).mono ?_
  rintro e w1 ⟨rfl, h1⟩
  have n1 : New w w1 := ((Turns.refl (fun _ => False) w).alloc _).trans (h1.mono (fun _ _ h => h.elim))
  clear K h1
  go_wp2
  go_returns
  exact ⟨rfl, n1⟩
end Go.Proofs.Ytmfknefihjjgoaa.frm
