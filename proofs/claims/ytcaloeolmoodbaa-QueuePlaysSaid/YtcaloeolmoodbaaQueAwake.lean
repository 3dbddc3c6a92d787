/-
  'awake' of layer 18; QueueMay.
-/
import Derived.Test.YtcaloeolmoodbaaQuePut
namespace Go.Proofs.Ytcaloeolmoodbaa.que
open Go.RowKit mem
set_option linter.unusedVariables false

theorem put_is (p : Nat) (pv : Value) (q : Q) (x : It) (t : Q) (D : List It) (b : Bool) (ht : putQ q x = t ∧ putD q x = D ∧ putOk q x = b) (w : World) (h : Qs w p pv q) (s0 : -9223372036854775808 ≤ x.size) (s1 : x.size ≤ 9223372036854775807) :
    Calls Try.prog 44 #[.pointer (some ⟨p, 0, none⟩), x.v] w fun e w' => ∃ v, e = .returned (.tuple #[v, .bool b]) ∧ PutPost w w' p pv t v D := by
  obtain ⟨rfl, rfl, rfl⟩ := ht
  exact put p pv q x w h s0 s1

/-- a queue that the call made, and what it left alone -/
structure Own (w w' : World) (p : Nat) (pv : Value) (q : Q) : Prop where
  qs : Qs w' p pv q
  n : New w w'
  p0 : w.heap.size ≤ p
  v0 : ∀ g, pv.ownBlock = some g → w.heap.size ≤ g
theorem Own.made {w w' : World} {q : Q} (h : Qs w' w.heap.size (.slice none 0 0) q) (n : New w w') : Own w w' w.heap.size (.slice none 0 0) q :=
  ⟨h, n, Nat.le_refl _, fun g hg => by simp [Value.ownBlock] at hg⟩
theorem Own.foot {w w' : World} {p : Nat} {pv : Value} {q : Q} (h : Own w w' p pv q) {i : Nat} (hi : Foot p pv i) : w.heap.size ≤ i := by
  rcases hi with rfl | hi
  · exact h.p0
  · exact h.v0 i hi
theorem Own.lft {w w1 w2 : World} {p : Nat} {pv : Value} {q q' : Q} (h : Own w w1 p pv q) (h2 : Lft w1 w2 p pv q') : ∃ pv', Own w w2 p pv' q' := by
  obtain ⟨⟨pv', hq, hl⟩, ht⟩ := h2
  refine ⟨pv', hq, h.n.trans (ht.mono (fun i _ hi => .inr (h.foot hi))), h.p0, fun g hg => ?_⟩
  rcases hl with hl | ⟨g', hl, hg'⟩
  · exact h.v0 g (hl ▸ hg)
  · rw [hl] at hg
    injection hg with hg
    have := h.n.size
    omega
theorem Gone.lft {w w1 : World} {p : Nat} {pv v : Value} {q : Q} {D : List It} (h : Gone w w1 p pv q v D) : Lft w w1 p pv q := by
  obtain ⟨pv', hq, he⟩ := h.qs
  exact ⟨⟨pv', hq, .inl he⟩, h.turns⟩
theorem Own.drewN {w w1 : World} {p : Nat} {pv : Value} {q : Q} (h : Own w w1 p pv q) (n : Nat) : Own w (w1.drewN n) p pv q := ⟨h.qs.drewN n, h.n.drewN n, h.p0, h.v0⟩
theorem Own.later {w w1 w2 : World} {p : Nat} {pv : Value} {q : Q} (h : Own w w1 p pv q) (n : New w1 w2) : Own w w2 p pv q := ⟨h.qs.later n, h.n.trans (n.mono (fun _ _ h => h.elim)), h.p0, h.v0⟩
theorem Fresh.later {T : TypeId} {w w1 w2 : World} {v : Value} {l : List It} (h : Fresh T w w1 v l) (n : New w1 w2) : Fresh T w w2 v l := ⟨h.own.turns n (fun _ _ h => h), h.vb⟩

abbrev a1 : It := ⟨1, 0, 0, true⟩
abbrev a2 : It := ⟨2, 0, 0, false⟩
abbrev a3 : It := ⟨3, 0, 0, false⟩

theorem awake (w : World) :
    Calls Try.prog 15 #[] w fun e w' => e = .returned (.bool true) ∧ New w w' := by
  have HN := Lib.hid (new 2 100 w (by decide) (by decide) (by decide) (by decide))
  have hne : (Value.pointer (some ⟨w.heap.size, 0, none⟩) = Value.pointer none) = False := by simp
  go_enter Try.func15, Try.ntmps15
  go_wp2_with fail
  refine HN.out.mono ?_
  rintro e w1 ⟨rfl, q1, n1⟩
  have O1 := Lib.hid (Own.made q1 n1)
  clear HN q1 n1
  generalize w.heap.size = p at *
  go_wp2_with fail
  refine (put_is p _ _ a1 ⟨2, 100, [a1], false⟩ [] true ⟨rfl, rfl, rfl⟩ w1 O1.out.qs (by decide) (by decide)).mono ?_
  rintro e w2 ⟨v2, rfl, h2⟩
  obtain ⟨pv2, o2⟩ := O1.out.lft h2.lft
  have O2 := Lib.hid o2
  clear O1 h2 o2
  go_wp2_with fail
  refine (put_is p pv2 _ a2 ⟨2, 100, [a1, a2], false⟩ [] true ⟨rfl, rfl, rfl⟩ w2 O2.out.qs (by decide) (by decide)).mono ?_
  rintro e w3 ⟨v3, rfl, h3⟩
  obtain ⟨pv3, o3⟩ := O2.out.lft h3.lft
  have O3 := Lib.hid o3
  clear O2 h3 o3
  go_wp2_with fail
  refine (put_is p pv3 _ a3 ⟨2, 100, [], true⟩ [a1, a2] false ⟨rfl, rfl, rfl⟩ w3 O3.out.qs (by decide) (by decide)).mono ?_
  rintro e w4 ⟨v4, rfl, h4⟩
  obtain ⟨pv4, o4⟩ := O3.out.lft h4.lft
  obtain ⟨ao, c, hv4, hc4, hrd, _⟩ := h4.fr.own.form
  rcases hrd with h0 | ⟨g, hg, hgl, hcell⟩
  · cases h0
  subst hg
  have r0 : w4.cell? ⟨g, 0, none⟩ = some (.int .i64 1) := hcell 0 a1 rfl 0 _ rfl
  have HL := Lib.hid (len p pv4 _ w4 o4.qs)
  have HB := Lib.hid (broken p pv4 _ w4 o4.qs)
  have HN4 := Lib.hid o4.n
  have hc4' : 2 ≤ c := hc4
  clear O3 h4 o4 hcell hc4
  subst hv4
  go_wp2_with fail
  refine HL.out.mono ?_
  rintro e w5 ⟨rfl, rfl⟩
  go_wp2_with fail
  refine HB.out.mono ?_
  rintro e w6 ⟨rfl, rfl⟩
  go_wp2
  go_ret
  exact ⟨rfl, HN4.out⟩

end Go.Proofs.Ytcaloeolmoodbaa.que
