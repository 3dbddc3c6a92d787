/-
  A slice of booleans that came in.
-/
import Derived.Test.YtfhbcdjbfjoknaaFields
namespace Go.Proofs.Ytfhbcdjbfjoknaa.args
open Go.ChangeShapes Go.WideShapes Go.ChangeAt Go.RowKit Go.Deep

/-- a slice of booleans that can be read -/
def BoolsAt (w : World) (a : Option Addr) (n : Nat) (z : Nat → Bool) : Prop :=
  n ≤ maxLen ∧ (n = 0 ∨ ∃ b off, a = some ⟨b, off, none⟩ ∧ b < w.heap.size ∧ ∀ i, i < n → w.cell? ⟨b, off + i, none⟩ = some (.bool (z i)))
theorem bools_at {H : Type} {enc : TypeId × Value → H} {w : World} {t e : TypeId} {fuel : Nat} {cs : List Value} {y : DataW H × List MemPlace} (hu : Try.prog.underlying t = some (.slice e)) (he : Try.prog.underlying e = some .bool) (hC : Try.prog.cellsOf e = 1)
    (h : DataW.trod enc Try.prog w 0 (fun _ => true) true fuel t cs = some y) : ∃ a n c z, cs = [.slice a n c] ∧ BoolsAt w a n z := by
  have lt : ∀ x ∈ y.2, x.block < w.heap.size := DataW.trod_lt fuel _ _ _ h
  rcases open_slice hu h with ⟨hcs, _⟩ | ⟨a, len, cap, m, fu, Dd, Pl, hcs, _, hl, hm, hmm, hx, hel⟩
  · exact ⟨none, 0, 0, fun _ => false, hcs, Nat.zero_le _, .inl rfl⟩
  · simp only [if_true] at hmm
    have each : ∀ i, i < m → ∃ z : Bool, True ∧ w.cell? (a.add i) = some (.bool z) := by
      intro i hi
      obtain ⟨cs', h1, h2⟩ := hel i hi
      rw [hC] at h1
      obtain ⟨_, hlen, hcell⟩ := World.cells?_some h1
      obtain ⟨z, hz, _⟩ := DataW.trod_bool he h2
      refine ⟨z, trivial, ?_⟩
      have := hcell 0 (by omega)
      rw [hz] at this
      rw [add_add, Nat.add_zero] at this
      simpa using this
    obtain ⟨z, hz⟩ := choose_lt each
    refine ⟨some a, len, cap, z, hcs, by omega, ?_⟩
    by_cases h0 : len = 0
    · exact .inl h0
    · right
      obtain ⟨b, off, spot⟩ := a
      have hspot : spot = none := by have := (hz 0 (by omega)).2; simpa [Addr.add] using World.cell?_spot this
      subst hspot
      have hb : b < w.heap.size := by
        have := (hz 0 (by omega)).2
        exact World.block_lt_of_cell? _ _ this
      refine ⟨b, off, rfl, hb, fun i hi => ?_⟩
      have := (hz i (by omega)).2
      simp only [add_plain] at this
      exact this

theorem open_bools {H : Type} {enc : TypeId × Value → H} {w : World} {t e : TypeId} {a : Option Addr} {n c : Nat} {d : DataW H} {ps : List MemPlace}
    (hu : Try.prog.underlying t = some (.slice e)) (he : Try.prog.underlying e = some .bool) (hC : Try.prog.cellsOf e = 1)
    (h : DataW.Trod enc Try.prog w 0 (fun _ => true) true t (.slice a n c) d ps) : ∃ z, BoolsAt w a n z := by
  obtain ⟨fuel, hf⟩ := h
  obtain ⟨a', n', c', z, hcs, hz⟩ := bools_at hu he hC hf
  simp [Value.cells] at hcs
  obtain ⟨rfl, rfl, rfl⟩ := hcs
  exact ⟨z, hz⟩
end Go.Proofs.Ytfhbcdjbfjoknaa.args
