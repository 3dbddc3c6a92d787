/-
  A slice of slices of numbers that came in.
-/
import Derived.Test.YtfdmgloimibioaaArgsCap
namespace Go.Proofs.Ytfdmgloimibioaa.args
open Go.ChangeShapes Go.WideShapes Go.ChangeAt Go.RowKit Go.Deep

structure Sq16 where
  ta : Option Addr
  tn : Nat
  tc : Nat
  tz : Nat → Int
instance : Inhabited Sq16 := ⟨⟨none, 0, 0, fun _ => 0⟩⟩
def sq16Ok (w : World) (z : Sq16) : Prop := IntRow .u16 w z.ta z.tn z.tc z.tz ∧ z.tn ≤ z.tc ∧ z.tc ≤ maxLen
def seqsRow (w : World) (a : Option Addr) (n _c : Nat) (z : Nat → Sq16) : Prop :=
  n ≤ maxLen ∧ (∀ i, i < n → sq16Ok w (z i)) ∧ (n = 0 ∨ ∃ b off, a = some ⟨b, off, none⟩ ∧ b < w.heap.size ∧ ∀ i, i < n → w.cell? ⟨b, off + i, none⟩ = some (.slice (z i).ta (z i).tn (z i).tc))

theorem open_rows_seqs {H : Type} {enc : TypeId × Value → H} {w : World} {a : Option Addr} {n c : Nat} {d : DataW H} {ps : List MemPlace}
    (h : DataW.Trod enc Try.prog w 0 (fun _ => true) true 90 (.slice a n c) d ps) : ∃ z, seqsRow w a n c z := by
  obtain ⟨fuel, hf⟩ := h
  have hC : Try.prog.cellsOf 30 = 1 := by kernel_rfl
  rcases open_slice Try.underlying90 hf with ⟨hcs, _⟩ | ⟨a, len, cap, m, fu, Dd, Pl, hcs, _, hl, hm, hmm, hx, hel⟩
  · simp [Value.cells] at hcs
    obtain ⟨rfl, rfl, rfl⟩ := hcs
    exact ⟨fun _ => ⟨none, 0, 0, fun _ => 0⟩, by simp, fun i hi => by omega, .inl rfl⟩
  · simp [Value.cells] at hcs
    obtain ⟨rfl, rfl, rfl⟩ := hcs
    simp only [if_true] at hmm
    have each : ∀ i, i < m → ∃ z : Sq16, sq16Ok w z ∧ w.cell? (a.add i) = some (.slice z.ta z.tn z.tc) := by
      intro i hi
      obtain ⟨cs', h1, h2⟩ := hel i hi
      rw [hC] at h1
      obtain ⟨_, hlen, hcell⟩ := World.cells?_some h1
      obtain ⟨ta, tn, tc, tz, hv, hz, hc1, hc2⟩ := open_row_cap Try.underlying30 Try.underlying29 (by kernel_rfl) h2
      refine ⟨⟨ta, tn, tc, tz⟩, ⟨hz, hc1, hc2⟩, ?_⟩
      have := hcell 0 (by omega)
      rw [hv] at this
      rw [add_add, Nat.add_zero] at this
      simpa using this
    obtain ⟨z, hz⟩ := choose_lt each
    refine ⟨z, by omega, fun i hi => (hz i (by omega)).1, ?_⟩
    by_cases h0 : n = 0
    · exact .inl h0
    · right
      obtain ⟨b, off, spot⟩ := a
      have hspot : spot = none := by have := (hz 0 (by omega)).2; simpa [Addr.add] using World.cell?_spot this
      subst hspot
      have hb : b < w.heap.size := World.block_lt_of_cell? _ _ (hz 0 (by omega)).2
      refine ⟨b, off, rfl, hb, fun i hi => ?_⟩
      have := (hz i (by omega)).2
      simp only [add_plain] at this
      exact this
end Go.Proofs.Ytfdmgloimibioaa.args
