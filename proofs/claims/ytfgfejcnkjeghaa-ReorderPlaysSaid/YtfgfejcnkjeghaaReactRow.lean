/-
  A slice of antiphonlaw09.Act that came in.
-/
import Derived.Test.YtfgfejcnkjeghaaFields
namespace Go.Proofs.Ytfgfejcnkjeghaa.args
open Go.ChangeShapes Go.WideShapes Go.ChangeAt Go.RowKit Go.Deep

def reactOk (z : Int × Int × ByteArray) : Prop := (Lit.int .i64 z.1).wf = true ∧ (Lit.int .i64 z.2.1).wf = true ∧ z.2.2.size ≤ maxLen
/-- n elements z 0, z 1, .. -/
def reactRow (w : World) (a : Option Addr) (n c : Nat) (z : Nat → Int × Int × ByteArray) : Prop :=
  n ≤ maxLen ∧ (∀ i, i < n → reactOk (z i)) ∧ (n = 0 ∨ ∃ b off, a = some ⟨b, off, none⟩ ∧ b < w.heap.size ∧ ∀ i, i < n → w.cell? ⟨b, off + i * 3, none⟩ = some (.int .i64 (z i).1) ∧ w.cell? ⟨b, off + i * 3 + 1, none⟩ = some (.int .i64 (z i).2.1) ∧ w.cell? ⟨b, off + i * 3 + 2, none⟩ = some (.string (z i).2.2))

theorem open_rows_react {H : Type} {enc : TypeId × Value → H} {w : World} {a : Option Addr} {n c : Nat} {d : DataW H} {ps : List MemPlace}
    (h : DataW.Trod enc Try.prog w 0 (fun _ => true) true 22 (.slice a n c) d ps) : ∃ z, reactRow w a n c z := by
  have lt : ∀ x ∈ ps, x.block < w.heap.size := by obtain ⟨m, hm⟩ := h; exact DataW.trod_lt m _ _ _ hm
  obtain ⟨fuel, hf⟩ := h
  have hC : Try.prog.cellsOf 35 = 3 := by kernel_rfl
  rcases open_slice Try.underlying22 hf with ⟨hcs, _⟩ | ⟨a, len, cap, m, fu, Dd, Pl, hcs, _, hl, hm, hmm, hx, hel⟩
  · simp [Value.cells] at hcs
    obtain ⟨rfl, rfl, rfl⟩ := hcs
    exact ⟨fun _ => (0, 0, ByteArray.empty), by simp, fun i hi => by omega, .inl rfl⟩
  · simp [Value.cells] at hcs
    obtain ⟨rfl, rfl, rfl⟩ := hcs
    simp only [if_true] at hmm
    have each : ∀ i, i < m → ∃ z : Int × Int × ByteArray, reactOk z ∧ w.cell? (a.add (i * 3 + 0)) = some (.int .i64 z.1) ∧ w.cell? (a.add (i * 3 + 1)) = some (.int .i64 z.2.1) ∧ w.cell? (a.add (i * 3 + 2)) = some (.string z.2.2) := by
      intro i hi
      obtain ⟨cs', h1, h2⟩ := hel i hi
      rw [hC] at h1
      obtain ⟨_, hlen, hcell⟩ := World.cells?_some h1
      have cellOf : ∀ (j : Nat) (v : Value), cs'[j]? = some v → w.cell? (a.add (i * 3 + j)) = some v := fun j v hj => by
        have hlt : j < 3 := by have := (List.getElem?_eq_some_iff.1 hj).1; omega
        rw [← add_add, hcell j hlt]; exact hj
      obtain ⟨x0, hx0, hw0⟩ := field_int Try.underlying35 h2 0 _ rfl 0 rfl (by kernel_rfl) Try.underlying3
      obtain ⟨x1, hx1, hw1⟩ := field_int Try.underlying35 h2 1 _ rfl 1 rfl (by kernel_rfl) Try.underlying3
      obtain ⟨x2, hx2, hw2⟩ := field_string Try.underlying35 h2 2 _ rfl 2 rfl (by kernel_rfl) Try.underlying9
      exact ⟨(x0, x1, x2), ⟨hw0, hw1, hw2⟩, cellOf 0 _ hx0, cellOf 1 _ hx1, cellOf 2 _ hx2⟩
    obtain ⟨z, hz⟩ := choose_lt each
    refine ⟨z, by omega, fun i hi => (hz i (by omega)).1, ?_⟩
    by_cases h0 : n = 0
    · exact .inl h0
    · right
      obtain ⟨b, off, spot⟩ := a
      have hspot : spot = none := by have := (hz 0 (by omega)).2.1; simpa [Addr.add] using World.cell?_spot this
      subst hspot
      simp only [Prod.mk.injEq] at hx
      have hb : b < w.heap.size := lt (.cell b off) (by rw [hx.2]; exact List.mem_append_left _ (MemPlace.mem_row.2 ⟨0, by rw [hC]; omega, by simp⟩))
      refine ⟨b, off, rfl, hb, fun i hi => ?_⟩
      have := (hz i (by omega)).2
      simp only [add_plain] at this
      exact this
end Go.Proofs.Ytfgfejcnkjeghaa.args
