/-
  A slice of antiphonlaw15.Act that came in: each has a slice of strings.
-/
import Derived.Test.YtijpgkkhjjpjoaaFields
namespace Go.Proofs.Ytijpgkkhjjpjoaa.args
open Go.ChangeShapes Go.WideShapes Go.ChangeAt Go.RowKit Go.Deep

/-- a slice of strings that can be read -/
def StrsAt (w : World) (a : Option Addr) (n : Nat) (z : Nat → ByteArray) : Prop :=
  n ≤ maxLen ∧ (∀ i, i < n → (z i).size ≤ maxLen) ∧ (n = 0 ∨ ∃ b off, a = some ⟨b, off, none⟩ ∧ b < w.heap.size ∧ ∀ i, i < n → w.cell? ⟨b, off + i, none⟩ = some (.string (z i)))
structure Wact where
  src : Int
  lat : Int
  back : Bool
  ta : Option Addr
  tn : Nat
  tc : Nat
  tz : Nat → ByteArray
instance : Inhabited Wact := ⟨⟨0, 0, false, none, 0, 0, fun _ => ⟨#[]⟩⟩⟩
abbrev Wact.cs (z : Wact) : Array Value := #[.int .i64 z.src, .int .i64 z.lat, .bool z.back, .slice z.ta z.tn z.tc]
def wactOk (w : World) (z : Wact) : Prop := (Lit.int .i64 z.src).wf = true ∧ (Lit.int .i64 z.lat).wf = true ∧ StrsAt w z.ta z.tn z.tz
def wactRow (w : World) (a : Option Addr) (n _c : Nat) (z : Nat → Wact) : Prop :=
  n ≤ maxLen ∧ (∀ i, i < n → wactOk w (z i)) ∧ (n = 0 ∨ ∃ b off, a = some ⟨b, off, none⟩ ∧ b < w.heap.size ∧ ∀ i, i < n → w.cell? ⟨b, off + i * 4, none⟩ = some (.int .i64 (z i).src) ∧ w.cell? ⟨b, off + i * 4 + 1, none⟩ = some (.int .i64 (z i).lat) ∧ w.cell? ⟨b, off + i * 4 + 2, none⟩ = some (.bool (z i).back) ∧ w.cell? ⟨b, off + i * 4 + 3, none⟩ = some (.slice (z i).ta (z i).tn (z i).tc))

theorem strs_at {H : Type} {enc : TypeId × Value → H} {w : World} {t e : TypeId} {fuel : Nat} {cs : List Value} {y : DataW H × List MemPlace} (hu : Try.prog.underlying t = some (.slice e)) (he : Try.prog.underlying e = some .string) (hC : Try.prog.cellsOf e = 1)
    (h : DataW.trod enc Try.prog w 0 (fun _ => true) true fuel t cs = some y) : ∃ a n c z, cs = [.slice a n c] ∧ StrsAt w a n z := by
  have lt : ∀ x ∈ y.2, x.block < w.heap.size := DataW.trod_lt fuel _ _ _ h
  rcases open_slice hu h with ⟨hcs, _⟩ | ⟨a, len, cap, m, fu, Dd, Pl, hcs, _, hl, hm, hmm, hx, hel⟩
  · exact ⟨none, 0, 0, fun _ => ⟨#[]⟩, hcs, Nat.zero_le _, fun i hi => by omega, .inl rfl⟩
  · simp only [if_true] at hmm
    have each : ∀ i, i < m → ∃ z : ByteArray, z.size ≤ maxLen ∧ w.cell? (a.add i) = some (.string z) := by
      intro i hi
      obtain ⟨cs', h1, h2⟩ := hel i hi
      rw [hC] at h1
      obtain ⟨_, hlen, hcell⟩ := World.cells?_some h1
      obtain ⟨z, hz, _, hw⟩ := DataW.trod_string he h2
      refine ⟨z, hw, ?_⟩
      have := hcell 0 (by omega)
      rw [hz] at this
      rw [add_add, Nat.add_zero] at this
      simpa using this
    obtain ⟨z, hz⟩ := choose_lt each
    refine ⟨some a, len, cap, z, hcs, by omega, fun i hi => (hz i (by omega)).1, ?_⟩
    by_cases h0 : len = 0
    · exact .inl h0
    · right
      obtain ⟨b, off, spot⟩ := a
      have hspot : spot = none := by have := (hz 0 (by omega)).2; simpa [Addr.add] using World.cell?_spot this
      subst hspot
      have hb : b < w.heap.size := by
        have := (hz 0 (by omega)).2
        exact World.block_lt_of_cell? _ _ this
      refine ⟨b, off, rfl, hb, fun i hi => ?_⟩
      have := (hz i (by omega)).2
      simp only [add_plain] at this
      exact this

theorem open_rows_wact {H : Type} {enc : TypeId × Value → H} {w : World} {a : Option Addr} {n c : Nat} {d : DataW H} {ps : List MemPlace}
    (h : DataW.Trod enc Try.prog w 0 (fun _ => true) true 24 (.slice a n c) d ps) : ∃ z, wactRow w a n c z := by
  have lt : ∀ x ∈ ps, x.block < w.heap.size := by obtain ⟨m, hm⟩ := h; exact DataW.trod_lt m _ _ _ hm
  obtain ⟨fuel, hf⟩ := h
  have hC : Try.prog.cellsOf 32 = 4 := by kernel_rfl
  rcases open_slice Try.underlying24 hf with ⟨hcs, _⟩ | ⟨a, len, cap, m, fu, Dd, Pl, hcs, _, hl, hm, hmm, hx, hel⟩
  · simp [Value.cells] at hcs
    obtain ⟨rfl, rfl, rfl⟩ := hcs
    exact ⟨fun _ => ⟨0, 0, false, none, 0, 0, fun _ => ⟨#[]⟩⟩, by simp, fun i hi => by omega, .inl rfl⟩
  · simp [Value.cells] at hcs
    obtain ⟨rfl, rfl, rfl⟩ := hcs
    simp only [if_true] at hmm
    have each : ∀ i, i < m → ∃ z : Wact, wactOk w z ∧ w.cell? (a.add (i * 4 + 0)) = some (.int .i64 z.src) ∧ w.cell? (a.add (i * 4 + 1)) = some (.int .i64 z.lat) ∧ w.cell? (a.add (i * 4 + 2)) = some (.bool z.back) ∧ w.cell? (a.add (i * 4 + 3)) = some (.slice z.ta z.tn z.tc) := by
      intro i hi
      obtain ⟨cs', h1, h2⟩ := hel i hi
      rw [hC] at h1
      obtain ⟨_, hlen, hcell⟩ := World.cells?_some h1
      have cellOf : ∀ (j : Nat) (v : Value), cs'[j]? = some v → w.cell? (a.add (i * 4 + j)) = some v := fun j v hj => by
        have hlt : j < 4 := by have := (List.getElem?_eq_some_iff.1 hj).1; omega
        rw [← add_add, hcell j hlt]; exact hj
      obtain ⟨x0, hx0, hw0⟩ := field_int Try.underlying32 h2 0 _ rfl 0 rfl (by kernel_rfl) Try.underlying3
      obtain ⟨x1, hx1, hw1⟩ := field_int Try.underlying32 h2 1 _ rfl 1 rfl (by kernel_rfl) Try.underlying3
      obtain ⟨x2, hx2, hw2⟩ := field_bool Try.underlying32 h2 2 _ rfl 2 rfl (by kernel_rfl) Try.underlying4
      obtain ⟨n3, y3, hy3⟩ := field_cell Try.underlying32 h2 3 _ rfl 3 rfl (by kernel_rfl)
      obtain ⟨ta, tn, tc, tz, hv3, hw3⟩ := strs_at Try.underlying30 Try.underlying9 (by kernel_rfl) hy3
      exact ⟨⟨x0, x1, x2, ta, tn, tc, tz⟩, ⟨hw0, hw1, hw3⟩, cellOf 0 _ hx0, cellOf 1 _ hx1, cellOf 2 _ hx2, cellOf 3 _ (take_one hv3)⟩
    obtain ⟨z, hz⟩ := choose_lt each
    refine ⟨z, by omega, fun i hi => (hz i (by omega)).1, ?_⟩
    by_cases h0 : n = 0
    · exact .inl h0
    · right
      obtain ⟨b, off, spot⟩ := a
      have hspot : spot = none := by have := (hz 0 (by omega)).2.1; simpa [Addr.add] using World.cell?_spot this
      subst hspot
      simp only [Prod.mk.injEq] at hx
      have hb : b < w.heap.size := World.block_lt_of_cell? _ _ (hz 0 (by omega)).2.1
      refine ⟨b, off, rfl, hb, fun i hi => ?_⟩
      have := (hz i (by omega)).2
      simp only [add_plain] at this
      exact this
end Go.Proofs.Ytijpgkkhjjpjoaa.args
