/-
  A scalar field of a struct that came in.
-/
import Derived.Test.YtfgfejcnkjeghaaArgs
namespace Go.Proofs.Ytfgfejcnkjeghaa.args
open Go.ChangeShapes Go.WideShapes Go.ChangeAt Go.RowKit Go.Deep
set_option linter.unusedVariables false

section
variable {H : Type} {enc : TypeId × Value → H} {P : Program} {w : World} {base : Nat} {spare : Nat → Bool} {held : Bool}

theorem field_cell {t : TypeId} {fs : Array Field} {fuel : Nat} {cs : List Value} {x : DataW H × List MemPlace} (ht : P.underlying t = some (.struct fs)) (h : DataW.trod enc P w base spare held fuel t cs = some x)
    (j : Nat) (f : Field) (hj : fs[j]? = some f) (o : Nat) (ho : f.offset = o) (hc : P.cellsOf f.type = 1) : ∃ n y, DataW.trod enc P w base spare held n f.type ((cs.drop o).take 1) = some y := by
  obtain ⟨xs, n, _, _, hl, hlen, hf⟩ := DataW.trod_struct ht h
  have := hf j f hj
  rw [ho, hc] at this
  have hjs : j < fs.size := by
    rcases Nat.lt_or_ge j fs.size with h' | h'
    · exact h'
    · simp [Array.getElem?_eq_none h'] at hj
  have hjx : j < xs.length := by omega
  rw [List.getElem?_eq_getElem hjx] at this
  exact ⟨n, _, this⟩
theorem take_one {cs : List Value} {o : Nat} {v : Value} (h : (cs.drop o).take 1 = [v]) : cs[o]? = some v := by
  have h1 : ((cs.drop o).take 1)[0]? = some v := by rw [h]; rfl
  simpa [List.getElem?_take, List.getElem?_drop] using h1
theorem field_int {t : TypeId} {fs : Array Field} {fuel : Nat} {cs : List Value} {x : DataW H × List MemPlace} {k : IntKind} (ht : P.underlying t = some (.struct fs)) (h : DataW.trod enc P w base spare held fuel t cs = some x)
    (j : Nat) (f : Field) (hj : fs[j]? = some f) (o : Nat) (ho : f.offset = o) (hc : P.cellsOf f.type = 1) (hk : P.underlying f.type = some (.int k)) : ∃ z, cs[o]? = some (.int k z) ∧ (Lit.int k z).wf = true := by
  obtain ⟨n, y, hy⟩ := field_cell ht h j f hj o ho hc
  obtain ⟨z, hz, _, hw⟩ := DataW.trod_int hk hy
  exact ⟨z, take_one hz, hw⟩
theorem field_bool {t : TypeId} {fs : Array Field} {fuel : Nat} {cs : List Value} {x : DataW H × List MemPlace} (ht : P.underlying t = some (.struct fs)) (h : DataW.trod enc P w base spare held fuel t cs = some x)
    (j : Nat) (f : Field) (hj : fs[j]? = some f) (o : Nat) (ho : f.offset = o) (hc : P.cellsOf f.type = 1) (hk : P.underlying f.type = some .bool) : ∃ z, cs[o]? = some (.bool z) ∧ True := by
  obtain ⟨n, y, hy⟩ := field_cell ht h j f hj o ho hc
  obtain ⟨z, hz, _⟩ := DataW.trod_bool hk hy
  exact ⟨z, take_one hz, trivial⟩
theorem field_string {t : TypeId} {fs : Array Field} {fuel : Nat} {cs : List Value} {x : DataW H × List MemPlace} (ht : P.underlying t = some (.struct fs)) (h : DataW.trod enc P w base spare held fuel t cs = some x)
    (j : Nat) (f : Field) (hj : fs[j]? = some f) (o : Nat) (ho : f.offset = o) (hc : P.cellsOf f.type = 1) (hk : P.underlying f.type = some .string) : ∃ z : ByteArray, cs[o]? = some (.string z) ∧ z.size ≤ maxLen := by
  obtain ⟨n, y, hy⟩ := field_cell ht h j f hj o ho hc
  obtain ⟨z, hz, _, hw⟩ := DataW.trod_string hk hy
  exact ⟨z, take_one hz, hw⟩
end
end Go.Proofs.Ytfgfejcnkjeghaa.args
