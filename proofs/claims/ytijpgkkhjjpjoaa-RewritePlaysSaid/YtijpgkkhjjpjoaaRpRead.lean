/-
  rtp.Parse: what it reads.
-/
import Derived.Test.YtijpgkkhjjpjoaaRpPure
import Derived.Test.YtijpgkkhjjpjoaaVpRead
import Derived.Outline
namespace Go.Proofs.Ytijpgkkhjjpjoaa.rp
open Go.RowKit mem rd oref sq
set_option linter.unusedVariables false

abbrev PT : TypeId := 48
abbrev U4 : TypeId := 22

section
variable {w : World} {p : Nat} {d : P} {v : Value} {t : TypeId} (h : Blk w p (pc d v) t)
include h
theorem pc5 : w.cell? ⟨p, 5, none⟩ = some v := h.cell 5
theorem pc6 : w.cell? ⟨p, 6, none⟩ = some (.bool d.ext) := h.cell 6
theorem pc7 : w.cell? ⟨p, 7, none⟩ = some (.int .u16 d.prof) := h.cell 7
theorem pc8 : w.cell? ⟨p, 8, none⟩ = some (.string d.data) := h.cell 8
theorem pc9 : w.cell? ⟨p, 9, none⟩ = some (.string d.pay) := h.cell 9
theorem pc10 : w.cell? ⟨p, 10, none⟩ = some (.int .i64 d.pad) := h.cell 10
theorem ps5 (x : Value) : Blk (w.setCell ⟨p, 5, none⟩ x) p (pc d x) t := h.set 5 _
theorem ps6 (x : Bool) : Blk (w.setCell ⟨p, 6, none⟩ (.bool x)) p (pc { d with ext := x } v) t := h.set 6 _
theorem ps7 (x : Int) : Blk (w.setCell ⟨p, 7, none⟩ (.int .u16 x)) p (pc { d with prof := x } v) t := h.set 7 _
theorem ps8 (x : ByteArray) : Blk (w.setCell ⟨p, 8, none⟩ (.string x)) p (pc { d with data := x } v) t := h.set 8 _
theorem ps9 (x : ByteArray) : Blk (w.setCell ⟨p, 9, none⟩ (.string x)) p (pc { d with pay := x } v) t := h.set 9 _
theorem ps10 (x : Int) : Blk (w.setCell ⟨p, 10, none⟩ (.int .i64 x)) p (pc { d with pad := x } v) t := h.set 10 _
end

/-- a packet at pd, a reader at pr; nothing else has turned -/
def Both (w w' : World) (pd pr : Nat) (d : P) (v : Value) (s : St) : Prop := Blk w' pd (pc d v) PT ∧ Rs w' pr s ∧ Turns (fun k => k = pd ∨ k = pr) w w'


theorem isEmpty_nil {s : ByteArray} (h : s.data.toList = []) : s.toList.isEmpty = true := by rw [toList_eq, h]; rfl
theorem isEmpty_cons {s : ByteArray} (h : s.data.toList ≠ []) : s.toList.isEmpty = false := by
  rw [toList_eq]
  cases h2 : s.data.toList with
  | nil => exact absurd h2 h
  | cons a b => rfl

theorem last_bt (l : List UInt8) (h : l ≠ []) : bt ⟨l.toArray⟩ (l.length - 1) = lastB l := by
  unfold bt lastB
  have hl : 0 < l.length := List.length_pos_iff.2 h
  rw [dif_pos (show l.length - 1 < (⟨l.toArray⟩ : ByteArray).size by show l.length - 1 < l.length; omega)]
  rw [List.getLast?_eq_getElem?, List.getElem?_eq_getElem (by omega)]
  rfl


/-- what splitPadding leaves -/
def spP (p : P) (l : List UInt8) : P := { p with pay := lst (l.take (l.length - (pdN l).toNat)), pad := pdN l }

end Go.Proofs.Ytijpgkkhjjpjoaa.rp
