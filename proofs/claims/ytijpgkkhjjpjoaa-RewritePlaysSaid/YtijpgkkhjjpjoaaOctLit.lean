/-
  octet.Writer's calls at arguments that the caller writes out.
-/
import Derived.Test.YtijpgkkhjjpjoaaOctNum
import Derived.Test.YtijpgkkhjjpjoaaOctAwake
import Derived.Deep.Slices
namespace Go.Proofs.Ytijpgkkhjjpjoaa.wr
open Go.RowKit mem
set_option linter.unusedVariables false

theorem list_cell {w : World} {p : Nat} {t : TypeId} {l : List Int} {k : IntKind} (h : Blk w p (l.map (Value.int k)).toArray t) (i : Nat) (hi : i < l.length) : w.cell? ⟨p, i, none⟩ = some (.int k (l.getD i 0)) := by
  rw [h.cell i]
  simp [List.getD, hi]
theorem flat_list (N : Nat) (l : List Int) : ((List.range l.length).flatMap fun i => be N (l.getD i 0)) = l.flatMap (be N) := by
  rw [Deep.flatMap_by_index l 0 (be N)]

theorem nums_lit {w wr : World} {p : Nat} {q : Option Nat} {ys : List UInt8} (h : Wrote w wr p q ys) (n : Int) (N : Nat) (hN : rd.lim n = (N : Int)) (l : List Int) (hl : ∀ x ∈ l, 0 ≤ x ∧ x ≤ 18446744073709551615) (hmax : ys.length + 8 * l.length ≤ 140737488355328) (B : Nat) (hB : wr.heap.size = B) :
    Calls Try.prog 65 #[.pointer (some ⟨p, 0, none⟩), .int .i64 n, .slice (some ⟨B, 0, none⟩) l.length l.length] (wr.alloc (.cells (l.map (Value.int .u64)).toArray 97))
      fun en w' => en = .returned (.pointer (some ⟨p, 0, none⟩)) ∧ Wrote w w' p q (ys ++ l.flatMap (be N)) := by
  subst hB
  obtain ⟨q1, hw1, hqp, hpl, hql, hwa, _, hst⟩ := Wrote.call h
  refine (num p q1 ys n N hN wr.heap.size l.length l.length (fun i => l.getD i 0) _ (hwa _) (fun i hi => list_cell (Blk.new wr _ _) i hi) (fun i hi => ?_) (by simp) (by omega) (fun e => by have := hql _ e; omega) hmax).mono ?_
  · have : l.getD i 0 ∈ l := by simp [List.getD, List.getElem?_eq_getElem hi]
    exact hl _ this
  · rintro e w' ⟨rfl, hw⟩
    rw [flat_list] at hw
    exact ⟨rfl, hst _ _ _ hw⟩

theorem wr_bytes (l : List UInt8) : (l.map b8) = (l.map fun u => Value.int .u8 (u.toNat : Int)) := rfl

theorem u8s_lit {w wr : World} {p : Nat} {q : Option Nat} {ys : List UInt8} (h : Wrote w wr p q ys) (l : List UInt8) (hpos : 0 < l.length) (hmax : ys.length + l.length ≤ 140737488355328) (B : Nat) (hB : wr.heap.size = B) :
    Calls Try.prog 60 #[.pointer (some ⟨p, 0, none⟩), .slice (some ⟨B, 0, none⟩) l.length l.length] (wr.alloc (.cells (l.map b8).toArray 5))
      fun en w' => en = .returned (.pointer (some ⟨p, 0, none⟩)) ∧ Wrote w w' p q (ys ++ l) := by
  subst hB
  obtain ⟨q1, hw1, hqp, hpl, hql, hwa, _, hst⟩ := Wrote.call h
  refine (u8 p q1 ys l wr.heap.size l.length _ (hwa _) (Blk.new wr _ _) hpos hmax).mono ?_
  rintro e w' ⟨rfl, hw⟩
  exact ⟨rfl, hst _ _ _ hw⟩
/-- one number of one byte -/
theorem u8_lit {w wr : World} {p : Nat} {q : Option Nat} {ys : List UInt8} (h : Wrote w wr p q ys) (x : Int) (hx : 0 ≤ x) (hx' : x ≤ 255) (hmax : ys.length + 1 ≤ 140737488355328) (B : Nat) (hB : wr.heap.size = B) :
    Calls Try.prog 60 #[.pointer (some ⟨p, 0, none⟩), .slice (some ⟨B, 0, none⟩) 1 1] (wr.alloc (.cells #[.int .u8 x] 5))
      fun en w' => en = .returned (.pointer (some ⟨p, 0, none⟩)) ∧ Wrote w w' p q (ys ++ be 1 x) := by
  have e1 : b8 (byteOf x) = .int .u8 x := by unfold b8; rw [byteOf_toNat]; rw [show x % 256 = x from by omega]
  have e2 : be 1 x = [byteOf x] := by simp [be]
  have := u8s_lit h [byteOf x] (by simp) (by simpa using hmax) B hB
  simp only [List.map_cons, List.map_nil, e1] at this
  rw [e2]
  exact this

theorem u16s_lit {w wr : World} {p : Nat} {q : Option Nat} {ys : List UInt8} (h : Wrote w wr p q ys) (l : List Int) (hl : ∀ x ∈ l, 0 ≤ x ∧ x ≤ 65535) (hmax : ys.length + 8 * l.length ≤ 140737488355328) (B : Nat) (hB : wr.heap.size = B) :
    Calls Try.prog 64 #[.pointer (some ⟨p, 0, none⟩), .slice (some ⟨B, 0, none⟩) l.length l.length] (wr.alloc (.cells (l.map (Value.int .u16)).toArray 23))
      fun en w' => en = .returned (.pointer (some ⟨p, 0, none⟩)) ∧ Wrote w w' p q (ys ++ l.flatMap (be 2)) := by
  subst hB
  obtain ⟨q1, hw1, hqp, hpl, hql, hwa, _, hst⟩ := Wrote.call h
  refine (u16 p q1 ys wr.heap.size l.length l.length (fun i => l.getD i 0) _ (hwa _) (fun i hi => list_cell (Blk.new wr _ _) i hi) (fun i hi => ?_) (by simp) (by omega) (fun e => by have := hql _ e; omega) hmax).mono ?_
  · have : l.getD i 0 ∈ l := by simp [List.getD, List.getElem?_eq_getElem hi]
    exact hl _ this
  · rintro e w' ⟨rfl, hw⟩
    rw [flat_list] at hw
    exact ⟨rfl, hst _ _ _ hw⟩
theorem u16_lit {w wr : World} {p : Nat} {q : Option Nat} {ys : List UInt8} (h : Wrote w wr p q ys) (x : Int) (hx : 0 ≤ x) (hx' : x ≤ 65535) (hmax : ys.length + 8 ≤ 140737488355328) (B : Nat) (hB : wr.heap.size = B) :
    Calls Try.prog 64 #[.pointer (some ⟨p, 0, none⟩), .slice (some ⟨B, 0, none⟩) 1 1] (wr.alloc (.cells #[.int .u16 x] 23))
      fun en w' => en = .returned (.pointer (some ⟨p, 0, none⟩)) ∧ Wrote w w' p q (ys ++ be 2 x) := by
  have := u16s_lit h [x] (by simp; omega) (by simpa using hmax) B hB
  simp only [List.flatMap_cons, List.flatMap_nil, List.append_nil] at this
  exact this
end Go.Proofs.Ytijpgkkhjjpjoaa.wr
