/-
  octet.Writer's calls at arguments that the caller writes out.
-/
import Derived.Test.YtcppibjllaablaaGreatOctNum
import Derived.Test.YtcppibjllaablaaGreatOctAwake
import Derived.Deep.Slices
namespace Go.Proofs.YtcppibjllaablaaGreat.wr
open Go.RowKit mem
set_option linter.unusedVariables false

theorem list_cell {w : World} {p : Nat} {t : TypeId} {l : List Int} {k : IntKind} (h : Blk w p (l.map (Value.int k)).toArray t) (i : Nat) (hi : i < l.length) : w.cell? ⟨p, i, none⟩ = some (.int k (l.getD i 0)) := by
  rw [h.cell i]
  simp [List.getD, hi]
theorem flat_list (N : Nat) (l : List Int) : ((List.range l.length).flatMap fun i => be N (l.getD i 0)) = l.flatMap (be N) := by
  rw [Deep.flatMap_by_index l 0 (be N)]

theorem nums_lit {w wr : World} {p : Nat} {q : Option Nat} {ys : List UInt8} (h : Wrote w wr p q ys) (n : Int) (N : Nat) (hN : rd.lim n = (N : Int)) (l : List Int) (hl : ∀ x ∈ l, 0 ≤ x ∧ x ≤ 18446744073709551615) (hmax : ys.length + 8 * l.length ≤ 140737488355328) (B : Nat) (hB : wr.heap.size = B) :
    Calls Tryz.prog 85 #[.pointer (some ⟨p, 0, none⟩), .int .i64 n, .slice (some ⟨B, 0, none⟩) l.length l.length] (wr.alloc (.cells (l.map (Value.int .u64)).toArray 183))
      fun en w' => en = .returned (.pointer (some ⟨p, 0, none⟩)) ∧ Wrote w w' p q (ys ++ l.flatMap (be N)) := by
  subst hB
  obtain ⟨q1, hw1, hqp, hpl, hql, hwa, _, hst⟩ := Wrote.call h
  refine (num p q1 ys n N hN wr.heap.size l.length l.length (fun i => l.getD i 0) _ (hwa _) (fun i hi => list_cell (Blk.new wr _ _) i hi) (fun i hi => ?_) (by simp) (by omega) (fun e => by have := hql _ e; omega) hmax).mono ?_
  · have : l.getD i 0 ∈ l := by simp [List.getD, List.getElem?_eq_getElem hi]
    exact hl _ this
  · rintro e w' ⟨rfl, hw⟩
    rw [flat_list] at hw
    exact ⟨rfl, hst _ _ _ hw⟩

theorem wr_bytes (l : List UInt8) : (l.map b8) = (l.map fun u => Value.int .u8 (u.toNat : Int)) := rfl

theorem u8s_lit {w wr : World} {p : Nat} {q : Option Nat} {ys : List UInt8} (h : Wrote w wr p q ys) (l : List UInt8) (hpos : 0 < l.length) (hmax : ys.length + l.length ≤ 140737488355328) (B : Nat) (hB : wr.heap.size = B) :
    Calls Tryz.prog 50 #[.pointer (some ⟨p, 0, none⟩), .slice (some ⟨B, 0, none⟩) l.length l.length] (wr.alloc (.cells (l.map b8).toArray 5))
      fun en w' => en = .returned (.pointer (some ⟨p, 0, none⟩)) ∧ Wrote w w' p q (ys ++ l) := by
  subst hB
  obtain ⟨q1, hw1, hqp, hpl, hql, hwa, _, hst⟩ := Wrote.call h
  refine (u8 p q1 ys l wr.heap.size l.length _ (hwa _) (Blk.new wr _ _) hpos hmax).mono ?_
  rintro e w' ⟨rfl, hw⟩
  exact ⟨rfl, hst _ _ _ hw⟩
/-- one number of one byte -/
theorem u8_lit {w wr : World} {p : Nat} {q : Option Nat} {ys : List UInt8} (h : Wrote w wr p q ys) (x : Int) (hx : 0 ≤ x) (hx' : x ≤ 255) (hmax : ys.length + 1 ≤ 140737488355328) (B : Nat) (hB : wr.heap.size = B) :
    Calls Tryz.prog 50 #[.pointer (some ⟨p, 0, none⟩), .slice (some ⟨B, 0, none⟩) 1 1] (wr.alloc (.cells #[.int .u8 x] 5))
      fun en w' => en = .returned (.pointer (some ⟨p, 0, none⟩)) ∧ Wrote w w' p q (ys ++ be 1 x) := by
  have e1 : b8 (byteOf x) = .int .u8 x := by unfold b8; rw [byteOf_toNat]; rw [show x % 256 = x from by omega]
  have e2 : be 1 x = [byteOf x] := by simp [be]
  have := u8s_lit h [byteOf x] (by simp) (by simpa using hmax) B hB
  simp only [List.map_cons, List.map_nil, e1] at this
  rw [e2]
  exact this

theorem u16s_lit {w wr : World} {p : Nat} {q : Option Nat} {ys : List UInt8} (h : Wrote w wr p q ys) (l : List Int) (hl : ∀ x ∈ l, 0 ≤ x ∧ x ≤ 65535) (hmax : ys.length + 8 * l.length ≤ 140737488355328) (B : Nat) (hB : wr.heap.size = B) :
    Calls Tryz.prog 53 #[.pointer (some ⟨p, 0, none⟩), .slice (some ⟨B, 0, none⟩) l.length l.length] (wr.alloc (.cells (l.map (Value.int .u16)).toArray 71))
      fun en w' => en = .returned (.pointer (some ⟨p, 0, none⟩)) ∧ Wrote w w' p q (ys ++ l.flatMap (be 2)) := by
  subst hB
  obtain ⟨q1, hw1, hqp, hpl, hql, hwa, _, hst⟩ := Wrote.call h
  refine (u16 p q1 ys wr.heap.size l.length l.length (fun i => l.getD i 0) _ (hwa _) (fun i hi => list_cell (Blk.new wr _ _) i hi) (fun i hi => ?_) (by simp) (by omega) (fun e => by have := hql _ e; omega) hmax).mono ?_
  · have : l.getD i 0 ∈ l := by simp [List.getD, List.getElem?_eq_getElem hi]
    exact hl _ this
  · rintro e w' ⟨rfl, hw⟩
    rw [flat_list] at hw
    exact ⟨rfl, hst _ _ _ hw⟩
theorem u16_lit {w wr : World} {p : Nat} {q : Option Nat} {ys : List UInt8} (h : Wrote w wr p q ys) (x : Int) (hx : 0 ≤ x) (hx' : x ≤ 65535) (hmax : ys.length + 8 ≤ 140737488355328) (B : Nat) (hB : wr.heap.size = B) :
    Calls Tryz.prog 53 #[.pointer (some ⟨p, 0, none⟩), .slice (some ⟨B, 0, none⟩) 1 1] (wr.alloc (.cells #[.int .u16 x] 71))
      fun en w' => en = .returned (.pointer (some ⟨p, 0, none⟩)) ∧ Wrote w w' p q (ys ++ be 2 x) := by
  have := u16s_lit h [x] (by simp; omega) (by simpa using hmax) B hB
  simp only [List.flatMap_cons, List.flatMap_nil, List.append_nil] at this
  exact this
theorem u32s_lit {w wr : World} {p : Nat} {q : Option Nat} {ys : List UInt8} (h : Wrote w wr p q ys) (l : List Int) (hl : ∀ x ∈ l, 0 ≤ x ∧ x ≤ 4294967295) (hmax : ys.length + 8 * l.length ≤ 140737488355328) (B : Nat) (hB : wr.heap.size = B) :
    Calls Tryz.prog 54 #[.pointer (some ⟨p, 0, none⟩), .slice (some ⟨B, 0, none⟩) l.length l.length] (wr.alloc (.cells (l.map (Value.int .u32)).toArray 72))
      fun en w' => en = .returned (.pointer (some ⟨p, 0, none⟩)) ∧ Wrote w w' p q (ys ++ l.flatMap (be 4)) := by
  subst hB
  obtain ⟨q1, hw1, hqp, hpl, hql, hwa, _, hst⟩ := Wrote.call h
  refine (u32 p q1 ys wr.heap.size l.length l.length (fun i => l.getD i 0) _ (hwa _) (fun i hi => list_cell (Blk.new wr _ _) i hi) (fun i hi => ?_) (by simp) (by omega) (fun e => by have := hql _ e; omega) hmax).mono ?_
  · have : l.getD i 0 ∈ l := by simp [List.getD, List.getElem?_eq_getElem hi]
    exact hl _ this
  · rintro e w' ⟨rfl, hw⟩
    rw [flat_list] at hw
    exact ⟨rfl, hst _ _ _ hw⟩
theorem u32_lit {w wr : World} {p : Nat} {q : Option Nat} {ys : List UInt8} (h : Wrote w wr p q ys) (x : Int) (hx : 0 ≤ x) (hx' : x ≤ 4294967295) (hmax : ys.length + 8 ≤ 140737488355328) (B : Nat) (hB : wr.heap.size = B) :
    Calls Tryz.prog 54 #[.pointer (some ⟨p, 0, none⟩), .slice (some ⟨B, 0, none⟩) 1 1] (wr.alloc (.cells #[.int .u32 x] 72))
      fun en w' => en = .returned (.pointer (some ⟨p, 0, none⟩)) ∧ Wrote w w' p q (ys ++ be 4 x) := by
  have := u32s_lit h [x] (by simp; omega) (by simpa using hmax) B hB
  simp only [List.flatMap_cons, List.flatMap_nil, List.append_nil] at this
  exact this
theorem str_cell {w : World} {p : Nat} {t : TypeId} {l : List ByteArray} (h : Blk w p (l.map Value.string).toArray t) (i : Nat) (hi : i < l.length) : w.cell? ⟨p, i, none⟩ = some (.string (l.getD i ByteArray.empty)) := by
  rw [h.cell i]
  simp [List.getD, hi]
theorem puts_lit {w wr : World} {p : Nat} {q : Option Nat} {ys : List UInt8} (h : Wrote w wr p q ys) (l : List ByteArray) (hlen : l.length ≤ 1048576) (hmax : (ys ++ l.flatMap fun s => s.data.toList).length ≤ 140737488355328) (B : Nat) (hB : wr.heap.size = B) :
    Calls Tryz.prog 55 #[.pointer (some ⟨p, 0, none⟩), .slice (some ⟨B, 0, none⟩) l.length l.length] (wr.alloc (.cells (l.map Value.string).toArray 9))
      fun en w' => en = .returned (.pointer (some ⟨p, 0, none⟩)) ∧ Wrote w w' p q (ys ++ l.flatMap fun s => s.data.toList) := by
  subst hB
  obtain ⟨q1, hw1, hqp, hpl, hql, hwa, _, hst⟩ := Wrote.call h
  have e : ((List.range l.length).flatMap fun i => (l.getD i ByteArray.empty).data.toList) = l.flatMap fun s => s.data.toList := by
    rw [Deep.flatMap_by_index l ByteArray.empty (fun s => s.data.toList)]
  refine (put p q1 ys wr.heap.size l.length l.length (fun i => l.getD i ByteArray.empty) _ (hwa _) (fun i hi => str_cell (Blk.new wr _ _) i hi) (by simp) (by omega) (fun e => by have := hql _ e; omega) (by omega) (by rw [e]; exact hmax)).mono ?_
  rintro en w' ⟨rfl, hw⟩
  rw [e] at hw
  exact ⟨rfl, hst _ _ _ hw⟩
theorem put_lit {w wr : World} {p : Nat} {q : Option Nat} {ys : List UInt8} (h : Wrote w wr p q ys) (s : ByteArray) (hmax : ys.length + s.size ≤ 140737488355328) (B : Nat) (hB : wr.heap.size = B) :
    Calls Tryz.prog 55 #[.pointer (some ⟨p, 0, none⟩), .slice (some ⟨B, 0, none⟩) 1 1] (wr.alloc (.cells #[.string s] 9))
      fun en w' => en = .returned (.pointer (some ⟨p, 0, none⟩)) ∧ Wrote w w' p q (ys ++ s.data.toList) := by
  have := puts_lit h [s] (by simp) (by simp only [List.flatMap_cons, List.flatMap_nil, List.append_nil, List.length_append, size_list]; exact hmax) B hB
  simp only [List.flatMap_cons, List.flatMap_nil, List.append_nil] at this
  exact this
end Go.Proofs.YtcppibjllaablaaGreat.wr
