/-
  How long, how great a frame is that Put answers.
-/
import Derived.Test.YtmfknefihjjgoaaFrmPut
namespace Go.Proofs.Ytmfknefihjjgoaa.frm
open Go.RowKit mem
set_option linter.unusedVariables false

theorem base_len (s : Q) (u : U) : (base s u).o.length ≤ s.o.length := by unfold base; split <;> simp [dropped]
theorem base_size (s : Q) (u : U) : size (base s u).o ≤ size s.o := by unfold base; split <;> simp [dropped, size]
theorem putF_len (s : Q) (u : U) : (putF s u).length ≤ s.o.length + 1 := by
  have h := base_len s u
  have h2 := pushed_len s u
  unfold putF
  repeat' split
  all_goals first | (simp; done) | omega
theorem putF_size (s : Q) (u : U) : size (putF s u) ≤ size s.o + u.x.size := by
  have h := base_size s u
  have h2 := pushed_size s u
  unfold putF
  repeat' split
  all_goals first | (simp [size]; done) | omega
theorem putF_small {s : Q} {k : Nat} (h : s.ok k) (u : U) (hu : u.ok) : (putF s u).length ≤ 1025 ∧ size (putF s u) ≤ 2097152 := by
  have h1 := putF_len s u
  have h2 := putF_size s u
  have := h.ol; have := h.n1; have := h.sz; have := h.b1; have := hu.x1
  omega
theorem putF_none (s : Q) (u : U) (h : putOk s u = false) : putF s u = [] := by
  unfold putOk at h
  unfold putF
  split
  · rfl
  · rename_i h1
    split
    · rfl
    · rename_i h2
      split
      · rfl
      · rename_i h3
        simp [h1, h2, h3] at h
theorem putF_some (s : Q) (u : U) (h : putOk s u = true) : putF s u = (base s u).o ++ [u] := by
  unfold putOk at h
  rw [Bool.and_eq_true, Bool.and_eq_true] at h
  obtain ⟨h1, h2, h3⟩ := h
  unfold putF
  rw [if_neg (by simpa using h1), if_neg (by simpa using h2), if_neg (by simpa using h3)]
  rfl
end Go.Proofs.Ytmfknefihjjgoaa.frm
