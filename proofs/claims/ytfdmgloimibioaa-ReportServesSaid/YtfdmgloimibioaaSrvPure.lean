/-
  What is served of a ring.
-/
import Derived.Test.YtfdmgloimibioaaRngPlaysA
namespace Go.Proofs.Ytfdmgloimibioaa.rng
open Go.RowKit mem Go.Maps
set_option linter.unusedVariables false

structure SV where
  r : R
  out : List ByteArray
  left : Int
  stop : Bool
def serve1 (now : Int) (s : SV) (q : Int) : SV :=
  if s.stop = true then s else match findR s.r q with
    | none => s
    | some x => if s.left < (x.t.size : Int) then { s with stop := true } else
      if againE s.r q now = 0 then ⟨againR s.r q now, s.out ++ [x.t], s.left - x.t.size, false⟩ else s
def serveSt (r : R) (now bytes : Int) (z : Nat → Int) : Nat → SV
  | 0 => ⟨r, [], bytes, false⟩
  | k + 1 => serve1 now (serveSt r now bytes z k) (z k)
theorem serve_stop (now : Int) (s : SV) (q : Int) (h : s.stop = true) : serve1 now s q = s := by unfold serve1; rw [if_pos h]
theorem serveSt_stop (r : R) (now bytes : Int) (z : Nat → Int) (k m : Nat) (hk : k ≤ m) (h : (serveSt r now bytes z k).stop = true) : serveSt r now bytes z m = serveSt r now bytes z k := by
  induction m with
  | zero => have : k = 0 := by omega
            rw [this]
  | succ m ih =>
    by_cases e : k = m + 1
    · rw [e]
    · have h1 := ih (by omega)
      show serve1 now (serveSt r now bytes z m) (z m) = _
      rw [h1, serve_stop now _ _ h]
/-- the ways of one number -/
theorem serve_ways (now : Int) (s : SV) (q : Int) (h : s.stop = false) :
    (lastIdx s.r.L q = none ∧ serve1 now s q = s) ∨
    (∃ i x, lastIdx s.r.L q = some i ∧ s.r.L[i]? = some x ∧ s.left < (x.t.size : Int) ∧ serve1 now s q = { s with stop := true }) ∨
    (∃ i x, lastIdx s.r.L q = some i ∧ s.r.L[i]? = some x ∧ (x.t.size : Int) ≤ s.left ∧ againE s.r q now = 0 ∧ againS s.r q now = x.t ∧ serve1 now s q = ⟨againR s.r q now, s.out ++ [x.t], s.left - x.t.size, false⟩) ∨
    (∃ i x, lastIdx s.r.L q = some i ∧ s.r.L[i]? = some x ∧ (x.t.size : Int) ≤ s.left ∧ againE s.r q now ≠ 0 ∧ againR s.r q now = s.r ∧ serve1 now s q = s) := by
  unfold serve1
  rw [if_neg (by rw [h]; simp)]
  cases hf : lastIdx s.r.L q with
  | none =>
    have hF : findR s.r q = none := by unfold findR; rw [hf]
    exact .inl ⟨rfl, by rw [hF]⟩
  | some i =>
    obtain ⟨x, hx, _⟩ := lastIdx_some hf
    have hF : findR s.r q = some x := by unfold findR; rw [hf]; exact hx
    rw [hF]
    dsimp only
    by_cases h1 : s.left < (x.t.size : Int)
    · exact .inr (.inl ⟨i, x, rfl, hx, h1, by rw [if_pos h1]⟩)
    · by_cases h2 : againE s.r q now = 0
      · have h3 : againS s.r q now = x.t := by
          unfold againE at h2
          unfold againS
          rw [hF] at h2 ⊢
          dsimp only at h2 ⊢
          split at h2
          · cases h2
          · rename_i h4
            rw [if_neg h4]
            split at h2
            · cases h2
            · rename_i h5; rw [if_neg h5]
        exact .inr (.inr (.inl ⟨i, x, rfl, hx, by omega, h2, h3, by rw [if_neg h1, if_pos h2]⟩))
      · have h3 : againR s.r q now = s.r := by
          unfold againE at h2
          unfold againR
          rw [hF] at h2
          rw [hf]
          simp only [hx]
          dsimp only at h2
          by_cases h4 : s.r.most ≤ x.g
          · rw [if_pos h4]
          · rw [if_neg h4] at h2 ⊢
            by_cases h5 : tooSoon s.r x now = true
            · rw [if_pos h5]
            · rw [if_neg h5] at h2; exact absurd rfl h2
        exact .inr (.inr (.inr ⟨i, x, rfl, hx, by omega, h2, h3, by rw [if_neg h1, if_neg h2]⟩))
def sizes : List ByteArray → Int
  | [] => 0
  | s :: l => s.size + sizes l
theorem sizes_append (l m : List ByteArray) : sizes (l ++ m) = sizes l + sizes m := by
  induction l with
  | nil => simp [sizes]
  | cons s l ih => simp [sizes, ih]; omega
theorem sizes_nonneg (l : List ByteArray) : 0 ≤ sizes l := by
  induction l with
  | nil => simp [sizes]
  | cons s l ih => simp [sizes]; omega
/-- what holds of each state -/
structure SVok (r : R) (bytes : Int) (k : Nat) (s : SV) : Prop where
  ok : s.r.ok
  keep : s.r.size = r.size ∧ s.r.most = r.most ∧ s.r.gap = r.gap
  len : s.r.L.length = r.L.length
  sent : s.r.sent ≤ r.sent + k
  sum : sizes s.out + s.left = bytes
  pos : s.out = [] ∨ 0 ≤ s.left
  few : s.out.length ≤ k
theorem SVok.step {r : R} {bytes : Int} {k : Nat} {s : SV} (h : SVok r bytes k s) (now : Int) (t0 : 0 ≤ now) (t1 : now ≤ 1048576) (hs : r.sent + k < 1048576) (q : Int) : SVok r bytes (k + 1) (serve1 now s q) := by
  have hmore : SVok r bytes (k + 1) s := ⟨h.ok, h.keep, h.len, by have := h.sent; omega, h.sum, h.pos, by have := h.few; omega⟩
  by_cases hst : s.stop = true
  · rw [serve_stop now s q hst]; exact hmore
  · rcases serve_ways now s q (by simpa using hst) with ⟨_, e⟩ | ⟨i, x, _, _, _, e⟩ | ⟨i, x, _, _, hle, _, _, e⟩ | ⟨_, _, _, _, _, _, _, e⟩
    · rw [e]; exact hmore
    · rw [e]; exact ⟨hmore.ok, hmore.keep, hmore.len, hmore.sent, hmore.sum, hmore.pos, hmore.few⟩
    · rw [e]
      have hk := againR_keep s.r q now
      have hse := againR_sent s.r q now
      have hss := h.sent
      refine ⟨againR_ok h.ok q t0 t1 (by omega), ⟨hk.1.trans h.keep.1, hk.2.1.trans h.keep.2.1, hk.2.2.trans h.keep.2.2⟩, (againR_len _ _ _).trans h.len, by dsimp only; rcases hse with e | e <;> rw [e] <;> omega, ?_, .inr (by dsimp only; omega), by dsimp only; rw [List.length_append, List.length_singleton]; have := h.few; omega⟩
      dsimp only
      rw [sizes_append]
      simp [sizes]
      have := h.sum
      omega
    · rw [e]; exact hmore
theorem serveSt_ok {r : R} (h : r.ok) (now bytes : Int) (t0 : 0 ≤ now) (t1 : now ≤ 1048576) (z : Nat → Int) (k : Nat) (hs : r.sent + k ≤ 1048576) : SVok r bytes k (serveSt r now bytes z k) := by
  induction k with
  | zero => exact ⟨h, ⟨rfl, rfl, rfl⟩, rfl, by simp [serveSt], by simp [serveSt, sizes], .inl rfl, Nat.le_refl _⟩
  | succ k ih => exact (ih (by omega)).step now t0 t1 (by omega) (z k)
end Go.Proofs.Ytfdmgloimibioaa.rng
