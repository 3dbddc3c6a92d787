/-
  RateSteady.
-/
import Derived.Test.YtfhbcdjbfjoknaaRatCap
import Derived.Test.YtfhbcdjbfjoknaaMask
namespace Go.Proofs.Ytfhbcdjbfjoknaa.rat
open Go.RowKit mem
set_option linter.unusedVariables false

/-- the sends of the ticks lo .. t - 1 -/
def ent (b : Int) (lo t : Nat) : List (Int × Int) := (List.range' lo (t - lo)).map (fun (k : Nat) => ((k : Int), (k : Int) * b))
theorem ent_len (b : Int) (lo t : Nat) : (ent b lo t).length = t - lo := by simp [ent]
theorem ent_at (b : Int) (lo t k : Nat) (h : k < (ent b lo t).length) : (ent b lo t)[k] = (((lo + k : Nat) : Int), ((lo + k : Nat) : Int) * b) := by
  simp [ent]
abbrev st (x : Nat) (b : Int) (t : Nat) : M := ⟨1 + (x : Int), (t : Int) * b, 0, ent b (t - (1 + x)) t⟩
theorem st_ok (x : Nat) (b : Int) (t : Nat) (hx : x ≤ 63) (h0 : 0 ≤ b) (h1 : b ≤ 65535) (ht : t ≤ 200) : (st x b t).ok := by
  have hm : (t : Int) * b ≤ 200 * 65535 := Int.mul_le_mul (by omega) h1 h0 (by omega)
  have h00 : 0 ≤ (t : Int) * b := Int.mul_nonneg (by omega) h0
  refine ⟨by show (1 : Int) ≤ 1 + (x : Int); omega, by show 1 + (x : Int) ≤ 1048576; omega, h00, by show (t : Int) * b ≤ _; omega, by show (0 : Int) ≤ 0; omega, by show (0 : Int) ≤ _; omega, ?_, ?_, ?_⟩
  · intro i j hi hj
    have hj' : j < (ent b (t - (1 + x)) t).length := hj
    show ((ent b (t - (1 + x)) t)[i]).1 < ((ent b (t - (1 + x)) t)[j]).1
    rw [ent_at _ _ _ _ (by omega), ent_at _ _ _ _ hj']
    show ((t - (1 + x) + i : Nat) : Int) < ((t - (1 + x) + j : Nat) : Int)
    omega
  · show (ent b (t - (1 + x)) t).length ≤ 2000
    rw [ent_len]
    omega
  · intro y hy
    have hy' : y ∈ ent b (t - (1 + x)) t := hy
    unfold ent at hy'
    obtain ⟨k, hk, rfl⟩ := List.mem_map.1 hy'
    have hk' := (List.mem_range'_1.1 hk).2
    exact ⟨Int.mul_nonneg (by omega) h0, Int.mul_le_mul_of_nonneg_right (by omega) h0⟩
theorem ent_cut (b : Int) (lo t m : Nat) (T : Int) (hm : m ≤ t - lo) (h1 : 0 < m → ((lo + m : Nat) : Int) ≤ T) (h2 : m < t - lo → T ≤ ((lo + m : Nat) : Int)) : cutOf (ent b lo t) T = m := by
  refine (Cut.is ⟨by rw [ent_len]; exact hm, fun k hk hkm => ?_, fun k hk hkm => ?_⟩).symm
  · rw [ent_at _ _ _ _ hk]
    show ((lo + k : Nat) : Int) < T
    have := h1 (by omega)
    omega
  · rw [ent_at _ _ _ _ hk]
    rw [ent_len] at hk
    show T ≤ ((lo + k : Nat) : Int)
    have := h2 (by omega)
    omega
theorem ent_drop (b : Int) (lo t m : Nat) : (ent b lo t).drop m = ent b (lo + m) t := by
  unfold ent
  rw [← List.map_drop, List.drop_range', Nat.mul_one, show t - (lo + m) = t - lo - m by omega]
theorem ent_last (b : Int) (lo t : Nat) : ((ent b lo t).getLastD (-1, 0)).1 < (t : Int) := by
  cases h : t - lo with
  | zero => have : ent b lo t = [] := by simp [ent, h]
            rw [this]
            show (-1 : Int) < t
            omega
  | succ m =>
    rw [getLastD_at (m := m) (by rw [ent_len]; exact h), ent_at _ _ _ _ (by rw [ent_len]; omega)]
    show ((lo + m : Nat) : Int) < (t : Int)
    omega
theorem ent_snoc (b : Int) (lo t : Nat) (h : lo ≤ t) : ent b lo t ++ [((t : Int), (t : Int) * b)] = ent b lo (t + 1) := by
  unfold ent
  rw [show t + 1 - lo = (t - lo) + 1 by omega, List.range'_concat, List.map_append, List.map_cons, List.map_nil, show lo + 1 * (t - lo) = t by omega]
theorem st_add (x : Nat) (b : Int) (t : Nat) (h0 : 0 ≤ b) (h1 : b ≤ 65535) : addQ (st x b t) t b = st x b (t + 1) := by
  have hc : clampB b = b := by unfold clampB; omega
  have hcut : cutOf (ent b (t - (1 + x)) t) ((t : Int) - (1 + (x : Int)) + 1) = (t + 1 - (1 + x)) - (t - (1 + x)) := ent_cut b _ _ _ _ (by omega) (fun h => by omega) (fun h => by omega)
  have hd : (ent b (t - (1 + x)) t).drop ((t + 1 - (1 + x)) - (t - (1 + x))) = ent b (t + 1 - (1 + x)) t := by
    rw [ent_drop]
    congr 1
    omega
  have hl : addL (ent b (t + 1 - (1 + x)) t) t ((t : Int) * b) = ent b (t + 1 - (1 + x)) (t + 1) := by
    have := ent_last b (t + 1 - (1 + x)) t
    unfold addL
    rw [if_neg (by omega), ent_snoc _ _ _ (by omega)]
  have he : ((t + 1 : Nat) : Int) * b = (t : Int) * b + b := by rw [Int.natCast_add, Int.add_mul]; simp
  show (⟨1 + (x : Int), (t : Int) * b + clampB b, 0, addL ((ent b (t - (1 + x)) t).drop (cutOf (ent b (t - (1 + x)) t) ((t : Int) - (1 + (x : Int)) + 1))) t ((t : Int) * b)⟩ : M) = ⟨1 + (x : Int), ((t + 1 : Nat) : Int) * b, 0, ent b (t + 1 - (1 + x)) (t + 1)⟩
  rw [hcut, hd, hl, hc, he]
theorem st_rate (x : Nat) (b : Int) (t : Nat) (ht : 1 + x ≤ t) : rateQ (st x b t) ((t : Int) - 1) = b * 1000 := by
  have hcut : cutOf (ent b (t - (1 + x)) t) ((t : Int) - 1 - (1 + (x : Int)) + 1) = 0 := ent_cut b _ _ _ _ (by omega) (fun h => by omega) (fun h => by omega)
  have hlen : (ent b (t - (1 + x)) t).length = 1 + x := by rw [ent_len]; omega
  have hg : (ent b (t - (1 + x)) t).getD 0 (0, 0) = (ent b (t - (1 + x)) t)[0] := by
    rw [List.getD_eq_getElem?_getD, List.getElem?_eq_getElem (by omega), Option.getD_some]
  show (if cutOf (ent b (t - (1 + x)) t) ((t : Int) - 1 - (1 + (x : Int)) + 1) = (ent b (t - (1 + x)) t).length then 0 else ((t : Int) * b - ((ent b (t - (1 + x)) t).getD (cutOf (ent b (t - (1 + x)) t) ((t : Int) - 1 - (1 + (x : Int)) + 1)) (0, 0)).2) * 1000 / (1 + (x : Int))) = b * 1000
  rw [hcut, hlen, if_neg (by omega), hg, ent_at _ _ _ _ (by omega)]
  show ((t : Int) * b - ((t - (1 + x) + 0 : Nat) : Int) * b) * 1000 / (1 + (x : Int)) = b * 1000
  have e : ((t - (1 + x) + 0 : Nat) : Int) = (t : Int) - (1 + (x : Int)) := by omega
  rw [e, ← Int.sub_mul, show (t : Int) - ((t : Int) - (1 + (x : Int))) = 1 + (x : Int) by omega, Int.mul_assoc]
  exact Int.mul_ediv_cancel_left _ (by omega)

end Go.Proofs.Ytfhbcdjbfjoknaa.rat
