/-
  The reference's Num, and what its bytes are worth.
-/
import Derived.Test.YtcppibjllaablaaGreatOctTake
namespace Go.Proofs.YtcppibjllaablaaGreat.oref
open Go.RowKit mem rd wr
set_option linter.unusedVariables false

theorem be_div (n : Nat) (x : Int) : Go.Proofs.YtcppibjllaablaaGreat.wr.byteOf (x / 256 ^ n) :: be n x = be (n + 1) x := rfl

theorem run_one (w : World) (u : UInt8) : (convert 128 9 (.slice (some ⟨w.heap.size, 0, none⟩) 1 1)).run Tryz.prog (w.alloc (.cells #[b8 u] 5)) = .ok (.string ⟨#[u]⟩) (w.alloc (.cells #[b8 u] 5)) := by
  have hh := run_loadCells_list (P := Tryz.prog) (w := w.alloc (.cells #[b8 u] 5)) ⟨w.heap.size, 0, none⟩ [b8 u] (cell_one_new w _ _)
  have hc := run_bytesToString (P := Tryz.prog) (w.alloc (.cells #[b8 u] 5)) ⟨w.heap.size, 0, none⟩ 1 1 [(u.toNat : Int)] hh
  rw [run_convert_bytes_string (P := Tryz.prog) _ 128 9 5 (some ⟨w.heap.size, 0, none⟩) 1 1 Tryz.underlying128 Tryz.underlying5 Tryz.underlying9, hc]
  have := text_push [u] ByteArray.empty
  simp only [List.map_cons, List.map_nil] at this
  rw [this]
  rfl


/-! ### what the bytes are worth -/
/-- the number that bytes are, the highest first -/
def vlL : List UInt8 → Int → Int
  | [], x => x
  | b :: l, x => vlL l (x * 256 + (b.toNat : Int))
theorem vlL_app (a b : List UInt8) (x : Int) : vlL (a ++ b) x = vlL b (vlL a x) := by
  induction a generalizing x with
  | nil => rfl
  | cons u a ih => simp [vlL, ih]
theorem vl_list (l : List UInt8) (k : Nat) (hk : k ≤ l.length) : vl ⟨l.toArray⟩ k = vlL (l.take k) 0 := by
  induction k with
  | zero => simp [vl, vlL]
  | succ k ih =>
    rw [vl, ih (by omega), List.take_succ_eq_append_getElem (by omega), vlL_app]
    simp only [vlL]
    unfold bt
    rw [dif_pos (show k < (⟨l.toArray⟩ : ByteArray).size by show k < l.length; omega)]
    rfl
theorem vlL_be (n : Nat) (x y : Int) (hx : 0 ≤ x) : vlL (be n x) y = y * 256 ^ n + x % 256 ^ n := by
  induction n generalizing y with
  | zero => simp [be, vlL]
  | succ n ih =>
    rw [be, vlL, ih, byteOf_toNat]
    have hp : (0 : Int) < 256 ^ n := Int.pow_pos (by omega)
    have e1 : x % 256 ^ (n + 1) = (x / 256 ^ n) % 256 * 256 ^ n + x % 256 ^ n := by
      rw [Int.pow_succ]
      have h1 := Int.emod_add_mul_ediv x (256 ^ n)
      have h2 := Int.emod_add_mul_ediv (x / 256 ^ n) 256
      have h3 : 0 ≤ x % 256 ^ n := Int.emod_nonneg _ (by omega)
      have h4 : x % 256 ^ n < 256 ^ n := Int.emod_lt_of_pos _ hp
      generalize x / 256 ^ n = q at *
      generalize x % 256 ^ n = r at *
      generalize (256 : Int) ^ n = p at *
      have h5 : 0 ≤ q % 256 := by omega
      have h6 : q % 256 < 256 := by omega
      have e : x = (q % 256 * p + r) + (p * 256) * (q / 256) := by
        have : p * q = p * (q % 256) + p * (256 * (q / 256)) := by rw [← Int.mul_add, h2]
        rw [Int.mul_assoc, Int.mul_comm (q % 256) p]
        omega
      have hlt : q % 256 * p + r < p * 256 := by
        have : (q % 256) * p ≤ 255 * p := Int.mul_le_mul_of_nonneg_right (by omega) (by omega)
        omega
      have hge : 0 ≤ q % 256 * p + r := by
        have : 0 ≤ (q % 256) * p := Int.mul_nonneg h5 (by omega)
        omega
      rw [e, Int.add_mul_emod_self_left, Int.emod_eq_of_lt hge hlt]
    rw [e1, Int.pow_succ, Int.add_mul, Int.mul_assoc, Int.mul_comm 256]
    omega

/-! ### reading what a list holds -/
theorem extract_mk (l : List UInt8) (a b : Nat) : (⟨l.toArray⟩ : ByteArray).extract a b = ⟨((l.drop a).take (b - a)).toArray⟩ := by
  apply ByteArray.ext
  rw [ByteArray.data_extract]
  simp [List.extract_toArray, List.extract_eq_take_drop]
theorem takeB_mk (a b : List UInt8) : takeB ⟨(a ++ b).toArray⟩ a.length = ⟨a.toArray⟩ := by
  have h2 : ¬ (((⟨(a ++ b).toArray⟩ : ByteArray).size : Int) < (a.length : Int)) := by rw [size_mk, List.length_append]; omega
  unfold takeB
  rw [if_neg (by omega), if_neg h2, extract_mk]
  simp
theorem takeS_mk (a b : List UInt8) (e : Int) : takeS ⟨(a ++ b).toArray⟩ e a.length = ⟨b.toArray⟩ := by
  have h2 : ¬ (((⟨(a ++ b).toArray⟩ : ByteArray).size : Int) < (a.length : Int)) := by rw [size_mk, List.length_append]; omega
  unfold takeS
  rw [if_neg (by omega), if_neg h2, extract_mk, size_mk]
  simp
theorem takeE_mk (a b : List UInt8) (e : Int) : takeE ⟨(a ++ b).toArray⟩ e a.length = e := by
  have h2 : ¬ (((⟨(a ++ b).toArray⟩ : ByteArray).size : Int) < (a.length : Int)) := by rw [size_mk, List.length_append]; omega
  unfold takeE
  rw [if_neg (by omega), if_neg h2]
theorem numV_be (n x : Int) (N : Nat) (hN : lim n = (N : Int)) (hx : 0 ≤ x) (b : List UInt8) : numV ⟨(be N x ++ b).toArray⟩ n = x % 256 ^ N := by
  unfold numV
  rw [hN]
  have := takeB_mk (be N x) b
  rw [be_length] at this
  rw [this, size_mk, vl_list _ _ (Nat.le_refl _), List.take_length, vlL_be N x 0 hx]
  omega
/-- a number modulo what its n bytes hold has the same n bytes -/
theorem be_mod (n m : Nat) (x : Int) (hx : 0 ≤ x) (h : n ≤ m) : be n (x % 256 ^ m) = be n x := by
  induction n with
  | zero => rfl
  | succ n ih =>
    rw [be, be, ih (by omega)]
    congr 1
    have hb : ∀ y z : Int, y % 256 = z % 256 → Go.Proofs.YtcppibjllaablaaGreat.wr.byteOf y = Go.Proofs.YtcppibjllaablaaGreat.wr.byteOf z := fun y z e => by unfold Go.Proofs.YtcppibjllaablaaGreat.wr.byteOf; rw [e]
    apply hb
    obtain ⟨X, rfl⟩ := Int.eq_ofNat_of_zero_le hx
    obtain ⟨j, rfl⟩ : ∃ j, m = n + 1 + j := ⟨m - (n + 1), by omega⟩
    have e1 : (256 : Int) ^ (n + 1 + j) = ((256 ^ (n + 1 + j) : Nat) : Int) := by rw [Int.natCast_pow]; rfl
    have e2 : (256 : Int) ^ n = ((256 ^ n : Nat) : Int) := by rw [Int.natCast_pow]; rfl
    rw [e1, e2]
    have : X % 256 ^ (n + 1 + j) / 256 ^ n % 256 = X / 256 ^ n % 256 := by
      rw [show n + 1 + j = n + (1 + j) by omega, Nat.pow_add, Nat.mod_mul_right_div_self, show 1 + j = j + 1 by omega, Nat.pow_succ, Nat.mul_comm, Nat.mod_mul_right_mod]
    show ((X : Int) % ((256 ^ (n + 1 + j) : Nat) : Int)) / ((256 ^ n : Nat) : Int) % 256 = (X : Int) / ((256 ^ n : Nat) : Int) % 256
    rw [← Int.natCast_emod, ← Int.natCast_ediv, ← Int.natCast_ediv]
    generalize X % 256 ^ (n + 1 + j) / 256 ^ n = A at *
    generalize X / 256 ^ n = B at *
    omega
end Go.Proofs.YtcppibjllaablaaGreat.oref
