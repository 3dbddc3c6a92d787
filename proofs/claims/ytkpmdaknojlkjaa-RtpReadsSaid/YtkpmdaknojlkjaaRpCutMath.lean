/-
  RtpCut: a packet's bytes cut short. No program.
-/
import Derived.Test.YtkpmdaknojlkjaaRpMath
namespace Go.Proofs.Ytkpmdaknojlkjaa.rp
open Go.RowKit mem rd wr oref sq
set_option linter.unusedVariables false

/-- the bytes ahead of the payload -/
def hd (p : P) : List UInt8 := tx1 p ++ txE p
theorem tx_hd (p : P) : tx p = hd p ++ (p.pay.data.toList ++ txP p) := by unfold tx hd; simp only [List.append_assoc]
theorem txP_len (p : P) (h : 0 ≤ p.pad) : (txP p).length = p.pad.toNat := by
  unfold txP
  split
  · simp only [List.length_append, List.length_replicate, be_length]; omega
  · simp; omega
theorem hd_length (p : P) (h : V p) : ((hd p).length : Int) = lenI p - p.pay.size - p.pad := by
  have a := tx_length p h
  have hp := h.pad
  rw [tx_hd] at a
  simp only [List.length_append, txP_len p hp.1] at a
  have e2 : p.pay.data.toList.length = p.pay.size := Go.Proofs.Ytkpmdaknojlkjaa.wr.size_list p.pay
  omega

theorem one_it {s : St} (h : s.2 = 1) (n : Nat) : (it s n).2 = 1 := by
  induction n with
  | zero => exact h
  | succ n ih => exact nx_one 4 ih
theorem one_xt (a : Int) {s : St} (h : s.2 = 1) : (xtS a s).2 = 1 := by
  unfold xtS
  split
  · exact nx_one _ (nx_one 2 (nx_one 2 h))
  · exact h
theorem one_py (a : Int) {s : St} (h : s.2 = 1) : pyE a s = 1 := by
  unfold pyE
  split
  · unfold fl; rw [if_neg (fun hh => by have := hh.1; simp only at this; omega)]; exact h
  · exact h
theorem one_hd {s : St} (h : s.2 = 1) (n : Nat) : (hdS s n).2 = 1 := one_it (nx_one 4 (nx_one 4 (nx_one 2 h))) n
theorem one_body (a : Int) {s : St} (h : s.2 = 1) : bodyE a s = 1 := one_py a (one_xt a (one_hd h _))
theorem one_vr {s : St} (h : (nx 1 (nx 1 s)).2 = 1) : (vr s).2 = 1 := by
  unfold vr
  split
  · exact h
  · unfold fl; rw [if_neg (fun hh => by have := hh.1; omega)]; exact h

theorem short_it {s s' : St} (h : Short s s') (n : Nat) : (it s' n).2 = 1 ∨ Short (it s n) (it s' n) := by
  induction n with
  | zero => exact .inr h
  | succ n ih =>
    rcases ih with h1 | h1
    · exact .inl (nx_one 4 h1)
    · rcases short_nx 4 h1 with h2 | ⟨_, _, h2⟩
      · exact .inl h2
      · exact .inr h2
theorem short_hd {s s' : St} (h : Short s s') (n : Nat) : (hdS s' n).2 = 1 ∨ Short (hdS s n) (hdS s' n) := by
  unfold hdS
  rcases short_nx 2 h with h1 | ⟨_, _, h1⟩
  · exact .inl (one_it (nx_one 4 (nx_one 4 h1)) n)
  · rcases short_nx 4 h1 with h2 | ⟨_, _, h2⟩
    · exact .inl (one_it (nx_one 4 h2) n)
    · rcases short_nx 4 h2 with h3 | ⟨_, _, h3⟩
      · exact .inl (one_it h3 n)
      · exact short_it h3 n
theorem short_xt (a : Int) {s s' : St} (h : Short s s') : (xtS a s').2 = 1 ∨ Short (xtS a s) (xtS a s') := by
  unfold xtS
  split
  · unfold exS exS1 exN
    rcases short_nx 2 h with h1 | ⟨_, _, h1⟩
    · exact .inl (nx_one _ (nx_one 2 h1))
    · rcases short_nx 2 h1 with h2 | ⟨e2, _, h2⟩
      · exact .inl (nx_one _ h2)
      · rw [e2]
        rcases short_nx (4 * vn 2 (nx 2 s)).toNat h2 with h3 | ⟨_, _, h3⟩
        · exact .inl h3
        · exact .inr h3
  · exact .inr h

theorem hd_split (p : P) : hd p = be 1 (h1 p) ++ (be 1 (h2 p) ++ (be 2 p.seq ++ (be 4 p.time ++ (be 4 p.ssrc ++ (p.cs.flatMap (be 4) ++ (txE p ++ [])))))) := by
  unfold hd tx1
  simp only [List.append_assoc, List.append_nil]
theorem hd_short (p : P) (h : V p) (n : Nat) (hn : n < (hd p).length) : allE ((hd p).take n, 0) = 1 := by
  have hb := h1_bits p h
  have b1 : 0 ≤ h1 p ∧ h1 p ≤ 255 := by
    have := h.csn; unfold h1 bitI; split <;> split <;> omega
  have hsh : Short (hd p, 0) ((hd p).take n, 0) := ⟨rfl, rfl, (hd p).drop n, by intro h; have := congrArg List.length h; simp at this; omega, (List.take_append_drop _ _).symm⟩
  unfold allE
  rcases short_nx 1 hsh with g1 | ⟨e1, _, g1⟩
  · exact one_body _ (one_vr (nx_one 1 g1))
  · rcases short_nx 1 g1 with g2 | ⟨_, _, g2⟩
    · exact one_body _ (one_vr g2)
    · have ea : vn 1 (hd p, 0) = h1 p := by rw [hd_split]; exact vn_be 1 _ b1.1 (by omega) _ _
      have en : nx 1 (nx 1 (hd p, 0)) = (be 2 p.seq ++ (be 4 p.time ++ (be 4 p.ssrc ++ (p.cs.flatMap (be 4) ++ (txE p ++ [])))), 0) := by rw [hd_split, nx_be, nx_be]
      rw [e1, ea]
      have ev : vr ((hd p).take n, 0) = nx 1 (nx 1 ((hd p).take n, 0)) := by unfold vr; rw [e1, ea, if_pos hb.1]
      rw [ev]
      rw [en] at g2
      unfold bodyE
      apply one_py
      rcases short_hd g2 (h1 p % 16).toNat with g3 | g3
      · exact one_xt _ g3
      · rcases short_xt (h1 p) g3 with g4 | g4
        · exact g4
        · exfalso
          have eS : hdS (be 2 p.seq ++ (be 4 p.time ++ (be 4 p.ssrc ++ (p.cs.flatMap (be 4) ++ (txE p ++ [])))), 0) (h1 p % 16).toNat = (txE p ++ [], 0) := by
            rw [hb.2.1]; unfold hdS
            rw [nx_be, nx_be, nx_be, (cs_back p.cs h.cs (txE p ++ []) 0).2]
          rw [eS, (ext_back p h zero rfl rfl rfl []).1] at g4
          obtain ⟨_, _, t, ht, g5⟩ := g4
          simp only at g5
          have := congrArg List.length g5
          rw [List.length_append] at this
          have : t.length = 0 := by simp at this; omega
          exact ht (List.eq_nil_of_length_eq_zero this)
theorem cut_head (p : P) (h : V p) (n : Nat) (hn : n < (hd p).length) (hl : (tx p).length ≤ 1500) : outE ((tx p).take n) = 1 ∧ outP ((tx p).take n) = zero := by
  have e : (tx p).take n = (hd p).take n := by rw [tx_hd, List.take_append_of_le_length (by omega)]
  have l : (hd p).length ≤ (tx p).length := by rw [tx_hd, List.length_append]; omega
  have E : outE ((tx p).take n) = 1 := by
    rw [e]
    unfold outE
    rw [if_neg (by rw [List.length_take]; omega), hd_short p h n hn]
  refine ⟨E, ?_⟩
  unfold outP
  rw [if_neg (by rw [E]; decide)]

/-- a payload cut short -/
def cutP (p : P) (k : Nat) : P := { p with pay := p.pay.extract 0 k }
theorem cutP_V {p : P} (h : V p) (k : Nat) : V (cutP p k) := by
  refine ⟨h.typ, h.seq, h.time, h.ssrc, h.cs, h.csn, h.prof, h.pad, h.data, h.none, ?_⟩
  have hl := h.len
  have : (p.pay.extract 0 k).size ≤ p.pay.size := by rw [ByteArray.size_extract]; omega
  show 12 + 4 * p.cs.length + (p.pay.extract 0 k).size + p.pad.toNat + (if p.ext then 4 + p.data.size else 0) ≤ 1500
  omega
theorem txP_cut (p : P) (k : Nat) : txP (cutP p k) = txP p := rfl
theorem txE_cut (p : P) (k : Nat) : txE (cutP p k) = txE p := rfl
theorem tx1_cut (p : P) (k : Nat) : tx1 (cutP p k) = tx1 p := rfl
theorem hd_cut (p : P) (k : Nat) : hd (cutP p k) = hd p := by unfold hd; rw [txE_cut, tx1_cut]
theorem pay_cut (p : P) (k : Nat) : (cutP p k).pay.data.toList = p.pay.data.toList.take k := by
  show (p.pay.extract 0 k).data.toList = _
  rw [ByteArray.data_extract, Array.toList_extract]
  simp [List.extract]
theorem cut_bytes (p : P) (k : Nat) (hp : p.pad = 0) : (tx p).take ((hd p).length + k) = tx (cutP p k) := by
  have e0 : txP p = [] := by unfold txP; rw [if_neg (by omega)]
  rw [tx_hd p, tx_hd (cutP p k), txP_cut, e0, hd_cut, pay_cut, List.append_nil, List.append_nil, List.take_length_add_append]
theorem cut_tail (p : P) (h : V p) (k : Nat) (hp : p.pad = 0) : outE ((tx p).take ((hd p).length + k)) = 0 ∧ outP ((tx p).take ((hd p).length + k)) = cutP p k := by
  rw [cut_bytes p k hp]
  exact parse_text _ (cutP_V h _)
end Go.Proofs.Ytkpmdaknojlkjaa.rp
