/-
  rtp: what is written is read back. No program.
-/
import Derived.Test.YtcppibjllaablaaGreatRpTextA
namespace Go.Proofs.YtcppibjllaablaaGreat.rp
open Go.RowKit mem rd wr oref sq
set_option linter.unusedVariables false

theorem it_shift (s : St) (n : Nat) : it s (n + 1) = it (nx 4 s) n := by
  induction n with
  | zero => rfl
  | succ n ih => show nx 4 (it s (n + 1)) = nx 4 (it (nx 4 s) n); rw [ih]
theorem csL_shift (s : St) (n : Nat) : csL s (n + 1) = vn 4 s :: csL (nx 4 s) n := by
  unfold csL
  rw [List.range_succ_eq_map, List.map_cons, List.map_map]
  congr 1
  apply List.map_congr_left
  intro i _
  show vn 4 (it s (i + 1)) = vn 4 (it (nx 4 s) i)
  rw [it_shift]
theorem cs_back (l : List Int) (hl : ∀ x ∈ l, 0 ≤ x ∧ x ≤ 4294967295) (X : List UInt8) (e : Int) : csL (l.flatMap (be 4) ++ X, e) l.length = l ∧ it (l.flatMap (be 4) ++ X, e) l.length = (X, e) := by
  induction l with
  | nil => exact ⟨rfl, rfl⟩
  | cons x l ih =>
    have hx := hl x (by simp)
    have ih := ih (fun y hy => hl y (by simp [hy]))
    rw [List.flatMap_cons, List.append_assoc, List.length_cons, csL_shift, it_shift, vn_be 4 x hx.1 (by omega), nx_be, ih.1, ih.2]
    exact ⟨rfl, rfl⟩

theorem pad_back (p : List UInt8) (n : Int) (h0 : 0 < n) (h1 : n ≤ 255) :
    pdN (p ++ (List.replicate (n - 1).toNat 0 ++ be 1 n)) = n ∧ pdE (p ++ (List.replicate (n - 1).toNat 0 ++ be 1 n)) = 0 ∧ (p ++ (List.replicate (n - 1).toNat 0 ++ be 1 n)).take ((p ++ (List.replicate (n - 1).toNat 0 ++ be 1 n)).length - n.toNat) = p := by
  have e1 : be 1 n = [Go.Proofs.YtcppibjllaablaaGreat.wr.byteOf n] := by simp [be]
  have hlen : (p ++ (List.replicate (n - 1).toNat 0 ++ be 1 n)).length = p.length + n.toNat := by
    simp only [List.length_append, List.length_replicate, be_length]; omega
  have hne : p ++ (List.replicate (n - 1).toNat 0 ++ be 1 n) ≠ [] := by
    intro h; have := congrArg List.length h; rw [hlen] at this; simp at this; omega
  have hlast : lastB (p ++ (List.replicate (n - 1).toNat 0 ++ be 1 n)) = n := by
    unfold lastB
    rw [e1, ← List.append_assoc, List.getLast?_append]
    simp only [List.getLast?_singleton, Option.some_or, Option.getD_some]
    rw [Go.Proofs.YtcppibjllaablaaGreat.wr.byteOf_toNat]; omega
  refine ⟨?_, ?_, ?_⟩
  · unfold pdN
    rw [if_neg hne, hlast, if_neg (by omega), if_neg (by rw [hlen]; omega)]
  · unfold pdE
    rw [if_neg hne, hlast, if_neg (by omega), if_neg (by rw [hlen]; omega)]
  · rw [hlen, show p.length + n.toNat - n.toNat = p.length by omega]
    exact List.take_left

theorem h1_bits (p : P) (h : V p) : h1 p / 64 = 2 ∧ (h1 p % 16).toNat = p.cs.length ∧ (h1 p / 16 % 2 = 1 ↔ p.ext = true) ∧ (h1 p / 32 % 2 = 1 ↔ 0 < p.pad) := by
  have hn := h.csn
  have hp := h.pad
  unfold h1 bitI
  by_cases h1 : p.ext = true <;> by_cases h2 : 0 < p.pad
  all_goals
    simp only [h1, h2, decide_true, decide_false, if_true, Bool.false_eq_true, if_false]
    refine ⟨by omega, by omega, ?_, ?_⟩ <;> first | omega | (constructor <;> intro h <;> first | omega | trivial | simp_all)

/-- the packet's bytes behind the first two -/
theorem tx_split (p : P) : tx p = be 1 (h1 p) ++ (be 1 (h2 p) ++ (be 2 p.seq ++ (be 4 p.time ++ (be 4 p.ssrc ++ (p.cs.flatMap (be 4) ++ (txE p ++ (p.pay.data.toList ++ txP p))))))) := by
  unfold tx tx1
  simp only [List.append_assoc]

theorem ext_back (p : P) (h : V p) (q : P) (hq1 : q.ext = false) (hq2 : q.prof = 0) (hq3 : q.data = nob) (X : List UInt8) :
    xtS (h1 p) (txE p ++ X, 0) = (X, 0) ∧ xtP (h1 p) q (txE p ++ X, 0) = { q with ext := p.ext, prof := p.prof, data := p.data } := by
  have hb := (h1_bits p h).2.2.1
  have hd := h.data
  have hl := h.len
  have hpr := h.prof
  unfold xtS xtP txE
  by_cases he : p.ext = true
  · rw [if_pos he] at hl
    rw [if_pos (hb.2 he), if_pos (hb.2 he), if_pos he]
    have e1 : vn 2 (be 2 p.prof ++ be 2 ((p.data.size / 4 : Nat) : Int) ++ p.data.data.toList ++ X, 0) = p.prof := by
      simp only [List.append_assoc]; exact vn_be 2 _ hpr.1 (by omega) _ _
    have e2 : nx 2 (be 2 p.prof ++ be 2 ((p.data.size / 4 : Nat) : Int) ++ p.data.data.toList ++ X, 0) = (be 2 ((p.data.size / 4 : Nat) : Int) ++ (p.data.data.toList ++ X), 0) := by
      simp only [List.append_assoc]; exact nx_be 2 _ _ _
    have e3 : vn 2 (be 2 ((p.data.size / 4 : Nat) : Int) ++ (p.data.data.toList ++ X), 0) = ((p.data.size / 4 : Nat) : Int) := vn_be 2 _ (by omega) (by omega) _ _
    have e4 : nx 2 (be 2 ((p.data.size / 4 : Nat) : Int) ++ (p.data.data.toList ++ X), 0) = (p.data.data.toList ++ X, 0) := nx_be 2 _ _ _
    have eN : exN (be 2 p.prof ++ be 2 ((p.data.size / 4 : Nat) : Int) ++ p.data.data.toList ++ X, 0) = p.data.size := by
      unfold exN; rw [e2, e3]; omega
    have hdl : p.data.data.toList.length = p.data.size := Go.Proofs.YtcppibjllaablaaGreat.wr.size_list p.data
    unfold exS exP exS1
    rw [eN, e2, e4, e1, nx_app _ _ _ _ hdl, bn_app _ _ _ _ hdl]
    refine ⟨rfl, ?_⟩
    unfold lst
    rw [eta_mk, he]
  · have he' : p.ext = false := by simpa using he
    obtain ⟨z1, z2⟩ := h.none he'
    rw [if_neg (fun h' => he (hb.1 h')), if_neg (fun h' => he (hb.1 h')), if_neg he]
    refine ⟨rfl, ?_⟩
    have z3 : p.data = nob := by
      apply ByteArray.ext
      have : p.data.data.size = 0 := z2
      exact Array.eq_empty_of_size_eq_zero this
    rw [he', z1, z3, ← hq1, ← hq2, ← hq3]

theorem pay_back (p : P) (h : V p) (q : P) (hq : q.pad = 0) : pyE (h1 p) (p.pay.data.toList ++ txP p, 0) = 0 ∧ pyP (h1 p) q (p.pay.data.toList ++ txP p, 0) = { q with pay := p.pay, pad := p.pad } := by
  have hb := (h1_bits p h).2.2.2
  have hp := h.pad
  unfold pyE pyP txP
  by_cases h0 : 0 < p.pad
  · rw [if_pos (hb.2 h0), if_pos (hb.2 h0), if_pos h0]
    obtain ⟨a, b, c⟩ := pad_back p.pay.data.toList p.pad h0 hp.2
    simp only
    rw [a, b, c]
    refine ⟨rfl, ?_⟩
    unfold lst
    rw [eta_mk]
  · rw [if_neg (fun h' => h0 (hb.1 h')), if_neg (fun h' => h0 (hb.1 h')), if_neg h0, List.append_nil]
    refine ⟨rfl, ?_⟩
    unfold lst
    rw [eta_mk, show p.pad = q.pad from by omega]

/-- how long it is -/
theorem flat4 (l : List Int) : (l.flatMap (be 4)).length = 4 * l.length := by
  induction l with
  | nil => rfl
  | cons x l ih => rw [List.flatMap_cons, List.length_append, ih, be_length, List.length_cons]; omega
theorem tx_length (p : P) (h : V p) : ((tx p).length : Int) = lenI p := by
  have hd := h.data
  have hp := h.pad
  have e1 : p.data.data.toList.length = p.data.size := Go.Proofs.YtcppibjllaablaaGreat.wr.size_list p.data
  have e2 : p.pay.data.toList.length = p.pay.size := Go.Proofs.YtcppibjllaablaaGreat.wr.size_list p.pay
  have l1 : (txP p).length = p.pad.toNat := by
    unfold txP
    split
    · simp only [List.length_append, List.length_replicate, be_length]; omega
    · simp; omega
  have l2 : (txE p).length = if p.ext then 4 + p.data.size else 0 := by
    unfold txE
    split
    · simp only [List.length_append, be_length, e1]
    · rfl
  rw [tx_split]
  simp only [List.length_append, be_length, flat4, l1, l2, e2]
  unfold lenI
  split <;> omega

/-- what is written is read back -/
theorem parse_text (p : P) (h : V p) : outE (tx p) = 0 ∧ outP (tx p) = p := by
  have hb := h1_bits p h
  have b1 : 0 ≤ h1 p ∧ h1 p ≤ 255 := by
    have := h.csn; unfold h1 bitI; split <;> split <;> omega
  have hty := h.typ
  have b2 : 0 ≤ h2 p ∧ h2 p ≤ 255 := by unfold h2 bitI; split <;> omega
  have hlen : (tx p).length ≤ 1500 := by
    have := tx_length p h
    have hl := h.len
    have hp := h.pad
    unfold lenI at this
    split at this <;> split at hl <;> first | omega | simp_all
  have hseq := h.seq
  have htime := h.time
  have hssrc := h.ssrc
  have ev : vr (tx p, 0) = (be 2 p.seq ++ (be 4 p.time ++ (be 4 p.ssrc ++ (p.cs.flatMap (be 4) ++ (txE p ++ (p.pay.data.toList ++ txP p))))), 0) := by
    unfold vr
    rw [tx_split, vn_be 1 _ b1.1 (by omega), nx_be, nx_be, if_pos hb.1]
  have ea : vn 1 (tx p, 0) = h1 p := by rw [tx_split]; exact vn_be 1 _ b1.1 (by omega) _ _
  have eb : vn 1 (nx 1 (tx p, 0)) = h2 p := by rw [tx_split, nx_be]; exact vn_be 1 _ b2.1 (by omega) _ _
  obtain ⟨hc1, hc2⟩ := cs_back p.cs h.cs (txE p ++ (p.pay.data.toList ++ txP p)) 0
  have eS : hdS (vr (tx p, 0)) (h1 p % 16).toNat = (txE p ++ (p.pay.data.toList ++ txP p), 0) := by
    rw [ev, hb.2.1]; unfold hdS
    rw [nx_be, nx_be, nx_be, hc2]
  have eP : hdP (h2 p) (vr (tx p, 0)) (h1 p % 16).toNat = { zero with mrk := p.mrk, typ := p.typ, seq := p.seq, time := p.time, ssrc := p.ssrc, cs := p.cs } := by
    rw [ev, hb.2.1]; unfold hdP
    rw [nx_be, nx_be, nx_be, vn_be 2 _ hseq.1 (by omega), vn_be 4 _ htime.1 (by omega), vn_be 4 _ hssrc.1 (by omega), hc1, vp.b128_is _ b2.1 b2.2]
    have e1 : decide (128 ≤ h2 p) = p.mrk := by
      unfold h2 bitI
      cases p.mrk
      · simp; omega
      · simp; omega
    have e2 : h2 p % 128 = p.typ := by
      unfold h2 bitI
      split <;> omega
    rw [e1, e2]
  obtain ⟨hx1, hx2⟩ := ext_back p h { zero with mrk := p.mrk, typ := p.typ, seq := p.seq, time := p.time, ssrc := p.ssrc, cs := p.cs } rfl rfl rfl (p.pay.data.toList ++ txP p)
  obtain ⟨hy1, hy2⟩ := pay_back p h { ({ zero with mrk := p.mrk, typ := p.typ, seq := p.seq, time := p.time, ssrc := p.ssrc, cs := p.cs } : P) with ext := p.ext, prof := p.prof, data := p.data } rfl
  have E0 : outE (tx p) = 0 := by
    unfold outE
    rw [if_neg (by omega)]
    unfold allE bodyE
    rw [ea, eS, hx1]
    exact hy1
  refine ⟨E0, ?_⟩
  unfold outP
  rw [if_pos E0]
  unfold allP bodyP
  rw [ea, eb, eS, eP, hx1, hx2, hy2]
end Go.Proofs.YtcppibjllaablaaGreat.rp
