/-
  rtp: what is read is what would be written. No program.
-/
import Derived.Test.YtkpmdaknojlkjaaRpCutMath
namespace Go.Proofs.Ytkpmdaknojlkjaa.rp
open Go.RowKit mem rd wr oref sq
set_option linter.unusedVariables false

theorem vl_lin (l : List UInt8) (x : Int) : vlL l x = x * 256 ^ l.length + vlL l 0 := by
  induction l generalizing x with
  | nil => simp [vlL]
  | cons u l ih =>
    rw [vlL, vlL, ih (x * 256 + (u.toNat : Int)), ih (0 * 256 + (u.toNat : Int)), List.length_cons, Int.pow_succ, Int.add_mul, Int.zero_mul, Int.zero_add, Int.mul_assoc, Int.mul_comm 256]
    omega
theorem vl_bds (l : List UInt8) : 0 ≤ vlL l 0 ∧ vlL l 0 < 256 ^ l.length := by
  induction l with
  | nil => simp [vlL]
  | cons u l ih =>
    have hu := u.toNat_lt
    have hp : (0 : Int) < 256 ^ l.length := Int.pow_pos (by omega)
    rw [vlL, vl_lin, List.length_cons, Int.pow_succ, Int.zero_mul, Int.zero_add]
    generalize (256 : Int) ^ l.length = p at *
    generalize vlL l 0 = v at *
    have h1 : 0 ≤ (u.toNat : Int) * p := Int.mul_nonneg (by omega) (by omega)
    have h2 : (u.toNat : Int) * p ≤ 255 * p := Int.mul_le_mul_of_nonneg_right (by omega) (by omega)
    omega
theorem be_vl (l : List UInt8) : be l.length (vlL l 0) = l := by
  induction l with
  | nil => rfl
  | cons u l ih =>
    obtain ⟨h0, h1⟩ := vl_bds l
    have hp : (0 : Int) < 256 ^ l.length := Int.pow_pos (by omega)
    have e : vlL (u :: l) 0 = (u.toNat : Int) * 256 ^ l.length + vlL l 0 := by rw [vlL, vl_lin, Int.zero_mul, Int.zero_add]
    have hn : 0 ≤ (u.toNat : Int) * 256 ^ l.length + vlL l 0 := by
      have : 0 ≤ (u.toNat : Int) * 256 ^ l.length := Int.mul_nonneg (by omega) (by omega)
      omega
    have hd : ((u.toNat : Int) * 256 ^ l.length + vlL l 0) / 256 ^ l.length = (u.toNat : Int) := by
      rw [Int.add_comm, Int.add_mul_ediv_right _ _ (by omega), Int.ediv_eq_zero_of_lt h0 h1, Int.zero_add]
    have hm : ((u.toNat : Int) * 256 ^ l.length + vlL l 0) % 256 ^ l.length = vlL l 0 := by
      rw [Int.add_comm, Int.add_mul_emod_self_right, Int.emod_eq_of_lt h0 h1]
    rw [e, List.length_cons, be, hd, ← be_mod l.length l.length _ hn (Nat.le_refl _), hm, ih]
    congr 1
    apply UInt8.toNat_inj.1
    have := Go.Proofs.Ytkpmdaknojlkjaa.wr.byteOf_toNat (u.toNat : Int)
    have hu := u.toNat_lt
    omega

/-- a step without an error -/
theorem nx_got {n : Nat} {s : St} (h : (nx n s).2 = 0) : s.2 = 0 ∧ s.1 = bn n s ++ (nx n s).1 ∧ (bn n s).length = n ∧ be n (vn n s) = bn n s := by
  have h0 := nx_no h
  unfold nx at h
  split at h
  · rename_i hn
    have hl : (s.1.take n).length = n := by rw [List.length_take]; omega
    refine ⟨h0, ?_, ?_, ?_⟩
    · unfold bn nx; rw [if_pos hn, if_pos hn]; exact (List.take_append_drop n s.1).symm
    · unfold bn; rw [if_pos hn]; exact hl
    · unfold vn bn; rw [if_pos hn, if_pos hn]
      have := be_vl (s.1.take n)
      rw [hl] at this
      exact this
  · simp [h0] at h
theorem nx_be_got {n : Nat} {s : St} (h : (nx n s).2 = 0) : s.2 = 0 ∧ s.1 = be n (vn n s) ++ (nx n s).1 := by
  obtain ⟨a, b, _, d⟩ := nx_got h
  exact ⟨a, by rw [d]; exact b⟩
theorem it_got {s : St} : ∀ n, (it s n).2 = 0 → s.2 = 0 ∧ s.1 = (csL s n).flatMap (be 4) ++ (it s n).1 := by
  intro n
  induction n with
  | zero => intro h; exact ⟨h, rfl⟩
  | succ n ih =>
    intro h
    obtain ⟨a, b⟩ := nx_be_got (s := it s n) h
    obtain ⟨c, d⟩ := ih a
    refine ⟨c, ?_⟩
    rw [csL_succ, List.flatMap_append, List.flatMap_cons, List.flatMap_nil, List.append_nil, List.append_assoc]
    show s.1 = (csL s n).flatMap (be 4) ++ (be 4 (vn 4 (it s n)) ++ (nx 4 (it s n)).1)
    rw [← b]; exact d
theorem csL_bd (s : St) (n : Nat) : ∀ x ∈ csL s n, 0 ≤ x ∧ x ≤ 4294967295 := by
  intro x hx
  unfold csL at hx
  obtain ⟨i, _, rfl⟩ := List.mem_map.1 hx
  exact vn_bd4 _

theorem py_got {a : Int} {s : St} (h : pyE a s = 0) : s.2 = 0 ∧ (a / 32 % 2 = 1 → pdE s.1 = 0) := by
  unfold pyE at h
  split at h
  · rename_i h1
    unfold fl at h
    split at h
    · rename_i h2; exact ⟨h2.1, fun _ => h⟩
    · rename_i h2
      refine ⟨h, fun _ => ?_⟩
      by_cases h3 : pdE s.1 = 0
      · exact h3
      · exact absurd ⟨h, h3⟩ h2
  · rename_i h1
    exact ⟨h, fun h2 => absurd h2 h1⟩
theorem vr_got {s : St} (h : (vr s).2 = 0) : vn 1 s / 64 = 2 ∧ vr s = nx 1 (nx 1 s) := by
  unfold vr at *
  split
  · rename_i h1; exact ⟨h1, rfl⟩
  · rename_i h1
    rw [if_neg h1] at h
    unfold fl at h
    split at h
    · simp at h
    · rename_i h2; exact absurd ⟨h, by decide⟩ h2

/-- the padding's bytes -/
theorem pd_got {l : List UInt8} (h : pdE l = 0) : 1 ≤ pdN l ∧ pdN l ≤ 255 ∧ (pdN l).toNat ≤ l.length := by
  have hb := pdN_bd l
  unfold pdE at h
  unfold pdN at *
  split at h
  · simp at h
  · rename_i h1
    rw [if_neg h1] at hb ⊢
    split at h
    · simp at h
    · rename_i h2
      rw [if_neg h2] at hb ⊢
      split at h
      · simp at h
      · rename_i h3
        rw [if_neg h3] at hb ⊢
        have : 0 ≤ lastB l := by unfold lastB; omega
        omega

theorem b128_val (b : Int) (h0 : 0 ≤ b) (h1 : b ≤ 255) : b % 128 + bitI (vp.b128 b) 128 = b := by
  rw [vp.b128_is b h0 h1]
  unfold bitI
  by_cases h : 128 ≤ b
  · simp only [h, decide_true, if_true]; omega
  · simp only [h, decide_false, Bool.false_eq_true, if_false]; omega

/-- what is read: a packet that may be; its bytes are those read, but for what stands in the padding -/
theorem reads_math (l : List UInt8) (hl : l.length ≤ 1500) (h : outE l = 0) : V (outP l) ∧ ∃ t, l = hd (outP l) ++ ((outP l).pay.data.toList ++ t) ∧ (t.length : Int) = (outP l).pad := by
  have hP : outP l = allP (l, 0) := by unfold outP; rw [if_pos h]
  have hE : allE (l, 0) = 0 := by unfold outE at h; rw [if_neg (by omega)] at h; exact h
  rw [hP]
  clear hP h
  unfold allE bodyE at hE
  unfold allP bodyP
  obtain ⟨hx, hpd⟩ := py_got hE
  clear hE
  obtain ⟨s, hs⟩ : ∃ s : St, s = (l, 0) := ⟨_, rfl⟩
  have hl1 : s.1 = l := by rw [hs]
  rw [← hs] at hx hpd ⊢
  clear hs
  have ha := vn_bd1 s
  have hb := vn_bd1 (nx 1 s)
  -- the extension
  have hxt : (hdS (vr s) (vn 1 s % 16).toNat).2 = 0 ∧ (hdS (vr s) (vn 1 s % 16).toNat).1 = txE (xtP (vn 1 s) (hdP (vn 1 (nx 1 s)) (vr s) (vn 1 s % 16).toNat) (hdS (vr s) (vn 1 s % 16).toNat)) ++ (xtS (vn 1 s) (hdS (vr s) (vn 1 s % 16).toNat)).1
      ∧ ((xtP (vn 1 s) (hdP (vn 1 (nx 1 s)) (vr s) (vn 1 s % 16).toNat) (hdS (vr s) (vn 1 s % 16).toNat)).ext = true ↔ vn 1 s / 16 % 2 = 1)
      ∧ (xtP (vn 1 s) (hdP (vn 1 (nx 1 s)) (vr s) (vn 1 s % 16).toNat) (hdS (vr s) (vn 1 s % 16).toNat)).data.size % 4 = 0
      ∧ (0 ≤ (xtP (vn 1 s) (hdP (vn 1 (nx 1 s)) (vr s) (vn 1 s % 16).toNat) (hdS (vr s) (vn 1 s % 16).toNat)).prof ∧ (xtP (vn 1 s) (hdP (vn 1 (nx 1 s)) (vr s) (vn 1 s % 16).toNat) (hdS (vr s) (vn 1 s % 16).toNat)).prof ≤ 65535)
      ∧ ((xtP (vn 1 s) (hdP (vn 1 (nx 1 s)) (vr s) (vn 1 s % 16).toNat) (hdS (vr s) (vn 1 s % 16).toNat)).ext = false → (xtP (vn 1 s) (hdP (vn 1 (nx 1 s)) (vr s) (vn 1 s % 16).toNat) (hdS (vr s) (vn 1 s % 16).toNat)).prof = 0 ∧ (xtP (vn 1 s) (hdP (vn 1 (nx 1 s)) (vr s) (vn 1 s % 16).toNat) (hdS (vr s) (vn 1 s % 16).toNat)).data.size = 0) := by
    have hq1 : (hdP (vn 1 (nx 1 s)) (vr s) (vn 1 s % 16).toNat).ext = false := rfl
    have hq2 : (hdP (vn 1 (nx 1 s)) (vr s) (vn 1 s % 16).toNat).prof = 0 := rfl
    have hq3 : (hdP (vn 1 (nx 1 s)) (vr s) (vn 1 s % 16).toNat).data.size = 0 := rfl
    generalize hdP (vn 1 (nx 1 s)) (vr s) (vn 1 s % 16).toNat = q at *
    generalize hdS (vr s) (vn 1 s % 16).toNat = r at *
    unfold xtS at hx ⊢
    unfold xtP
    by_cases he : vn 1 s / 16 % 2 = 1
    · rw [if_pos he] at hx ⊢
      rw [if_pos he]
      unfold exS exS1 at hx
      obtain ⟨c1, c2, c3, c4⟩ := nx_got hx
      obtain ⟨d1, d2⟩ := nx_be_got c1
      obtain ⟨e1, e2⟩ := nx_be_got d1
      have hbd := vn_bd2 (nx 2 r)
      have hbp := vn_bd2 r
      have hsz : (lst (bn (exN r) (nx 2 (nx 2 r)))).size = exN r := by unfold lst; rw [size_mk]; exact c3
      have hN : ((exN r / 4 : Nat) : Int) = vn 2 (nx 2 r) := by unfold exN; omega
      refine ⟨e1, ?_, ⟨fun _ => he, fun _ => rfl⟩, ?_, hbp, fun h => by cases h⟩
      · unfold txE exP exS exS1
        simp only [if_true]
        rw [hsz, hN]
        show r.1 = be 2 (vn 2 r) ++ be 2 (vn 2 (nx 2 r)) ++ bn (exN r) (nx 2 (nx 2 r)) ++ (nx (exN r) (nx 2 (nx 2 r))).1
        rw [List.append_assoc, List.append_assoc, ← c2, ← d2]; exact e2
      · unfold exP exS1
        simp only
        rw [hsz]; unfold exN; omega
    · rw [if_neg he] at hx ⊢
      rw [if_neg he]
      refine ⟨hx, ?_, ⟨fun h => (by rw [hq1] at h; cases h), fun h => absurd h he⟩, by rw [hq3], by rw [hq2]; omega, fun _ => ⟨hq2, hq3⟩⟩
      unfold txE
      rw [hq1]
      rfl
  obtain ⟨hh, hxl, hxe, hxd, hxp, hxn⟩ := hxt
  -- the head
  unfold hdS at hh
  obtain ⟨i1, i2⟩ := it_got _ hh
  obtain ⟨j1, j2⟩ := nx_be_got i1
  obtain ⟨k1, k2⟩ := nx_be_got j1
  obtain ⟨m1, m2⟩ := nx_be_got k1
  obtain ⟨hv1, hv2⟩ := vr_got m1
  have n0 : (nx 1 (nx 1 s)).2 = 0 := by rw [← hv2]; exact m1
  obtain ⟨n1, n2⟩ := nx_be_got n0
  obtain ⟨o1, o2⟩ := nx_be_got n1
  have hcsn := csL_len (nx 4 (nx 4 (nx 2 (vr s)))) (vn 1 s % 16).toNat
  have hcsb := csL_bd (nx 4 (nx 4 (nx 2 (vr s)))) (vn 1 s % 16).toNat
  have hsq := vn_bd2 (vr s)
  have htm := vn_bd4 (nx 2 (vr s))
  have hsc := vn_bd4 (nx 4 (nx 2 (vr s)))
  have hmk := b128_val (vn 1 (nx 1 s)) hb.1 hb.2
  -- all its bytes up to the payload
  have hall : l = be 1 (vn 1 s) ++ (be 1 (vn 1 (nx 1 s)) ++ (be 2 (vn 2 (vr s)) ++ (be 4 (vn 4 (nx 2 (vr s))) ++ (be 4 (vn 4 (nx 4 (nx 2 (vr s)))) ++ ((csL (nx 4 (nx 4 (nx 2 (vr s)))) (vn 1 s % 16).toNat).flatMap (be 4) ++ (hdS (vr s) (vn 1 s % 16).toNat).1))))) := by
    unfold hdS
    rw [← i2, ← j2, ← k2, ← m2, hv2, ← n2, ← o2, hl1]
  rw [hxl] at hall
  have hxq : ∀ q r, (xtP (vn 1 s) q r).mrk = q.mrk ∧ (xtP (vn 1 s) q r).typ = q.typ ∧ (xtP (vn 1 s) q r).seq = q.seq ∧ (xtP (vn 1 s) q r).time = q.time ∧ (xtP (vn 1 s) q r).ssrc = q.ssrc ∧ (xtP (vn 1 s) q r).cs = q.cs ∧ (xtP (vn 1 s) q r).pad = q.pad := by
    intro q r; unfold xtP exP; split <;> exact ⟨rfl, rfl, rfl, rfl, rfl, rfl, rfl⟩
  obtain ⟨g1, g2, g3, g4, g5, g6, g7⟩ := hxq (hdP (vn 1 (nx 1 s)) (vr s) (vn 1 s % 16).toNat) (hdS (vr s) (vn 1 s % 16).toNat)
  have g1' : (xtP (vn 1 s) (hdP (vn 1 (nx 1 s)) (vr s) (vn 1 s % 16).toNat) (hdS (vr s) (vn 1 s % 16).toNat)).mrk = vp.b128 (vn 1 (nx 1 s)) := g1
  have g2' : (xtP (vn 1 s) (hdP (vn 1 (nx 1 s)) (vr s) (vn 1 s % 16).toNat) (hdS (vr s) (vn 1 s % 16).toNat)).typ = vn 1 (nx 1 s) % 128 := g2
  have g3' : (xtP (vn 1 s) (hdP (vn 1 (nx 1 s)) (vr s) (vn 1 s % 16).toNat) (hdS (vr s) (vn 1 s % 16).toNat)).seq = vn 2 (vr s) := g3
  have g4' : (xtP (vn 1 s) (hdP (vn 1 (nx 1 s)) (vr s) (vn 1 s % 16).toNat) (hdS (vr s) (vn 1 s % 16).toNat)).time = vn 4 (nx 2 (vr s)) := g4
  have g5' : (xtP (vn 1 s) (hdP (vn 1 (nx 1 s)) (vr s) (vn 1 s % 16).toNat) (hdS (vr s) (vn 1 s % 16).toNat)).ssrc = vn 4 (nx 4 (nx 2 (vr s))) := g5
  have g6' : (xtP (vn 1 s) (hdP (vn 1 (nx 1 s)) (vr s) (vn 1 s % 16).toNat) (hdS (vr s) (vn 1 s % 16).toNat)).cs = csL (nx 4 (nx 4 (nx 2 (vr s)))) (vn 1 s % 16).toNat := g6
  have g7' : (xtP (vn 1 s) (hdP (vn 1 (nx 1 s)) (vr s) (vn 1 s % 16).toNat) (hdS (vr s) (vn 1 s % 16).toNat)).pad = 0 := g7
  clear g1 g2 g3 g4 g5 g6 g7 hxq hxl i1 i2 j1 j2 k1 k2 m1 m2 n0 n1 n2 o1 o2 hh hv2 hl1
  generalize xtP (vn 1 s) (hdP (vn 1 (nx 1 s)) (vr s) (vn 1 s % 16).toNat) (hdS (vr s) (vn 1 s % 16).toNat) = q at *
  generalize (xtS (vn 1 s) (hdS (vr s) (vn 1 s % 16).toNat)) = r at *
  generalize csL (nx 4 (nx 4 (nx 2 (vr s)))) (vn 1 s % 16).toNat = cs at *
  generalize vn 4 (nx 4 (nx 2 (vr s))) = sc at *
  generalize vn 4 (nx 2 (vr s)) = tm at *
  generalize vn 2 (vr s) = sq at *
  generalize vn 1 (nx 1 s) = b at *
  generalize vn 1 s = a at *
  -- the padding
  have hend : ∃ t, r.1 = (pyP a q r).pay.data.toList ++ t ∧ (t.length : Int) = (pyP a q r).pad ∧ (0 ≤ (pyP a q r).pad ∧ (pyP a q r).pad ≤ 255) ∧ (0 < (pyP a q r).pad ↔ a / 32 % 2 = 1) := by
    unfold pyP
    by_cases hp : a / 32 % 2 = 1
    · rw [if_pos hp]
      obtain ⟨p1, p2, p3⟩ := pd_got (hpd hp)
      refine ⟨r.1.drop (r.1.length - (pdN r.1).toNat), ?_, ?_, ?_, ?_⟩
      · exact (List.take_append_drop _ _).symm
      · simp only [List.length_drop]; omega
      · simp only; omega
      · simp only; constructor <;> intro _ <;> first | exact hp | omega
    · rw [if_neg hp]
      refine ⟨[], ?_, ?_, ?_, ?_⟩
      · simp [lst]
      · simp only [g7']; rfl
      · simp only [g7']; omega
      · simp only [g7']; constructor <;> intro h0 <;> first | exact absurd h0 hp | omega
  obtain ⟨t, ht1, ht2, ht3, ht4⟩ := hend
  have hq : ∀ q : P, (pyP a q r).mrk = q.mrk ∧ (pyP a q r).typ = q.typ ∧ (pyP a q r).seq = q.seq ∧ (pyP a q r).time = q.time ∧ (pyP a q r).ssrc = q.ssrc ∧ (pyP a q r).cs = q.cs ∧ (pyP a q r).ext = q.ext ∧ (pyP a q r).prof = q.prof ∧ (pyP a q r).data = q.data := by
    intro q; unfold pyP; split <;> exact ⟨rfl, rfl, rfl, rfl, rfl, rfl, rfl, rfl, rfl⟩
  obtain ⟨y1, y2, y3, y4, y5, y6, y7, y8, y9⟩ := hq q
  have hte : txE (pyP a q r) = txE q := by unfold txE; rw [y7, y8, y9]
  clear hq
  generalize pyP a q r = p at *
  have hh1 : h1 p = a := by
    unfold h1
    rw [y6, g6', hcsn, y7]
    unfold bitI
    by_cases e1 : a / 16 % 2 = 1 <;> by_cases e2 : a / 32 % 2 = 1
    · rw [if_pos (hxe.2 e1), if_pos (by simpa using ht4.2 e2)]; omega
    · rw [if_pos (hxe.2 e1), if_neg (fun h => e2 (ht4.1 (by simpa using h)))]; omega
    · rw [if_neg (fun h => e1 (hxe.1 h)), if_pos (by simpa using ht4.2 e2)]; omega
    · rw [if_neg (fun h => e1 (hxe.1 h)), if_neg (fun h => e2 (ht4.1 (by simpa using h)))]; omega
  have hh2 : h2 p = b := by
    unfold h2
    rw [y1, y2, g1', g2']; exact hmk
  have hhd : hd p ++ (p.pay.data.toList ++ t) = l := by
    rw [hd_split, hh1, hh2, y3, y4, y5, y6, g3', g4', g5', g6', hte, hall, ht1]
    simp only [List.append_assoc, List.nil_append]
  refine ⟨⟨?_, ?_, ?_, ?_, ?_, ?_, ?_, ht3, ?_, ?_, ?_⟩, t, hhd.symm, ht2⟩
  · rw [y2, g2']; omega
  · rw [y3, g3']; exact hsq
  · rw [y4, g4']; exact htm
  · rw [y5, g5']; exact hsc
  · rw [y6, g6']; exact hcsb
  · rw [y6, g6', hcsn]; omega
  · rw [y8]; exact hxp
  · rw [y9]; exact hxd
  · rw [y7, y8, y9]; exact hxn
  · have hlen := congrArg List.length hhd
    have e1 : p.data.data.toList.length = p.data.size := Go.Proofs.Ytkpmdaknojlkjaa.wr.size_list p.data
    have e2 : p.pay.data.toList.length = p.pay.size := Go.Proofs.Ytkpmdaknojlkjaa.wr.size_list p.pay
    have e3 : (txE p).length = if p.ext then 4 + p.data.size else 0 := by
      unfold txE
      split
      · simp only [List.length_append, be_length, e1]
      · rfl
    rw [hd_split] at hlen
    simp only [List.length_append, be_length, flat4, e2, e3, List.length_nil] at hlen
    omega
end Go.Proofs.Ytkpmdaknojlkjaa.rp
