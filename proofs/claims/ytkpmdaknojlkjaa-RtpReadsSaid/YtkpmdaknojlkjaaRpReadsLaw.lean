/-
  RtpReads: any bytes are the specified packet, or are refused.
-/
import Derived.Test.YtkpmdaknojlkjaaRpChecksLaw
import Derived.Test.YtkpmdaknojlkjaaRpRefParse
import Derived.Test.YtkpmdaknojlkjaaRpReadsMath
namespace Go.Proofs.Ytkpmdaknojlkjaa.rp
open Go.RowKit mem rd wr oref sq
set_option linter.unusedVariables false

/-- both Parses answer the same -/
theorem parse_both (s : ByteArray) (hs : s.size ≤ 1600) (w : World) :
    Calls Try.prog 23 #[.string s] w fun en w' => (∃ a c, en = .returned (.tuple #[.agg (pc (outP s.data.toList) (.slice a (outP s.data.toList).cs.length c)), .int .i64 (outE s.data.toList)]) ∧ Row w' a (outP s.data.toList).cs) ∧ New w w' := by
  by_cases h : s.size ≤ 1500
  · refine (parse_small s w h).mono ?_
    rintro e w' ⟨v, rfl, hn, ho⟩
    obtain ⟨a, c, rfl, hr⟩ := own_row ho
    exact ⟨⟨a, c, rfl, hr⟩, hn⟩
  · have hl : s.data.toList.length = s.size := Go.Proofs.Ytkpmdaknojlkjaa.wr.size_list s
    have e1 : outE s.data.toList = 4 := by unfold outE; rw [if_pos (by omega)]
    have e2 : outP s.data.toList = zero := by unfold outP; rw [e1]; rfl
    refine (parse_big s w (by omega) (by omega)).mono ?_
    rintro e w' ⟨rfl, hn⟩
    rw [e1, e2]
    exact ⟨⟨none, 0, rfl, .inl rfl⟩, hn⟩
theorem rparse_both (s : ByteArray) (hs : s.size ≤ 1600) (w : World) :
    Calls Try.prog 24 #[.string s] w fun en w' => (∃ a c, en = .returned (.tuple #[.agg (pc (outP s.data.toList) (.slice a (outP s.data.toList).cs.length c)), .int .i64 (outE s.data.toList)]) ∧ Row w' a (outP s.data.toList).cs) ∧ New w w' := by
  have hl : s.data.toList.length = s.size := Go.Proofs.Ytkpmdaknojlkjaa.wr.size_list s
  by_cases h : s.size ≤ 1500
  · by_cases h2 : s.size < 2
    · have e1 : outE s.data.toList = 1 := short_E _ (by omega)
      have e2 : outP s.data.toList = zero := by unfold outP; rw [e1]; rfl
      refine (rparse_short s w h2).mono ?_
      rintro e w' ⟨rfl, hn⟩
      rw [e1, e2]
      exact ⟨⟨none, 0, rfl, .inl rfl⟩, hn⟩
    · obtain ⟨u, v, r, hr⟩ : ∃ u v r, s.data.toList = u :: v :: r := by
        match hh : s.data.toList, (show 2 ≤ s.data.toList.length by omega) with
        | u :: v :: r, _ => exact ⟨u, v, r, rfl⟩
      have hse : s = ⟨(u :: v :: r).toArray⟩ := by rw [← hr, eta_mk]
      have hb0 : bt s 0 = (u.toNat : Int) := by rw [hse]; rfl
      by_cases hv : (u.toNat : Int) / 64 = 2
      · rw [hr]
        refine (rparse_main u v r s hse w h hv).mono ?_
        rintro e w' ⟨x, rfl, hn, ho⟩
        obtain ⟨a, c, rfl, hrw⟩ := own_row ho
        exact ⟨⟨a, c, rfl, hrw⟩, hn⟩
      · rw [hr]
        have e1 : outE (u :: v :: r) = 2 := ver_E u v r (by rw [← hr]; omega) hv
        have e2 : outP (u :: v :: r) = zero := by unfold outP; rw [e1]; rfl
        refine (rparse_ver s w h (by omega) (by rw [hb0]; exact hv)).mono ?_
        rintro e w' ⟨rfl, hn⟩
        rw [e1, e2]
        exact ⟨⟨none, 0, rfl, .inl rfl⟩, hn⟩
  · have e1 : outE s.data.toList = 4 := by unfold outE; rw [if_pos (by omega)]
    have e2 : outP s.data.toList = zero := by unfold outP; rw [e1]; rfl
    refine (rparse_big s w (by omega) (by omega)).mono ?_
    rintro e w' ⟨rfl, hn⟩
    rw [e1, e2]
    exact ⟨⟨none, 0, rfl, .inl rfl⟩, hn⟩

theorem vcheck (p : P) (hV : V p) (a : Option Addr) (c : Nat) (w : World) :
    Calls Try.prog 28 #[.agg (pc p (.slice a p.cs.length c))] w fun e w' => e = .returned (.int .i64 0) ∧ New w w' := by
  have hT := V_T hV
  have := check p ⟨⟨hV.typ.1, by have := hV.typ; omega⟩, hV.seq, hV.time, hV.ssrc, hV.cs, by have := hV.csn; omega, hV.prof, ⟨by have := hV.pad; omega, by have := hV.pad; omega⟩, hT.data, hT.pay⟩ a c w
  rw [V_chk hV] at this
  exact this
theorem it_cs_len (l : List UInt8) : (outP l).cs.length ≤ 1000 := by
  unfold outP
  split
  · unfold allP bodyP
    have : ∀ a p s, (pyP a p s).cs = p.cs := by intro a p s; unfold pyP; split <;> rfl
    rw [this]
    have : ∀ a p s, (xtP a p s).cs = p.cs := by intro a p s; unfold xtP exP; split <;> rfl
    rw [this]
    have h := vn_bd1 (l, 0)
    have := csL_len (nx 4 (nx 4 (nx 2 (vr (l, 0))))) (vn 1 (l, 0) % 16).toNat
    show (csL _ _).length ≤ 1000
    omega
  · simp [zero]

set_option maxRecDepth 100000 in
set_option maxHeartbeats 8000000 in
theorem reads_law (s00 : ByteArray) (w : World) (hs00 : s00.size ≤ maxLen) :
    Calls Try.prog 4 #[.string s00] w fun e w' => e = .returned (.bool true) ∧ Below w.heap.size w w' := by
  have hcs := cutS_size s00 1600
  have K1 := Lib.hid (fun w => cut s00 1600 (by omega) w)
  generalize cutS s00 1600 = s at *
  have hs : s.size ≤ 1600 := by omega
  have HA := Lib.hid awake
  have HQ1 := Lib.hid (fun w => parse_both s hs w)
  have HQ2 := Lib.hid (fun w => rparse_both s hs w)
  have hl : s.data.toList.length = s.size := Go.Proofs.Ytkpmdaknojlkjaa.wr.size_list s
  have hcl := it_cs_len s.data.toList
  have HM := Lib.hid (fun h1 h2 => reads_math s.data.toList h1 h2)
  have HE4 : Hid (outE s.data.toList = 0 → s.size ≤ 1500) := Lib.hid (fun h => by
    by_cases hh : s.size ≤ 1500
    · exact hh
    · unfold outE at h; rw [if_pos (by omega)] at h; simp at h)
  have HSM := Lib.hid (fun a a' c c' W (h : Row W a (outP s.data.toList).cs) (k : Row W a' (outP s.data.toList).cs) => same (outP s.data.toList) a a' c c' W h k hcl)
  have HVR := Lib.hid (fun (hV : V (outP s.data.toList)) a c W (h : Row W a (outP s.data.toList).cs) => And.intro (text _ hV a c W h) (And.intro (rtext _ (V_T hV) a c W h) (len_any _ a c W (by have := hV.csn; omega) (by have := (V_T hV).pay; omega) (by have := (V_T hV).data; omega) (by have := hV.pad; omega) (by have := hV.pad; omega))))
  have HCK := Lib.hid (fun (hV : V (outP s.data.toList)) a c W => vcheck _ hV a c W)
  obtain ⟨l, hle⟩ : ∃ l, l = s.data.toList := ⟨_, rfl⟩
  rw [← hle] at HQ1 HQ2 hl hcl HM HE4 HSM HVR HCK
  have hse : s = ⟨l.toArray⟩ := by rw [hle, eta_mk]
  have HLE := Lib.hid hse
  clear hle hse hs00 hcs
  generalize hP : outP l = p at *
  generalize hE : outE l = er at *
  clear hP hE hcl
  obtain ⟨mrk, typ, seq, time, ssrc, cs, ext, prof, data, pay, pad⟩ := p
  simp only [pc] at *
  obtain ⟨nf, hnf⟩ : ∃ x, x = cs.length := ⟨_, rfl⟩
  rw [← hnf] at HQ1 HQ2 HSM HVR HCK
  clear hnf
  go_enter Try.func4, Try.ntmps4
  go_wp2_with (go_at_call 12; refine (K1.out _).mono ?_; rintro e w' ⟨rfl, rfl⟩)
  refine (HQ1.out _).mono ?_
  rintro e w1 ⟨⟨a1, c1, rfl, hr1⟩, hn1⟩
  have k2 : New w1 (w1.alloc (.cells #[.bool mrk, .int .u8 typ, .int .u16 seq, .int .u32 time, .int .u32 ssrc, .slice a1 nf c1, .bool ext, .int .u16 prof, .string data, .string pay, .int .i64 pad] PT)) := (Turns.refl _ _).alloc _
  have H2 := Lib.hid (And.intro (Blk.new w1 #[.bool mrk, .int .u8 typ, .int .u16 seq, .int .u32 time, .int .u32 ssrc, .slice a1 nf c1, .bool ext, .int .u16 prof, .string data, .string pay, .int .i64 pad] PT) (And.intro (Row.new hr1 k2) (hn1.trans (k2.mono (fun _ _ h => h.elim)))))
  have hgt1 := hn1.size
  clear hr1 hn1 k2 K1 HQ1
  go_wp2_with fail
  generalize w1.alloc (.cells #[.bool mrk, .int .u8 typ, .int .u16 seq, .int .u32 time, .int .u32 ssrc, .slice a1 nf c1, .bool ext, .int .u16 prof, .string data, .string pay, .int .i64 pad] PT) = w2 at *
  generalize w1.heap.size = pd at *
  refine (HQ2.out _).mono ?_
  rintro e w3 ⟨⟨a2, c2, rfl, hr3⟩, hn3⟩
  have k4 : New w3 (w3.alloc (.cells #[.bool mrk, .int .u8 typ, .int .u16 seq, .int .u32 time, .int .u32 ssrc, .slice a2 nf c2, .bool ext, .int .u16 prof, .string data, .string pay, .int .i64 pad] QT)) := (Turns.refl _ _).alloc _
  have k24 : New w2 (w3.alloc (.cells #[.bool mrk, .int .u8 typ, .int .u16 seq, .int .u32 time, .int .u32 ssrc, .slice a2 nf c2, .bool ext, .int .u16 prof, .string data, .string pay, .int .i64 pad] QT)) := hn3.trans (k4.mono (fun _ _ h => h.elim))
  have H4 := Lib.hid (And.intro (k24.blk H2.out.1 (fun h => h)) (And.intro (Blk.new w3 #[.bool mrk, .int .u8 typ, .int .u16 seq, .int .u32 time, .int .u32 ssrc, .slice a2 nf c2, .bool ext, .int .u16 prof, .string data, .string pay, .int .i64 pad] QT) (And.intro (Row.new H2.out.2.1 k24) (And.intro (Row.new hr3 k4) (H2.out.2.2.trans (k24.mono (fun _ _ h => h.elim)))))))
  have hgt3 := hn3.size
  have hlt2 := H2.out.1.lt
  clear hr3 hn3 k4 k24 H2 HQ2
  go_wp2_with fail
  generalize w3.alloc (.cells #[.bool mrk, .int .u8 typ, .int .u16 seq, .int .u32 time, .int .u32 ssrc, .slice a2 nf c2, .bool ext, .int .u16 prof, .string data, .string pay, .int .i64 pad] QT) = w4 at *
  generalize w3.heap.size = pq at *
  refine (HA.out _).mono ?_
  rintro e w5 ⟨rfl, hn5⟩
  have H5 := Lib.hid (And.intro (hn5.blk H4.out.1 (fun h => h)) (And.intro (hn5.blk H4.out.2.1 (fun h => h)) (And.intro (Row.new H4.out.2.2.1 hn5) (And.intro (Row.new H4.out.2.2.2.1 hn5) (H4.out.2.2.2.2.trans (hn5.mono (fun _ _ h => h.elim)))))))
  clear hn5 H4 HA
  obtain ⟨d0, d1, d2, d3, d4, d5, d6, d7, d8, d9, d10⟩ := cells11 H5.out.1
  obtain ⟨y0, y1, y2, y3, y4, y5, y6, y7, y8, y9, y10⟩ := cells11 H5.out.2.1
  go_wp2_with fail
  refine (HSM.out _ _ _ _ _ H5.out.2.2.1 H5.out.2.2.2.1).mono ?_
  rintro e w6 ⟨rfl, hn6⟩
  have H6 := Lib.hid (And.intro (hn6.blk H5.out.1 (fun h => h)) (And.intro (hn6.blk H5.out.2.1 (fun h => h)) (And.intro (Row.new H5.out.2.2.1 hn6) (And.intro (Row.new H5.out.2.2.2.1 hn6) (H5.out.2.2.2.2.trans (hn6.mono (fun _ _ h => h.elim)))))))
  clear hn6 H5 d0 d1 d2 d3 d4 d5 d6 d7 d8 d9 d10 y0 y1 y2 y3 y4 y5 y6 y7 y8 y9 y10 HSM
  by_cases he : er = 0
  · subst he
    have hs15 := HE4.out rfl
    obtain ⟨hV, t, ht1, ht2⟩ := HM.out (by omega) rfl
    have hL := tx_length _ hV
    have hpd := hV.pad
    have HCX := Lib.hid (HCK.out hV)
    have HT1 := Lib.hid (fun a c W h => (HVR.out hV a c W h).1)
    have HT2 := Lib.hid (fun a c W h => (HVR.out hV a c W h).2.1)
    have HLn := Lib.hid (fun a c W h => (HVR.out hV a c W h).2.2)
    -- the text, and the bytes read
    have hlen : ((tx ⟨mrk, typ, seq, time, ssrc, cs, ext, prof, data, pay, pad⟩).length : Int) = (s.size : Int) := by
      have h1 := congrArg List.length ht1
      rw [List.length_append, List.length_append] at h1
      have h2 := tx_hd ⟨mrk, typ, seq, time, ssrc, cs, ext, prof, data, pay, pad⟩
      have h3 := congrArg List.length h2
      rw [List.length_append, List.length_append, txP_len _ hpd.1] at h3
      (try simp only at h1); (try simp only at h3); (try simp only at ht2); (try simp only at hpd)
      omega
    obtain ⟨m, hm, hml⟩ : ∃ m : Nat, (m : Int) = (s.size : Int) - pad ∧ m ≤ s.size := by
      have h1 := congrArg List.length ht1
      rw [List.length_append, List.length_append] at h1
      (try simp only at h1); (try simp only at ht2); (try simp only at hpd)
      exact ⟨((s.size : Int) - pad).toNat, by omega, by omega⟩
    obtain ⟨S, hS, hSs⟩ : ∃ S : ByteArray, S = ⟨(tx ⟨mrk, typ, seq, time, ssrc, cs, ext, prof, data, pay, pad⟩).toArray⟩ ∧ S.size = (tx ⟨mrk, typ, seq, time, ssrc, cs, ext, prof, data, pay, pad⟩).length := ⟨_, rfl, size_mk _⟩
    have hcut : S.extract 0 m = s.extract 0 m := by
      rw [hS, HLE.out, extract_mk, extract_mk, tx_hd]
      (try simp only at ht1)
      rw [ht1]
      simp only [List.drop_zero, Nat.sub_zero]
      have hml2 : m = (hd ⟨mrk, typ, seq, time, ssrc, cs, ext, prof, data, pay, pad⟩ ++ pay.data.toList).length := by
        have h1 := congrArg List.length ht1
        rw [List.length_append, List.length_append] at h1
        rw [List.length_append]
        (try simp only at ht2)
        omega
      rw [hml2, ← List.append_assoc, ← List.append_assoc, List.take_left, List.take_left]
    rw [← hSs] at hlen
    rw [← hS] at HT1 HT2
    rw [← hL, ← hSs, hlen] at HLn
    have hmS : (m : Int) ≤ (S.size : Int) := by omega
    have hms : (m : Int) ≤ (s.size : Int) := by omega
    have rS : (S.toList == S.toList) = true := by simp
    obtain ⟨X, hX⟩ : ∃ X, X = s.extract 0 m := ⟨_, rfl⟩
    have hX1 : s.extract 0 m = X := hX.symm
    have hX2 : S.extract 0 m = X := hcut.trans hX1
    have rX : (X.toList == X.toList) = true := by simp
    have hm0 : (0 : Int) ≤ (m : Int) := by omega
    have hmm : (s.size : Int) - pad = (m : Int) := hm.symm
    clear hV ht1 ht2 hL hlen hSs hS hcut hX HVR HCK HM HE4 HLE hm hml hl
    obtain ⟨d0, d1, d2, d3, d4, d5, d6, d7, d8, d9, d10⟩ := cells11 H6.out.1
    obtain ⟨y0, y1, y2, y3, y4, y5, y6, y7, y8, y9, y10⟩ := cells11 H6.out.2.1
    go_wp2_with fail
    refine (HT1.out _ _ _ H6.out.2.2.1).mono ?_
    rintro e w7 ⟨rfl, hn7⟩
    have hb7 := hn7.blk H6.out.1 (fun h => h)
    have hq7 := hn7.blk H6.out.2.1 (fun h => h)
    have hh := held2_of (Turns.refl (fun _ => False) w7) hb7 hq7
    have HR1 := Lib.hid (fun W (k : New w7 W) => Row.new (Row.new H6.out.2.2.1 hn7) k)
    have HR2 := Lib.hid (fun W (k : New w7 W) => Row.new (Row.new H6.out.2.2.2.1 hn7) k)
    have HN := Lib.hid (fun W (k : New w7 W) => (H6.out.2.2.2.2.trans (hn7.mono (fun _ _ h => h.elim))).trans (k.mono (fun _ _ h => h.elim)))
    clear d0 d1 d2 d3 d4 d5 d6 d7 d8 d9 d10 y0 y1 y2 y3 y4 y5 y6 y7 y8 y9 y10 hq7 hn7 H6 HT1
    obtain ⟨d0, d1, d2, d3, d4, d5, d6, d7, d8, d9, d10⟩ := cells11 hb7
    clear hb7
    go_upto_region 10 with fail
    clear d0 d1 d2 d3 d4 d5 d6 d7 d8 d9 d10
    go_region_held3 (fun w' => New w7 w' ∧ pd < w'.heap.size ∧ pq < w'.heap.size ∧ w'.cell? ⟨pd, 0, none⟩ = some (.bool mrk) ∧ w'.cell? ⟨pd, 1, none⟩ = some (.int .u8 typ) ∧ w'.cell? ⟨pd, 2, none⟩ = some (.int .u16 seq) ∧ w'.cell? ⟨pd, 3, none⟩ = some (.int .u32 time) ∧ w'.cell? ⟨pd, 4, none⟩ = some (.int .u32 ssrc) ∧ w'.cell? ⟨pd, 5, none⟩ = some (.slice a1 nf c1) ∧ w'.cell? ⟨pd, 6, none⟩ = some (.bool ext) ∧ w'.cell? ⟨pd, 7, none⟩ = some (.int .u16 prof) ∧ w'.cell? ⟨pd, 8, none⟩ = some (.string data) ∧ w'.cell? ⟨pd, 9, none⟩ = some (.string pay) ∧ w'.cell? ⟨pd, 10, none⟩ = some (.int .i64 pad) ∧ w'.cell? ⟨pq, 0, none⟩ = some (.bool mrk) ∧ w'.cell? ⟨pq, 1, none⟩ = some (.int .u8 typ) ∧ w'.cell? ⟨pq, 2, none⟩ = some (.int .u16 seq) ∧ w'.cell? ⟨pq, 3, none⟩ = some (.int .u32 time) ∧ w'.cell? ⟨pq, 4, none⟩ = some (.int .u32 ssrc) ∧ w'.cell? ⟨pq, 5, none⟩ = some (.slice a2 nf c2) ∧ w'.cell? ⟨pq, 6, none⟩ = some (.bool ext) ∧ w'.cell? ⟨pq, 7, none⟩ = some (.int .u16 prof) ∧ w'.cell? ⟨pq, 8, none⟩ = some (.string data) ∧ w'.cell? ⟨pq, 9, none⟩ = some (.string pay) ∧ w'.cell? ⟨pq, 10, none⟩ = some (.int .i64 pad)) (first | assumption | (refine held2_drew ?_; assumption) | (refine held2_new (by assumption) (by assumption)))
      (first
        | (go_at_call 28; (with_reducible refine Calls.mono (HCX.out _ _ _) ?_); rintro en wq ⟨rfl, hnq⟩)
        | (go_at_call 30; (with_reducible refine Calls.mono (HT2.out _ _ _ (HR2.out _ ?_)) ?_); (focus (apply held2_nw; assumption)); rintro en wq ⟨rfl, hnq⟩)
        | (go_at_call 29; (with_reducible refine Calls.mono (HLn.out _ _ _ (HR1.out _ ?_)) ?_); (focus (apply held2_nw; assumption)); rintro en wq ⟨rfl, hnq⟩))
    all_goals
      rename_i hHl
      have hnew := HN.out _ hHl.1
      have hbel := hnew.below (Nat.le_refl _) (fun _ _ h => h.elim)
      have HB := Lib.hid hbel
      clear hnew hbel
      go_wp2_with fail
      go_ret
      exact ⟨rfl, HB.out⟩
  · have hzb : (er != 0) = true := by simp [he]
    clear he
    go_wp2
    go_ret
    exact ⟨rfl, H6.out.2.2.2.2.below (Nat.le_refl _) (fun _ _ h => h.elim)⟩
end Go.Proofs.Ytkpmdaknojlkjaa.rp
