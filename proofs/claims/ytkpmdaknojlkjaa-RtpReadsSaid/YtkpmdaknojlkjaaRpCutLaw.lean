/-
  RtpCut: a beginning of a packet's bytes is told: the walk.
-/
import Derived.Test.YtkpmdaknojlkjaaRpFieldsMath
import Derived.Test.YtkpmdaknojlkjaaRpCutMath
import Derived.Test.YtkpmdaknojlkjaaRpSame
namespace Go.Proofs.Ytkpmdaknojlkjaa.rp
open Go.RowKit mem rd wr oref sq
set_option linter.unusedVariables false

theorem own_row {w : World} {base : Nat} {e : TypeId} {v : Value} {cs : List Int} (h : w.ownsRow base e 1 v cs.length (cs.map (Value.int .u32))) : ∃ a c, v = .slice a cs.length c ∧ Row w a cs := by
  obtain ⟨_, h0⟩ := id h
  rcases h0 with ⟨rfl, hn⟩ | ⟨g, cap, cur, rfl, _, hg, _⟩
  · exact ⟨none, 0, by rw [hn], .inl hn⟩
  · refine ⟨_, cap, rfl, .inr ⟨g, 0, rfl, lt_of_block hg, fun i hi => ?_⟩⟩
    rw [Nat.zero_add, h.cellAt i (by omega)]
    simp [hi]
theorem same_zero (a : Option Addr) (c : Nat) (w : World) :
    Calls Try.prog 26 #[.agg #[.bool false, .int .u8 0, .int .u16 0, .int .u32 0, .int .u32 0, .slice a 0 c, .bool false, .int .u16 0, .string ⟨#[]⟩, .string ⟨#[]⟩, .int .i64 0], .agg #[.bool false, .int .u8 0, .int .u16 0, .int .u32 0, .int .u32 0, .slice none 0 0, .bool false, .int .u16 0, .string ⟨#[]⟩, .string ⟨#[]⟩, .int .i64 0]] w fun e w' => e = .returned (.int .i64 0) ∧ New w w' :=
  same zero a none c 0 w (.inl rfl) (.inl rfl) (by decide)
theorem parse_head (p : P) (hv : V p) (S : ByteArray) (hS : S = ⟨(tx p).toArray⟩) (hl : S.size ≤ 1500) (k : Nat) (hk : k < (hd p).length) (w : World) :
    Calls Try.prog 23 #[.string (S.extract 0 k)] w fun en w' => (∃ a c, en = .returned (.tuple #[.agg #[.bool false, .int .u8 0, .int .u16 0, .int .u32 0, .int .u32 0, .slice a 0 c, .bool false, .int .u16 0, .string ⟨#[]⟩, .string ⟨#[]⟩, .int .i64 0], .int .i64 1])) ∧ New w w' := by
  subst hS
  rw [size_mk] at hl
  rw [extract_mk]
  simp only [List.drop_zero, Nat.sub_zero]
  obtain ⟨e1, e2⟩ := cut_head p hv k hk hl
  refine (parse_small ⟨((tx p).take k).toArray⟩ w (by rw [size_mk, List.length_take]; omega)).mono ?_
  rintro e w' ⟨v, rfl, hn, ho⟩
  simp only [e1, e2] at ho ⊢
  obtain ⟨a, c, rfl⟩ := own_shape ho
  exact ⟨⟨a, c, rfl⟩, hn⟩
theorem parse_tail (p : P) (hv : V p) (S : ByteArray) (hS : S = ⟨(tx p).toArray⟩) (hl : S.size ≤ 1500) (k m : Nat) (hp : p.pad = 0) (hk : k = (hd p).length + m) (w : World) :
    Calls Try.prog 23 #[.string (S.extract 0 k)] w fun en w' => (∃ a c, en = .returned (.tuple #[.agg (pc (cutP p m) (.slice a p.cs.length c)), .int .i64 0]) ∧ Row w' a p.cs) ∧ New w w' := by
  subst hS
  rw [size_mk] at hl
  rw [extract_mk]
  simp only [List.drop_zero, Nat.sub_zero]
  obtain ⟨e1, e2⟩ := cut_tail p hv m hp
  rw [← hk] at e1 e2
  refine (parse_small ⟨((tx p).take k).toArray⟩ w (by rw [size_mk, List.length_take]; omega)).mono ?_
  rintro e w' ⟨v, rfl, hn, ho⟩
  simp only [e1, e2] at ho ⊢
  have hc : (cutP p m).cs = p.cs := rfl
  rw [hc] at ho
  obtain ⟨a, c, rfl, hr⟩ := own_row ho
  exact ⟨⟨a, c, rfl, hr⟩, hn⟩
theorem parse_any (S : ByteArray) (hl : S.size ≤ 1500) (k : Nat) (w : World) :
    Calls Try.prog 23 #[.string (S.extract 0 k)] w fun en w' => (∃ x0 x1 x2 x3 x4 a n c x6 x7 x8 x9 x10 er, en = .returned (.tuple #[.agg #[.bool x0, .int .u8 x1, .int .u16 x2, .int .u32 x3, .int .u32 x4, .slice a n c, .bool x6, .int .u16 x7, .string x8, .string x9, .int .i64 x10], .int .i64 er])) ∧ New w w' := by
  refine (parse_small (S.extract 0 k) w (by rw [ByteArray.size_extract]; omega)).mono ?_
  rintro e w' ⟨v, rfl, hn, ho⟩
  obtain ⟨a, c, rfl⟩ := own_shape ho
  exact ⟨⟨_, _, _, _, _, a, _, c, _, _, _, _, _, _, rfl⟩, hn⟩

set_option maxRecDepth 100000 in
set_option maxHeartbeats 8000000 in
theorem cut_law (x0 : Bool) (x1 x2 x3 x4 : Int) (a : Option Addr) (n c : Nat) (z : Nat → Int) (x6 : Bool) (x7 : Int) (x8 x9 : ByteArray) (x10 : Int) (nn : Int) (w : World) (hok : args.packOk w x0 x1 x2 x3 x4 a n c z x6 x7 x8 x9 x10)
    (hnn1 : -9223372036854775808 ≤ nn) (hnn2 : nn ≤ 9223372036854775807) :
    Calls Try.prog 6 #[.agg #[.bool x0, .int .u8 x1, .int .u16 x2, .int .u32 x3, .int .u32 x4, .slice a n c, .bool x6, .int .u16 x7, .string x8, .string x9, .int .i64 x10], .int .i64 nn] w fun e w' => e = .returned (.bool true) ∧ Below w.heap.size w w' := by
  have hG := in_G hok
  obtain ⟨hrow, hnil, hnc, hcm⟩ := in_row hok
  have HFew := Lib.hid (fun w => few_any _ hG a n c (in_len x0 x1 x2 x3 x4 n z x6 x7 x8 x9 x10) hnc hcm hnil w)
  have hF := few_F hG
  generalize few (inP x0 x1 x2 x3 x4 n z x6 x7 x8 x9 x10) = f at *
  simp only [pc, inP] at HFew
  have HA := Lib.hid awake
  have HC := Lib.hid (fun w => check f hF a c w)
  have HROW := Lib.hid hrow
  clear hok hG hrow hnil hnc hcm
  have HV := Lib.hid (fun h => chk_V hF h)
  clear hF
  obtain ⟨mrk, typ, seq, time, ssrc, cs, ext, prof, data, pay, pad⟩ := f
  simp only [pc] at HC HFew
  generalize hcz : chk ⟨mrk, typ, seq, time, ssrc, cs, ext, prof, data, pay, pad⟩ = cz at *
  obtain ⟨nf, hnf⟩ : ∃ x, x = cs.length := ⟨_, rfl⟩
  rw [← hnf] at HC HFew
  have HNF := Lib.hid hnf
  clear hnf
  have HCZ := Lib.hid hcz
  clear hcz
  have hb1 := Blk.new w #[.bool x0, .int .u8 x1, .int .u16 x2, .int .u32 x3, .int .u32 x4, .slice a n c, .bool x6, .int .u16 x7, .string x8, .string x9, .int .i64 x10] PT
  have hn1 : New w (w.alloc (.cells #[.bool x0, .int .u8 x1, .int .u16 x2, .int .u32 x3, .int .u32 x4, .slice a n c, .bool x6, .int .u16 x7, .string x8, .string x9, .int .i64 x10] PT)) := (Turns.refl _ _).alloc _
  go_enter Try.func6, Try.ntmps6
  go_wp2_with fail
  generalize w.alloc (.cells #[.bool x0, .int .u8 x1, .int .u16 x2, .int .u32 x3, .int .u32 x4, .slice a n c, .bool x6, .int .u16 x7, .string x8, .string x9, .int .i64 x10] PT) = w1 at *
  refine (HFew.out _).mono ?_
  rintro e w2 ⟨rfl, hn2⟩
  have hb2 := hn2.blk hb1 (fun h => h)
  have hn2' : New w w2 := hn1.trans (hn2.mono (fun _ _ h => h.elim))
  clear hb1 hn1 hn2
  obtain ⟨d0, d1, d2, d3, d4, d5, d6, d7, d8, d9, d10⟩ := cells11 hb2
  obtain ⟨f0, f1, f2, f3, f4, f5, f6, f7, f8, f9, f10⟩ := frees11 hb2
  have hb3 := put11_blk hb2 (.bool mrk) (.int .u8 typ) (.int .u16 seq) (.int .u32 time) (.int .u32 ssrc) (.slice a nf c) (.bool ext) (.int .u16 prof) (.string data) (.string pay) (.int .i64 pad)
  have hn3 := put11_turns hn2' (.inr (Nat.le_refl _)) (.bool mrk) (.int .u8 typ) (.int .u16 seq) (.int .u32 time) (.int .u32 ssrc) (.slice a nf c) (.bool ext) (.int .u16 prof) (.string data) (.string pay) (.int .i64 pad)
  have H3 := Lib.hid (And.intro hb3 hn3)
  clear hb2 hn2' hb3 hn3
  go_wp2_with fail
  refine (show Calls _ _ _ (put11 w2 w.heap.size (.bool mrk) (.int .u8 typ) (.int .u16 seq) (.int .u32 time) (.int .u32 ssrc) (.slice a nf c) (.bool ext) (.int .u16 prof) (.string data) (.string pay) (.int .i64 pad)) _ from ?_)
  generalize put11 w2 w.heap.size (.bool mrk) (.int .u8 typ) (.int .u16 seq) (.int .u32 time) (.int .u32 ssrc) (.slice a nf c) (.bool ext) (.int .u16 prof) (.string data) (.string pay) (.int .i64 pad) = w3 at *
  clear d0 d1 d2 d3 d4 d5 d6 d7 d8 d9 d10 f0 f1 f2 f3 f4 f5 f6 f7 f8 f9 f10
  refine (HA.out _).mono ?_
  rintro e w4 ⟨rfl, hn4⟩
  have hb4 := hn4.blk H3.out.1 (fun h => h)
  have hn4' : New w w4 := H3.out.2.trans (hn4.mono (fun _ _ h => h.elim))
  clear hn4 H3
  obtain ⟨d0, d1, d2, d3, d4, d5, d6, d7, d8, d9, d10⟩ := cells11 hb4
  have H4 := Lib.hid (And.intro hb4 hn4')
  clear hb4 hn4'
  go_wp2_with fail
  refine (HC.out _).mono ?_
  rintro e w5 ⟨rfl, hn5⟩
  have hb5 := hn5.blk H4.out.1 (fun h => h)
  have hn5' : New w w5 := H4.out.2.trans (hn5.mono (fun _ _ h => h.elim))
  have hlt5 := hb5.lt
  clear hn5 H4 d0 d1 d2 d3 d4 d5 d6 d7 d8 d9 d10
  obtain ⟨d0, d1, d2, d3, d4, d5, d6, d7, d8, d9, d10⟩ := cells11 hb5
  have H5 := Lib.hid (And.intro hb5 hn5')
  clear hb5 hn5'
  by_cases hcz : cz = 0
  · subst hcz
    have hV := HV.out rfl
    have hL := tx_length _ hV
    have hlen15 : (tx ⟨mrk, typ, seq, time, ssrc, cs, ext, prof, data, pay, pad⟩).length ≤ 1500 := by
      have hl := hV.len
      have hp := hV.pad
      unfold lenI at hL
      simp only at hl hp hL
      split at hL <;> rename_i he <;> simp only [he, if_true, Bool.false_eq_true, if_false] at hl <;> omega
    have HT1 := Lib.hid (fun W (h : New w W) => text ⟨mrk, typ, seq, time, ssrc, cs, ext, prof, data, pay, pad⟩ hV a c W (Row.new HROW.out h))
    have hH := hd_length _ hV
    have hpd := hV.pad
    obtain ⟨S, hS, hSs⟩ : ∃ S : ByteArray, S = ⟨(tx ⟨mrk, typ, seq, time, ssrc, cs, ext, prof, data, pay, pad⟩).toArray⟩ ∧ S.size = (tx ⟨mrk, typ, seq, time, ssrc, cs, ext, prof, data, pay, pad⟩).length := ⟨_, rfl, size_mk _⟩
    rw [← hS] at HT1
    simp only [pc] at HT1
    rw [← HNF.out] at HT1
    obtain ⟨H, hHe⟩ : ∃ H, H = (hd ⟨mrk, typ, seq, time, ssrc, cs, ext, prof, data, pay, pad⟩).length := ⟨_, rfl⟩
    rw [← hHe] at hH
    rw [← hL] at hH
    rw [← hSs] at hH hlen15
    have hHd := Lib.hid hHe
    have hSd := Lib.hid hS
    have hVd := Lib.hid hV
    have HS1 := Lib.hid (fun W (h : New w W) => Row.new HROW.out h)
    simp only at hH hpd
    clear hHe hS hV hL hSs HV HCZ HC HFew
    obtain ⟨r, hr, hr1, hr2⟩ : ∃ r : Int, nn.tmod ((S.size : Int) + 1) = r ∧ -(S.size : Int) ≤ r ∧ r ≤ S.size := by
      refine ⟨_, rfl, ?_, ?_⟩
      · have := Int.natAbs_tmod nn ((S.size : Int) + 1)
        have h2 := Nat.mod_lt nn.natAbs (show 0 < ((S.size : Int) + 1).natAbs by omega)
        omega
      · have := Int.tmod_lt_of_pos nn (show 0 < (S.size : Int) + 1 by omega)
        omega
    obtain ⟨k, hk, hkl⟩ : ∃ k : Nat, (r + (S.size : Int) + 1).tmod ((S.size : Int) + 1) = (k : Int) ∧ k ≤ S.size := by
      have h1 := Int.tmod_nonneg ((S.size : Int) + 1) (show 0 ≤ r + (S.size : Int) + 1 by omega)
      have h2 := Int.tmod_lt_of_pos (r + (S.size : Int) + 1) (show 0 < (S.size : Int) + 1 by omega)
      exact ⟨((r + (S.size : Int) + 1).tmod ((S.size : Int) + 1)).toNat, by omega, by omega⟩
    go_wp2_with fail
    refine (HT1.out _ H5.out.2).mono ?_
    rintro e w6 ⟨rfl, hn6⟩
    have hb6 := hn6.blk H5.out.1 (fun h => h)
    have hn6' : New w w6 := H5.out.2.trans (hn6.mono (fun _ _ h => h.elim))
    clear hn6 H5 d0 d1 d2 d3 d4 d5 d6 d7 d8 d9 d10 HT1
    obtain ⟨d0, d1, d2, d3, d4, d5, d6, d7, d8, d9, d10⟩ := cells11 hb6
    have H6 := Lib.hid (And.intro hb6 hn6')
    clear hb6 hn6'
    by_cases hkH : k < H
    · have HP := Lib.hid (fun W => parse_head _ hVd.out S hSd.out hlen15 k (by rw [← hHd.out]; exact hkH) W)
      have hlt : (k : Int) < (S.size : Int) - (pay.size : Int) - pad := by omega
      have hpay : (pay.size : Int) ≤ 1500 := by omega
      clear hkH hVd hSd hHd HS1 HROW hH
      have HZ := Lib.hid same_zero
      go_wp2_with fail
      refine (HP.out _).mono ?_
      rintro e w7 ⟨⟨a7, c7, rfl⟩, hn7⟩
      have hn7' : New w w7 := H6.out.2.trans (hn7.mono (fun _ _ h => h.elim))
      clear hn7 H6 d0 d1 d2 d3 d4 d5 d6 d7 d8 d9 d10 HP
      go_wp2_with fail
      refine (HZ.out _ _ _).mono ?_
      rintro e w8 ⟨rfl, hn8⟩
      have hn8' := (hn7'.alloc (.cells #[.bool false, .int .u8 0, .int .u16 0, .int .u32 0, .int .u32 0, .slice a7 0 c7, .bool false, .int .u16 0, .string ⟨#[]⟩, .string ⟨#[]⟩, .int .i64 0] PT)).trans (hn8.mono (fun _ _ h => h.elim))
      clear hn8 hn7' HZ
      go_wp2_with fail
      go_ret
      exact ⟨rfl, hn8'.below (Nat.le_refl _) (fun _ _ h => h.elim)⟩
    · by_cases hp0 : 0 < pad
      · have HP := Lib.hid (fun W => parse_any S hlen15 k W)
        have hlt : ¬ (k : Int) < (S.size : Int) - (pay.size : Int) - pad := by omega
        have hpay : (pay.size : Int) ≤ 1500 := by omega
        clear hkH hVd hSd hHd HS1 HROW hH
        go_wp2_with fail
        refine (HP.out _).mono ?_
        rintro e w7 ⟨⟨y0, y1, y2, y3, y4, a7, n7, c7, y6, y7, y8, y9, y10, er, rfl⟩, hn7⟩
        have hb7 := hn7.blk H6.out.1 (fun h => h)
        have hn7' : New w w7 := H6.out.2.trans (hn7.mono (fun _ _ h => h.elim))
        have hb8 := hb7.alloc (.cells #[.bool y0, .int .u8 y1, .int .u16 y2, .int .u32 y3, .int .u32 y4, .slice a7 n7 c7, .bool y6, .int .u16 y7, .string y8, .string y9, .int .i64 y10] PT)
        have hn8 := hn7'.alloc (.cells #[.bool y0, .int .u8 y1, .int .u16 y2, .int .u32 y3, .int .u32 y4, .slice a7 n7 c7, .bool y6, .int .u16 y7, .string y8, .string y9, .int .i64 y10] PT)
        clear hn7 H6 d0 d1 d2 d3 d4 d5 d6 d7 d8 d9 d10 HP hb7 hn7'
        go_upto_region 10 with fail
        generalize w7.alloc (.cells #[.bool y0, .int .u8 y1, .int .u16 y2, .int .u32 y3, .int .u32 y4, .slice a7 n7 c7, .bool y6, .int .u16 y7, .string y8, .string y9, .int .i64 y10] PT) = w8 at *
        obtain ⟨d0, d1, d2, d3, d4, d5, d6, d7, d8, d9, d10⟩ := cells11 hb8
        have HN8 := Lib.hid hn8
        clear hb8 hn8
        go_wp2_with fail
        go_ret
        exact ⟨rfl, HN8.out.below (Nat.le_refl _) (fun _ _ h => h.elim)⟩
      · obtain ⟨m, hm⟩ : ∃ m : Nat, k = H + m := ⟨k - H, by omega⟩
        have hpz : pad = 0 := by omega
        subst hpz
        have HP := Lib.hid (fun W => parse_tail _ hVd.out S hSd.out hlen15 k m rfl (by rw [← hHd.out]; exact hm) W)
        have hmp : (m : Int) ≤ (pay.size : Int) := by omega
        have hlt : ¬ (k : Int) < (S.size : Int) - (pay.size : Int) - 0 := by omega
        have hlt' : ¬ (k : Int) < (S.size : Int) - (pay.size : Int) := by omega
        have hpay : (pay.size : Int) ≤ 1500 := by omega
        have hme : (k : Int) - ((S.size : Int) - (pay.size : Int)) = (m : Int) := by omega
        have hcn := hVd.out.csn
        obtain ⟨P2, hP2⟩ : ∃ P2, P2 = pay.extract 0 m := ⟨_, rfl⟩
        have HSM := Lib.hid (fun a a' c c' W h h' => same (cutP ⟨mrk, typ, seq, time, ssrc, cs, ext, prof, data, pay, 0⟩ m) a a' c c' W h h' (show cs.length ≤ 1000 by simp only at hcn; omega))
        simp only [pc, cutP] at HP HSM
        rw [← HNF.out] at HP HSM
        rw [← hP2] at HP HSM
        have HP2 := Lib.hid hP2
        have HTO := Lib.hid told
        clear hkH hVd hSd hHd HROW hH hm hP2 hcn hp0
        go_wp2_with fail
        refine (HP.out _).mono ?_
        rintro e w7 ⟨⟨a7, c7, rfl, hr7⟩, hn7⟩
        have hb7 := hn7.blk H6.out.1 (fun h => h)
        have hn7' : New w w7 := H6.out.2.trans (hn7.mono (fun _ _ h => h.elim))
        have hb8 := hb7.alloc (.cells #[.bool mrk, .int .u8 typ, .int .u16 seq, .int .u32 time, .int .u32 ssrc, .slice a7 nf c7, .bool ext, .int .u16 prof, .string data, .string P2, .int .i64 0] PT)
        have hq8 := Blk.new w7 #[.bool mrk, .int .u8 typ, .int .u16 seq, .int .u32 time, .int .u32 ssrc, .slice a7 nf c7, .bool ext, .int .u16 prof, .string data, .string P2, .int .i64 0] PT
        have hlt7 := hb7.lt
        have hk8 : New w7 (w7.alloc (.cells #[.bool mrk, .int .u8 typ, .int .u16 seq, .int .u32 time, .int .u32 ssrc, .slice a7 nf c7, .bool ext, .int .u16 prof, .string data, .string P2, .int .i64 0] PT)) := (Turns.refl _ _).alloc _
        have hn8 := hn7'.alloc (.cells #[.bool mrk, .int .u8 typ, .int .u16 seq, .int .u32 time, .int .u32 ssrc, .slice a7 nf c7, .bool ext, .int .u16 prof, .string data, .string P2, .int .i64 0] PT)
        have hr8 := hr7.new hk8
        clear hn7 H6 d0 d1 d2 d3 d4 d5 d6 d7 d8 d9 d10 HP hb7 hn7' hr7 hk8
        go_upto_region 8 with fail
        generalize w7.alloc (.cells #[.bool mrk, .int .u8 typ, .int .u16 seq, .int .u32 time, .int .u32 ssrc, .slice a7 nf c7, .bool ext, .int .u16 prof, .string data, .string P2, .int .i64 0] PT) = w8 at *
        generalize w7.heap.size = p7 at *
        obtain ⟨d0, d1, d2, d3, d4, d5, d6, d7, d8, d9, d10⟩ := cells11 hb8
        have HN8 := Lib.hid (And.intro hb8 (And.intro hq8 (And.intro hn8 hr8)))
        clear hb8 hn8 hq8 hr8
        go_wp2_with fail
        refine (HTO.out _ _ _ _ _ _ _ _ _ _ _ _ _ _).mono ?_
        rintro e w9 ⟨rfl, hn9⟩
        have H9 := Lib.hid (And.intro (hn9.blk HN8.out.1 (fun h => h)) (And.intro (hn9.blk HN8.out.2.1 (fun h => h)) (And.intro (HN8.out.2.2.1.trans (hn9.mono (fun _ _ h => h.elim))) (HN8.out.2.2.2.new hn9))))
        clear HN8 hn9 HTO d0 d1 d2 d3 d4 d5 d6 d7 d8 d9 d10
        go_upto_region 13 with fail
        have hlt9 := H9.out.1.lt
        have hlq9 := H9.out.2.1.lt
        have hk10 : New w9 (w9.alloc (.cells #[.bool mrk, .int .u8 typ, .int .u16 seq, .int .u32 time, .int .u32 ssrc, .slice a nf c, .bool ext, .int .u16 prof, .string data, .string pay, .int .i64 0] QT)) := (Turns.refl _ _).alloc _
        have hw10 := Blk.new w9 #[.bool mrk, .int .u8 typ, .int .u16 seq, .int .u32 time, .int .u32 ssrc, .slice a nf c, .bool ext, .int .u16 prof, .string data, .string pay, .int .i64 0] QT
        have H10 := Lib.hid (And.intro (hk10.blk H9.out.1 (fun h => h)) (And.intro (hk10.blk H9.out.2.1 (fun h => h)) (And.intro (H9.out.2.2.1.trans (hk10.mono (fun _ _ h => h.elim))) (H9.out.2.2.2.new hk10))))
        have hne1 : w9.heap.size ≠ w.heap.size := by omega
        have hne2 : w9.heap.size ≠ p7 := by omega
        have hge := H9.out.2.2.1.size
        have HK := Lib.hid (And.intro hk10 (And.intro (Nat.le_refl w9.heap.size) H9.out.2.2.2))
        clear hk10 H9
        generalize w9.alloc (.cells #[.bool mrk, .int .u8 typ, .int .u16 seq, .int .u32 time, .int .u32 ssrc, .slice a nf c, .bool ext, .int .u16 prof, .string data, .string pay, .int .i64 0] QT) = w10 at *
        generalize hp9 : w9.heap.size = p9 at *
        have HP9 := Lib.hid (Nat.le_of_eq hp9)
        clear hp9
        obtain ⟨d0, d1, d2, d3, d4, d5, d6, d7, d8, d9, d10⟩ := cells11 H10.out.1
        obtain ⟨e0, e1, e2, e3, e4, e5, e6, e7, e8, e9, e10⟩ := cells11 hw10
        obtain ⟨f0, f1, f2, f3, f4, f5, f6, f7, f8, f9, f10⟩ := frees11 hw10
        have HW10 := Lib.hid hw10
        have HNE := Lib.hid (And.intro hne1 (And.intro hne2 hge))
        have hPe : pay.extract 0 m = P2 := HP2.out.symm
        clear hw10 hne1 hne2 hge hlt9 hlq9
        go_upto_region 14 with fail
        have hk11 := (Turns.refl (· = p9) w10).setCell (p := ⟨p9, 9, none⟩) (.inl rfl) (.string P2)
        have H11 := Lib.hid (And.intro (hk11.blk H10.out.2.1 (fun h => HNE.out.2.1 h.symm)) (And.intro (HW10.out.set 9 (.string P2)) (H10.out.2.2.1.setCell (p := ⟨p9, 9, none⟩) (.inr HNE.out.2.2) (.string P2))))
        have HR11 := Lib.hid (And.intro (HK.out.2.2.new (HK.out.1.setCell (p := ⟨p9, 9, none⟩) (.inr HP9.out) (.string P2))) (HS1.out _ H11.out.2.2))
        generalize w10.setCell ⟨p9, 9, none⟩ (.string P2) = w11 at *
        clear hk11 H10 HW10 HNE HK HS1 d0 d1 d2 d3 d4 d5 d6 d7 d8 d9 d10 e0 e1 e2 e3 e4 e5 e6 e7 e8 e9 e10 f0 f1 f2 f3 f4 f5 f6 f7 f8 f9 f10
        obtain ⟨d0, d1, d2, d3, d4, d5, d6, d7, d8, d9, d10⟩ := cells11 H11.out.1
        have hwb : Blk w11 p9 #[.bool mrk, .int .u8 typ, .int .u16 seq, .int .u32 time, .int .u32 ssrc, .slice a nf c, .bool ext, .int .u16 prof, .string data, .string P2, .int .i64 0] QT := H11.out.2.1
        obtain ⟨e0, e1, e2, e3, e4, e5, e6, e7, e8, e9, e10⟩ := cells11 hwb
        clear hwb
        go_wp2_with fail
        refine (HSM.out _ _ _ _ _ HR11.out.1 HR11.out.2).mono ?_
        rintro e w12 ⟨rfl, hn12⟩
        have hn12' := H11.out.2.2.trans (hn12.mono (fun _ _ h => h.elim))
        clear hn12 H11 HR11 HSM d0 d1 d2 d3 d4 d5 d6 d7 d8 d9 d10 e0 e1 e2 e3 e4 e5 e6 e7 e8 e9 e10
        go_wp2_with fail
        go_ret
        exact ⟨rfl, hn12'.below (Nat.le_refl _) (fun _ _ h => h.elim)⟩
  · have hzb : (cz != 0) = true := by simp [hcz]
    clear hcz d0 d1 d2 d3 d4 d5 d6 d7 d8 d9 d10
    go_wp2_with fail
    refine (HA.out _).mono ?_
    rintro e w6 ⟨rfl, hn6⟩
    go_wp2
    go_ret
    exact ⟨rfl, (H5.out.2.trans (hn6.mono (fun _ _ h => h.elim))).below (Nat.le_refl _) (fun _ _ h => h.elim)⟩
end Go.Proofs.Ytkpmdaknojlkjaa.rp
