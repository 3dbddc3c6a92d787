/-
  RtpChecks: which packets are valid.
-/
import Derived.Test.YtkpmdaknojlkjaaRpFieldsMath
import Derived.Test.YtkpmdaknojlkjaaRpCutLaw
import Derived.Test.YtkpmdaknojlkjaaRpRefCheck
namespace Go.Proofs.Ytkpmdaknojlkjaa.rp
open Go.RowKit mem rd wr oref sq
set_option linter.unusedVariables false

theorem parse_whole (p : P) (hv : V p) (S : ByteArray) (hS : S = ⟨(tx p).toArray⟩) (hl : S.size ≤ 1500) (w : World) :
    Calls Try.prog 23 #[.string S] w fun en w' => (∃ a c, en = .returned (.tuple #[.agg (pc p (.slice a p.cs.length c)), .int .i64 0]) ∧ Row w' a p.cs) ∧ New w w' := by
  subst hS
  obtain ⟨e1, e2⟩ := parse_text p hv
  refine (parse_small ⟨(tx p).toArray⟩ w hl).mono ?_
  rintro e w' ⟨v, rfl, hn, ho⟩
  simp only [e1, e2] at ho ⊢
  obtain ⟨a, c, rfl, hr⟩ := own_row ho
  exact ⟨⟨a, c, rfl, hr⟩, hn⟩

/-- two blocks of eleven cells -/
def Held2 (w w' : World) (b d : Nat) (a0 a1 a2 a3 a4 a5 a6 a7 a8 a9 a10 e0 e1 e2 e3 e4 e5 e6 e7 e8 e9 e10 : Value) : Prop :=
  New w w' ∧ b < w'.heap.size ∧ d < w'.heap.size ∧ w'.cell? ⟨b, 0, none⟩ = some a0 ∧ w'.cell? ⟨b, 1, none⟩ = some a1 ∧ w'.cell? ⟨b, 2, none⟩ = some a2 ∧ w'.cell? ⟨b, 3, none⟩ = some a3 ∧ w'.cell? ⟨b, 4, none⟩ = some a4 ∧ w'.cell? ⟨b, 5, none⟩ = some a5 ∧ w'.cell? ⟨b, 6, none⟩ = some a6 ∧ w'.cell? ⟨b, 7, none⟩ = some a7 ∧ w'.cell? ⟨b, 8, none⟩ = some a8 ∧ w'.cell? ⟨b, 9, none⟩ = some a9 ∧ w'.cell? ⟨b, 10, none⟩ = some a10
  ∧ w'.cell? ⟨d, 0, none⟩ = some e0 ∧ w'.cell? ⟨d, 1, none⟩ = some e1 ∧ w'.cell? ⟨d, 2, none⟩ = some e2 ∧ w'.cell? ⟨d, 3, none⟩ = some e3 ∧ w'.cell? ⟨d, 4, none⟩ = some e4 ∧ w'.cell? ⟨d, 5, none⟩ = some e5 ∧ w'.cell? ⟨d, 6, none⟩ = some e6 ∧ w'.cell? ⟨d, 7, none⟩ = some e7 ∧ w'.cell? ⟨d, 8, none⟩ = some e8 ∧ w'.cell? ⟨d, 9, none⟩ = some e9 ∧ w'.cell? ⟨d, 10, none⟩ = some e10
theorem held2_of {w w' : World} {b d : Nat} {a0 a1 a2 a3 a4 a5 a6 a7 a8 a9 a10 e0 e1 e2 e3 e4 e5 e6 e7 e8 e9 e10 : Value} {t t' : TypeId} (hn : New w w') (h : Blk w' b #[a0, a1, a2, a3, a4, a5, a6, a7, a8, a9, a10] t) (k : Blk w' d #[e0, e1, e2, e3, e4, e5, e6, e7, e8, e9, e10] t') :
    Held2 w w' b d a0 a1 a2 a3 a4 a5 a6 a7 a8 a9 a10 e0 e1 e2 e3 e4 e5 e6 e7 e8 e9 e10 :=
  ⟨hn, h.lt, k.lt, h.cell 0, h.cell 1, h.cell 2, h.cell 3, h.cell 4, h.cell 5, h.cell 6, h.cell 7, h.cell 8, h.cell 9, h.cell 10, k.cell 0, k.cell 1, k.cell 2, k.cell 3, k.cell 4, k.cell 5, k.cell 6, k.cell 7, k.cell 8, k.cell 9, k.cell 10⟩
theorem held2_nw {w w' : World} {b d : Nat} {a0 a1 a2 a3 a4 a5 a6 a7 a8 a9 a10 e0 e1 e2 e3 e4 e5 e6 e7 e8 e9 e10 : Value} (h : Held2 w w' b d a0 a1 a2 a3 a4 a5 a6 a7 a8 a9 a10 e0 e1 e2 e3 e4 e5 e6 e7 e8 e9 e10) : New w w' := h.1
theorem held2_drew {w w' : World} {b d : Nat} {a0 a1 a2 a3 a4 a5 a6 a7 a8 a9 a10 e0 e1 e2 e3 e4 e5 e6 e7 e8 e9 e10 : Value} (h : Held2 w w' b d a0 a1 a2 a3 a4 a5 a6 a7 a8 a9 a10 e0 e1 e2 e3 e4 e5 e6 e7 e8 e9 e10) : Held2 w w'.drew b d a0 a1 a2 a3 a4 a5 a6 a7 a8 a9 a10 e0 e1 e2 e3 e4 e5 e6 e7 e8 e9 e10 := by
  obtain ⟨hn, hl, hk, hh⟩ := h
  exact ⟨hn.drew, hl, hk, hh⟩
theorem held2_new {w w1 w2 : World} {b d : Nat} {a0 a1 a2 a3 a4 a5 a6 a7 a8 a9 a10 e0 e1 e2 e3 e4 e5 e6 e7 e8 e9 e10 : Value} (k : New w1 w2) (h : Held2 w w1 b d a0 a1 a2 a3 a4 a5 a6 a7 a8 a9 a10 e0 e1 e2 e3 e4 e5 e6 e7 e8 e9 e10) : Held2 w w2 b d a0 a1 a2 a3 a4 a5 a6 a7 a8 a9 a10 e0 e1 e2 e3 e4 e5 e6 e7 e8 e9 e10 := by
  obtain ⟨hn, hl, hk, h0, h1, h2, h3, h4, h5, h6, h7, h8, h9, h10, i0, i1, i2, i3, i4, i5, i6, i7, i8, i9, i10⟩ := h
  have c := fun i => k.cell (a := ⟨b, i, none⟩) hl (fun h => h)
  have f := fun i => k.cell (a := ⟨d, i, none⟩) hk (fun h => h)
  exact ⟨hn.trans (k.mono (fun _ _ h => h.elim)), Nat.lt_of_lt_of_le hl k.size, Nat.lt_of_lt_of_le hk k.size, (c 0).trans h0, (c 1).trans h1, (c 2).trans h2, (c 3).trans h3, (c 4).trans h4, (c 5).trans h5, (c 6).trans h6, (c 7).trans h7, (c 8).trans h8, (c 9).trans h9, (c 10).trans h10,
    (f 0).trans i0, (f 1).trans i1, (f 2).trans i2, (f 3).trans i3, (f 4).trans i4, (f 5).trans i5, (f 6).trans i6, (f 7).trans i7, (f 8).trans i8, (f 9).trans i9, (f 10).trans i10⟩
theorem V_T {p : P} (h : V p) : T p := by
  have h1 := h.len
  have h2 := h.none
  refine ⟨h.typ, h.seq, h.time, h.ssrc, h.cs, h.csn, h.prof, h.pad, ?_, by omega⟩
  by_cases he : p.ext = true
  · rw [if_pos he] at h1; omega
  · have := (h2 (by simpa using he)).2; omega

set_option maxRecDepth 100000 in
set_option maxHeartbeats 8000000 in
theorem checks_law (x0 : Bool) (x1 x2 x3 x4 : Int) (a : Option Addr) (n c : Nat) (z : Nat → Int) (x6 : Bool) (x7 : Int) (x8 x9 : ByteArray) (x10 : Int) (w : World) (hok : args.packOk w x0 x1 x2 x3 x4 a n c z x6 x7 x8 x9 x10) :
    Calls Try.prog 5 #[.agg #[.bool x0, .int .u8 x1, .int .u16 x2, .int .u32 x3, .int .u32 x4, .slice a n c, .bool x6, .int .u16 x7, .string x8, .string x9, .int .i64 x10]] w fun e w' => e = .returned (.bool true) ∧ Below w.heap.size w w' := by
  have hG := in_G hok
  obtain ⟨hrow, hnil, hnc, hcm⟩ := in_row hok
  have HFew := Lib.hid (fun w => few_any _ hG a n c (in_len x0 x1 x2 x3 x4 n z x6 x7 x8 x9 x10) hnc hcm hnil w)
  have hF := few_F hG
  generalize few (inP x0 x1 x2 x3 x4 n z x6 x7 x8 x9 x10) = f at *
  simp only [pc, inP] at HFew
  have HA := Lib.hid awake
  have HTO := Lib.hid told
  have HC := Lib.hid (fun w => check f hF a c w)
  have HROW := Lib.hid hrow
  have HRC := Lib.hid (fun W (h : New w W) => rcheck f hF a c W (Row.new hrow h))
  clear hok hG hrow hnil hnc hcm
  have HV := Lib.hid (fun h => chk_V hF h)
  clear hF
  obtain ⟨mrk, typ, seq, time, ssrc, cs, ext, prof, data, pay, pad⟩ := f
  simp only [pc] at HC HFew HRC
  generalize hcz : chk ⟨mrk, typ, seq, time, ssrc, cs, ext, prof, data, pay, pad⟩ = cz at *
  obtain ⟨nf, hnf⟩ : ∃ x, x = cs.length := ⟨_, rfl⟩
  rw [← hnf] at HC HFew HRC
  have HNF := Lib.hid hnf
  clear hnf
  have HCZ := Lib.hid hcz
  clear hcz
  have hb1 := Blk.new w #[.bool x0, .int .u8 x1, .int .u16 x2, .int .u32 x3, .int .u32 x4, .slice a n c, .bool x6, .int .u16 x7, .string x8, .string x9, .int .i64 x10] PT
  have hn1 : New w (w.alloc (.cells #[.bool x0, .int .u8 x1, .int .u16 x2, .int .u32 x3, .int .u32 x4, .slice a n c, .bool x6, .int .u16 x7, .string x8, .string x9, .int .i64 x10] PT)) := (Turns.refl _ _).alloc _
  go_enter Try.func5, Try.ntmps5
  go_wp2_with fail
  generalize w.alloc (.cells #[.bool x0, .int .u8 x1, .int .u16 x2, .int .u32 x3, .int .u32 x4, .slice a n c, .bool x6, .int .u16 x7, .string x8, .string x9, .int .i64 x10] PT) = w1 at *
  refine (HFew.out _).mono ?_
  rintro e w2 ⟨rfl, hn2⟩
  have hb2 := hn2.blk hb1 (fun h => h)
  have hn2' : New w w2 := hn1.trans (hn2.mono (fun _ _ h => h.elim))
  clear hb1 hn1 hn2
  obtain ⟨d0, d1, d2, d3, d4, d5, d6, d7, d8, d9, d10⟩ := cells11 hb2
  obtain ⟨f0, f1, f2, f3, f4, f5, f6, f7, f8, f9, f10⟩ := frees11 hb2
  have hb3 := put11_blk hb2 (.bool mrk) (.int .u8 typ) (.int .u16 seq) (.int .u32 time) (.int .u32 ssrc) (.slice a nf c) (.bool ext) (.int .u16 prof) (.string data) (.string pay) (.int .i64 pad)
  have hn3 := put11_turns hn2' (.inr (Nat.le_refl _)) (.bool mrk) (.int .u8 typ) (.int .u16 seq) (.int .u32 time) (.int .u32 ssrc) (.slice a nf c) (.bool ext) (.int .u16 prof) (.string data) (.string pay) (.int .i64 pad)
  have H3 := Lib.hid (And.intro hb3 hn3)
  clear hb2 hn2' hb3 hn3
  go_wp2_with fail
  refine (show Calls _ _ _ (put11 w2 w.heap.size (.bool mrk) (.int .u8 typ) (.int .u16 seq) (.int .u32 time) (.int .u32 ssrc) (.slice a nf c) (.bool ext) (.int .u16 prof) (.string data) (.string pay) (.int .i64 pad)) _ from ?_)
  generalize put11 w2 w.heap.size (.bool mrk) (.int .u8 typ) (.int .u16 seq) (.int .u32 time) (.int .u32 ssrc) (.slice a nf c) (.bool ext) (.int .u16 prof) (.string data) (.string pay) (.int .i64 pad) = w3 at *
  clear d0 d1 d2 d3 d4 d5 d6 d7 d8 d9 d10 f0 f1 f2 f3 f4 f5 f6 f7 f8 f9 f10
  refine (HC.out _).mono ?_
  rintro e w5 ⟨rfl, hn5⟩
  have H5 := Lib.hid (And.intro (hn5.blk H3.out.1 (fun h => h)) (H3.out.2.trans (hn5.mono (fun _ _ h => h.elim))))
  clear hn5 H3
  go_wp2_with fail
  refine (HA.out _).mono ?_
  rintro e w6 ⟨rfl, hn6⟩
  have hb6 := hn6.blk H5.out.1 (fun h => h)
  have H6 := Lib.hid (And.intro hb6 (H5.out.2.trans (hn6.mono (fun _ _ h => h.elim))))
  clear hn6 H5
  obtain ⟨d0, d1, d2, d3, d4, d5, d6, d7, d8, d9, d10⟩ := cells11 hb6
  clear hb6
  go_wp2_with fail
  refine (HTO.out _ _ _ _ _ _ _ _ _ _ _ _ _ _).mono ?_
  rintro e w7 ⟨rfl, hn7⟩
  have H7 := Lib.hid (And.intro (hn7.blk H6.out.1 (fun h => h)) (H6.out.2.trans (hn7.mono (fun _ _ h => h.elim))))
  clear hn7 H6 d0 d1 d2 d3 d4 d5 d6 d7 d8 d9 d10
  go_wp2_with fail
  refine (HRC.out _ H7.out.2).mono ?_
  rintro e w8 ⟨rfl, hn8⟩
  have hb8 := hn8.blk H7.out.1 (fun h => h)
  have H8 := Lib.hid (And.intro hb8 (H7.out.2.trans (hn8.mono (fun _ _ h => h.elim))))
  clear hn8 H7 HRC
  obtain ⟨d0, d1, d2, d3, d4, d5, d6, d7, d8, d9, d10⟩ := cells11 hb8
  clear hb8
  by_cases hcz : cz = 0
  · subst hcz
    have hV := HV.out rfl
    have hL := tx_length _ hV
    have hlen15 : (tx ⟨mrk, typ, seq, time, ssrc, cs, ext, prof, data, pay, pad⟩).length ≤ 1500 := by
      have hl := hV.len
      have hp := hV.pad
      unfold lenI at hL
      simp only at hl hp hL
      split at hL <;> rename_i he <;> simp only [he, if_true, Bool.false_eq_true, if_false] at hl <;> omega
    have hpd := hV.pad
    have hcn := hV.csn
    have hpy : pay.size ≤ 1500 ∧ data.size ≤ 1500 := ⟨(V_T hV).pay, (V_T hV).data⟩
    have HT1 := Lib.hid (fun W (h : New w W) => text ⟨mrk, typ, seq, time, ssrc, cs, ext, prof, data, pay, pad⟩ hV a c W (Row.new HROW.out h))
    have HT2 := Lib.hid (fun W (h : New w W) => rtext ⟨mrk, typ, seq, time, ssrc, cs, ext, prof, data, pay, pad⟩ (V_T hV) a c W (Row.new HROW.out h))
    simp only at hpd hcn
    have HLn := Lib.hid (fun W => len_any ⟨mrk, typ, seq, time, ssrc, cs, ext, prof, data, pay, pad⟩ a c W (by simp only; omega) (by simp only; omega) (by simp only; omega) (by simp only; omega) (by simp only; omega))
    have HSM := Lib.hid (fun a' c' W (h : Row W a' cs) (k : New w W) => same ⟨mrk, typ, seq, time, ssrc, cs, ext, prof, data, pay, pad⟩ a' a c' c W h (Row.new HROW.out k) (by simp only; omega))
    obtain ⟨S, hS, hSs⟩ : ∃ S : ByteArray, S = ⟨(tx ⟨mrk, typ, seq, time, ssrc, cs, ext, prof, data, pay, pad⟩).toArray⟩ ∧ S.size = (tx ⟨mrk, typ, seq, time, ssrc, cs, ext, prof, data, pay, pad⟩).length := ⟨_, rfl, size_mk _⟩
    rw [← hSs] at hL hlen15
    have HPW := Lib.hid (fun W => parse_whole _ hV S hS hlen15 W)
    rw [← hS] at HT1 HT2
    rw [← hL] at HLn
    simp only [pc] at HT1 HT2 HLn HSM HPW
    rw [← HNF.out] at HT1 HT2 HLn HSM HPW
    have rS : (S.toList == S.toList) = true := by simp
    clear hV hL hSs hS HV HCZ HC HFew HA hpd hcn hpy
    go_wp2_with fail
    refine (HT1.out _ H8.out.2).mono ?_
    rintro e w9 ⟨rfl, hn9⟩
    have H9 := Lib.hid (And.intro (hn9.blk H8.out.1 (fun h => h)) (H8.out.2.trans (hn9.mono (fun _ _ h => h.elim))))
    clear hn9 H8 d0 d1 d2 d3 d4 d5 d6 d7 d8 d9 d10
    go_wp2_with fail
    refine (HPW.out _).mono ?_
    rintro e w10 ⟨⟨a7, c7, rfl, hr7⟩, hn10⟩
    have hb10 := hn10.blk H9.out.1 (fun h => h)
    have hk11 : New w10 (w10.alloc (.cells #[.bool mrk, .int .u8 typ, .int .u16 seq, .int .u32 time, .int .u32 ssrc, .slice a7 nf c7, .bool ext, .int .u16 prof, .string data, .string pay, .int .i64 pad] PT)) := (Turns.refl _ _).alloc _
    have hb11 := hk11.blk hb10 (fun h => h)
    have hq11 := Blk.new w10 #[.bool mrk, .int .u8 typ, .int .u16 seq, .int .u32 time, .int .u32 ssrc, .slice a7 nf c7, .bool ext, .int .u16 prof, .string data, .string pay, .int .i64 pad] PT
    have hr11 := Row.new hr7 hk11
    have hn11 := (H9.out.2.trans (hn10.mono (fun _ _ h => h.elim))).trans (hk11.mono (fun _ _ h => h.elim))
    clear hn10 H9 hr7 hb10 hk11
    go_upto_region 9 with fail
    generalize w10.alloc (.cells #[.bool mrk, .int .u8 typ, .int .u16 seq, .int .u32 time, .int .u32 ssrc, .slice a7 nf c7, .bool ext, .int .u16 prof, .string data, .string pay, .int .i64 pad] PT) = w11 at *
    generalize w10.heap.size = pq at *
    generalize w.heap.size = pd at *
    have HN11 := Lib.hid hn11
    have hh := held2_of (Turns.refl (fun _ => False) w11) hb11 hq11
    have HR11 := Lib.hid (fun W (k : New w11 W) => Row.new hr11 k)
    have HN := Lib.hid (fun W (k : New w11 W) => hn11.trans (k.mono (fun _ _ h => h.elim)))
    clear hn11 hb11 hq11 hr11
    go_region_held3 (fun w' => New w11 w' ∧ pd < w'.heap.size ∧ pq < w'.heap.size ∧ w'.cell? ⟨pd, 0, none⟩ = some (.bool mrk) ∧ w'.cell? ⟨pd, 1, none⟩ = some (.int .u8 typ) ∧ w'.cell? ⟨pd, 2, none⟩ = some (.int .u16 seq) ∧ w'.cell? ⟨pd, 3, none⟩ = some (.int .u32 time) ∧ w'.cell? ⟨pd, 4, none⟩ = some (.int .u32 ssrc) ∧ w'.cell? ⟨pd, 5, none⟩ = some (.slice a nf c) ∧ w'.cell? ⟨pd, 6, none⟩ = some (.bool ext) ∧ w'.cell? ⟨pd, 7, none⟩ = some (.int .u16 prof) ∧ w'.cell? ⟨pd, 8, none⟩ = some (.string data) ∧ w'.cell? ⟨pd, 9, none⟩ = some (.string pay) ∧ w'.cell? ⟨pd, 10, none⟩ = some (.int .i64 pad) ∧ w'.cell? ⟨pq, 0, none⟩ = some (.bool mrk) ∧ w'.cell? ⟨pq, 1, none⟩ = some (.int .u8 typ) ∧ w'.cell? ⟨pq, 2, none⟩ = some (.int .u16 seq) ∧ w'.cell? ⟨pq, 3, none⟩ = some (.int .u32 time) ∧ w'.cell? ⟨pq, 4, none⟩ = some (.int .u32 ssrc) ∧ w'.cell? ⟨pq, 5, none⟩ = some (.slice a7 nf c7) ∧ w'.cell? ⟨pq, 6, none⟩ = some (.bool ext) ∧ w'.cell? ⟨pq, 7, none⟩ = some (.int .u16 prof) ∧ w'.cell? ⟨pq, 8, none⟩ = some (.string data) ∧ w'.cell? ⟨pq, 9, none⟩ = some (.string pay) ∧ w'.cell? ⟨pq, 10, none⟩ = some (.int .i64 pad)) (first | assumption | (refine held2_drew ?_; assumption) | (refine held2_new (by assumption) (by assumption)))
      (first
        | (go_at_call 33; (with_reducible refine Calls.mono (HTO.out _ _ _ _ _ _ _ _ _ _ _ _ _ _) ?_); rintro en wq ⟨rfl, hnq⟩)
        | (go_at_call 30; (with_reducible refine Calls.mono (HT2.out _ (HN.out _ ?_)) ?_); (focus (apply held2_nw; assumption)); rintro en wq ⟨rfl, hnq⟩)
        | (go_at_call 29; (with_reducible refine Calls.mono (HLn.out _) ?_); rintro en wq ⟨rfl, hnq⟩)
        | (go_at_call 26; (with_reducible refine Calls.mono (HSM.out _ _ _ (HR11.out _ ?_) (HN.out _ ?_)) ?_); (focus (apply held2_nw; assumption)); (focus (apply held2_nw; assumption)); rintro en wq ⟨rfl, hnq⟩))
    all_goals
      rename_i hHl
      have hnew := HN.out _ hHl.1
      have hbel := hnew.below (Nat.le_refl _) (fun _ _ h => h.elim)
      have HB := Lib.hid hbel
      clear hnew hbel
      go_wp2_with fail
      go_ret
      exact ⟨rfl, HB.out⟩
  · have hzb : (cz != 0) = true := by simp [hcz]
    clear hcz d0 d1 d2 d3 d4 d5 d6 d7 d8 d9 d10
    go_wp2
    go_ret
    exact ⟨rfl, H8.out.2.below (Nat.le_refl _) (fun _ _ h => h.elim)⟩
end Go.Proofs.Ytkpmdaknojlkjaa.rp
