/-
  RtpFields: each part has bytes of its own: the walk.
-/
import Derived.Test.YtjelilolimodfaaRpFieldsMath
namespace Go.Proofs.Ytjelilolimodfaa.rp
open Go.RowKit mem rd wr oref sq
set_option linter.unusedVariables false

/-- two packets' blocks, and new blocks -/
def Duo (w W : World) (p5 p11 : Nat) (X D : Array Value) : Prop := Blk W p5 X PT ∧ Blk W p11 D PT ∧ New w W
theorem Duo.step {w W W' : World} {p5 p11 : Nat} {X D : Array Value} (h : Duo w W p5 p11 X D) (k : New W W') : Duo w W' p5 p11 X D :=
  ⟨k.blk h.1 (fun h => h), k.blk h.2.1 (fun h => h), h.2.2.trans (k.mono (fun _ _ h => h.elim))⟩
theorem Duo.drew {w W : World} {p5 p11 : Nat} {X D : Array Value} (h : Duo w W p5 p11 X D) : Duo w W.drew p5 p11 X D := ⟨h.1.drew, h.2.1.drew, h.2.2.drew⟩

set_option maxRecDepth 100000 in
set_option maxHeartbeats 8000000 in
theorem fields_law (x0 : Bool) (x1 x2 x3 x4 : Int) (a : Option Addr) (n c : Nat) (z : Nat → Int) (x6 : Bool) (x7 : Int) (x8 x9 : ByteArray) (x10 : Int) (sq tm sc : Int) (mk : Bool) (w : World) (hok : args.packOk w x0 x1 x2 x3 x4 a n c z x6 x7 x8 x9 x10)
    (hs1 : 0 ≤ sq) (hs2 : sq ≤ 65535) (ht1 : 0 ≤ tm) (ht2 : tm ≤ 4294967295) (hc1 : 0 ≤ sc) (hc2 : sc ≤ 4294967295) :
    Calls Try.prog 8 #[.agg #[.bool x0, .int .u8 x1, .int .u16 x2, .int .u32 x3, .int .u32 x4, .slice a n c, .bool x6, .int .u16 x7, .string x8, .string x9, .int .i64 x10], .int .u16 sq, .int .u32 tm, .int .u32 sc, .bool mk] w fun e w' => e = .returned (.bool true) ∧ Below w.heap.size w w' := by
  have hG := in_G hok
  obtain ⟨hrow, hnil, hnc, hcm⟩ := in_row hok
  have HFew := Lib.hid (fun w => few_any _ hG a n c (in_len x0 x1 x2 x3 x4 n z x6 x7 x8 x9 x10) hnc hcm hnil w)
  have hF := few_F hG
  generalize few (inP x0 x1 x2 x3 x4 n z x6 x7 x8 x9 x10) = f at *
  simp only [pc, inP] at HFew
  have HA := Lib.hid awake
  have HC := Lib.hid (fun w => check f hF a c w)
  have HROW := Lib.hid hrow
  clear hok hG hrow hnil hnc hcm
  have HV := Lib.hid (fun h => chk_V hF h)
  clear hF
  obtain ⟨mrk, typ, seq, time, ssrc, cs, ext, prof, data, pay, pad⟩ := f
  simp only [pc] at HC HFew
  generalize hcz : chk ⟨mrk, typ, seq, time, ssrc, cs, ext, prof, data, pay, pad⟩ = cz at *
  obtain ⟨nf, hnf⟩ : ∃ x, x = cs.length := ⟨_, rfl⟩
  rw [← hnf] at HC HFew
  have HNF := Lib.hid hnf
  clear hnf
  have HCZ := Lib.hid hcz
  clear hcz
  have hb1 := Blk.new w #[.bool x0, .int .u8 x1, .int .u16 x2, .int .u32 x3, .int .u32 x4, .slice a n c, .bool x6, .int .u16 x7, .string x8, .string x9, .int .i64 x10] PT
  have hn1 : New w (w.alloc (.cells #[.bool x0, .int .u8 x1, .int .u16 x2, .int .u32 x3, .int .u32 x4, .slice a n c, .bool x6, .int .u16 x7, .string x8, .string x9, .int .i64 x10] PT)) := (Turns.refl _ _).alloc _
  go_enter Try.func8, Try.ntmps8
  go_wp2_with fail
  generalize w.alloc (.cells #[.bool x0, .int .u8 x1, .int .u16 x2, .int .u32 x3, .int .u32 x4, .slice a n c, .bool x6, .int .u16 x7, .string x8, .string x9, .int .i64 x10] PT) = w1 at *
  refine (HFew.out _).mono ?_
  rintro e w2 ⟨rfl, hn2⟩
  have hb2 := hn2.blk hb1 (fun h => h)
  have hn2' : New w w2 := hn1.trans (hn2.mono (fun _ _ h => h.elim))
  clear hb1 hn1 hn2
  obtain ⟨d0, d1, d2, d3, d4, d5, d6, d7, d8, d9, d10⟩ := cells11 hb2
  obtain ⟨f0, f1, f2, f3, f4, f5, f6, f7, f8, f9, f10⟩ := frees11 hb2
  have hb3 := put11_blk hb2 (.bool mrk) (.int .u8 typ) (.int .u16 seq) (.int .u32 time) (.int .u32 ssrc) (.slice a nf c) (.bool ext) (.int .u16 prof) (.string data) (.string pay) (.int .i64 pad)
  have hn3 := put11_turns hn2' (.inr (Nat.le_refl _)) (.bool mrk) (.int .u8 typ) (.int .u16 seq) (.int .u32 time) (.int .u32 ssrc) (.slice a nf c) (.bool ext) (.int .u16 prof) (.string data) (.string pay) (.int .i64 pad)
  have H3 := Lib.hid (And.intro hb3 hn3)
  clear hb2 hn2' hb3 hn3
  go_wp2_with fail
  refine (show Calls _ _ _ (put11 w2 w.heap.size (.bool mrk) (.int .u8 typ) (.int .u16 seq) (.int .u32 time) (.int .u32 ssrc) (.slice a nf c) (.bool ext) (.int .u16 prof) (.string data) (.string pay) (.int .i64 pad)) _ from ?_)
  generalize put11 w2 w.heap.size (.bool mrk) (.int .u8 typ) (.int .u16 seq) (.int .u32 time) (.int .u32 ssrc) (.slice a nf c) (.bool ext) (.int .u16 prof) (.string data) (.string pay) (.int .i64 pad) = w3 at *
  clear d0 d1 d2 d3 d4 d5 d6 d7 d8 d9 d10 f0 f1 f2 f3 f4 f5 f6 f7 f8 f9 f10
  refine (HA.out _).mono ?_
  rintro e w4 ⟨rfl, hn4⟩
  have hb4 := hn4.blk H3.out.1 (fun h => h)
  have hn4' : New w w4 := H3.out.2.trans (hn4.mono (fun _ _ h => h.elim))
  clear hn4 H3
  obtain ⟨d0, d1, d2, d3, d4, d5, d6, d7, d8, d9, d10⟩ := cells11 hb4
  have H4 := Lib.hid (And.intro hb4 hn4')
  clear hb4 hn4'
  go_wp2_with fail
  refine (HC.out _).mono ?_
  rintro e w5 ⟨rfl, hn5⟩
  have hb5 := hn5.blk H4.out.1 (fun h => h)
  have hn5' : New w w5 := H4.out.2.trans (hn5.mono (fun _ _ h => h.elim))
  have hlt5 := hb5.lt
  clear hn5 H4 d0 d1 d2 d3 d4 d5 d6 d7 d8 d9 d10
  obtain ⟨d0, d1, d2, d3, d4, d5, d6, d7, d8, d9, d10⟩ := cells11 hb5
  have H5 := Lib.hid (And.intro hb5 hn5')
  clear hb5 hn5'
  by_cases hcz : cz = 0
  · subst hcz
    have hV := HV.out rfl
    have hVq := wth_V hV sq tm sc mk ⟨hs1, hs2⟩ ⟨ht1, ht2⟩ ⟨hc1, hc2⟩
    have hlen := wth_len hV sq tm sc mk ⟨hs1, hs2⟩ ⟨ht1, ht2⟩ ⟨hc1, hc2⟩
    have hdrop := wth_drop ⟨mrk, typ, seq, time, ssrc, cs, ext, prof, data, pay, pad⟩ sq tm sc mk
    have hsame := wth_same hV sq tm sc mk ⟨hs1, hs2⟩ ⟨ht1, ht2⟩ ⟨hc1, hc2⟩
    have hpt := parse_text _ hVq
    have hL := tx_length _ hV
    have hLq := tx_length _ hVq
    have hlen15 : (tx ⟨mrk, typ, seq, time, ssrc, cs, ext, prof, data, pay, pad⟩).length ≤ 1500 := by
      have hl := hV.len
      have hp := hV.pad
      unfold lenI at hL
      simp only at hl hp hL
      split at hL <;> rename_i he <;> simp only [he, if_true, Bool.false_eq_true, if_false] at hl <;> omega
    have hlen12 : 12 ≤ (tx ⟨mrk, typ, seq, time, ssrc, cs, ext, prof, data, pay, pad⟩).length := by
      have hp := hV.pad
      unfold lenI at hL
      simp only at hp hL
      split at hL <;> omega
    have HT1 := Lib.hid (fun W (h : New w W) => text ⟨mrk, typ, seq, time, ssrc, cs, ext, prof, data, pay, pad⟩ hV a c W (Row.new HROW.out h))
    have HT2 := Lib.hid (fun W (h : New w W) => text (wth ⟨mrk, typ, seq, time, ssrc, cs, ext, prof, data, pay, pad⟩ sq tm sc mk) hVq a c W (Row.new HROW.out h))
    obtain ⟨S, hS, hSs⟩ : ∃ S : ByteArray, S = ⟨(tx ⟨mrk, typ, seq, time, ssrc, cs, ext, prof, data, pay, pad⟩).toArray⟩ ∧ S.size = (tx ⟨mrk, typ, seq, time, ssrc, cs, ext, prof, data, pay, pad⟩).length := ⟨_, rfl, size_mk _⟩
    obtain ⟨T, hT, hTs⟩ : ∃ T : ByteArray, T = ⟨(tx (wth ⟨mrk, typ, seq, time, ssrc, cs, ext, prof, data, pay, pad⟩ sq tm sc mk)).toArray⟩ ∧ T.size = (tx (wth ⟨mrk, typ, seq, time, ssrc, cs, ext, prof, data, pay, pad⟩ sq tm sc mk)).length := ⟨_, rfl, size_mk _⟩
    rw [← hS] at HT1
    rw [← hT] at HT2
    have hTl : T.data.toList = tx (wth ⟨mrk, typ, seq, time, ssrc, cs, ext, prof, data, pay, pad⟩ sq tm sc mk) := by rw [hT]
    have hSl : S.toList = tx ⟨mrk, typ, seq, time, ssrc, cs, ext, prof, data, pay, pad⟩ := by rw [hS, toList_mk]
    have hTl2 : T.toList = tx (wth ⟨mrk, typ, seq, time, ssrc, cs, ext, prof, data, pay, pad⟩ sq tm sc mk) := by rw [hT, toList_mk]
    have HP := Lib.hid (fun W => parse_small T W (by rw [hTs, hlen]; exact hlen15))
    rw [hTl, hpt.1, hpt.2] at HP
    have hsz : S.size = T.size := by rw [hSs, hTs, hlen]
    have h12 : 12 ≤ T.size := by rw [hTs, hlen]; exact hlen12
    have hd12 : (S.extract 12 S.size).toList = (T.extract 12 T.size).toList := by
      rw [hS, hT, extract_mk, extract_mk, toList_mk, toList_mk, size_mk, size_mk, hdrop, hlen]
    obtain ⟨sb, hsb⟩ : ∃ sb : Bool, sb = (S.toList == T.toList) := ⟨_, rfl⟩
    have hsb2 : sb = true ↔ (seq = sq ∧ time = tm ∧ ssrc = sc ∧ mrk = mk) := by
      rw [hsb, hSl, hTl2, beq_iff_eq]
      exact hsame
    have HSB := Lib.hid hsb
    have HSB2 := Lib.hid hsb2
    have HSZ := Lib.hid (And.intro hsz (And.intro h12 hd12))
    have hT1500 : T.size ≤ 1500 := by rw [hTs, hlen]; exact hlen15
    simp only [pc, wth] at HT1 HT2 HP
    rw [← HNF.out] at HT1 HT2
    clear hV hVq hlen hdrop hsame hpt hL hLq hS hSs hT hTs hTl hSl hTl2 hsz h12 hd12 hsb hsb2 hlen15 hlen12 HV HCZ HROW HNF HC HFew
    go_upto_region 6 with fail
    have HX : Duo w (w5.alloc (.cells #[.bool mk, .int .u8 typ, .int .u16 sq, .int .u32 tm, .int .u32 sc, .slice a nf c, .bool ext, .int .u16 prof, .string data, .string pay, .int .i64 pad] PT)) w.heap.size w5.heap.size #[.bool mrk, .int .u8 typ, .int .u16 seq, .int .u32 time, .int .u32 ssrc, .slice a nf c, .bool ext, .int .u16 prof, .string data, .string pay, .int .i64 pad] #[.bool mk, .int .u8 typ, .int .u16 sq, .int .u32 tm, .int .u32 sc, .slice a nf c, .bool ext, .int .u16 prof, .string data, .string pay, .int .i64 pad] := ⟨H5.out.1.alloc _, Blk.new w5 #[.bool mk, .int .u8 typ, .int .u16 sq, .int .u32 tm, .int .u32 sc, .slice a nf c, .bool ext, .int .u16 prof, .string data, .string pay, .int .i64 pad] PT, H5.out.2.alloc _⟩
    have HQ := Lib.hid HX
    clear HX
    generalize w5.alloc (.cells #[.bool mk, .int .u8 typ, .int .u16 sq, .int .u32 tm, .int .u32 sc, .slice a nf c, .bool ext, .int .u16 prof, .string data, .string pay, .int .i64 pad] PT) = w6 at *
    generalize w5.heap.size = p11 at *
    clear d0 d1 d2 d3 d4 d5 d6 d7 d8 d9 d10 H5
    go_cut [12, 13] (fun s t wx => s = .string S ∧ t = .string T ∧ Duo w wx w.heap.size p11 #[.bool mrk, .int .u8 typ, .int .u16 seq, .int .u32 time, .int .u32 ssrc, .slice a nf c, .bool ext, .int .u16 prof, .string data, .string pay, .int .i64 pad] #[.bool mk, .int .u8 typ, .int .u16 sq, .int .u32 tm, .int .u32 sc, .slice a nf c, .bool ext, .int .u16 prof, .string data, .string pay, .int .i64 pad])
    case first =>
      obtain ⟨d0, d1, d2, d3, d4, d5, d6, d7, d8, d9, d10⟩ := cells11 HQ.out.1
      obtain ⟨e0, e1, e2, e3, e4, e5, e6, e7, e8, e9, e10⟩ := cells11 HQ.out.2.1
      replace HQ := Lib.hid HQ.out.drew
      go_region_with (first
        | (go_at_call 27; (with_reducible refine (HT1.out _ ?_).mono ?_); (exact HQ.out.2.2); rintro e w7 ⟨rfl, hn7⟩; replace HQ := Lib.hid (HQ.out.step hn7); obtain ⟨g0, g1, g2, g3, g4, g5, g6, g7, g8, g9, g10⟩ := cells11 HQ.out.2.1)
        | (go_at_call 27; (with_reducible refine (HT2.out _ ?_).mono ?_); (exact HQ.out.2.2); rintro e w7 ⟨rfl, hn7⟩; replace HQ := Lib.hid (HQ.out.step hn7)))
      all_goals
        go_wp2_with fail
        go_meet
        case rel => exact ⟨rfl, rfl, HQ.out⟩
    case rest =>
      clear HQ HT1 HT2
      obtain ⟨rfl, rfl, hq⟩ := hcut
      have HQ := Lib.hid hq
      clear hq
      go_wp2_with fail
      refine (HP.out _).mono ?_
      rintro e w7 ⟨v, rfl, hn7, ho7⟩
      obtain ⟨av, cv, rfl⟩ := own_shape ho7
      have hq7 := HQ.out.step hn7
      have hlt7 := hq7.1.lt
      generalize cs.length = nv at *
      clear HQ hn7 ho7 HP
      have h5 := hq7.1.alloc (.cells #[.bool mk, .int .u8 typ, .int .u16 sq, .int .u32 tm, .int .u32 sc, .slice av nv cv, .bool ext, .int .u16 prof, .string data, .string pay, .int .i64 pad] PT)
      have h14 := Blk.new w7 #[.bool mk, .int .u8 typ, .int .u16 sq, .int .u32 tm, .int .u32 sc, .slice av nv cv, .bool ext, .int .u16 prof, .string data, .string pay, .int .i64 pad] PT
      have hn8 := hq7.2.2.alloc (.cells #[.bool mk, .int .u8 typ, .int .u16 sq, .int .u32 tm, .int .u32 sc, .slice av nv cv, .bool ext, .int .u16 prof, .string data, .string pay, .int .i64 pad] PT)
      have H8 := Lib.hid (And.intro h5 (And.intro h14 hn8))
      clear hq7 h5 h14 hn8
      go_upto_region 8 with fail
      generalize w7.alloc (.cells #[.bool mk, .int .u8 typ, .int .u16 sq, .int .u32 tm, .int .u32 sc, .slice av nv cv, .bool ext, .int .u16 prof, .string data, .string pay, .int .i64 pad] PT) = w8 at *
      generalize w7.heap.size = p14 at *
      obtain ⟨d0, d1, d2, d3, d4, d5, d6, d7, d8, d9, d10⟩ := cells11 H8.out.1
      obtain ⟨e0, e1, e2, e3, e4, e5, e6, e7, e8, e9, e10⟩ := cells11 H8.out.2.1
      go_cut [16] (fun x wx => x = .bool sb ∧ wx = w8)
      case first =>
        by_cases q1 : seq = sq
        · have q1' : (seq == sq) = true := by simp [q1]
          by_cases q2 : time = tm
          · have q2' : (time == tm) = true := by simp [q2]
            by_cases q3 : ssrc = sc
            · have q3' : (ssrc == sc) = true := by simp [q3]
              by_cases q4 : mrk = mk
              · have q4' : (mrk == mk) = true := by simp [q4]
                have hb : sb = true := HSB2.out.2 ⟨q1, q2, q3, q4⟩
                have HB := Lib.hid hb
                clear hb q1 q2 q3 q4
                go_wp2_with fail
                go_meet
                case rel => exact ⟨by rw [HB.out], rfl⟩
              · have q4' : (mrk == mk) = false := by simp [q4]
                have hb : sb = false := by cases h : sb; rfl; exact absurd (HSB2.out.1 h).2.2.2 q4
                have HB := Lib.hid hb
                clear hb q1 q2 q3 q4
                go_wp2_with fail
                go_meet
                case rel => exact ⟨by rw [HB.out], rfl⟩
            · have q3' : (ssrc == sc) = false := by simp [q3]
              have hb : sb = false := by cases h : sb; rfl; exact absurd (HSB2.out.1 h).2.2.1 q3
              have HB := Lib.hid hb
              clear hb q1 q2 q3
              go_wp2_with fail
              go_meet
              case rel => exact ⟨by rw [HB.out], rfl⟩
          · have q2' : (time == tm) = false := by simp [q2]
            have hb : sb = false := by cases h : sb; rfl; exact absurd (HSB2.out.1 h).2.1 q2
            have HB := Lib.hid hb
            clear hb q1 q2
            go_wp2_with fail
            go_meet
            case rel => exact ⟨by rw [HB.out], rfl⟩
        · have q1' : (seq == sq) = false := by simp [q1]
          have hb : sb = false := by cases h : sb; rfl; exact absurd (HSB2.out.1 h).1 q1
          have HB := Lib.hid hb
          clear hb q1
          go_wp2_with fail
          go_meet
          case rel => exact ⟨by rw [HB.out], rfl⟩
      case rest =>
        obtain ⟨rfl, rfl⟩ := hcut
        clear HSB2
        obtain ⟨hsz, h12, hd12⟩ := HSZ.out
        have g1 : ((S.size : Int) == (T.size : Int)) = true := by simp [hsz]
        have g2 : (S.toList == T.toList) = sb := HSB.out.symm
        have g3 : (12 : Int) ≤ (S.size : Int) := by omega
        have g4 : (12 : Int) ≤ (T.size : Int) := by omega
        have g5 : ((S.extract 12 S.size).toList == (T.extract 12 T.size).toList) = true := by rw [hd12]; simp
        have g6 : (pay.toList == pay.toList) = true := by simp
        have g7 : (S.size : Int) ≤ 1500 := by omega
        clear hsz h12 hd12
        cases sb
        all_goals
          go_wp2_with fail
          go_quiet (fail)
          go_wp2
          go_ret
          exact ⟨rfl, (vp.Turns.drewN H8.out.2.2 _).below (Nat.le_refl _) (fun _ _ h => h.elim)⟩
  · have hzb : (cz != 0) = true := by simp [hcz]
    clear hcz d0 d1 d2 d3 d4 d5 d6 d7 d8 d9 d10
    go_wp2_with fail
    refine (HA.out _).mono ?_
    rintro e w6 ⟨rfl, hn6⟩
    go_wp2
    go_ret
    exact ⟨rfl, (H5.out.2.trans (hn6.mono (fun _ _ h => h.elim))).below (Nat.le_refl _) (fun _ _ h => h.elim)⟩
end Go.Proofs.Ytjelilolimodfaa.rp
