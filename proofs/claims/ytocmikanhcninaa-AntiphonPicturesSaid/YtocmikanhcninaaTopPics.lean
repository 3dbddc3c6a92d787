/-
  AntiphonPictures: a picture's number and level are told anew, all else stays.
-/
import Derived.Test.YtocmikanhcninaaTopLive
import Derived.Test.YtocmikanhcninaaVpCheck
import Derived.Test.YtocmikanhcninaaOctTake
import Derived.Test.YtocmikanhcninaaDescArg
import Derived.WalkLawsBesides
namespace Go.Proofs.Ytocmikanhcninaa.top
open Go.RowKit mem
set_option linter.unusedVariables false

theorem with_V (d : vp.D) (hv : vp.V d) (p l : Int) : vp.V (vp.withD d p l) := by
  unfold vp.withD
  have a := hv.wide
  by_cases h1 : 0 ≤ d.pic <;> by_cases h2 : 0 ≤ d.lev
  all_goals
    simp only [h1, h2, if_true, if_false]
    exact ⟨hv.part, by first | exact hv.pic | (simp only; omega), by first | exact hv.lev | (simp only; omega), hv.lay, hv.key, by first | exact hv.wide | (intro _; simp only; omega), by first | exact hv.narrow | simp, hv.sync⟩
theorem withD_is (x0 x1 : Bool) (x2 x3 : Int) (x4 : Bool) (x5 x6 : Int) (x7 : Bool) (x8 p l : Int) :
    vp.withD ⟨x0, x1, x2, x3, x4, x5, x6, x7, x8⟩ p l = ⟨x0, x1, x2, if 0 ≤ x3 then p % 32768 else x3, if 0 ≤ x3 then true else x4, if 0 ≤ x5 then l % 256 else x5, x6, x7, x8⟩ := by
  unfold vp.withD
  by_cases h1 : 0 ≤ x3 <;> by_cases h2 : 0 ≤ x5 <;> simp only [h1, h2, if_true, if_false]
theorem tx_small (d : vp.D) : (vp.tx d).length ≤ 8 := by
  have h := vp.tx_len d
  have h1 : (vp.txPic d).length ≤ 2 := by unfold vp.txPic; split; split <;> simp [wr.be_length]; simp
  have h2 : (vp.txLev d).length ≤ 1 := by unfold vp.txLev; split <;> simp [wr.be_length]
  have h3 : (vp.txLk d).length ≤ 1 := by unfold vp.txLk; split <;> simp [wr.be_length]
  rw [h]
  split <;> omega

/-- Parse of a descriptor's text and what stands behind it -/
theorem parse_pay (d : vp.D) (hv : vp.V d) (s pay : ByteArray) (hp : pay.data.toList = vp.tx d ++ s.data.toList) (hs : pay.size ≤ 1000) (w : World) :
    Calls Try.prog 36 #[.string pay] w fun e w' => e = .returned (.tuple #[.agg (vp.cells d), .string s, .int .i64 0]) ∧ New w w' := by
  have h := vp.parse pay w (by omega)
  have hpt := vp.parse_text d hv s.data.toList
  have h1 : vp.outD (pay.data.toList, 0) = d := by unfold vp.outD; rw [hp, hpt.1, hpt.2]; rfl
  have h2 : vp.outL (pay.data.toList, 0) = s.data.toList := by unfold vp.outL; rw [hp, hpt.1]; rfl
  have h3 : (vp.pS (pay.data.toList, 0)).2 = 0 := by rw [hp, hpt.1]
  rw [h1, h2, h3, eta_mk] at h
  exact h
theorem cat_list (D s : ByteArray) : (D ++ s).data.toList = D.data.toList ++ s.data.toList := by simp
theorem cat_size (D s : ByteArray) : (D ++ s).size = D.size + s.size := by simp

set_option maxRecDepth 100000 in
set_option maxHeartbeats 4000000 in
theorem pics_law (x0 x1 : Bool) (x2 x3 : Int) (x4 : Bool) (x5 x6 : Int) (x7 : Bool) (x8 : Int) (s0 : ByteArray) (sq p l : Int) (w : World) (hok : args.descOk w x0 x1 x2 x3 x4 x5 x6 x7 x8) (hs0 : s0.size ≤ maxLen)
    (hq1 : 0 ≤ sq) (hq2 : sq ≤ 65535) (hp1 : -9223372036854775808 ≤ p) (hp2 : p ≤ 9223372036854775807) (hl1 : -9223372036854775808 ≤ l) (hl2 : l ≤ 9223372036854775807) :
    Calls Try.prog 12 #[.agg #[.bool x0, .bool x1, .int .i64 x2, .int .i64 x3, .bool x4, .int .i64 x5, .int .i64 x6, .bool x7, .int .i64 x8], .string s0, .int .u16 sq, .int .i64 p, .int .i64 l] w fun e w' => e = .returned (.bool true) ∧ Below w.heap.size w w' := by
  have hcs := oref.cutS_size s0 60
  have K1 := Lib.hid (fun w => oref.cut s0 60 (by omega) w)
  generalize oref.cutS s0 60 = s at *
  have HA := Lib.hid live
  have HC := Lib.hid (fun w => vp.check ⟨x0, x1, x2, x3, x4, x5, x6, x7, x8⟩ w)
  simp only [vp.cells] at HC
  have hb1 := Blk.new w #[.bool x0, .bool x1, .int .i64 x2, .int .i64 x3, .bool x4, .int .i64 x5, .int .i64 x6, .bool x7, .int .i64 x8] vp.DT
  have hn1 : New w (w.alloc (.cells #[.bool x0, .bool x1, .int .i64 x2, .int .i64 x3, .bool x4, .int .i64 x5, .int .i64 x6, .bool x7, .int .i64 x8] vp.DT)) := (Turns.refl _ _).alloc _
  have H1 := Lib.hid (And.intro hb1 hn1)
  clear hb1 hn1 hok hs0 hp1 hp2 hl1 hl2
  go_enter Try.func12, Try.ntmps12
  go_wp2_with fail
  generalize w.alloc (.cells #[.bool x0, .bool x1, .int .i64 x2, .int .i64 x3, .bool x4, .int .i64 x5, .int .i64 x6, .bool x7, .int .i64 x8] vp.DT) = w1 at *
  generalize hpd : w.heap.size = pd at *
  refine (K1.out _).mono ?_
  rintro e w' ⟨rfl, rfl⟩
  go_wp2_with fail
  refine (HA.out _).mono ?_
  rintro e w2 ⟨rfl, n2⟩
  have hb2 := n2.blk H1.out.1 (fun h => h)
  have hn2 : New w w2 := H1.out.2.trans (n2.mono (fun _ _ h => h.elim))
  obtain ⟨c0, c1, c2, c3, c4, c5, c6, c7, c8⟩ := vp.cells9 hb2
  have H2 := Lib.hid (And.intro hb2 hn2)
  clear hb2 hn2 n2 H1 K1
  go_wp2_with fail
  refine (HC.out _).mono ?_
  rintro e w3 ⟨rfl, n3⟩
  have hb3 := n3.blk H2.out.1 (fun h => h)
  have hn3 : New w w3 := H2.out.2.trans (n3.mono (fun _ _ h => h.elim))
  clear c0 c1 c2 c3 c4 c5 c6 c7 c8 n3 H2 HC
  by_cases hz : vp.chk ⟨x0, x1, x2, x3, x4, x5, x6, x7, x8⟩ = 0
  · have hv := vp.chk_V hz
    rw [hz]
    clear hz HA
    obtain ⟨c0, c1, c2, c3, c4, c5, c6, c7, c8⟩ := vp.cells9 hb3
    have H3 := Lib.hid (And.intro hb3 hn3)
    have HT := Lib.hid (fun w => vp.text ⟨x0, x1, x2, x3, x4, x5, x6, x7, x8⟩ hv w)
    have htx := tx_small ⟨x0, x1, x2, x3, x4, x5, x6, x7, x8⟩
    obtain ⟨D, hD⟩ : ∃ D : ByteArray, D = ⟨(vp.tx ⟨x0, x1, x2, x3, x4, x5, x6, x7, x8⟩).toArray⟩ := ⟨_, rfl⟩
    have hDl : D.data.toList = vp.tx ⟨x0, x1, x2, x3, x4, x5, x6, x7, x8⟩ := by rw [hD]
    have hDs : D.size ≤ 8 := by rw [hD, size_mk]; exact htx
    rw [← hD] at HT
    simp only [vp.cells] at HT
    obtain ⟨pay, hpay⟩ : ∃ pay, pay = D ++ s := ⟨_, rfl⟩
    have hps : pay.size ≤ 100 := by rw [hpay, cat_size]; omega
    have HPay := Lib.hid (parse_pay ⟨x0, x1, x2, x3, x4, x5, x6, x7, x8⟩ hv s pay (by rw [hpay, cat_list, hDl]) (by omega))
    have z1 : (9223372036854775807 < D.size + s.size) = False := by simp; omega
    have HT1 := Lib.hid (fun a c w => pk_text sq pay hq1 hq2 (by omega) a c w)
    have HP1 := Lib.hid (fun w => pk_parse sq pay hq1 hq2 (by omega) w)
    simp only [vp.cells] at HPay
    have HE := Lib.hid hpay
    clear hpay hD hDl htx
    generalize (⟨(rp.tx (pk sq pay)).toArray⟩ : ByteArray) = T1 at *
    go_wp2_with fail
    refine (HT.out _).mono ?_
    rintro e w4 ⟨rfl, n4⟩
    have hb4 := n4.blk H3.out.1 (fun h => h)
    have hn4 : New w w4 := H3.out.2.trans (n4.mono (fun _ _ h => h.elim))
    clear c0 c1 c2 c3 c4 c5 c6 c7 c8 n4 H3 HT hb3 hn3
    go_wp2_with fail
    rw [← HE.out]
    have hb5 := hb4.alloc (.cells #[.bool false, .int .u8 96, .int .u16 sq, .int .u32 0, .int .u32 0, .slice none 0 0, .bool false, .int .u16 0, .string ⟨#[]⟩, .string pay, .int .i64 0] 44)
    have hn5 := hn4.alloc (.cells #[.bool false, .int .u8 96, .int .u16 sq, .int .u32 0, .int .u32 0, .slice none 0 0, .bool false, .int .u16 0, .string ⟨#[]⟩, .string pay, .int .i64 0] 44)
    generalize w4.alloc (.cells #[.bool false, .int .u8 96, .int .u16 sq, .int .u32 0, .int .u32 0, .slice none 0 0, .bool false, .int .u16 0, .string ⟨#[]⟩, .string pay, .int .i64 0] 44) = w5 at *
    generalize w4.heap.size = p11 at *
    clear hb4 hn4 z1
    refine (HT1.out none 0 w5).mono ?_
    rintro e w6 ⟨rfl, n6⟩
    have hb6 := n6.blk hb5 (fun h => h)
    have hn6 : New w w6 := hn5.trans (n6.mono (fun _ _ h => h.elim))
    clear hb5 hn5 n6
    go_wp2_with fail
    refine (HP1.out w6).mono ?_
    rintro e w7 ⟨a, c, rfl, n7⟩
    have hb7 := (n7.blk hb6 (fun h => h)).alloc (.cells #[.bool false, .int .u8 96, .int .u16 sq, .int .u32 0, .int .u32 0, .slice a 0 c, .bool false, .int .u16 0, .string ⟨#[]⟩, .string pay, .int .i64 0] 44)
    have hn7 : New w (w7.alloc (.cells #[.bool false, .int .u8 96, .int .u16 sq, .int .u32 0, .int .u32 0, .slice a 0 c, .bool false, .int .u16 0, .string ⟨#[]⟩, .string pay, .int .i64 0] 44)) := (hn6.trans (n7.mono (fun _ _ h => h.elim))).alloc _
    have hq7 := Blk.new w7 #[.bool false, .int .u8 96, .int .u16 sq, .int .u32 0, .int .u32 0, .slice a 0 c, .bool false, .int .u16 0, .string ⟨#[]⟩, .string pay, .int .i64 0] 44
    have hlt7 : pd < w7.heap.size := (n7.blk hb6 (fun h => h)).lt
    have H7 := Lib.hid (And.intro hb7 (And.intro hq7 hn7))
    clear hb6 hn6 n7 hb7 hn7 hq7 HT1 HP1
    go_wp2_with fail
    generalize w7.alloc (.cells #[.bool false, .int .u8 96, .int .u16 sq, .int .u32 0, .int .u32 0, .slice a 0 c, .bool false, .int .u16 0, .string ⟨#[]⟩, .string pay, .int .i64 0] 44) = w8 at *
    generalize w7.heap.size = p12 at *
    refine (HPay.out w8).mono ?_
    rintro e w9 ⟨rfl, n9⟩
    have hb9 := (n9.blk H7.out.1 (fun h => h)).alloc (.cells #[.bool x0, .bool x1, .int .i64 x2, .int .i64 x3, .bool x4, .int .i64 x5, .int .i64 x6, .bool x7, .int .i64 x8] vp.DT)
    have hq9 := (n9.blk H7.out.2.1 (fun h => h)).alloc (.cells #[.bool x0, .bool x1, .int .i64 x2, .int .i64 x3, .bool x4, .int .i64 x5, .int .i64 x6, .bool x7, .int .i64 x8] vp.DT)
    have hx9 := Blk.new w9 #[.bool x0, .bool x1, .int .i64 x2, .int .i64 x3, .bool x4, .int .i64 x5, .int .i64 x6, .bool x7, .int .i64 x8] vp.DT
    have hn9 : New w (w9.alloc (.cells #[.bool x0, .bool x1, .int .i64 x2, .int .i64 x3, .bool x4, .int .i64 x5, .int .i64 x6, .bool x7, .int .i64 x8] vp.DT)) := (H7.out.2.2.trans (n9.mono (fun _ _ h => h.elim))).alloc _
    have hlt9 : p12 < w9.heap.size := (n9.blk H7.out.2.1 (fun h => h)).lt
    have H9 := Lib.hid (And.intro hb9 (And.intro hq9 (And.intro hx9 hn9)))
    obtain ⟨c0, c1, c2, c3, c4, c5, c6, c7, c8⟩ := vp.cells9 hb9
    clear hb9 hq9 hx9 hn9 n9 H7 HPay
    go_upto_region 7 with fail
    generalize w9.alloc (.cells #[.bool x0, .bool x1, .int .i64 x2, .int .i64 x3, .bool x4, .int .i64 x5, .int .i64 x6, .bool x7, .int .i64 x8] vp.DT) = w10 at *
    generalize w9.heap.size = p14 at *
    obtain ⟨d0, d1, d2, d3, d4, d5, d6, d7, d8⟩ := vp.cells9 H9.out.2.2.1
    go_wp2_with fail
    clear c0 c1 c2 c3 c4 c5 c6 c7 c8 d0 d1 d2 d3 d4 d5 d6 d7 d8
    have hv2 := with_V _ hv p l
    have HW := Lib.hid (fun w => vp.with_any ⟨x0, x1, x2, x3, x4, x5, x6, x7, x8⟩ p l w)
    rw [withD_is] at HW hv2
    obtain ⟨y3, hy3⟩ : ∃ y, y = (if 0 ≤ x3 then p % 32768 else x3) := ⟨_, rfl⟩
    obtain ⟨y4, hy4⟩ : ∃ y, y = (if 0 ≤ x3 then true else x4) := ⟨_, rfl⟩
    obtain ⟨y5, hy5⟩ : ∃ y, y = (if 0 ≤ x5 then l % 256 else x5) := ⟨_, rfl⟩
    rw [← hy3, ← hy4, ← hy5] at HW hv2
    have hg3 : decide (0 ≤ y3) = decide (0 ≤ x3) := by
      rw [hy3]
      by_cases h : 0 ≤ x3
      · have : 0 ≤ p % 32768 := by omega
        simp [h, this]
      · simp [h]
    have hg5 : decide (0 ≤ y5) = decide (0 ≤ x5) := by
      rw [hy5]
      by_cases h : 0 ≤ x5
      · have : 0 ≤ l % 256 := by omega
        simp [h, this]
      · simp [h]
    simp only [vp.cells] at HW
    have HT2 := Lib.hid (fun w => vp.text ⟨x0, x1, x2, y3, y4, y5, x6, x7, x8⟩ hv2 w)
    have htx2 := tx_small ⟨x0, x1, x2, y3, y4, y5, x6, x7, x8⟩
    obtain ⟨D2, hD2⟩ : ∃ D : ByteArray, D = ⟨(vp.tx ⟨x0, x1, x2, y3, y4, y5, x6, x7, x8⟩).toArray⟩ := ⟨_, rfl⟩
    have hDl2 : D2.data.toList = vp.tx ⟨x0, x1, x2, y3, y4, y5, x6, x7, x8⟩ := by rw [hD2]
    have hDs2 : D2.size ≤ 8 := by rw [hD2, size_mk]; exact htx2
    rw [← hD2] at HT2
    simp only [vp.cells] at HT2
    obtain ⟨pay2, hpay2⟩ : ∃ pay, pay = D2 ++ s := ⟨_, rfl⟩
    have hps2 : pay2.size ≤ 100 := by rw [hpay2, cat_size]; omega
    have HPay2 := Lib.hid (parse_pay ⟨x0, x1, x2, y3, y4, y5, x6, x7, x8⟩ hv2 s pay2 (by rw [hpay2, cat_list, hDl2]) (by omega))
    have z2 : (9223372036854775807 < D2.size + s.size) = False := by simp; omega
    have HT3 := Lib.hid (fun a c w => pk_text sq pay2 hq1 hq2 (by omega) a c w)
    have HP3 := Lib.hid (fun w => pk_parse sq pay2 hq1 hq2 (by omega) w)
    simp only [vp.cells] at HPay2
    have HE2 := Lib.hid hpay2
    clear hpay2 hD2 hDl2 htx2 hv hv2 hy3 hy4 hy5
    generalize (⟨(rp.tx (pk sq pay2)).toArray⟩ : ByteArray) = T2 at *
    refine (HW.out w10).mono ?_
    rintro e w11 ⟨rfl, n11⟩
    go_wp2_with fail
    refine (HT2.out w11).mono ?_
    rintro e w12 ⟨rfl, n12⟩
    have n1112 : New w10 w12 := n11.trans (n12.mono (fun _ _ h => h.elim))
    have hb12 := n1112.blk H9.out.1 (fun h => h)
    have hq12 := n1112.blk H9.out.2.1 (fun h => h)
    have hn12 : New w w12 := H9.out.2.2.2.trans (n1112.mono (fun _ _ h => h.elim))
    clear n11 n12 n1112 H9 HW HT2
    obtain ⟨d0, d1, d2, d3, d4, d5, d6, d7, d8, d9, d10⟩ := rp.cells11 hq12
    have f9 := hq12.free 9
    have hne : p12 ≠ pd := by omega
    have hle12 : w.heap.size ≤ p12 := by omega
    have H12 := Lib.hid (And.intro hb12 (And.intro hq12 hn12))
    clear hb12 hq12 hn12
    go_wp2_with fail
    rw [← HE2.out]
    have hb13 := H12.out.1.setOther (a := ⟨p12, 9, none⟩) hne (.string pay2)
    have hn13 : New w (w12.setCell ⟨p12, 9, none⟩ (.string pay2)) := H12.out.2.2.setCell (p := ⟨p12, 9, none⟩) (.inr hle12) _
    generalize w12.setCell ⟨p12, 9, none⟩ (.string pay2) = w13 at *
    clear d0 d1 d2 d3 d4 d5 d6 d7 d8 d9 d10 f9 H12 z2
    refine (HT3.out a c w13).mono ?_
    rintro e w14 ⟨rfl, n14⟩
    have hb14 := n14.blk hb13 (fun h => h)
    have hn14 : New w w14 := hn13.trans (n14.mono (fun _ _ h => h.elim))
    clear hb13 hn13 n14
    go_wp2_with fail
    refine (HP3.out w14).mono ?_
    rintro e w15 ⟨a2, c2, rfl, n15⟩
    have hb15 := (n15.blk hb14 (fun h => h)).alloc (.cells #[.bool false, .int .u8 96, .int .u16 sq, .int .u32 0, .int .u32 0, .slice a2 0 c2, .bool false, .int .u16 0, .string ⟨#[]⟩, .string pay2, .int .i64 0] 44)
    have hq15 := Blk.new w15 #[.bool false, .int .u8 96, .int .u16 sq, .int .u32 0, .int .u32 0, .slice a2 0 c2, .bool false, .int .u16 0, .string ⟨#[]⟩, .string pay2, .int .i64 0] 44
    have hn15 : New w (w15.alloc (.cells #[.bool false, .int .u8 96, .int .u16 sq, .int .u32 0, .int .u32 0, .slice a2 0 c2, .bool false, .int .u16 0, .string ⟨#[]⟩, .string pay2, .int .i64 0] 44)) := (hn14.trans (n15.mono (fun _ _ h => h.elim))).alloc _
    have H15 := Lib.hid (And.intro hb15 (And.intro hq15 hn15))
    clear hb14 hn14 n15 hb15 hn15 hq15 HT3 HP3
    go_wp2_with fail
    generalize w15.alloc (.cells #[.bool false, .int .u8 96, .int .u16 sq, .int .u32 0, .int .u32 0, .slice a2 0 c2, .bool false, .int .u16 0, .string ⟨#[]⟩, .string pay2, .int .i64 0] 44) = w16 at *
    generalize w15.heap.size = p17 at *
    refine (HPay2.out w16).mono ?_
    rintro e w17 ⟨rfl, n17⟩
    have hb17 := (n17.blk H15.out.1 (fun h => h)).alloc (.cells #[.bool x0, .bool x1, .int .i64 x2, .int .i64 y3, .bool y4, .int .i64 y5, .int .i64 x6, .bool x7, .int .i64 x8] vp.DT)
    have hq17 := (n17.blk H15.out.2.1 (fun h => h)).alloc (.cells #[.bool x0, .bool x1, .int .i64 x2, .int .i64 y3, .bool y4, .int .i64 y5, .int .i64 x6, .bool x7, .int .i64 x8] vp.DT)
    have hx17 := Blk.new w17 #[.bool x0, .bool x1, .int .i64 x2, .int .i64 y3, .bool y4, .int .i64 y5, .int .i64 x6, .bool x7, .int .i64 x8] vp.DT
    have hn17 : New w (w17.alloc (.cells #[.bool x0, .bool x1, .int .i64 x2, .int .i64 y3, .bool y4, .int .i64 y5, .int .i64 x6, .bool x7, .int .i64 x8] vp.DT)) := (H15.out.2.2.trans (n17.mono (fun _ _ h => h.elim))).alloc _
    have H17 := Lib.hid (And.intro hb17 (And.intro hq17 (And.intro hx17 hn17)))
    clear hb17 hq17 hx17 hn17 n17 H15 HPay2
    go_upto_region 12 with fail
    generalize w17.alloc (.cells #[.bool x0, .bool x1, .int .i64 x2, .int .i64 y3, .bool y4, .int .i64 y5, .int .i64 x6, .bool x7, .int .i64 x8] vp.DT) = w18 at *
    generalize w17.heap.size = p19 at *
    obtain ⟨c0, c1, c2, c3, c4, c5, c6, c7, c8⟩ := vp.cells9 H17.out.1
    obtain ⟨d0, d1, d2, d3, d4, d5, d6, d7, d8⟩ := vp.cells9 H17.out.2.2.1
    obtain ⟨e0, e1, e2, e3, e4, e5, e6, e7, e8, e9, e10⟩ := rp.cells11 H17.out.2.1
    go_wp2
    go_ret
    exact ⟨rfl, H17.out.2.2.2.below (Nat.le_refl _) (fun _ _ h => h.elim)⟩
  · have hzb : (vp.chk ⟨x0, x1, x2, x3, x4, x5, x6, x7, x8⟩ != 0) = true := by simp [hz]
    generalize vp.chk ⟨x0, x1, x2, x3, x4, x5, x6, x7, x8⟩ = z at *
    clear hz hb3
    go_wp2_with fail
    refine (HA.out _).mono ?_
    rintro e w4 ⟨rfl, n4⟩
    go_wp2
    go_ret
    exact ⟨rfl, (hn3.trans (n4.mono (fun _ _ h => h.elim))).below (Nat.le_refl _) (fun _ _ h => h.elim)⟩
end Go.Proofs.Ytocmikanhcninaa.top
