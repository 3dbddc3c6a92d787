/-
  The reference of layer 19: Choose, the walk.
-/
import Derived.Test.YtcppibjllaablaaZKae
set_option linter.unusedVariables false
set_option linter.unusedSimpArgs false
namespace Go.Proofs.Ytcppibjllaablaa.drr
open Go.RowKit mem
set_option linter.unusedVariables false

abbrev zS : Array Value := #[.int .i64 0, .slice none 0 0, .int .i64 0, .bool false]
set_option maxRecDepth 100000 in
set_option maxHeartbeats 8000000 in
theorem rchoose (v : Value) (s : Sc) (H : Hs) (vh : Value) (w : World) (h : TS GE GT w v s.L) (hl : s.L.length ≤ 1048576) (hh : TS RHE RHT w vh H) (hlh : H.length ≤ 1048576) (ok : s.ok) (okh : Ok s H) (asc : SAsc s.L) (ap : Ap s.L) :
    Calls Try.prog 89 #[.agg (rS s v), vh] w fun e w' => ∃ ao n c, e = .returned (.tuple #[.agg (rS (chooseS H s) (.slice ao n c)), .int .i64 (if H = [] then 0 else (chooseS H s).turn), .bool (!H.isEmpty)]) ∧ TS GE GT w' (.slice ao n c) (chooseS H s).L ∧ New9 w w' := by
  have HS := Lib.hid h
  have HH := Lib.hid hh
  have HLH := Lib.hid hlh
  have HOK := Lib.hid ok
  have HOH := Lib.hid okh
  have HAS := Lib.hid asc
  have HAP := Lib.hid ap
  obtain ⟨ao, n, c, hv, hn, _, _⟩ := h.form
  obtain ⟨ah, nh, ch, hvh, hnh, _, _⟩ := hh.form
  have HN := Lib.hid hn
  have hn2 : n ≤ 1048576 := by omega
  have HLM : Hid (([] : List Fl).length + s.L.length ≤ 1048576) := Lib.hid (by simp; omega)
  clear h hn hl hh hnh hlh ok okh asc ap
  subst hv hvh
  have HB : Hid (Blk ((w.alloc (.cells #[.int .i64 s.most, .slice ao n c, .int .i64 s.turn, .bool s.g] GST)).alloc (.cells zS GST)) w.heap.size #[.int .i64 s.most, .slice ao n c, .int .i64 s.turn, .bool s.g] GST) := Lib.hid ((Blk.new _ _ _).alloc _)
  have HR : Hid (Blk ((w.alloc (.cells #[.int .i64 s.most, .slice ao n c, .int .i64 s.turn, .bool s.g] GST)).alloc (.cells zS GST)) (w.heap.size + 1) zS GST) := Lib.hid (by
    rw [show w.heap.size + 1 = (w.alloc (.cells #[.int .i64 s.most, .slice ao n c, .int .i64 s.turn, .bool s.g] GST)).heap.size by simp]
    exact Blk.new _ _ _)
  have H0 : Hid (New9 w ((w.alloc (.cells #[.int .i64 s.most, .slice ao n c, .int .i64 s.turn, .bool s.g] GST)).alloc (.cells zS GST))) := Lib.hid (((Turns.refl _ _).alloc _).alloc _)
  have HPP : Hid (w.heap.size ≠ w.heap.size + 1 ∧ w.heap.size ≤ w.heap.size ∧ w.heap.size ≤ w.heap.size + 1) := Lib.hid (by omega)
  go_enter Try.func89, Try.ntmps89
  go_upto_region 1 with fail
  refine (show Code.wp _ _ _ _ ((w.alloc (.cells #[.int .i64 s.most, .slice ao n c, .int .i64 s.turn, .bool s.g] GST)).alloc (.cells zS GST)) from ?_)
  generalize (w.alloc (.cells #[.int .i64 s.most, .slice ao n c, .int .i64 s.turn, .bool s.g] GST)).alloc (.cells zS GST) = w2 at *
  obtain ⟨pb, hpb⟩ : ∃ pb, pb = w.heap.size := ⟨_, rfl⟩
  rw [← hpb] at HB HR
  rw [show (w.heap.size ≠ w.heap.size + 1 ∧ w.heap.size ≤ w.heap.size ∧ w.heap.size ≤ w.heap.size + 1) = (pb ≠ pb + 1 ∧ w.heap.size ≤ pb ∧ w.heap.size ≤ pb + 1) by rw [hpb]] at HPP
  rw [← hpb]
  clear hpb
  generalize pb + 1 = pr at *
  have b1 : w2.cell? ⟨pb, 1, none⟩ = some (.slice ao n c) := HB.out.cell 1
  have hpl := HB.out.lt
  have HO1 : Hid (Owns GE GT (w2.alloc (.cells #[] GT)) (.slice (some ⟨w2.heap.size, 0, none⟩) 0 0) []) := Lib.hid (made0G GE (Blk.new _ _ _))
  have HS1 : Hid (Sub GE 0 (w2.alloc (.cells #[] GT)) (.slice ao n c) s.L) := Lib.hid ((HS.out.later H0.out).later ((Turns.refl _ _).alloc _)).sub
  go_wp2_with (at_builtin; refine wpList_append_sub (E := GE) Try.underlying61 infoG rfl (by decide) (by decide) rfl _ _ rfl _ [] s.L rfl HO1.out _ rfl 0 HS1.out HLM.out ?_)
  intro v3 w3 hown hgrow hat
  have hg3 : Gr GE GT w2 w3 v3 s.L := madeG ((Turns.refl (fun _ => False) w2).alloc (.cells #[] GT)) (Nat.le_refl _) hown hgrow (by rw [World.size_alloc]; exact hat)
  obtain ⟨a3, c3, hv3, _⟩ := hg3.own.form
  rw [← HN.out] at hv3
  subst hv3
  have HG3 := Lib.hid hg3
  clear hown hgrow hat hg3
  clear HO1 HS1 b1 hpl
  have HN3 : Hid (New9 w2 w3) := Lib.hid HG3.out.n
  have HGK : Hid (Gr GE GT w2 w3 (.slice a3 n c3) (mapK s.L (forgetF H) 0)) := Lib.hid HG3.out
  clear HG3
  go_wp2_with fail
  go_loopw [18] (fun i wr => ∃ k : Nat, k ≤ n ∧ i = .int .i64 k ∧ Gr GE GT w2 wr (.slice a3 n c3) (mapK s.L (forgetF H) k)) (fun i _ => n - (intOf i).toNat)
  case atStart => exact ⟨0, Nat.zero_le _, rfl, HGK.out⟩
  case round =>
    obtain ⟨k, hk, rfl, hgk⟩ := hrel
    have HK := Lib.hid hgk
    clear hgk HGK
    by_cases hlt : k < n
    · obtain ⟨x, hx⟩ : ∃ x, s.L[k]? = some x := ⟨_, List.getElem?_eq_getElem (by have := HN.out; omega)⟩
      have HX := Lib.hid hx
      have hxk := mapK_at (F := forgetF H) x hx
      obtain ⟨g3, hg3, hgl, hcell⟩ := own_at HK.out.own hxk
      subst hg3
      have z0 := hcell 0 _ rfl
      have z1 := hcell 1 _ rfl
      have z2 := hcell 2 _ rfl
      change wr.cell? ⟨g3, k * 3, none⟩ = some (.int .i64 x.id) at z0
      change wr.cell? ⟨g3, k * 3 + 1, none⟩ = some (.int .i64 x.share) at z1
      change wr.cell? ⟨g3, k * 3 + 2, none⟩ = some (.int .i64 x.left) at z2
      have d1 : decide ((k : Int) < (n : Int)) = true := decide_eq_true (by omega)
      have j1 : (k : Int) < (n : Int) := by omega
      have hw : IntKind.i64.wrap ((k : Int) + 1) = (k : Int) + 1 := IntWalk.i64_in _ (by omega)
      have HK4 := Lib.hid (HK.out.later ((Turns.refl _ wr).alloc (.cells #[.int .i64 x.id, .int .i64 x.share, .int .i64 x.left] GT)))
      have HBX : Hid (Blk (wr.alloc (.cells #[.int .i64 x.id, .int .i64 x.share, .int .i64 x.left] GT)) wr.heap.size #[.int .i64 x.id, .int .i64 x.share, .int .i64 x.left] GT) := Lib.hid (Blk.new _ _ _)
      clear hx hxk hcell
      go_upto_region 5 with fail
      refine (show Code.wp _ _ _ _ (wr.alloc (.cells #[.int .i64 x.id, .int .i64 x.share, .int .i64 x.left] GT)) from ?_)
      clear z0 z1 z2 hgl
      generalize wr.alloc (.cells #[.int .i64 x.id, .int .i64 x.share, .int .i64 x.left] GT) = w4 at *
      generalize wr.heap.size = px at *
      have y0 : w4.cell? ⟨px, 0, none⟩ = some (.int .i64 x.id) := HBX.out.cell 0
      obtain ⟨⟨b0, b1, b2, b3⟩, _⟩ := fours (HK4.out.n.blk HB.out (fun h => h))
      have HSZ := Lib.hid (rsize19 (.slice ao n c) s H (.slice ah nh ch) x.id w4 ((HH.out.later H0.out).later HK4.out.n) HLH.out)
      by_cases hz : szF s.most H x.id < 0
      · have d2 : decide (szF s.most H x.id < 0) = true := decide_eq_true hz
        have HF : Hid (forgetF H x = 0) := Lib.hid (by
          unfold forgetF
          rw [if_neg]
          intro hm
          have := szF_mem (most := s.most) HOH.out.asc HOH.out.sz hm
          have := (HOH.out.sz _ (sizeOf_mem hm)).1
          omega)
        clear hz
        go_wp2_with fail
        refine HSZ.out.mono ?_
        rintro e w5 ⟨rfl, n5⟩
        have HK5 := Lib.hid (HK4.out.later n5)
        clear n5 HSZ b0 b1 b2 b3 y0
        obtain ⟨g4, hg4, hgl, hcell⟩ := own_at HK5.out.own (mapK_at (F := forgetF H) x HX.out)
        injection hg4 with hg4
        injection hg4 with hg4 _ _
        subst hg4
        have z2 := hcell 2 _ rfl
        change w5.cell? ⟨g3, k * 3 + 2, none⟩ = some (.int .i64 x.left) at z2
        have y2 := own_free HK5.out.own (k * 3 + 2)
        have HK6 : Hid (Gr GE GT w2 (w5.setCell ⟨g3, k * 3 + 2, none⟩ (.int .i64 0)) (.slice (some ⟨g3, 0, none⟩) n c3) (mapK s.L (forgetF H) (k + 1))) := Lib.hid (by
          rw [← mapK_succ x HX.out, HF.out]
          exact Gr.store (i := 2) HK5.out (mapK_at (F := forgetF H) x HX.out) _ (by decide) rfl)
        clear hcell
        go_wp2_with fail
        go_roundw
        case rel => exact ⟨k + 1, by omega, by push_cast; go_num, HK6.out⟩
        case measure => simp [intOf]; omega
      · have d2 : decide (szF s.most H x.id < 0) = false := decide_eq_false hz
        have HF : Hid (forgetF H x = x.left) := Lib.hid (by
          unfold forgetF
          by_cases hm : x.id ∈ ids H
          · rw [if_pos hm]
          · rw [szF_not hm] at hz; omega)
        clear hz
        go_wp2_with fail
        refine HSZ.out.mono ?_
        rintro e w5 ⟨rfl, n5⟩
        have HK5 : Hid (Gr GE GT w2 w5 (.slice (some ⟨g3, 0, none⟩) n c3) (mapK s.L (forgetF H) (k + 1))) := Lib.hid (by
          rw [← mapK_same x HX.out HF.out]
          exact HK4.out.later n5)
        clear n5 HSZ
        go_wp2_with fail
        go_roundw
        case rel => exact ⟨k + 1, by omega, by push_cast; go_num, HK5.out⟩
        case measure => simp [intOf]; omega
    · have d1 : decide ((k : Int) < (n : Int)) = false := decide_eq_false (by omega)
      have d2 : decide (k < n) = false := decide_eq_false hlt
      have HK1 : Hid (Gr GE GT w2 wr (.slice a3 n c3) (upd s.L (forgetF H))) := Lib.hid (by
        rw [← mapK_all (F := forgetF H) (k := k) (by have := HN.out; omega)]
        exact HK.out)
      clear HK hlt hk
      have hbw := HK1.out.n.blk HB.out (fun h => h)
      obtain ⟨⟨b0, b1, b2, b3⟩, f0, f1, f2, f3⟩ := fours hbw
      have HM0 : Hid (Mb w (wr.setCell ⟨pb, 1, none⟩ (.slice a3 n c3)) pb pr (.slice a3 n c3) (upd s.L (forgetF H)) s.most s.turn s.g) := Lib.hid (by
        have t9 : Turns (· = pb) wr (wr.setCell ⟨pb, 1, none⟩ (.slice a3 n c3)) := (Turns.refl (· = pb) _).setCell (.inl rfl) _
        have hb9 : Blk (wr.setCell ⟨pb, 1, none⟩ (.slice a3 n c3)) pb #[.int .i64 s.most, .slice a3 n c3, .int .i64 s.turn, .bool s.g] GST := hbw.set 1 _
        have hg := HK1.out
        refine ⟨hb9, t9.blk (HK1.out.n.blk HR.out (fun h => h)) (fun e => HPP.out.1 e.symm), ⟨hg.own.turns t9 (fun x hx e => (TS.of_owns hg.own).off hbw (by decide) (by rw [hx, e])), fun x hx => Nat.le_trans H0.out.size (hg.vb x hx), (H0.out.trans (hg.n.mono (fun _ _ h => h.elim))).trans (t9.mono (fun i _ hi => .inr (by rw [hi]; exact HPP.out.2.1)))⟩, HPP.out.2.1, HPP.out.2.2, HPP.out.1⟩)
      clear hbw HK1
      go_upto_region 9 with fail
      refine (show Code.wp _ _ _ _ (wr.setCell ⟨pb, 1, none⟩ (.slice a3 n c3)) from ?_)
      clear b0 b1 b2 b3 f0 f1 f2 f3
      generalize wr.setCell ⟨pb, 1, none⟩ (.slice a3 n c3) = w9 at *
      obtain ⟨⟨b0, b1, b2, b3⟩, _⟩ := fours HM0.out.bx
      have HLN : Hid ((upd s.L (forgetF H)).length ≤ 1048576) := Lib.hid (by unfold upd; rw [List.length_map]; have := HN.out; omega)
      have HOB : Hid (Ok (begS H s) H ∧ SAsc (begS H s).L) := Lib.hid ⟨HOH.out.upd' _ _ _, HAS.out.upd _⟩
      have HAF : Hid (∀ wx, New9 w9 wx → ∀ t, Calls Try.prog 107 #[.agg #[.int .i64 s.most, .slice a3 n c3, .int .i64 s.turn, .bool s.g], .slice ah nh ch, .int .i64 t] wx fun e w' => e = .returned (.int .i64 (aft s.most (upd s.L (forgetF H)) H t)) ∧ New9 wx w') := Lib.hid (fun wx N t => rafter (.slice a3 n c3) (begS H s) H (.slice ah nh ch) t wx (TS.of_owns (HM0.out.later N).gr.own) HLN.out (HH.out.later (HM0.out.gr.n.trans (N.mono (fun _ _ h => h.elim)))) HLH.out)
      by_cases hH : H = []
      · have HE : Hid (aft s.most (upd s.L (forgetF H)) H 0 = -1) := Lib.hid (by subst hH; exact aft_nil (s := begS [] s) 0)
        have HE2 : Hid (chooseS H s = ⟨s.most, upd s.L (forgetF H), s.turn, false⟩) := Lib.hid (by subst hH; rfl)
        have HE3 := Lib.hid hH
        have HA1 := Lib.hid (HAF.out w9 (Turns.refl _ _) 0)
        rw [HE.out] at HA1
        clear hH
        go_wp2_with fail
        refine HA1.out.mono ?_
        rintro e w10 ⟨rfl, n10⟩
        have HM1 := Lib.hid (HM0.out.later n10)
        clear n10 b0 b1 b2 b3 HA1
        obtain ⟨⟨b0, b1, b2, b3⟩, f0, f1, f2, f3⟩ := fours HM1.out.bx
        have HM2 := Lib.hid (HM1.out.set3 false)
        go_upto_region 11 with fail
        refine (show Code.wp _ _ _ _ (w10.setCell ⟨pb, 3, none⟩ (.bool false)) from ?_)
        clear b0 b1 b2 b3 f0 f1 f2 f3
        generalize w10.setCell ⟨pb, 3, none⟩ (.bool false) = w11 at *
        obtain ⟨⟨b0, b1, b2, b3⟩, _⟩ := fours HM2.out.bx
        obtain ⟨⟨r0, r1, r2, r3⟩, y0, y1, y2, y3⟩ := fours HM2.out.rb
        have hne := HM2.out.lo.2.2
        have hne' := hne.symm
        have HFI := Lib.hid (HM2.out.ret)
        go_wp2_with fail
        refine (show bodyPost _ _ _ _ _ (puts w11 pr 0 [.int .i64 s.most, .slice a3 n c3, .int .i64 s.turn, .bool false]) from ?_)
        clear b0 b1 b2 b3 r0 r1 r2 r3 y0 y1 y2 y3
        generalize puts w11 pr 0 [.int .i64 s.most, .slice a3 n c3, .int .i64 s.turn, .bool false] = w12 at *
        obtain ⟨⟨g0, g1, g2, g3⟩, _⟩ := fours HFI.out.1
        refine bodyPost_ret (v := .tuple #[.agg #[.int .i64 s.most, .slice a3 n c3, .int .i64 s.turn, .bool false], .int .i64 0, .bool false]) (by simp [results, Try.results89, go_sem, g0, g1, g2, g3]) rfl ?_
        exact ⟨a3, n, c3, by first | rfl | (rw [HE3.out]; rfl), by have := HFI.out.2.1; rw [HE3.out] at this; first | exact this | (rw [HE3.out]; exact this), HFI.out.2.2⟩
      · have HNE := Lib.hid hH
        clear hH
        obtain ⟨i0, x0, ha0, hx0, _⟩ := aft_is HOB.out.1 HOB.out.2 HNE.out 0
        have HA0 : Hid (aft s.most (upd s.L (forgetF H)) H 0 = (i0 : Int)) := Lib.hid ha0
        obtain ⟨g3, hg3, _, _⟩ := own_at HM0.out.gr.own hx0
        clear ha0 hx0
        subst hg3
        have HA1 := Lib.hid (HAF.out w9 (Turns.refl _ _) 0)
        rw [HA0.out] at HA1
        have d3 : decide ((i0 : Int) < 0) = false := decide_eq_false (by omega)
        go_wp2_with fail
        refine HA1.out.mono ?_
        rintro e w10 ⟨rfl, n10⟩
        have HM1 := Lib.hid (HM0.out.later n10)
        have HN10 := Lib.hid n10
        clear n10 b0 b1 b2 b3 HA1
        obtain ⟨⟨b0, b1, b2, b3⟩, _⟩ := fours HM1.out.bx
        have HFD := Lib.hid (rfind (.slice (some ⟨g3, 0, none⟩) n c3) (begS H s) s.turn w10 (TS.of_owns HM1.out.gr.own) HLN.out)
        go_upto_region 12 with fail
        go_wp2_with fail
        refine HFD.out.mono ?_
        rintro e w11 ⟨rfl, n11⟩
        have HM2 := Lib.hid (HM1.out.later n11)
        have HN11 : Hid (New9 w9 w11) := Lib.hid (HN10.out.trans (n11.mono (fun _ _ h => h.elim)))
        clear n11 b0 b1 b2 b3 HFD HM1 HN10
        obtain ⟨⟨b0, b1, b2, b3⟩, _⟩ := fours HM2.out.bx
        obtain ⟨pf, hpf⟩ : ∃ pf, plc (begS H s).L (fun f => f.id == s.turn) = pf := ⟨_, rfl⟩
        have HPF := Lib.hid hpf
        rw [hpf]
        clear hpf
        have HSZ := Lib.hid (rsize19 (.slice (some ⟨g3, 0, none⟩) n c3) (begS H s) H (.slice ah nh ch) s.turn w11 (HH.out.later HM2.out.gr.n) HLH.out)
        go_upto_region 13 with fail
        obtain ⟨bt, hbt⟩ : ∃ bt, bt = !decide (s.turn ∈ ids H) := ⟨_, rfl⟩
        have HBT := Lib.hid hbt
        clear hbt
        go_cut [55] (fun v wx => v = .bool bt ∧ New9 w11 wx)
        case first =>
          by_cases hin : s.turn ∈ ids H
          · obtain ⟨y, hy, he⟩ := List.mem_map.1 hin
            obtain ⟨fl, hfl, hfe⟩ := HOB.out.1.fl y hy
            obtain ⟨i, hi⟩ := mem_at hfl
            have HP : Hid (plc (begS H s).L (fun f => f.id == s.turn) = (i : Int)) := Lib.hid (find_is HOB.out.2 hi (hfe.trans he))
            have d4 : decide (pf < 0) = false := decide_eq_false (by rw [← HPF.out, HP.out]; omega)
            have HD : Hid (bt = false) := Lib.hid (by rw [HBT.out, decide_eq_true hin]; rfl)
            have d5 : decide (szF s.most H s.turn < 0) = false := decide_eq_false (by
              rw [szF_mem HOH.out.asc HOH.out.sz hin]
              have := (HOH.out.sz _ (sizeOf_mem hin)).1
              omega)
            have HSZ2 : Hid (Calls Try.prog 106 #[.agg #[.int .i64 s.most, .slice (some ⟨g3, 0, none⟩) n c3, .int .i64 s.turn, .bool s.g], .slice ah nh ch, .int .i64 s.turn] w11 fun e w' => e = .returned (.int .i64 (szF s.most H s.turn)) ∧ New9 w11 w') := HSZ
            clear hin hy he hfl hfe hi
            generalize szF s.most H s.turn = z0 at *
            go_wp2_with fail
            refine HSZ2.out.mono ?_
            rintro e w12 ⟨rfl, n12⟩
            have HN12 := Lib.hid n12
            clear n12
            go_wp2_with fail
            go_meet
            case rel => exact ⟨by rw [HD.out], HN12.out⟩
          · have HD : Hid (bt = true) := Lib.hid (by rw [HBT.out, decide_eq_false hin]; rfl)
            have d5 : decide (szF s.most H s.turn < 0) = true := decide_eq_true (by rw [szF_not hin]; decide)
            have HSZ2 : Hid (Calls Try.prog 106 #[.agg #[.int .i64 s.most, .slice (some ⟨g3, 0, none⟩) n c3, .int .i64 s.turn, .bool s.g], .slice ah nh ch, .int .i64 s.turn] w11 fun e w' => e = .returned (.int .i64 (szF s.most H s.turn)) ∧ New9 w11 w') := HSZ
            clear hin
            generalize szF s.most H s.turn = z0 at *
            rcases plc_cases (begS H s).L (fun f => f.id == s.turn) with ⟨e, _⟩ | ⟨i, f, e, _⟩
            · have d4 : decide (pf < 0) = true := decide_eq_true (by rw [← HPF.out, e]; decide)
              clear e
              go_wp2_with fail
              go_meet
              case rel => exact ⟨by rw [HD.out], Turns.refl _ _⟩
            · have d4 : decide (pf < 0) = false := decide_eq_false (by rw [← HPF.out, e]; omega)
              clear e
              go_wp2_with fail
              refine HSZ2.out.mono ?_
              rintro e w12 ⟨rfl, n12⟩
              have HN12 := Lib.hid n12
              clear n12
              go_wp2_with fail
              go_meet
              case rel => exact ⟨by rw [HD.out], HN12.out⟩
        case rest =>
          obtain ⟨rfl, hn12⟩ := hcut
          have HM3 := Lib.hid (HM2.out.later hn12)
          have HN12 : Hid (New9 w9 wc) := Lib.hid (HN11.out.trans (hn12.mono (fun _ _ h => h.elim)))
          clear hn12 b0 b1 b2 b3 HSZ HM2 HN11
          obtain ⟨⟨b0, b1, b2, b3⟩, f0, f1, f2, f3⟩ := fours HM3.out.bx
          have HAF2 := Lib.hid (HAF.out wc HN12.out s.turn)
          have HFR := Lib.hid (HOK.out.fir HNE.out HOH.out)
          go_upto_if 55 with fail
          go_cut [10] (fun v wx => ∃ (i : Nat) (f : Fl) (tt : Int), v = .int .i64 i ∧ Lc w wx pb pr g3 n c3 s H 0 i (firS H s) f tt)
          case first =>
            by_cases hin : s.turn ∈ ids H
            · obtain ⟨y, hy, he⟩ := List.mem_map.1 hin
              obtain ⟨fl, hfl, hfe⟩ := HOB.out.1.fl y hy
              obtain ⟨i, hi⟩ := mem_at hfl
              have HP : Hid (plc (begS H s).L (fun f => f.id == s.turn) = (i : Int)) := Lib.hid (find_is HOB.out.2 hi (hfe.trans he))
              have HPI : Hid (pf = (i : Int)) := Lib.hid (HPF.out.symm.trans HP.out)
              obtain rfl : bt = false := by rw [HBT.out, decide_eq_true hin]; rfl
              have HFS : Hid (firS H s = begS H s) := Lib.hid (if_pos hin)
              have HX := Lib.hid (And.intro hi (And.intro (hfe.trans he) hin))
              clear hin hy he hfl hfe hi
              go_wp2_with fail
              go_meet
              case rel =>
                have hfr := HFR.out
                rw [HFS.out] at hfr
                refine ⟨i, fl, s.turn, by rw [HPI.out], ?_⟩
                rw [HFS.out]
                exact ⟨.inl ⟨rfl, HFS.out.symm⟩, HX.out.1, HX.out.2.1, HM3.out, hfr.1, HOB.out.1, HOB.out.2, HAP.out.upd _, rfl, HX.out.2.2⟩
            · obtain ⟨i, f, ha, hx, hfid⟩ := aft_is HOB.out.1 HOB.out.2 HNE.out s.turn
              have HFS : Hid (firS H s = passS H (begS H s)) := Lib.hid (if_neg hin)
              have HX := Lib.hid (And.intro hx hfid)
              have ha' : aft s.most (upd s.L (forgetF H)) H s.turn = (i : Int) := ha
              rw [ha'] at HAF2
              obtain rfl : bt = true := by rw [HBT.out, decide_eq_false hin]; rfl
              clear hin ha ha' hx hfid
              go_wp2_with fail
              refine HAF2.out.mono ?_
              rintro e w13 ⟨rfl, n13⟩
              have HM4 := Lib.hid (HM3.out.later n13)
              clear n13 b0 b1 b2 b3 f0 f1 f2 f3
              obtain ⟨⟨b0, b1, b2, b3⟩, f0, f1, f2, f3⟩ := fours HM4.out.bx
              have HM5 := Lib.hid (HM4.out.set3 false)
              go_wp2_with fail
              go_meet
              case rel =>
                have hfr := HFR.out
                rw [HFS.out] at hfr
                refine ⟨i, f, s.turn, rfl, ?_⟩
                rw [HFS.out]
                exact ⟨.inl ⟨rfl, HFS.out.symm⟩, HX.out.1, HX.out.2, HM5.out, hfr.1, ⟨HOB.out.1.asc, HOB.out.1.fl, HOB.out.1.sz⟩, HOB.out.2, HAP.out.upd _, rfl, hfr.2.1⟩
          case rest =>
            obtain ⟨i, f, tt, rfl, hlc⟩ := hcut
            have HLC0 := Lib.hid hlc
            clear hlc b0 b1 b2 b3 f0 f1 f2 f3 HAF2 HAF HM3 HM0 HN12 HBT HPF HFR HA0 d3
            clear HOK HAS HAP HN HLM HS H0 HB HPP HR HN3 HLN HOB d1 d2
            go_wp2_with fail
            go_loopw [10, 11] (fun ip jv wr => ∃ (j i : Nat) (st : Sc) (f : Fl) (tt : Int), ip = .int .i64 i ∧ jv = .int .i64 j ∧ Lc w wr pb pr g3 n c3 s H j i st f tt) (fun _ jv _ => 2 - (intOf jv).toNat)
            case atStart => exact ⟨0, i, _, f, tt, rfl, rfl, HLC0.out⟩
            case round =>
              obtain ⟨j, i, st, f, tt, rfl, rfl, hlc⟩ := hrel
              have HLC := Lib.hid hlc
              have hj1 : j ≤ 1 := by rcases hlc.wh with h | h <;> omega
              have HLEN : Hid (n = st.L.length) := Lib.hid (own_len hlc.mb.gr.own)
              obtain ⟨g4, hg4, hgl, hcell⟩ := own_at hlc.mb.gr.own hlc.at_
              injection hg4 with hg4
              injection hg4 with hg4 _ _
              subst hg4
              have hil := (List.getElem?_eq_some_iff.1 hlc.at_).1
              have j1 : (i : Int) < (n : Int) := by have := HLEN.out; omega
              have z0 := hcell 0 _ rfl
              change wr.cell? ⟨g3, i * 3, none⟩ = some (.int .i64 f.id) at z0
              obtain ⟨⟨b0, b1, b2, b3⟩, f0, f1, f2, f3⟩ := fours hlc.mb.bx
              have hfid := hlc.id
              rw [hfid] at z0
              have d4 : decide ((j : Int) < 1000) = true := decide_eq_true (by omega)
              have HM1 := Lib.hid (hlc.mb.set2 st.turn)
              clear hlc hcell HLC0 hil hfid
              go_upto_region 20 with fail
              refine (show Code.wp _ _ _ _ (wr.setCell ⟨pb, 2, none⟩ (.int .i64 st.turn)) from ?_)
              clear b0 b1 b2 b3 f0 f1 f2 f3 z0 hgl
              generalize wr.setCell ⟨pb, 2, none⟩ (.int .i64 st.turn) = w13 at *
              obtain ⟨⟨b0, b1, b2, b3⟩, f0, f1, f2, f3⟩ := fours HM1.out.bx
              go_upto_if 75 with fail
              go_cut [] (fun wx => ∃ f', Mb w wx pb pr (.slice (some ⟨g3, 0, none⟩) n c3) (grantS st).L s.most st.turn true ∧ (grantS st).L[i]? = some f' ∧ f'.id = st.turn)
              case first =>
                cases hg : st.g with
                | true =>
                  have HGS : Hid (grantS st = st) := Lib.hid (grant_true hg)
                  rw [hg] at HM1
                  have HGG := Lib.hid hg
                  rw [hg] at b3
                  clear hg
                  go_wp2_with fail
                  go_meet
                  case rel => exact ⟨f, by rw [HGS.out]; exact HM1.out, by rw [HGS.out]; exact HLC.out.at_, HLC.out.id⟩
                | false =>
                  have hokf := HLC.out.ok.f f (List.mem_of_getElem? HLC.out.at_)
                  have hm0 := HLC.out.ok.m0
                  have hm1 := HLC.out.ok.m1
                  have s1 : IntKind.i64.wrap (f.left + f.share) = f.left + f.share := IntWalk.i64_in _ (by omega)
                  obtain ⟨g4, hg4, hgl, hcell⟩ := own_at HM1.out.gr.own HLC.out.at_
                  injection hg4 with hg4
                  injection hg4 with hg4 _ _
                  subst hg4
                  have z1 := hcell 1 _ rfl
                  have z2 := hcell 2 _ rfl
                  change w13.cell? ⟨g3, i * 3 + 1, none⟩ = some (.int .i64 f.share) at z1
                  change w13.cell? ⟨g3, i * 3 + 2, none⟩ = some (.int .i64 f.left) at z2
                  have y2 := own_free HM1.out.gr.own (i * 3 + 2)
                  have HGS : Hid ((grantS st).L = st.L.set i ⟨f.id, f.b, f.share, f.left + f.share⟩) := Lib.hid (grant_set HLC.out.asc HLC.out.at_ HLC.out.id hg)
                  rw [hg] at HM1 b3
                  have HM2 := Lib.hid (HM1.out.left HLC.out.at_ (f.left + f.share))
                  have HAT : Hid ((st.L.set i ⟨f.id, f.b, f.share, f.left + f.share⟩)[i]? = some ⟨f.id, f.b, f.share, f.left + f.share⟩) := Lib.hid (by rw [List.getElem?_set, if_pos rfl, if_pos ((List.getElem?_eq_some_iff.1 HLC.out.at_).1)])
                  clear hg hcell hokf hm0 hm1
                  go_upto_region 21 with fail
                  clear HLH HOH HH HNE HLEN HM1 hj1 d4
                  go_region
                  all_goals
                    have HM3 : Hid (Mb w ((w13.setCell ⟨g3, i * 3 + 2, none⟩ (.int .i64 (f.left + f.share))).drew) pb pr (.slice (some ⟨g3, 0, none⟩) n c3) (st.L.set i ⟨f.id, f.b, f.share, f.left + f.share⟩) s.most st.turn false) := Lib.hid (HM2.out.later ((Turns.refl _ _).drew))
                    clear b0 b1 b2 b3 f0 f1 f2 f3 z1 z2 y2 hgl
                    generalize (w13.setCell ⟨g3, i * 3 + 2, none⟩ (.int .i64 (f.left + f.share))).drew = w14 at *
                    obtain ⟨⟨b0, b1, b2, b3⟩, f0, f1, f2, f3⟩ := fours HM3.out.bx
                    have HM4 := Lib.hid (HM3.out.set3 true)
                    go_wp2_with fail
                    go_meet
                    case rel => exact ⟨⟨f.id, f.b, f.share, f.left + f.share⟩, by rw [HGS.out]; exact HM4.out, by rw [HGS.out]; exact HAT.out, HLC.out.id⟩
              case rest =>
                obtain ⟨f', hm, hat', hid'⟩ := hcut
                have HM6 := Lib.hid hm
                have HA6 := Lib.hid hat'
                have hapg : Ap (grantS st).L := by
                  unfold grantS
                  split
                  · exact HLC.out.ap
                  · exact HLC.out.ap.upd _
                have HAPG := Lib.hid hapg
                have HGT := Lib.hid (grant_turn st)
                have HLF : Hid (leftOf (grantS st) st.turn = f'.left) := Lib.hid (by rw [← hid']; exact left_at hapg hat')
                have HLEN2 : Hid (n = (grantS st).L.length) := Lib.hid (own_len hm.gr.own)
                obtain ⟨g4, hg4, hgl, hcell⟩ := own_at hm.gr.own hat'
                injection hg4 with hg4
                injection hg4 with hg4 _ _
                subst hg4
                have z2 := hcell 2 _ rfl
                change wc.cell? ⟨g3, i * 3 + 2, none⟩ = some (.int .i64 f'.left) at z2
                clear hm hat' hid' hapg hcell HM1 b0 b1 b2 b3 f0 f1 f2 f3
                obtain ⟨⟨b0, b1, b2, b3⟩, _⟩ := fours HM6.out.bx
                have hpl := HM6.out.bx.lt
                have HSZ := Lib.hid (fun W (N : New9 wc W) => rsize19 (.slice (some ⟨g3, 0, none⟩) n c3) ⟨s.most, (grantS st).L, st.turn, true⟩ H (.slice ah nh ch) st.turn W (HH.out.later (HM6.out.later N).gr.n) HLH.out)
                have HSF : Hid (szF s.most H st.turn = sizeOf' H st.turn) := Lib.hid (szF_mem HOH.out.asc HOH.out.sz HLC.out.inH)
                obtain ⟨sz, hsz⟩ : ∃ sz, sizeOf' H st.turn = sz := ⟨_, rfl⟩
                have HSE := Lib.hid hsz
                rw [HSF.out, hsz] at HSZ
                clear hsz
                obtain ⟨bl, hbl⟩ : ∃ bl, decide (sz ≤ f'.left) = bl := ⟨_, rfl⟩
                have HBL := Lib.hid hbl
                go_upto_region 23 with fail
                go_cut [100] (fun v wx => v = .bool bl ∧ New9 wc wx)
                case first =>
                  clear HLH HOH HNE HLC HLEN HA6 HAPG HGT HLF HLEN2 HSE HSF HBL HM6
                  go_region_with (go_at_call 106; (with_reducible refine Calls.mono (HSZ.out _ ?_) ?_); (focus (exact (Turns.refl _ _).drew)); rintro e w15 ⟨rfl, n15⟩; have HN15 := Lib.hid (Turns.of_drew n15); have z2' : w15.cell? ⟨g3, i * 3 + 2, none⟩ = some (.int .i64 f'.left) := (n15.cell (a := ⟨g3, i * 3 + 2, none⟩) hgl (fun h => h)).trans z2; clear n15)
                  all_goals
                    go_wp2_with fail
                    go_meet
                    case rel => exact ⟨rfl, HN15.out⟩
                case rest =>
                  obtain ⟨rfl, hn7⟩ := hcut
                  clear hbl
                  have HM7 := Lib.hid (HM6.out.later hn7)
                  clear hn7 b0 b1 b2 b3 z2 hgl hpl HSZ HM6
                  obtain ⟨⟨b0, b1, b2, b3⟩, f0, f1, f2, f3⟩ := fours HM7.out.bx
                  by_cases hlow : sz ≤ f'.left
                  · obtain rfl : bl = true := HBL.out.symm.trans (decide_eq_true hlow)
                    have HCH : Hid (chooseS H s = grantS st) := Lib.hid (by
                      have hl : lowS H st = false := by
                        unfold lowS
                        rw [HLF.out, HSE.out]
                        exact decide_eq_false (by omega)
                      rw [choose_run HNE.out]
                      unfold runS
                      rcases HLC.out.wh with ⟨_, e⟩ | ⟨_, e, e2⟩
                      · rw [← e, hl]; rfl
                      · rw [e2, e]; rfl)
                    have HGE : Hid (grantS st = ⟨s.most, (grantS st).L, st.turn, true⟩) := Lib.hid (by
                      have h1 := HGT.out
                      have h2 := HLC.out.mo
                      have : grantS st = ⟨(grantS st).most, (grantS st).L, (grantS st).turn, (grantS st).g⟩ := rfl
                      rw [this, h1.1, h1.2.1, h1.2.2, h2])
                    obtain ⟨⟨r0, r1, r2, r3⟩, y0, y1, y2, y3⟩ := fours HM7.out.rb
                    have hne := HM7.out.lo.2.2
                    have hne' := hne.symm
                    have HFI := Lib.hid (HM7.out.ret)
                    have HFD : Hid (Blk ((puts wc pr 0 [.int .i64 s.most, .slice (some ⟨g3, 0, none⟩) n c3, .int .i64 st.turn, .bool true]).drew) pr #[.int .i64 s.most, .slice (some ⟨g3, 0, none⟩) n c3, .int .i64 st.turn, .bool true] GST ∧ TS GE GT ((puts wc pr 0 [.int .i64 s.most, .slice (some ⟨g3, 0, none⟩) n c3, .int .i64 st.turn, .bool true]).drew) (.slice (some ⟨g3, 0, none⟩) n c3) (grantS st).L ∧ New9 w ((puts wc pr 0 [.int .i64 s.most, .slice (some ⟨g3, 0, none⟩) n c3, .int .i64 st.turn, .bool true]).drew)) := Lib.hid ⟨HFI.out.1, HFI.out.2.1.later ((Turns.refl _ _).drew), HFI.out.2.2.drew⟩
                    clear hlow
                    go_upto_region 24 with fail
                    go_cut [5, 6] (fun v5 v6 wx => v5 = .int .i64 st.turn ∧ v6 = .bool true ∧ Blk wx pr #[.int .i64 s.most, .slice (some ⟨g3, 0, none⟩) n c3, .int .i64 st.turn, .bool true] GST ∧ TS GE GT wx (.slice (some ⟨g3, 0, none⟩) n c3) (grantS st).L ∧ New9 w wx)
                    case first =>
                      clear HLH HOH HH HNE HLC HLEN HA6 HAPG HGT HLF HLEN2 HSE HSF HBL HM7 HCH HGE HFI j1 d4 hj1
                      go_region
                      all_goals
                        go_wp2_with fail
                        go_meet
                        case rel => exact ⟨rfl, rfl, HFD.out⟩
                    case rest =>
                      obtain ⟨rfl, rfl, hbk, hts, hnw⟩ := hcut
                      obtain ⟨⟨e0, e1, e2, e3⟩, _⟩ := fours hbk
                      clear b0 b1 b2 b3 f0 f1 f2 f3 r0 r1 r2 r3 y0 y1 y2 y3 HFD HFI
                      go_wp2_with fail
                      refine bodyPost_ret (v := .tuple #[.agg #[.int .i64 s.most, .slice (some ⟨g3, 0, none⟩) n c3, .int .i64 st.turn, .bool true], .int .i64 st.turn, .bool true]) (by simp [results, Try.results89, go_sem, e0, e1, e2, e3]) rfl ?_
                      refine ⟨some ⟨g3, 0, none⟩, n, c3, ?_, by rw [HCH.out]; exact hts, hnw⟩
                      rw [HCH.out, HGE.out]
                      cases H with
                      | nil => exact absurd rfl HNE.out
                      | cons x t => rfl
                  · obtain rfl : bl = false := HBL.out.symm.trans (decide_eq_false hlow)
                    have HSM : Hid (sz ≤ st.most) := Lib.hid (by rw [← HSE.out, HLC.out.mo]; exact (HOH.out.sz _ (sizeOf_mem HLC.out.inH)).2)
                    have HJ0 : Hid (j = 0 ∧ st = firS H s) := Lib.hid (by
                      rcases HLC.out.wh with h | ⟨e1, e2, e3⟩
                      · exact h
                      · exfalso
                        have hg : st.g = false := by rw [e2]; rfl
                        have := grant_enough HLC.out.ok HLC.out.ap ⟨f, List.mem_of_getElem? HLC.out.at_, HLC.out.id⟩ hg HSM.out
                        rw [HLF.out] at this
                        exact hlow this)
                    have HLO : Hid (lowS H st = true) := Lib.hid (by
                      unfold lowS
                      rw [HLF.out, HSE.out]
                      exact decide_eq_true (by omega))
                    have HOKG : Hid ((grantS st).ok) := Lib.hid (HLC.out.ok.grant ⟨f, List.mem_of_getElem? HLC.out.at_, HLC.out.id⟩)
                    have HPO : Hid ((passS H (grantS st)).ok) := Lib.hid (HOKG.out.pass H (fun x hx e => by
                      rw [HGT.out.1] at e
                      have h1 := HAPG.out.fnd hx
                      have h2 := HLF.out
                      unfold leftOf at h2
                      rw [← e, h1] at h2
                      have h3 := HSM.out
                      rw [HGT.out.2.1]
                      have : x.left = f'.left := h2
                      omega))
                    obtain ⟨i2, f2', ha2, hx2, hid2⟩ := aft_is HLC.out.okh.grant HLC.out.asc.grant HNE.out st.turn
                    have HX2 := Lib.hid (And.intro hx2 hid2)
                    rw [HGT.out.2.1, HLC.out.mo] at ha2
                    have HAF3 := Lib.hid (rafter (.slice (some ⟨g3, 0, none⟩) n c3) ⟨s.most, (grantS st).L, st.turn, true⟩ H (.slice ah nh ch) st.turn wc (TS.of_owns HM7.out.gr.own) (by have := HLEN2.out; show (grantS st).L.length ≤ _; omega) (HH.out.later HM7.out.gr.n) HLH.out)
                    have ha2' : aft (⟨s.most, (grantS st).L, st.turn, true⟩ : Sc).most (⟨s.most, (grantS st).L, st.turn, true⟩ : Sc).L H st.turn = (i2 : Int) := ha2
                    rw [ha2'] at HAF3
                    clear hlow ha2 ha2' hx2 hid2
                    go_wp2_with fail
                    refine HAF3.out.mono ?_
                    rintro e w16 ⟨rfl, n16⟩
                    have HM8 := Lib.hid (HM7.out.later n16)
                    clear n16 b0 b1 b2 b3 f0 f1 f2 f3 HAF3
                    obtain ⟨⟨b0, b1, b2, b3⟩, f0, f1, f2, f3⟩ := fours HM8.out.bx
                    have HM9 := Lib.hid (HM8.out.set3 false)
                    have hw : IntKind.i64.wrap ((j : Int) + 1) = (j : Int) + 1 := IntWalk.i64_in _ (by omega)
                    go_wp2_with fail
                    go_roundw
                    case rel =>
                      have hj := HJ0.out
                      have hlo := HLO.out
                      have hm9 := HM9.out
                      have hpo := HPO.out
                      have hx2 := HX2.out
                      have hapg := HAPG.out
                      have hokg := HLC.out.okh.grant
                      have hasc := HLC.out.asc.grant
                      have hmo := HLC.out.mo
                      have hgt := HGT.out
                      rw [hj.2] at hlo hm9 hpo hx2 hapg hokg hasc hmo hgt
                      exact ⟨1, i2, passS H (grantS (firS H s)), f2', (firS H s).turn, rfl, by rw [hj.1]; push_cast; go_num, ⟨.inr ⟨rfl, rfl, hlo⟩, hx2.1, by rw [hx2.2]; show _ = nextId (ids H) (grantS (firS H s)).turn; rw [hgt.1], hm9, hpo, ⟨hokg.asc, hokg.fl, hokg.sz⟩, hasc, hapg, by show (grantS (firS H s)).most = _; rw [hgt.2.1]; exact hmo, nextId_mem (fun e => HNE.out (by unfold ids at e; exact List.map_eq_nil_iff.1 e)) _⟩⟩
                    case measure => simp [intOf, hw]; have := HJ0.out.1; omega
end Go.Proofs.Ytcppibjllaablaa.drr
