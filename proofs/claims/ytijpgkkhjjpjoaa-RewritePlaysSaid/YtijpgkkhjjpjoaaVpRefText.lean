/-
  vp8: the reference's Text.
-/
import Derived.Test.YtijpgkkhjjpjoaaVpText
import Derived.Test.YtijpgkkhjjpjoaaVpRef
import Derived.Deep.RegionHeld3
import Derived.Deep.QuietTactic
import Derived.BigQuiet
import Derived.Deep.DeepCutAuto
namespace Go.Proofs.Ytijpgkkhjjpjoaa.vp
open Go.RowKit mem rd wr oref sq
set_option linter.unusedVariables false

theorem one_any (b : Bool) (v : Int) (w : World) :
    Calls Try.prog 55 #[.bool b, .int .i64 v] w fun e w' => e = .returned (.int .i64 (bitV b v)) ∧ w = w' := by
  cases b
  all_goals
    go_enter Try.func55, Try.ntmps55
    go_wp2
    go_ret
    exact ⟨rfl, rfl⟩

abbrev HeldT (w w' : World) (p : Nat) (a0 a1 a2 a3 a4 a5 a6 a7 a8 : Value) : Prop :=
  New w w' ∧ p < w'.heap.size ∧ w'.cell? ⟨p, 0, none⟩ = some a0 ∧ w'.cell? ⟨p, 1, none⟩ = some a1 ∧ w'.cell? ⟨p, 2, none⟩ = some a2 ∧ w'.cell? ⟨p, 3, none⟩ = some a3 ∧ w'.cell? ⟨p, 4, none⟩ = some a4 ∧ w'.cell? ⟨p, 5, none⟩ = some a5 ∧ w'.cell? ⟨p, 6, none⟩ = some a6 ∧ w'.cell? ⟨p, 7, none⟩ = some a7 ∧ w'.cell? ⟨p, 8, none⟩ = some a8
section
variable {w w1 w2 : World} {p : Nat} {a0 a1 a2 a3 a4 a5 a6 a7 a8 : Value}
theorem heldT_drew (h : HeldT w w1 p a0 a1 a2 a3 a4 a5 a6 a7 a8) : HeldT w w1.drew p a0 a1 a2 a3 a4 a5 a6 a7 a8 := by
  obtain ⟨hn, h⟩ := h
  exact ⟨hn.drew, h⟩
theorem heldT_new (k : New w1 w2) (h : HeldT w w1 p a0 a1 a2 a3 a4 a5 a6 a7 a8) : HeldT w w2 p a0 a1 a2 a3 a4 a5 a6 a7 a8 := by
  obtain ⟨hn, hl, b0, b1, b2, b3, b4, b5, b6, b7, b8⟩ := h
  have d := fun i => k.cell (a := ⟨p, i, none⟩) hl (fun h => h)
  exact ⟨hn.trans (k.mono (fun _ _ h => h.elim)), Nat.lt_of_lt_of_le hl k.size, (d 0).trans b0, (d 1).trans b1, (d 2).trans b2, (d 3).trans b3, (d 4).trans b4, (d 5).trans b5, (d 6).trans b6, (d 7).trans b7, (d 8).trans b8⟩
theorem heldT_of {t : TypeId} (h : Blk w1 p #[a0, a1, a2, a3, a4, a5, a6, a7, a8] t) : HeldT w1 w1 p a0 a1 a2 a3 a4 a5 a6 a7 a8 :=
  ⟨Turns.refl _ _, h.lt, h.cell 0, h.cell 1, h.cell 2, h.cell 3, h.cell 4, h.cell 5, h.cell 6, h.cell 7, h.cell 8⟩
end
theorem cat_size (a b : ByteArray) : (a ++ b).size = a.size + b.size := by simp
theorem be_size (n : Nat) (x : Int) : (⟨(be n x).toArray⟩ : ByteArray).size = n := by rw [size_mk, be_length]

set_option maxRecDepth 100000 in
set_option maxHeartbeats 2000000 in
theorem rtext (d : D) (hv : V d) (w : World) :
    Calls Try.prog 44 #[.agg (cells d)] w fun e w' => e = .returned (.string ⟨(tx d).toArray⟩) ∧ New w w' := by
  have HO := Lib.hid (fun b v w => one_any b v w)
  have HNum := Lib.hid (fun n x N a b c w => rnum n x N a b c w)
  have hpart := hv.part
  have hpic := hv.pic
  have hlev := hv.lev
  have hlay := hv.lay
  have hkey := hv.key
  have hwide := hv.wide
  have hnarrow := hv.narrow
  have hfb := fb_bd d hv
  have hfg := fg_bd d
  have hlk := lk_bd d hv
  have HTX : Hid (tx d = if fg d = 0 then be 1 (fb d) else be 1 (fb d + 128) ++ be 1 (fg d) ++ txPic d ++ txLev d ++ txLk d) := Lib.hid rfl
  have HPic : Hid (txPic d = if 0 ≤ d.pic then (if d.wide then be 2 (d.pic + 32768) else be 1 d.pic) else []) := Lib.hid rfl
  have HLev : Hid (txLev d = if 0 ≤ d.lev then be 1 d.lev else []) := Lib.hid rfl
  have HTk : Hid (txLk d = if 0 ≤ d.lay ∨ 0 ≤ d.key then be 1 (lk d) else []) := Lib.hid rfl
  have HFb : Hid (fb d = d.part + bitV d.nr 32 + bitV d.st 16) := Lib.hid rfl
  have HFg : Hid (fg d = bitV (decide (0 ≤ d.pic)) 128 + bitV (decide (0 ≤ d.lev)) 64 + bitV (decide (0 ≤ d.lay)) 32 + bitV (decide (0 ≤ d.key)) 16) := Lib.hid rfl
  have HLk : Hid (lk d = (if 0 ≤ d.lay then d.lay * 64 + bitV d.sync 32 else 0) + (if 0 ≤ d.key then d.key else 0)) := Lib.hid rfl
  have hsync := hv.sync
  clear hv
  generalize tx d = T at *
  generalize fb d = B at *
  generalize fg d = G at *
  generalize lk d = L at *
  generalize txPic d = T1 at *
  generalize txLev d = T2 at *
  generalize txLk d = T3 at *
  obtain ⟨nr, st, part, pic, wide, lev, lay, sync, key⟩ := d
  simp only [cells] at *
  have HB0 := Lib.hid (Blk.new w #[.bool nr, .bool st, .int .i64 part, .int .i64 pic, .bool wide, .int .i64 lev, .int .i64 lay, .bool sync, .int .i64 key] DR)
  have HN0 : Hid (New w (w.alloc (.cells #[.bool nr, .bool st, .int .i64 part, .int .i64 pic, .bool wide, .int .i64 lev, .int .i64 lay, .bool sync, .int .i64 key] DR))) := Lib.hid ((Turns.refl _ _).alloc _)
  have HWN := Lib.hid (And.intro hwide (And.intro hnarrow hsync))
  clear hwide hnarrow hsync
  go_enter Try.func44, Try.ntmps44
  go_wp2_with fail
  generalize w.alloc (.cells #[.bool nr, .bool st, .int .i64 part, .int .i64 pic, .bool wide, .int .i64 lev, .int .i64 lay, .bool sync, .int .i64 key] DR) = w0 at *
  generalize w.heap.size = pd at *
  obtain ⟨c0, c1, c2, c3, c4, c5, c6, c7, c8⟩ := cells9 HB0.out
  obtain ⟨b1, b1'⟩ := bitV_bd (decide (0 ≤ pic)) 128 (by omega)
  obtain ⟨b2, b2'⟩ := bitV_bd (decide (0 ≤ lev)) 64 (by omega)
  obtain ⟨b3, b3'⟩ := bitV_bd (decide (0 ≤ lay)) 32 (by omega)
  obtain ⟨b4, b4'⟩ := bitV_bd (decide (0 ≤ key)) 16 (by omega)
  go_cut [3] (fun v wx => v = .int .i64 G ∧ Blk wx pd #[.bool nr, .bool st, .int .i64 part, .int .i64 pic, .bool wide, .int .i64 lev, .int .i64 lay, .bool sync, .int .i64 key] DR ∧ New w wx)
  case first =>
    clear HTX HPic HLev HTk HFb HLk HWN HNum hpart hlk hfb hfg hpic hlev hlay hkey
    go_quiet ((go_at_call 55; exact quiet_eq (HO.out _ _ _)))
    go_wp2_with fail
    go_meet
    case rel => exact ⟨by rw [HFg.out], HB0.out, Turns.drewN HN0.out _⟩
  case rest =>
    obtain ⟨rfl, hb2, hn2⟩ := hcut
    clear b1 b1' b2 b2' b3 b3' b4 b4' c0 c1 c2 c3 c4 c5 c6 c7 c8 HB0 HN0 HFg
    obtain ⟨n1, n1'⟩ := bitV_bd nr 32 (by omega)
    obtain ⟨n2, n2'⟩ := bitV_bd st 16 (by omega)
    obtain ⟨Y, hY⟩ : ∃ Y : ByteArray, Y = ⟨(be 1 (B + bitV (decide (0 < G)) 128)).toArray⟩ := ⟨_, rfl⟩
    obtain ⟨n3, n3'⟩ := bitV_bd (decide (0 < G)) 128 (by omega)
    have HY := Lib.hid hY
    have hfst : bitV (decide (0 < G)) 128 + bitV nr 32 + bitV st 16 + part = B + bitV (decide (0 < G)) 128 := by rw [HFb.out]; omega
    have HM := Lib.hid (fun w => HNum.out 1 (B + bitV (decide (0 < G)) 128) 1 (by decide) (by omega) (by omega) w)
    rw [← hY] at HM
    clear hY
    go_upto_region 2 with fail
    go_cut [4] (fun v wx => v = .string Y ∧ Blk wx pd #[.bool nr, .bool st, .int .i64 part, .int .i64 pic, .bool wide, .int .i64 lev, .int .i64 lay, .bool sync, .int .i64 key] DR ∧ New w wx)
    case first =>
      have hh := heldT_of hb2
      have HH := Lib.hid hh
      have HB2 := Lib.hid hb2
      have HN2 := Lib.hid hn2
      obtain ⟨y1, s1⟩ : ∃ y1, IntKind.i64.wrap (bitV (decide (0 < G)) 128 + bitV nr 32) = y1 := ⟨_, rfl⟩
      have e1 : y1 = bitV (decide (0 < G)) 128 + bitV nr 32 := by rw [← s1]; exact IntWalk.i64_in _ (by omega)
      obtain ⟨y2, s2⟩ : ∃ y2, IntKind.i64.wrap (y1 + bitV st 16) = y2 := ⟨_, rfl⟩
      have e2 : y2 = y1 + bitV st 16 := by rw [← s2]; exact IntWalk.i64_in _ (by omega)
      obtain ⟨y3, hy3⟩ : ∃ y3, y3 = B + bitV (decide (0 < G)) 128 := ⟨_, rfl⟩
      have s3 : IntKind.i64.wrap (y2 + part) = y3 := by rw [IntWalk.i64_in _ (by omega)]; omega
      have s4 : IntKind.u64.wrap y3 = y3 := by rw [IntKind.wrap_u64]; omega
      rw [← hy3] at HM
      clear hfst e1 e2 hy3
      have hB0 := hfb.1
      clear HTX HPic HLev HTk HFb HLk HWN HNum hlk hfg hpic hlev hlay hkey hb2 hn2 HY
      go_region_held3 (fun w' => New wc w' ∧ pd < w'.heap.size ∧ w'.cell? ⟨pd, 0, none⟩ = some (.bool nr) ∧ w'.cell? ⟨pd, 1, none⟩ = some (.bool st) ∧ w'.cell? ⟨pd, 2, none⟩ = some (.int .i64 part) ∧ w'.cell? ⟨pd, 3, none⟩ = some (.int .i64 pic) ∧ w'.cell? ⟨pd, 4, none⟩ = some (.bool wide) ∧ w'.cell? ⟨pd, 5, none⟩ = some (.int .i64 lev) ∧ w'.cell? ⟨pd, 6, none⟩ = some (.int .i64 lay) ∧ w'.cell? ⟨pd, 7, none⟩ = some (.bool sync) ∧ w'.cell? ⟨pd, 8, none⟩ = some (.int .i64 key))
        (first
          | (with_reducible assumption)
          | ((with_reducible refine heldT_drew ?_); with_reducible assumption)
          | ((with_reducible apply heldT_new hnq); with_reducible assumption))
        (first
          | (go_at_call 55; (with_reducible refine Calls.mono (HO.out _ _ _) ?_); rintro en wq ⟨rfl, rfl⟩)
          | (go_at_call 49; (with_reducible refine Calls.mono (HM.out _) ?_); rintro en wq ⟨rfl, hnq⟩))
      have hnq' := Turns.of_drew hnq
      have HB3 := Lib.hid (hnq'.blk HB2.out (fun h => h))
      have HN3 := Lib.hid (HN2.out.trans (hnq'.mono (fun _ _ h => h.elim)))
      clear hnq hnq' hh HH
      go_wp2_with fail
      go_meet
      case rel => exact ⟨rfl, HB3.out, HN3.out⟩
    case rest =>
      obtain ⟨rfl, hb3, hn3⟩ := hcut
      clear hb2 hn2 HM hfst n1 n1' n2 n2' n3 n3'
      have HB3 := Lib.hid hb3
      have HN3 := Lib.hid hn3
      obtain ⟨c0, c1, c2, c3, c4, c5, c6, c7, c8⟩ := cells9 hb3
      clear hb3 hn3
      by_cases hg : G = 0
      · subst hg
        rw [if_pos rfl] at HTX
        have hYT : Y = ⟨T.toArray⟩ := by rw [HY.out, HTX.out]; rw [show bitV (decide ((0 : Int) < 0)) 128 = 0 by decide, Int.add_zero]
        have HYT := Lib.hid hYT
        clear hYT
        go_wp2
        go_ret
        exact ⟨by rw [HYT.out]; rfl, HN3.out⟩
      · have hg1 : (G == 0) = false := beq_eq_false_iff_ne.2 hg
        have hgp : 0 < G := by omega
        rw [if_neg hg] at HTX
        have hYs : Y.size = 1 := by rw [HY.out, be_size]
        have hY2 : Hid (Y = ⟨(be 1 (B + 128)).toArray⟩) := Lib.hid (by rw [HY.out, decide_eq_true hgp]; rfl)
        clear HY hg hgp
        obtain ⟨Y1, hY1⟩ : ∃ Y : ByteArray, Y = ⟨(be 1 G).toArray⟩ := ⟨_, rfl⟩
        have hY1s : Y1.size = 1 := by rw [hY1, be_size]
        have HY1 := Lib.hid hY1
        have u1 : IntKind.u64.wrap G = G := by rw [IntKind.wrap_u64]; omega
        have HM := Lib.hid (fun w => HNum.out 1 G 1 (by decide) hfg.1 (by omega) w)
        rw [← hY1] at HM
        clear hY1
        have z1 : (9223372036854775807 < Y.size + Y1.size) = False := by simp only [eq_iff_iff, iff_false]; omega
        go_wp2_with fail
        refine (HM.out _).mono ?_
        rintro e w4 ⟨rfl, n4⟩
        obtain ⟨A, hA⟩ : ∃ A, A = be 1 (B + 128) ++ be 1 G := ⟨_, rfl⟩
        have hX : Y ++ Y1 = ⟨A.toArray⟩ := by rw [hY2.out, HY1.out, cat_mk, hA]
        have hXs : (Y ++ Y1).size ≤ 2 := by rw [cat_size]; omega
        have hA2 : A.length ≤ 2 := by rw [hA, List.length_append, be_length, be_length]; omega
        have HB := Lib.hid (n4.blk HB3.out (fun h => h))
        have HN := Lib.hid (HN3.out.trans (n4.mono (fun _ _ h => h.elim)))
        rw [← hA] at HTX
        have HX := Lib.hid hX
        clear HB3 HN3 n4 HM c0 c1 c2 c3 c4 c5 c6 c7 c8 hY2 HY1 u1 hX hA
        obtain ⟨c0, c1, c2, c3, c4, c5, c6, c7, c8⟩ := cells9 HB.out
        go_upto_if 49 with fail
        clear hYs hY1s z1
        generalize Y ++ Y1 = X at *
        go_cut [4] (fun v wx => ∃ X : ByteArray, v = .string X ∧ X = ⟨(A ++ (if wide = true then be 2 (pic + 32768) else [])).toArray⟩ ∧ X.size ≤ 4 ∧ Blk wx pd #[.bool nr, .bool st, .int .i64 part, .int .i64 pic, .bool wide, .int .i64 lev, .int .i64 lay, .bool sync, .int .i64 key] DR ∧ New w wx)
        case first =>
          cases wide
          · clear HTX HPic HLev HTk HLk HWN HNum
            go_wp2_with fail
            go_meet
            case rel => exact ⟨_, rfl, by rw [HX.out]; simp, by omega, HB.out, HN.out⟩
          · have hp0 : 0 ≤ pic := HWN.out.1 rfl
            have u0 : IntKind.i64.wrap (32768 + pic) = pic + 32768 := by rw [IntWalk.i64_in _ (by omega)]; omega
            have u1 : IntKind.u64.wrap (pic + 32768) = pic + 32768 := by rw [IntKind.wrap_u64]; omega
            obtain ⟨Z, hZ⟩ : ∃ Z : ByteArray, Z = ⟨(be 2 (pic + 32768)).toArray⟩ := ⟨_, rfl⟩
            have hZs : Z.size = 2 := by rw [hZ, be_size]
            have HZ := Lib.hid hZ
            have HM := Lib.hid (fun w => HNum.out 2 (pic + 32768) 2 (by decide) (by omega) (by omega) w)
            rw [← hZ] at HM
            clear hZ
            have z1 : (9223372036854775807 < X.size + Z.size) = False := by simp only [eq_iff_iff, iff_false]; omega
            go_wp2_with fail
            refine (HM.out _).mono ?_
            rintro e w4 ⟨rfl, n4⟩
            have HF := Lib.hid (And.intro (n4.blk HB.out (fun h => h)) (HN.out.trans (n4.mono (fun _ _ h => h.elim))))
            clear n4
            go_wp2_with fail
            go_meet
            case rel => exact ⟨_, rfl, by rw [HX.out, HZ.out, cat_mk]; rfl, by rw [cat_size]; omega, HF.out.1, HF.out.2⟩
        case rest =>
          obtain ⟨X, rfl, hX, hXs, hb, hn⟩ := hcut
          clear HB HN HX c0 c1 c2 c3 c4 c5 c6 c7 c8
          have HX := Lib.hid hX
          have HB := Lib.hid hb
          have HN := Lib.hid hn
          obtain ⟨c0, c1, c2, c3, c4, c5, c6, c7, c8⟩ := cells9 hb
          clear hb hn hX
          go_upto_region 8 with fail
          generalize hwk : wc = wk at *
          clear hwk
          go_cut [64] (fun v wx => ∃ bb : Bool, v = .bool bb ∧ bb = (decide (0 ≤ pic) && !wide) ∧ wx = wk)
          case first =>
            clear HTX HPic HLev HTk HLk HWN HNum
            by_cases hp : 0 ≤ pic
            · have hp' : decide (0 ≤ pic) = true := decide_eq_true hp
              cases wide
              all_goals
                go_wp2_with fail
                go_meet
                case rel => exact ⟨_, rfl, by simp [hp], rfl⟩
            · have hp' : decide (0 ≤ pic) = false := decide_eq_false hp
              cases wide
              all_goals
                go_wp2_with fail
                go_meet
                case rel => exact ⟨_, rfl, by simp [hp], rfl⟩
          case rest =>
            obtain ⟨bb, rfl, hbb, rfl⟩ := hcut
            have HBB := Lib.hid hbb
            clear hbb
            go_upto_if 64 with fail
            go_cut [4] (fun v wx => ∃ X : ByteArray, v = .string X ∧ X = ⟨(A ++ T1).toArray⟩ ∧ X.size ≤ 4 ∧ Blk wx pd #[.bool nr, .bool st, .int .i64 part, .int .i64 pic, .bool wide, .int .i64 lev, .int .i64 lay, .bool sync, .int .i64 key] DR ∧ New w wx)
            case first =>
              by_cases hp : 0 ≤ pic
              · rw [if_pos hp] at HPic
                cases wide
                · have hna := HWN.out.2.1 rfl
                  have hb2 : bb = true := by rw [HBB.out]; simp [hp]
                  subst hb2
                  rw [if_neg (by decide)] at HPic HX
                  have u1 : IntKind.u64.wrap pic = pic := by rw [IntKind.wrap_u64]; omega
                  have hXs' : X.size ≤ 2 := by rw [HX.out, size_mk, List.append_nil]; exact hA2
                  obtain ⟨Z, hZ⟩ : ∃ Z : ByteArray, Z = ⟨(be 1 pic).toArray⟩ := ⟨_, rfl⟩
                  have hZs : Z.size = 1 := by rw [hZ, be_size]
                  have HZ := Lib.hid hZ
                  have HM := Lib.hid (fun w => HNum.out 1 pic 1 (by decide) (by omega) (by omega) w)
                  rw [← hZ] at HM
                  clear hZ
                  have z1 : (9223372036854775807 < X.size + Z.size) = False := by simp only [eq_iff_iff, iff_false]; omega
                  go_wp2_with fail
                  refine (HM.out _).mono ?_
                  rintro e w4 ⟨rfl, n4⟩
                  have HF := Lib.hid (And.intro (n4.blk HB.out (fun h => h)) (HN.out.trans (n4.mono (fun _ _ h => h.elim))))
                  clear n4
                  go_wp2_with fail
                  go_meet
                  case rel => exact ⟨_, rfl, by rw [HX.out, HZ.out, cat_mk]; rw [HPic.out, List.append_nil], by rw [cat_size]; omega, HF.out.1, HF.out.2⟩
                · have hb2 : bb = false := by rw [HBB.out]; simp
                  subst hb2
                  rw [if_pos rfl] at HPic HX
                  go_wp2_with fail
                  go_meet
                  case rel => exact ⟨_, rfl, by rw [HX.out]; rw [HPic.out], by omega, HB.out, HN.out⟩
              · have hb2 : bb = false := by rw [HBB.out]; simp [hp]
                subst hb2
                rw [if_neg hp] at HPic
                have hwf : wide = false := by cases wide; rfl; exact absurd (HWN.out.1 rfl) hp
                subst hwf
                rw [if_neg (by decide)] at HX
                go_wp2_with fail
                go_meet
                case rel => exact ⟨_, rfl, by rw [HX.out]; rw [HPic.out], by omega, HB.out, HN.out⟩
            case rest =>
              obtain ⟨X, rfl, hX, hXs, hb, hn⟩ := hcut
              clear HB HN HX c0 c1 c2 c3 c4 c5 c6 c7 c8
              have HX := Lib.hid hX
              have HB := Lib.hid hb
              have HN := Lib.hid hn
              obtain ⟨c0, c1, c2, c3, c4, c5, c6, c7, c8⟩ := cells9 hb
              clear hb hn hX
              go_upto_if 73 with fail
              go_cut [4] (fun v wx => ∃ X : ByteArray, v = .string X ∧ X = ⟨(A ++ T1 ++ T2).toArray⟩ ∧ X.size ≤ 5 ∧ Blk wx pd #[.bool nr, .bool st, .int .i64 part, .int .i64 pic, .bool wide, .int .i64 lev, .int .i64 lay, .bool sync, .int .i64 key] DR ∧ New w wx)
              case first =>
                by_cases hp : 0 ≤ lev
                · have hp' := hp
                  rw [if_pos hp] at HLev
                  have u1 : IntKind.u64.wrap lev = lev := by rw [IntKind.wrap_u64]; omega
                  obtain ⟨Z, hZ⟩ : ∃ Z : ByteArray, Z = ⟨(be 1 lev).toArray⟩ := ⟨_, rfl⟩
                  have hZs : Z.size = 1 := by rw [hZ, be_size]
                  have HZ := Lib.hid hZ
                  have HM := Lib.hid (fun w => HNum.out 1 lev 1 (by decide) (by omega) (by omega) w)
                  rw [← hZ] at HM
                  clear hZ
                  have z1 : (9223372036854775807 < X.size + Z.size) = False := by simp only [eq_iff_iff, iff_false]; omega
                  go_wp2_with fail
                  refine (HM.out _).mono ?_
                  rintro e w4 ⟨rfl, n4⟩
                  have HF := Lib.hid (And.intro (n4.blk HB.out (fun h => h)) (HN.out.trans (n4.mono (fun _ _ h => h.elim))))
                  clear n4
                  go_wp2_with fail
                  go_meet
                  case rel => exact ⟨_, rfl, by rw [HX.out, HZ.out, cat_mk]; rw [HLev.out], by rw [cat_size]; omega, HF.out.1, HF.out.2⟩
                · have hp' := hp
                  rw [if_neg hp] at HLev
                  go_wp2_with fail
                  go_meet
                  case rel => exact ⟨_, rfl, by rw [HX.out]; rw [HLev.out, List.append_nil], by omega, HB.out, HN.out⟩
              case rest =>
                obtain ⟨X, rfl, hX, hXs, hb, hn⟩ := hcut
                clear HB HN HX c0 c1 c2 c3 c4 c5 c6 c7 c8
                have HX := Lib.hid hX
                have HB := Lib.hid hb
                have HN := Lib.hid hn
                obtain ⟨c0, c1, c2, c3, c4, c5, c6, c7, c8⟩ := cells9 hb
                clear hb hn hX
                go_upto_region 12 with fail
                generalize hwk : wc = wk at *
                clear hwk
                go_cut [87] (fun v wx => ∃ bb : Bool, v = .bool bb ∧ bb = (decide (0 ≤ lay) || decide (0 ≤ key)) ∧ wx = wk)
                case first =>
                  clear HTX HPic HLev HTk HLk HWN HNum
                  by_cases hp : 0 ≤ lay <;> by_cases hq : 0 ≤ key
                  all_goals
                    go_wp2_with fail
                    go_meet
                    case rel => exact ⟨_, rfl, by simp [hp, hq], rfl⟩
                case rest =>
                  obtain ⟨bb, rfl, hbb, rfl⟩ := hcut
                  have HBB := Lib.hid hbb
                  clear hbb
                  go_upto_if 87 with fail
                  go_cut [4] (fun v wx => ∃ X : ByteArray, v = .string X ∧ X = ⟨(A ++ T1 ++ T2 ++ T3).toArray⟩ ∧ X.size ≤ 6 ∧ Blk wx pd #[.bool nr, .bool st, .int .i64 part, .int .i64 pic, .bool wide, .int .i64 lev, .int .i64 lay, .bool sync, .int .i64 key] DR ∧ New w wx)
                  case first =>
                    by_cases hor : 0 ≤ lay ∨ 0 ≤ key
                    · rw [if_pos hor] at HTk
                      have hb2 : bb = true := by rw [HBB.out]; rcases hor with h | h <;> simp [h]
                      subst hb2
                      obtain ⟨sb, sb'⟩ := bitV_bd sync 32 (by omega)
                      have hsl : lay < 0 → bitV sync 32 = 0 := fun h => by
                        cases sync
                        · rfl
                        · exact absurd (HWN.out.2.2 rfl) (by omega)
                      obtain ⟨m1, e1⟩ : ∃ m1 : Int, (if lay < 0 then (0 : Int) else lay) = m1 := ⟨_, rfl⟩
                      obtain ⟨m2, e2⟩ : ∃ m2 : Int, (if key < 0 then (0 : Int) else key) = m2 := ⟨_, rfl⟩
                      have m1b : 0 ≤ m1 ∧ m1 ≤ 3 := by rw [← e1]; split <;> omega
                      have m2b : 0 ≤ m2 ∧ m2 ≤ 31 := by rw [← e2]; split <;> omega
                      have hL : m1 * 64 + bitV sync 32 + m2 = L := by
                        have h := HLk.out
                        by_cases h1 : lay < 0 <;> by_cases h2 : key < 0
                        · have := hsl h1
                          rw [if_neg (by omega), if_neg (by omega)] at h; rw [if_pos h1] at e1; rw [if_pos h2] at e2; omega
                        · have := hsl h1
                          rw [if_neg (by omega), if_pos (by omega)] at h; rw [if_pos h1] at e1; rw [if_neg h2] at e2; omega
                        · rw [if_pos (by omega), if_neg (by omega)] at h; rw [if_neg h1] at e1; rw [if_pos h2] at e2; omega
                        · rw [if_pos (by omega), if_pos (by omega)] at h; rw [if_neg h1] at e1; rw [if_neg h2] at e2; omega
                      obtain ⟨y1, s1⟩ : ∃ y1, IntKind.i64.wrap (m1 * 64) = y1 := ⟨_, rfl⟩
                      have r1 : y1 = m1 * 64 := by rw [← s1]; exact IntWalk.i64_in _ (by omega)
                      obtain ⟨y2, s2⟩ : ∃ y2, IntKind.i64.wrap (y1 + bitV sync 32) = y2 := ⟨_, rfl⟩
                      have r2 : y2 = y1 + bitV sync 32 := by rw [← s2]; exact IntWalk.i64_in _ (by omega)
                      have s3 : IntKind.i64.wrap (y2 + m2) = L := by rw [IntWalk.i64_in _ (by omega)]; omega
                      have s4 : IntKind.u64.wrap L = L := by rw [IntKind.wrap_u64]; omega
                      obtain ⟨Z, hZ⟩ : ∃ Z : ByteArray, Z = ⟨(be 1 L).toArray⟩ := ⟨_, rfl⟩
                      have hZs : Z.size = 1 := by rw [hZ, be_size]
                      have HZ := Lib.hid hZ
                      have HM := Lib.hid (fun w => HNum.out 1 L 1 (by decide) (by omega) (by omega) w)
                      rw [← hZ] at HM
                      have z1 : (9223372036854775807 < X.size + Z.size) = False := by simp only [eq_iff_iff, iff_false]; omega
                      have HXs := Lib.hid (show (X ++ Z).size ≤ 6 by rw [cat_size]; omega)
                      have hh := heldT_of HB.out
                      clear hZ r1 r2 hL hsl m1b m2b hor hZs hXs
                      go_upto_region 13 with fail
                      go_region_held3 (fun w' => New wc w' ∧ pd < w'.heap.size ∧ w'.cell? ⟨pd, 0, none⟩ = some (.bool nr) ∧ w'.cell? ⟨pd, 1, none⟩ = some (.bool st) ∧ w'.cell? ⟨pd, 2, none⟩ = some (.int .i64 part) ∧ w'.cell? ⟨pd, 3, none⟩ = some (.int .i64 pic) ∧ w'.cell? ⟨pd, 4, none⟩ = some (.bool wide) ∧ w'.cell? ⟨pd, 5, none⟩ = some (.int .i64 lev) ∧ w'.cell? ⟨pd, 6, none⟩ = some (.int .i64 lay) ∧ w'.cell? ⟨pd, 7, none⟩ = some (.bool sync) ∧ w'.cell? ⟨pd, 8, none⟩ = some (.int .i64 key))
                        (first
                          | (with_reducible assumption)
                          | ((with_reducible refine heldT_drew ?_); with_reducible assumption)
                          | ((with_reducible apply heldT_new hnq); with_reducible assumption))
                        (first
                          | (go_at_call 55; (with_reducible refine Calls.mono (HO.out _ _ _) ?_); rintro en wq ⟨rfl, rfl⟩)
                          | (go_at_call 49; (with_reducible refine Calls.mono (HM.out _) ?_); rintro en wq ⟨rfl, hnq⟩))
                      all_goals
                        rename_i hHl
                        have HF := Lib.hid (And.intro (hHl.1.blk HB.out (fun h => h)) (HN.out.trans (hHl.1.mono (fun _ _ h => h.elim))))
                        clear hHl
                        go_wp2_with fail
                        go_meet
                        case rel => exact ⟨_, rfl, by rw [HX.out, HZ.out, cat_mk, HTk.out], HXs.out, HF.out.1, HF.out.2⟩
                    · rw [if_neg hor] at HTk
                      have hb2 : bb = false := by rw [HBB.out]; simp only [not_or] at hor; simp [hor.1, hor.2]
                      subst hb2
                      go_wp2_with fail
                      go_meet
                      case rel => exact ⟨_, rfl, by rw [HX.out]; rw [HTk.out, List.append_nil], by omega, HB.out, HN.out⟩
                  case rest =>
                    obtain ⟨X, rfl, hX, hXs, hb, hn⟩ := hcut
                    clear HB HN HX c0 c1 c2 c3 c4 c5 c6 c7 c8
                    have HX := Lib.hid hX
                    have HB := Lib.hid hb
                    have HN := Lib.hid hn
                    obtain ⟨c0, c1, c2, c3, c4, c5, c6, c7, c8⟩ := cells9 hb
                    clear hb hn hX
                    go_wp2
                    go_ret
                    exact ⟨by rw [HTX.out, ← HX.out]; rfl, HN.out⟩
end Go.Proofs.Ytijpgkkhjjpjoaa.vp
