/-
  vp8.Parse: what it reads.
-/
import Derived.Test.YtijpgkkhjjpjoaaVpPure
import Derived.Deep.DeepCutAuto
import Derived.Deep.QuietTactic
import Derived.BigQuiet
import Derived.Outline
namespace Go.Proofs.Ytijpgkkhjjpjoaa.vp
open Go.RowKit mem rd oref sq
set_option linter.unusedVariables false

abbrev DT : TypeId := 64

/-- a descriptor at pd, a reader at pr; nothing else has turned -/
def Both (w w' : World) (pd pr : Nat) (d : D) (s : St) : Prop := Blk w' pd (cells d) DT ∧ Rs w' pr s ∧ Turns (fun k => k = pd ∨ k = pr) w w'

section
variable {w : World} {p : Nat} {d : D} (h : Blk w p (cells d) DT)
include h
theorem dc0 : w.cell? ⟨p, 0, none⟩ = some (.bool d.nr) := h.cell 0
theorem dc1 : w.cell? ⟨p, 1, none⟩ = some (.bool d.st) := h.cell 1
theorem dc2 : w.cell? ⟨p, 2, none⟩ = some (.int .i64 d.part) := h.cell 2
theorem dc3 : w.cell? ⟨p, 3, none⟩ = some (.int .i64 d.pic) := h.cell 3
theorem dc4 : w.cell? ⟨p, 4, none⟩ = some (.bool d.wide) := h.cell 4
theorem dc5 : w.cell? ⟨p, 5, none⟩ = some (.int .i64 d.lev) := h.cell 5
theorem dc6 : w.cell? ⟨p, 6, none⟩ = some (.int .i64 d.lay) := h.cell 6
theorem dc7 : w.cell? ⟨p, 7, none⟩ = some (.bool d.sync) := h.cell 7
theorem dc8 : w.cell? ⟨p, 8, none⟩ = some (.int .i64 d.key) := h.cell 8
theorem ds0 (v : Bool) : Blk (w.setCell ⟨p, 0, none⟩ (.bool v)) p (cells { d with nr := v }) DT := h.set 0 _
theorem ds1 (v : Bool) : Blk (w.setCell ⟨p, 1, none⟩ (.bool v)) p (cells { d with st := v }) DT := h.set 1 _
theorem ds2 (v : Int) : Blk (w.setCell ⟨p, 2, none⟩ (.int .i64 v)) p (cells { d with part := v }) DT := h.set 2 _
theorem ds3 (v : Int) : Blk (w.setCell ⟨p, 3, none⟩ (.int .i64 v)) p (cells { d with pic := v }) DT := h.set 3 _
theorem ds4 (v : Bool) : Blk (w.setCell ⟨p, 4, none⟩ (.bool v)) p (cells { d with wide := v }) DT := h.set 4 _
theorem ds5 (v : Int) : Blk (w.setCell ⟨p, 5, none⟩ (.int .i64 v)) p (cells { d with lev := v }) DT := h.set 5 _
theorem ds6 (v : Int) : Blk (w.setCell ⟨p, 6, none⟩ (.int .i64 v)) p (cells { d with lay := v }) DT := h.set 6 _
theorem ds7 (v : Bool) : Blk (w.setCell ⟨p, 7, none⟩ (.bool v)) p (cells { d with sync := v }) DT := h.set 7 _
theorem ds8 (v : Int) : Blk (w.setCell ⟨p, 8, none⟩ (.int .i64 v)) p (cells { d with key := v }) DT := h.set 8 _
end

theorem plain_any (w : World) :
    Calls Try.prog 36 #[] w fun en w' => en = .returned (.agg #[.bool false, .bool false, .int .i64 0, .int .i64 (-1), .bool false, .int .i64 (-1), .int .i64 (-1), .bool false, .int .i64 (-1)]) ∧ New w w' := by
  go_enter Try.func36, Try.ntmps36
  go_wp2
  go_returns
  exact ⟨rfl, (Turns.refl _ _).alloc _⟩

set_option maxHeartbeats 1000000 in
theorem takePicture (pd pr : Nat) (d : D) (s : St) (w : World) (hd : Blk w pd (cells d) DT) (hr : Rs w pr s) (hne : pd ≠ pr) :
    Calls Try.prog 46 #[.pointer (some ⟨pd, 0, none⟩), .pointer (some ⟨pr, 0, none⟩)] w fun en w' => en = .returned (.tuple #[]) ∧ Both w w' pd pr { d with pic := picV s, wide := picW s } (picS s) := by
  have HU := Lib.hid (fun w h => u8_st pr (nx 1 s) w h)
  have hb := vn_bd1 s
  have hb2 := vn_bd1 (nx 1 s)
  have h127 := and127 (vn 1 s) hb.1 hb.2
  have h128 := and128 (vn 1 s) hb.1 hb.2
  have hr1 := Lib.hid (u8_st pr s w hr)
  have HW : Hid (picW s = b128 (vn 1 s)) := Lib.hid rfl
  by_cases hv : 128 ≤ vn 1 s
  · have HP : Hid (picV s = (vn 1 s - 128) * 256 + vn 1 (nx 1 s)) := Lib.hid (by unfold picV; rw [if_pos hv])
    have HS : Hid (picS s = nx 1 (nx 1 s)) := Lib.hid (by unfold picS; rw [if_pos hv])
    have hor := or_low64 (vn 1 s % 128) (vn 1 (nx 1 s)) (by omega) (by omega) hb2.1 hb2.2
    have hm : vn 1 s % 128 = vn 1 s - 128 := by omega
    rw [b128_is _ hb.1 hb.2, decide_eq_true hv] at HW
    rw [if_pos hv] at h128
    rw [hm] at h127 hor
    generalize nx 1 s = s1 at *
    generalize vn 1 s = a at *
    generalize vn 1 s1 = b at *
    clear hm
    go_enter Try.func46, Try.ntmps46
    go_wp2_with fail
    refine (hr1.out).mono ?_
    rintro e w1 ⟨rfl, hr1', ht1⟩
    have hd1 := ht1.blk hd hne
    have c3 := dc3 hd1
    have c4 := dc4 hd1
    have f3 := hd1.free 3
    have f4 := hd1.free 4
    have hd2 := ds3 (ds4 hd1 true) (a - 128)
    have hr2 : Rs ((w1.setCell ⟨pd, 4, none⟩ (.bool true)).setCell ⟨pd, 3, none⟩ (.int .i64 (a - 128))) pr s1 := Rs.turns hr1' (((Turns.refl (· = pd) w1).setCell (.inl rfl) _).setCell (.inl rfl) _) (fun h => hne h.symm)
    have ht2 : Turns (fun k => k = pd ∨ k = pr) w ((w1.setCell ⟨pd, 4, none⟩ (.bool true)).setCell ⟨pd, 3, none⟩ (.int .i64 (a - 128))) := ((ht1.mono (fun _ _ h => .inr h)).setCell (.inl (.inl rfl)) _).setCell (.inl (.inl rfl)) _
    clear hr1 hd1 hr1' ht1 hd hr
    go_wp2
    generalize (w1.setCell ⟨pd, 4, none⟩ (.bool true)).setCell ⟨pd, 3, none⟩ (.int .i64 (a - 128)) = w2 at *
    clear c3 c4 f3 f4
    have c3 := dc3 hd2
    have f3 := hd2.free 3
    have HD2 := Lib.hid hd2
    have HR2 := Lib.hid hr2
    have HT2 := Lib.hid ht2
    simp only at c3
    clear hd2 hr2 ht2
    have hwr : IntKind.i64.wrap ((a - 128) * 256) = (a - 128) * 256 := IntWalk.i64_in _ (by omega)
    have hwb : IntKind.i64.wrap b = b := IntWalk.i64_in _ (by omega)
    go_region_with (go_at_call 35; (with_reducible refine (HU.out _ ?_).mono ?_); (exact HR2.out); rintro e w3 ⟨rfl, hr3, ht3⟩; have hd3 := ht3.blk HD2.out hne; have c3' := dc3 hd3; have f3' := hd3.free 3; have hq3 := Lib.hid hd3; have hr3' := Lib.hid hr3; have ht3' := Lib.hid ht3; clear hd3 hr3 ht3; simp only at c3')
    all_goals
      go_end0
      refine ⟨rfl, ?_, ?_, ?_⟩
      · rw [HP.out, HW.out]; exact ds3 hq3.out _
      · rw [HS.out]; exact hr3'.out.turns ((Turns.refl (· = pd) w3).setCell (.inl rfl) _) (fun h => hne h.symm)
      · exact (HT2.out.drew.trans (ht3'.out.mono (fun _ _ h => .inl (.inr h)))).setCell (.inl (.inl rfl)) _
  · have HP : Hid (picV s = vn 1 s) := Lib.hid (by unfold picV; rw [if_neg hv])
    have HS : Hid (picS s = nx 1 s) := Lib.hid (by unfold picS; rw [if_neg hv])
    have hm : vn 1 s % 128 = vn 1 s := by omega
    rw [b128_is _ hb.1 hb.2, decide_eq_false hv] at HW
    rw [if_neg hv] at h128
    rw [hm] at h127
    generalize nx 1 s = s1 at *
    generalize vn 1 s = a at *
    clear hm hb2
    go_enter Try.func46, Try.ntmps46
    go_wp2_with fail
    refine (hr1.out).mono ?_
    rintro e w1 ⟨rfl, hr1', ht1⟩
    have hd1 := ht1.blk hd hne
    have c3 := dc3 hd1
    have c4 := dc4 hd1
    have f3 := hd1.free 3
    have f4 := hd1.free 4
    have HD1 := Lib.hid hd1
    clear hr1 hd1 hd hr
    go_wp2
    go_end0
    refine ⟨rfl, ?_, ?_, ?_⟩
    · rw [HP.out, HW.out]; exact ds3 (ds4 HD1.out false) a
    · rw [HS.out]; exact Rs.turns hr1' (((Turns.refl (· = pd) w1).setCell (.inl rfl) _).setCell (.inl rfl) _) (fun h => hne h.symm)
    · exact ((ht1.mono (fun _ _ h => .inr h)).setCell (.inl (.inl rfl)) _).setCell (.inl (.inl rfl)) _

theorem Both.step {w a b : World} {pd pr : Nat} {d d' : D} {s s' : St} (h : Both w a pd pr d s) (k : Both a b pd pr d' s') : Both w b pd pr d' s' :=
  ⟨k.1, k.2.1, h.2.2.trans (k.2.2.mono (fun _ _ h => .inl h))⟩

set_option maxHeartbeats 1000000 in
theorem take (pd pr : Nat) (d : D) (s : St) (w : World) (hd : Blk w pd (cells d) DT) (hr : Rs w pr s) (hne : pd ≠ pr) :
    Calls Try.prog 37 #[.pointer (some ⟨pd, 0, none⟩), .pointer (some ⟨pr, 0, none⟩)] w fun en w' => en = .returned (.tuple #[]) ∧ Both w w' pd pr (tkD (vn 1 s) d (nx 1 s)) (tkS (vn 1 s) (nx 1 s)) := by
  have HU := Lib.hid (fun st w h => u8_st pr st w h)
  have hb := vn_bd1 s
  have hr1 := Lib.hid (u8_st pr s w hr)
  generalize nx 1 s = s1 at *
  generalize vn 1 s = f at *
  have h128 := and128 f hb.1 hb.2
  have h64 := and64 f hb.1 hb.2
  have h48 := and48 f hb.1 hb.2
  have h32 := and32 f hb.1 hb.2
  have h16 := and16 f hb.1 hb.2
  have H128 := Lib.hid h128
  have H64 := Lib.hid h64
  have H48 := Lib.hid h48
  have H32 := Lib.hid h32
  have H16 := Lib.hid h16
  clear h128 h64 h48 h32 h16
  have HD : Hid (tkD f d s1 = tkLD f (tk2D f (tk1D f d s1) (tk1S f s1)) (tk2S f (tk1S f s1))) := Lib.hid rfl
  have HS : Hid (tkS f s1 = tkLS f (tk2S f (tk1S f s1))) := Lib.hid rfl
  have HD1 : Hid (tk1D f d s1 = if 128 ≤ f then { d with pic := picV s1, wide := picW s1 } else d) := Lib.hid rfl
  have HS1 : Hid (tk1S f s1 = if 128 ≤ f then picS s1 else s1) := Lib.hid rfl
  go_enter Try.func37, Try.ntmps37
  go_wp2_with fail
  refine (hr1.out).mono ?_
  rintro e w1 ⟨rfl, hr1', ht1⟩
  have hB1 : Both w w1 pd pr d s1 := ⟨ht1.blk hd hne, hr1', ht1.mono (fun _ _ h => .inr h)⟩
  have HB1 := Lib.hid hB1
  clear hr1 hr1' ht1 hd hr hB1
  go_upto_if 10 with fail
  go_cut [] (fun wx => Both w wx pd pr (tk1D f d s1) (tk1S f s1))
  case first =>
    by_cases hf : 128 ≤ f
    · have h128 := H128.out
      rw [if_pos hf] at h128
      have HT := Lib.hid (takePicture pd pr d s1 w1 HB1.out.1 HB1.out.2.1 hne)
      go_wp2_with fail
      refine (HT.out).mono ?_
      rintro e w2 ⟨rfl, hB2⟩
      go_wp2
      go_meet
      case rel =>
        rw [HD1.out, HS1.out, if_pos hf, if_pos hf]
        exact HB1.out.step hB2
    · have h128 := H128.out
      rw [if_neg hf] at h128
      go_wp2
      go_meet
      case rel =>
        rw [HD1.out, HS1.out, if_neg (show ¬ 128 ≤ f by omega), if_neg (show ¬ 128 ≤ f by omega)]
        exact HB1.out
  case rest =>
    have hB2 := hcut
    have HD2 : Hid (tk2D f (tk1D f d s1) (tk1S f s1) = if f / 64 % 2 = 1 then { (tk1D f d s1) with lev := vn 1 (tk1S f s1) } else (tk1D f d s1)) := Lib.hid rfl
    have HS2 : Hid (tk2S f (tk1S f s1) = if f / 64 % 2 = 1 then nx 1 (tk1S f s1) else (tk1S f s1)) := Lib.hid rfl
    clear HB1 HD1 HS1 hcut
    generalize tk1D f d s1 = d2 at *
    generalize tk1S f s1 = s2 at *
    have HB2 := Lib.hid hB2
    clear hB2
    go_upto_if 16 with fail
    go_cut [] (fun wx => Both w wx pd pr (tk2D f d2 s2) (tk2S f s2))
    case first =>
      by_cases hf : f / 64 % 2 = 1
      · have h64 := H64.out
        rw [if_pos hf] at h64
        have HF := Lib.hid hf
        clear hf
        have hv := vn_bd1 s2
        have HT := Lib.hid (HU.out s2 wc HB2.out.2.1)
        rw [if_pos HF.out] at HD2 HS2
        generalize vn 1 s2 = v at *
        go_wp2_with fail
        refine (HT.out).mono ?_
        rintro e w2 ⟨rfl, hr2, ht2⟩
        have hd2 := ht2.blk HB2.out.1 hne
        have f5 := hd2.free 5
        have c5 := dc5 hd2
        have HX : Hid (Both w (w2.setCell ⟨pd, 5, none⟩ (.int .i64 v)) pd pr { d2 with lev := v } (nx 1 s2)) := Lib.hid ⟨ds5 hd2 v, Rs.turns hr2 ((Turns.refl (· = pd) w2).setCell (.inl rfl) _) (fun h => hne h.symm), (HB2.out.2.2.trans (ht2.mono (fun _ _ h => .inl (.inr h)))).setCell (.inl (.inl rfl)) _⟩
        clear hd2 hr2 ht2 HT
        go_wp2
        go_meet
        case rel =>
          rw [HD2.out, HS2.out]
          exact HX.out
      · have h64 := H64.out
        rw [if_neg hf] at h64
        rw [if_neg hf] at HD2 HS2
        clear hf
        go_wp2
        go_meet
        case rel =>
          rw [HD2.out, HS2.out]
          exact HB2.out
    case rest =>
      have HB3 := Lib.hid hcut
      clear HB2 HD2 HS2 hcut
      generalize tk2D f d2 s2 = d3 at *
      generalize tk2S f s2 = s3 at *
      have HDL : Hid (tkLD f d3 s3 = if f / 16 % 4 = 0 then d3 else tk4D f (vn 1 s3) (tk3D f (vn 1 s3) d3)) := Lib.hid rfl
      have HSL : Hid (tkLS f s3 = if f / 16 % 4 = 0 then s3 else nx 1 s3) := Lib.hid rfl
      have h48 := H48.out
      by_cases h0 : f / 16 % 4 = 0
      · rw [if_pos h0] at HDL HSL
        rw [h0] at h48
        clear h0
        go_wp2
        refine bodyPost_ret (results_none rfl _ _ _) rfl ?_
        refine ⟨rfl, ?_⟩
        rw [HD.out, HDL.out, HS.out, HSL.out]
        exact HB3.out
      · rw [if_neg h0] at HDL HSL
        obtain ⟨m, hm, hmp⟩ : ∃ m : Int, f / 16 % 4 * 16 = m ∧ (m == 0) = false := ⟨_, rfl, by simp; omega⟩
        rw [hm] at h48
        clear hm
        have hv := vn_bd1 s3
        have HT := Lib.hid (HU.out s3 wc HB3.out.2.1)
        obtain ⟨b, hbe⟩ : ∃ b, b = vn 1 s3 := ⟨_, rfl⟩
        rw [← hbe] at hv HT HDL
        clear hbe
        have HD3 : Hid (tk3D f b d3 = if f / 32 % 2 = 1 then { d3 with lay := b / 64, sync := b32 b } else d3) := Lib.hid rfl
        go_wp2_with fail
        refine (HT.out).mono ?_
        rintro e w2 ⟨rfl, hr2, ht2⟩
        have HB4 : Hid (Both w w2 pd pr d3 (nx 1 s3)) := Lib.hid ⟨ht2.blk HB3.out.1 hne, hr2, HB3.out.2.2.trans (ht2.mono (fun _ _ h => .inl (.inr h)))⟩
        clear hr2 ht2 HT h48 hmp h0
        generalize nx 1 s3 = s4 at *
        go_upto_if 30 with fail
        go_cut [] (fun wx => Both w wx pd pr (tk3D f b d3) s4)
        case first =>
          by_cases hf : f / 32 % 2 = 1
          · have h32 := H32.out
            rw [if_pos hf] at h32
            rw [if_pos hf] at HD3
            clear hf
            have hd4 := HB4.out.1
            have f6 := hd4.free 6
            have f7 := hd4.free 7
            have c6 := dc6 hd4
            have c7 := dc7 hd4
            clear hd4
            go_wp2
            go_meet
            case rel =>
              rw [HD3.out]
              exact ⟨ds7 (ds6 HB4.out.1 _) _, Rs.turns HB4.out.2.1 (((Turns.refl (· = pd) w2).setCell (.inl rfl) _).setCell (.inl rfl) _) (fun h => hne h.symm), (HB4.out.2.2.setCell (.inl (.inl rfl)) _).setCell (.inl (.inl rfl)) _⟩
          · have h32 := H32.out
            rw [if_neg hf] at h32
            rw [if_neg hf] at HD3
            clear hf
            go_wp2
            go_meet
            case rel =>
              rw [HD3.out]
              exact HB4.out
        case rest =>
          have HB5 := Lib.hid hcut
          clear HB4 HD3 hcut
          generalize tk3D f b d3 = d5 at *
          have HD5 : Hid (tk4D f b d5 = if f / 16 % 2 = 1 then { d5 with key := b % 32 } else d5) := Lib.hid rfl
          have h31 := and31 b hv.1 hv.2
          by_cases hf : f / 16 % 2 = 1
          · have h16 := H16.out
            rw [if_pos hf] at h16
            rw [if_pos hf] at HD5
            clear hf
            have hd5 := HB5.out.1
            have f8 := hd5.free 8
            have c8 := dc8 hd5
            clear hd5
            go_wp2
            go_end0
            refine ⟨rfl, ?_⟩
            rw [HD.out, HDL.out, HD5.out, HS.out, HSL.out]
            exact ⟨ds8 HB5.out.1 _, Rs.turns HB5.out.2.1 ((Turns.refl (· = pd) _).setCell (.inl rfl) _) (fun h => hne h.symm), HB5.out.2.2.setCell (.inl (.inl rfl)) _⟩
          · have h16 := H16.out
            rw [if_neg hf] at h16
            rw [if_neg hf] at HD5
            clear hf
            go_wp2
            go_end0
            refine ⟨rfl, ?_⟩
            rw [HD.out, HDL.out, HD5.out, HS.out, HSL.out]
            exact HB5.out

/-- nine stores into one block -/
def put9 (w : World) (p : Nat) (v0 v1 v2 v3 v4 v5 v6 v7 v8 : Value) : World :=
  ((((((((w.setCell ⟨p, 0, none⟩ v0).setCell ⟨p, 1, none⟩ v1).setCell ⟨p, 2, none⟩ v2).setCell ⟨p, 3, none⟩ v3).setCell ⟨p, 4, none⟩ v4).setCell ⟨p, 5, none⟩ v5).setCell ⟨p, 6, none⟩ v6).setCell ⟨p, 7, none⟩ v7).setCell ⟨p, 8, none⟩ v8
theorem put9_blk {w : World} {p : Nat} {a0 a1 a2 a3 a4 a5 a6 a7 a8 : Value} {t : TypeId} (h : Blk w p #[a0, a1, a2, a3, a4, a5, a6, a7, a8] t) (v0 v1 v2 v3 v4 v5 v6 v7 v8 : Value) :
    Blk (put9 w p v0 v1 v2 v3 v4 v5 v6 v7 v8) p #[v0, v1, v2, v3, v4, v5, v6, v7, v8] t := by
  have h0 : Blk (w.setCell ⟨p, 0, none⟩ v0) p #[v0, a1, a2, a3, a4, a5, a6, a7, a8] t := h.set 0 v0
  have h1 : Blk ((w.setCell ⟨p, 0, none⟩ v0).setCell ⟨p, 1, none⟩ v1) p #[v0, v1, a2, a3, a4, a5, a6, a7, a8] t := h0.set 1 v1
  have h2 : Blk (((w.setCell ⟨p, 0, none⟩ v0).setCell ⟨p, 1, none⟩ v1).setCell ⟨p, 2, none⟩ v2) p #[v0, v1, v2, a3, a4, a5, a6, a7, a8] t := h1.set 2 v2
  have h3 : Blk ((((w.setCell ⟨p, 0, none⟩ v0).setCell ⟨p, 1, none⟩ v1).setCell ⟨p, 2, none⟩ v2).setCell ⟨p, 3, none⟩ v3) p #[v0, v1, v2, v3, a4, a5, a6, a7, a8] t := h2.set 3 v3
  have h4 : Blk (((((w.setCell ⟨p, 0, none⟩ v0).setCell ⟨p, 1, none⟩ v1).setCell ⟨p, 2, none⟩ v2).setCell ⟨p, 3, none⟩ v3).setCell ⟨p, 4, none⟩ v4) p #[v0, v1, v2, v3, v4, a5, a6, a7, a8] t := h3.set 4 v4
  have h5 : Blk ((((((w.setCell ⟨p, 0, none⟩ v0).setCell ⟨p, 1, none⟩ v1).setCell ⟨p, 2, none⟩ v2).setCell ⟨p, 3, none⟩ v3).setCell ⟨p, 4, none⟩ v4).setCell ⟨p, 5, none⟩ v5) p #[v0, v1, v2, v3, v4, v5, a6, a7, a8] t := h4.set 5 v5
  have h6 : Blk (((((((w.setCell ⟨p, 0, none⟩ v0).setCell ⟨p, 1, none⟩ v1).setCell ⟨p, 2, none⟩ v2).setCell ⟨p, 3, none⟩ v3).setCell ⟨p, 4, none⟩ v4).setCell ⟨p, 5, none⟩ v5).setCell ⟨p, 6, none⟩ v6) p #[v0, v1, v2, v3, v4, v5, v6, a7, a8] t := h5.set 6 v6
  have h7 : Blk ((((((((w.setCell ⟨p, 0, none⟩ v0).setCell ⟨p, 1, none⟩ v1).setCell ⟨p, 2, none⟩ v2).setCell ⟨p, 3, none⟩ v3).setCell ⟨p, 4, none⟩ v4).setCell ⟨p, 5, none⟩ v5).setCell ⟨p, 6, none⟩ v6).setCell ⟨p, 7, none⟩ v7) p #[v0, v1, v2, v3, v4, v5, v6, v7, a8] t := h6.set 7 v7
  have h8 : Blk (((((((((w.setCell ⟨p, 0, none⟩ v0).setCell ⟨p, 1, none⟩ v1).setCell ⟨p, 2, none⟩ v2).setCell ⟨p, 3, none⟩ v3).setCell ⟨p, 4, none⟩ v4).setCell ⟨p, 5, none⟩ v5).setCell ⟨p, 6, none⟩ v6).setCell ⟨p, 7, none⟩ v7).setCell ⟨p, 8, none⟩ v8) p #[v0, v1, v2, v3, v4, v5, v6, v7, v8] t := h7.set 8 v8
  exact h8
theorem put9_turns {S : Nat → Prop} {a w : World} {p : Nat} (h : Turns S a w) (hp : S p ∨ a.heap.size ≤ p) (v0 v1 v2 v3 v4 v5 v6 v7 v8 : Value) : Turns S a (put9 w p v0 v1 v2 v3 v4 v5 v6 v7 v8) :=
  ((((((((h.setCell hp v0).setCell hp v1).setCell hp v2).setCell hp v3).setCell hp v4).setCell hp v5).setCell hp v6).setCell hp v7).setCell hp v8
section
variable {w : World} {p : Nat} {a0 a1 a2 a3 a4 a5 a6 a7 a8 : Value} {t : TypeId} (h : Blk w p #[a0, a1, a2, a3, a4, a5, a6, a7, a8] t)
include h
theorem cells9 : w.cell? ⟨p, 0, none⟩ = some a0 ∧ w.cell? ⟨p, 1, none⟩ = some a1 ∧ w.cell? ⟨p, 2, none⟩ = some a2 ∧ w.cell? ⟨p, 3, none⟩ = some a3 ∧ w.cell? ⟨p, 4, none⟩ = some a4 ∧ w.cell? ⟨p, 5, none⟩ = some a5 ∧ w.cell? ⟨p, 6, none⟩ = some a6 ∧ w.cell? ⟨p, 7, none⟩ = some a7 ∧ w.cell? ⟨p, 8, none⟩ = some a8 :=
  ⟨h.cell 0, h.cell 1, h.cell 2, h.cell 3, h.cell 4, h.cell 5, h.cell 6, h.cell 7, h.cell 8⟩
theorem frees9 : w.frozen? ⟨p, 0, none⟩ = false ∧ w.frozen? ⟨p, 1, none⟩ = false ∧ w.frozen? ⟨p, 2, none⟩ = false ∧ w.frozen? ⟨p, 3, none⟩ = false ∧ w.frozen? ⟨p, 4, none⟩ = false ∧ w.frozen? ⟨p, 5, none⟩ = false ∧ w.frozen? ⟨p, 6, none⟩ = false ∧ w.frozen? ⟨p, 7, none⟩ = false ∧ w.frozen? ⟨p, 8, none⟩ = false :=
  ⟨h.free 0, h.free 1, h.free 2, h.free 3, h.free 4, h.free 5, h.free 6, h.free 7, h.free 8⟩
end

/-- what Parse answers -/
def outD (s : St) : D := if (pS s).2 = 0 then pD s else zero
def outL (s : St) : List UInt8 := if (pS s).2 = 0 then (pS s).1 else []

set_option maxHeartbeats 1000000 in
theorem parse (s0 : ByteArray) (w : World) (hs : s0.size ≤ 4611686018427387904) :
    Calls Try.prog 20 #[.string s0] w fun en w' => en = .returned (.tuple #[.agg (cells (outD (s0.data.toList, 0))), .string ⟨(outL (s0.data.toList, 0)).toArray⟩, .int .i64 (pS (s0.data.toList, 0)).2]) ∧ New w w' := by
  have HU := Lib.hid (fun p st w h => u8_st p st w h)
  have HR := Lib.hid (fun w => read_st s0 w hs)
  generalize (s0.data.toList, (0 : Int)) = s at *
  have hb := vn_bd1 s
  have HPD : Hid (pD s = if 128 ≤ vn 1 s then tkD (vn 1 (nx 1 s)) (d0 (vn 1 s)) (nx 1 (nx 1 s)) else d0 (vn 1 s)) := Lib.hid rfl
  have HPS : Hid (pS s = if 128 ≤ vn 1 s then tkS (vn 1 (nx 1 s)) (nx 1 (nx 1 s)) else nx 1 s) := Lib.hid rfl
  obtain ⟨a, ha⟩ : ∃ a, a = vn 1 s := ⟨_, rfl⟩
  have HV := Lib.hid ha
  rw [← ha] at hb HPD HPS
  clear ha
  have h7 := and7 a hb.1 hb.2
  have HD0 : Hid (d0 a = ⟨b32 a, b16 a, a % 8, -1, false, -1, -1, false, -1⟩) := Lib.hid rfl
  have h128 := and128 a hb.1 hb.2
  have H128 := Lib.hid h128
  clear h128
  go_enter Try.func20, Try.ntmps20
  go_wp2_with fail
  refine (HR.out _).mono ?_
  rintro e w1 ⟨rfl, hr1, hn1⟩
  have hn1' : New w w1 := ((Turns.refl _ _).alloc _).trans (hn1.mono (fun _ _ h => h.elim))
  have hz1 := hn1.blk (Blk.new w #[.bool false, .bool false, .int .i64 0, .int .i64 0, .bool false, .int .i64 0, .int .i64 0, .bool false, .int .i64 0] DT) (fun h => h)
  clear hn1
  have hp := hr1.lt
  have hlt : w.heap.size < (w.alloc (.cells #[.bool false, .bool false, .int .i64 0, .int .i64 0, .bool false, .int .i64 0, .int .i64 0, .bool false, .int .i64 0] DT)).heap.size := by simp
  generalize (w.alloc (.cells #[.bool false, .bool false, .int .i64 0, .int .i64 0, .bool false, .int .i64 0, .int .i64 0, .bool false, .int .i64 0] DT)).heap.size = pr at *
  have HT := Lib.hid (HU.out pr s w1 hr1)
  rw [← HV.out] at HT
  go_wp2_with fail
  refine (HT.out).mono ?_
  rintro e w2 ⟨rfl, hr2, ht2⟩
  have hn2 : New w w2 := hn1'.trans (ht2.mono (fun k _ h => .inr (by omega)))
  have hz2 := ht2.blk hz1 (by omega)
  clear hz1 hr1 ht2 HT hn1'
  go_wp2_with fail
  refine (plain_any w2).mono ?_
  rintro e w3 ⟨rfl, hn3⟩
  have hz3 := hn3.blk hz2 (fun h => h)
  have hr3 := hr2.turns hn3 (fun h => h)
  have hn3' : New w w3 := hn2.trans (hn3.mono (fun _ _ h => h.elim))
  clear hn3 hn2 hr2 hz2
  go_upto_if 29 with fail
  have hpd1 := hr3.lt
  have hd4 : Blk (w3.alloc (.cells #[.bool (bits .and .u8 a 32 != 0), .bool (bits .and .u8 a 16 != 0), .int .i64 (a % 8), .int .i64 (-1), .bool false, .int .i64 (-1), .int .i64 (-1), .bool false, .int .i64 (-1)] DT)) w3.heap.size (cells (d0 a)) DT := by
    rw [HD0.out]; exact Blk.new w3 _ _
  have hr4 : Rs (w3.alloc (.cells #[.bool (bits .and .u8 a 32 != 0), .bool (bits .and .u8 a 16 != 0), .int .i64 (a % 8), .int .i64 (-1), .bool false, .int .i64 (-1), .int .i64 (-1), .bool false, .int .i64 (-1)] DT)) pr (nx 1 s) := hr3.turns ((Turns.refl (fun _ => False) w3).alloc _) (fun h => h)
  have hn4 : New w (w3.alloc (.cells #[.bool (bits .and .u8 a 32 != 0), .bool (bits .and .u8 a 16 != 0), .int .i64 (a % 8), .int .i64 (-1), .bool false, .int .i64 (-1), .int .i64 (-1), .bool false, .int .i64 (-1)] DT)) := hn3'.alloc _
  have hz4 := hz3.alloc (.cells #[.bool (bits .and .u8 a 32 != 0), .bool (bits .and .u8 a 16 != 0), .int .i64 (a % 8), .int .i64 (-1), .bool false, .int .i64 (-1), .int .i64 (-1), .bool false, .int .i64 (-1)] DT)
  generalize w3.alloc (.cells #[.bool (bits .and .u8 a 32 != 0), .bool (bits .and .u8 a 16 != 0), .int .i64 (a % 8), .int .i64 (-1), .bool false, .int .i64 (-1), .int .i64 (-1), .bool false, .int .i64 (-1)] DT) = w4 at *
  generalize w3.heap.size = pd at *
  have H4 := Lib.hid (And.intro hd4 (And.intro hr4 (And.intro hn4 hz4)))
  clear hd4 hr4 hn4 hz4 hr3 hn3' hz3 HD0 h7
  go_cut [] (fun wx => Blk wx pd (cells (pD s)) DT ∧ Rs wx pr (pS s) ∧ New w wx ∧ Blk wx w.heap.size #[.bool false, .bool false, .int .i64 0, .int .i64 0, .bool false, .int .i64 0, .int .i64 0, .bool false, .int .i64 0] DT)
  case first =>
    obtain ⟨hd4, hr4, hn4, hz4⟩ := H4.out
    have h128 := H128.out
    by_cases hf : 128 ≤ a
    · rw [if_pos hf] at h128 HPD HPS
      have HT := Lib.hid (take pd pr _ _ w4 hd4 hr4 (by omega))
      have HX := Lib.hid (And.intro hn4 hz4)
      clear hd4 hr4 hn4 hz4 hf
      go_wp2_with fail
      refine (HT.out).mono ?_
      rintro e w5 ⟨rfl, hB⟩
      go_wp2
      go_meet
      case rel =>
        rw [HPD.out, HPS.out]
        exact ⟨hB.1, hB.2.1, HX.out.1.trans (hB.2.2.mono (fun k _ h => .inr (by omega))), hB.2.2.blk HX.out.2 (by omega)⟩
    · rw [if_neg hf] at h128 HPD HPS
      clear hd4 hr4 hn4 hz4 hf
      go_wp2
      go_meet
      case rel =>
        rw [HPD.out, HPS.out]
        exact H4.out
  case rest =>
    clear H4 HPD HPS HV H128
    obtain ⟨hd5, hr5, hn5, hz5⟩ := hcut
    have HRest := Lib.hid (rest_st pr _ wc hr5)
    have HO : Hid (outD s = if (pS s).2 = 0 then pD s else zero) := Lib.hid rfl
    have HL : Hid (outL s = if (pS s).2 = 0 then (pS s).1 else []) := Lib.hid rfl
    have HT : Hid (pS s = pS s) := Lib.hid rfl
    obtain ⟨t, ht⟩ : ∃ t, t = pS s := ⟨_, rfl⟩
    rw [← ht] at hr5 HO HL HRest
    have HT := Lib.hid ht
    clear ht
    generalize pD s = d at *
    go_wp2_with fail
    refine (HRest.out).mono ?_
    rintro e w6 ⟨rfl, hr6, ht6⟩
    have hd6 := ht6.blk hd5 (by omega)
    have hz6 := ht6.blk hz5 (by omega)
    have hn6 : New w w6 := hn5.trans (ht6.mono (fun k _ h => .inr (by omega)))
    have HE := Lib.hid (err_st pr _ w6 hr6)
    clear hr5 hd5 hz5 hn5 ht6 HRest
    obtain ⟨l, e⟩ := t
    simp only at HE HO HL hr6
    go_wp2_with fail
    refine (HE.out).mono ?_
    rintro e' w7 ⟨rfl, rfl⟩
    clear hr6 HE
    by_cases he : e = 0
    · subst he
      simp only [if_true] at HO HL
      obtain ⟨nr, st, part, pic, wide, lev, lay, sync, key⟩ := d
      have HF := Lib.hid (put9_blk hz6 (.bool nr) (.bool st) (.int .i64 part) (.int .i64 pic) (.bool wide) (.int .i64 lev) (.int .i64 lay) (.bool sync) (.int .i64 key))
      have HN := Lib.hid (put9_turns hn6 (.inr (Nat.le_refl _)) (.bool nr) (.bool st) (.int .i64 part) (.int .i64 pic) (.bool wide) (.int .i64 lev) (.int .i64 lay) (.bool sync) (.int .i64 key))
      obtain ⟨z0, z1, z2, z3, z4, z5, z6, z7, z8⟩ := cells9 hz6
      obtain ⟨y0, y1, y2, y3, y4, y5, y6, y7, y8⟩ := frees9 hz6
      obtain ⟨d0, d1, d2, d3, d4, d5, d6, d7, d8⟩ := cells9 hd6
      simp only at d0 d1 d2 d3 d4 d5 d6 d7 d8
      clear hz6 hd6 hn6
      go_wp2
      refine (show bodyPost _ _ _ _ _ (put9 w6 w.heap.size (.bool nr) (.bool st) (.int .i64 part) (.int .i64 pic) (.bool wide) (.int .i64 lev) (.int .i64 lay) (.bool sync) (.int .i64 key)) from ?_)
      generalize put9 w6 w.heap.size (.bool nr) (.bool st) (.int .i64 part) (.int .i64 pic) (.bool wide) (.int .i64 lev) (.int .i64 lay) (.bool sync) (.int .i64 key) = w7 at *
      clear z0 z1 z2 z3 z4 z5 z6 z7 z8
      obtain ⟨z0, z1, z2, z3, z4, z5, z6, z7, z8⟩ := cells9 HF.out
      refine bodyPost_ret (v := .tuple #[.agg #[.bool nr, .bool st, .int .i64 part, .int .i64 pic, .bool wide, .int .i64 lev, .int .i64 lay, .bool sync, .int .i64 key], .string ⟨l.toArray⟩, .int .i64 0]) (by simp [results, Try.results20, go_sem, z0, z1, z2, z3, z4, z5, z6, z7, z8]) rfl ?_
      refine ⟨?_, HN.out⟩
      rw [HO.out, HL.out, ← HT.out]
      rfl
    · have heb : (e != 0) = true := by simp [he]
      rw [if_neg he] at HO HL
      clear he hd6
      have HF := Lib.hid (put9_blk hz6 (.bool false) (.bool false) (.int .i64 0) (.int .i64 0) (.bool false) (.int .i64 0) (.int .i64 0) (.bool false) (.int .i64 0))
      have HN := Lib.hid (put9_turns hn6 (.inr (Nat.le_refl _)) (.bool false) (.bool false) (.int .i64 0) (.int .i64 0) (.bool false) (.int .i64 0) (.int .i64 0) (.bool false) (.int .i64 0))
      obtain ⟨z0, z1, z2, z3, z4, z5, z6, z7, z8⟩ := cells9 hz6
      obtain ⟨y0, y1, y2, y3, y4, y5, y6, y7, y8⟩ := frees9 hz6
      clear hz6 hn6
      go_wp2
      refine (show bodyPost _ _ _ _ _ (put9 w6 w.heap.size (.bool false) (.bool false) (.int .i64 0) (.int .i64 0) (.bool false) (.int .i64 0) (.int .i64 0) (.bool false) (.int .i64 0)) from ?_)
      generalize put9 w6 w.heap.size (.bool false) (.bool false) (.int .i64 0) (.int .i64 0) (.bool false) (.int .i64 0) (.int .i64 0) (.bool false) (.int .i64 0) = w7 at *
      clear z0 z1 z2 z3 z4 z5 z6 z7 z8
      obtain ⟨z0, z1, z2, z3, z4, z5, z6, z7, z8⟩ := cells9 HF.out
      refine bodyPost_ret (v := .tuple #[.agg #[.bool false, .bool false, .int .i64 0, .int .i64 0, .bool false, .int .i64 0, .int .i64 0, .bool false, .int .i64 0], .string ⟨#[]⟩, .int .i64 e]) (by simp [results, Try.results20, go_sem, z0, z1, z2, z3, z4, z5, z6, z7, z8]) rfl ?_
      refine ⟨?_, HN.out⟩
      rw [HO.out, HL.out, ← HT.out]
      rfl
end Go.Proofs.Ytijpgkkhjjpjoaa.vp
