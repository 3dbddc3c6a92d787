/-
  Vp8With: replacing the picture number.
-/
import Derived.Test.YtjelilolimodfaaVpAwake
import Derived.Test.YtjelilolimodfaaDescArg
namespace Go.Proofs.Ytjelilolimodfaa.vp
open Go.RowKit mem rd wr oref sq
set_option linter.unusedVariables false

theorem mod_two (p m : Int) (hm : 0 < m) : ∃ r, p.tmod m = r ∧ -m < r ∧ r < m ∧ (r + m) % m = p % m := by
  refine ⟨_, rfl, ?_, ?_, ?_⟩
  · have := Int.tmod_lt_of_pos p hm
    have h2 := Int.lt_tmod_of_pos p hm
    omega
  · exact Int.tmod_lt_of_pos p hm
  · rw [Int.add_emod_right]
    rcases Int.le_total 0 p with h | h
    · rw [Int.tmod_eq_emod_of_nonneg h, Int.emod_emod]
    · rw [Int.tmod_eq_emod]
      split
      · simp
      · rw [Int.sub_emod]
        simp [Int.emod_self, Int.natAbs_of_nonneg (Int.le_of_lt hm)]

theorem with_V (d : D) (hv : V d) (p l : Int) : V (withD d p l) := by
  unfold withD
  have a := hv.wide
  by_cases h1 : 0 ≤ d.pic <;> by_cases h2 : 0 ≤ d.lev
  all_goals
    simp only [h1, h2, if_true, if_false]
    exact ⟨hv.part, by first | exact hv.pic | (simp only; omega), by first | exact hv.lev | (simp only; omega), hv.lay, hv.key, by first | exact hv.wide | (intro _; simp only; omega), by first | exact hv.narrow | simp, hv.sync⟩
theorem with_key (d : D) (p l : Int) (s : ByteArray) : keyB (withD d p l) s = keyB d s := by
  unfold withD keyB
  by_cases h1 : 0 ≤ d.pic <;> by_cases h2 : 0 ≤ d.lev <;> simp only [h1, h2, if_true, if_false]

theorem withD_is (x0 x1 : Bool) (x2 x3 : Int) (x4 : Bool) (x5 x6 : Int) (x7 : Bool) (x8 p l : Int) :
    withD ⟨x0, x1, x2, x3, x4, x5, x6, x7, x8⟩ p l = ⟨x0, x1, x2, if 0 ≤ x3 then p % 32768 else x3, if 0 ≤ x3 then true else x4, if 0 ≤ x5 then l % 256 else x5, x6, x7, x8⟩ := by
  unfold withD
  by_cases h1 : 0 ≤ x3 <;> by_cases h2 : 0 ≤ x5 <;> simp only [h1, h2, if_true, if_false]
/-- two blocks known whole, and new blocks -/
def Two (w W : World) (px pd : Nat) (X D : Array Value) : Prop := Blk W px X DT ∧ Blk W pd D DT ∧ New w W
theorem Two.step {w W W' : World} {px pd : Nat} {X D : Array Value} (h : Two w W px pd X D) (k : New W W') : Two w W' px pd X D :=
  ⟨k.blk h.1 (fun h => h), k.blk h.2.1 (fun h => h), h.2.2.trans (k.mono (fun _ _ h => h.elim))⟩
theorem Two.drew {w W : World} {px pd : Nat} {X D : Array Value} (h : Two w W px pd X D) : Two w W.drew px pd X D := ⟨h.1.drew, h.2.1.drew, h.2.2.drew⟩

theorem Two.put {w W : World} {px pd : Nat} {X D : Array Value} (h : Two w W px pd X D) {p : Nat} (h1 : p ≠ px) (h2 : p ≠ pd) (h3 : w.heap.size ≤ p) (i j : Nat) (u v : Value) :
    Two w ((W.setCell ⟨p, i, none⟩ u).setCell ⟨p, j, none⟩ v) px pd X D :=
  ⟨(h.1.setOther (a := ⟨p, i, none⟩) h1 u).setOther (a := ⟨p, j, none⟩) h1 v, (h.2.1.setOther (a := ⟨p, i, none⟩) h2 u).setOther (a := ⟨p, j, none⟩) h2 v, (h.2.2.setCell (p := ⟨p, i, none⟩) (.inr h3) u).setCell (p := ⟨p, j, none⟩) (.inr h3) v⟩
theorem Two.put1 {w W : World} {px pd : Nat} {X D : Array Value} (h : Two w W px pd X D) {p : Nat} (h1 : p ≠ px) (h2 : p ≠ pd) (h3 : w.heap.size ≤ p) (i : Nat) (u : Value) :
    Two w (W.setCell ⟨p, i, none⟩ u) px pd X D :=
  ⟨h.1.setOther (a := ⟨p, i, none⟩) h1 u, h.2.1.setOther (a := ⟨p, i, none⟩) h2 u, h.2.2.setCell (p := ⟨p, i, none⟩) (.inr h3) u⟩
theorem put2 {W : World} {p : Nat} {x0 x1 : Bool} {x2 x3 : Int} {x4 : Bool} {x5 x6 : Int} {x7 : Bool} {x8 : Int} (h : Blk W p #[.bool x0, .bool x1, .int .i64 x2, .int .i64 x3, .bool x4, .int .i64 x5, .int .i64 x6, .bool x7, .int .i64 x8] DT) (y : Int) :
    Blk ((W.setCell ⟨p, 3, none⟩ (.int .i64 y)).setCell ⟨p, 4, none⟩ (.bool true)) p #[.bool x0, .bool x1, .int .i64 x2, .int .i64 y, .bool true, .int .i64 x5, .int .i64 x6, .bool x7, .int .i64 x8] DT := by
  have h1 : Blk (W.setCell ⟨p, 3, none⟩ (.int .i64 y)) p #[.bool x0, .bool x1, .int .i64 x2, .int .i64 y, .bool x4, .int .i64 x5, .int .i64 x6, .bool x7, .int .i64 x8] DT := h.set 3 _
  exact h1.set 4 _
theorem put5 {W : World} {p : Nat} {x0 x1 : Bool} {x2 x3 : Int} {x4 : Bool} {x5 x6 : Int} {x7 : Bool} {x8 : Int} (h : Blk W p #[.bool x0, .bool x1, .int .i64 x2, .int .i64 x3, .bool x4, .int .i64 x5, .int .i64 x6, .bool x7, .int .i64 x8] DT) (y : Int) :
    Blk (W.setCell ⟨p, 5, none⟩ (.int .i64 y)) p #[.bool x0, .bool x1, .int .i64 x2, .int .i64 x3, .bool x4, .int .i64 y, .int .i64 x6, .bool x7, .int .i64 x8] DT := h.set 5 _

set_option maxHeartbeats 2000000 in
theorem with_law (x0 x1 : Bool) (x2 x3 : Int) (x4 : Bool) (x5 x6 : Int) (x7 : Bool) (x8 : Int) (p l : Int) (s0 : ByteArray) (w : World) (hok : args.descOk w x0 x1 x2 x3 x4 x5 x6 x7 x8)
    (hp1 : -9223372036854775808 ≤ p) (hp2 : p ≤ 9223372036854775807) (hl1 : -9223372036854775808 ≤ l) (hl2 : l ≤ 9223372036854775807) (hs0 : s0.size ≤ maxLen) :
    Calls Try.prog 10 #[.agg #[.bool x0, .bool x1, .int .i64 x2, .int .i64 x3, .bool x4, .int .i64 x5, .int .i64 x6, .bool x7, .int .i64 x8], .int .i64 p, .int .i64 l, .string s0] w fun e w' => e = .returned (.bool true) ∧ Below w.heap.size w w' := by
  obtain ⟨rp, hrp1, hrp2, hrp3, hrp4⟩ := mod_two p 32768 (by omega)
  obtain ⟨rl, hrl1, hrl2, hrl3, hrl4⟩ := mod_two l 256 (by omega)
  have K1 := Lib.hid (fun w => cut s0 20 (by omega) w)
  generalize cutS s0 20 = s at *
  have HA := Lib.hid awake
  have HC := Lib.hid (fun w => check ⟨x0, x1, x2, x3, x4, x5, x6, x7, x8⟩ w)
  simp only [cells] at HC
  go_enter Try.func10, Try.ntmps10
  go_wp2_with fail
  refine (K1.out _).mono ?_
  rintro e w' ⟨rfl, rfl⟩
  have hb1 := Blk.new w #[.bool x0, .bool x1, .int .i64 x2, .int .i64 x3, .bool x4, .int .i64 x5, .int .i64 x6, .bool x7, .int .i64 x8] DT
  have hn1 : New w (w.alloc (.cells #[.bool x0, .bool x1, .int .i64 x2, .int .i64 x3, .bool x4, .int .i64 x5, .int .i64 x6, .bool x7, .int .i64 x8] DT)) := (Turns.refl _ _).alloc _
  generalize w.alloc (.cells #[.bool x0, .bool x1, .int .i64 x2, .int .i64 x3, .bool x4, .int .i64 x5, .int .i64 x6, .bool x7, .int .i64 x8] DT) = w1 at *
  go_wp2_with fail
  refine (HA.out _).mono ?_
  rintro e w2 ⟨rfl, hn2⟩
  have hb2 := hn2.blk hb1 (fun h => h)
  have hn2' : New w w2 := hn1.trans (hn2.mono (fun _ _ h => h.elim))
  clear hn1 hn2 hb1
  obtain ⟨c0, c1, c2, c3, c4, c5, c6, c7, c8⟩ := cells9 hb2
  have H2 := Lib.hid (And.intro hb2 hn2')
  clear hb2 hn2'
  go_wp2_with fail
  refine (HC.out _).mono ?_
  rintro e w3 ⟨rfl, hn3⟩
  have hb3 := hn3.blk H2.out.1 (fun h => h)
  have hn3' : New w w3 := H2.out.2.trans (hn3.mono (fun _ _ h => h.elim))
  clear hn3 H2
  by_cases hz : chk ⟨x0, x1, x2, x3, x4, x5, x6, x7, x8⟩ = 0
  · have hv := chk_V hz
    rw [hz]
    clear hz c0 c1 c2 c3 c4 c5 c6 c7 c8
    obtain ⟨c0, c1, c2, c3, c4, c5, c6, c7, c8⟩ := cells9 hb3
    have H3 := Lib.hid (And.intro hb3 hn3')
    have HW := Lib.hid (fun w => with_any ⟨x0, x1, x2, x3, x4, x5, x6, x7, x8⟩ p l w)
    have HC2 := Lib.hid (fun w => check (withD ⟨x0, x1, x2, x3, x4, x5, x6, x7, x8⟩ p l) w)
    rw [V_chk (with_V _ hv p l)] at HC2
    have HK1 := Lib.hid (fun w => keyframe (withD ⟨x0, x1, x2, x3, x4, x5, x6, x7, x8⟩ p l) s w)
    rw [with_key] at HK1
    have HK2 := Lib.hid (fun w => keyframe ⟨x0, x1, x2, x3, x4, x5, x6, x7, x8⟩ s w)
    generalize keyB ⟨x0, x1, x2, x3, x4, x5, x6, x7, x8⟩ s = kb at *
    rw [withD_is] at HW HC2 HK1
    obtain ⟨y3, hy3⟩ : ∃ y, y = (if 0 ≤ x3 then p % 32768 else x3) := ⟨_, rfl⟩
    obtain ⟨y4, hy4⟩ : ∃ y, y = (if 0 ≤ x3 then true else x4) := ⟨_, rfl⟩
    obtain ⟨y5, hy5⟩ : ∃ y, y = (if 0 ≤ x5 then l % 256 else x5) := ⟨_, rfl⟩
    rw [← hy3, ← hy4, ← hy5] at HW HC2 HK1
    have HY3 := Lib.hid hy3
    have HY4 := Lib.hid hy4
    have HY5 := Lib.hid hy5
    simp only [cells] at HW HC2 HK1 HK2
    clear hb3 hn3' hv hy3 hy4 hy5
    go_wp2_with fail
    refine (HW.out _).mono ?_
    rintro e w4 ⟨rfl, hn4⟩
    have hb4 := hn4.blk H3.out.1 (fun h => h)
    have hn4' : New w w4 := H3.out.2.trans (hn4.mono (fun _ _ h => h.elim))
    have hlt4 := hb4.lt
    have H4 := Lib.hid (And.intro hb4 hn4')
    clear c0 c1 c2 c3 c4 c5 c6 c7 c8
    obtain ⟨c0, c1, c2, c3, c4, c5, c6, c7, c8⟩ := cells9 hb4
    clear hb4 hn4 hn4'
    go_upto_if 28 with fail
    have HX : Two w ((w4.alloc (.cells #[.bool x0, .bool x1, .int .i64 x2, .int .i64 y3, .bool y4, .int .i64 y5, .int .i64 x6, .bool x7, .int .i64 x8] DT)).alloc (.cells #[.bool x0, .bool x1, .int .i64 x2, .int .i64 x3, .bool x4, .int .i64 x5, .int .i64 x6, .bool x7, .int .i64 x8] DT)) w4.heap.size w.heap.size #[.bool x0, .bool x1, .int .i64 x2, .int .i64 y3, .bool y4, .int .i64 y5, .int .i64 x6, .bool x7, .int .i64 x8] #[.bool x0, .bool x1, .int .i64 x2, .int .i64 x3, .bool x4, .int .i64 x5, .int .i64 x6, .bool x7, .int .i64 x8] :=
      ⟨(Blk.new w4 #[.bool x0, .bool x1, .int .i64 x2, .int .i64 y3, .bool y4, .int .i64 y5, .int .i64 x6, .bool x7, .int .i64 x8] DT).alloc (.cells #[.bool x0, .bool x1, .int .i64 x2, .int .i64 x3, .bool x4, .int .i64 x5, .int .i64 x6, .bool x7, .int .i64 x8] DT), (H4.out.1.alloc (.cells #[.bool x0, .bool x1, .int .i64 x2, .int .i64 y3, .bool y4, .int .i64 y5, .int .i64 x6, .bool x7, .int .i64 x8] DT)).alloc (.cells #[.bool x0, .bool x1, .int .i64 x2, .int .i64 x3, .bool x4, .int .i64 x5, .int .i64 x6, .bool x7, .int .i64 x8] DT), (H4.out.2.alloc (.cells #[.bool x0, .bool x1, .int .i64 x2, .int .i64 y3, .bool y4, .int .i64 y5, .int .i64 x6, .bool x7, .int .i64 x8] DT)).alloc (.cells #[.bool x0, .bool x1, .int .i64 x2, .int .i64 x3, .bool x4, .int .i64 x5, .int .i64 x6, .bool x7, .int .i64 x8] DT)⟩
    have HY : Blk ((w4.alloc (.cells #[.bool x0, .bool x1, .int .i64 x2, .int .i64 y3, .bool y4, .int .i64 y5, .int .i64 x6, .bool x7, .int .i64 x8] DT)).alloc (.cells #[.bool x0, .bool x1, .int .i64 x2, .int .i64 x3, .bool x4, .int .i64 x5, .int .i64 x6, .bool x7, .int .i64 x8] DT)) (w4.heap.size + 1) #[.bool x0, .bool x1, .int .i64 x2, .int .i64 x3, .bool x4, .int .i64 x5, .int .i64 x6, .bool x7, .int .i64 x8] DT := by have := Blk.new (w4.alloc (.cells #[.bool x0, .bool x1, .int .i64 x2, .int .i64 y3, .bool y4, .int .i64 y5, .int .i64 x6, .bool x7, .int .i64 x8] DT)) #[.bool x0, .bool x1, .int .i64 x2, .int .i64 x3, .bool x4, .int .i64 x5, .int .i64 x6, .bool x7, .int .i64 x8] DT; rwa [World.size_alloc] at this
    have HT := Lib.hid (And.intro HX HY)
    generalize (w4.alloc (.cells #[.bool x0, .bool x1, .int .i64 x2, .int .i64 y3, .bool y4, .int .i64 y5, .int .i64 x6, .bool x7, .int .i64 x8] DT)).alloc (.cells #[.bool x0, .bool x1, .int .i64 x2, .int .i64 x3, .bool x4, .int .i64 x5, .int .i64 x6, .bool x7, .int .i64 x8] DT) = w5 at *
    generalize w4.heap.size = px at *
    clear c0 c1 c2 c3 c4 c5 c6 c7 c8 H4 H3 HW HX HY
    go_cut [] (fun wx => Two w wx px w.heap.size #[.bool x0, .bool x1, .int .i64 x2, .int .i64 y3, .bool y4, .int .i64 y5, .int .i64 x6, .bool x7, .int .i64 x8] #[.bool x0, .bool x1, .int .i64 x2, .int .i64 x3, .bool x4, .int .i64 x5, .int .i64 x6, .bool x7, .int .i64 x8] ∧ Blk wx (px + 1) #[.bool x0, .bool x1, .int .i64 x2, .int .i64 y3, .bool y4, .int .i64 x5, .int .i64 x6, .bool x7, .int .i64 x8] DT)
    case first =>
      obtain ⟨c0, c1, c2, c3, c4, c5, c6, c7, c8⟩ := cells9 HT.out.2
      obtain ⟨f0, f1, f2, f3, f4, f5, f6, f7, f8⟩ := frees9 HT.out.2
      by_cases h : 0 ≤ x3
      · have h' : decide (0 ≤ x3) = true := decide_eq_true h
        rw [if_pos h] at HY3 HY4
        go_wp2_with fail
        rw [hrp4, ← HY3.out]
        go_meet
        case rel =>
          refine ⟨HT.out.1.put (p := px + 1) (by omega) (by omega) (by omega) 3 4 _ _, ?_⟩
          rw [HY4.out]
          exact put2 HT.out.2 _
      · have h' : decide (0 ≤ x3) = false := decide_eq_false h
        rw [if_neg h] at HY3 HY4
        go_wp2_with fail
        go_meet
        case rel =>
          refine ⟨HT.out.1, ?_⟩
          rw [HY3.out, HY4.out]; exact HT.out.2
    case rest =>
      have HT2 := Lib.hid hcut
      clear HT hcut HY3 HY4 hrp1 hrp4
      obtain ⟨c0, c1, c2, c3, c4, c5, c6, c7, c8⟩ := cells9 HT2.out.1.2.1
      go_upto_if 37 with fail
      go_cut [] (fun wx => Two w wx px w.heap.size #[.bool x0, .bool x1, .int .i64 x2, .int .i64 y3, .bool y4, .int .i64 y5, .int .i64 x6, .bool x7, .int .i64 x8] #[.bool x0, .bool x1, .int .i64 x2, .int .i64 x3, .bool x4, .int .i64 x5, .int .i64 x6, .bool x7, .int .i64 x8] ∧ Blk wx (px + 1) #[.bool x0, .bool x1, .int .i64 x2, .int .i64 y3, .bool y4, .int .i64 y5, .int .i64 x6, .bool x7, .int .i64 x8] DT)
      case first =>
        obtain ⟨d0, d1, d2, d3, d4, d5, d6, d7, d8⟩ := cells9 HT2.out.2
        obtain ⟨f0, f1, f2, f3, f4, f5, f6, f7, f8⟩ := frees9 HT2.out.2
        by_cases h : 0 ≤ x5
        · have h' : decide (0 ≤ x5) = true := decide_eq_true h
          rw [if_pos h] at HY5
          go_wp2_with fail
          rw [hrl4, ← HY5.out]
          go_meet
          case rel => exact ⟨HT2.out.1.put1 (p := px + 1) (by omega) (by omega) (by omega) 5 _, put5 HT2.out.2 _⟩
        · have h' : decide (0 ≤ x5) = false := decide_eq_false h
          rw [if_neg h] at HY5
          go_wp2_with fail
          go_meet
          case rel =>
            refine ⟨HT2.out.1, ?_⟩
            rw [HY5.out]; exact HT2.out.2
      case rest =>
        obtain ⟨HX, HY⟩ := hcut
        clear c0 c1 c2 c3 c4 c5 c6 c7 c8 HT2 HY5 hrl1 hrl4
        obtain ⟨c0, c1, c2, c3, c4, c5, c6, c7, c8⟩ := cells9 HX.1
        obtain ⟨d0, d1, d2, d3, d4, d5, d6, d7, d8⟩ := cells9 HY
        have HQ := Lib.hid HX.drew
        clear HX HY
        go_wp2_with fail
        go_region_with (first
          | (go_at_call 39; (with_reducible refine (HC2.out _).mono ?_); rintro e w6 ⟨rfl, hn6⟩; replace HQ := Lib.hid (HQ.out.step hn6); obtain ⟨a0, a1, a2, a3, a4, a5, a6, a7, a8⟩ := cells9 HQ.out.1; obtain ⟨b0, b1, b2, b3, b4, b5, b6, b7, b8⟩ := cells9 HQ.out.2.1)
          | (go_at_call 41; (with_reducible refine (HK1.out _).mono ?_); rintro e w6 ⟨rfl, hn6⟩; replace HQ := Lib.hid (HQ.out.step hn6); obtain ⟨b0, b1, b2, b3, b4, b5, b6, b7, b8⟩ := cells9 HQ.out.2.1)
          | (go_at_call 41; (with_reducible refine (HK2.out _).mono ?_); rintro e w6 ⟨rfl, hn6⟩; replace HQ := Lib.hid (HQ.out.step hn6)))
        all_goals
          go_wp2
          go_ret
          exact ⟨rfl, HQ.out.2.2.below (Nat.le_refl _) (fun _ _ h => h.elim)⟩
  · have hzb : (chk ⟨x0, x1, x2, x3, x4, x5, x6, x7, x8⟩ != 0) = true := by simp [hz]
    generalize chk ⟨x0, x1, x2, x3, x4, x5, x6, x7, x8⟩ = z at *
    clear hz c0 c1 c2 c3 c4 c5 c6 c7 c8 hb3
    have HA2 := HA
    go_wp2_with fail
    refine (HA.out _).mono ?_
    rintro e w4 ⟨rfl, hn4⟩
    go_wp2
    go_ret
    exact ⟨rfl, (hn3'.trans (hn4.mono (fun _ _ h => h.elim))).below (Nat.le_refl _) (fun _ _ h => h.elim)⟩
end Go.Proofs.Ytjelilolimodfaa.vp
