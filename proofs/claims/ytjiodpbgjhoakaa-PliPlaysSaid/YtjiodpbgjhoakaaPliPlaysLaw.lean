/-
  PliPlays: the law.
-/
import Derived.Test.YtjiodpbgjhoakaaPliPlaysA
import Derived.Test.YtjiodpbgjhoakaaPactRow
import Derived.Test.YtjiodpbgjhoakaaMask
import Derived.Deep.CutBlock
namespace Go.Proofs.Ytjiodpbgjhoakaa.pli
open Go.RowKit mem
open ints (IE IT ST infoI)
set_option linter.unusedVariables false

abbrev HeldX (w w' : World) (px b o : Nat) (a0 a1 a2 a3 a4 c : Value) : Prop :=
  New w w' ∧ px < w'.heap.size ∧ b < w'.heap.size ∧ w'.cell? ⟨px, 0, none⟩ = some a0 ∧ w'.cell? ⟨px, 1, none⟩ = some a1 ∧ w'.cell? ⟨px, 2, none⟩ = some a2 ∧ w'.cell? ⟨px, 3, none⟩ = some a3 ∧ w'.cell? ⟨px, 4, none⟩ = some a4 ∧ w'.cell? ⟨b, o, none⟩ = some c
theorem heldX_drew {w w' : World} {px b o : Nat} {a0 a1 a2 a3 a4 c : Value} (h : HeldX w w' px b o a0 a1 a2 a3 a4 c) : HeldX w w'.drew px b o a0 a1 a2 a3 a4 c := by
  obtain ⟨hn, h⟩ := h
  exact ⟨hn.drew, h⟩
theorem heldX_new {w w1 w2 : World} {px b o : Nat} {a0 a1 a2 a3 a4 c : Value} (k : New w1 w2) (h : HeldX w w1 px b o a0 a1 a2 a3 a4 c) : HeldX w w2 px b o a0 a1 a2 a3 a4 c := by
  obtain ⟨hn, hl, hb, h0, h1, h2, h3, h4, h5⟩ := h
  have c := fun i => k.cell (a := ⟨px, i, none⟩) hl (fun h => h)
  exact ⟨hn.trans (k.mono (fun _ _ h => h.elim)), Nat.lt_of_lt_of_le hl k.size, Nat.lt_of_lt_of_le hb k.size, (c 0).trans h0, (c 1).trans h1, (c 2).trans h2, (c 3).trans h3, (c 4).trans h4, (k.cell (a := ⟨b, o, none⟩) hb (fun h => h)).trans h5⟩

abbrev HeldD (w w' : World) (px : Nat) (a0 a1 a2 a3 a4 : Value) : Prop :=
  New w w' ∧ px < w'.heap.size ∧ w'.cell? ⟨px, 0, none⟩ = some a0 ∧ w'.cell? ⟨px, 1, none⟩ = some a1 ∧ w'.cell? ⟨px, 2, none⟩ = some a2 ∧ w'.cell? ⟨px, 3, none⟩ = some a3 ∧ w'.cell? ⟨px, 4, none⟩ = some a4
theorem heldD_drew {w w' : World} {px : Nat} {a0 a1 a2 a3 a4 : Value} (h : HeldD w w' px a0 a1 a2 a3 a4) : HeldD w w'.drew px a0 a1 a2 a3 a4 := by
  obtain ⟨hn, h⟩ := h
  exact ⟨hn.drew, h⟩
theorem heldD_nw {w w' : World} {px : Nat} {a0 a1 a2 a3 a4 : Value} (h : HeldD w w' px a0 a1 a2 a3 a4) : New w w' := h.1
theorem heldD_new {w w1 w2 : World} {px : Nat} {a0 a1 a2 a3 a4 : Value} (k : New w1 w2) (h : HeldD w w1 px a0 a1 a2 a3 a4) : HeldD w w2 px a0 a1 a2 a3 a4 := by
  obtain ⟨hn, hl, h0, h1, h2, h3, h4⟩ := h
  have c := fun i => k.cell (a := ⟨px, i, none⟩) hl (fun h => h)
  exact ⟨hn.trans (k.mono (fun _ _ h => h.elim)), Nat.lt_of_lt_of_le hl k.size, (c 0).trans h0, (c 1).trans h1, (c 2).trans h2, (c 3).trans h3, (c 4).trans h4⟩

set_option maxRecDepth 10000 in
set_option maxHeartbeats 2000000 in
theorem plays_law (a b : Int) (ao : Option Addr) (n c : Nat) (z : Nat → Int × Int × Bool) (w : World) (ha : -9223372036854775808 ≤ a) (ha' : a ≤ 9223372036854775807) (hb : -9223372036854775808 ≤ b) (hb' : b ≤ 9223372036854775807) (h : args.pactRow w ao n c z) :
    Calls Try.prog 3 #[.int .i64 a, .int .i64 b, .slice ao n c] w fun e w' => e = .returned (.bool true) ∧ Below w.heap.size w w' := by
  have m1 := mask.mask4 a
  have m2 := mask.mask6 b
  obtain ⟨x, hx, hx1⟩ : ∃ x : Nat, a % 16 = (x : Int) ∧ x ≤ 15 := ⟨(a % 16).toNat, by omega, by omega⟩
  obtain ⟨y, hy, hy1⟩ : ∃ y : Nat, b % 64 = (y : Int) ∧ y ≤ 63 := ⟨(b % 64).toNat, by omega, by omega⟩
  rw [hx] at m1
  rw [hy] at m2
  have HN := Lib.hid (fun w => new_ok (1 + (x : Int)) (1 + (x : Int) + (y : Int)) w ⟨by omega, by omega, by omega⟩)
  have HA := Lib.hid (fun w => awake w)
  obtain ⟨hn, hok, hrow⟩ := h
  unfold maxLen at hn
  have HOK := Lib.hid hok
  have HROW := Lib.hid hrow
  clear hx hy hok hrow
  go_enter Try.func3, Try.ntmps3
  go_wp2_with fail
  refine (HN.out _).mono ?_
  rintro e w1 ⟨p, rfl, o1⟩
  have HO1 := Lib.hid o1
  clear HN o1
  go_wp2_with fail
  refine (HA.out _).mono ?_
  rintro e w2 ⟨rfl, n2⟩
  have HO2 := Lib.hid (HO1.out.later n2)
  have HX2 : Hid (Blk (w2.alloc (.cells (rcs ⟨1 + (x : Int), 1 + (x : Int) + (y : Int), false, [], 0⟩ (.slice none 0 0)) RT)) w2.heap.size (rcs ⟨1 + (x : Int), 1 + (x : Int) + (y : Int), false, [], 0⟩ (.slice none 0 0)) RT) := Lib.hid (Blk.new _ _ _)
  have HP2 : Hid (PL w (w2.alloc (.cells (rcs ⟨1 + (x : Int), 1 + (x : Int) + (y : Int), false, [], 0⟩ (.slice none 0 0)) RT)) p w2.heap.size (fresh (1 + (x : Int)) (1 + (x : Int) + (y : Int))) ⟨1 + (x : Int), 1 + (x : Int) + (y : Int), false, [], 0⟩ (.slice none 0 0)) :=
    Lib.hid ⟨HO2.out.later ((Turns.refl _ _).alloc _), HX2.out, .inl ⟨rfl, rfl⟩, HO2.out.n.size, by have := HO2.out.sq.lt; omega, fun g hg => by simp [Value.ownBlock] at hg⟩
  have HR2 : Hid (Rel (fresh (1 + (x : Int)) (1 + (x : Int) + (y : Int))) ⟨1 + (x : Int), 1 + (x : Int) + (y : Int), false, [], 0⟩ (1 + (x : Int)) (1 + (x : Int) + (y : Int)) 0 0) :=
    Lib.hid ⟨rfl, rfl, rfl, rfl, rfl, rfl, Int.le_refl _, Int.le_refl _, Int.le_refl _, (by show (0 : Int) ≤ _; omega), fun h => by simp at h, Nat.le_refl _, fun x hx => by simp at hx⟩
  clear HO1 n2 HO2 HX2
  go_wp2_with fail
  generalize (w2.alloc (.cells (rcs ⟨1 + (x : Int), 1 + (x : Int) + (y : Int), false, [], 0⟩ (.slice none 0 0)) RT)) = w3 at *
  generalize w2.heap.size = px at *
  go_loopw [10, 11] (fun nw i wr => ∃ (k : Nat) (now : Int) (s : Q) (A : RA) (v : Value), k ≤ n ∧ k ≤ 150 ∧ nw = .int .i64 now ∧ i = .int .i64 k ∧ PL w wr p px s A v ∧ Rel s A (1 + (x : Int)) (1 + (x : Int) + (y : Int)) now k ∧ 0 ≤ now ∧ now ≤ 15 * k) (fun _ i _ => n - (intOf i).toNat)
  case atStart => exact ⟨0, 0, _, _, _, by omega, by omega, rfl, rfl, HP2.out, HR2.out, by omega, by omega⟩
  case round =>
    obtain ⟨k, now, s, A, v, hk, hk2, rfl, rfl, h3, hi3, hl0, hn1⟩ := hrel
    clear HP2 HR2
    have H3 := Lib.hid h3
    have HR := Lib.hid hi3
    clear h3 hi3
    by_cases hlt : k < n
    · by_cases hlt2 : k < 150
      · obtain ⟨b0, off, rfl, hb0, hc⟩ := HROW.out.resolve_left (by omega)
        have hzc := hc k hlt
        have e0 := (H3.out.own.n.cell (a := ⟨b0, off + k * 3, none⟩) hb0 (fun h => h)).trans hzc.1
        have e1 := (H3.out.own.n.cell (a := ⟨b0, off + k * 3 + 1, none⟩) hb0 (fun h => h)).trans hzc.2.1
        have e2 := (H3.out.own.n.cell (a := ⟨b0, off + k * 3 + 2, none⟩) hb0 (fun h => h)).trans hzc.2.2
        have HE2 : Hid (w.cell? ⟨b0, off + k * 3 + 2, none⟩ = some (.bool (z k).2.2) ∧ b0 < w.heap.size) := Lib.hid ⟨hzc.2.2, hb0⟩
        have hzo := (HOK.out k hlt).1
        have hzo2 := (HOK.out k hlt).2.1
        have mz := mask.mask4 (z k).2.1
        have y0 : 0 ≤ (z k).2.1 % 16 := by omega
        have y1 : (z k).2.1 % 16 ≤ 15 := by omega
        clear hc hzc HOK HROW hb0
        generalize (z k).2.2 = zo at *
        generalize (z k).2.1 % 16 = d at *
        generalize (z k).2.1 = zn at *
        generalize (z k).1 = zk at *
        have hw0 := H3.out.own.n.size
        go_upto_block 2 with fail
        have hfm : (1 : Int) ≤ 1 + (x : Int) := by omega
        have hsok := Lib.hid (HR.out.sok (by omega) (by omega) (by omega) (by omega))
        have haok := Lib.hid (HR.out.aok (by omega) (by omega) (by omega) (by omega) (by omega))
        go_cut [12, 13] (fun g wv wx => ∃ (B : Bool) (s' : Q) (A' : RA) (v' : Value), g = .bool B ∧ wv = .bool B ∧ PL w wx p px s' A' v' ∧ Rel s' A' (1 + (x : Int)) (1 + (x : Int) + (y : Int)) (now + d) (k + 1))
        case first =>
          by_cases hk1 : zk = 1
          · have hb1 : (zk == 1) = true := by simp [hk1]
            have HT := Lib.hid (want p s zo (now + d) wr H3.out.own.sq hsok.out (by omega) (by omega))
            have HWB := Lib.hid (HR.out.wantB zo (now + d))
            have HRN := Lib.hid (HR.out.want (by omega) (by omega) zo (t := now + d) hl0 (by omega))
            have HNE := Lib.hid HR.out.ne
            clear hk1
            go_wp2_with fail
            refine HT.out.mono ?_
            rintro e w4 ⟨rfl, a4⟩
            have H4 := Lib.hid (H3.out.at_ a4)
            have hRW := fun W (N : New w4 W) => rwant A v zo (now + d) W (Sub.new H4.out.sub N) HNE.out haok.out (by omega) (by omega)
            rw [HWB.out] at hRW
            have HRW := Lib.hid hRW
            have e24 : w4.cell? ⟨b0, off + k * 3 + 2, none⟩ = some (.bool zo) := (H4.out.own.n.cell (a := ⟨b0, off + k * 3 + 2, none⟩) HE2.out.2 (fun h => h)).trans HE2.out.1
            have hb4 : b0 < w4.heap.size := Nat.lt_of_lt_of_le HE2.out.2 H4.out.own.n.size
            clear hRW HT a4 e0 e1 e2 HR H3
            generalize wantQ s zo (now + d) = q at *
            generalize wantB s zo (now + d) = qb at *
            generalize rwantA A zo (now + d) = qA at *
            have hx4 := H4.out.x
            have hpxl := hx4.lt
            obtain ⟨x0, x1, x2, x3, x4⟩ := five hx4
            obtain ⟨f0, f1, f2, f3, f4⟩ := frees hx4
            clear f0 f1 f2 f3 f4 hx4
            have hknI : (k : Int) < (n : Int) := by omega
            go_upto_region 16 with fail
            go_region_with (go_at_call 18; (with_reducible refine Calls.mono (HRW.out _ ?_) ?_); (focus (exact (Turns.refl _ _).drew)); rintro e w5 ⟨v5, rfl, hp5⟩; have H5 := Lib.hid (H4.out.stored (RPost.trans0 ((Turns.refl _ _).drew) hp5)); have hx5 := hp5.n.blk (show Blk w4.drew px _ RT from H4.out.x) (fun h => h); obtain ⟨a5, c5, hv5, _⟩ := hp5.sub.form; clear hp5; obtain ⟨z0, z1, z2, z3, z4⟩ := five hx5; obtain ⟨f0, f1, f2, f3, f4⟩ := frees hx5; clear hx5; subst hv5)
            all_goals
              go_wp2_with fail
              go_meet
              case rel => exact ⟨_, _, _, _, rfl, rfl, H5.out, HRN.out⟩
          · have hb1 : (zk == 1) = false := by simp [hk1]
            by_cases hk2 : zk = 2
            · have hb2 : (zk == 2) = true := by simp [hk2]
              have HT := Lib.hid (tick p s (now + d) wr H3.out.own.sq hsok.out (by omega) (by omega))
              have HWB := Lib.hid (HR.out.tickB (now + d))
              have HRN := Lib.hid (HR.out.tick (by omega) (by omega) (t := now + d) hl0 (by omega))
              have HNE := Lib.hid HR.out.ne
              clear hk1 hk2
              go_wp2_with fail
              refine HT.out.mono ?_
              rintro e w4 ⟨rfl, a4⟩
              have H4 := Lib.hid (H3.out.at_ a4)
              have hRW := fun W (N : New w4 W) => rtick A v (now + d) W (Sub.new H4.out.sub N) HNE.out haok.out (by omega) (by omega)
              rw [HWB.out] at hRW
              have HRW := Lib.hid hRW
              clear hRW HT a4 e0 e1 e2 HR H3
              generalize tickQ s (now + d) = q at *
              generalize tickB s (now + d) = qb at *
              generalize rtickA A (now + d) = qA at *
              have hx4 := H4.out.x
              have hpxl := hx4.lt
              obtain ⟨x0, x1, x2, x3, x4⟩ := five hx4
              clear hx4
              go_wp2_with fail
              refine (HRW.out _ (Turns.refl _ _)).mono ?_
              rintro e w5 ⟨v5, rfl, hp5⟩
              have H5 := Lib.hid (H4.out.stored hp5)
              have hx5 := hp5.n.blk H4.out.x (fun h => h)
              obtain ⟨a5, c5, hv5, _⟩ := hp5.sub.form
              clear x0 x1 x2 x3 x4 hp5
              obtain ⟨x0, x1, x2, x3, x4⟩ := five hx5
              obtain ⟨f0, f1, f2, f3, f4⟩ := frees hx5
              clear hx5
              subst hv5
              go_wp2_with fail
              go_meet
              case rel => exact ⟨_, _, _, _, rfl, rfl, H5.out, HRN.out⟩
            · have hb2 : (zk == 2) = false := by simp [hk2]
              have HRN := Lib.hid (HR.out.later (now' := now + d) (by omega))
              clear hk1 hk2 e0 e1 e2
              go_wp2_with fail
              go_meet
              case rel => exact ⟨_, _, _, _, rfl, rfl, H3.out, HRN.out⟩
        case rest =>
          obtain ⟨B, s', A', v', rfl, rfl, hpl, hre⟩ := hcut
          have H5 := Lib.hid hpl
          have HR5 := Lib.hid hre
          clear hpl hre H3 HR e0 e1 e2 HE2 hsok haok
          have hD := due p s' wc H5.out.own.sq
          have HME : Hid (1 + (x : Int) + (y : Int) ≤ 1073741824 ∧ now + d ≤ 4398046511104 ∧ k + 1 ≤ 1000 ∧ 1 + (x : Int) ≤ 1 + (x : Int) + (y : Int)) := Lib.hid (by omega)
          cases hw : s'.wanted
          · rw [hw] at hD
            have HD := Lib.hid hD
            have hx := H5.out.x
            obtain ⟨x0, x1, x2, x3, x4⟩ := five hx
            rw [HR5.out.wa, hw] at x2
            rw [HR5.out.se] at x4
            have HM := Lib.hid (fun nq => wanted p s' (wc.drewN nq) H5.out.own.sq)
            have HJ := Lib.hid (fun nq => sent p s' (wc.drewN nq) H5.out.own.sq)
            rw [hw] at HM
            clear hD hw hx
            generalize s'.sent = sn at *
            go_wp2_with fail
            refine HD.out.mono ?_
            rintro e w6 ⟨rfl, rfl⟩
            cases B
            all_goals
              simp only [Bool.false_eq_true, if_false]
              go_upto_region 21 with fail
              go_quiet ((first
                | (go_at_call 22; exact Calls.quiet_of_same (HM.out _))
                | (go_at_call 23; exact Calls.quiet_of_same (HJ.out _))))
              go_wp2
              go_roundw
              case rel => exact ⟨k + 1, _, _, _, _, by omega, by omega, rfl, by go_num, H5.out.later ((Turns.refl _ _).drewN _), HR5.out, by omega, by omega⟩
              case measure => simp [intOf]; omega
          · rw [hw] at hD
            have HD := Lib.hid hD
            have hx := H5.out.x
            have hpxl := hx.lt
            obtain ⟨x0, x1, x2, x3, x4⟩ := five hx
            obtain ⟨a5, c5, hv5, _⟩ := H5.out.sub.form
            have HDU := Lib.hid (fun W (N : New wc W) => rdue A' v' W (Sub.new H5.out.sub N) (HR5.out.ne (by rw [HR5.out.wa]; exact hw)) (HR5.out.aok (by omega) HME.out.2.2.2 HME.out.1 HME.out.2.2.1 HME.out.2.1))
            rw [HR5.out.due_eq hw] at HDU
            have hwa := HR5.out.wa
            have hse := HR5.out.se
            rw [hw] at hwa
            unfold rcs at HDU
            rw [hwa, hse] at HDU
            rw [hwa] at x2
            rw [hse] at x4
            have HM := Lib.hid (fun W (N : New wc W) => wanted p s' W (H5.out.own.sq.turns N (fun h => h)))
            have HJ := Lib.hid (fun W (N : New wc W) => sent p s' W (H5.out.own.sq.turns N (fun h => h)))
            rw [hw] at HM
            have HH : Hid (HeldD wc wc px (.int .i64 A'.first) (.int .i64 A'.most) (.bool true) v' (.int .i64 s'.sent)) := Lib.hid ⟨Turns.refl _ _, hpxl, x0, x1, x2, x3, x4⟩
            clear hD hw hx hwa hse
            generalize A'.first = q0 at *
            generalize A'.most = q1 at *
            generalize s'.sent = sn at *
            generalize s'.due = du at *
            subst hv5
            generalize A'.L.length = ln5 at *
            go_wp2_with fail
            refine HD.out.mono ?_
            rintro e w6 ⟨rfl, rfl⟩
            cases B
            all_goals
              go_upto_region 21 with fail
              (first
                | go_region_held (fun w' => New w6 w' ∧ px < w'.heap.size ∧ w'.cell? ⟨px, 0, none⟩ = some (.int .i64 q0) ∧ w'.cell? ⟨px, 1, none⟩ = some (.int .i64 q1) ∧ w'.cell? ⟨px, 2, none⟩ = some (.bool true) ∧ w'.cell? ⟨px, 3, none⟩ = some (.slice a5 ln5 c5) ∧ w'.cell? ⟨px, 4, none⟩ = some (.int .i64 sn))
                  (first
                    | (with_reducible assumption)
                    | ((with_reducible refine heldD_drew ?_); with_reducible assumption)
                    | (with_reducible exact heldD_drew HH.out)
                    | ((with_reducible refine heldD_new hnq ?_); with_reducible assumption)
                    | ((with_reducible refine heldD_new hnq (heldD_drew ?_)); with_reducible assumption))
                  (first
                    | (go_at_call 22; (with_reducible refine Calls.mono (HM.out _ ?_) ?_); (focus (first | (with_reducible apply heldD_nw; assumption) | (with_reducible apply heldD_nw; with_reducible apply heldD_drew; assumption))); rintro en wq ⟨rfl, rfl⟩)
                    | (go_at_call 23; (with_reducible refine Calls.mono (HJ.out _ ?_) ?_); (focus (first | (with_reducible apply heldD_nw; assumption) | (with_reducible apply heldD_nw; with_reducible apply heldD_drew; assumption))); rintro en wq ⟨rfl, rfl⟩)
                    | (go_at_call 24; (with_reducible refine Calls.mono (HDU.out _ ?_) ?_); (focus (first | (with_reducible apply heldD_nw; assumption) | (with_reducible apply heldD_nw; with_reducible apply heldD_drew; assumption))); rintro en wq ⟨rfl, hnq⟩))
                | skip)
              rename_i hHl
              go_wp2
              go_roundw
              case rel => exact ⟨k + 1, _, _, _, _, by omega, by omega, rfl, by go_num, H5.out.later hHl.1, HR5.out, by omega, by omega⟩
              case measure => simp [intOf]; omega
      · go_wp2
        go_ret
        exact ⟨rfl, H3.out.own.below⟩
    · go_wp2
      go_ret
      exact ⟨rfl, H3.out.own.below⟩
end Go.Proofs.Ytjiodpbgjhoakaa.pli
