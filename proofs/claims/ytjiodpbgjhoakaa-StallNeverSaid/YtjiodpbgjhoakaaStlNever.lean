/-
  StallNever: the law.
-/
import Derived.Test.YtjiodpbgjhoakaaStlAwake
import Derived.Test.YtjiodpbgjhoakaaMask
import Derived.Test.YtjiodpbgjhoakaaSactRow
namespace Go.Proofs.Ytjiodpbgjhoakaa.stl
open Go.RowKit mem
set_option linter.unusedVariables false

structure Inv (s : Q) (a last now : Int) : Prop where
  af : s.after = a
  re : s.rest = 5
  su : s.susp = false
  ti : s.times = 0
  rc : s.recd = true → last ≤ s.since
  s0 : 0 ≤ s.since
  s1 : s.since ≤ now
theorem Inv.ok {s : Q} {a last now : Int} (h : Inv s a last now) (a0 : 1 ≤ a) (a1 : a ≤ 100) (n1 : now ≤ 100000) : s.ok := by
  obtain ⟨h1, h2, h3, h4, h5, h6, h7⟩ := h
  exact ⟨by omega, by omega, by omega, by omega, h6, by omega, by omega, by omega⟩
/-- something was sent, or nothing waits -/
theorem Inv.fresh {s : Q} {a last now now' : Int} (h : Inv s a last now) (hn : now ≤ now') (h0 : 0 ≤ now) (a0 : 1 ≤ a) (waits sent : Bool) (hs : sent = true ∨ waits = false) : tickA s now' waits sent = 0 ∧ Inv (tickQ s now' waits sent) a now' now' := by
  obtain ⟨h1, h2, h3, h4, h5, h6, h7⟩ := h
  cases waits
  · refine ⟨by simp [tickA, h3], ?_⟩
    rw [show tickQ s now' false sent = { s with recd := false } by simp [tickQ, h3]]
    exact ⟨h1, h2, h3, h4, fun h => by simp at h, h6, by show s.since ≤ _; omega⟩
  · have hs : sent = true := by simpa using hs
    subst hs
    have hl : now' - now' < s.after := by omega
    have e : noteQ s now' true = { s with recd := true, since := now' } := by simp [noteQ]
    refine ⟨by simp only [tickA, h3, e, lateA, if_pos hl]; simp, ?_⟩
    rw [show tickQ s now' true true = { s with recd := true, since := now' } by simp only [tickQ, h3, e, lateQ, if_pos hl]; simp]
    exact ⟨h1, h2, h3, h4, fun _ => Int.le_refl _, by show 0 ≤ now'; omega, Int.le_refl _⟩
theorem Inv.wait {s : Q} {a last now now' : Int} (h : Inv s a last now) (hn : now ≤ now') (h0 : 0 ≤ now) (a0 : 1 ≤ a) (hw : now' - last < a) (hl : last ≤ now') : tickA s now' true false = 0 ∧ Inv (tickQ s now' true false) a last now' := by
  obtain ⟨h1, h2, h3, h4, h5, h6, h7⟩ := h
  cases hr : s.recd
  · have hl2 : now' - now' < s.after := by omega
    have e : noteQ s now' false = { s with recd := true, since := now' } := by simp [noteQ, hr]
    refine ⟨by simp only [tickA, h3, e, lateA, if_pos hl2]; simp, ?_⟩
    rw [show tickQ s now' true false = { s with recd := true, since := now' } by simp only [tickQ, h3, e, lateQ, if_pos hl2]; simp]
    exact ⟨h1, h2, h3, h4, fun _ => hl, by show 0 ≤ now'; omega, Int.le_refl _⟩
  · have h8 := h5 hr
    have hl2 : now' - s.since < s.after := by omega
    have e : noteQ s now' false = s := by simp [noteQ, hr]
    refine ⟨by simp only [tickA, h3, e, lateA, if_pos hl2]; simp, ?_⟩
    rw [show tickQ s now' true false = s by simp only [tickQ, h3, e, lateQ, if_pos hl2]; simp]
    exact ⟨h1, h2, h3, h4, h5, h6, by omega⟩
theorem Own.turned {w w1 w2 : World} {p : Nat} {s t : Q} (h : Own w w1 p s) {W : World} (n : New w1 W) (k : At W w2 p t) : Own w w2 p t := (h.later n).at_ k

set_option maxHeartbeats 2000000 in
set_option maxRecDepth 10000 in
theorem never_law (a : Int) (ao : Option Addr) (n c : Nat) (z : Nat → Int × Bool × Bool) (w : World) (ha : -9223372036854775808 ≤ a) (ha' : a ≤ 9223372036854775807) (h : args.sactRow w ao n c z) :
    Calls Try.prog 8 #[.int .i64 a, .slice ao n c] w fun e w' => e = .returned (.bool true) ∧ Below w.heap.size w w' := by
  have m1 := mask.mask4 a
  obtain ⟨x, hx, hx1⟩ : ∃ x : Nat, a % 16 = (x : Int) ∧ x ≤ 15 := ⟨(a % 16).toNat, by omega, by omega⟩
  rw [hx] at m1
  have HN := Lib.hid (fun w => new_ok (1 + (x : Int)) 5 w ⟨by omega, by omega, by omega, by omega⟩)
  have HA := Lib.hid (fun w => awake w)
  obtain ⟨hn, hok, hrow⟩ := h
  unfold maxLen at hn
  have HOK := Lib.hid hok
  have HROW := Lib.hid hrow
  clear hx hok hrow
  go_enter Try.func8, Try.ntmps8
  go_wp2_with fail
  refine (HN.out _).mono ?_
  rintro e w1 ⟨p, rfl, o1⟩
  have HO1 := Lib.hid o1
  clear HN o1
  go_wp2_with fail
  refine (HA.out _).mono ?_
  rintro e w2 ⟨rfl, n2⟩
  have HO2 := Lib.hid (HO1.out.later n2)
  have HI2 : Hid (Inv (fresh (1 + (x : Int)) 5) (1 + (x : Int)) 0 0) := Lib.hid ⟨rfl, rfl, rfl, rfl, fun h => by simp at h, Int.le_refl _, Int.le_refl _⟩
  clear HO1 n2
  go_wp2_with fail
  go_loopw [7, 8, 9] (fun nw la i wr => ∃ (k : Nat) (now last : Int) (s : Q), k ≤ n ∧ k ≤ 200 ∧ nw = .int .i64 now ∧ la = .int .i64 last ∧ i = .int .i64 k ∧ Own w wr p s ∧ Inv s (1 + (x : Int)) last now ∧ 0 ≤ last ∧ last ≤ now ∧ now ≤ 7 * k) (fun _ _ i _ => n - (intOf i).toNat)
  case atStart => exact ⟨0, 0, 0, _, by omega, by omega, rfl, rfl, rfl, HO2.out, HI2.out, by omega, by omega, by omega⟩
  case round =>
    obtain ⟨k, now, last, s, hk, hk2, rfl, rfl, rfl, h3, hi3, hl0, hl1, hn1⟩ := hrel
    clear HO2 HI2
    have H3 := Lib.hid h3
    have HI := Lib.hid hi3
    clear h3 hi3
    by_cases hlt : k < n
    · by_cases hlt2 : k < 200
      · obtain ⟨b, off, rfl, hb, hc⟩ := HROW.out.resolve_left (by omega)
        have hzc := hc k hlt
        have e0 := (H3.out.n.cell (a := ⟨b, off + k * 3, none⟩) hb (fun h => h)).trans hzc.1
        have e1 := (H3.out.n.cell (a := ⟨b, off + k * 3 + 1, none⟩) hb (fun h => h)).trans hzc.2.1
        have e2 := (H3.out.n.cell (a := ⟨b, off + k * 3 + 2, none⟩) hb (fun h => h)).trans hzc.2.2
        have hzo := (HOK.out k hlt).1
        have mz := mask.mask3 (z k).1
        have y0 : 0 ≤ (z k).1 % 8 := by omega
        have y1 : (z k).1 % 8 ≤ 7 := by omega
        clear hc hzc HOK HROW hb
        generalize (z k).2.1 = zw at *
        generalize (z k).2.2 = zs at *
        generalize (z k).1 % 8 = y at *
        generalize (z k).1 = zn at *
        by_cases hA : 1 + (x : Int) ≤ now + y - last
        · skip
          have hs := HI.out.fresh (now' := now + y) (by omega) (by omega) (by omega) zw true (.inl rfl)
          have HIN := Lib.hid hs.2
          have HT := Lib.hid (fun W (N : New wr W) => tick p s (now + y) zw true W (H3.out.sq.turns N (fun h => h)) (HI.out.ok (by omega) (by omega) (by omega)) (by omega) (by omega))
          rw [hs.1] at HT
          clear hs
          go_wp2_with fail
          refine (HT.out _ ((Turns.refl _ _).alloc _)).mono ?_
          rintro e w4 ⟨rfl, a4⟩
          have H4 := Lib.hid (H3.out.turned ((Turns.refl _ _).alloc _) a4)
          have HSU := Lib.hid (suspended p _ w4 H4.out.sq)
          rw [HIN.out.su] at HSU
          clear HT H3 a4
          go_wp2_with fail
          refine HSU.out.mono ?_
          rintro e w5 ⟨rfl, rfl⟩
          go_wp2
          go_roundw
          case rel => exact ⟨k + 1, _, _, _, by omega, by omega, rfl, rfl, by go_num, H4.out, HIN.out, by omega, by omega, by omega⟩
          case measure => simp [intOf]; omega
        · cases zs
          · cases zw
            · skip
              have hs := HI.out.fresh (now' := now + y) (by omega) (by omega) (by omega) false false (.inr rfl)
              have HIN := Lib.hid hs.2
              have HT := Lib.hid (fun W (N : New wr W) => tick p s (now + y) false false W (H3.out.sq.turns N (fun h => h)) (HI.out.ok (by omega) (by omega) (by omega)) (by omega) (by omega))
              rw [hs.1] at HT
              clear hs
              go_wp2_with fail
              refine (HT.out _ ((Turns.refl _ _).alloc _)).mono ?_
              rintro e w4 ⟨rfl, a4⟩
              have H4 := Lib.hid (H3.out.turned ((Turns.refl _ _).alloc _) a4)
              have HSU := Lib.hid (suspended p _ w4 H4.out.sq)
              rw [HIN.out.su] at HSU
              clear HT H3 a4
              go_wp2_with fail
              refine HSU.out.mono ?_
              rintro e w5 ⟨rfl, rfl⟩
              go_wp2
              go_roundw
              case rel => exact ⟨k + 1, _, _, _, by omega, by omega, rfl, rfl, by go_num, H4.out, HIN.out, by omega, by omega, by omega⟩
              case measure => simp [intOf]; omega
            · skip
              have hs := HI.out.wait (now' := now + y) (by omega) (by omega) (by omega) (by omega) (by omega)
              have HIN := Lib.hid hs.2
              have HT := Lib.hid (fun W (N : New wr W) => tick p s (now + y) true false W (H3.out.sq.turns N (fun h => h)) (HI.out.ok (by omega) (by omega) (by omega)) (by omega) (by omega))
              rw [hs.1] at HT
              clear hs
              go_wp2_with fail
              refine (HT.out _ ((Turns.refl _ _).alloc _)).mono ?_
              rintro e w4 ⟨rfl, a4⟩
              have H4 := Lib.hid (H3.out.turned ((Turns.refl _ _).alloc _) a4)
              have HSU := Lib.hid (suspended p _ w4 H4.out.sq)
              rw [HIN.out.su] at HSU
              clear HT H3 a4
              go_wp2_with fail
              refine HSU.out.mono ?_
              rintro e w5 ⟨rfl, rfl⟩
              go_wp2
              go_roundw
              case rel => exact ⟨k + 1, _, _, _, by omega, by omega, rfl, rfl, by go_num, H4.out, HIN.out, by omega, by omega, by omega⟩
              case measure => simp [intOf]; omega
          · skip
            have hs := HI.out.fresh (now' := now + y) (by omega) (by omega) (by omega) zw true (.inl rfl)
            have HIN := Lib.hid hs.2
            have HT := Lib.hid (fun W (N : New wr W) => tick p s (now + y) zw true W (H3.out.sq.turns N (fun h => h)) (HI.out.ok (by omega) (by omega) (by omega)) (by omega) (by omega))
            rw [hs.1] at HT
            clear hs
            go_wp2_with fail
            refine (HT.out _ ((Turns.refl _ _).alloc _)).mono ?_
            rintro e w4 ⟨rfl, a4⟩
            have H4 := Lib.hid (H3.out.turned ((Turns.refl _ _).alloc _) a4)
            have HSU := Lib.hid (suspended p _ w4 H4.out.sq)
            rw [HIN.out.su] at HSU
            clear HT H3 a4
            go_wp2_with fail
            refine HSU.out.mono ?_
            rintro e w5 ⟨rfl, rfl⟩
            go_wp2
            go_roundw
            case rel => exact ⟨k + 1, _, _, _, by omega, by omega, rfl, rfl, by go_num, H4.out, HIN.out, by omega, by omega, by omega⟩
            case measure => simp [intOf]; omega
      · have HT := Lib.hid (times p _ wr H3.out.sq)
        rw [HI.out.ti] at HT
        go_wp2_with fail
        refine HT.out.mono ?_
        rintro e w5 ⟨rfl, rfl⟩
        go_wp2
        go_ret
        exact ⟨rfl, H3.out.below⟩
    · have HT := Lib.hid (times p _ wr H3.out.sq)
      rw [HI.out.ti] at HT
      go_wp2_with fail
      refine HT.out.mono ?_
      rintro e w5 ⟨rfl, rfl⟩
      go_wp2
      go_ret
      exact ⟨rfl, H3.out.below⟩
end Go.Proofs.Ytjiodpbgjhoakaa.stl
