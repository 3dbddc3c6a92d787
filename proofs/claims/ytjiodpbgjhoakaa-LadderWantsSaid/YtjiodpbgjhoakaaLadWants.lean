/-
  LadderWants: the law.
-/
import Derived.Test.YtjiodpbgjhoakaaLadNeeds
namespace Go.Proofs.Ytjiodpbgjhoakaa.lad
open Go.RowKit mem
open ints (IE IT ST infoI)
set_option linter.unusedVariables false

structure Wv (s : Q) (du up : Int) (N : List Int) (k : Nat) : Prop where
  dn : s.down = du
  up_ : s.up = up
  sp : s.spare = 0
  N_ : s.N = N
  b0 : 0 ≤ s.bad
  bb : s.bad ≤ k
  g0 : 0 ≤ s.good
  gg : s.good ≤ k
  al : s.at' < N.length
  il : s.aim < N.length
  le : s.at' ≤ s.aim
  m0 : 0 ≤ s.moves
  m1 : s.moves ≤ 2 * k
theorem Wv.ok {s : Q} {du up : Int} {N : List Int} {k : Nat} (h : Wv s du up N k) (hr : Rise N) (d0 : 1 ≤ du ∧ du ≤ 8) (u0 : 1 ≤ up ∧ up ≤ 8) (hk : k ≤ 1000) : s.ok := by
  obtain ⟨h1, h2, h3, h4, h5, h6, h7, h8, h9, h10, h11, h12, h13⟩ := h
  subst h4
  exact ⟨hr.1, hr.2.1, hr.bd, h9, h10, by omega, by omega, by omega, by omega, by omega, by omega, h5, by omega, h7, by omega, h12, by omega⟩
theorem Wv.more {s : Q} {du up : Int} {N : List Int} {k k' : Nat} (h : Wv s du up N k) (hk : k ≤ k') : Wv s du up N k' :=
  { h with bb := by have := h.bb; omega, gg := by have := h.gg; omega, m1 := by have := h.m1; omega }
/-- a Tick behind a Want that may have been: the moves grow by one at most -/
theorem Wv.tick {s : Q} {du up : Int} {N : List Int} {k : Nat} (h : Wv s du up N k) (r : Int) :
    (tickQ s r).aim = s.aim ∧ Wv (tickQ s r) du up N (k + 1) ∧
    ((tickB s r = false ∧ (tickQ s r).at' = s.at') ∨ (tickB s r = true ∧ 0 < s.at' ∧ (tickQ s r).at' = s.at' - 1) ∨ (tickB s r = true ∧ (tickQ s r).at' = s.at' + 1)) := by
  obtain ⟨h1, h2, h3, h4, h5, h6, h7, h8, h9, h10, h11, h12, h13⟩ := h
  cases hb : badB s r
  · cases hg : goodB s r
    · rw [show tickQ s r = { s with bad := 0, good := 0 } by simp [tickQ, hb, hg]]
      exact ⟨rfl, ⟨h1, h2, h3, h4, Int.le_refl _, (by show (0 : Int) ≤ _; omega), Int.le_refl _, (by show (0 : Int) ≤ _; omega), h9, h10, h11, h12, (by show s.moves ≤ _; omega)⟩, .inl ⟨by simp [tickB, hb, hg], rfl⟩⟩
    · have hat : s.at' < s.aim := by unfold goodB at hg; simp at hg; exact hg.1
      by_cases hu : s.up ≤ s.good + 1
      · rw [show tickQ s r = stepQ s (s.at' + 1) by simp [tickQ, hb, hg, hu]]
        exact ⟨rfl, ⟨h1, h2, h3, h4, Int.le_refl _, (by show (0 : Int) ≤ _; omega), Int.le_refl _, (by show (0 : Int) ≤ _; omega), (by show s.at' + 1 < _; omega), h10, (by show s.at' + 1 ≤ s.aim; omega), (by show 0 ≤ s.moves + 1; omega), (by show s.moves + 1 ≤ _; omega)⟩, .inr (.inr ⟨by simp [tickB, hb, hg, hu], rfl⟩)⟩
      · rw [show tickQ s r = { s with bad := 0, good := s.good + 1 } by simp [tickQ, hb, hg, hu]]
        exact ⟨rfl, ⟨h1, h2, h3, h4, Int.le_refl _, (by show (0 : Int) ≤ _; omega), (by show 0 ≤ s.good + 1; omega), (by show s.good + 1 ≤ _; omega), h9, h10, h11, h12, (by show s.moves ≤ _; omega)⟩, .inl ⟨by simp [tickB, hb, hg]; omega, rfl⟩⟩
  · have hat : 0 < s.at' := by unfold badB at hb; simp at hb; exact hb.1
    by_cases hd : s.down ≤ s.bad + 1
    · rw [show tickQ s r = stepQ s (s.at' - 1) by simp [tickQ, hb, hd]]
      exact ⟨rfl, ⟨h1, h2, h3, h4, Int.le_refl _, (by show (0 : Int) ≤ _; omega), Int.le_refl _, (by show (0 : Int) ≤ _; omega), (by show s.at' - 1 < _; omega), h10, (by show s.at' - 1 ≤ s.aim; omega), (by show 0 ≤ s.moves + 1; omega), (by show s.moves + 1 ≤ _; omega)⟩, .inr (.inl ⟨by simp [tickB, hb, hd], hat, rfl⟩)⟩
    · rw [show tickQ s r = { s with bad := s.bad + 1, good := 0 } by simp [tickQ, hb, hd]]
      exact ⟨rfl, ⟨h1, h2, h3, h4, (by show 0 ≤ s.bad + 1; omega), (by show s.bad + 1 ≤ _; omega), Int.le_refl _, (by show (0 : Int) ≤ _; omega), h9, h10, h11, h12, (by show s.moves ≤ _; omega)⟩, .inl ⟨by simp [tickB, hb]; omega, rfl⟩⟩
theorem Wv.want {s : Q} {du up : Int} {N : List Int} {k : Nat} (h : Wv s du up N k) (hl : 1 ≤ N.length) (x : Int) :
    (wantQ s x).aim = limF N.length x ∧ (wantQ s x).at' = min s.at' (limF N.length x) ∧ wantB s x = decide (limF N.length x < s.at') ∧ (wantQ s x).moves ≤ s.moves + 1 ∧ Wv (wantQ s x) du up N (k + 1) := by
  obtain ⟨h1, h2, h3, h4, h5, h6, h7, h8, h9, h10, h11, h12, h13⟩ := h
  subst h4
  have hlt := limF_lt hl x
  unfold wantQ
  cases hb : wantB s x
  · have hle : ¬ limF s.N.length x < s.at' := by unfold wantB at hb; simpa using hb
    simp only [Bool.false_eq_true, if_false]
    refine ⟨rfl, (by show s.at' = _; omega), (by rw [decide_eq_false hle]), (by show s.moves ≤ _; omega), ⟨h1, h2, h3, rfl, h5, (by show s.bad ≤ _; omega), h7, (by show s.good ≤ _; omega), h9, hlt, (by show s.at' ≤ limF s.N.length x; omega), h12, (by show s.moves ≤ _; omega)⟩⟩
  · have hle : limF s.N.length x < s.at' := by unfold wantB at hb; simpa using hb
    simp only [if_true]
    refine ⟨rfl, (by show limF s.N.length x = _; omega), (by rw [decide_eq_true hle]), (by show s.moves + 1 ≤ _; omega), ⟨h1, h2, h3, rfl, Int.le_refl _, (by show (0 : Int) ≤ _; omega), Int.le_refl _, (by show (0 : Int) ≤ _; omega), hlt, hlt, Nat.le_refl _, (by show 0 ≤ s.moves + 1; omega), (by show s.moves + 1 ≤ _; omega)⟩⟩

set_option maxRecDepth 10000 in
set_option maxHeartbeats 2000000 in
theorem wants_law (da ua most : Int) (a : Option Addr) (n c : Nat) (z : Nat → Int) (ra : Option Addr) (rn rc : Nat) (rz : Nat → Int) (va : Option Addr) (vn vc : Nat) (vz : Nat → Int) (w : World) (d0 : -9223372036854775808 ≤ da) (d1 : da ≤ 9223372036854775807) (u0 : -9223372036854775808 ≤ ua) (u1 : ua ≤ 9223372036854775807) (m0 : -9223372036854775808 ≤ most) (m1 : most ≤ 9223372036854775807) (hl : args.IntRow .i64 w a n c z) (hr : args.IntRow .i64 w ra rn rc rz) (hv : args.IntRow .i64 w va vn vc vz) :
    Calls Try.prog 12 #[.int .i64 da, .int .i64 ua, .int .i64 most, .slice a n c, .slice ra rn rc, .slice va vn vc] w fun e w' => e = .returned (.bool true) ∧ Below w.heap.size w w' := by
  have md := mask.mask3 da
  have mu := mask.mask3 ua
  have xd : 0 ≤ da % 8 ∧ da % 8 ≤ 7 := by omega
  have xu : 0 ≤ ua % 8 ∧ ua % 8 ≤ 7 := by omega
  generalize da % 8 = dx at *
  generalize ua % 8 = ux at *
  obtain ⟨xd0, xd1⟩ := xd
  obtain ⟨xu0, xu1⟩ := xu
  have HA := Lib.hid (fun w => awake w)
  have HNE := Lib.hid (fun W (N : New w W) => needs a n c z w W hl N)
  obtain ⟨hrn, hrw, hrc⟩ := hr
  obtain ⟨hvn, hvw, hvc⟩ := hv
  unfold maxLen at hrn hvn
  have HRC := Lib.hid hrc
  have HVC := Lib.hid hvc
  have HVB : Hid (∀ i, i < vn → -9223372036854775808 ≤ vz i ∧ vz i ≤ 9223372036854775807) := Lib.hid (fun i hi => bounds_i64 (hvw i hi))
  clear hl hrw hrc hvw hvc
  go_enter Try.func12, Try.ntmps12
  go_wp2_with fail
  refine (HA.out _).mono ?_
  rintro e w1 ⟨rfl, n1⟩
  have HN1 := Lib.hid n1
  clear n1
  go_wp2_with fail
  refine (HNE.out _ HN1.out).mono ?_
  rintro e w3 ⟨ao, cc, N, rfl, hvw, hri, hbd, n3⟩
  have HN3 : Hid (New w w3) := Lib.hid (HN1.out.trans (n3.mono (fun _ _ h => h.elim)))
  have HRI := Lib.hid hri
  have HNW := Lib.hid (new_ok (1 + dx) (1 + ux) 0 most ao cc N w3 hvw ⟨by omega, by omega, by omega, by omega, by omega, by omega⟩ hri)
  have HLN : Hid (1 ≤ N.length ∧ N.length ≤ 3) := Lib.hid ⟨hri.1, hri.2.1⟩
  have hln3 := hri.2.1
  clear hvw hri hbd n3 HNE HN1
  go_wp2_with fail
  refine HNW.out.mono ?_
  rintro e w4 ⟨p, g, c', rfl, ho⟩
  have HO4 := Lib.hid (Own.of_new HN3.out ho)
  have HH4 : Hid (Wv (fresh (1 + dx) (1 + ux) 0 N most) (1 + dx) (1 + ux) N 0 ∧ (fresh (1 + dx) (1 + ux) 0 N most).aim = limF N.length most) := Lib.hid ⟨⟨rfl, rfl, rfl, rfl, Int.le_refl _, Int.le_refl _, Int.le_refl _, Int.le_refl _, limF_lt HLN.out.1 most, limF_lt HLN.out.1 most, Nat.le_refl _, Int.le_refl _, Int.le_refl _⟩, rfl⟩
  have HLI := Lib.hid (limF_eq HLN.out.1 most)
  clear ho HNW
  generalize fresh (1 + dx) (1 + ux) 0 N most = s4 at *
  obtain ⟨mx, hmx, hmx2⟩ : ∃ mx, (if most < 0 then 0 else most) = mx ∧ max most 0 = mx := ⟨_, rfl, by split <;> omega⟩
  have hmn : (if (N.length : Int) - 1 < mx then (N.length : Int) - 1 else mx) = ((limF N.length most : Nat) : Int) := by rw [HLI.out, hmx2]; split <;> omega
  have hln1 : (1 : Int) ≤ (N.length : Int) := by have := HLN.out.1; omega
  clear hmx2 HLI
  generalize limF N.length most = li at *
  go_wp2_with fail
  clear hmx hmn
  go_loopw [2, 16] (fun mo i wr => ∃ (k : Nat) (s : Q), k ≤ rn ∧ k ≤ 100 ∧ mo = .int .i64 (s.aim : Nat) ∧ i = .int .i64 k ∧ Own w wr p g c' s ∧ Wv s (1 + dx) (1 + ux) N (2 * k)) (fun _ i _ => rn - (intOf i).toNat)
  case atStart => exact ⟨0, s4, by omega, by omega, by rw [HH4.out.2], rfl, HO4.out, HH4.out.1⟩
  case round =>
    obtain ⟨k, s, hk, hk2, rfl, rfl, hkp, hhv⟩ := hrel
    clear HO4 HH4
    have HK := Lib.hid hkp
    have HH := Lib.hid hhv
    clear hkp hhv
    by_cases hgo : k < rn ∧ k < 100
    · obtain ⟨hlt, hlt2⟩ := hgo
      obtain ⟨b, off, rfl, hb, hc⟩ := HRC.out.resolve_left (by omega)
      have HZ := Lib.hid (fun W (n : New w W) => (n.cell (a := ⟨b, off + k, none⟩) hb (fun h => h)).trans (hc k hlt))
      clear hc hb
      have d1 : decide ((k : Int) < (rn : Int)) = true := decide_eq_true (by omega)
      have d2 : decide ((k : Int) < 100) = true := decide_eq_true (by omega)
      have hal := HH.out.al
      have hil := HH.out.il
      go_upto_region 11 with fail
      go_cut [66] (fun v wx => ∃ B : Bool, v = .bool B ∧ wx = wr ∧ (B = true → k < vn ∧ vz k % 2 = 1))
      case first =>
        by_cases hv1 : k < vn
        · have d3 : decide ((k : Int) < (vn : Int)) = true := decide_eq_true (by omega)
          obtain ⟨b2, off2, rfl, hb2, hc2⟩ := HVC.out.resolve_left (by omega)
          have v0 := (HK.out.n.cell (a := ⟨b2, off2 + k, none⟩) hb2 (fun h => h)).trans (hc2 k hv1)
          have mv := mask.mask1 (vz k)
          clear hc2 hb2
          generalize vz k = x at *
          by_cases ho : x % 2 = 1
          · have d4 : (x % 2 == 1) = true := by simp [ho]
            go_wp2_with fail
            go_meet
            case rel => exact ⟨true, rfl, rfl, fun _ => ⟨hv1, ho⟩⟩
          · have d4 : (x % 2 == 1) = false := by simp [ho]
            go_wp2_with fail
            go_meet
            case rel => exact ⟨false, rfl, rfl, fun h => by simp at h⟩
        · have d3 : decide ((k : Int) < (vn : Int)) = false := decide_eq_false (by omega)
          go_wp2_with fail
          go_meet
          case rel => exact ⟨false, rfl, rfl, fun h => by simp at h⟩
      case rest =>
        obtain ⟨B, rfl, rfl, hB⟩ := hcut
        have HBB := Lib.hid hB
        clear hB
        go_upto_if 66 with fail
        go_cut [2] (fun mo wx => ∃ s' : Q, mo = .int .i64 (s'.aim : Nat) ∧ Own w wx p g c' s' ∧ Wv s' (1 + dx) (1 + ux) N (2 * k + 1))
        case first =>
          have HSK : Hid (Wv s (1 + dx) (1 + ux) N (2 * k + 1)) := Lib.hid (HH.out.more (by omega))
          cases B
          · go_wp2_with fail
            go_meet
            case rel => exact ⟨s, rfl, HK.out, HSK.out⟩
          · obtain ⟨hv1, ho⟩ := HBB.out rfl
            obtain ⟨b2, off2, rfl, hb2, hc2⟩ := HVC.out.resolve_left (by omega)
            have HZ2 := Lib.hid (fun W (n : New w W) => (n.cell (a := ⟨b2, off2 + k, none⟩) hb2 (fun h => h)).trans (hc2 k hv1))
            have v0 := HZ2.out _ HK.out.n
            have hvb := HVB.out k hv1
            have hkv : (k : Int) < (vn : Int) := by omega
            clear hc2 hb2
            generalize vz k = x at *
            have HW := Lib.hid (HH.out.want HLN.out.1 (x / 2))
            have HAT := Lib.hid (lad.at_ p g c' s _ HK.out.ls)
            have HWC := Lib.hid (want p g c' s (x / 2) _ HK.out.ls (HH.out.ok HRI.out ⟨by omega, by omega⟩ ⟨by omega, by omega⟩ (by omega)))
            have HLI2 := Lib.hid (limF_eq HLN.out.1 (x / 2))
            obtain ⟨my, hmy, hmy2⟩ : ∃ my, (if x / 2 < 0 then 0 else x / 2) = my ∧ max (x / 2) 0 = my := ⟨_, rfl, by split <;> omega⟩
            have hmn : (if (N.length : Int) - 1 < my then (N.length : Int) - 1 else my) = ((limF N.length (x / 2) : Nat) : Int) := by rw [HLI2.out, hmy2]; split <;> omega
            have hl2 := limF_lt HLN.out.1 (x / 2)
            clear hmy2 HLI2
            generalize limF N.length (x / 2) = li2 at *
            generalize hq : wantQ s (x / 2) = q at *
            generalize wantB s (x / 2) = wb at *
            have HQA := Lib.hid HW.out.1
            have HQW := Lib.hid HW.out.2.2.2.2
            have HQ2 : Hid (q.at' = min s.at' li2) := Lib.hid HW.out.2.1
            have hwb : wb = decide (li2 < s.at') := HW.out.2.2.1
            clear hq HW
            go_wp2_with fail
            refine HAT.out.mono ?_
            rintro e w5 ⟨rfl, rfl⟩
            clear HAT
            go_wp2_with fail
            refine HWC.out.mono ?_
            rintro e w6 ⟨rfl, a6⟩
            have H6 := Lib.hid (HK.out.at_ a6)
            have HAT := Lib.hid (lad.at_ p g c' q w6 H6.out.ls)
            clear a6 HWC v0
            have hatl := HH.out.al
            generalize hna : s.at' = was at *
            have HNA := Lib.hid hna
            clear hna
            by_cases hlt3 : li2 < was
            · have e1 : decide ((li2 : Int) < (was : Int)) = true := decide_eq_true (by omega)
              have e2 : decide (li2 < was) = true := decide_eq_true hlt3
              rw [e2] at hwb
              subst hwb
              have e3 : q.at' = li2 := by rw [HQ2.out]; omega
              rw [e3] at HAT
              clear e3
              go_wp2_with fail
              refine HAT.out.mono ?_
              rintro e w7 ⟨rfl, rfl⟩
              go_wp2_with fail
              go_meet
              case rel => exact ⟨q, by rw [HQA.out], H6.out, HQW.out⟩
            · have e1 : decide ((li2 : Int) < (was : Int)) = false := decide_eq_false (by omega)
              have e2 : decide (li2 < was) = false := decide_eq_false hlt3
              rw [e2] at hwb
              subst hwb
              have e3 : q.at' = was := by rw [HQ2.out]; omega
              rw [e3] at HAT
              clear e3
              go_wp2_with fail
              refine HAT.out.mono ?_
              rintro e w7 ⟨rfl, rfl⟩
              go_wp2_with fail
              go_meet
              case rel => exact ⟨q, by rw [HQA.out], H6.out, HQW.out⟩
        case rest =>
          obtain ⟨s', rfl, ho', hv'⟩ := hcut
          have HO := Lib.hid ho'
          have HV := Lib.hid hv'
          clear ho' hv' HH HK
          have x0 := HZ.out _ HO.out.n
          have HT := Lib.hid (tick p g c' s' (rz k) _ HO.out.ls (HV.out.ok HRI.out ⟨by omega, by omega⟩ ⟨by omega, by omega⟩ (by omega)))
          have HF := Lib.hid (HV.out.tick (rz k))
          have HAT := Lib.hid (lad.at_ p g c' s' _ HO.out.ls)
          generalize rz k = r at *
          have hal2 := HV.out.al
          have hil2 := HV.out.il
          go_wp2_with fail
          refine HAT.out.mono ?_
          rintro e w5 ⟨rfl, rfl⟩
          clear HAT
          go_wp2_with fail
          refine HT.out.mono ?_
          rintro e w6 ⟨rfl, a6⟩
          have H6 := Lib.hid (HO.out.at_ a6)
          clear HT a6 x0 HZ
          have HAT := Lib.hid (lad.at_ p g c' _ w6 H6.out.ls)
          have HAIM := Lib.hid HF.out.1
          have HWV := Lib.hid HF.out.2.1
          have hqa := HWV.out.al
          have hqle := HWV.out.le
          have hcase := HF.out.2.2
          rw [HAIM.out] at hqle
          clear HF
          generalize tickQ s' r = q at *
          generalize tickB s' r = tb at *
          generalize hwa : s'.at' = was at *
          generalize hno : q.at' = now at *
          generalize hai : s'.aim = aim at *
          have HNM := Lib.hid (And.intro hwa (And.intro hno hai))
          clear hwa hno hai
          have e1 : decide ((now : Int) < 0) = false := decide_eq_false (by omega)
          have e2 : decide ((aim : Int) < (now : Int)) = false := decide_eq_false (by omega)
          have e3 : decide (aim < now) = false := decide_eq_false (by omega)
          have HQA : Hid (((aim : Nat) : Int) = ((q.aim : Nat) : Int)) := Lib.hid (by rw [HAIM.out])
          rcases hcase with ⟨rfl, h⟩ | ⟨rfl, h0, h⟩ | ⟨rfl, h⟩
          · subst h
            go_wp2_with fail
            refine HAT.out.mono ?_
            rintro e w7 ⟨rfl, rfl⟩
            go_wp2_with fail
            refine HAT.out.mono ?_
            rintro e w8 ⟨rfl, rfl⟩
            go_wp2_with fail
            refine HAT.out.mono ?_
            rintro e w9 ⟨rfl, rfl⟩
            go_wp2_with fail
            refine HAT.out.mono ?_
            rintro e w10 ⟨rfl, rfl⟩
            go_wp2_with fail
            refine HAT.out.mono ?_
            rintro e w11 ⟨rfl, rfl⟩
            go_wp2_with fail
            go_roundw
            case rel => exact ⟨k + 1, q, by omega, by omega, by rw [HQA.out], by go_num, H6.out, HWV.out⟩
            case measure => simp [intOf]; omega
          · skip
            have f1 : ((now : Int) != (was : Int)) = true := by simp; omega
            have f2 : decide ((1 : Int) < (now : Int) - (was : Int)) = false := decide_eq_false (by omega)
            have f3 : decide ((1 : Int) < (was : Int) - (now : Int)) = false := decide_eq_false (by omega)
            have f4 : (now != was) = true := by simp; omega
            clear h h0
            go_wp2_with fail
            refine HAT.out.mono ?_
            rintro e w7 ⟨rfl, rfl⟩
            go_wp2_with fail
            refine HAT.out.mono ?_
            rintro e w8 ⟨rfl, rfl⟩
            go_wp2_with fail
            refine HAT.out.mono ?_
            rintro e w9 ⟨rfl, rfl⟩
            go_wp2_with fail
            refine HAT.out.mono ?_
            rintro e w10 ⟨rfl, rfl⟩
            go_wp2_with fail
            refine HAT.out.mono ?_
            rintro e w11 ⟨rfl, rfl⟩
            go_wp2_with fail
            go_roundw
            case rel => exact ⟨k + 1, q, by omega, by omega, by rw [HQA.out], by go_num, H6.out, HWV.out⟩
            case measure => simp [intOf]; omega
          · skip
            have f1 : ((now : Int) != (was : Int)) = true := by simp; omega
            have f2 : decide ((1 : Int) < (now : Int) - (was : Int)) = false := decide_eq_false (by omega)
            have f3 : decide ((1 : Int) < (was : Int) - (now : Int)) = false := decide_eq_false (by omega)
            have f4 : (now != was) = true := by simp; omega
            clear h
            go_wp2_with fail
            refine HAT.out.mono ?_
            rintro e w7 ⟨rfl, rfl⟩
            go_wp2_with fail
            refine HAT.out.mono ?_
            rintro e w8 ⟨rfl, rfl⟩
            go_wp2_with fail
            refine HAT.out.mono ?_
            rintro e w9 ⟨rfl, rfl⟩
            go_wp2_with fail
            refine HAT.out.mono ?_
            rintro e w10 ⟨rfl, rfl⟩
            go_wp2_with fail
            refine HAT.out.mono ?_
            rintro e w11 ⟨rfl, rfl⟩
            go_wp2_with fail
            go_roundw
            case rel => exact ⟨k + 1, q, by omega, by omega, by rw [HQA.out], by go_num, H6.out, HWV.out⟩
            case measure => simp [intOf]; omega
    · have HB := Lib.hid HK.out
      by_cases hlt : k < rn
      · have hlt2 : ¬ k < 100 := fun h => hgo ⟨hlt, h⟩
        clear hgo
        have d1 : decide ((k : Int) < (rn : Int)) = true := decide_eq_true (by omega)
        have d2 : decide ((k : Int) < 100) = false := decide_eq_false (by omega)
        go_wp2
        go_ret
        exact ⟨rfl, HB.out.below⟩
      · clear hgo
        have d1 : decide ((k : Int) < (rn : Int)) = false := decide_eq_false (by omega)
        go_wp2
        go_ret
        exact ⟨rfl, HB.out.below⟩
end Go.Proofs.Ytjiodpbgjhoakaa.lad
