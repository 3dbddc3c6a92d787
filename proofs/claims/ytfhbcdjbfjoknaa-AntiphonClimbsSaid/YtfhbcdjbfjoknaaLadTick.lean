/-
  ladder.Ladder: Want, Tick.
-/
import Derived.Test.YtfhbcdjbfjoknaaLadSeq
namespace Go.Proofs.Ytfhbcdjbfjoknaa.lad
open Go.RowKit mem
open ints (IE IT ST infoI)
set_option linter.unusedVariables false

def aimQ (s : Q) (x : Int) : Q := { s with aim := limF s.N.length x }
def wantB (s : Q) (x : Int) : Bool := decide (limF s.N.length x < s.at')
def wantQ (s : Q) (x : Int) : Q := if wantB s x = true then stepQ (aimQ s x) (limF s.N.length x) else aimQ s x
set_option maxHeartbeats 1000000 in
theorem want (p g c : Nat) (s : Q) (x : Int) (w : World) (h : Ls w p g c s) (ho : s.ok) :
    Calls Try.prog 16 #[.pointer (some ⟨p, 0, none⟩), .int .i64 x] w fun e w' => e = .returned (.bool (wantB s x)) ∧ At w w' p g c (wantQ s x) := by
  obtain ⟨c0, c1, c2, c3, c4, c5, c6, c7, c8⟩ := nine h.blk
  obtain ⟨f4, f5, f6, f7, f8⟩ := frees h.blk
  have hn3 := ho.n3
  have hal := ho.al
  have HL := Lib.hid (fun W (n : New w W) => limited p g c s x W (h.later n) ho.n1 ho.n3)
  have HB : Hid (wantB s x = decide (limF s.N.length x < s.at') ∧ wantQ s x = if wantB s x = true then stepQ (aimQ s x) (limF s.N.length x) else aimQ s x) := Lib.hid ⟨rfl, rfl⟩
  have hlt := limF_lt ho.n1 x
  have HA1 : Hid (At w (w.setCell ⟨p, 4, none⟩ (.int .i64 (limF s.N.length x : Nat))) p g c (aimQ s x)) := Lib.hid (h.set (t := aimQ s x) 4 _ rfl rfl)
  have HS := Lib.hid (fun W (hW : Ls W p g c (aimQ s x)) => step p g c (aimQ s x) (limF s.N.length x) W hW ho.m0 ho.m1)
  clear h ho
  have HLI : Hid ((aimQ s x).aim = limF s.N.length x) := Lib.hid rfl
  generalize limF s.N.length x = li at *
  go_enter Try.func16, Try.ntmps16
  go_wp2_with fail
  refine (HL.out _ (Turns.refl _ _)).mono ?_
  rintro e w1 ⟨rfl, rfl⟩
  go_upto_region 2 with fail
  refine (show Code.wp _ _ _ _ (w1.setCell ⟨p, 4, none⟩ (.int .i64 (li : Nat))) from ?_)
  clear c0 c1 c2 c3 c4 c5 c6 c7 c8 f4 f5 f6 f7 f8 HL
  generalize w1.setCell ⟨p, 4, none⟩ (.int .i64 (li : Nat)) = w2 at *
  have c4 : w2.cell? ⟨p, 4, none⟩ = some (.int .i64 (li : Nat)) := by
    have := HA1.out.1.blk.cell 4
    rw [this]
    show some (Value.int .i64 ((aimQ s x).aim : Int)) = _
    rw [HLI.out]
  have c5 : w2.cell? ⟨p, 5, none⟩ = some (.int .i64 (s.at' : Nat)) := HA1.out.1.blk.cell 5
  by_cases hle : (s.at' : Int) ≤ (li : Int)
  · have d1 : decide ((s.at' : Int) ≤ (li : Int)) = true := decide_eq_true hle
    have HE : Hid (wantB s x = false ∧ wantQ s x = aimQ s x) := Lib.hid (by
      have : wantB s x = false := by rw [HB.out.1]; exact decide_eq_false (by omega)
      exact ⟨this, by rw [HB.out.2, this]; rfl⟩)
    go_wp2
    go_region
    all_goals
      go_wp2
      go_ret
      exact ⟨by rw [HE.out.1]; rfl, by rw [HE.out.2]; repeat (first | exact HA1.out | refine At.drew ?_)⟩
  · have d1 : decide ((s.at' : Int) ≤ (li : Int)) = false := decide_eq_false hle
    have HE : Hid (wantB s x = true ∧ wantQ s x = stepQ (aimQ s x) li) := Lib.hid (by
      have : wantB s x = true := by rw [HB.out.1]; exact decide_eq_true (by omega)
      exact ⟨this, by rw [HB.out.2, this]; rfl⟩)
    go_wp2
    go_region
    all_goals
      go_wp2_with fail
      refine (HS.out _ (HA1.out.1.later (by repeat (first | exact Turns.refl _ _ | refine Turns.drew ?_)))).mono ?_
      rintro e w3 ⟨rfl, h3⟩
      go_wp2
      go_ret
      exact ⟨by rw [HE.out.1]; rfl, by rw [HE.out.2]; exact HA1.out.trans (h3.of_drew)⟩

def badB (s : Q) (r : Int) : Bool := decide (0 < s.at') && decide (r < nd s s.at')
def goodB (s : Q) (r : Int) : Bool := decide (s.at' < s.aim) && decide (ampleF s (s.at' + 1) ≤ r)
def tickB (s : Q) (r : Int) : Bool :=
  if badB s r = true then decide (s.down ≤ s.bad + 1) else if goodB s r = true then decide (s.up ≤ s.good + 1) else false
def tickQ (s : Q) (r : Int) : Q :=
  if badB s r = true then (if s.down ≤ s.bad + 1 then stepQ s (s.at' - 1) else { s with bad := s.bad + 1, good := 0 })
  else if goodB s r = true then (if s.up ≤ s.good + 1 then stepQ s (s.at' + 1) else { s with bad := 0, good := s.good + 1 })
  else { s with bad := 0, good := 0 }

set_option maxHeartbeats 2000000 in
set_option maxRecDepth 10000 in
theorem tick (p g c : Nat) (s : Q) (r : Int) (w : World) (h : Ls w p g c s) (ho : s.ok) :
    Calls Try.prog 12 #[.pointer (some ⟨p, 0, none⟩), .int .i64 r] w fun e w' => e = .returned (.bool (tickB s r)) ∧ At w w' p g c (tickQ s r) := by
  have HLS := Lib.hid h
  have HOK := Lib.hid ho
  obtain ⟨c0, c1, c2, c3, c4, c5, c6, c7, c8⟩ := nine h.blk
  have hrow := h.row s.at' ho.al
  have hatI : (s.at' : Int) < (s.N.length : Int) := by have := ho.al; omega
  have hat0 : (0 : Int) ≤ (s.at' : Int) := by omega
  have hn3 := ho.n3
  clear h ho
  have HBB : Hid (badB s r = (decide ((0 : Int) < (s.at' : Int)) && decide (r < nd s s.at'))) := Lib.hid (by unfold badB; congr 1; exact decide_eq_decide.2 (by omega))
  go_enter Try.func12, Try.ntmps12
  go_upto_region 2 with fail
  generalize nd s s.at' = nx at *
  go_cut [11] (fun v wx => v = .bool (badB s r) ∧ New w wx)
  case first =>
    by_cases ha : (0 : Int) < (s.at' : Int)
    · have d1 : decide ((0 : Int) < (s.at' : Int)) = true := decide_eq_true ha
      have d2 : decide (0 < s.at') = true := decide_eq_true (by omega)
      rw [d1] at HBB
      go_region
      all_goals
        go_wp2_with fail
        go_meet
        case rel => exact ⟨by rw [HBB.out]; rfl, (Turns.refl _ _).drew⟩
    · have d1 : decide ((0 : Int) < (s.at' : Int)) = false := decide_eq_false ha
      have d2 : decide (0 < s.at') = false := decide_eq_false (by omega)
      rw [d1] at HBB
      go_region
      all_goals
        go_wp2_with fail
        go_meet
        case rel => exact ⟨by rw [HBB.out]; rfl, (Turns.refl _ _).drew⟩
  case rest =>
    obtain ⟨rfl, nw⟩ := hcut
    have HL1 := Lib.hid (HLS.out.later nw)
    have HNW := Lib.hid nw
    clear c0 c1 c2 c3 c4 c5 c6 c7 c8 hrow nw HBB
    obtain ⟨c0, c1, c2, c3, c4, c5, c6, c7, c8⟩ := nine HL1.out.blk
    obtain ⟨f4, f5, f6, f7, f8⟩ := frees HL1.out.blk
    have hb0 := HOK.out.b0
    have hb1 := HOK.out.b1
    have hg0 := HOK.out.g0
    have hg1 := HOK.out.g1
    have hd1 := HOK.out.d1
    have hu1 := HOK.out.u1
    cases hbad : badB s r
    · have HAM := Lib.hid (fun W (n : New wc W) (hi : s.at' + 1 < s.N.length) => ample p g c s (s.at' + 1) W (HL1.out.later n) HOK.out hi)
      have HGG : Hid (goodB s r = (decide ((s.at' : Int) < (s.aim : Int)) && decide (ampleF s (s.at' + 1) ≤ r))) := Lib.hid (by unfold goodB; congr 1; exact decide_eq_decide.2 (by omega))
      have hil := HOK.out.il
      go_upto_region 7 with fail
      go_cut [59] (fun v wx => v = .bool (goodB s r) ∧ New wc wx)
      case first =>
        by_cases ha : (s.at' : Int) < (s.aim : Int)
        · have d1 : decide ((s.at' : Int) < (s.aim : Int)) = true := decide_eq_true ha
          have d2 : decide (s.at' < s.aim) = true := decide_eq_true (by omega)
          have HAM2 := Lib.hid (fun nq => HAM.out (wc.drewN nq) ((Turns.refl _ _).drewN nq) (by omega))
          rw [show ((s.at' + 1 : Nat) : Int) = (s.at' : Int) + 1 by omega] at HAM2
          rw [d1] at HGG
          have s1 : IntKind.i64.wrap ((s.at' : Int) + 1) = (s.at' : Int) + 1 := IntWalk.i64_in _ (by have := HOK.out.al; omega)
          generalize ampleF s (s.at' + 1) = am at *
          go_quiet ((go_at_call 34; exact Calls.quiet_of_same (HAM2.out _)))
          go_wp2_with fail
          go_meet
          case rel => exact ⟨by rw [HGG.out]; rfl, (Turns.refl _ _).drewN _⟩
        · have d1 : decide ((s.at' : Int) < (s.aim : Int)) = false := decide_eq_false ha
          have d2 : decide (s.at' < s.aim) = false := decide_eq_false (by omega)
          rw [d1] at HGG
          go_quiet (fail)
          go_wp2_with fail
          go_meet
          case rel => exact ⟨by rw [HGG.out]; rfl, (Turns.refl _ _).drewN _⟩
      case rest =>
        obtain ⟨rfl, nw⟩ := hcut
        have HL2 := Lib.hid (HL1.out.later nw)
        have HNW2 := Lib.hid (HNW.out.trans (nw.mono (fun _ _ h => h.elim)))
        clear c0 c1 c2 c3 c4 c5 c6 c7 c8 f4 f5 f6 f7 f8 nw HGG HAM
        obtain ⟨c0, c1, c2, c3, c4, c5, c6, c7, c8⟩ := nine HL2.out.blk
        obtain ⟨f4, f5, f6, f7, f8⟩ := frees HL2.out.blk
        cases hgood : goodB s r
        · have HQ : Hid (tickB s r = false ∧ tickQ s r = { s with bad := 0, good := 0 }) := Lib.hid (by simp [tickB, tickQ, hbad, hgood])
          have HB : ∀ W, W = ((wc.setCell ⟨p, 6, none⟩ (.int .i64 0)).setCell ⟨p, 7, none⟩ (.int .i64 0)) → At wc W p g c { s with bad := 0, good := 0 } := fun W hW => by
            subst hW
            have h1 := HL2.out.set (t := { s with bad := 0 }) 6 (.int .i64 0) rfl rfl
            exact h1.trans (h1.1.set (t := { s with bad := 0, good := 0 }) 7 (.int .i64 0) rfl rfl)
          have HBB := Lib.hid HB
          clear HB hgood hbad
          go_wp2
          go_ret
          exact ⟨by rw [HQ.out.1]; rfl, by rw [HQ.out.2]; exact At.of_new HNW2.out (HBB.out _ rfl)⟩
        · have HQ : Hid (tickB s r = decide (s.up ≤ s.good + 1) ∧ tickQ s r = if s.up ≤ s.good + 1 then stepQ s (s.at' + 1) else { s with bad := 0, good := s.good + 1 }) := Lib.hid (by simp [tickB, tickQ, hbad, hgood])
          have HA3 : Hid (At wc ((wc.setCell ⟨p, 6, none⟩ (.int .i64 0)).setCell ⟨p, 7, none⟩ (.int .i64 (s.good + 1))) p g c { s with bad := 0, good := s.good + 1 }) := Lib.hid (by
            have h1 := HL2.out.set (t := { s with bad := 0 }) 6 (.int .i64 0) rfl rfl
            exact h1.trans (h1.1.set (t := { s with bad := 0, good := s.good + 1 }) 7 (.int .i64 (s.good + 1)) rfl rfl))
          clear hgood hbad
          go_upto_region 9 with fail
          refine (show Code.wp _ _ _ _ ((wc.setCell ⟨p, 6, none⟩ (.int .i64 0)).setCell ⟨p, 7, none⟩ (.int .i64 (s.good + 1))) from ?_)
          clear c0 c1 c2 c3 c4 c5 c6 c7 c8 f4 f5 f6 f7 f8
          generalize (wc.setCell ⟨p, 6, none⟩ (.int .i64 0)).setCell ⟨p, 7, none⟩ (.int .i64 (s.good + 1)) = w2 at *
          obtain ⟨c0, c1, c2, c3, c4, c5, c6, c7, c8⟩ := nine HA3.out.1.blk
          clear c0 c2 c3 c4 c6 c8
          by_cases hup : s.up ≤ s.good + 1
          · have d1 : decide (s.up ≤ s.good + 1) = true := decide_eq_true hup
            rw [d1, if_pos hup] at HQ
            have HS := Lib.hid (fun W (hW : Ls W p g c { s with bad := 0, good := s.good + 1 }) => step p g c { s with bad := 0, good := s.good + 1 } (s.at' + 1) W hW HOK.out.m0 HOK.out.m1)
            rw [show ((s.at' + 1 : Nat) : Int) = (s.at' : Int) + 1 by omega] at HS
            go_region
            all_goals
              go_wp2_with fail
              refine (HS.out _ (HA3.out.1.later (by repeat (first | exact Turns.refl _ _ | refine Turns.drew ?_)))).mono ?_
              rintro e w3 ⟨rfl, h3⟩
              go_wp2
              go_ret
              exact ⟨by rw [HQ.out.1]; rfl, by rw [HQ.out.2]; exact At.of_new HNW2.out (HA3.out.trans h3.of_drew)⟩
          · have d1 : decide (s.up ≤ s.good + 1) = false := decide_eq_false hup
            rw [d1, if_neg hup] at HQ
            go_region
            all_goals
              go_wp2
              go_ret
              exact ⟨by rw [HQ.out.1]; rfl, by rw [HQ.out.2]; exact At.of_new HNW2.out (by repeat (first | exact HA3.out | refine At.drew ?_))⟩
    · have hap : 0 < s.at' := by
        unfold badB at hbad
        simp at hbad
        exact hbad.1
      have HQ : Hid (tickB s r = decide (s.down ≤ s.bad + 1) ∧ tickQ s r = if s.down ≤ s.bad + 1 then stepQ s (s.at' - 1) else { s with bad := s.bad + 1, good := 0 }) := Lib.hid (by simp [tickB, tickQ, hbad])
      have HA3 : Hid (At wc ((wc.setCell ⟨p, 6, none⟩ (.int .i64 (s.bad + 1))).setCell ⟨p, 7, none⟩ (.int .i64 0)) p g c { s with bad := s.bad + 1, good := 0 }) := Lib.hid (by
        have h1 := HL1.out.set (t := { s with bad := s.bad + 1 }) 6 (.int .i64 (s.bad + 1)) rfl rfl
        exact h1.trans (h1.1.set (t := { s with bad := s.bad + 1, good := 0 }) 7 (.int .i64 0) rfl rfl))
      clear hbad
      go_upto_region 4 with fail
      refine (show Code.wp _ _ _ _ ((wc.setCell ⟨p, 6, none⟩ (.int .i64 (s.bad + 1))).setCell ⟨p, 7, none⟩ (.int .i64 0)) from ?_)
      clear c0 c1 c2 c3 c4 c5 c6 c7 c8 f4 f5 f6 f7 f8
      generalize (wc.setCell ⟨p, 6, none⟩ (.int .i64 (s.bad + 1))).setCell ⟨p, 7, none⟩ (.int .i64 0) = w2 at *
      obtain ⟨c0, c1, c2, c3, c4, c5, c6, c7, c8⟩ := nine HA3.out.1.blk
      clear c1 c2 c3 c4 c7 c8
      by_cases hdn : s.down ≤ s.bad + 1
      · have d1 : decide (s.down ≤ s.bad + 1) = true := decide_eq_true hdn
        rw [d1, if_pos hdn] at HQ
        have HS := Lib.hid (fun W (hW : Ls W p g c { s with bad := s.bad + 1, good := 0 }) => step p g c { s with bad := s.bad + 1, good := 0 } (s.at' - 1) W hW HOK.out.m0 HOK.out.m1)
        rw [show ((s.at' - 1 : Nat) : Int) = (s.at' : Int) - 1 by omega] at HS
        go_region
        all_goals
          go_wp2_with fail
          refine (HS.out _ (HA3.out.1.later (by repeat (first | exact Turns.refl _ _ | refine Turns.drew ?_)))).mono ?_
          rintro e w3 ⟨rfl, h3⟩
          go_wp2
          go_ret
          exact ⟨by rw [HQ.out.1]; rfl, by rw [HQ.out.2]; exact At.of_new HNW.out (HA3.out.trans h3.of_drew)⟩
      · have d1 : decide (s.down ≤ s.bad + 1) = false := decide_eq_false hdn
        rw [d1, if_neg hdn] at HQ
        go_region
        all_goals
          go_wp2
          go_ret
          exact ⟨by rw [HQ.out.1]; rfl, by rw [HQ.out.2]; exact At.of_new HNW.out (by repeat (first | exact HA3.out | refine At.drew ?_))⟩
end Go.Proofs.Ytfhbcdjbfjoknaa.lad
