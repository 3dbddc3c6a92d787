/-
  ladder.New at what may be; 'awake' of layer 23.
-/
import Derived.Test.YtfhbcdjbfjoknaaLadNew
namespace Go.Proofs.Ytfhbcdjbfjoknaa.lad
open Go.RowKit mem
open ints (IE IT ST infoI)
set_option linter.unusedVariables false

set_option maxRecDepth 10000 in
set_option maxHeartbeats 1000000 in
theorem new_ok (a b c : Int) (most : Int) (ao : Option Addr) (cc : Nat) (N : List Int) (w : World) (hv : Vw w ao N) (hvc : Vc a b c) (hr : Rise N) :
    Calls Try.prog 11 #[.agg (cfg a b c), .int .i64 most, .slice ao N.length cc] w fun e w' => ∃ p g c', e = .returned (.tuple #[.pointer (some ⟨p, 0, none⟩), .int .i64 0]) ∧ Own w w' p g c' (fresh a b c N most) := by
  have HN : Hid (New w (w.alloc (.cells (cfg a b c) CT))) := Lib.hid ((Turns.refl _ _).alloc _)
  have HB0 : Hid (Blk (w.alloc (.cells (cfg a b c) CT)) w.heap.size (cfg a b c) CT) := Lib.hid (Blk.new _ _ _)
  obtain ⟨c0, c1, c2⟩ := three HB0.out
  have HC := Lib.hid (check a b c (w.alloc (.cells (cfg a b c) CT)))
  have HR := Lib.hid (fun W (n : New w W) => rise ao cc N W (hv.later n) (by have := hr.2.1; omega))
  have HCL := Lib.hid (fun W (n : New w W) => clone ao cc N W (hv.later n) hr.1 hr.2.1)
  have HVC := Lib.hid hvc
  have HRI := Lib.hid hr
  clear hvc hr hv
  go_enter Try.func11, Try.ntmps11
  go_wp2_with fail
  refine HC.out.mono ?_
  rintro e w1 ⟨k, rfl, hk, n1⟩
  have HN1 : Hid (New w w1) := Lib.hid (HN.out.trans (n1.mono (fun _ _ h => h.elim)))
  have HB1 := Lib.hid (n1.blk HB0.out (fun h => h))
  clear n1 c0 c1 c2 HN HC HB0
  rcases hk with ⟨_, rfl⟩ | ⟨hv, rfl⟩
  · go_wp2_with fail
    refine (HR.out _ HN1.out).mono ?_
    rintro e w2 ⟨b', rfl, hb, n2⟩
    have HN2 : Hid (New w w2) := Lib.hid (HN1.out.trans (n2.mono (fun _ _ h => h.elim)))
    have HB2 := Lib.hid (n2.blk HB1.out (fun h => h))
    cases b'
    · exact absurd (hb.2 HRI.out) (by simp)
    · obtain ⟨c0, c1, c2⟩ := three HB2.out
      clear hb n2 HB1
      obtain ⟨m, hm⟩ : ∃ m, w.heap.size = m := ⟨_, rfl⟩
      have HM := Lib.hid hm
      have hbl := HB2.out.lt
      rw [hm] at c0 c1 c2 HB2 hbl
      rw [hm]
      clear hm
      go_upto_region 6 with fail
      go_cut [9] (fun v wx => ∃ p g c', v = .pointer (some ⟨p, 0, none⟩) ∧ Own w wx p g c' ⟨a, b, c, N, 0, 0, 0, 0, 0⟩)
      case first =>
        go_region_with (go_at_call 31; (with_reducible refine Calls.mono (HCL.out _ ?_) ?_); (focus (exact HN2.out.drew)); rintro e w3 ⟨g, c', rfl, n3, hg0, hg1, hcell⟩; have HN3 : Hid (New w2 w3) := Lib.hid (Turns.of_drew n3); have HCC := Lib.hid hcell; have HGG : Hid (w2.heap.size ≤ g ∧ g < w3.heap.size) := Lib.hid ⟨hg0, hg1⟩; have hb3 := HN3.out.blk HB2.out (fun h => h); obtain ⟨z0, z1, z2⟩ := three hb3; clear n3 hg0 hg1 hcell hb3)
        all_goals
          go_wp2_with fail
          go_meet
          case rel =>
            refine ⟨_, g, c', rfl, ⟨Blk.new _ _ _, fun k hk => ?_, ?_, ?_⟩, (HN2.out.trans (HN3.out.mono (fun _ _ h => h.elim))).alloc _, ?_⟩
            · have := ((Turns.refl (fun _ => False) w3).alloc (.cells (cells ⟨a, b, c, N, 0, 0, 0, 0, 0⟩ g c') LT)).cell (a := ⟨g, k, none⟩) HGG.out.2 (fun h => h)
              refine (this.trans (HCC.out k hk)).trans ?_
              rw [nd_eq _ _ hk]
            · have := HGG.out.2; simp; omega
            · have := HGG.out.2; omega
            · have h1 := HN2.out.size
              have h2 := HN3.out.size
              omega
      case rest =>
        obtain ⟨p, g, c', rfl, ho⟩ := hcut
        have HO := Lib.hid ho
        clear ho c0 c1 c2 HB2 hbl HN2
        have HL := Lib.hid (limited p g c' _ most wc HO.out.ls HRI.out.1 HRI.out.2.1)
        dsimp only at HL
        obtain ⟨d0, d1, d2, d3, d4, d5, d6, d7, d8⟩ := nine HO.out.ls.blk
        obtain ⟨f4, f5, f6, f7, f8⟩ := frees HO.out.ls.blk
        have HA : Hid (∀ W, W = (wc.setCell ⟨p, 4, none⟩ (.int .i64 (limF N.length most : Nat))).setCell ⟨p, 5, none⟩ (.int .i64 (limF N.length most : Nat)) → At wc W p g c' (fresh a b c N most)) := Lib.hid (fun W hW => by
          subst hW
          have h1 := HO.out.ls.set (t := ⟨a, b, c, N, limF N.length most, 0, 0, 0, 0⟩) 4 (.int .i64 (limF N.length most : Nat)) rfl rfl
          exact h1.trans (h1.1.set (t := fresh a b c N most) 5 (.int .i64 (limF N.length most : Nat)) rfl rfl))
        generalize limF N.length most = li at *
        go_wp2_with fail
        refine HL.out.mono ?_
        rintro e w4 ⟨rfl, rfl⟩
        go_wp2
        go_ret2
        exact ⟨p, g, c', rfl, HO.out.at_ (HA.out _ rfl)⟩
  · exact absurd HVC.out hv


/-! ### awake -/
abbrev s0 : Q := fresh 2 3 1 [10, 50] 1
abbrev s1 : Q := tickQ s0 20
abbrev s2 : Q := tickQ s1 20
abbrev s3 : Q := tickQ s2 55
abbrev s4 : Q := tickQ s3 55
abbrev s5 : Q := tickQ s4 55
theorem aw : s0.at' = 1 ∧ tickB s0 20 = false ∧ tickB s1 20 = true ∧ s2.at' = 0 ∧ tickB s2 55 = false ∧ tickB s3 55 = false ∧ tickB s4 55 = true ∧ s5.at' = 1 := by decide +kernel
def okB (s : Q) : Bool := decide (1 ≤ s.N.length) && decide (s.N.length ≤ 3) && s.N.all (fun x => decide (0 ≤ x) && decide (x ≤ 1099511627776)) && decide (s.at' < s.N.length) && decide (s.aim < s.N.length) && decide (1 ≤ s.down) && decide (s.down ≤ 1048576) && decide (1 ≤ s.up) && decide (s.up ≤ 1048576) && decide (0 ≤ s.spare) && decide (s.spare ≤ 100) && decide (0 ≤ s.bad) && decide (s.bad ≤ 1048576) && decide (0 ≤ s.good) && decide (s.good ≤ 1048576) && decide (0 ≤ s.moves) && decide (s.moves ≤ 1048576)
theorem okB_ok {s : Q} (h : okB s = true) : s.ok := by
  simp only [okB, Bool.and_eq_true, decide_eq_true_eq, List.all_eq_true] at h
  obtain ⟨⟨⟨⟨⟨⟨⟨⟨⟨⟨⟨⟨⟨⟨⟨⟨h1, h2⟩, h3⟩, h4⟩, h5⟩, h6⟩, h7⟩, h8⟩, h9⟩, h10⟩, h11⟩, h12⟩, h13⟩, h14⟩, h15⟩, h16⟩, h17⟩ := h
  exact ⟨h1, h2, h3, h4, h5, h6, h7, h8, h9, h10, h11, h12, h13, h14, h15, h16, h17⟩
theorem rise2 : Rise [10, 50] := by
  refine ⟨by simp, by simp, ?_, by simp, by simp⟩
  intro k h1 h2 h3
  have : k = 1 := by simp at h2; omega
  subst this
  simp

set_option maxRecDepth 10000 in
set_option maxHeartbeats 1000000 in
theorem awake (w : World) :
    Calls Try.prog 9 #[] w fun e w' => e = .returned (.bool true) ∧ New w w' := by
  have HN := Lib.hid (new_ok 2 3 1 1 (some ⟨w.heap.size, 0, none⟩) 2 [10, 50] (w.alloc (.cells #[.int .i64 10, .int .i64 50] IT)) (.inr ⟨w.heap.size, 0, rfl, by simp, fun k hk => by
    have hb := Blk.new w #[.int .i64 10, .int .i64 50] IT
    have : k = 0 ∨ k = 1 := by simp at hk; omega
    rcases this with rfl | rfl
    · exact hb.cell 0
    · exact hb.cell 1⟩) (by decide) rise2)
  have HA := Lib.hid aw
  have HO1 := Lib.hid (show s0.ok from okB_ok (by decide +kernel))
  have HO2 := Lib.hid (show s1.ok from okB_ok (by decide +kernel))
  have HO3 := Lib.hid (show s2.ok from okB_ok (by decide +kernel))
  have HO4 := Lib.hid (show s3.ok from okB_ok (by decide +kernel))
  have HO5 := Lib.hid (show s4.ok from okB_ok (by decide +kernel))
  go_enter Try.func9, Try.ntmps9
  go_wp2_with fail
  refine HN.out.mono ?_
  rintro e w1 ⟨p, g, c, rfl, o1⟩
  have H1 := Lib.hid (Own.of_new ((Turns.refl _ _).alloc _) o1)
  clear HN o1
  have hc := at_ p g c s0 w1 H1.out.ls
  rw [HA.out.1] at hc
  have HC := Lib.hid hc
  clear hc
  go_wp2_with fail
  refine HC.out.mono ?_
  rintro e w2 ⟨rfl, rfl⟩
  have hc := tick p g c s0 20 w2 H1.out.ls HO1.out
  rw [HA.out.2.1] at hc
  have HC2 := Lib.hid hc
  clear hc HC
  go_wp2_with fail
  refine HC2.out.mono ?_
  rintro e w3 ⟨rfl, a3⟩
  have H3 := Lib.hid (H1.out.at_ a3)
  have hc := tick p g c s1 20 w3 H3.out.ls HO2.out
  rw [HA.out.2.2.1] at hc
  have HC3 := Lib.hid hc
  clear hc a3 HC2 H1
  go_wp2_with fail
  refine HC3.out.mono ?_
  rintro e w4 ⟨rfl, a4⟩
  have H4 := Lib.hid (H3.out.at_ a4)
  have hc := at_ p g c s2 w4 H4.out.ls
  rw [HA.out.2.2.2.1] at hc
  have HC4 := Lib.hid hc
  clear hc a4 HC3 H3
  go_wp2_with fail
  refine HC4.out.mono ?_
  rintro e w5 ⟨rfl, rfl⟩
  have hc := tick p g c s2 55 w5 H4.out.ls HO3.out
  rw [HA.out.2.2.2.2.1] at hc
  have HC5 := Lib.hid hc
  clear hc HC4
  go_wp2_with fail
  refine HC5.out.mono ?_
  rintro e w6 ⟨rfl, a6⟩
  have H6 := Lib.hid (H4.out.at_ a6)
  have hc := tick p g c s3 55 w6 H6.out.ls HO4.out
  rw [HA.out.2.2.2.2.2.1] at hc
  have HC6 := Lib.hid hc
  clear hc a6 HC5 H4
  go_wp2_with fail
  refine HC6.out.mono ?_
  rintro e w7 ⟨rfl, a7⟩
  have H7 := Lib.hid (H6.out.at_ a7)
  have hc := tick p g c s4 55 w7 H7.out.ls HO5.out
  rw [HA.out.2.2.2.2.2.2.1] at hc
  have HC7 := Lib.hid hc
  clear hc a7 HC6 H6
  go_wp2_with fail
  refine HC7.out.mono ?_
  rintro e w8 ⟨rfl, a8⟩
  have H8 := Lib.hid (H7.out.at_ a8)
  have hc := at_ p g c s5 w8 H8.out.ls
  rw [HA.out.2.2.2.2.2.2.2] at hc
  have HC8 := Lib.hid hc
  clear hc a8 HC7 H7
  go_wp2_with fail
  refine HC8.out.mono ?_
  rintro e w9 ⟨rfl, rfl⟩
  go_wp2
  go_ret
  exact ⟨rfl, H8.out.n⟩
end Go.Proofs.Ytfhbcdjbfjoknaa.lad
