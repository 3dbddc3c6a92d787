/-
  GatePaused: while it is paused.
-/
import Derived.Test.YtmnaldfknhnacaaGatAwake
import Derived.Test.YtmnaldfknhnacaaArgs
import Derived.Deep.RegionWith
namespace Go.Proofs.Ytmnaldfknhnacaa.gat
open Go.RowKit mem
set_option linter.unusedVariables false

def gp (v : Bool) : G := ⟨v, 0, false, 0, true, 1, 0⟩
def gq (v : Bool) : G := ⟨v, 0, false, 0, false, 1, 0⟩
def gr (v : Bool) : G := ⟨v, 0, true, 0, false, 1, 0⟩
theorem gp_ok (v : Bool) : (gp v).ok := ok_mk (by decide) (by decide) (by decide) (by decide) (by decide) (by decide)
theorem gq_ok (v : Bool) : (gq v).ok := ok_mk (by decide) (by decide) (by decide) (by decide) (by decide) (by decide)
theorem gr_ok (v : Bool) : (gr v).ok := ok_mk (by decide) (by decide) (by decide) (by decide) (by decide) (by decide)
theorem Gt.drew {w : World} {p : Nat} {g : G} (h : Gt w p g) : Gt w.drew p g := h
theorem gp_pass (v : Bool) (l : Int) (k : Bool) : passG (gp v) l k = gp v ∧ passB (gp v) l k = false := ⟨rfl, rfl⟩
theorem pause_is (p : Nat) (g : G) (on : Bool) (t : G) (ht : pauseG g on = t) (w : World) (h : Gt w p g) (ho : g.ok) :
    Calls Try.prog 17 #[.pointer (some ⟨p, 0, none⟩), .bool on] w fun e w' => e = .returned (.tuple #[]) ∧ At w w' p t := by
  subst ht
  exact pause p g on w h ho

set_option maxHeartbeats 1000000 in
set_option maxRecDepth 100000 in
theorem paused_law (v : Bool) (a : Option Addr) (n c : Nat) (z : Nat → Int) (w : World) (hz : args.IntRow .i64 w a n c z) :
    Calls Try.prog 6 #[.bool v, .slice a n c] w fun e w' => e = .returned (.bool true) ∧ Below w.heap.size w w' := by
  obtain ⟨hn, hwf, hcell⟩ := hz
  unfold maxLen at hn
  clear hwf
  have HC := Lib.hid hcell
  clear hcell
  have HN := Lib.hid (fun w => new v 0 w)
  go_enter Try.func6, Try.ntmps6
  go_wp2_with fail
  refine (awake w).mono ?_
  rintro e w1 ⟨rfl, h1⟩
  have N1 := Lib.hid h1
  clear h1
  go_wp2_with fail
  refine (HN.out _).mono ?_
  rintro e w2 ⟨rfl, h2, n2⟩
  have hle : w.heap.size ≤ w1.heap.size := N1.out.size
  have N2 : Hid (New w w2) := Lib.hid (N1.out.trans (n2.mono (fun _ _ h => h.elim)))
  have h2' : Gt w2 w1.heap.size ⟨v, 0, false, 0, false, 0, 0⟩ := h2
  have o2 : (⟨v, 0, false, 0, false, 0, 0⟩ : G).ok := ok_mk (by decide) (by decide) (by decide) (by decide) (by decide) (by decide)
  clear n2 HN h2
  generalize w1.heap.size = p at *
  clear N1
  have e1 : passG ⟨v, 0, false, 0, false, 0, 0⟩ 0 true = ⟨v, 0, true, 0, false, 0, 0⟩ ∧ passB ⟨v, 0, false, 0, false, 0, 0⟩ 0 true = true := by cases v <;> exact ⟨rfl, rfl⟩
  have o3 : (⟨v, 0, true, 0, false, 0, 0⟩ : G).ok := ok_mk (by decide) (by decide) (by decide) (by decide) (by decide) (by decide)
  go_wp2_with fail
  refine (pass_is p _ 0 true _ _ e1 _ h2' o2).mono ?_
  rintro e w3 ⟨rfl, h3⟩
  have N3 := Lib.hid (new_at N2.out h3 hle)
  clear h2' N2 e1 o2
  go_wp2_with fail
  refine (pause_is p _ true (gp v) rfl _ h3.1 o3).mono ?_
  rintro e w4 ⟨rfl, h4⟩
  have N4 := Lib.hid (new_at N3.out h4 hle)
  have H4 := Lib.hid h4.1
  clear h3 N3 o3 h4
  go_wp2_with fail
  go_loopw [6] (fun i wr => ∃ k : Nat, k ≤ n ∧ k ≤ 40 ∧ i = .int .i64 k ∧ Gt wr p (gp v) ∧ New w wr) (fun i _ => n - (intOf i).toNat)
  case atStart => exact ⟨0, Nat.zero_le _, by omega, rfl, H4.out, N4.out⟩
  case round =>
    obtain ⟨k, hk, hk40, rfl, hg, hnw⟩ := hrel
    clear H4 N4
    by_cases hgo : k < n ∧ k < 40
    · obtain ⟨hlt, hlt2⟩ := hgo
      obtain ⟨b, off, rfl, hb, hcell⟩ := HC.out.resolve_left (by omega)
      have hck := hcell k hlt
      have hck1 : wr.cell? ⟨b, off + k, none⟩ = some (.int .i64 (z k)) := (hnw.cell hb (fun h => h)).trans hck
      have m1 := mask.mask1 (z k)
      obtain ⟨kb, hkb⟩ : ∃ kb, kb = decide (0 < bits .and .i64 (z k) 2) := ⟨_, rfl⟩
      clear hcell HC hck
      have HP := Lib.hid (fun l kb w h => pass_is p (gp v) l kb (gp v) false (gp_pass v l kb) w h (gp_ok v))
      have HNW := Lib.hid hnw
      have HG := Lib.hid hg
      have hnb : needsB (gp v) = false := by cases v <;> rfl
      clear hnw hg
      have HD := Lib.hid (fun w h => needs p (gp v) w h)
      rw [hnb] at HD
      clear hnb
      have k0 : (0 : Int) ≤ (k : Int) := by omega
      have kn : (k : Int) < (n : Int) := by omega
      generalize z k = zk at *
      go_wp2_with fail
      go_region_with (go_at_call 13; (with_reducible refine (HP.out _ _ _ (by first | exact HG.out | exact HG.out.drew)).mono ?_); rintro e w5 ⟨rfl, h5⟩)
      all_goals
        have N5 : Hid (New w w5) := Lib.hid (by first | exact new_at HNW.out h5 hle | exact new_at HNW.out.drew h5 hle)
        have H5 := Lib.hid h5.1
        clear h5
        go_wp2_with fail
        refine (HD.out _ H5.out).mono ?_
        rintro e w6 ⟨rfl, rfl⟩
        go_wp2
        go_roundw
        case rel => exact ⟨k + 1, by omega, by omega, by go_num, H5.out, N5.out⟩
        case measure => simp [intOf]; omega
    · have HP := Lib.hid (pause_is p (gp v) false (gq v) rfl wr hg (gp_ok v))
      have HNW := Lib.hid hnw
      clear hg hnw HC
      by_cases hlt : k < n
      · have hlt2 : ¬ k < 40 := by omega
        cases v
        · go_wp2_with fail
          refine HP.out.mono ?_
          rintro e w5 ⟨rfl, h5⟩
          have N5 := Lib.hid (new_at HNW.out h5 hle)
          have HD := Lib.hid (needs p (gq false) w5 h5.1)
          have HP2 := Lib.hid (pass_is p (gq false) 0 false (gr false) true ⟨rfl, rfl⟩ w5 h5.1 (gq_ok false))
          clear HNW HP h5
          rw [show needsB (gq false) = false from rfl] at HD
          go_wp2_with fail
          refine HD.out.mono ?_
          rintro e w6 ⟨rfl, rfl⟩
          go_wp2_with fail
          refine HP2.out.mono ?_
          rintro e w6 ⟨rfl, h6⟩
          have N6 := Lib.hid (new_at N5.out h6 hle)
          have HP3 := Lib.hid (pass_is p (gr false) 0 true (gr false) true ⟨rfl, rfl⟩ w6 h6.1 (gr_ok false))
          clear h6 N5 HP2 HD
          go_wp2_with fail
          refine HP3.out.mono ?_
          rintro e w7 ⟨rfl, h7⟩
          have N7 := Lib.hid (new_at N6.out h7 hle)
          clear h7 HP3 N6
          go_wp2
          go_ret
          exact ⟨rfl, N7.out.below (Nat.le_refl _) (fun _ _ h => h.elim)⟩
        · go_wp2_with fail
          refine HP.out.mono ?_
          rintro e w5 ⟨rfl, h5⟩
          have N5 := Lib.hid (new_at HNW.out h5 hle)
          have HD := Lib.hid (needs p (gq true) w5 h5.1)
          have HP2 := Lib.hid (pass_is p (gq true) 0 false (gq true) false ⟨rfl, rfl⟩ w5 h5.1 (gq_ok true))
          clear HNW HP h5
          rw [show needsB (gq true) = true from rfl] at HD
          go_wp2_with fail
          refine HD.out.mono ?_
          rintro e w6 ⟨rfl, rfl⟩
          go_wp2_with fail
          refine HP2.out.mono ?_
          rintro e w6 ⟨rfl, h6⟩
          have N6 := Lib.hid (new_at N5.out h6 hle)
          have HP3 := Lib.hid (pass_is p (gq true) 0 true (gr true) true ⟨rfl, rfl⟩ w6 h6.1 (gq_ok true))
          clear h6 N5 HP2 HD
          go_wp2_with fail
          refine HP3.out.mono ?_
          rintro e w7 ⟨rfl, h7⟩
          have N7 := Lib.hid (new_at N6.out h7 hle)
          clear h7 HP3 N6
          go_wp2
          go_ret
          exact ⟨rfl, N7.out.below (Nat.le_refl _) (fun _ _ h => h.elim)⟩
      · cases v
        · go_wp2_with fail
          refine HP.out.mono ?_
          rintro e w5 ⟨rfl, h5⟩
          have N5 := Lib.hid (new_at HNW.out h5 hle)
          have HD := Lib.hid (needs p (gq false) w5 h5.1)
          have HP2 := Lib.hid (pass_is p (gq false) 0 false (gr false) true ⟨rfl, rfl⟩ w5 h5.1 (gq_ok false))
          clear HNW HP h5
          rw [show needsB (gq false) = false from rfl] at HD
          go_wp2_with fail
          refine HD.out.mono ?_
          rintro e w6 ⟨rfl, rfl⟩
          go_wp2_with fail
          refine HP2.out.mono ?_
          rintro e w6 ⟨rfl, h6⟩
          have N6 := Lib.hid (new_at N5.out h6 hle)
          have HP3 := Lib.hid (pass_is p (gr false) 0 true (gr false) true ⟨rfl, rfl⟩ w6 h6.1 (gr_ok false))
          clear h6 N5 HP2 HD
          go_wp2_with fail
          refine HP3.out.mono ?_
          rintro e w7 ⟨rfl, h7⟩
          have N7 := Lib.hid (new_at N6.out h7 hle)
          clear h7 HP3 N6
          go_wp2
          go_ret
          exact ⟨rfl, N7.out.below (Nat.le_refl _) (fun _ _ h => h.elim)⟩
        · go_wp2_with fail
          refine HP.out.mono ?_
          rintro e w5 ⟨rfl, h5⟩
          have N5 := Lib.hid (new_at HNW.out h5 hle)
          have HD := Lib.hid (needs p (gq true) w5 h5.1)
          have HP2 := Lib.hid (pass_is p (gq true) 0 false (gq true) false ⟨rfl, rfl⟩ w5 h5.1 (gq_ok true))
          clear HNW HP h5
          rw [show needsB (gq true) = true from rfl] at HD
          go_wp2_with fail
          refine HD.out.mono ?_
          rintro e w6 ⟨rfl, rfl⟩
          go_wp2_with fail
          refine HP2.out.mono ?_
          rintro e w6 ⟨rfl, h6⟩
          have N6 := Lib.hid (new_at N5.out h6 hle)
          have HP3 := Lib.hid (pass_is p (gq true) 0 true (gr true) true ⟨rfl, rfl⟩ w6 h6.1 (gq_ok true))
          clear h6 N5 HP2 HD
          go_wp2_with fail
          refine HP3.out.mono ?_
          rintro e w7 ⟨rfl, h7⟩
          have N7 := Lib.hid (new_at N6.out h7 hle)
          clear h7 HP3 N6
          go_wp2
          go_ret
          exact ⟨rfl, N7.out.below (Nat.le_refl _) (fun _ _ h => h.elim)⟩
end Go.Proofs.Ytmnaldfknhnacaa.gat
