/-
  The reference of layer 23: tail, where the rates are too small. Written by wip/tools/gen_tail.py.
-/
import Derived.Test.YtfhbcdjbfjoknaaLadTail
namespace Go.Proofs.Ytfhbcdjbfjoknaa.lad
open Go.RowKit mem
open ints (IE IT ST infoI)
set_option linter.unusedVariables false

set_option maxRecDepth 10000 in
set_option maxHeartbeats 12000000 in
theorem rtail_false (d u sp most mv : Int) (ao : Option Addr) (cc at' : Nat) (N R : List Int) (ra : Option Addr) (rc : Nat) (w : World) (hv : Vw w ao N) (hat : at' < N.length) (hm : most < N.length) (hl : N.length ≤ 1048576) (hb : ∀ x ∈ N, 0 ≤ x ∧ x ≤ 1099511627776) (s0 : 0 ≤ sp) (s1 : sp ≤ 100)
    (len : Nat) (hlr : R.length = len) (hr : Sub IE 0 w (.slice ra len rc) R) (hR : len ≤ 1000) :
    Calls Try.prog 35 #[.agg (rl d u sp (.slice ao N.length cc) at' most mv (.slice ra len rc)), .bool false] w fun e w' => e = .returned (.int .i64 (tailF (rbadB N at') R)) ∧ New w w' := by
  have HG := Lib.hid (fun (y : Int) W (n : New w W) => rbad d u sp most mv y ao cc at' N (.slice ra len rc) W (hv.later n) hat hl)
  have HBK : Hid (Blk (w.alloc (.cells (rl d u sp (.slice ao N.length cc) at' most mv (.slice ra len rc)) RL)) w.heap.size (rl d u sp (.slice ao N.length cc) at' most mv (.slice ra len rc)) RL) := Lib.hid (Blk.new _ _ _)
  have HN : Hid (New w (w.alloc (.cells (rl d u sp (.slice ao N.length cc) at' most mv (.slice ra len rc)) RL))) := Lib.hid ((Turns.refl _ _).alloc _)
  have HRW : Hid (∀ m x, R[m]? = some x → ∃ g o, ra = some ⟨g, o, none⟩ ∧ ∀ W, New w W → W.cell? ⟨g, o + m, none⟩ = some (.int .i64 x)) := Lib.hid (fun m x h => by
    obtain ⟨h1, rfl⟩ := List.getElem?_eq_some_iff.1 h
    obtain ⟨g, o, c, hv, _, _, hg, hc⟩ := ints.Sub.at_ hr (by intro e; simp [e] at h1)
    injection hv with e _ _
    exact ⟨g, o, e, fun W n => (n.cell (a := ⟨g, o + m, none⟩) hg (fun h => h)).trans (hc m h1)⟩)
  clear hv hat hm hl hb s0 s1 hr
  have HLR := Lib.hid hlr
  clear hlr
  have W0 : IntKind.i64.wrap ((len : Int) - 1) = (len : Int) - 1 := IntWalk.i64_in _ (by omega)
  go_enter Try.func35, Try.ntmps35
  go_upto_region 1 with fail
  refine (show Code.wp _ _ _ _ (w.alloc (.cells (rl d u sp (.slice ao N.length cc) at' most mv (.slice ra len rc)) RL)) from ?_)
  generalize w.alloc (.cells (rl d u sp (.slice ao N.length cc) at' most mv (.slice ra len rc)) RL) = w1 at *
  generalize w.heap.size = pb at *
  obtain ⟨c0, c1, c2, c3, c4, c5, c6, c7⟩ := eight HBK.out
  go_wp2_with fail
  clear c0 c1 c2 c3 c4 c5 c6 c7
  go_loopw [5, 6] (fun nv iv wr => ∃ j m : Nat, j + m = len ∧ nv = .int .i64 j ∧ iv = .int .i64 ((m : Int) - 1) ∧ tailF (rbadB N at') R = j + tailF (rbadB N at') (R.take m) ∧ New w wr ∧ Blk wr pb (rl d u sp (.slice ao N.length cc) at' most mv (.slice ra len rc)) RL) (fun _ iv _ => (intOf iv + 1).toNat)
  case atStart => exact ⟨0, len, by omega, rfl, rfl, by rw [← HLR.out, List.take_length]; omega, HN.out, HBK.out⟩
  case round =>
    obtain ⟨j, m1, hjm, rfl, rfl, htl, hn, hbk⟩ := hrel
    have HN2 := Lib.hid hn
    have HB2 := Lib.hid hbk
    have HTL := Lib.hid htl
    clear htl hn hbk HN HBK
    by_cases hm0 : m1 = 0
    · subst hm0
      have hj : j = len := by omega
      have HTE : Hid (tailF (rbadB N at') R = j) := Lib.hid (by rw [HTL.out]; rfl)
      clear hj hjm
      go_wp2_with fail
      go_ret
      exact ⟨by rw [HTE.out]; rfl, HN2.out⟩
    · obtain ⟨m, rfl⟩ : ∃ m, m1 = m + 1 := ⟨m1 - 1, by omega⟩
      have hml : m < len := by omega
      obtain ⟨y, hy⟩ : ∃ y, R[m]? = some y := ⟨_, List.getElem?_eq_getElem (by rw [HLR.out]; exact hml)⟩
      obtain ⟨gr, og, rfl, hcell⟩ := HRW.out m y hy
      have x0 := hcell _ HN2.out
      have HTT := Lib.hid (tailF_take (rbadB N at') R m y hy)
      have HG := Lib.hid (fun W (n : New wr W) => HG.out y W (new_tr HN2.out n))
      obtain ⟨c0, c1, c2, c3, c4, c5, c6, c7⟩ := eight HB2.out
      have i0 : (0 : Int) ≤ (m : Int) := by omega
      have i1 : (m : Int) < (len : Int) := by omega
      have em : ((m + 1 : Nat) : Int) - 1 = (m : Int) := by omega
      rw [em]
      have W1 : IntKind.i64.wrap ((j : Int) + 1) = ((j + 1 : Nat) : Int) := by rw [IntWalk.i64_in _ (by omega)]; omega
      have W2 : IntKind.i64.wrap ((m : Int) - 1) = (m : Int) - 1 := IntWalk.i64_in _ (by omega)
      have d1 : decide ((0 : Int) ≤ (m : Int)) = true := decide_eq_true i0
      clear hcell hm0 em hy
      cases hyy : (rbadB N at' y)
      · rw [hyy] at HG HTT
        clear hyy
        have HTE : Hid (tailF (rbadB N at') R = j) := Lib.hid (by rw [HTL.out, HTT.out]; rfl)
        go_upto_region 5 with fail
        refine wp_region_any (by kernel_rfl) ?_
        try (change wpAny _ _ _ _ _ _ _ (World.drew _))
        refine take_skip (i := 0) (v := .bool false) 15 rfl (by kernel_rfl) (by kernel_rfl) (by kernel_rfl) (by kernel_rfl) (fun _ _ _ h => h) (Or.inl ⟨by rfl, fun w => by go_simp⟩) ?_
        refine take_skip (i := 1) (v := .bool false) 16 rfl (by kernel_rfl) (by kernel_rfl) (by kernel_rfl) (by kernel_rfl) (fun _ _ _ h => h) (Or.inl ⟨by rfl, fun w => by go_simp⟩) ?_
        refine take_skip (i := 2) (v := undef) 17 rfl (by kernel_rfl) (by kernel_rfl) (by kernel_rfl) (by kernel_rfl) (fun _ _ _ h => h) (Or.inr ⟨by kernel_rfl, rfl⟩) ?_
        refine take_skip (i := 3) (v := undef) 18 rfl (by kernel_rfl) (by kernel_rfl) (by kernel_rfl) (by kernel_rfl) (fun _ _ _ h => h) (Or.inr ⟨by kernel_rfl, rfl⟩) ?_
        refine take_skip (i := 4) (v := undef) 19 rfl (by kernel_rfl) (by kernel_rfl) (by kernel_rfl) (by kernel_rfl) (fun _ _ _ h => h) (Or.inr ⟨by kernel_rfl, rfl⟩) ?_
        refine take_skip (i := 5) (v := undef) 20 rfl (by kernel_rfl) (by kernel_rfl) (by kernel_rfl) (by kernel_rfl) (fun _ _ _ h => h) (Or.inr ⟨by kernel_rfl, rfl⟩) ?_
        refine take_skip (i := 6) (v := undef) 21 rfl (by kernel_rfl) (by kernel_rfl) (by kernel_rfl) (by kernel_rfl) (fun _ _ _ h => h) (Or.inr ⟨by kernel_rfl, rfl⟩) ?_
        refine take_skip (i := 7) (v := undef) 22 rfl (by kernel_rfl) (by kernel_rfl) (by kernel_rfl) (by kernel_rfl) (fun _ _ _ h => h) (Or.inr ⟨by kernel_rfl, rfl⟩) ?_
        refine take_skip (i := 8) (v := undef) 23 rfl (by kernel_rfl) (by kernel_rfl) (by kernel_rfl) (by kernel_rfl) (fun _ _ _ h => h) (Or.inr ⟨by kernel_rfl, rfl⟩) ?_
        refine take_skip (i := 9) (v := undef) 24 rfl (by kernel_rfl) (by kernel_rfl) (by kernel_rfl) (by kernel_rfl) (fun _ _ _ h => h) (Or.inr ⟨by kernel_rfl, rfl⟩) ?_
        refine take_skip (i := 10) (v := .bool false) 25 rfl (by kernel_rfl) (by kernel_rfl) (by kernel_rfl) (by kernel_rfl) (fun _ _ _ h => h) (Or.inl ⟨by kernel_rfl, fun w => by go_simp⟩) ?_
        refine take_skip (i := 11) (v := .bool false) 26 rfl (by kernel_rfl) (by kernel_rfl) (by kernel_rfl) (by kernel_rfl) (fun _ _ _ h => h) (Or.inl ⟨by kernel_rfl, fun w => by go_simp⟩) ?_
        refine take_skip (i := 12) (v := .bool false) 27 rfl (by kernel_rfl) (by kernel_rfl) (by kernel_rfl) (by kernel_rfl) (fun _ _ _ h => h) (Or.inl ⟨by kernel_rfl, fun w => by go_simp⟩) ?_
        refine take_skip (i := 13) (v := .bool true) 28 rfl (by kernel_rfl) (by kernel_rfl) (by kernel_rfl) (by kernel_rfl) (fun _ _ _ h => h) (Or.inl ⟨by kernel_rfl, fun w => by go_simp⟩) ?_
        refine take_skip (i := 14) (v := .bool true) 29 rfl (by kernel_rfl) (by kernel_rfl) (by kernel_rfl) (by kernel_rfl) (fun _ _ _ h => h) (Or.inl ⟨by kernel_rfl, fun w => by go_simp⟩) ?_
        refine take_skip (i := 16) (v := .pointer (some ⟨pb, 7, none⟩)) 31 rfl (by kernel_rfl) (by kernel_rfl) (by kernel_rfl) (by kernel_rfl) (fun _ _ _ h => h) (Or.inl ⟨by kernel_rfl, fun w => by go_simp⟩) ?_
        refine take_skip (i := 18) (v := .int .i64 (m : Int)) 33 rfl (by kernel_rfl) (by kernel_rfl) (by kernel_rfl) (by kernel_rfl) (fun _ _ _ h => h) (Or.inl ⟨by kernel_rfl, fun w => by go_simp⟩) ?_
        refine wpAny_ready (rs := [15, 17]) (by kernel_rfl) (by simp) ?_
        refine AllReady.cons rfl (fun K hK => ?_) (AllReady.cons rfl (fun K hK => ?_) AllReady.nil)
        (focus (go_simp; refine hK _ _ ?_; clear hK K; refine wpAny_ready (rs := [17]) (by kernel_rfl) (by simp) ?_; refine AllReady.cons rfl (fun K hK => ?_) AllReady.nil; go_simp; refine hK _ _ ?_; clear hK K; refine take_skip (i := 19) (v := .pointer (some ⟨gr, og + m, none⟩)) 34 rfl (by kernel_rfl) (by kernel_rfl) (by kernel_rfl) (by kernel_rfl) (fun _ _ _ h => h) (Or.inl ⟨by kernel_rfl, fun w => by go_simp⟩) ?_; refine wpAny_ready (rs := [20]) (by kernel_rfl) (by simp) ?_; refine AllReady.cons rfl (fun K hK => ?_) AllReady.nil; go_simp; refine hK _ _ ?_; clear hK K))
        rotate_left 1
        (focus (go_simp; refine hK _ _ ?_; clear hK K; refine take_skip (i := 19) (v := .pointer (some ⟨gr, og + m, none⟩)) 34 rfl (by kernel_rfl) (by kernel_rfl) (by kernel_rfl) (by kernel_rfl) (fun _ _ _ h => h) (Or.inl ⟨by kernel_rfl, fun w => by go_simp⟩) ?_; refine wpAny_ready (rs := [15, 20]) (by kernel_rfl) (by simp) ?_; refine AllReady.cons rfl (fun K hK => ?_) (AllReady.cons rfl (fun K hK => ?_) AllReady.nil)))
        (focus (go_simp; refine hK _ _ ?_; clear hK K; refine wpAny_ready (rs := [20]) (by kernel_rfl) (by simp) ?_; refine AllReady.cons rfl (fun K hK => ?_) AllReady.nil; go_simp; refine hK _ _ ?_; clear hK K))
        rotate_left 1
        (focus (go_simp; refine hK _ _ ?_; clear hK K; refine wpAny_ready (rs := [15]) (by kernel_rfl) (by simp) ?_; refine AllReady.cons rfl (fun K hK => ?_) AllReady.nil; go_simp; refine hK _ _ ?_; clear hK K))
        all_goals
          refine wpAny_ready (rs := [21]) (by kernel_rfl) (by simp) ?_
          refine AllReady.cons rfl (fun K hK => ?_) AllReady.nil
          go_simp
          go_wp2_with (go_at_call 52; (with_reducible refine Calls.mono (HG.out _ ?_) ?_); (focus (exact (Turns.refl _ _).drew)); rintro e w6 ⟨rfl, n6⟩)
          refine take_skip (i := 22) (v := .bool true) 37 rfl (by kernel_rfl) (by kernel_rfl) (by kernel_rfl) (by kernel_rfl) (fun _ _ _ h => h) (Or.inl ⟨by kernel_rfl, fun w => by go_simp⟩) ?_
          refine take_skip (i := 23) (v := .bool true) 38 rfl (by kernel_rfl) (by kernel_rfl) (by kernel_rfl) (by kernel_rfl) (fun _ _ _ h => h) (Or.inl ⟨by kernel_rfl, fun w => by go_simp⟩) ?_
          refine take_skip (i := 24) (v := .bool true) 39 rfl (by kernel_rfl) (by kernel_rfl) (by kernel_rfl) (by kernel_rfl) (fun _ _ _ h => h) (Or.inl ⟨by kernel_rfl, fun w => by go_simp⟩) ?_
          refine wpAny_done (by kernel_rfl) ?_ _
          simp only [Act.put, List.setIfInBounds_toArray, List.set_cons_succ, List.set_cons_zero]
          go_wp2_with fail
          go_ret
          exact ⟨by rw [HTE.out]; rfl, new_tr HN2.out (Turns.of_drew n6)⟩
      · rw [hyy] at HG HTT
        clear hyy
        go_upto_region 5 with fail
        refine wp_region_any (by kernel_rfl) ?_
        try (change wpAny _ _ _ _ _ _ _ (World.drew _))
        refine take_skip (i := 0) (v := .bool false) 15 rfl (by kernel_rfl) (by kernel_rfl) (by kernel_rfl) (by kernel_rfl) (fun _ _ _ h => h) (Or.inl ⟨by rfl, fun w => by go_simp⟩) ?_
        refine take_skip (i := 1) (v := .bool false) 16 rfl (by kernel_rfl) (by kernel_rfl) (by kernel_rfl) (by kernel_rfl) (fun _ _ _ h => h) (Or.inl ⟨by rfl, fun w => by go_simp⟩) ?_
        refine take_skip (i := 2) (v := undef) 17 rfl (by kernel_rfl) (by kernel_rfl) (by kernel_rfl) (by kernel_rfl) (fun _ _ _ h => h) (Or.inr ⟨by kernel_rfl, rfl⟩) ?_
        refine take_skip (i := 3) (v := undef) 18 rfl (by kernel_rfl) (by kernel_rfl) (by kernel_rfl) (by kernel_rfl) (fun _ _ _ h => h) (Or.inr ⟨by kernel_rfl, rfl⟩) ?_
        refine take_skip (i := 4) (v := undef) 19 rfl (by kernel_rfl) (by kernel_rfl) (by kernel_rfl) (by kernel_rfl) (fun _ _ _ h => h) (Or.inr ⟨by kernel_rfl, rfl⟩) ?_
        refine take_skip (i := 5) (v := undef) 20 rfl (by kernel_rfl) (by kernel_rfl) (by kernel_rfl) (by kernel_rfl) (fun _ _ _ h => h) (Or.inr ⟨by kernel_rfl, rfl⟩) ?_
        refine take_skip (i := 6) (v := undef) 21 rfl (by kernel_rfl) (by kernel_rfl) (by kernel_rfl) (by kernel_rfl) (fun _ _ _ h => h) (Or.inr ⟨by kernel_rfl, rfl⟩) ?_
        refine take_skip (i := 7) (v := undef) 22 rfl (by kernel_rfl) (by kernel_rfl) (by kernel_rfl) (by kernel_rfl) (fun _ _ _ h => h) (Or.inr ⟨by kernel_rfl, rfl⟩) ?_
        refine take_skip (i := 8) (v := undef) 23 rfl (by kernel_rfl) (by kernel_rfl) (by kernel_rfl) (by kernel_rfl) (fun _ _ _ h => h) (Or.inr ⟨by kernel_rfl, rfl⟩) ?_
        refine take_skip (i := 9) (v := undef) 24 rfl (by kernel_rfl) (by kernel_rfl) (by kernel_rfl) (by kernel_rfl) (fun _ _ _ h => h) (Or.inr ⟨by kernel_rfl, rfl⟩) ?_
        refine take_skip (i := 10) (v := .bool false) 25 rfl (by kernel_rfl) (by kernel_rfl) (by kernel_rfl) (by kernel_rfl) (fun _ _ _ h => h) (Or.inl ⟨by kernel_rfl, fun w => by go_simp⟩) ?_
        refine take_skip (i := 11) (v := .bool false) 26 rfl (by kernel_rfl) (by kernel_rfl) (by kernel_rfl) (by kernel_rfl) (fun _ _ _ h => h) (Or.inl ⟨by kernel_rfl, fun w => by go_simp⟩) ?_
        refine take_skip (i := 12) (v := .bool false) 27 rfl (by kernel_rfl) (by kernel_rfl) (by kernel_rfl) (by kernel_rfl) (fun _ _ _ h => h) (Or.inl ⟨by kernel_rfl, fun w => by go_simp⟩) ?_
        refine take_skip (i := 13) (v := .bool true) 28 rfl (by kernel_rfl) (by kernel_rfl) (by kernel_rfl) (by kernel_rfl) (fun _ _ _ h => h) (Or.inl ⟨by kernel_rfl, fun w => by go_simp⟩) ?_
        refine take_skip (i := 14) (v := .bool true) 29 rfl (by kernel_rfl) (by kernel_rfl) (by kernel_rfl) (by kernel_rfl) (fun _ _ _ h => h) (Or.inl ⟨by kernel_rfl, fun w => by go_simp⟩) ?_
        refine take_skip (i := 16) (v := .pointer (some ⟨pb, 7, none⟩)) 31 rfl (by kernel_rfl) (by kernel_rfl) (by kernel_rfl) (by kernel_rfl) (fun _ _ _ h => h) (Or.inl ⟨by kernel_rfl, fun w => by go_simp⟩) ?_
        refine take_skip (i := 18) (v := .int .i64 (m : Int)) 33 rfl (by kernel_rfl) (by kernel_rfl) (by kernel_rfl) (by kernel_rfl) (fun _ _ _ h => h) (Or.inl ⟨by kernel_rfl, fun w => by go_simp⟩) ?_
        refine wpAny_ready (rs := [15, 17]) (by kernel_rfl) (by simp) ?_
        refine AllReady.cons rfl (fun K hK => ?_) (AllReady.cons rfl (fun K hK => ?_) AllReady.nil)
        (focus (go_simp; refine hK _ _ ?_; clear hK K; refine wpAny_ready (rs := [17]) (by kernel_rfl) (by simp) ?_; refine AllReady.cons rfl (fun K hK => ?_) AllReady.nil; go_simp; refine hK _ _ ?_; clear hK K; refine take_skip (i := 19) (v := .pointer (some ⟨gr, og + m, none⟩)) 34 rfl (by kernel_rfl) (by kernel_rfl) (by kernel_rfl) (by kernel_rfl) (fun _ _ _ h => h) (Or.inl ⟨by kernel_rfl, fun w => by go_simp⟩) ?_; refine wpAny_ready (rs := [20]) (by kernel_rfl) (by simp) ?_; refine AllReady.cons rfl (fun K hK => ?_) AllReady.nil; go_simp; refine hK _ _ ?_; clear hK K))
        rotate_left 1
        (focus (go_simp; refine hK _ _ ?_; clear hK K; refine take_skip (i := 19) (v := .pointer (some ⟨gr, og + m, none⟩)) 34 rfl (by kernel_rfl) (by kernel_rfl) (by kernel_rfl) (by kernel_rfl) (fun _ _ _ h => h) (Or.inl ⟨by kernel_rfl, fun w => by go_simp⟩) ?_; refine wpAny_ready (rs := [15, 20]) (by kernel_rfl) (by simp) ?_; refine AllReady.cons rfl (fun K hK => ?_) (AllReady.cons rfl (fun K hK => ?_) AllReady.nil)))
        (focus (go_simp; refine hK _ _ ?_; clear hK K; refine wpAny_ready (rs := [20]) (by kernel_rfl) (by simp) ?_; refine AllReady.cons rfl (fun K hK => ?_) AllReady.nil; go_simp; refine hK _ _ ?_; clear hK K))
        rotate_left 1
        (focus (go_simp; refine hK _ _ ?_; clear hK K; refine wpAny_ready (rs := [15]) (by kernel_rfl) (by simp) ?_; refine AllReady.cons rfl (fun K hK => ?_) AllReady.nil; go_simp; refine hK _ _ ?_; clear hK K))
        all_goals
          refine wpAny_ready (rs := [21]) (by kernel_rfl) (by simp) ?_
          refine AllReady.cons rfl (fun K hK => ?_) AllReady.nil
          go_simp
          go_wp2_with (go_at_call 52; (with_reducible refine Calls.mono (HG.out _ ?_) ?_); (focus (exact (Turns.refl _ _).drew)); rintro e w6 ⟨rfl, n6⟩)
          refine take_skip (i := 22) (v := .bool false) 37 rfl (by kernel_rfl) (by kernel_rfl) (by kernel_rfl) (by kernel_rfl) (fun _ _ _ h => h) (Or.inl ⟨by kernel_rfl, fun w => by go_simp⟩) ?_
          refine take_skip (i := 23) (v := .bool false) 38 rfl (by kernel_rfl) (by kernel_rfl) (by kernel_rfl) (by kernel_rfl) (fun _ _ _ h => h) (Or.inl ⟨by kernel_rfl, fun w => by go_simp⟩) ?_
          refine take_skip (i := 24) (v := .bool false) 39 rfl (by kernel_rfl) (by kernel_rfl) (by kernel_rfl) (by kernel_rfl) (fun _ _ _ h => h) (Or.inl ⟨by kernel_rfl, fun w => by go_simp⟩) ?_
          refine wpAny_done (by kernel_rfl) ?_ _
          simp only [Act.put, List.setIfInBounds_toArray, List.set_cons_succ, List.set_cons_zero]
          have HB6 := Lib.hid (n6.blk (Blk.drew HB2.out) (fun h => h))
          have HN6 := Lib.hid (new_tr HN2.out (Turns.of_drew n6))
          clear n6 c0 c1 c2 c3 c4 c5 c6 c7 x0
          go_wp2_with fail
          go_roundw
          case rel => exact ⟨j + 1, m, by omega, by go_num, rfl, by rw [HTL.out, HTT.out]; simp; omega, HN6.out, HB6.out⟩
          case measure => simp [intOf] <;> omega
end Go.Proofs.Ytfhbcdjbfjoknaa.lad
