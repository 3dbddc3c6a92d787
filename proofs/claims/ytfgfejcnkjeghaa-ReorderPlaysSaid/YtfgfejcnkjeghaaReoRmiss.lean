/-
  The reference of layer 9: Missing.
-/
import Derived.Test.YtfgfejcnkjeghaaReoRun
namespace Go.Proofs.Ytfgfejcnkjeghaa.reo
open Go.RowKit mem
open ints (IE)
set_option linter.unusedVariables false

theorem gaps_take (o : List Int) (a : Int) (j d m : Nat) (hj : j ≤ d) (hm : m ≤ o.length + j) : (o ++ gapsN a d).take m = (o ++ gapsN a j).take m := by
  have hg : gapsN a d = gapsN a j ++ (gapsN a d).drop j := by
    conv => lhs; rw [← List.take_append_drop j (gapsN a d)]
    congr 1
    unfold gapsN
    rw [← List.map_take, List.take_range, Nat.min_eq_left hj]
  rw [hg, ← List.append_assoc, List.take_append_of_le_length (by rw [List.length_append, gapsN_length]; exact hm)]

set_option maxRecDepth 10000 in
set_option maxHeartbeats 4000000 in
theorem rmissing (v : Value) (b : B) (most M : Int) (w : World) (h : RS w v b.L) (ho : b.ok M) (hM : M ≤ 1099511627776) (hm0 : 0 ≤ most) (hm : most ≤ 1000) :
    Calls Try.prog 15 #[.agg (rL b v).toArray, .int .i64 most] w fun e w' => ∃ u, e = .returned u ∧ Gr IE JT w w' u ((missA b).take most.toNat) := by
  have HS := Lib.hid h
  have HO := Lib.hid ho
  have hlen := ho.len
  obtain ⟨ao, n, c, hv, hn, q1, q2⟩ := h.form
  have HLL := Lib.hid hn
  have hn' : n ≤ 1025 := by omega
  have HA0 : Hid ((missK b 0).1 = b.next ∧ (missK b 0).2 = []) := Lib.hid ⟨rfl, rfl⟩
  obtain ⟨m, rfl⟩ : ∃ m : Nat, most = (m : Int) := ⟨most.toNat, by omega⟩
  have hm1k : m ≤ 1000 := by omega
  have hmt : (m : Int).toNat = m := by omega
  rw [hmt]
  clear hmt hm0 hm
  clear h ho hn q1 q2 hlen
  subst hv
  have H0 : Hid (Gr IE JT w ((w.alloc (.cells #[.int .i64 b.most, .int .i64 b.wait, .bool b.begun, .int .i64 b.next, .slice ao n c, .int .i64 b.lost] XT)).alloc (.cells #[] JT)) (.slice (some ⟨w.heap.size + 1, 0, none⟩) 0 0) [] ∧ Blk ((w.alloc (.cells #[.int .i64 b.most, .int .i64 b.wait, .bool b.begun, .int .i64 b.next, .slice ao n c, .int .i64 b.lost] XT)).alloc (.cells #[] JT)) w.heap.size #[.int .i64 b.most, .int .i64 b.wait, .bool b.begun, .int .i64 b.next, .slice ao n c, .int .i64 b.lost] XT) := Lib.hid ⟨⟨⟨by simp [Enc.all], .inr ⟨w.heap.size + 1, 0, #[], rfl, Nat.zero_le _, Blk.new' _ _ _ _ (by simp), Nat.le_refl _, Nat.zero_le _, by simp, by simp [Enc.all]⟩⟩, fun g hg => by
    have e : w.heap.size + 1 = g := by simpa [Value.ownBlock] using hg
    omega, ((Turns.refl _ _).alloc _).alloc _⟩, (Blk.new _ _ _).alloc _⟩
  unfold rL
  go_enter Try.func15, Try.ntmps15
  go_upto_region 2 with fail
  refine (show Code.wp _ _ _ _ ((w.alloc (.cells #[.int .i64 b.most, .int .i64 b.wait, .bool b.begun, .int .i64 b.next, .slice ao n c, .int .i64 b.lost] XT)).alloc (.cells #[] JT)) from ?_)
  generalize (w.alloc (.cells #[.int .i64 b.most, .int .i64 b.wait, .bool b.begun, .int .i64 b.next, .slice ao n c, .int .i64 b.lost] XT)).alloc (.cells #[] JT) = w3 at *
  generalize w.heap.size + 1 = p2 at *
  generalize hp1 : w.heap.size = p1 at *
  clear hp1
  obtain ⟨b0, b1, b2, b3, b4, b5, bb⟩ := six H0.out.2
  clear bb
  go_wp2_with fail
  go_loopw [5, 6, 15] (fun u a i wr => ∃ k : Nat, k ≤ n ∧ i = .int .i64 k ∧ a = .int .i64 (missK b k).1 ∧ Gr IE JT w wr u ((missK b k).2.take m)) (fun _ _ i _ => n - (intOf i).toNat)
  case atStart => exact ⟨0, by omega, rfl, by rw [HA0.out.1], by rw [HA0.out.2]; simpa using H0.out.1⟩
  case round =>
    obtain ⟨k, hk, rfl, rfl, hg⟩ := hrel
    have HG := Lib.hid hg
    clear H0 HA0 b0 b1 b2 b3 b4 b5
    by_cases hlt : k < n
    · obtain ⟨x, hx⟩ : ∃ x, b.L[k]? = some x := ⟨_, List.getElem?_eq_getElem (by have := HLL.out; omega)⟩
      have hs := (HS.out.later hg.n).sub
      rcases hs with ⟨q, h0⟩ | hs
      · rw [h0] at hx; simp at hx
      obtain ⟨g, o, c', hv, q1, q2, q3, hgl, hcell⟩ := hs.cell
      injection hv with e1 e2 e3
      subst e1 e3
      clear e2 q1 q2 q3 hs
      have z0 := hcell k x hx 0 _ rfl
      have z1 := hcell k x hx 1 _ rfl
      have z2 := hcell k x hx 2 _ rfl
      change wr.cell? ⟨g, o + k * 3, none⟩ = some (.int .i64 x.at_) at z0
      change wr.cell? ⟨g, o + k * 3 + 1, none⟩ = some (.string x.tx) at z1
      change wr.cell? ⟨g, o + k * 3 + 2, none⟩ = some (.int .i64 x.tick) at z2
      obtain ⟨t1, t2, t3⟩ := missK_at HO.out k x hx
      have hltI : (k : Int) < (n : Int) := by omega
      have dlt : decide ((k : Int) < (n : Int)) = true := decide_eq_true hltI
      have HSU := Lib.hid (missK_succ b k x hx)
      obtain ⟨d, hd⟩ : ∃ d, d = (x.at_ - (missK b k).1).toNat := ⟨_, rfl⟩
      have HXA : Hid (x.at_ = (missK b k).1 + (d : Int)) := Lib.hid (by omega)
      have hdb : (missK b k).1 + (d : Int) ≤ M := by omega
      have HAC : Hid (accM (missK b k) x = ((missK b k).1 + (d : Int) + 1, (missK b k).2 ++ gapsN (missK b k).1 d)) := Lib.hid (by unfold accM; rw [← hd, HXA.out])
      rw [HXA.out] at z0
      clear hcell hg hx t2 t3 hd
      generalize (missK b k).1 = a0 at *
      generalize (missK b k).2 = o0 at *
      generalize x.tx = xt at *
      generalize x.tick = xk at *
      have BP : Hid (Blk (wr.alloc (.cells #[.int .i64 (a0 + (d : Int)), .string xt, .int .i64 xk] RT)) wr.heap.size #[.int .i64 (a0 + (d : Int)), .string xt, .int .i64 xk] RT) := Lib.hid (Blk.new _ _ _)
      have HG2 : Hid (Gr IE JT w (wr.alloc (.cells #[.int .i64 (a0 + (d : Int)), .string xt, .int .i64 xk] RT)) u5 (o0.take m)) := Lib.hid (HG.out.later ((Turns.refl _ _).alloc _))
      go_upto_region 6 with fail
      refine (show Code.wp _ _ _ _ (wr.alloc (.cells #[.int .i64 (a0 + (d : Int)), .string xt, .int .i64 xk] RT)) from ?_)
      generalize wr.alloc (.cells #[.int .i64 (a0 + (d : Int)), .string xt, .int .i64 xk] RT) = w2 at *
      generalize wr.heap.size = pp at *
      clear z0 z1 z2 hgl HG
      go_loopw [5, 6] (fun u a wx => ∃ j : Nat, j ≤ d ∧ a = .int .i64 (a0 + (j : Int)) ∧ Gr IE JT w wx u ((o0 ++ gapsN a0 j).take m) ∧ Blk wx pp #[.int .i64 (a0 + (d : Int)), .string xt, .int .i64 xk] RT) (fun _ a _ => (a0 + (d : Int) - intOf a).toNat)
      case atStart => exact ⟨0, Nat.zero_le _, by simp, by simpa [gapsN] using HG2.out, BP.out⟩
      case round =>
        obtain ⟨j, hj, rfl, hgj, hbj⟩ := hrel
        have HGJ := Lib.hid hgj
        have HBJ := Lib.hid hbj
        obtain ⟨aj, cj, hvj, _⟩ := hgj.own.form
        obtain ⟨lj, hlj⟩ : ∃ lj, lj = ((o0 ++ gapsN a0 j).take m).length := ⟨_, rfl⟩
        have hlm : lj = min m (o0.length + j) := by rw [hlj, List.length_take, List.length_append, gapsN_length]
        rw [← hlj] at hvj
        have zz := hbj.cell 0
        change wr.cell? ⟨pp, 0, none⟩ = some (.int .i64 (a0 + (d : Int))) at zz
        clear HG2 BP hgj hbj hlj
        subst hvj
        have s2 : IntKind.i64.wrap (a0 + (d : Int) + 1) = a0 + (d : Int) + 1 := IntWalk.i64_in _ (by omega)
        by_cases hgo : j < d ∧ lj < m
        · obtain ⟨hjd, hljm⟩ := hgo
          have hfull : o0.length + j < m := by omega
          have HT : Hid ((o0 ++ gapsN a0 j).take m = o0 ++ gapsN a0 j) := Lib.hid (List.take_of_length_le (by rw [List.length_append, gapsN_length]; omega))
          have HT2 : Hid ((o0 ++ gapsN a0 (j + 1)).take m = o0 ++ gapsN a0 j ++ [a0 + (j : Int)]) := Lib.hid (by rw [gapsN_succ, ← List.append_assoc]; exact List.take_of_length_le (by rw [List.length_append, List.length_append, gapsN_length, List.length_singleton]; omega))
          rw [HT.out] at HGJ
          have d1 : decide (a0 + (j : Int) < a0 + (d : Int)) = true := decide_eq_true (by omega)
          have d2 : decide ((lj : Int) < (m : Int)) = true := decide_eq_true (by omega)
          have d3 : decide (lj < m) = true := decide_eq_true hljm
          have s1 : IntKind.i64.wrap (a0 + (j : Int) + 1) = a0 + (j : Int) + 1 := IntWalk.i64_in _ (by omega)
          have HLE : Hid ((o0 ++ gapsN a0 j).length + 1 ≤ 1048576) := Lib.hid (by rw [List.length_append, gapsN_length]; omega)
          have HLJ : Hid (lj = (o0 ++ gapsN a0 j).length) := Lib.hid (by rw [List.length_append, gapsN_length]; omega)
          clear hlm hljm hfull
          go_wp2_with (at_builtin; refine wpList_append_one (E := IE) Try.underlying41 infoJ rfl (by decide) (by decide) rfl _ _ rfl _ (o0 ++ gapsN a0 j) (a0 + (j : Int)) rfl (HGJ.out.own.turns (S := fun _ => False) ((Turns.refl _ _).alloc _) (fun _ _ h => h)) wr.heap.size rfl (heap_alloc_new wr _) HLE.out ?_; intro v6 w6 hown6 hgrow6 hat6)
          have HG6 := Lib.hid (HGJ.out.push hown6 hgrow6 hat6)
          have HB6 : Hid (Blk w6 pp #[.int .i64 (a0 + (d : Int)), .string xt, .int .i64 xk] RT) := Lib.hid ((Gr.turned hgrow6).blk HBJ.out (fun e => own_ne HGJ.out.own HBJ.out (by decide) e.symm))
          clear hown6 hgrow6 hat6
          go_wp2_with fail
          go_roundw
          case rel => exact ⟨j + 1, by omega, by push_cast; go_num, by rw [HT2.out]; exact HG6.out, HB6.out⟩
          case measure => simp [intOf]; omega
        · have HEQ : Hid ((o0 ++ gapsN a0 d).take m = (o0 ++ gapsN a0 j).take m) := Lib.hid (by
            by_cases hjd : j < d
            · exact gaps_take o0 a0 j d m hj (by omega)
            · obtain rfl : j = d := by omega
              rfl)
          have hcs : (¬ j < d ∧ decide (j < d) = false ∧ decide (a0 + (j : Int) < a0 + (d : Int)) = false) ∨ ((j < d ∧ decide (j < d) = true ∧ decide (a0 + (j : Int) < a0 + (d : Int)) = true) ∧ ¬ lj < m ∧ decide (lj < m) = false) := by
            by_cases hjd : j < d
            · exact .inr ⟨⟨hjd, decide_eq_true hjd, decide_eq_true (by omega)⟩, by omega, decide_eq_false (by omega)⟩
            · exact .inl ⟨hjd, decide_eq_false hjd, decide_eq_false (by omega)⟩
          clear hgo hlm
          rcases hcs with ⟨k1, k2, d1⟩ | ⟨⟨k1, k2, d1⟩, k3, k4⟩
          all_goals
            go_wp2_with fail
            go_roundw
            case rel => exact ⟨k + 1, by omega, by go_num, by rw [HSU.out, HAC.out], by rw [HSU.out, HAC.out]; show Gr IE JT w _ _ ((o0 ++ gapsN a0 d).take m); rw [HEQ.out]; exact HGJ.out⟩
            case measure => simp [intOf]; omega
    · obtain rfl : k = n := by omega
      have dlt : decide ((k : Int) < (k : Int)) = false := decide_eq_false (by omega)
      have HRES : Hid ((missK b k).2.take m = (missA b).take m) := Lib.hid (by unfold missA; rw [← HLL.out])
      clear hlt hg
      go_wp2
      go_ret
      exact ⟨_, rfl, by rw [← HRES.out]; exact HG.out⟩
end Go.Proofs.Ytfgfejcnkjeghaa.reo
