/-
  reorder.Buffer: Put, Tick, Flush.
-/
import Derived.Test.YtfgfejcnkjeghaaReoFol
namespace Go.Proofs.Ytfgfejcnkjeghaa.reo
open Go.RowKit mem
set_option linter.unusedVariables false

theorem skip_split (b : B) : (skipO b).length + (skip b).L.length = b.L.length := by
  show (b.L.take (runN (low b) b.L)).length + (b.L.drop (runN (low b) b.L)).length = b.L.length
  rw [List.length_take, List.length_drop]
  have := runN_le b.L (low b)
  omega
theorem follow_split (b : B) : (followO b).length + (follow b).L.length = b.L.length := by
  show (b.L.take (runN b.next b.L)).length + (b.L.drop (runN b.next b.L)).length = b.L.length
  rw [List.length_take, List.length_drop]
  have := runN_le b.L b.next
  omega
/-- how many wait, read from the buffer's block -/
def lenAt (w : World) (p : Nat) : Nat := match w.cell? ⟨p, 2, none⟩ with | some (.slice _ n _) => n | _ => 0
/-- what a loop of skips keeps -/
structure Lp (c : B → Bool) (M : Int) (w0 : World) (p : Nat) (v0 : Value) (B0 : B) (O0 : List Th) (w : World) (v : Value) (b : B) (vo : Value) (o : List Th) : Prop where
  two : Two w0 p v0 w v b vo o
  ok : b.ok M
  eB : lpB c b = B0
  eO : o ++ lpO c b = O0
  len : o.length + b.L.length ≤ 2000
section
variable {c : B → Bool} {M : Int} {w0 : World} {p : Nat} {v0 : Value} {B0 : B} {O0 : List Th} {w w' : World} {v v' : Value} {b : B} {vo vo' : Value} {o : List Th}
theorem Lp.step (h : Lp c M w0 p v0 B0 O0 w v b vo o) (hc : Few c) (hb : c b = true) (k : Two w0 p v0 w' v' (skip b) vo' (o ++ skipO b)) : Lp c M w0 p v0 B0 O0 w' v' (skip b) vo' (o ++ skipO b) := by
  obtain ⟨e1, e2⟩ := lp_step hc hb
  exact ⟨k, skip_ok h.ok, by rw [← e1]; exact h.eB, by rw [List.append_assoc, ← e2]; exact h.eO, by have := h.len; have := skip_split b; rw [List.length_append]; omega⟩
theorem Lp.stop (h : Lp c M w0 p v0 B0 O0 w v b vo o) (hb : c b = false) : Two w0 p v0 w v B0 vo O0 := by
  obtain ⟨e1, e2⟩ := lp_stop hb
  have h1 := h.eB
  have h2 := h.eO
  rw [e1] at h1
  rw [e2, List.append_nil] at h2
  rw [← h1, ← h2]
  exact h.two
theorem Lp.later (h : Lp c M w0 p v0 B0 O0 w v b vo o) (n : New w w') : Lp c M w0 p v0 B0 O0 w' v b vo o := ⟨h.two.later n, h.ok, h.eB, h.eO, h.len⟩
theorem Lp.at_ (h : Lp c M w0 p v0 B0 O0 w v b vo o) : lenAt w p = b.L.length := by
  obtain ⟨ao, k, hv, _⟩ := h.two.bs.at_
  unfold lenAt
  rw [h.two.bs.c2, hv]
end

set_option maxRecDepth 10000 in
set_option maxHeartbeats 2000000 in
theorem tick_ (p : Nat) (v : Value) (b : B) (now M : Int) (w : World) (h : Bs w p v b) (ho : b.ok M) (hM : M ≤ 1099511627776) (n0 : 0 ≤ now) (n1 : now ≤ 1099511627776) :
    Calls Try.prog 22 #[.pointer (some ⟨p, 0, none⟩), .int .i64 now] w fun e w' => ∃ v' vo, e = .returned vo ∧ Two w p v w' v' (lpB (old now) b) vo (lpO (old now) b) := by
  have H0 : Hid (Lp (old now) M w p v (lpB (old now) b) (lpO (old now) b) w v b (.slice none 0 0) []) := Lib.hid ⟨Two.start h, ho, rfl, rfl, by have := ho.len; simp; omega⟩
  clear h ho
  go_enter Try.func22, Try.ntmps22
  go_wp2_with fail
  go_loopw [5] (fun vo wr => ∃ v' b' o, Lp (old now) M w p v (lpB (old now) b) (lpO (old now) b) wr v' b' vo o) (fun _ wr => lenAt wr p)
  case atStart => exact ⟨v, b, [], H0.out⟩
  case round =>
    obtain ⟨v', b', o, hj⟩ := hrel
    clear H0
    have HJ := Lib.hid hj
    have HLA := Lib.hid hj.at_
    obtain ⟨ao, c, hv, hc, hat⟩ := hj.two.bs.at_
    have c2 := hj.two.bs.c2
    have c1 := hj.two.bs.c1
    have hok := hj.ok
    clear hj
    cases hL : b'.L with
    | nil =>
      have HST : Hid (∀ n, Two w p v (wr.drewN n) v' (lpB (old now) b) u5 (lpO (old now) b)) := Lib.hid (fun n => (HJ.out.later ((Turns.refl _ _).drewN n)).stop (by unfold old; rw [hL]))
      rw [hL] at hv
      have dlt0 : decide ((0 : Int) < (0 : Int)) = false := rfl
      clear hat hok hc hL
      subst hv
      go_upto_region 2 with fail
      go_quiet (fail)
      go_wp2
      go_ret
      exact ⟨_, _, rfl, HST.out _⟩
    | cons x r =>
      obtain ⟨g, hao, hgo, hg, z0, z1, z2⟩ := hat 0 x (by rw [hL]; rfl)
      have t1 := hok.t1 x (by rw [hL]; simp)
      have t2 := hok.t2 x (by rw [hL]; simp)
      have HOLD : Hid (old now b' = decide (b'.wait ≤ now - x.tick)) := Lib.hid (by unfold old; rw [hL])
      have HNE : Hid (b'.L ≠ []) := Lib.hid (by rw [hL]; simp)
      have hl0 : 0 < b'.L.length := by rw [hL]; simp
      have HOL : Hid (o.length ≤ 100000) := Lib.hid (by have := HJ.out.len; omega)
      have HSL := Lib.hid (skip_len b' HNE.out)
      clear hat hok hL z0 z1
      subst hao
      subst hv
      generalize x.tick = tk at *
      have s1 : IntKind.i64.wrap (now - tk) = now - tk := IntWalk.i64_in _ (by omega)
      have hl0I : (0 : Int) < (b'.L.length : Int) := by omega
      have dl0 : decide ((0 : Int) < (b'.L.length : Int)) = true := decide_eq_true hl0I
      generalize hlen : b'.L.length = len at *
      have HLEN := Lib.hid hlen
      clear hlen
      by_cases hw : b'.wait ≤ now - tk
      · have dw : decide (b'.wait ≤ now - tk) = true := decide_eq_true hw
        have HGO : Hid (old now b' = true) := Lib.hid (by rw [HOLD.out]; exact dw)
        clear hw
        go_upto_region 2 with fail
        go_quiet (fail)
        go_wp2_with fail
        refine (skip_ (HJ.out.two.later ((Turns.refl _ _).drewN _)) HJ.out.ok hM HOL.out HNE.out).mono ?_
        rintro e w2 ⟨v2, vo2, rfl, h2⟩
        have H2 := Lib.hid (HJ.out.step (old_few now) HGO.out h2)
        clear h2
        go_wp2_with fail
        go_roundw
        case rel => exact ⟨v2, skip b', _, H2.out⟩
        case measure => rw [H2.out.at_, HLA.out]; have := HSL.out; omega
      · have dw : decide (b'.wait ≤ now - tk) = false := decide_eq_false hw
        have HST : Hid (∀ n, Two w p v (wr.drewN n) (.slice (some ⟨g, 0, none⟩) len c) (lpB (old now) b) u5 (lpO (old now) b)) := Lib.hid (fun n => (HJ.out.later ((Turns.refl _ _).drewN n)).stop (by rw [HOLD.out]; exact dw))
        clear hw
        go_upto_region 2 with fail
        go_quiet (fail)
        go_wp2
        go_ret
        exact ⟨_, _, rfl, HST.out _⟩

set_option maxRecDepth 10000 in
set_option maxHeartbeats 2000000 in
theorem flush_ (p : Nat) (v : Value) (b : B) (M : Int) (w : World) (h : Bs w p v b) (ho : b.ok M) (hM : M ≤ 1099511627776) :
    Calls Try.prog 16 #[.pointer (some ⟨p, 0, none⟩)] w fun e w' => ∃ v' vo, e = .returned vo ∧ Two w p v w' v' (lpB any_ b) vo (lpO any_ b) := by
  have H0 : Hid (Lp any_ M w p v (lpB any_ b) (lpO any_ b) w v b (.slice none 0 0) []) := Lib.hid ⟨Two.start h, ho, rfl, rfl, by have := ho.len; simp; omega⟩
  clear h ho
  go_enter Try.func16, Try.ntmps16
  go_wp2_with fail
  go_loopw [3] (fun vo wr => ∃ v' b' o, Lp any_ M w p v (lpB any_ b) (lpO any_ b) wr v' b' vo o) (fun _ wr => lenAt wr p)
  case atStart => exact ⟨v, b, [], H0.out⟩
  case round =>
    obtain ⟨v', b', o, hj⟩ := hrel
    clear H0
    have HJ := Lib.hid hj
    have HLA := Lib.hid hj.at_
    obtain ⟨ao, c, hv, hc, hat⟩ := hj.two.bs.at_
    have c2 := hj.two.bs.c2
    clear hj
    cases hL : b'.L with
    | nil =>
      have HST : Hid (Two w p v wr v' (lpB any_ b) u3 (lpO any_ b)) := Lib.hid (HJ.out.stop (by unfold any_; rw [hL]))
      rw [hL] at hv
      have dlt0 : decide ((0 : Int) < (0 : Int)) = false := rfl
      clear hat hc hL
      subst hv
      go_wp2
      go_ret
      exact ⟨_, _, rfl, HST.out⟩
    | cons x r =>
      have HNE : Hid (b'.L ≠ []) := Lib.hid (by rw [hL]; simp)
      have hl0 : 0 < b'.L.length := by rw [hL]; simp
      have HOL : Hid (o.length ≤ 100000) := Lib.hid (by have := HJ.out.len; omega)
      have HSL := Lib.hid (skip_len b' HNE.out)
      have HGO : Hid (any_ b' = true) := Lib.hid (by unfold any_; rw [hL])
      clear hat hL
      subst hv
      have hl0I : (0 : Int) < (b'.L.length : Int) := by omega
      have dl0 : decide ((0 : Int) < (b'.L.length : Int)) = true := decide_eq_true hl0I
      generalize hlen : b'.L.length = len at *
      have HLEN := Lib.hid hlen
      clear hlen
      go_wp2_with fail
      refine (skip_ HJ.out.two HJ.out.ok hM HOL.out HNE.out).mono ?_
      rintro e w2 ⟨v2, vo2, rfl, h2⟩
      have H2 := Lib.hid (HJ.out.step any_few HGO.out h2)
      clear h2
      go_wp2_with fail
      go_roundw
      case rel => exact ⟨v2, skip b', _, H2.out⟩
      case measure => rw [H2.out.at_, HLA.out]; have := HSL.out; omega
end Go.Proofs.Ytfgfejcnkjeghaa.reo
