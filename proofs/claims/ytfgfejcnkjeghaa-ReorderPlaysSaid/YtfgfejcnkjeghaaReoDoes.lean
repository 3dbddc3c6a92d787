/-
  'Does' of layer 9's laws: any act.
-/
import Derived.Test.YtfgfejcnkjeghaaReoDoes3
namespace Go.Proofs.Ytfgfejcnkjeghaa.reo
open Go.RowKit mem
set_option linter.unusedVariables false

set_option maxRecDepth 100000 in
set_option maxHeartbeats 4000000 in
theorem does0 (w0 w : World) (p : Nat) (vb v : Value) (b : B) (kd now M by_ : Int) (s : ByteArray) (h : Own w0 w p vb b) (hr : RS w v b.L) (hf : Fine b M) (hM : M + 100 ≤ 1099511627776) (k1 : kd ≠ 1) (k2 : kd ≠ 2) (k3 : kd ≠ 3) :
    Calls Try.prog 10 #[.agg (stL p b v now).toArray, .agg #[.int .i64 kd, .int .i64 by_, .string s]] w fun e w' => ∃ v' u, e = .returned (.tuple #[.agg (stL p b v' now).toArray, u, .bool true]) ∧ Dn w0 w w' p vb b v' u [] := by
  have HO := Lib.hid h
  have HR := Lib.hid hr
  have HF := Lib.hid hf
  obtain ⟨ax, nx, cx, hv, hnx, q1, q2⟩ := hr.form
  clear h hr hf hnx q1 q2
  subst hv
  have M5 := mask.mask5 by_
  have hsb : Blk (((w.alloc (.cells #[.pointer (some ⟨p, 0, none⟩), .int .i64 b.most, .int .i64 b.wait, .bool b.begun, .int .i64 b.next, .slice ax nx cx, .int .i64 b.lost, .int .i64 now] TS)).alloc (.cells #[.int .i64 kd, .int .i64 by_, .string s] AT)).alloc (.cells zsL.toArray TS)) w.heap.size #[.pointer (some ⟨p, 0, none⟩), .int .i64 b.most, .int .i64 b.wait, .bool b.begun, .int .i64 b.next, .slice ax nx cx, .int .i64 b.lost, .int .i64 now] TS := ((Blk.new _ _ _).alloc _).alloc _
  have hab : Blk (((w.alloc (.cells #[.pointer (some ⟨p, 0, none⟩), .int .i64 b.most, .int .i64 b.wait, .bool b.begun, .int .i64 b.next, .slice ax nx cx, .int .i64 b.lost, .int .i64 now] TS)).alloc (.cells #[.int .i64 kd, .int .i64 by_, .string s] AT)).alloc (.cells zsL.toArray TS)) (w.heap.size + 1) #[.int .i64 kd, .int .i64 by_, .string s] AT := (Blk.new' _ _ _ _ (by simp)).alloc _
  have hrb : Blk (((w.alloc (.cells #[.pointer (some ⟨p, 0, none⟩), .int .i64 b.most, .int .i64 b.wait, .bool b.begun, .int .i64 b.next, .slice ax nx cx, .int .i64 b.lost, .int .i64 now] TS)).alloc (.cells #[.int .i64 kd, .int .i64 by_, .string s] AT)).alloc (.cells zsL.toArray TS)) (w.heap.size + 1 + 1) zsL.toArray TS := Blk.new' _ _ _ _ (by simp)
  have hn1 : New w (((w.alloc (.cells #[.pointer (some ⟨p, 0, none⟩), .int .i64 b.most, .int .i64 b.wait, .bool b.begun, .int .i64 b.next, .slice ax nx cx, .int .i64 b.lost, .int .i64 now] TS)).alloc (.cells #[.int .i64 kd, .int .i64 by_, .string s] AT)).alloc (.cells zsL.toArray TS)) := (((Turns.refl _ _).alloc _).alloc _).alloc _
  have HSB := Lib.hid hsb
  have HAB := Lib.hid hab
  have HRB := Lib.hid hrb
  have HN1 := Lib.hid hn1
  clear hsb hab hrb hn1
  unfold stL
  go_enter Try.func10, Try.ntmps10
  go_upto_region 1 with fail
  refine (show Code.wp _ _ _ _ (((w.alloc (.cells #[.pointer (some ⟨p, 0, none⟩), .int .i64 b.most, .int .i64 b.wait, .bool b.begun, .int .i64 b.next, .slice ax nx cx, .int .i64 b.lost, .int .i64 now] TS)).alloc (.cells #[.int .i64 kd, .int .i64 by_, .string s] AT)).alloc (.cells zsL.toArray TS)) from ?_)
  generalize ((w.alloc (.cells #[.pointer (some ⟨p, 0, none⟩), .int .i64 b.most, .int .i64 b.wait, .bool b.begun, .int .i64 b.next, .slice ax nx cx, .int .i64 b.lost, .int .i64 now] TS)).alloc (.cells #[.int .i64 kd, .int .i64 by_, .string s] AT)).alloc (.cells zsL.toArray TS) = w1 at *
  have HPP : Hid (w.heap.size ≤ w.heap.size ∧ w.heap.size ≤ w.heap.size + 1 ∧ w.heap.size ≤ w.heap.size + 1 + 1 ∧ w.heap.size ≠ w.heap.size + 1 ∧ w.heap.size ≠ w.heap.size + 1 + 1 ∧ w.heap.size + 1 ≠ w.heap.size + 1 + 1) := Lib.hid (by omega)
  generalize w.heap.size + 1 + 1 = pr at *
  generalize w.heap.size + 1 = pa at *
  generalize hps : w.heap.size = ps at *
  have HPS := Lib.hid hps
  clear hps
  obtain ⟨⟨b0, b1, b2, b3, b4, b5, b6, b7⟩, z0, z1, z2, z3, z4, z5, z6, z7⟩ := eight HSB.out
  have a0 : w1.cell? ⟨pa, 0, none⟩ = some (.int .i64 kd) := HAB.out.cell 0
  have a1 : w1.cell? ⟨pa, 1, none⟩ = some (.int .i64 by_) := HAB.out.cell 1
  have e1 : (kd == 1) = false := by simp [k1]
  have e2 : (kd == 2) = false := by simp [k2]
  have e3 : (kd == 3) = false := by simp [k3]
  have hne := HPP.out.2.2.2.2.1
  have hne' := hne.symm
  have HRB2 := HRB.out
  obtain ⟨⟨r0, r1, r2, r3, r4, r5, r6, r7⟩, y0, y1, y2, y3, y4, y5, y6, y7⟩ := eight HRB2
  have hlp := HSB.out.lt
  have hlr := HRB.out.lt
  have HFF := Lib.hid (Dn.store (w0 := w0) (w := w) (p := p) (vb := vb) (u := .slice none 0 0) (o := []) (zs := [.pointer (some ⟨p, 0, none⟩), .int .i64 b.most, .int .i64 b.wait, .bool b.begun, .int .i64 b.next, .slice ax nx cx, .int .i64 b.lost, .int .i64 now]) (HO.out.later HN1.out) (HR.out.later HN1.out) (HN1.out.mono (fun _ _ h => h.elim)) (Owns.nil _ _) HRB.out (by have := HPS.out; have := HPP.out; omega) (by have := HO.out.n.size; have := HPS.out; have := HPP.out; omega) (Turns.refl _ _) rfl)
  clear k1 k2 k3 HRB2
  go_wp2_with fail
  refine (show bodyPost _ _ _ _ _ (puts w1 pr 0 [.pointer (some ⟨p, 0, none⟩), .int .i64 b.most, .int .i64 b.wait, .bool b.begun, .int .i64 b.next, .slice ax nx cx, .int .i64 b.lost, .int .i64 now]) from ?_)
  have hff := HFF.out
  generalize puts w1 pr 0 [.pointer (some ⟨p, 0, none⟩), .int .i64 b.most, .int .i64 b.wait, .bool b.begun, .int .i64 b.next, .slice ax nx cx, .int .i64 b.lost, .int .i64 now] = wz at *
  obtain ⟨⟨g0, g1, g2, g3, g4, g5, g6, g7⟩, _⟩ := eight hff.1
  refine bodyPost_ret (v := .tuple #[.agg #[.pointer (some ⟨p, 0, none⟩), .int .i64 b.most, .int .i64 b.wait, .bool b.begun, .int .i64 b.next, .slice ax nx cx, .int .i64 b.lost, .int .i64 now], .slice none 0 0, .bool true]) (by simp [results, Try.results10, go_sem, g0, g1, g2, g3, g4, g5, g6, g7]) rfl ?_
  exact ⟨_, _, rfl, hff.2⟩

/-! ### any act -/
def stepB (b : B) (kd by_ now : Int) (s : ByteArray) : B := if kd = 1 then putB b (thF b by_ now s) else if kd = 2 then lpB (old (now + by_ % 32)) b else if kd = 3 then lpB any_ b else b
def stepO (b : B) (kd by_ now : Int) (s : ByteArray) : List Th := if kd = 1 then putO b (thF b by_ now s) else if kd = 2 then lpO (old (now + by_ % 32)) b else if kd = 3 then lpO any_ b else []
def stepN (kd by_ now : Int) : Int := if kd = 2 then now + by_ % 32 else now
theorem does (w0 w : World) (p : Nat) (vb v : Value) (b : B) (kd now M by_ : Int) (s : ByteArray) (h : Own w0 w p vb b) (hr : RS w v b.L) (hf : Fine b M) (hM : M + 100 ≤ 1099511627776) (hM0 : 1031 ≤ M) (n0 : 0 ≤ now) (n1 : now ≤ 1099511600000) (hs : s.size ≤ maxLen) :
    Calls Try.prog 10 #[.agg (stL p b v now).toArray, .agg #[.int .i64 kd, .int .i64 by_, .string s]] w fun e w' => ∃ v' u, e = .returned (.tuple #[.agg (stL p (stepB b kd by_ now s) v' (stepN kd by_ now)).toArray, u, .bool true]) ∧ Dn w0 w w' p vb (stepB b kd by_ now s) v' u (stepO b kd by_ now s) := by
  by_cases k1 : kd = 1
  · subst k1
    have eB : stepB b 1 by_ now s = putB b (thF b by_ now s) := if_pos rfl
    have eO : stepO b 1 by_ now s = putO b (thF b by_ now s) := if_pos rfl
    have eN : stepN 1 by_ now = now := if_neg (by decide)
    rw [eB, eO, eN]
    exact does1 w0 w p vb v b now M by_ s h hr hf hM hM0 n0 (by omega) hs
  by_cases k2 : kd = 2
  · subst k2
    have eB : stepB b 2 by_ now s = lpB (old (now + by_ % 32)) b := (if_neg (by decide)).trans (if_pos rfl)
    have eO : stepO b 2 by_ now s = lpO (old (now + by_ % 32)) b := (if_neg (by decide)).trans (if_pos rfl)
    have eN : stepN 2 by_ now = now + by_ % 32 := if_pos rfl
    rw [eB, eO, eN]
    exact does2 w0 w p vb v b now M by_ s h hr hf hM n0 n1
  by_cases k3 : kd = 3
  · subst k3
    have eB : stepB b 3 by_ now s = lpB any_ b := ((if_neg (by decide)).trans (if_neg (by decide))).trans (if_pos rfl)
    have eO : stepO b 3 by_ now s = lpO any_ b := ((if_neg (by decide)).trans (if_neg (by decide))).trans (if_pos rfl)
    have eN : stepN 3 by_ now = now := if_neg (by decide)
    rw [eB, eO, eN]
    exact does3 w0 w p vb v b now M by_ s h hr hf hM
  · have eB : stepB b kd by_ now s = b := ((if_neg k1).trans (if_neg k2)).trans (if_neg k3)
    have eO : stepO b kd by_ now s = [] := ((if_neg k1).trans (if_neg k2)).trans (if_neg k3)
    have eN : stepN kd by_ now = now := if_neg k2
    rw [eB, eO, eN]
    exact does0 w0 w p vb v b kd now M by_ s h hr hf hM k1 k2 k3
theorem step_fine {b : B} {kd by_ now M : Int} {s : ByteArray} (h : Fine b M) (hM0 : 1031 ≤ M) (n0 : 0 ≤ now) (n1 : now ≤ 1099511600000) : Fine (stepB b kd by_ now s) (M + 100) := by
  have h1 := h.mono (show M ≤ M + 100 by omega)
  unfold stepB
  split
  · have k1 := h.ok.n1
    have k2 := h.ok.n2
    have ha : 0 ≤ atF b by_ ∧ atF b by_ ≤ M + 100 := by unfold atF; split <;> (try split) <;> omega
    exact put_fine h1 ha.1 ha.2 n0 (by show now ≤ _; omega)
  · split
    · exact lp_fine (old_few _) h1
    · split
      · exact lp_fine any_few h1
      · exact h1
end Go.Proofs.Ytfgfejcnkjeghaa.reo
