/-
  The reference of layer 15: payload, time.
-/
import Derived.Test.YtijpgkkhjjpjoaaRewFrame
import Derived.Test.YtijpgkkhjjpjoaaVpRefText
import Derived.Test.YtijpgkkhjjpjoaaVpRef
namespace Go.Proofs.Ytijpgkkhjjpjoaa.rew
open Go.RowKit mem
set_option linter.unusedVariables false

abbrev OR : TypeId := 29
/-- the reference's stream: o, its shift and its last time without a modulus -/
abbrev rcs (o : O) (S La : Int) : List Value := [.bool o.v, .int .u32 o.ssrc, .int .u8 o.kind, .int .i64 o.seq, .int .i64 o.pic, .int .i64 o.lev, .int .i64 o.src, .int .i64 S, .int .i64 La, .int .i64 o.fr, .int .i64 o.pk, .int .i64 o.by_]
theorem cells12 {w : World} {p : Nat} {a0 a1 a2 a3 a4 a5 a6 a7 a8 a9 a10 a11 : Value} {t : TypeId} (h : Blk w p [a0, a1, a2, a3, a4, a5, a6, a7, a8, a9, a10, a11].toArray t) :
    (w.cell? ⟨p, 0, none⟩ = some a0 ∧ w.cell? ⟨p, 1, none⟩ = some a1 ∧ w.cell? ⟨p, 2, none⟩ = some a2 ∧ w.cell? ⟨p, 3, none⟩ = some a3 ∧ w.cell? ⟨p, 4, none⟩ = some a4 ∧ w.cell? ⟨p, 5, none⟩ = some a5 ∧ w.cell? ⟨p, 6, none⟩ = some a6 ∧ w.cell? ⟨p, 7, none⟩ = some a7 ∧ w.cell? ⟨p, 8, none⟩ = some a8 ∧ w.cell? ⟨p, 9, none⟩ = some a9 ∧ w.cell? ⟨p, 10, none⟩ = some a10 ∧ w.cell? ⟨p, 11, none⟩ = some a11) :=
  ⟨h.cell 0, h.cell 1, h.cell 2, h.cell 3, h.cell 4, h.cell 5, h.cell 6, h.cell 7, h.cell 8, h.cell 9, h.cell 10, h.cell 11⟩
theorem frees12 {w : World} {p : Nat} {a0 a1 a2 a3 a4 a5 a6 a7 a8 a9 a10 a11 : Value} {t : TypeId} (h : Blk w p [a0, a1, a2, a3, a4, a5, a6, a7, a8, a9, a10, a11].toArray t) :
    (w.frozen? ⟨p, 0, none⟩ = false ∧ w.frozen? ⟨p, 1, none⟩ = false ∧ w.frozen? ⟨p, 2, none⟩ = false ∧ w.frozen? ⟨p, 3, none⟩ = false ∧ w.frozen? ⟨p, 4, none⟩ = false ∧ w.frozen? ⟨p, 5, none⟩ = false ∧ w.frozen? ⟨p, 6, none⟩ = false ∧ w.frozen? ⟨p, 7, none⟩ = false ∧ w.frozen? ⟨p, 8, none⟩ = false ∧ w.frozen? ⟨p, 9, none⟩ = false ∧ w.frozen? ⟨p, 10, none⟩ = false ∧ w.frozen? ⟨p, 11, none⟩ = false) :=
  ⟨h.free 0, h.free 1, h.free 2, h.free 3, h.free 4, h.free 5, h.free 6, h.free 7, h.free 8, h.free 9, h.free 10, h.free 11⟩

/-! ### time -/
def tS (o : O) (S La s a : Int) : Int := if o.fr = 0 then 0 else if o.src = s then S else La + 3000 - a
def tL (o : O) (S La s a : Int) : Int := if o.fr = 0 then a else if o.src = s then max La (a + S) else La + 3000
theorem rtime (o : O) (S La s a : Int) (w : World) (S0 : -1000000000 ≤ S) (S1 : S ≤ 1000000000) (L0 : 0 ≤ La) (L1 : La ≤ 1000000000) (a0 : 0 ≤ a) (a1 : a ≤ 1000000000) (f0 : 0 ≤ o.fr) :
    Calls Try.prog 27 #[.agg (rcs o S La).toArray, .int .i64 s, .int .i64 a] w fun e w' => e = .returned (.agg (rcs { o with src := s } (tS o S La s a) (tL o S La s a)).toArray) ∧ New w w' := by
  obtain ⟨v, ss, ki, sq, pi, le, src, lat, sh, fr, pk, by_⟩ := o
  dsimp only at *
  by_cases hf : fr = 0
  · subst hf
    have e1 : tS ⟨v, ss, ki, sq, pi, le, src, lat, sh, 0, pk, by_⟩ S La s a = 0 := by unfold tS; rw [if_pos rfl]
    have e2 : tL ⟨v, ss, ki, sq, pi, le, src, lat, sh, 0, pk, by_⟩ S La s a = a := by unfold tL; rw [if_pos rfl]
    rw [e1, e2]
    clear e1 e2
    go_enter Try.func27, Try.ntmps27
    go_wp2
    go_returns
    exact ⟨rfl, ((Turns.refl _ _).alloc _).alloc _⟩
  · have hf' : (fr == 0) = false := beq_eq_false_iff_ne.2 hf
    by_cases hs : src = s
    · subst hs
      have e1 : tS ⟨v, ss, ki, sq, pi, le, src, lat, sh, fr, pk, by_⟩ S La src a = S := by unfold tS; rw [if_neg hf, if_pos rfl]
      have e2 : tL ⟨v, ss, ki, sq, pi, le, src, lat, sh, fr, pk, by_⟩ S La src a = max La (a + S) := by unfold tL; rw [if_neg hf, if_pos rfl]
      rw [e1, e2]
      obtain ⟨M, hM⟩ : ∃ M, max La (a + S) = M := ⟨_, rfl⟩
      rw [hM]
      have e3 : (if La < a + S then a + S else La) = M := by rw [← hM]; split <;> omega
      have w1 : IntKind.i64.wrap (a + S) = a + S := IntWalk.i64_in _ (by omega)
      clear e1 e2 hM hf
      go_enter Try.func27, Try.ntmps27
      go_wp2
      go_returns
      exact ⟨rfl, ((Turns.refl _ _).alloc _).alloc _⟩
    · have e1 : tS ⟨v, ss, ki, sq, pi, le, src, lat, sh, fr, pk, by_⟩ S La s a = La + 3000 - a := by unfold tS; rw [if_neg hf, if_neg hs]
      have e2 : tL ⟨v, ss, ki, sq, pi, le, src, lat, sh, fr, pk, by_⟩ S La s a = La + 3000 := by unfold tL; rw [if_neg hf, if_neg hs]
      rw [e1, e2]
      have hs' : (s == src) = false := beq_eq_false_iff_ne.2 (fun e => hs e.symm)
      have hs2 : (s != src) = true := by simpa using fun e => hs e.symm
      have w0 : IntKind.i64.wrap (La + 3000) = La + 3000 := IntWalk.i64_in _ (by omega)
      have w1 : IntKind.i64.wrap (La + 3000 - a) = La + 3000 - a := IntWalk.i64_in _ (by omega)
      have w2 : IntKind.i64.wrap (a + (La + 3000 - a)) = La + 3000 := by rw [IntWalk.i64_in _ (by omega)]; omega
      have e3 : (if La < La + 3000 then La + 3000 else La) = La + 3000 := if_pos (by omega)
      clear e1 e2 hf hs
      go_enter Try.func27, Try.ntmps27
      go_wp2
      go_returns
      exact ⟨rfl, ((Turns.refl _ _).alloc _).alloc _⟩

/-! ### payload -/
theorem rparse_ (s : ByteArray) (w : World) (hs : s.size ≤ 4611686018427387904) :
    Calls Try.prog 28 #[.string s] w fun e w' => e = .returned (.tuple #[.agg (vp.cells (par s)), .string (rst s), .int .i64 (er s)]) ∧ New w w' := vp.rparse s w hs
set_option maxHeartbeats 1000000 in
theorem rpayload (o : O) (S La : Int) (s : ByteArray) (w : World) (ho : o.ok) (hp : o.v = true → 0 ≤ o.pic) (hs : s.size ≤ 1048576) :
    Calls Try.prog 29 #[.agg (rcs o S La).toArray, .string s] w fun e w' => e = .returned (.string (pay o s)) ∧ New w w' := by
  obtain ⟨q0, q1, p0, p1, l0, l1, _, _, _, _, _, _⟩ := ho
  have HP := Lib.hid (fun w => rparse_ s w (by omega))
  by_cases hg : o.v = true ∧ er s = 0
  · obtain ⟨hv, he⟩ := hg
    have hp0 := hp hv
    have hV := vp.with_V (par s) (par_V s he) o.pic (max o.lev 0)
    have HE : Hid (pay o s = ⟨((vp.tx (vp.withD (par s) o.pic (max o.lev 0))) ++ (rst s).data.toList).toArray⟩) := Lib.hid (by unfold pay; rw [if_pos hv, if_pos he])
    have hT := fun w => vp.rtext (vp.withD (par s) o.pic (max o.lev 0)) hV w
    obtain ⟨T, hT2⟩ : ∃ T : ByteArray, T = ⟨(vp.tx (vp.withD (par s) o.pic (max o.lev 0))).toArray⟩ := ⟨_, rfl⟩
    have z1 : (9223372036854775807 < T.size + (rst s).size) = False := by
      have a := rst_size s he
      have b := (tx_bd (vp.withD (par s) o.pic (max o.lev 0))).2
      have c : T.size = (vp.tx (vp.withD (par s) o.pic (max o.lev 0))).length := by rw [hT2, size_mk]
      simp only [eq_iff_iff, iff_false]
      omega
    have hcat : (⟨((vp.tx (vp.withD (par s) o.pic (max o.lev 0))) ++ (rst s).data.toList).toArray⟩ : ByteArray) = T ++ rst s := by
      rw [hT2, ← cat_mk, eta_mk]
    rw [hcat] at HE
    rw [← hT2] at hT
    obtain ⟨mx, hmx⟩ : ∃ mx, max o.lev 0 = mx := ⟨_, rfl⟩
    have fin : (if o.lev < 0 then (0 : Int) else o.lev) = mx := by rw [← hmx]; split <;> omega
    have hwd : vp.withD (par s) o.pic (max o.lev 0) = ⟨(par s).nr, (par s).st, (par s).part, (if 0 ≤ (par s).pic then o.pic else (par s).pic), (if 0 ≤ (par s).pic then true else (par s).wide), (if 0 ≤ (par s).lev then mx else (par s).lev), (par s).lay, (par s).sync, (par s).key⟩ := by
      unfold vp.withD
      have m1 : o.pic % 32768 = o.pic := by omega
      have m2 : mx % 256 = mx := by omega
      rw [m1, hmx, m2]
      by_cases a : 0 ≤ (par s).pic <;> by_cases b : 0 ≤ (par s).lev <;> simp only [a, b, if_true, if_false]
    rw [hwd] at hT
    have HT := Lib.hid hT
    rw [he] at HP
    clear hT hcat hT2 hV he hwd hp hmx
    generalize par s = d at *
    generalize rst s = rs at *
    generalize pay o s = Y at *
    obtain ⟨v, ss, ki, sq, pi, le, src, lat, sh, fr, pk, by_⟩ := o
    obtain ⟨nr, st, part, pic, wide, lev, lay, sync, key⟩ := d
    simp only [vp.cells] at HP HT
    dsimp only at *
    subst hv
    by_cases h1 : 0 ≤ pic <;> by_cases h2 : 0 ≤ lev
    all_goals
      simp only [h1, h2, if_true, if_false] at HT
      go_enter Try.func29, Try.ntmps29
      go_wp2_with fail
      refine (HP.out _).mono ?_
      rintro e w1 ⟨rfl, n1⟩
      have hb := n1.blk (Blk.new w (rcs ⟨true, ss, ki, sq, pi, le, src, lat, sh, fr, pk, by_⟩ S La).toArray OR) (fun h => h)
      have N1 := Lib.hid (((Turns.refl (fun _ => False) w).alloc (.cells (rcs ⟨true, ss, ki, sq, pi, le, src, lat, sh, fr, pk, by_⟩ S La).toArray OR)).trans (n1.mono (fun _ _ h => h.elim)))
      have hlt := hb.lt
      obtain ⟨k0, k1, k2, k3, k4, k5, k6, k7, k8, k9, k10, k11⟩ := cells12 hb
      clear hb n1
      generalize w.heap.size = px at *
      go_wp2_with fail
      refine (HT.out _).mono ?_
      rintro e w2 ⟨rfl, n2⟩
      have N2 := Lib.hid (n2)
      go_wp2
      go_ret
      exact ⟨by rw [HE.out]; rfl, N1.out.trans (((Turns.refl (fun _ => False) w1).alloc _ |>.trans (N2.out.mono (fun _ _ h => h.elim))).mono (fun _ _ h => h.elim))⟩
  · have HE : Hid (pay o s = s) := Lib.hid (by
      unfold pay
      by_cases hv : o.v = true
      · rw [if_pos hv, if_neg (fun e => hg ⟨hv, e⟩)]
      · rw [if_neg hv])
    have hg2 : o.v = false ∨ o.v = true ∧ er s ≠ 0 := by
      cases hv : o.v
      · exact .inl rfl
      · exact .inr ⟨rfl, fun e => hg ⟨hv, e⟩⟩
    clear hg hp
    generalize par s = d at *
    generalize rst s = rs at *
    generalize er s = ee at *
    generalize pay o s = Y at *
    obtain ⟨v, ss, ki, sq, pi, le, src, lat, sh, fr, pk, by_⟩ := o
    obtain ⟨nr, st, part, pic, wide, lev, lay, sync, key⟩ := d
    simp only [vp.cells] at HP
    dsimp only at *
    rcases hg2 with rfl | ⟨rfl, hee⟩
    all_goals
      first | (have he1 : (ee != 0) = true := by simpa using hee) | skip
      go_enter Try.func29, Try.ntmps29
      go_wp2_with fail
      refine (HP.out _).mono ?_
      rintro e w1 ⟨rfl, n1⟩
      have hb := n1.blk (Blk.new w (rcs ⟨_, ss, ki, sq, pi, le, src, lat, sh, fr, pk, by_⟩ S La).toArray OR) (fun h => h)
      have N1 := Lib.hid (((Turns.refl (fun _ => False) w).alloc (.cells (rcs ⟨_, ss, ki, sq, pi, le, src, lat, sh, fr, pk, by_⟩ S La).toArray OR)).trans (n1.mono (fun _ _ h => h.elim)))
      have hlt := hb.lt
      obtain ⟨k0, k1, k2, k3, k4, k5, k6, k7, k8, k9, k10, k11⟩ := cells12 hb
      clear hb n1
      generalize w.heap.size = px at *
      go_wp2
      go_ret
      exact ⟨by rw [HE.out]; rfl, N1.out.alloc _⟩
end Go.Proofs.Ytijpgkkhjjpjoaa.rew
