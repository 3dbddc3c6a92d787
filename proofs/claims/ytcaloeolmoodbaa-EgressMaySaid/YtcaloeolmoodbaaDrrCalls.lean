/-
  drr.Sched: Take, grant, Add, Remove.
-/
import Derived.Test.YtcaloeolmoodbaaDrrSeq
import Derived.BigQuiet
import Derived.Deep.DeepCutAuto
import Derived.Deep.QuietTactic
namespace Go.Proofs.Ytcaloeolmoodbaa.drr
open Go.RowKit mem Go.Maps
set_option linter.unusedVariables false

theorem Ss.drew {w : World} {p mb c : Nat} {D : DataW Unit} {s : Sc} (h : Ss w p mb c D s) : Ss w.drew p mb c D s := ⟨h.blk, h.map, h.rd1, h.rd2, h.fb, h.ap, h.pf, h.rg, h.tr, h.ok⟩
theorem Sc.ok.take {s : Sc} (h : s.ok) (ap : Ap s.L) (n : Int) : (takeS n s).ok := by
  unfold takeS
  split
  next hc =>
    obtain ⟨hg, h0, hn⟩ := hc
    refine ⟨h.m0, h.m1, fun g hgm => ?_, fun _ => ?_⟩
    · obtain ⟨f, hf, rfl⟩ := upd_mem hgm
      obtain ⟨h1, h2, h3, h4, h5⟩ := h.f f hf
      have hl : f.id = s.turn → leftOf s s.turn = f.left := fun e => by unfold leftOf; rw [← e, ap.fnd hf]
      refine ⟨h1, h2, ?_, ?_, fun e => ?_⟩
      · show 0 ≤ (if f.id = s.turn then f.left - n else f.left)
        split
        next e => have := hl e; omega
        next => exact h3
      · show (if f.id = s.turn then f.left - n else f.left) < s.most + f.share
        split <;> omega
      · show (if f.id = s.turn then f.left - n else f.left) < s.most
        rcases e with e | e
        · rw [if_neg e]; exact h5 (.inl e)
        · rw [show s.g = false from e] at hg; cases hg
    · obtain ⟨f, hf, e⟩ := h.t hg
      exact ⟨_, upd_mem' hf, e⟩
  next => exact h

abbrev Lf (w w' : World) (p mb c : Nat) (D : DataW Unit) (s s' : Sc) : Prop := Ss w' p mb c D s' ∧ Turns (Foot p mb s) w w'

set_option maxRecDepth 10000 in
theorem take_no (p mb c : Nat) (D : DataW Unit) (s : Sc) (n : Int) (w : World) (h : Ss w p mb c D s) (hn : s.g = false ∨ n < 0) :
    Calls Try.prog 26 #[.pointer (some ⟨p, 0, none⟩), .int .i64 n] w fun e w' => e = .returned (.tuple #[]) ∧ Lf w w' p mb c D s (takeS n s) := by
  have e : takeS n s = s := by
    unfold takeS
    rw [if_neg]
    rintro ⟨h1, h2, _⟩
    rcases hn with e | e
    · rw [e] at h1; cases h1
    · omega
  rw [e]
  have HH := Lib.hid h
  obtain ⟨⟨c0, c1, c2, c3⟩, _⟩ := four h.blk
  clear h e
  go_enter Try.func26, Try.ntmps26
  by_cases hg : s.g = false
  · rw [hg] at c3
    go_wp2
    refine bodyPost_ret (results_none rfl _ _ _) rfl ?_
    exact ⟨rfl, HH.out, Turns.refl _ _⟩
  · have hg' : s.g = true := by simpa using hg
    rw [hg'] at c3
    have d1 : decide (n < 0) = true := decide_eq_true (hn.resolve_left hg)
    go_wp2
    refine bodyPost_ret (results_none rfl _ _ _) rfl ?_
    exact ⟨rfl, HH.out, Turns.refl _ _⟩
set_option maxRecDepth 10000 in
theorem take_go (p mb c : Nat) (D : DataW Unit) (s : Sc) (n : Int) (w : World) (h : Ss w p mb c D s) (hg : s.g = true) (hn : 0 ≤ n) (hn' : n ≤ 9223372036854775807) :
    Calls Try.prog 26 #[.pointer (some ⟨p, 0, none⟩), .int .i64 n] w fun e w' => e = .returned (.tuple #[]) ∧ Lf w w' p mb c D s (takeS n s) := by
  obtain ⟨f, hf, hid⟩ := h.ok.t hg
  obtain ⟨h1, h2, h3, h4, h5⟩ := h.ok.f f hf
  have hm1 := h.ok.m1
  have hlo : leftOf s s.turn = f.left := by unfold leftOf; rw [← hid, h.ap.fnd hf]
  have hr0 := look_at h.map (h.rg f hf).1 (h.rg f hf).2 (h.rd2 f hf)
  have hr1 := look_at h.drew.map (h.rg f hf).1 (h.rg f hf).2 (h.rd2 f hf)
  rw [hid] at hr0 hr1
  obtain ⟨⟨c0, c1, c2, c3⟩, _⟩ := four h.blk
  obtain ⟨⟨f0, f1⟩, f2, f3⟩ := two (h.fb f hf)
  rw [hg] at c3
  have d1 : decide (n < 0) = false := decide_eq_false (by omega)
  have HH := Lib.hid h
  by_cases hle : n ≤ f.left
  · have e : takeS n s = ⟨s.most, upd s.L (fun g => if g.id = f.id then f.left - n else g.left), s.turn, s.g⟩ := by
      unfold takeS
      rw [if_pos ⟨hg, hn, by rw [hlo]; exact hle⟩]
      congr 1
      refine upd_congr (fun g hgm => ?_)
      rw [hid]
      split
      next e => rw [h.ap.eq hgm hf (.inl (by rw [e, hid]))]
      next => rfl
    have hok := h.ok.take h.ap n
    rw [e] at hok ⊢
    have HL := Lib.hid (fun w1 (hw : Ss w1 p mb c D s) => hw.left hf (f.left - n) hok)
    have HF := Lib.hid hf
    have d2 : decide (n ≤ f.left) = true := decide_eq_true hle
    have hw : IntKind.i64.wrap (f.left - n) = f.left - n := IntWalk.i64_in _ (by omega)
    clear h hok e hle hlo
    go_enter Try.func26, Try.ntmps26
    go_upto_region 1 with fail
    go_region
    go_wp2
    go_end0
    have HZ := HL.out _ (HH.out.drew)
    exact ⟨rfl, HZ.1, (Turns.refl _ w).drew.trans (HZ.2.mono (fun i _ hi => .inl (.inr (.inr ⟨f, HF.out, hi.symm⟩))))⟩
  · have e : takeS n s = s := by
      unfold takeS
      rw [if_neg]
      rintro ⟨_, _, h3⟩
      rw [hlo] at h3
      exact hle h3
    rw [e]
    have d2 : decide (n ≤ f.left) = false := decide_eq_false hle
    clear h e hle hlo
    go_enter Try.func26, Try.ntmps26
    go_upto_region 1 with fail
    go_region
    go_wp2
    go_end0
    exact ⟨rfl, HH.out.drew, (Turns.refl _ _).drew⟩
theorem take (p mb c : Nat) (D : DataW Unit) (s : Sc) (n : Int) (w : World) (h : Ss w p mb c D s) (hn' : n ≤ 9223372036854775807) :
    Calls Try.prog 26 #[.pointer (some ⟨p, 0, none⟩), .int .i64 n] w fun e w' => e = .returned (.tuple #[]) ∧ Lf w w' p mb c D s (takeS n s) := by
  by_cases hg : s.g = false
  · exact take_no p mb c D s n w h (.inl hg)
  · by_cases h0 : n < 0
    · exact take_no p mb c D s n w h (.inr h0)
    · exact take_go p mb c D s n w h (by simpa using hg) (by omega) hn'

set_option maxRecDepth 10000 in
theorem grant_yes (p mb c : Nat) (D : DataW Unit) (s : Sc) (w : World) (h : Ss w p mb c D s) (hg : s.g = true) :
    Calls Try.prog 56 #[.pointer (some ⟨p, 0, none⟩)] w fun e w' => e = .returned (.int .i64 (leftOf (grantS s) s.turn)) ∧ Lf w w' p mb c D s (grantS s) := by
  obtain ⟨f, hf, hid⟩ := h.ok.t hg
  have e : grantS s = s := by unfold grantS; rw [hg]; rfl
  rw [e]
  have hlo : leftOf s s.turn = f.left := by unfold leftOf; rw [← hid, h.ap.fnd hf]
  have hr0 := look_at h.map (h.rg f hf).1 (h.rg f hf).2 (h.rd2 f hf)
  have hr1 := look_at h.drew.map (h.rg f hf).1 (h.rg f hf).2 (h.rd2 f hf)
  rw [hid] at hr0 hr1
  rw [hlo]
  obtain ⟨⟨c0, c1, c2, c3⟩, _⟩ := four h.blk
  obtain ⟨⟨f0, f1⟩, f2, f3⟩ := two (h.fb f hf)
  rw [hg] at c3
  have HH := Lib.hid h
  clear h hlo e
  go_enter Try.func56, Try.ntmps56
  go_upto_region 1 with fail
  go_region
  go_wp2
  go_ret
  exact ⟨rfl, HH.out.drew, (Turns.refl _ _).drew⟩
set_option maxRecDepth 10000 in
set_option maxHeartbeats 1000000 in
theorem grant_no (p mb c : Nat) (D : DataW Unit) (s : Sc) (f : Fl) (w : World) (h : Ss w p mb c D s) (hg : s.g = false) (hf : f ∈ s.L) (hid : f.id = s.turn) :
    Calls Try.prog 56 #[.pointer (some ⟨p, 0, none⟩)] w fun e w' => e = .returned (.int .i64 (leftOf (grantS s) s.turn)) ∧ Lf w w' p mb c D s (grantS s) := by
  obtain ⟨h1, h2, h3, h4, h5⟩ := h.ok.f f hf
  have hm1 := h.ok.m1
  have e : grantS s = ⟨s.most, upd s.L (fun g => if g.id = f.id then f.left + f.share else g.left), s.turn, true⟩ := by
    unfold grantS
    rw [hg]
    simp only [Bool.false_eq_true, if_false]
    congr 1
    refine upd_congr (fun g hgm => ?_)
    rw [hid]
    split
    next e => rw [h.ap.eq hgm hf (.inl (by rw [e, hid]))]
    next => rfl
  have hlo : leftOf (grantS s) s.turn = f.left + f.share := by
    unfold leftOf
    rw [e]
    show (match fnd (upd s.L _) s.turn with | some f => f.left | none => 0) = _
    rw [fnd_upd, ← hid, h.ap.fnd hf]
    simp
  have hok := h.ok.grant ⟨f, hf, hid⟩
  rw [hlo]
  rw [e] at hok ⊢
  have hok0 : Sc.ok ⟨s.most, upd s.L (fun g => if g.id = f.id then f.left + f.share else g.left), s.turn, true⟩ := hok
  have hr0 := look_at h.map (h.rg f hf).1 (h.rg f hf).2 (h.rd2 f hf)
  have hr1 := look_at h.drew.map (h.rg f hf).1 (h.rg f hf).2 (h.rd2 f hf)
  rw [hid] at hr0 hr1
  obtain ⟨⟨c0, c1, c2, c3⟩, k0, k1, k2, k3⟩ := four h.blk
  obtain ⟨⟨f0, f1⟩, f2, f3⟩ := two (h.fb f hf)
  rw [hg] at c3
  have HH := Lib.hid h
  have HF := Lib.hid hf
  have hne := h.pf f hf
  have hw : IntKind.i64.wrap (f.left + f.share) = f.left + f.share := IntWalk.i64_in _ (by omega)
  have HE : Hid (∀ w1, Ss w1 p mb c D s → Blk (w1.setCell ⟨f.b, 1, none⟩ (.int .i64 (f.left + f.share))) p (cells s mb) SB → Ss ((w1.setCell ⟨f.b, 1, none⟩ (.int .i64 (f.left + f.share))).setCell ⟨p, 3, none⟩ (.bool true)) p mb c D ⟨s.most, upd s.L (fun g => if g.id = f.id then f.left + f.share else g.left), s.turn, true⟩ ∧ Turns (Foot p mb s) w1 ((w1.setCell ⟨f.b, 1, none⟩ (.int .i64 (f.left + f.share))).setCell ⟨p, 3, none⟩ (.bool true))) := Lib.hid (by
    intro w1 hw1 hb1
    have t1 : Turns (· = f.b) w1 (w1.setCell ⟨f.b, 1, none⟩ (.int .i64 (f.left + f.share))) := Turns.setCell (S := (· = f.b)) (Turns.refl _ w1) (p := ⟨f.b, 1, none⟩) (.inl rfl) _
    have t2 : Turns (· = p) (w1.setCell ⟨f.b, 1, none⟩ (.int .i64 (f.left + f.share))) ((w1.setCell ⟨f.b, 1, none⟩ (.int .i64 (f.left + f.share))).setCell ⟨p, 3, none⟩ (.bool true)) := Turns.setCell (S := (· = p)) (Turns.refl _ _) (p := ⟨p, 3, none⟩) (.inl rfl) _
    have fbs : ∀ g ∈ s.L, Blk (w1.setCell ⟨f.b, 1, none⟩ (.int .i64 (f.left + f.share))) g.b #[.int .i64 g.share, .int .i64 (if g.id = f.id then f.left + f.share else g.left)] FB := fun g hgm => by
      by_cases e : g.id = f.id
      · have e2 := hw1.ap.eq hgm HF.out (.inl e)
        subst e2
        rw [if_pos rfl]
        exact (hw1.fb g hgm).set 1 _
      · rw [if_neg e]
        have hne : f.b ≠ g.b := fun e2 => e (by rw [hw1.ap.eq HF.out hgm (.inr e2)])
        exact (hw1.fb g hgm).setOther hne _
    refine ⟨⟨hb1.set 3 _, ownsMap_turns (ownsMap_turns hw1.map t1 (hw1.mf f HF.out)) t2 hw1.mp, fun id => ?_, fun g hgm => ?_, fun g hgm => ?_, hw1.ap.upd _, fun g hgm => ?_, fun g hgm => ?_, hw1.tr, hok0⟩, (t1.mono (fun i _ hi => .inr (.inr ⟨f, HF.out, hi.symm⟩))).trans (t2.mono (fun i _ hi => .inl (.inl hi)))⟩
    · rw [hw1.rd1 id]
      show _ = (fnd (upd s.L _) id).isSome
      rw [fnd_upd]
      cases fnd s.L id <;> rfl
    · obtain ⟨f', hf', rfl⟩ := upd_mem hgm
      exact hw1.rd2 f' hf'
    · obtain ⟨f', hf', rfl⟩ := upd_mem hgm
      exact t2.blk (fbs f' hf') (hw1.pf f' hf')
    · obtain ⟨f', hf', rfl⟩ := upd_mem hgm
      exact hw1.pf f' hf'
    · obtain ⟨f', hf', rfl⟩ := upd_mem hgm
      exact hw1.rg f' hf')
  clear h hlo e hok hok0 h5
  go_enter Try.func56, Try.ntmps56
  go_upto_region 1 with fail
  go_region
  go_upto_region 3 with fail
  go_region
  have hbp : p ≠ f.b := fun e => hne e.symm
  have HE2 := HE.out w HH.out (HH.out.blk.setOther hne _)
  have HE3 := Lib.hid HE2
  clear HE2
  go_wp2
  go_ret
  exact ⟨rfl, HE3.out.1.drew.drew, HE3.out.2.drew.drew⟩
end Go.Proofs.Ytcaloeolmoodbaa.drr
