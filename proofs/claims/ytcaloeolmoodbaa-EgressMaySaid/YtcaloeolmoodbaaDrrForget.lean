/-
  drr.Sched: forget.
-/
import Derived.Test.YtcaloeolmoodbaaDrrSizes
namespace Go.Proofs.Ytcaloeolmoodbaa.drr
open Go.RowKit mem Go.Maps
set_option linter.unusedVariables false

/-- a partly forgotten schedule; sizes; the iterator -/
structure Fg (w wr : World) (p mb c mz n : Nat) (D DZ : DataW Unit) (s : Sc) (l : Hs) (left : Lit → Bool) : Prop where
  ss : Ss wr p mb c D ⟨s.most, upd s.L (part l left), s.turn, s.g⟩
  mz : wr.ownsMap Try.prog 3 (plainElem Try.prog 3) mz n DZ
  t : Turns (Foot p mb s) w wr
theorem Fg.iter {w wr w2 : World} {p mb c mz n r : Nat} {D DZ : DataW Unit} {s : Sc} {l : Hs} {left : Lit → Bool} (h : Fg w wr p mb c mz n D DZ s l left) (hg : wr.grownBy w2 (some r)) (hr : w.heap.size ≤ r) (hs : Ss w p mb c D s) (hm : mz < w.heap.size) : Fg w w2 p mb c mz n D DZ s l left := by
  have t : Turns (· = r) wr w2 := (Turns.of_grown hg).mono (fun k _ hk => by injection hk)
  refine ⟨h.ss.turns t (fun e => ?_) (fun e => ?_) (fun f hf e => ?_), ownsMap_turns h.mz t (fun e => ?_), h.t.trans (t.mono (fun i _ hi => .inr (by rw [hi]; exact hr)))⟩
  · have := hs.lt; omega
  · have := hs.mlt; omega
  · obtain ⟨f', hf', rfl⟩ := upd_mem hf
    have h2 := hs.flt f' hf'
    have h3 : f'.b = r := e
    omega
  · omega
theorem part_miss {s : Sc} {l : Hs} {left : Lit → Bool} {x : Int} (h : x ∈ ids l ∨ left (.int .i64 x) = false) : upd s.L (part l (fun z => left z && !z.sameKey (.int .i64 x))) = upd s.L (part l left) := by
  refine upd_congr (fun f hf => ?_)
  unfold part
  dsimp only
  by_cases e : f.id = x
  · rw [sameI, decide_eq_true e]
    simp only [Bool.not_true, Bool.and_false, cond_false]
    rcases h with h | h
    · have e2 : forgetF l f = f.left := by unfold forgetF; rw [if_pos (by rw [e]; exact h)]
      rw [e2]
      cases left (.int .i64 f.id) <;> rfl
    · rw [e, h]; rfl
  · rw [sameI, decide_eq_false e]
    simp only [Bool.not_false, Bool.and_true]
theorem part_hit {s : Sc} (ap : Ap s.L) {l : Hs} {left : Lit → Bool} {f : Fl} (hf : f ∈ s.L) (h : f.id ∉ ids l) : upd s.L (part l (fun z => left z && !z.sameKey (.int .i64 f.id))) = upd (upd s.L (part l left)) (fun g => if g.id = f.id then 0 else g.left) := by
  rw [upd_upd]
  refine upd_congr (fun g hg => ?_)
  dsimp only
  unfold part
  dsimp only
  by_cases e : g.id = f.id
  · have e2 := ap.eq hg hf (.inl e)
    subst e2
    rw [sameI, decide_eq_true rfl, if_pos rfl]
    simp only [Bool.not_true, Bool.and_false, cond_false]
    unfold forgetF; rw [if_neg h]
  · rw [sameI, decide_eq_false e, if_neg e]
    simp only [Bool.not_false, Bool.and_true]
theorem grown_of_turns {w w' : World} {b : Nat} (t : Turns (· = b) w w') : w.grownBy w' (some b) := ⟨t.os, t.tape, t.output, t.size, fun i hi hne => t.block i hi (fun e => hne (by rw [e]))⟩
set_option maxRecDepth 100000 in
set_option maxHeartbeats 2000000 in
theorem forget (p mb c mz n : Nat) (D DZ : DataW Unit) (s : Sc) (l : Hs) (w : World) (h : Ss w p mb c D s) (hz : w.ownsMap Try.prog 3 (plainElem Try.prog 3) mz n DZ) (hmz : Mz DZ l) (hne : ∀ f ∈ s.L, mz ≠ f.b) :
    Calls Try.prog 52 #[.pointer (some ⟨p, 0, none⟩), .map (some mz)] w fun e w' => e = .returned (.tuple #[]) ∧ Lf w w' p mb c D s (begS l s) ∧ w'.ownsMap Try.prog 3 (plainElem Try.prog 3) mz n DZ := by
  have HH := Lib.hid h
  have HZ := Lib.hid hz
  have HMZ := Lib.hid hmz
  have HNE := Lib.hid hne
  have hown := h.map
  have HO := Lib.hid hown
  obtain ⟨⟨c0, c1, c2, c3⟩, k0, k1, k2, k3⟩ := four h.blk
  clear h hz hmz hne hown
  go_enter Try.func52, Try.ntmps52
  go_wp2_with (at_range; refine wpList_range_own _ rfl _ 115 rfl 3 118 lawI Try.underlying115 ptrE mb c D rfl HO.out ?_; intro w0 hrg0 hg0 hs0; have HR0 := Lib.hid hrg0; have HG0 := Lib.hid hg0; clear hrg0 hg0 hs0)
  go_frame
  obtain ⟨r, hr⟩ : ∃ r, w.heap.size = r := ⟨_, rfl⟩
  rw [hr] at HR0
  simp only [hr]
  have HR : Hid (w.heap.size ≤ r) := Lib.hid (by omega)
  clear hr
  have HF0 : Hid (Fg w w0 p mb c mz n D DZ s l (has D)) := Lib.hid (by
    have t : New w w0 := (Turns.of_grown HG0.out).mono (fun k _ hk => by cases hk)
    have e : upd s.L (part l (has D)) = s.L := upd_same _ _ (fun f hf => by unfold part; rw [HH.out.rd1, HH.out.ap.fnd hf]; rfl)
    have hs : Ss w0 p mb c D ⟨s.most, upd s.L (part l (has D)), s.turn, s.g⟩ := by rw [e]; exact HH.out.later t
    exact ⟨hs, ownsMap_turns HZ.out t (fun h => h), t.mono (fun _ _ h => h.elim)⟩)
  clear c0 c1 c2 c3 k0 k1 k2 k3 HG0 HO
  go_loopw [4, 5, 6, 7] (fun _ _ _ _ wr => ∃ (left : Lit → Bool) (cnt : Nat), wr.ranges Try.prog 3 ptrE mb r c D left cnt ∧ Fg w wr p mb c mz n D DZ s l left) (fun _ _ _ _ wr => wr.rangeLeft mb r)
  case atStart => exact ⟨_, _, HR0.out, HF0.out⟩
  case round =>
    obtain ⟨left, cnt, hrg, hfg⟩ := hrel
    have HRG := Lib.hid hrg
    have HFG := Lib.hid hfg
    clear hrg hfg HR0 HF0
    go_wp2_with (at_next; refine wpList_next_ranges _ rfl _ rfl 3 lawI ptrE (Value.int .i64) mkV (fun key kl hk => by obtain ⟨x, hx, _⟩ := Maps.keyOf_int_inv Try.underlying3 hk; exact ⟨x, hx⟩) (fun v y hv => ptrE_shape hv) mb r c _ _ _ rfl HRG.out ?_ ?_)
    · intro _ hl0
      have e : upd s.L (part l left) = upd s.L (forgetF l) := upd_congr (fun f hf => by unfold part; rw [hl0]; rfl)
      have hf := HFG.out
      have hs := hf.ss
      rw [e] at hs
      have HE := Lib.hid (And.intro (And.intro hs hf.t) hf.mz)
      clear hs hf e hl0
      go_wp2
      go_end0
      exact ⟨rfl, HE.out.1, HE.out.2⟩
    · intro x g kl y1 y2 w2 cnt2 hkey hlk hv hat hrg2 hlt hg2 hs2 hen
      obtain ⟨x', ex, rfl, hwf⟩ := Maps.keyOf_int_inv Try.underlying3 hkey
      have hxx : x = x' := by injection ex
      subst hxx
      obtain ⟨n0, n1⟩ := bounds_i64 hwf
      have hhas := has_true_of_atKey hat
      rw [HH.out.rd1] at hhas
      obtain ⟨f, hfn⟩ := Option.isSome_iff_exists.1 hhas
      obtain ⟨hf, hid⟩ := fnd_some hfn
      subst hid
      have hy : y1 = .lit (.int .i64 (f.b : Int)) := (hat (.map [])).symm.trans (HH.out.rd2 f hf (.map []))
      have hmk : mkV g = .pointer (some ⟨f.b, 0, none⟩) := ptrE_inv (ps := y2) (by rw [hv, ← hy])
      have HF2 := Lib.hid (HFG.out.iter hg2 HR.out HH.out HZ.out.lt)
      have HR2 := Lib.hid hrg2
      have hlook := look_sz HF2.out.mz HMZ.out n0 n1
      have hfm := upd_mem' (F := part l left) hf
      have HFM := Lib.hid hfm
      obtain ⟨⟨f0, f1⟩, f2, f3⟩ := two (HF2.out.ss.fb _ hfm)
      have hms := HF2.out.ss.mf _ hfm
      have hrb : r ≠ f.b := by have := HH.out.flt f hf; have := HR.out; omega
      have HLT : Hid (cnt2 < cnt) := Lib.hid hlt
      have HFF := Lib.hid hf
      rw [hmk] at hen ⊢
      clear hkey hlk hv hat hrg2 hlt hg2 hs2 hhas hfn hf hy hmk ex hwf hfm
      by_cases hin : f.id ∈ ids l
      · rw [decide_eq_true hin] at hlook
        have HM : Hid (upd s.L (part l (fun z => left z && !z.sameKey (.int .i64 f.id))) = upd s.L (part l left)) := Lib.hid (part_miss (.inl hin))
        clear hin
        go_wp2_with fail
        go_roundw
        case rel =>
          refine ⟨_, cnt2, HR2.out, ?_, HF2.out.mz, HF2.out.t⟩
          rw [HM.out]
          exact HF2.out.ss
        case measure => rw [HR2.out.left_eq, HRG.out.left_eq]; exact HLT.out
      · rw [decide_eq_false hin] at hlook
        have HM := Lib.hid (part_hit HH.out.ap HFF.out (left := left) hin)
        have hok := HH.out.ok.some (part l (fun z => left z && !z.sameKey (.int .i64 f.id))) (fun g _ => part_or _ _ _)
        rw [HM.out] at hok
        have HL := Lib.hid (HF2.out.ss.left HFM.out 0 hok)
        clear hin hok
        go_wp2_with fail
        go_roundw
        case rel =>
          have hl := HL.out
          refine ⟨_, cnt2, HR2.out.kept (grown_of_turns hl.2) (fun e => hms (by injection e)) (fun e => hrb (by injection e)), ?_, ownsMap_turns HF2.out.mz hl.2 (HNE.out f HFF.out), HF2.out.t.trans (hl.2.mono (fun i _ hi => .inl (.inr (.inr ⟨f, HFF.out, hi.symm⟩))))⟩
          rw [HM.out]
          exact hl.1
        case measure => rw [(HR2.out.kept (grown_of_turns HL.out.2) (fun e => hms (by injection e)) (fun e => hrb (by injection e))).left_eq, HRG.out.left_eq]; exact HLT.out
end Go.Proofs.Ytcaloeolmoodbaa.drr
