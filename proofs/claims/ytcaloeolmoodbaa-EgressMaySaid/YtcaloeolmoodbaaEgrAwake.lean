/-
  Layer 20's laws: an outlet made since a world; awake.
-/
import Derived.Test.YtcaloeolmoodbaaEgrEr
import Derived.Test.YtcaloeolmoodbaaEgrRun
import Derived.Test.YtcaloeolmoodbaaEgrAdd
namespace Go.Proofs.Ytcaloeolmoodbaa.egr
open Go.RowKit mem Go.Maps
open Go.Proofs.Ytcaloeolmoodbaa.itr
set_option linter.unusedVariables false

/-- an outlet that lies at b or behind it -/
structure Ru (b : Nat) (w wr : World) (A : Ad) (k : Nat) (e : Eo) : Prop where
  es : Es wr A k e
  lo : Lo b A e
  sf : Sf b A w wr
section
variable {b : Nat} {w wr w2 : World} {A : Ad} {k : Nat} {e : Eo}
theorem Ru.base (h : Ru b w wr A k e) : b ≤ wr.heap.size := Nat.le_trans h.lo.o (Nat.le_of_lt h.es.blk.lt)
theorem Ru.later (h : Ru b w wr A k e) (n : New wr w2) : Ru b w w2 A k e := ⟨h.es.later n, h.lo, h.sf.trans (Sf.new n)⟩
theorem Ru.more (h : Ru b w wr A k e) {k' : Nat} (hk : k ≤ k') : Ru b w wr A k' e := ⟨h.es.more hk, h.lo, h.sf⟩
theorem Made.ru {w w1 : World} (h : Made w w1 A k e) : Ru w.heap.size w w1 A k e := ⟨h.es, h.lo, Sf.new h.n⟩
theorem Ru.add (h : Ru b w wr A k e) {k' : Nat} {f : Ef} {s' : drr.Sc} (hes : Es w2 A k' (addE e f s')) (t : Turns (fun i => i = A.mb ∨ i = A.smb) wr w2) (hq : wr.heap.size ≤ f.qb) (hp : f.pv = .slice none 0 0) (hs : ∀ g ∈ s'.L, g ∈ e.s.L ∨ wr.heap.size ≤ g.b) : Ru b w w2 A k' (addE e f s') := by
  have hb := h.base
  refine ⟨hes, ⟨h.lo.o, h.lo.m, h.lo.s, h.lo.t, fun g hg => ?_, fun g hg => ?_⟩, h.sf.trans (Sf.maps h.es h.lo t)⟩
  · rcases List.mem_append.1 hg with hg | hg
    · exact h.lo.q g hg
    · simp at hg; subst hg
      exact ⟨by omega, fun x hx => by rw [hp] at hx; simp [Value.ownBlock] at hx⟩
  · rcases hs g hg with hg | hg
    · exact h.lo.g g hg
    · omega
theorem Ru.put (h : Ru b w wr A k e) {f : Ef} (hf : f ∈ e.L) {pv' : Value} {q' : que.Q} (hes : Es w2 A k ⟨e.frames, e.bytes, e.age, e.most, e.guard, e.credit, e.row, setQ e.L f.id pv' q', e.s⟩) (t : Turns (que.Foot f.qb f.pv) wr w2) (hl : pv'.ownBlock = f.pv.ownBlock ∨ ∃ g, pv'.ownBlock = some g ∧ wr.heap.size ≤ g) : Ru b w w2 A k ⟨e.frames, e.bytes, e.age, e.most, e.guard, e.credit, e.row, setQ e.L f.id pv' q', e.s⟩ :=
  ⟨hes, h.lo.setQ hf h.base hl, h.sf.trans (Sf.que h.es h.lo hf t)⟩
theorem Ru.grant (h : Ru b w wr A k e) {c : Int} (hes : Es w2 A k ⟨e.frames, e.bytes, e.age, e.most, e.guard, c, e.row, e.L, e.s⟩) (t : Turns (· = A.o) wr w2) : Ru b w w2 A k ⟨e.frames, e.bytes, e.age, e.most, e.guard, c, e.row, e.L, e.s⟩ :=
  ⟨hes, ⟨h.lo.o, h.lo.m, h.lo.s, h.lo.t, h.lo.q, h.lo.g⟩, h.sf.trans (Sf.out h.es h.lo t)⟩
end

/-! ### awake -/
def qS : Nat → que.Q
  | 0 => que.fresh 9 99
  | n + 1 => que.putQ (qS n) ⟨(n : Int), 1, 0, true⟩
def eA (fb1 qb1 fb2 qb2 sb j : Nat) (pv pv2 : Value) (q2 : que.Q) (c : Int) : Eo := ⟨9, 99, 9, 9, 2, c, 0, [⟨1, fb1, false, qb1, pv, qS j⟩, ⟨2, fb2, true, qb2, pv2, q2⟩], drr.addS (drr.fresh 9) 2 sb 9⟩
def q2A : que.Q := que.putQ (que.fresh 9 99) ⟨9, 5, 0, true⟩
def l4 : List Snt := [⟨1, ⟨0, 1, 0, true⟩⟩, ⟨1, ⟨1, 1, 0, true⟩⟩, ⟨2, ⟨9, 5, 0, true⟩⟩, ⟨1, ⟨2, 1, 0, true⟩⟩]
theorem run_l (n : Nat) : (runR [1, 2] (n + 5) (eE (eA 0 0 0 0 0 3 (.slice none 0 0) (.slice none 0 0) q2A 100))).1 = l4 := by kernel_rfl
theorem run_c (n : Nat) : (runR [1, 2] (n + 5) (eE (eA 0 0 0 0 0 3 (.slice none 0 0) (.slice none 0 0) q2A 100))).2.credit = 92 := by kernel_rfl
theorem ids12 {fb1 qb1 fb2 qb2 sb j : Nat} {pv pv2 : Value} {q2 : que.Q} {c : Int} : idS (eA fb1 qb1 fb2 qb2 sb j pv pv2 q2 c).L = [1, 2] := by
  show ([1, 2] : List Int).mergeSort (fun x y => decide (x ≤ y)) = [1, 2]
  exact sorted_is (List.Perm.refl _) (by decide)
theorem ran4 {fb1 qb1 fb2 qb2 sb : Nat} {pv pv2 : Value} {l : List Snt} {e' : Eo} (h : Ran (eA fb1 qb1 fb2 qb2 sb 3 pv pv2 q2A 100) l e') (hn : Nd (eA fb1 qb1 fb2 qb2 sb 3 pv pv2 q2A 100).L) : l = l4 ∧ e'.credit = 92 := by
  have h1 := h.run hn 5
  rw [ids12] at h1
  have h2 := run_l l.length
  have h3 := run_c l.length
  have e : eE (eA fb1 qb1 fb2 qb2 sb 3 pv pv2 q2A 100) = eE (eA 0 0 0 0 0 3 (.slice none 0 0) (.slice none 0 0) q2A 100) := rfl
  rw [e] at h1
  rw [h1] at h2 h3
  exact ⟨h2, h3⟩
theorem tot4 (fb1 qb1 fb2 qb2 sb : Nat) (pv pv2 : Value) (c : Int) : Tot (eA fb1 qb1 fb2 qb2 sb 3 pv pv2 q2A c).L ≤ 1048575 := by
  have : Tot (eA fb1 qb1 fb2 qb2 sb 3 pv pv2 q2A c).L = 4 := by kernel_rfl
  omega
theorem fnd_A {fb qb : Nat} {v : Bool} {pv : Value} {q : que.Q} : fnd [⟨1, fb, v, qb, pv, q⟩] 2 = none := rfl
set_option maxRecDepth 100000 in
set_option maxHeartbeats 4000000 in
theorem awake (w : World) : Calls Try.prog 32 #[] w fun x w' => x = .returned (.bool true) ∧ New w w' := by
  have HN := Lib.hid (new_ok 9 99 9 9 2 w ⟨⟨by omega, by omega⟩, ⟨by omega, by omega⟩, ⟨by omega, by omega⟩, ⟨by omega, by omega⟩, by omega, by omega⟩)
  go_enter Try.func32, Try.ntmps32
  go_wp2_with fail
  refine HN.out.mono ?_
  rintro x w1 ⟨A, rfl, hm⟩
  have HR1 := Lib.hid hm.ru
  clear hm HN
  have HA1 := Lib.hid (add_sound A 0 _ 1 0 w1 HR1.out.es (by omega) (by omega) rfl (by omega))
  go_wp2_with fail
  refine HA1.out.mono ?_
  rintro x w2 ⟨rfl, fb1, qb1, hf1, hq1, hes2, ht2⟩
  have HR2 := Lib.hid (HR1.out.add hes2 ht2 hq1 rfl (fun g hg => .inl hg))
  clear hf1 hq1 hes2 ht2 HA1 HR1
  have HA2 := Lib.hid (add_video A 1 _ 2 9 w2 HR2.out.es (by omega) (by omega) fnd_A (by omega) (Int.le_refl _) (by omega))
  go_wp2_with fail
  refine HA2.out.mono ?_
  rintro x w3 ⟨rfl, fb2, qb2, sb, hf2, hq2, hsb, hes3, ht3⟩
  have HR3 : Hid (Ru w.heap.size w w3 A 2 (eA fb1 qb1 fb2 qb2 sb 0 (.slice none 0 0) (.slice none 0 0) (que.fresh 9 99) 0)) := Lib.hid (HR2.out.add hes3 ht3 hq2 rfl (fun g hg => by
    rcases List.mem_append.1 hg with hg | hg
    · exact .inl hg
    · simp at hg; subst hg
      exact .inr hsb))
  clear hf2 hq2 hsb hes3 ht3 HA2 HR2
  go_wp2_with fail
  go_loopw [26] (fun i wr => ∃ j : Nat, j ≤ 3 ∧ i = .int .i64 j ∧ ∃ pv, Ru w.heap.size w wr A 2 (eA fb1 qb1 fb2 qb2 sb j pv (.slice none 0 0) (que.fresh 9 99) 0)) (fun i _ => 3 - (intOf i).toNat)
  case atStart => exact ⟨0, by omega, rfl, _, HR3.out⟩
  case round =>
    obtain ⟨j, hj, rfl, pv, hru⟩ := hrel
    have HR := Lib.hid hru
    clear hru HR3
    by_cases hlt : j < 3
    · have HP := Lib.hid (put_some A 2 _ ⟨1, fb1, false, qb1, pv, qS j⟩ ⟨(j : Int), 1, 0, false⟩ wr HR.out.es List.mem_cons_self (by show (1 : Int) ≤ 9; omega) (by show -9223372036854775808 ≤ (1 : Int); omega))
      dsimp only [que.It.v] at HP
      go_wp2_with fail
      refine HP.out.mono ?_
      rintro x w5 ⟨u, pv', rfl, hes, ht, _, _, hloc⟩
      have HR5 : Hid (Ru w.heap.size w w5 A 2 (eA fb1 qb1 fb2 qb2 sb (j + 1) pv' (.slice none 0 0) (que.fresh 9 99) 0)) := Lib.hid (HR.out.put List.mem_cons_self hes ht hloc)
      clear hes ht hloc HP HR
      go_wp2_with fail
      go_roundw
      case rel => exact ⟨j + 1, by omega, by go_num, pv', HR5.out⟩
      case measure => simp [intOf]; omega
    · obtain rfl : j = 3 := by omega
      clear hlt hj
      have HP := Lib.hid (put_some A 2 _ ⟨2, fb2, true, qb2, .slice none 0 0, que.fresh 9 99⟩ ⟨9, 5, 0, true⟩ wr HR.out.es (List.mem_cons_of_mem _ List.mem_cons_self) (by show (5 : Int) ≤ 9; omega) (by show -9223372036854775808 ≤ (5 : Int); omega))
      dsimp only [que.It.v] at HP
      go_wp2_with fail
      refine HP.out.mono ?_
      rintro x w5 ⟨u, pv2, rfl, hes, ht, _, _, hloc⟩
      have HR5 : Hid (Ru w.heap.size w w5 A 2 (eA fb1 qb1 fb2 qb2 sb 3 pv pv2 q2A 0)) := Lib.hid (HR.out.put (List.mem_cons_of_mem _ List.mem_cons_self) hes ht hloc)
      clear hes ht hloc HP HR
      have HG := Lib.hid (grant A 2 _ 100 w5 HR5.out.es (by omega) (by omega))
      go_wp2_with fail
      refine HG.out.mono ?_
      rintro x w6 ⟨rfl, hes, ht⟩
      have HR6 : Hid (Ru w.heap.size w w6 A 2 (eA fb1 qb1 fb2 qb2 sb 3 pv pv2 q2A 100)) := Lib.hid (HR5.out.grant hes ht)
      clear hes ht HG HR5
      have HRU := Lib.hid (run w.heap.size A 2 _ w6 HR6.out.es HR6.out.lo HR6.out.base (by omega) (by show 2 ≤ 1048576; omega) (tot4 _ _ _ _ _ _ _ _) (Int.le_refl _) (by show (0 : Int) ≤ _; omega))
      go_wp2_with fail
      refine HRU.out.mono ?_
      rintro x w7 ⟨v, l, e', rfl, hran, hes, hlo, hsf, how, hvb, _, _⟩
      obtain ⟨rfl, hcr⟩ := ran4 hran HR6.out.es.ap.nd
      obtain ⟨ao, c, rfl, hc, hrd, _⟩ := how.form
      obtain ⟨g, rfl, hgl, hcell⟩ := hrd.resolve_left (fun e => by cases e)
      have z0 : w7.cell? ⟨g, 0, none⟩ = _ := hcell 0 _ rfl 0 _ rfl
      have z1 : w7.cell? ⟨g, 5, none⟩ = _ := hcell 1 _ rfl 0 _ rfl
      have z2 : w7.cell? ⟨g, 10, none⟩ = _ := hcell 2 _ rfl 0 _ rfl
      have z3 : w7.cell? ⟨g, 15, none⟩ = _ := hcell 3 _ rfl 0 _ rfl
      have HCC := Lib.hid (credit A 2 e' w7 hes)
      rw [hcr] at HCC
      have HSF := Lib.hid (HR6.out.sf.trans hsf)
      clear hran hes hlo hsf how hvb hcr hrd hcell HRU HR6
      go_wp2_with fail
      refine HCC.out.mono ?_
      rintro x w8 ⟨rfl, rfl⟩
      go_wp2
      go_ret
      exact ⟨rfl, HSF.out.t.mono (fun i hi h => by omega)⟩
end Go.Proofs.Ytcaloeolmoodbaa.egr
