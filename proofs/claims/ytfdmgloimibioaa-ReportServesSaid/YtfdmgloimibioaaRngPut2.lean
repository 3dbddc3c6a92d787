/-
  ring.Ring: Put.
-/
import Derived.Test.YtfdmgloimibioaaRngPut
import Derived.Deep.RegionHeld3
namespace Go.Proofs.Ytfdmgloimibioaa.rng
open Go.RowKit mem Go.Maps
set_option linter.unusedVariables false

theorem place_any (p bm : Nat) (pv : Value) (k : Nat) (r : R) (n : Int) (s : ByteArray) (w0 : World) (h0 : Rg w0 p bm pv k r) : ∃ (old : Nat) (T : List P) (at' : Nat), putR r n s = { r with L := T ++ [⟨n, s, 0, 0⟩], old := old } ∧ at' = (old + T.length) % r.size ∧ at' < r.size ∧
    ∀ w, Rg w p bm pv k r → Calls Try.prog 36 #[.pointer (some ⟨p, 0, none⟩), .agg (rowP ⟨n, s, 0, 0⟩)] w fun e w' => e = .returned (.int .i64 at') ∧ ∃ pv', Placed w w' p bm pv pv' k r ⟨n, s, 0, 0⟩ old T := by
  by_cases hlt : r.L.length < r.size
  · obtain ⟨l, hl, hr⟩ := h0.own
    have ho := hr.full hlt
    refine ⟨r.old, r.L, r.L.length, by unfold putR; rw [if_pos hlt], by rw [ho, Nat.zero_add, Nat.mod_eq_of_lt hlt], hlt, fun w h => place_more p bm pv k r _ w h hlt⟩
  · obtain ⟨l, hl, hr⟩ := h0.own
    have hle := hr.le
    have hlt2 := hr.lt
    obtain ⟨y, t, hL⟩ : ∃ y t, r.L = y :: t := by
      cases hh : r.L with
      | nil => rw [hh] at hlt; simp at hlt; omega
      | cons y t => exact ⟨y, t, rfl⟩
    refine ⟨(r.old + 1) % r.size, t, r.old, by unfold putR; rw [if_neg hlt, hL]; rfl, ?_, hlt2, fun w h => place_turn p bm pv k r _ y t w h hL hlt⟩
    rw [mod_next hlt2]
    have : t.length + 1 = r.size := by rw [hL] at hle hlt; simp at hle hlt; omega
    rw [this, Nat.add_mod_right, Nat.mod_eq_of_lt hlt2]

/-- what Put leaves -/
abbrev Putted (w w' : World) (p bm : Nat) (pv : Value) (k : Nat) (r : R) : Prop := ∃ pv', Rg w' p bm pv' k r ∧ Turns (Foot p bm pv) w w' ∧ (pv'.ownBlock = pv.ownBlock ∨ ∃ g, pv'.ownBlock = some g ∧ w.heap.size ≤ g)

theorem Placed.putted {w W w1 w2 : World} {p bm k : Nat} {pv pv' : Value} {r : R} {n : Int} {s : ByteArray} {old : Nat} {T : List P} {D : DataW Unit} (hw : W.heap.size = w.heap.size) (hn : New w W) (h : Placed W w1 p bm pv pv' k r ⟨n, s, 0, 0⟩ old T) (hok : (putR r n s).ok) (he : putR r n s = { r with L := T ++ [⟨n, s, 0, 0⟩], old := old })
    (hbm : bm ≠ p) (hD1 : IsMap D) (hM : Mp D r.size old T) (hD : w2.ownsMap Try.prog 29 (plainElem Try.prog 3) bm (k + 1) (D.put (.int .u16 n) (.lit (.int .i64 (((old + T.length) % r.size : Nat) : Int))))) (ht : Turns (· = bm) w1 w2) :
    Putted w w2 p bm pv (k + 1) (putR r n s) := by
  obtain ⟨l, hl, hr⟩ := h.own
  obtain ⟨D', hD', _⟩ := h.map
  have hv := ownsMap_ne_row hD' hl
  refine ⟨pv', ⟨?_, ⟨l, ?_, ?_⟩, ⟨_, hD, ?_⟩, h.ne, hok⟩, ?_, ?_⟩
  · rw [he]; exact ht.blk h.blk (fun e => hbm e.symm)
  · exact hl.turns ht (fun g hg e => hv g hg e.symm)
  · rw [he]; exact hr
  · rw [he]; exact hM.push hD1 ⟨n, s, 0, 0⟩
  · refine (hn.mono (fun _ _ h => h.elim)).trans ((h.turns.mono (fun _ _ h => .inl h)).trans (ht.mono (fun k _ hk => .inl (.inl (.inr (.inl hk))))))
  · rw [← hw]; exact h.loc

set_option maxHeartbeats 1000000 in
theorem put (p bm : Nat) (pv : Value) (k : Nat) (r : R) (n : Int) (s : ByteArray) (w : World) (h : Rg w p bm pv k r) (n0 : 0 ≤ n) (n1 : n ≤ 65535) (hk : k < 1048576) :
    Calls Try.prog 14 #[.pointer (some ⟨p, 0, none⟩), .int .u16 n, .string s] w fun e w' => e = .returned (.tuple #[]) ∧ Putted w w' p bm pv (k + 1) (putR r n s) := by
  obtain ⟨old, T, at', he, hat, halt, HP0⟩ := place_any p bm pv k r n s w h
  have HP := Lib.hid HP0
  have HG := Lib.hid h
  have c5 := h.blk.cell 5
  have hkey := keyU n0 n1
  have hok : Hid (putR r n s).ok := Lib.hid (putR_ok h.ok n0 n1 s)
  have HE := Lib.hid he
  have HAT := Lib.hid hat
  have hz := h.ok.z1
  have hkm : k < maxLen := by unfold maxLen; omega
  have hmne := Lib.hid h.mne
  have hwf : (Lit.int .i64 (at' : Int)).wf = true := WalkArith.wf_i64 (by omega)
  clear HP0 h he hat
  go_enter Try.func14, Try.ntmps14
  go_wp2_with fail
  go_region_law
    ((go_simp; go_at_call 36; (refine (HP.out _ (by first | exact HG.out | exact HG.out.drew)).mono ?_); rintro en w1 ⟨rfl, pv', hpl⟩; have hpm := hpl.map; obtain ⟨D1, hown1, hM1⟩ := hpm; have c5' := hpl.blk.cell 5; have HPL := Lib.hid hpl; have HM1 := Lib.hid hM1; have hup := hown1.update law16 Try.underlying112 hkm hkey (plainElem_int Try.underlying3 hwf); obtain ⟨w2, hrun2, hown2, hgrow2⟩ := hup; have HOWN2 := Lib.hid hown2; have HGR2 := Lib.hid hgrow2; have HIM := Lib.hid (hown1.isMap); clear hpl hM1 hown1 hown2 hgrow2))
  all_goals
    have hfin := Placed.putted (w := w) (W := w.drew) (h := HPL.out) rfl ((Turns.refl _ _).drew) hok.out HE.out hmne.out HIM.out HM1.out (by rw [← HAT.out]; exact HOWN2.out) ((Turns.of_grown HGR2.out).mono (fun _ _ h => by injection h))
    have HF := Lib.hid hfin
    clear hfin
    go_end0
    exact ⟨rfl, HF.out⟩
end Go.Proofs.Ytfdmgloimibioaa.rng
