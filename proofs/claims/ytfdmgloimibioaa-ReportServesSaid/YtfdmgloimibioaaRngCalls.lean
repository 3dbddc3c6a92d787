/-
  ring.Ring: Get and Again.
-/
import Derived.Test.YtfdmgloimibioaaRngSeq
import Derived.Test.YtfdmgloimibioaaRowsG3
import Derived.Test.YtfdmgloimibioaaPuts
import Derived.RegionTactic
import Derived.Deep.QuietTactic
import Derived.BigQuiet
namespace Go.Proofs.Ytfdmgloimibioaa.rng
open Go.RowKit mem Go.Maps
set_option linter.unusedVariables false

theorem get_none (p bm : Nat) (pv : Value) (k : Nat) (r : R) (n : Int) (w : World) (h : Rg w p bm pv k r) (n0 : 0 ≤ n) (n1 : n ≤ 65535) (hf : lastIdx r.L n = none) :
    Calls Try.prog 19 #[.pointer (some ⟨p, 0, none⟩), .int .u16 n] w fun e w' => e = .returned (.tuple #[.string ⟨#[]⟩, .bool false]) ∧ w = w' := by
  have HF := Lib.hid (find_none p bm pv k r n w h n0 n1 hf)
  clear h hf
  go_enter Try.func19, Try.ntmps19
  go_wp2_with fail
  refine HF.out.mono ?_
  rintro e w1 ⟨rfl, rfl⟩
  go_wp2
  go_ret2
  exact ⟨rfl, rfl⟩

theorem get_some (p bm : Nat) (pv : Value) (k : Nat) (r : R) (n : Int) (i : Nat) (x : P) (w : World) (h : Rg w p bm pv k r) (n0 : 0 ≤ n) (n1 : n ≤ 65535) (hf : lastIdx r.L n = some i) (hx : r.L[i]? = some x) :
    Calls Try.prog 19 #[.pointer (some ⟨p, 0, none⟩), .int .u16 n] w fun e w' => e = .returned (.tuple #[.string x.t, .bool true]) ∧ w = w' := by
  obtain ⟨g, c, j, rfl, hj, hjl, c0, c1, c2, c3⟩ := h.at' hx
  have HF := Lib.hid (find_some p bm k r n i j g c w h n0 n1 hf hj hjl)
  clear h hf hx hj hjl c0 c2 c3
  go_enter Try.func19, Try.ntmps19
  go_wp2_with fail
  refine HF.out.mono ?_
  rintro e w1 ⟨rfl, rfl⟩
  go_wp2
  go_ret2
  exact ⟨rfl, rfl⟩

/-- what Again leaves -/
abbrev Left (w w' : World) (p bm : Nat) (pv : Value) (k : Nat) (r : R) : Prop := Rg w' p bm pv k r ∧ Turns (Foot p bm pv) w w'

theorem again_none (p bm : Nat) (pv : Value) (k : Nat) (r : R) (n now : Int) (w : World) (h : Rg w p bm pv k r) (n0 : 0 ≤ n) (n1 : n ≤ 65535) (hf : lastIdx r.L n = none) :
    Calls Try.prog 16 #[.pointer (some ⟨p, 0, none⟩), .int .u16 n, .int .i64 now] w fun e w' => e = .returned (.tuple #[.string ⟨#[]⟩, .int .i64 12]) ∧ w = w' := by
  have HF := Lib.hid (find_none p bm pv k r n w h n0 n1 hf)
  clear h hf
  go_enter Try.func16, Try.ntmps16
  go_wp2_with fail
  refine HF.out.mono ?_
  rintro e w1 ⟨rfl, rfl⟩
  go_wp2
  go_ret2
  exact ⟨rfl, rfl⟩

theorem Rg.again {w : World} {p bm g c k : Nat} {r : R} (h : Rg w p bm (.slice (some ⟨g, 0, none⟩) r.L.length c) k r) {i j : Nat} {x : P} (hx : r.L[i]? = some x) (hj : j = (r.old + i) % r.size) (now : Int)
    (hm : x.g < r.most) (n0 : 0 ≤ now) (n1 : now ≤ 1048576) (hs : r.sent < 1048576) :
    Left w (((w.setCell ⟨g, j * 4 + 2, none⟩ (.int .i64 (x.g + 1))).setCell ⟨g, j * 4 + 3, none⟩ (.int .i64 now)).setCell ⟨p, 6, none⟩ (.int .i64 (r.sent + 1))) p bm (.slice (some ⟨g, 0, none⟩) r.L.length c) k
      { r with L := r.L.set i { x with g := x.g + 1, a := now }, sent := r.sent + 1 } := by
  obtain ⟨l, hl, hr⟩ := h.own
  obtain ⟨D, hD, hMp⟩ := h.map
  have hi : i < r.L.length := (List.getElem?_eq_some_iff.1 hx).1
  have hjl := hr.idx hi
  have he := hr.at' i hi
  rw [hx] at he
  rw [← hj] at hjl he
  have hgp : g ≠ p := by have := h.ne; simpa [Value.ownBlock] using this
  have hmg : bm ≠ g := h.mnv g rfl
  have hmp := h.mne
  have o1 := hl.setCell (g := g) (j := j) (i := 2) rfl he (y := { x with g := x.g + 1 }) (.int .i64 (x.g + 1)) (by decide) rfl
  have o2 := o1.setCell (g := g) (j := j) (i := 3) rfl (x := { x with g := x.g + 1 }) (by rw [List.getElem?_set_self hjl]) (y := { x with g := x.g + 1, a := now }) (.int .i64 now) (by decide) rfl
  rw [List.set_set] at o2
  have t1 : Turns (· = g) w ((w.setCell ⟨g, j * 4 + 2, none⟩ (.int .i64 (x.g + 1))).setCell ⟨g, j * 4 + 3, none⟩ (.int .i64 now)) := ((Turns.refl (· = g) w).setCell (.inl rfl) _).setCell (.inl rfl) _
  have b1 := t1.blk h.blk (fun e => hgp e.symm)
  have t2 : Turns (· = p) ((w.setCell ⟨g, j * 4 + 2, none⟩ (.int .i64 (x.g + 1))).setCell ⟨g, j * 4 + 3, none⟩ (.int .i64 now)) (((w.setCell ⟨g, j * 4 + 2, none⟩ (.int .i64 (x.g + 1))).setCell ⟨g, j * 4 + 3, none⟩ (.int .i64 now)).setCell ⟨p, 6, none⟩ (.int .i64 (r.sent + 1))) := (Turns.refl (· = p) _).setCell (.inl rfl) _
  have hok := againR_ok h.ok
  have hset : r.L.set i { x with g := x.g + 1, a := now } = r.L.set i { x with g := x.g + 1, a := now } := rfl
  have hxo := h.ok.p x (List.mem_of_getElem? hx)
  refine ⟨⟨b1.set 6 _, ⟨l.set j { x with g := x.g + 1, a := now }, o2.turns t2 (fun g' hg' e => ?_), by rw [hj]; exact hr.set hi _⟩, ⟨D, ownsMap_turns (ownsMap_turns hD t1 hmg) t2 hmp, hMp.set hx rfl⟩, h.ne, ?_⟩, ?_⟩
  · have hg2 : g = g' := by simpa [Value.ownBlock] using hg'
    exact hgp (hg2.trans e)
  · refine ⟨h.ok.z1, h.ok.m0, h.ok.m1, h.ok.g0, h.ok.g1, by show 0 ≤ r.sent + 1; have := h.ok.s0; omega, by show r.sent + 1 ≤ _; omega, ?_⟩
    intro y hy
    rcases List.mem_or_eq_of_mem_set hy with hy | rfl
    · exact h.ok.p y hy
    · exact ⟨hxo.q0, hxo.q1, by show 0 ≤ x.g + 1; have := hxo.g0; omega, by show x.g + 1 ≤ r.most; omega, n0, n1⟩
  · exact (t1.mono (fun k _ hk => .inr (.inr (by rw [hk]; rfl)))).trans (t2.mono (fun k _ hk => .inl (.inl hk)))

theorem again_some (p bm : Nat) (pv : Value) (k : Nat) (r : R) (n now : Int) (i : Nat) (x : P) (w : World) (h : Rg w p bm pv k r) (n0 : 0 ≤ n) (n1 : n ≤ 65535) (hf : lastIdx r.L n = some i) (hx : r.L[i]? = some x)
    (t0 : 0 ≤ now) (t1 : now ≤ 1048576) (hs : r.sent < 1048576) :
    Calls Try.prog 16 #[.pointer (some ⟨p, 0, none⟩), .int .u16 n, .int .i64 now] w fun e w' => e = .returned (.tuple #[.string (againS r n now), .int .i64 (againE r n now)]) ∧ Left w w' p bm pv k (againR r n now) := by
  obtain ⟨g, c, j, rfl, hj, hjl, c0, c1, c2, c3⟩ := h.at' hx
  have HF := Lib.hid (find_some p bm k r n i j g c w h n0 n1 hf hj hjl)
  have hxo := h.ok.p x (List.mem_of_getElem? hx)
  have p1 := h.blk.cell 1
  have p2 := h.blk.cell 2
  have p6 := h.blk.cell 6
  have q6 := h.blk.free 6
  have hfr : ∀ o, w.frozen? ⟨g, o, none⟩ = false := by
    obtain ⟨l, hl, hr⟩ := h.own
    rcases hl.2 with ⟨e, _⟩ | ⟨g', cap, cur, e, _, hg, _⟩
    · exact absurd e (by simp)
    · injection e with e _ _
      injection e with e
      injection e with e
      subst e; exact (show Blk w g cur PT from hg).free
  have fg2 := hfr (j * 4 + 2)
  have fg3 := hfr (j * 4 + 3)
  have hS : findR r n = some x := by unfold findR; rw [hf]; exact hx
  have m0 := h.ok.m0
  have m1 := h.ok.m1
  have a0 := hxo.a0
  have a1 := hxo.a1
  have g0 := hxo.g0
  have g1 := hxo.g1
  have s0 := h.ok.s0
  have gp0 := h.ok.g0
  have gp1 := h.ok.g1
  have hgp : g ≠ p := by have := h.ne; simpa [Value.ownBlock] using this
  have hn : Hid (Left w (w.drewN 0) p bm (.slice (some ⟨g, 0, none⟩) r.L.length c) k r) := Lib.hid ⟨h, Turns.refl _ _⟩
  by_cases hfull : r.most ≤ x.g
  · have HE : Hid (againE r n now = 11 ∧ againS r n now = ⟨#[]⟩ ∧ againR r n now = r) := Lib.hid ⟨by unfold againE; rw [hS]; simp [hfull], by unfold againS; rw [hS]; simp [hfull], by unfold againR; rw [hf]; simp [hx, hfull]⟩
    rw [HE.out.1, HE.out.2.1, HE.out.2.2]
    have HL : Hid (∀ m, Left w (w.drewN m) p bm (.slice (some ⟨g, 0, none⟩) r.L.length c) k r) := Lib.hid (fun m => ⟨⟨h.blk, h.own, h.map, h.ne, h.ok⟩, (Turns.refl _ _).drewN m⟩)
    clear h hf hx hj hjl hxo HE hS hn p2 p6 q6 fg2 fg3 hfr
    obtain ⟨xq, xt, xg, xa⟩ := x
    obtain ⟨rs, ro, rm, rg, rL, rse⟩ := r
    dsimp only at *
    generalize rL.length = len at *
    go_enter Try.func16, Try.ntmps16
    go_wp2_with fail
    refine HF.out.mono ?_
    rintro e w1 ⟨rfl, rfl⟩
    go_wp2_with fail
    go_quiet (fail)
    go_wp2
    go_ret2
    exact ⟨rfl, HL.out _⟩
  · have hfull' : x.g < r.most := by omega
    have hcond : (decide (0 < x.g) && decide (now - x.a < r.gap)) = tooSoon r x now := rfl
    have hsub : IntKind.i64.wrap (now - x.a) = now - x.a := IntWalk.i64_in _ (by omega)
    by_cases hsoon : tooSoon r x now = true
    · have HE : Hid (againE r n now = 14 ∧ againS r n now = ⟨#[]⟩ ∧ againR r n now = r) := Lib.hid ⟨by unfold againE; rw [hS]; simp [hfull, hsoon], by unfold againS; rw [hS]; simp [hfull, hsoon], by unfold againR; rw [hf]; simp [hx, hfull, hsoon]⟩
      rw [HE.out.1, HE.out.2.1, HE.out.2.2]
      have HL : Hid (∀ m m', Left w ((w.drewN m).drewN m') p bm (.slice (some ⟨g, 0, none⟩) r.L.length c) k r) := Lib.hid (fun m m' => ⟨⟨h.blk, h.own, h.map, h.ne, h.ok⟩, ((Turns.refl _ _).drewN m).drewN m'⟩)
      have hpos : 0 < x.g := by unfold tooSoon at hsoon; simp at hsoon; exact hsoon.1
      have hlt : now - x.a < r.gap := by unfold tooSoon at hsoon; simp at hsoon; exact hsoon.2
      have hpd : decide (0 < x.g) = true := by simpa using hpos
      clear h hf hx hj hjl hxo HE hS hn p6 q6 fg2 fg3 hfr hcond hsoon
      obtain ⟨xq, xt, xg, xa⟩ := x
      obtain ⟨rs, ro, rm, rg, rL, rse⟩ := r
      dsimp only at *
      generalize rL.length = len at *
      go_enter Try.func16, Try.ntmps16
      go_wp2_with fail
      refine HF.out.mono ?_
      rintro e w1 ⟨rfl, rfl⟩
      go_wp2_with fail
      go_quiet (fail)
      go_wp2_with fail
      go_quiet (fail)
      go_wp2
      go_ret2
      exact ⟨rfl, HL.out _ _⟩
    · have HE : Hid (againE r n now = 0 ∧ againS r n now = x.t ∧ againR r n now = { r with L := r.L.set i { x with g := x.g + 1, a := now }, sent := r.sent + 1 }) :=
        Lib.hid ⟨by unfold againE; rw [hS]; simp [hfull, hsoon], by unfold againS; rw [hS]; simp [hfull, hsoon], by unfold againR; rw [hf]; simp [hx, hfull, hsoon]⟩
      rw [HE.out.1, HE.out.2.1, HE.out.2.2]
      have HL : Hid (∀ m, Left w ((((w.drewN m).setCell ⟨g, j * 4 + 2, none⟩ (.int .i64 (x.g + 1))).setCell ⟨g, j * 4 + 3, none⟩ (.int .i64 now)).setCell ⟨p, 6, none⟩ (.int .i64 (r.sent + 1))) p bm (.slice (some ⟨g, 0, none⟩) r.L.length c) k { r with L := r.L.set i { x with g := x.g + 1, a := now }, sent := r.sent + 1 }) := Lib.hid (fun m => by
        have h2 : Rg (w.drewN m) p bm (.slice (some ⟨g, 0, none⟩) r.L.length c) k r := ⟨h.blk, h.own, h.map, h.ne, h.ok⟩
        have h3 := h2.again hx hj now hfull' t0 t1 hs
        exact ⟨h3.1, h3.2.of_drewN⟩)
      have hgw : IntKind.i64.wrap (x.g + 1) = x.g + 1 := IntWalk.i64_in _ (by omega)
      have hpg : p ≠ g := fun e => hgp e.symm
      by_cases hpos : 0 < x.g
      · have hlt : ¬ now - x.a < r.gap := by intro h; exact hsoon (by unfold tooSoon; simp [hpos, h])
        have hpd : decide (0 < x.g) = true := by simpa using hpos
        clear h hf hx hj hjl hxo HE hS hn hfr hcond hsoon
        obtain ⟨xq, xt, xg, xa⟩ := x
        obtain ⟨rs, ro, rm, rg, rL, rse⟩ := r
        dsimp only at *
        generalize rL.length = len at *
        go_enter Try.func16, Try.ntmps16
        go_wp2_with fail
        refine HF.out.mono ?_
        rintro e w1 ⟨rfl, rfl⟩
        go_wp2_with fail
        go_quiet (fail)
        go_wp2_with fail
        go_quiet (fail)
        go_wp2
        go_ret2
        exact ⟨rfl, HL.out _⟩
      · have hpd : decide (0 < x.g) = false := by simpa using hpos
        clear h hf hx hj hjl hxo HE hS hn hfr hcond hsoon hsub
        obtain ⟨xq, xt, xg, xa⟩ := x
        obtain ⟨rs, ro, rm, rg, rL, rse⟩ := r
        dsimp only at *
        generalize rL.length = len at *
        go_enter Try.func16, Try.ntmps16
        go_wp2_with fail
        refine HF.out.mono ?_
        rintro e w1 ⟨rfl, rfl⟩
        go_wp2_with fail
        go_quiet (fail)
        go_wp2_with fail
        go_quiet (fail)
        go_wp2
        go_ret2
        exact ⟨rfl, HL.out _⟩
end Go.Proofs.Ytfdmgloimibioaa.rng
