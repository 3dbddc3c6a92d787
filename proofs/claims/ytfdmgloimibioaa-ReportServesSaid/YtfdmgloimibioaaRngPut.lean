/-
  ring.Ring: a packet takes its place.
-/
import Derived.Test.YtfdmgloimibioaaRngCalls
import Derived.Deep.AppendLies
import Derived.Deep.RegionLaw
import Derived.Deep.DeepCutAuto
namespace Go.Proofs.Ytfdmgloimibioaa.rng
open Go.RowKit mem Go.Maps
set_option linter.unusedVariables false

/-- a packet has its place, which the map doesn't have yet -/
structure Placed (w w' : World) (p bm : Nat) (pv pv' : Value) (k : Nat) (r : R) (x : P) (old : Nat) (T : List P) : Prop where
  blk : Blk w' p (cells { r with old := old } bm pv') RT
  own : ∃ l, Owns PE PT w' pv' l ∧ Rot r.size old l (T ++ [x])
  map : ∃ D, w'.ownsMap Try.prog 29 (plainElem Try.prog 3) bm k D ∧ Mp D r.size old T
  ne : pv'.ownBlock ≠ some p
  turns : Turns (Foot p bm pv) w w'
  loc : pv'.ownBlock = pv.ownBlock ∨ ∃ g, pv'.ownBlock = some g ∧ w.heap.size ≤ g

theorem infoP : (Try.prog.info? PT).map (fun i => (i.zero, i.size, i.bytes)) = some (some (.agg #[.int .u16 0, .string ⟨#[]⟩, .int .i64 0, .int .i64 0]), 4, 40) := by kernel_rfl

abbrev rowP (x : P) : Array Value := #[.int .u16 x.q, .string x.t, .int .i64 x.g, .int .i64 x.a]

theorem Rg.placed {w wc w1 : World} {p bm k g cap : Nat} {pv : Value} {r : R} {l : List P} {W : World} {x : P} (h : Rg wc p bm pv k r) (hn : New w wc) (hpl : p < w.heap.size) (hml : bm < w.heap.size) (hvl : ∀ g, pv.ownBlock = some g → g < w.heap.size) (hlt : r.L.length < r.size) (hl : Owns PE PT wc pv l) (hr : Rot r.size r.old l r.L) (hW : New wc W)
    (hown : w1.ownsRow 0 PT 4 (.slice (some ⟨g, 0, none⟩) (l.length + 1) cap) (l.length + 1) (PE.all l ++ x.cs)) (hg : W.grownBy w1 pv.ownBlock) (hat : pv.ownBlock = some g ∨ wc.heap.size ≤ g) :
    Placed w (w1.setCell ⟨p, 3, none⟩ (.slice (some ⟨g, 0, none⟩) (r.L.length + 1) cap)) p bm pv (.slice (some ⟨g, 0, none⟩) (r.L.length + 1) cap) k r x r.old r.L := by
  have hsz := hn.size
  have t1 : Turns (fun k => some k = pv.ownBlock) wc w1 := (hW.mono (fun _ _ h => h.elim)).trans ((Turns.of_grown hg).mono (fun _ _ h => .inl h))
  have hpc := h.lt
  have hgp : g ≠ p := by
    rcases hat with e | e
    · intro e2; exact h.ne (by rw [e, e2])
    · omega
  have hb1 := t1.blk h.blk (fun e => h.ne e.symm)
  have t2 : Turns (· = p) w1 (w1.setCell ⟨p, 3, none⟩ (.slice (some ⟨g, 0, none⟩) (r.L.length + 1) cap)) := (Turns.refl (· = p) _).setCell (.inl rfl) _
  obtain ⟨D, hD, hMp⟩ := h.map
  have hO : Owns PE PT w1 (.slice (some ⟨g, 0, none⟩) (r.L.length + 1) cap) (l ++ [x]) := by
    unfold Owns
    rw [PE.all_append, PE.all_one, List.length_append, ← hr.len]
    exact hown
  refine ⟨hb1.set 3 _, ⟨l ++ [x], hO.turns t2 (fun g' hg' e => ?_), hr.push hlt x⟩, ⟨D, ownsMap_turns (ownsMap_turns hD t1 (fun e => ?_)) t2 h.mne, hMp⟩, ?_, ?_, ?_⟩
  · have hg2 : g = g' := by simpa [Value.ownBlock] using hg'
    exact hgp (hg2.trans e)
  · exact h.mnv bm e.symm rfl
  · intro e; exact hgp (by simpa [Value.ownBlock] using e)
  · refine (hn.mono (fun _ _ h => h.elim)).trans ((t1.mono (S' := fun k => Foot p bm pv k ∨ w.heap.size ≤ k) (fun k _ hk => .inl (.inr (.inr hk.symm)))).trans (t2.mono (fun k _ hk => .inl (.inl (.inl hk)))))
  · rcases hat with e | e
    · exact .inl e.symm
    · exact .inr ⟨g, rfl, by omega⟩

set_option maxHeartbeats 1000000 in
theorem place_more (p bm : Nat) (pv : Value) (k : Nat) (r : R) (x : P) (w : World) (h : Rg w p bm pv k r) (hlt : r.L.length < r.size) :
    Calls Try.prog 36 #[.pointer (some ⟨p, 0, none⟩), .agg (rowP x)] w fun e w' => e = .returned (.int .i64 r.L.length) ∧ ∃ pv', Placed w w' p bm pv pv' k r x r.old r.L := by
  obtain ⟨l, hl, hr⟩ := h.own
  obtain ⟨ao, c, hpv⟩ := h.form
  have HK : Hid (∀ m, Rg ((w.alloc (.cells (rowP x) PT)).drewN m) p bm pv k r ∧ Owns PE PT ((w.alloc (.cells (rowP x) PT)).drewN m) pv l ∧ Blk ((w.alloc (.cells (rowP x) PT)).drewN m) w.heap.size (rowP x) PT ∧ New w ((w.alloc (.cells (rowP x) PT)).drewN m)) := Lib.hid (fun m =>
    have ha := h.alloc (.cells (rowP x) PT)
    ⟨⟨ha.blk, ha.own, ha.map, ha.ne, ha.ok⟩, (hl.turns ((Turns.refl (fun _ => False) _).alloc _) (fun _ _ h => h)).turns ((Turns.refl (fun _ => False) _).drewN m) (fun _ _ h => h), Blk.new _ _ _, ((Turns.refl _ _).alloc _).drewN m⟩)
  have c3 := h.blk.cell 3
  have c0 := h.blk.cell 0
  have hz := h.ok.z1
  have hll : l.length = r.L.length := hr.len
  have hpl := h.lt
  have hml := h.mlt
  have HVL := Lib.hid h.vlt
  have hlt2 : (r.L.length : Int) < (r.size : Int) := by omega
  have hlm : r.L.length ≤ maxLen := by unfold maxLen; omega
  have HR := Lib.hid hr
  clear h hr hl
  rw [hpv] at c3
  go_enter Try.func36, Try.ntmps36
  go_wp2_with fail
  go_quiet (fail)
  go_wp2_with fail
  have hk := HK.out nq
  clear HK c3 c0
  refine (show Code.wp _ _ _ _ ((w.alloc (.cells (rowP x) PT)).drewN nq) from ?_)
  generalize (w.alloc (.cells (rowP x) PT)).drewN nq = wc at *
  obtain ⟨hrg, hl, hbx, hn⟩ := hk
  have HG := Lib.hid hrg
  have HL := Lib.hid hl
  have HN := Lib.hid hn
  have hown : wc.ownsRow 0 PT 4 pv l.length (PE.all l) := hl
  have c3 := hrg.blk.cell 3
  have f3 := hrg.blk.free 3
  have hne := hrg.ne
  have hpw := hrg.lt
  have hln := Lib.hid hll
  obtain ⟨x0, x1, x2, x3⟩ : _ ∧ _ ∧ _ ∧ _ := ⟨hbx.cell 0, hbx.cell 1, hbx.cell 2, hbx.cell 3⟩
  obtain ⟨i0, hi, hz0, hz1, hz2⟩ := info_parts infoP
  clear hrg hl hn hbx
  subst hpv
  rw [hll] at hown
  have HLT := Lib.hid hlt
  clear hll hlt
  go_cut [] (fun wx => ∃ g cap, Placed w wx p bm (.slice ao r.L.length c) (.slice (some ⟨g, 0, none⟩) (r.L.length + 1) cap) k r x r.old r.L)
  case first =>
    go_region_law
      ((refine step_append_lies _ (by rfl) _ _ _ (by rfl) 0 PT i0 _ 4 40 Try.underlying113 hi hz0 hz1 hz2 rfl (by decide) (.slice ao r.L.length c) _ _ (by rfl) ((World.ownsRow.alloc hown _).drew)
              ⟨wc.heap.size, 0, none⟩ 1 1 [.int .u16 x.q, .string x.t, .int .i64 x.g, .int .i64 x.a] (by rfl) (by rfl) (World.news_of_block (cs := #[.int .u16 x.q, .string x.t, .int .i64 x.g, .int .i64 x.a]) (t := PT) (fr := (0, 0)) (heap_alloc_new wc _)) (by simp [Value.oneCell'])
              (by omega) (by unfold maxLen; omega) (by omega) (Nat.zero_le _) (wc.heap.size + 1) (by simp) ?_; intro g cap w1 hown1 hgrow hat hlt2; have hc1 : w1.cell? ⟨p, 3, none⟩ = some (.slice ao r.L.length c) := (hgrow.cell_far ⟨p, 3, none⟩ (by simp; omega) (fun h => hne h.symm)).trans ((World.cell?_alloc_past _ _ _ hpw).trans c3); have hf1 : w1.frozen? ⟨p, 3, none⟩ = false := (hgrow.frozen_far ⟨p, 3, none⟩ (by simp; omega) (fun h => hne h.symm)).trans ((World.frozen?_alloc_past _ _ _ hpw).trans f3)))
    all_goals
      have M5 := Lib.hid (HG.out.placed HN.out hpl hml HVL.out HLT.out HL.out HR.out (((Turns.refl _ wc).alloc _).drew) (x := x) (by rw [hln.out]; exact hown1) hgrow (by rcases hat with h | h; exact .inl h; exact .inr (by omega)))
      go_wp2_with fail
      go_meet
      case rel => exact ⟨_, _, M5.out⟩
  case rest =>
    obtain ⟨g, cap, hp⟩ := hcut
    have c3 := hp.blk.cell 3
    have HP := Lib.hid hp
    clear hp HG HL HN HR hown hi hz0 hz1 hz2 f3 hne x0 x1 x2 x3 HVL
    have hw1 : IntKind.i64.wrap (((r.L.length + 1 : Nat) : Int) - 1) = (r.L.length : Int) := by rw [IntWalk.i64_in _ (by omega)]; omega
    go_wp2
    go_ret
    exact ⟨rfl, _, HP.out⟩

/-- the eldest one has left the map -/
structure Half (w wx : World) (p bm : Nat) (pv : Value) (k : Nat) (r : R) (x : P) (pb : Nat) (l : List P) (t : List P) : Prop where
  blk : Blk wx p (cells r bm pv) RT
  own : Owns PE PT wx pv l
  map : ∃ D, wx.ownsMap Try.prog 29 (plainElem Try.prog 3) bm k D ∧ Mp D r.size ((r.old + 1) % r.size) t
  box : Blk wx pb (rowP x) PT
  ne : pv.ownBlock ≠ some p
  turns : Turns (Foot p bm pv) w wx
theorem Half.drew {w wx : World} {p bm k pb : Nat} {pv : Value} {r : R} {x : P} {l t : List P} (h : Half w wx p bm pv k r x pb l t) : Half w wx.drew p bm pv k r x pb l t := ⟨h.blk, h.own, h.map, h.box, h.ne, h.turns.drew⟩
theorem Half.placed {w wx : World} {p bm k pb g c n : Nat} {r : R} {x y : P} {l t : List P} (h : Half w wx p bm (.slice (some ⟨g, 0, none⟩) n c) k r x pb l t) (hr : Rot r.size r.old l (y :: t)) (hf : ¬ (y :: t).length < r.size) (hbm : bm ≠ p) (hbg : bm ≠ g) :
    Placed w (((((wx.setCell ⟨g, r.old * 4, none⟩ (.int .u16 x.q)).setCell ⟨g, r.old * 4 + 1, none⟩ (.string x.t)).setCell ⟨g, r.old * 4 + 2, none⟩ (.int .i64 x.g)).setCell ⟨g, r.old * 4 + 3, none⟩ (.int .i64 x.a)).setCell ⟨p, 4, none⟩ (.int .i64 (((r.old + 1) % r.size : Nat) : Int))) p bm (.slice (some ⟨g, 0, none⟩) n c) (.slice (some ⟨g, 0, none⟩) n c) k r x ((r.old + 1) % r.size) t := by
  have hgp : g ≠ p := by have := h.ne; simpa [Value.ownBlock] using this
  have he := hr.at' 0 (by simp)
  have hj := hr.idx (i := 0) (by simp)
  rw [Nat.add_zero, Nat.mod_eq_of_lt hr.lt] at he hj
  simp only [List.getElem?_cons_zero] at he
  have o0 := h.own.setCell (g := g) (j := r.old) (i := 0) rfl he (y := { y with q := x.q }) (.int .u16 x.q) (by decide) rfl
  have o1 := o0.setCell (g := g) (j := r.old) (i := 1) rfl (x := { y with q := x.q }) (by rw [List.getElem?_set_self hj]) (y := { y with q := x.q, t := x.t }) (.string x.t) (by decide) rfl
  rw [List.set_set] at o1
  have o2 := o1.setCell (g := g) (j := r.old) (i := 2) rfl (x := { y with q := x.q, t := x.t }) (by rw [List.getElem?_set_self hj]) (y := { y with q := x.q, t := x.t, g := x.g }) (.int .i64 x.g) (by decide) rfl
  rw [List.set_set] at o2
  have o3 := o2.setCell (g := g) (j := r.old) (i := 3) rfl (x := { y with q := x.q, t := x.t, g := x.g }) (by rw [List.getElem?_set_self hj]) (y := x) (.int .i64 x.a) (by decide) rfl
  rw [List.set_set] at o3
  have e4 : PE.n = 4 := rfl
  rw [e4, Nat.add_zero] at o3
  have t1 : Turns (· = g) wx ((((wx.setCell ⟨g, r.old * 4, none⟩ (.int .u16 x.q)).setCell ⟨g, r.old * 4 + 1, none⟩ (.string x.t)).setCell ⟨g, r.old * 4 + 2, none⟩ (.int .i64 x.g)).setCell ⟨g, r.old * 4 + 3, none⟩ (.int .i64 x.a)) := ((((Turns.refl (· = g) wx).setCell (.inl rfl) _).setCell (.inl rfl) _).setCell (.inl rfl) _).setCell (.inl rfl) _
  generalize (((wx.setCell ⟨g, r.old * 4, none⟩ (.int .u16 x.q)).setCell ⟨g, r.old * 4 + 1, none⟩ (.string x.t)).setCell ⟨g, r.old * 4 + 2, none⟩ (.int .i64 x.g)).setCell ⟨g, r.old * 4 + 3, none⟩ (.int .i64 x.a) = w3 at *
  have t2 : Turns (· = p) w3 (w3.setCell ⟨p, 4, none⟩ (.int .i64 (((r.old + 1) % r.size : Nat) : Int))) := (Turns.refl (· = p) _).setCell (.inl rfl) _
  obtain ⟨D, hD, hMp⟩ := h.map
  have hrt := hr.turn hf x
  refine ⟨(t1.blk h.blk (fun e => hgp e.symm)).set 4 _, ⟨l.set r.old x, o3.turns t2 (fun g' hg' e => ?_), hrt⟩, ⟨D, ownsMap_turns (ownsMap_turns hD t1 hbg) t2 hbm, hMp⟩, h.ne, ?_, .inl rfl⟩
  · have hg2 : g = g' := by simpa [Value.ownBlock] using hg'
    exact hgp (hg2.trans e)
  · exact h.turns.trans ((t1.mono (S' := fun k => Foot p bm (.slice (some ⟨g, 0, none⟩) n c) k ∨ w.heap.size ≤ k) (fun k _ hk => .inl (.inr (.inr (by rw [hk]; rfl))))).trans (t2.mono (fun k _ hk => .inl (.inl (.inl hk)))))

theorem Placed.drew {w wx : World} {p bm k : Nat} {pv pv' : Value} {r : R} {x : P} {o : Nat} {T : List P} (h : Placed w wx p bm pv pv' k r x o T) : Placed w wx.drew p bm pv pv' k r x o T := ⟨h.blk, h.own, h.map, h.ne, h.turns.drew, h.loc⟩
theorem Half.mk_grown {w wc w1 : World} {p bm k g c n : Nat} {r : R} {x : P} {l t : List P} {D : DataW Unit} (hB : Blk wc p (cells r bm (.slice (some ⟨g, 0, none⟩) n c)) RT) (hO : Owns PE PT wc (.slice (some ⟨g, 0, none⟩) n c) l) (hX : Blk wc w.heap.size (rowP x) PT) (hN : New w wc)
    (hne : (Value.slice (some ⟨g, 0, none⟩) n c).ownBlock ≠ some p) (hbm : bm ≠ p) (hbg : bm ≠ g) (hml : bm < w.heap.size) (ht : Turns (· = bm) wc w1) (hD : w1.ownsMap Try.prog 29 (plainElem Try.prog 3) bm k D) (hM : Mp D r.size ((r.old + 1) % r.size) t) :
    Half w w1 p bm (.slice (some ⟨g, 0, none⟩) n c) k r x w.heap.size l t :=
  ⟨ht.blk hB (fun e => hbm e.symm), hO.turns ht (fun g' hg' e => hbg (by have : g = g' := by simpa [Value.ownBlock] using hg'
                                                                         rw [this, e])), ⟨D, hD, hM⟩, ht.blk hX (by omega), hne, (hN.mono (fun _ _ h => h.elim)).trans (ht.mono (fun k _ hk => .inl (.inr (.inl hk))))⟩
/-- what region 8 reads -/
theorem Half.reads {w wx : World} {p bm k pb g c n : Nat} {r : R} {x y : P} {l t : List P} (h : Half w wx p bm (.slice (some ⟨g, 0, none⟩) n c) k r x pb l t) (hr : Rot r.size r.old l (y :: t)) :
    (wx.cell? ⟨g, r.old * 4, none⟩ = some (.int .u16 y.q) ∧ wx.cell? ⟨g, r.old * 4 + 1, none⟩ = some (.string y.t) ∧ wx.cell? ⟨g, r.old * 4 + 2, none⟩ = some (.int .i64 y.g) ∧ wx.cell? ⟨g, r.old * 4 + 3, none⟩ = some (.int .i64 y.a)) ∧ (∀ o, wx.frozen? ⟨g, o, none⟩ = false) := by
  obtain ⟨ao, c', e, _, hrd, _⟩ := h.own.form
  injection e with e _ _
  subst e
  have he := hr.at' 0 (by simp)
  rw [Nat.add_zero, Nat.mod_eq_of_lt hr.lt] at he
  simp only [List.getElem?_cons_zero] at he
  refine ⟨?_, ?_⟩
  · rcases hrd with h0 | ⟨g', e, hg', hcell⟩
    · rw [h0] at he; simp at he
    · injection e with e
      injection e with e
      subst e
      exact ⟨hcell _ y he 0 _ rfl, hcell _ y he 1 _ rfl, hcell _ y he 2 _ rfl, hcell _ y he 3 _ rfl⟩
  · rcases h.own.2 with ⟨e, _⟩ | ⟨g', cap, cur, e, _, hg, _⟩
    · exact absurd e (by simp)
    · injection e with e _ _
      injection e with e
      injection e with e
      subst e; exact (show Blk wx g cur PT from hg).free

set_option maxHeartbeats 1000000 in
set_option maxRecDepth 100000 in
theorem place_turn (p bm : Nat) (pv : Value) (k : Nat) (r : R) (x y : P) (t : List P) (w : World) (h : Rg w p bm pv k r) (hL : r.L = y :: t) (hlt : ¬ r.L.length < r.size) :
    Calls Try.prog 36 #[.pointer (some ⟨p, 0, none⟩), .agg (rowP x)] w fun e w' => e = .returned (.int .i64 r.old) ∧ ∃ pv', Placed w w' p bm pv pv' k r x ((r.old + 1) % r.size) t := by
  obtain ⟨l, hl, hr⟩ := h.own
  have hx : r.L[0]? = some y := by rw [hL]; rfl
  obtain ⟨g, c, j, hpv, hj, hjl, y0, _, _, _⟩ := h.at' hx
  rw [Nat.add_zero, Nat.mod_eq_of_lt hr.lt] at hj
  subst hj
  obtain ⟨D, hD, hMp⟩ := h.map
  have hyo := h.ok.p y (List.mem_of_getElem? hx)
  obtain ⟨i, hi⟩ : ∃ i, lastIdx r.L y.q = some i := by rw [hL]; exact lastIdx_head
  obtain ⟨hh, ha'⟩ := (hMp y.q hyo.q0 hyo.q1).2 i hi
  have ha := ha' (.lit (.int .i64 0))
  have hkey := keyU hyo.q0 hyo.q1
  have hil := lastIdx_lt hi
  have hMN := h.mne
  have hMV := h.mnv g (by rw [hpv]; rfl)
  have HMN := Lib.hid (And.intro hMN hMV)
  have hrt : Hid (Rot r.size r.old l (y :: t)) := Lib.hid (by rw [← hL]; exact hr)
  have hft : Hid (¬ (y :: t).length < r.size) := Lib.hid (by rw [← hL]; exact hlt)
  have hz := h.ok.z1
  have hle := h.le
  have hrl := hr.lt
  have hlt2 : ¬ (r.L.length : Int) < (r.size : Int) := by omega
  have hgfr : ∀ o, w.frozen? ⟨g, o, none⟩ = false := by
    rcases hl.2 with ⟨e, _⟩ | ⟨g', cap, cur, e, _, hg, _⟩
    · rw [hpv] at e; exact absurd e (by simp)
    · rw [hpv] at e
      injection e with e _ _
      injection e with e
      injection e with e
      subst e; exact (show Blk w g cur PT from hg).free
  have hgl : g < w.heap.size := h.vlt g (by rw [hpv]; rfl)
  have hpl := h.lt
  have hml := h.mlt
  have hgp : g ≠ p := by have := h.ne; rw [hpv] at this; simpa [Value.ownBlock] using this
  have c0 := h.blk.cell 0
  have c3 := h.blk.cell 3
  have c4 := h.blk.cell 4
  have c5 := h.blk.cell 5
  have f4 := h.blk.free 4
  rw [hpv] at c3
  have hom : r.old ≤ maxLen := by unfold maxLen; omega
  have hlm : r.L.length ≤ maxLen := by unfold maxLen; omega
  have b0 : (0 : Int) ≤ (r.old : Int) := by omega
  have b1 : (r.old : Int) < (r.L.length : Int) := by omega
  have hw1 : IntKind.i64.wrap ((r.old : Int) + 1) = (r.old : Int) + 1 := IntWalk.i64_in _ (by omega)
  have hrem : Int.tmod ((r.old : Int) + 1) (r.size : Int) = (((r.old + 1) % r.size : Nat) : Int) := by rw [Int.tmod_eq_emod_of_nonneg (by omega)]; simp
  have HK : Hid (∀ m, Blk ((w.alloc (.cells (rowP x) PT)).drewN m) p (cells r bm pv) RT ∧ Owns PE PT ((w.alloc (.cells (rowP x) PT)).drewN m) pv l ∧ ((w.alloc (.cells (rowP x) PT)).drewN m).ownsMap Try.prog 29 (plainElem Try.prog 3) bm k D ∧ Blk ((w.alloc (.cells (rowP x) PT)).drewN m) w.heap.size (rowP x) PT ∧ New w ((w.alloc (.cells (rowP x) PT)).drewN m)) := Lib.hid (fun m =>
    ⟨h.blk.alloc _, (hl.turns ((Turns.refl (fun _ => False) _).alloc _) (fun _ _ h => h)).turns ((Turns.refl (fun _ => False) _).drewN m) (fun _ _ h => h), hD.alloc _, Blk.new _ _ _, ((Turns.refl _ _).alloc _).drewN m⟩)
  have HNE := Lib.hid h.ne
  have HMp := Lib.hid hMp
  have HI := Lib.hid hi
  have HLL := Lib.hid hL
  have HLT := Lib.hid hlt
  have hlt3 : decide ((r.L.length : Int) < (r.size : Int)) = false := by simpa using hlt2
  have HREM := Lib.hid hrem
  clear hrem
  clear h hr hl hD hMp hi hL ha' hx hyo hMN hMV hgfr hh hil hjl y0 c4 f4 c5 hlt
  subst hpv
  go_enter Try.func36, Try.ntmps36
  go_wp2_with fail
  go_quiet (fail)
  go_upto_region 4 with fail
  have hk := HK.out nq
  clear HK c3 c0
  refine (show Code.wp _ _ _ _ ((w.alloc (.cells (rowP x) PT)).drewN nq) from ?_)
  generalize (w.alloc (.cells (rowP x) PT)).drewN nq = wc at *
  obtain ⟨hb, hl, hD, hbx, hn⟩ := hk
  have HN := Lib.hid hn
  have HB := Lib.hid hb
  have HL := Lib.hid hl
  have HX := Lib.hid hbx
  have c3 := hb.cell 3
  have c4 := hb.cell 4
  have c5 := hb.cell 5
  have HQ : Hid (wc.cell? ⟨g, r.old * 4, none⟩ = some (.int .u16 y.q) ∧ (∀ o, wc.frozen? ⟨g, o, none⟩ = false)) := Lib.hid (by
    obtain ⟨ao, c', e, _, hrd, _⟩ := hl.form
    injection e with e _ _
    subst e
    have he := hrt.out.at' 0 (by simp)
    rw [Nat.add_zero, Nat.mod_eq_of_lt hrt.out.lt] at he
    simp only [List.getElem?_cons_zero] at he
    refine ⟨?_, ?_⟩
    · rcases hrd with h0 | ⟨g', e, hg', hcell⟩
      · rw [h0] at he; simp at he
      · injection e with e
        injection e with e
        subst e
        exact hcell _ y he 0 _ rfl
    · rcases hl.2 with ⟨e, _⟩ | ⟨g', cap, cur, e, _, hg, _⟩
      · exact absurd e (by simp)
      · injection e with e _ _
        injection e with e
        injection e with e
        subst e; exact (show Blk wc g cur PT from hg).free)
  have q0 := HQ.out.1
  have hlz := hn.size
  clear hn hb hl hbx HQ
  by_cases hi0 : i = 0
  · have ht0 : lastIdx t y.q = none := by
      have := HI.out
      rw [HLL.out, lastIdx_cons, hi0] at this
      cases hlt : lastIdx t y.q with
      | none => rfl
      | some j => rw [hlt] at this; simp at this
    have HT0 := Lib.hid ht0
    rw [hi0, Nat.add_zero, Nat.mod_eq_of_lt hrt.out.lt] at ha
    clear ht0
    go_upto_region 8 with (first
      | (at_lookup; refine wpList_look_int rfl _ _ 112 rfl 29 3 .i64 law16 Try.underlying112 Try.underlying3 (zeroI _) bm k D rfl hD _ _ rfl hkey r.old ha ?_)
      | (at_delete; refine wpList_delete_own _ rfl _ _ 112 29 rfl 3 law16 Try.underlying112 _ bm k D rfl hD _ _ rfl hkey ?_; intro w1 hown1 hturn1))
    have HH := Lib.hid (Half.mk_grown (x := x) (t := t) HB.out HL.out HX.out HN.out HNE.out HMN.out.1 HMN.out.2 hml ((Turns.of_grown hturn1.grown).mono (fun _ _ h => by injection h)) hown1 (Mp.tail_del (by rw [← HLL.out]; exact HMp.out) hrl HT0.out))
    clear hown1 hturn1 hD HB HL HX HN ha hkey c3 c4 c5 q0 HI HMp HT0
    have hrds := HH.out.reads hrt.out
    obtain ⟨⟨z0, z1, z2, z3⟩, zf⟩ := hrds
    have zf0 := zf (r.old * 4)
    have zf1 := zf (r.old * 4 + 1)
    have zf2 := zf (r.old * 4 + 2)
    have zf3 := zf (r.old * 4 + 3)
    have d0 := HH.out.blk.cell 0
    have d3 := HH.out.blk.cell 3
    have d4 := HH.out.blk.cell 4
    have e4 := HH.out.blk.free 4
    have x0 := HH.out.box.cell 0
    have x1 := HH.out.box.cell 1
    have x2 := HH.out.box.cell 2
    have x3 := HH.out.box.cell 3
    clear zf
    have HFIN : Hid (Placed w ((((((w1.setCell ⟨g, r.old * 4, none⟩ (.int .u16 x.q)).setCell ⟨g, r.old * 4 + 1, none⟩ (.string x.t)).setCell ⟨g, r.old * 4 + 2, none⟩ (.int .i64 x.g)).setCell ⟨g, r.old * 4 + 3, none⟩ (.int .i64 x.a)).setCell ⟨p, 4, none⟩ (.int .i64 (((r.old : Int) + 1) % (r.size : Int)))).drew) p bm (.slice (some ⟨g, 0, none⟩) r.L.length c) (.slice (some ⟨g, 0, none⟩) r.L.length c) k r x ((r.old + 1) % r.size) t) := Lib.hid (by
      have h := HH.out.placed hrt.out hft.out HMN.out.1 HMN.out.2
      rw [show (((r.old + 1) % r.size : Nat) : Int) = ((r.old : Int) + 1) % (r.size : Int) by simp] at h
      exact h.drew)
    go_region
    all_goals
      go_wp2
      go_ret
      exact ⟨rfl, _, HFIN.out⟩
  · have hne : ((((r.old + i) % r.size : Nat) : Int) == (r.old : Int)) = false := by
      have hil := lastIdx_lt HI.out
      have h1 : (r.old + i) % r.size ≠ r.old := fun e => hi0 (mod_inj hrl (by omega) (by omega) (by rw [e, Nat.add_zero, Nat.mod_eq_of_lt hrl]))
      simp only [beq_eq_false_iff_ne]
      omega
    obtain ⟨j, ht0⟩ : ∃ j, lastIdx t y.q = some j := by
      have := HI.out
      rw [HLL.out, lastIdx_cons] at this
      cases hlt : lastIdx t y.q with
      | none => rw [hlt] at this; simp at this; omega
      | some j => exact ⟨j, rfl⟩
    have HT0 := Lib.hid ht0
    clear ht0
    generalize (((r.old + i) % r.size : Nat) : Int) = vv at *
    go_upto_region 8 with (first
      | (at_lookup; refine wpList_look_int rfl _ _ 112 rfl 29 3 .i64 law16 Try.underlying112 Try.underlying3 (zeroI _) bm k D rfl hD _ _ rfl hkey vv ha ?_))
    have HH := Lib.hid (Half.mk_grown (x := x) (t := t) HB.out HL.out HX.out HN.out HNE.out HMN.out.1 HMN.out.2 hml (Turns.refl _ _) hD (Mp.tail_keep (by rw [← HLL.out]; exact HMp.out) hrl HT0.out))
    clear hD HB HL HX HN ha hkey c3 c4 c5 q0 HI HMp HT0 hne
    have hrds := HH.out.reads hrt.out
    obtain ⟨⟨z0, z1, z2, z3⟩, zf⟩ := hrds
    have zf0 := zf (r.old * 4)
    have zf1 := zf (r.old * 4 + 1)
    have zf2 := zf (r.old * 4 + 2)
    have zf3 := zf (r.old * 4 + 3)
    have d0 := HH.out.blk.cell 0
    have d3 := HH.out.blk.cell 3
    have d4 := HH.out.blk.cell 4
    have e4 := HH.out.blk.free 4
    have x0 := HH.out.box.cell 0
    have x1 := HH.out.box.cell 1
    have x2 := HH.out.box.cell 2
    have x3 := HH.out.box.cell 3
    clear zf
    have HFIN : Hid (Placed w ((((((wc.setCell ⟨g, r.old * 4, none⟩ (.int .u16 x.q)).setCell ⟨g, r.old * 4 + 1, none⟩ (.string x.t)).setCell ⟨g, r.old * 4 + 2, none⟩ (.int .i64 x.g)).setCell ⟨g, r.old * 4 + 3, none⟩ (.int .i64 x.a)).setCell ⟨p, 4, none⟩ (.int .i64 (((r.old : Int) + 1) % (r.size : Int)))).drew) p bm (.slice (some ⟨g, 0, none⟩) r.L.length c) (.slice (some ⟨g, 0, none⟩) r.L.length c) k r x ((r.old + 1) % r.size) t) := Lib.hid (by
      have h := HH.out.placed hrt.out hft.out HMN.out.1 HMN.out.2
      rw [show (((r.old + 1) % r.size : Nat) : Int) = ((r.old : Int) + 1) % (r.size : Int) by simp] at h
      exact h.drew)
    go_region
    all_goals
      go_wp2
      go_ret
      exact ⟨rfl, _, HFIN.out⟩
end Go.Proofs.Ytfdmgloimibioaa.rng
