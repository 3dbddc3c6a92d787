/-
  Meter.Add.
-/
import Derived.Test.YtfhbcdjbfjoknaaRatFind
import Derived.Deep.RegionLaw
namespace Go.Proofs.Ytfhbcdjbfjoknaa.rat
open Go.RowKit mem
set_option linter.unusedVariables false

abbrev Foot (p : Nat) (v : Value) (k : Nat) : Prop := k = p ∨ v.ownBlock = some k
/-- what a call on the meter leaves: its sends may lie elsewhere -/
structure Lft (w w' : World) (p : Nat) (v v' : Value) (s : M) : Prop where
  ms : Ms w' p v' s
  t : Turns (Foot p v) w w'
  vb : ∀ g, v'.ownBlock = some g → v.ownBlock = some g ∨ w.heap.size ≤ g
theorem Asc.drop {l : List (Int × Int)} (h : Asc l) (n : Nat) : Asc (l.drop n) := by
  intro i j hi hj
  have hj' : j < l.length - n := by simpa using hj
  simp only [List.getElem_drop]
  exact h (n + i) (n + j) (by omega) (by omega)
theorem store_sends {w w1 : World} {p : Nat} {v v1 : Value} {s : M} {L : List (Int × Int)} (h : Ms w p v s) (n : New w w1) (ht : Tl w1 v1 L) (hv : ∀ g, v1.ownBlock = some g → v.ownBlock = some g) : Lft w (w1.setCell ⟨p, 1, none⟩ v1) p v v1 { s with L := L } := by
  have hb := (h.later n).blk.set 1 v1
  have t2 : Turns (· = p) w1 (w1.setCell ⟨p, 1, none⟩ v1) := (Turns.refl (· = p) _).setCell (.inl rfl) _
  refine ⟨⟨hb, ht.turns t2 (fun g hg e => h.ne g (hv g hg) e), fun g hg => h.ne g (hv g hg)⟩, (n.mono (fun _ _ h => h.elim)).trans (t2.mono (fun k _ hk => .inl (.inl hk))), fun g hg => .inl (hv g hg)⟩

theorem tl_of_owns {w : World} {v : Value} {l : List (Int × Int)} (h : Owns SE PT w v l) : Tl w v l := by
  have hcs := @World.ownsRow.cells _ _ _ _ _ _ _ h
  have hlt := h.lt
  rcases h.2 with ⟨rfl, h0⟩ | ⟨g, cap, cur, rfl, hb, hg, hc, hm, hs, ht⟩
  · exact .inl ⟨rfl, List.length_eq_zero_iff.1 h0⟩
  · have hB : Blk w g cur PT := hg
    refine .inr ⟨g, 0, cap, rfl, hc, hm, hlt g rfl, fun j u hu => ?_, fun j hj => ⟨?_, hB.free _⟩⟩
    · have := hcs (g := g) rfl j u hu
      rw [Nat.zero_add]
      rwa [show (⟨g, 0, none⟩ : Addr).add j = ⟨g, j, none⟩ by unfold Addr.add; split <;> simp_all] at this
    · have hs' : cur.size = cap * 2 := hs
      rw [hB.cell, Array.getElem?_eq_getElem (by rw [hs']; omega)]
      rfl
theorem grown_none {w w' : World} {r : Option Nat} (h : w.grownBy w' none) : w.grownBy w' r := ⟨h.os, h.tape, h.output, h.size, fun k hk _ => h.block k hk (by simp)⟩

/-- append of one element that lies in a block of its own -/
theorem Tl.append {ty : TypeId} {W : World} {v : Value} {l : List (Int × Int)} {x : Int × Int} (h : Tl W v l) (hl : l.length ≤ 3000) (gn : Nat) (hb : Blk W gn #[.int .i64 x.1, .int .i64 x.2] PT) (hne : v.ownBlock ≠ some gn) :
    ∃ v' w', (Builtin.append_ #[ST, ST] ty #[v, .slice (some ⟨gn, 0, none⟩) 1 1]).run Try.prog W = .ok v' w' ∧ Tl w' v' (l ++ [x]) ∧ W.grownBy w' v.ownBlock ∧ (∀ g, v'.ownBlock = some g → v.ownBlock = some g ∨ W.heap.size ≤ g) := by
  have hnews : ∀ j u, (SE.all [x])[j]? = some u → W.cell? ((⟨gn, 0, none⟩ : Addr).add j) = some u := by
    rw [SE.all_one]
    exact World.news_of_block (cs := #[.int .i64 x.1, .int .i64 x.2]) hb
  obtain ⟨i0, hi', hz0, hz1, hz2⟩ := infoOf infoS
  rcases h with ⟨rfl, rfl⟩ | ⟨g, o, c, rfl, h1, h2, h3, h4, h5⟩
  · obtain ⟨v', w', hrun, ho, hg, ha⟩ := Owns.append (P := Try.prog) (ty := ty) (E := SE) Try.underlying87 infoS rfl (by decide) (Owns.nil PT W) (m := [x]) gn 1 hnews (by simp) (by decide)
    exact ⟨v', w', hrun, tl_of_owns ho, hg, fun g hg' => ha.elim (fun e => .inl (e ▸ hg')) (fun e => .inr (by rw [e] at hg'; injection hg' with e; omega))⟩
  · have hlen : (SE.all l).length = l.length * 2 := SE.all_length l
    by_cases hr : l.length + 1 ≤ c
    · have hrun := run_append_room_cells (P := Try.prog) W ST ty PT i0 Try.underlying87 hi' g o l.length c ⟨gn, 0, none⟩ 1 1 (SE.all [x]) (by rw [hz1]; rfl) hnews (SE.all_cell _) hr
        (fun j hj => by rw [hz1]; have hj' : j < 2 := hj; exact (h5 j (by omega)).1) (fun j hj => by rw [hz1]; have hj' : j < 2 := hj; exact (h5 j (by omega)).2)
      rw [hz1] at hrun
      have ht : Turns (fun k => k = g) W (W.setCells g (o + l.length * 2) (SE.all [x])) := Turns.setCells (S := fun k => k = g) (.inl rfl) _ _ _ (Turns.refl _ _)
      have hsz : (l ++ [x]).length = l.length + 1 := by simp
      refine ⟨_, _, hrun, .inr ⟨g, o, c, by rw [hsz], by omega, h2, Nat.lt_of_lt_of_le h3 ht.size, fun j u hu => ?_, fun j hj => ?_⟩, ⟨ht.os, ht.tape, ht.output, ht.size, fun k hk hn => ht.block k hk (fun e => hn (by rw [e]; rfl))⟩, fun g' hg' => .inl hg'⟩
      · rw [SE.all_append] at hu
        by_cases hjl : j < l.length * 2
        · rw [List.getElem?_append_left (by rw [hlen]; exact hjl)] at hu
          exact (World.cell?_setCells_out g (SE.all [x]) (o + l.length * 2) W ⟨g, o + j, none⟩ (fun _ _ => .inl (by show o + j < _; omega))).trans (h4 j u hu)
        · rw [List.getElem?_append_right (by rw [hlen]; omega), hlen] at hu
          have hjn : j - l.length * 2 < (SE.all [x]).length := (List.getElem?_eq_some_iff.1 hu).1
          have hjn2 : j - l.length * 2 < 2 := hjn
          have e := World.cell?_setCells_in g (SE.all [x]) (o + l.length * 2) W (fun j hj => (h5 j (by have hj' : j < 2 := hj; omega)).1) (j - l.length * 2) hjn
          rw [show o + l.length * 2 + (j - l.length * 2) = o + j by omega] at e
          rw [e]
          exact (List.getElem?_eq_getElem hjn).symm.trans hu
      · rw [hsz] at hj ⊢
        rw [World.frozen?_setCells, World.cell?_setCells_out g (SE.all [x]) (o + l.length * 2) W _ (fun _ _ => .inr (by show o + l.length * 2 + 2 ≤ o + (l.length + 1) * 2 + j; omega))]
        have := h5 (2 + j) (by omega)
        rwa [show o + l.length * 2 + (2 + j) = o + (l.length + 1) * 2 + j by omega] at this
    · obtain ⟨v', w', hrun, ho, hg⟩ := run_append_arg_grows (P := Try.prog) W ST ty PT i0 _ 2 16 Try.underlying87 hi' hz0 hz1 hz2 rfl (by decide) ⟨g, o, none⟩ l.length c (SE.all l) hlen
        (fun j u hj => by have := h4 j u hj; rwa [show (⟨g, o, none⟩ : Addr).add j = ⟨g, o + j, none⟩ by unfold Addr.add; split <;> simp_all]) ⟨gn, 0, none⟩ 1 1 (SE.all [x]) rfl hnews (by omega) (by unfold maxLen; omega) (by omega)
      have hlt := @World.ownsRow.lt _ _ _ _ _ _ _ ho
      have hown : Owns SE PT w' v' (l ++ [x]) := by
        unfold Owns
        rw [SE.all_append, List.length_append]
        exact ⟨ho.1, ho.2.imp id fun ⟨g, cap, cur, h1, h2, h3⟩ => ⟨g, cap, cur, h1, Nat.zero_le _, h3⟩⟩
      exact ⟨v', w', hrun, tl_of_owns hown, grown_none hg, fun g' hg' => .inr (hlt g' hg').1⟩

theorem step_append_tl {ops : Array Oper} {o : Oper} {a : Act} {K : Act → World → Prop} {Q : Exit → Act → World → Prop} {X : Prop} {W : World} (hgd : o.guard = none) (sl x : Operand)
    (ho : o.op = .call { callee := .builtin .append, args := #[sl, x], argTypes := #[ST, ST] }) (v : Value) (l : List (Int × Int)) (y : Int × Int) (hs : a.eval sl = v) (gn : Nat) (hx : a.eval x = .slice (some ⟨gn, 0, none⟩) 1 1) (hr : Tl W v l)
    (hb : Blk W gn #[.int .i64 y.1, .int .i64 y.2] PT) (hne : v.ownBlock ≠ some gn) (hl : l.length ≤ 3000)
    (h : ∀ v' w', Tl w' v' (l ++ [y]) → W.grownBy w' v.ownBlock → (∀ g, v'.ownBlock = some g → v.ownBlock = some g ∨ W.heap.size ≤ g) → K (a.put o.dst v') w') :
    if Region.wanted o (yielded ops a.tmps) = true then Oper.wp Try.prog o a W K Q else X := by
  have hw : Region.wanted o (yielded ops a.tmps) = true := by simp [Region.wanted, hgd]
  rw [if_pos hw]
  obtain ⟨v', w', hrun, h2, h3, h4⟩ := Tl.append (ty := o.type) hr hl gn hb hne
  unfold Oper.wp execOp
  simp only [ho, resolve, invoke, builtin, Sem.run_bind, Sem.run_pure, Result.andThen_ok, List.map_toArray, List.map_cons, List.map_nil, hs, hx, hrun]
  exact h v' w' h2 h3 h4
theorem Lft.trans {w w1 w2 : World} {p : Nat} {v v1 v2 : Value} {s1 s2 : M} (h1 : Lft w w1 p v v1 s1) (h2 : Lft w1 w2 p v1 v2 s2) : Lft w w2 p v v2 s2 :=
  ⟨h2.ms, h1.t.trans (h2.t.mono (fun k _ hk => by
    rcases hk with hk | hk
    · exact .inl (.inl hk)
    · rcases h1.vb k hk with h | h
      · exact .inl (.inr h)
      · exact .inr h)), fun g hg => by
    rcases h2.vb g hg with h | h
    · exact h1.vb g h
    · exact .inr (Nat.le_trans h1.t.size h)⟩
/-- behind the append: the meter's block, and what is left when the new slice is stored -/
theorem placed {w W w8 : World} {p : Nat} {v v8 : Value} {s : M} {L : List (Int × Int)} (h : Ms w p v s) (n : New w W) (ht : Tl w8 v8 L) (hg : W.grownBy w8 v.ownBlock) (hb : ∀ g, v8.ownBlock = some g → v.ownBlock = some g ∨ W.heap.size ≤ g) :
    Blk w8 p (cells s v) MT ∧ Lft w (w8.setCell ⟨p, 1, none⟩ v8) p v v8 { s with L := L } := by
  have t1 : Turns (fun k => v.ownBlock = some k) w w8 := (n.mono (fun _ _ h => h.elim)).trans ((Turns.of_grown hg).mono (fun k _ hk => .inl hk.symm))
  have hb8 := t1.blk h.blk (fun e => h.ne p e rfl)
  have hpl := h.blk.lt
  have hn8 : ∀ g, v8.ownBlock = some g → g ≠ p := fun g hg' => by
    rcases hb g hg' with e | e
    · exact h.ne g e
    · have := n.size; omega
  have t2 : Turns (· = p) w8 (w8.setCell ⟨p, 1, none⟩ v8) := (Turns.refl (· = p) _).setCell (.inl rfl) _
  exact ⟨hb8, ⟨hb8.set 1 v8, ht.turns t2 (fun g hg' e => hn8 g hg' e), hn8⟩, (t1.mono (fun _ _ hk => .inr hk)).trans (t2.mono (fun _ _ hk => .inl (.inl hk))), fun g hg' => (hb g hg').elim .inl (fun h => .inr (Nat.le_trans n.size h))⟩

def clampB (b : Int) : Int := min (max b 0) 1073741824
def addL (L : List (Int × Int)) (now total : Int) : List (Int × Int) := if (L.getLastD (-1, 0)).1 = now then L else L ++ [(now, total)]
theorem getLastD_at {L : List (Int × Int)} {m : Nat} (h : L.length = m + 1) : L.getLastD (-1, 0) = L[m] := by
  have hne : L ≠ [] := by intro e; simp [e] at h
  rw [List.getLastD_eq_getLast?, List.getLast?_eq_some_getLast hne, Option.getD_some, List.getLast_eq_getElem]
  congr 1
  omega
def addM (s : M) (now bytes : Int) (n : Nat) : M := { s with L := addL (s.L.drop n) now s.total, total := s.total + clampB bytes }

set_option maxRecDepth 10000 in
set_option maxHeartbeats 4000000 in
theorem add (p : Nat) (v : Value) (s : M) (now bytes : Int) (w : World) (h : Ms w p v s) (ho : s.ok) (n0 : 0 ≤ now) (n1 : now ≤ 4398046511104) (b0 : -9223372036854775808 ≤ bytes) (b1 : bytes ≤ 9223372036854775807) :
    Calls Try.prog 27 #[.pointer (some ⟨p, 0, none⟩), .int .i64 now, .int .i64 bytes] w fun e w' => e = .returned (.tuple #[]) ∧ ∃ n v', Cut s.L (now - s.win + 1) n ∧ Lft w w' p v v' (addM s now bytes n) := by
  obtain ⟨⟨c0, c1, c2, c3⟩, f1, f2, f3⟩ := four h.blk
  have HOL := Lib.hid (fun W (n : New w W) => oldest p v s now W (h.later n) ho n0 n1)
  have HMS := Lib.hid h
  have HOK := Lib.hid ho
  have hl := ho.ln
  have hplt := h.blk.lt
  clear ho
  go_enter Try.func27, Try.ntmps27
  go_upto_region 0 with fail
  go_cut [] (fun wx => ∃ n v1, Cut s.L (now - s.win + 1) n ∧ Lft w wx p v v1 { s with L := s.L.drop n })
  case first =>
    rcases id h.tl with ⟨rfl, hL⟩ | ⟨g, o, c, hv, hlc, hcm, hg, _⟩
    · have HL := Lib.hid hL
      clear h hL
      go_region_with (go_at_call 48; (with_reducible refine Calls.mono (HOL.out _ ?_) ?_); (focus (exact (Turns.refl _ _).drew)); rintro e w2 ⟨n, rfl, hc, n2⟩; have hnl : n = 0 := (by have := hc.1; rw [HL.out] at this; simpa using this); have hb2 := (HMS.out.later (Turns.of_drew n2)).blk; obtain ⟨⟨z0, z1, z2, z3⟩, y1, y2, y3⟩ := four hb2; have HCN := Lib.hid (And.intro hc (Turns.of_drew n2)); clear hc n2 hb2; subst hnl)
      all_goals
        go_wp2_with fail
        go_meet
        case rel => exact ⟨0, .slice none 0 0, HCN.out.1, store_sends HMS.out HCN.out.2 (.inl ⟨rfl, by rw [HL.out]; rfl⟩) (fun g hg => hg)⟩
    · have hne := h.ne g (by rw [hv]; rfl)
      have hcm' : c ≤ 9223372036854775807 := by unfold maxLen at hcm; omega
      clear h
      subst hv
      go_region_with (go_at_call 48; (with_reducible refine Calls.mono (HOL.out _ ?_) ?_); (focus (exact (Turns.refl _ _).drew)); rintro e w2 ⟨n, rfl, hc, n2⟩; have hnl := hc.1; have hb2 := (HMS.out.later (Turns.of_drew n2)).blk; obtain ⟨⟨z0, z1, z2, z3⟩, y1, y2, y3⟩ := four hb2; have i1 : (n : Int) ≤ (s.L.length : Int) := (by omega); have HCN := Lib.hid (And.intro hc (Turns.of_drew n2)); clear hc n2 hb2)
      all_goals
        go_wp2_with fail
        all_goals
          go_meet
          case rel =>
            have hd := (((HMS.out.later HCN.out.2).tl).drop n hnl).2 g o rfl
            first
              | exact ⟨n, _, HCN.out.1, store_sends HMS.out HCN.out.2 hd (fun g' hg' => by
                  have : g = g' := by split at hg' <;> simpa [Value.ownBlock] using hg'
                  subst this; rfl)⟩
              | (rw [if_pos (by assumption), show c - n = 0 by omega] at hd
                 exact ⟨n, _, HCN.out.1, store_sends HMS.out HCN.out.2 hd (fun g' hg' => by
                  have : g = g' := by simpa [Value.ownBlock] using hg'
                  subst this; rfl)⟩)
              | (rw [if_neg (by assumption)] at hd
                 exact ⟨n, _, HCN.out.1, store_sends HMS.out HCN.out.2 hd (fun g' hg' => by
                  have : g = g' := by simpa [Value.ownBlock] using hg'
                  subst this; rfl)⟩)
  case rest =>
    obtain ⟨n, v1, hcut, hlft⟩ := hcut
    have HCU := Lib.hid hcut
    have HLF := Lib.hid hlft
    clear hcut hlft c0 c1 c2 c3 f1 f2 f3 h HOL
    obtain ⟨L1, hL1⟩ : ∃ L1, L1 = s.L.drop n := ⟨_, rfl⟩
    have HL1 := Lib.hid hL1
    rw [← hL1] at HLF
    have hl1 : L1.length ≤ 2000 := by rw [hL1, List.length_drop]; omega
    clear hL1
    obtain ⟨⟨c0, c1, c2, c3⟩, f1, f2, f3⟩ := four HLF.out.ms.blk
    dsimp only at c0 c1 c2 c3
    obtain ⟨a1, cc1, hv1, hlc1, hcm1⟩ := HLF.out.ms.tl.form
    dsimp only at hv1 hlc1
    subst hv1
    have HT0 := HOK.out.t0
    have HT1 := HOK.out.t1
    have hcc1 : cc1 ≤ 9223372036854775807 := by unfold maxLen at hcm1; omega
    go_upto_region 2 with fail
    go_cut [37] (fun v wx => ∃ B : Bool, v = .bool B ∧ wx = wc ∧ addL L1 now s.total = if B = true then L1 ++ [(now, s.total)] else L1)
    case first =>
      by_cases h0 : L1 = []
      · have HA : Hid (addL L1 now s.total = L1 ++ [(now, s.total)]) := Lib.hid (by subst h0; unfold addL; rw [if_neg (by show ¬ (-1 : Int) = now; omega)])
        have hz : ((L1.length : Int) == 0) = true := by subst h0; rfl
        have hz2 : (L1.length == 0) = true := by subst h0; rfl
        clear h0
        go_wp2_with fail
        go_meet
        case rel => exact ⟨true, rfl, rfl, by rw [HA.out]; rfl⟩
      · obtain ⟨m, hm⟩ : ∃ m, L1.length = m + 1 := ⟨L1.length - 1, by have := List.length_pos_iff.2 h0; omega⟩
        obtain ⟨g1, o1, cc', hv, _, _, hg1, hcell⟩ := Tl.at_ HLF.out.ms.tl h0
        dsimp only at hv hcell
        injection hv with e1 _ e3
        subst e1 e3
        have x0 := (hcell m (by omega)).1
        have HLD := Lib.hid (getLastD_at hm)
        have HADD : Hid (addL L1 now s.total = if (L1.getLastD (-1, 0)).1 = now then L1 else L1 ++ [(now, s.total)]) := Lib.hid rfl
        have hz : ((L1.length : Int) == 0) = false := by simp; exact h0
        have hz2 : (L1.length == 0) = false := by simp; exact h0
        rw [HLD.out] at HADD
        generalize L1[m] = la at *
        have hmI : (L1.length : Int) - 1 = (m : Int) := by omega
        have hmlt : (m : Int) < (L1.length : Int) := by omega
        clear hcell h0 HLD
        by_cases hq : la.1 = now
        · have d1 : (la.1 != now) = false := by simp [hq]
          rw [if_pos hq] at HADD
          clear hq hm
          go_wp2_with fail
          go_meet
          case rel => exact ⟨false, rfl, rfl, by rw [HADD.out]; rfl⟩
        · have d1 : (la.1 != now) = true := by simp [hq]
          rw [if_neg hq] at HADD
          clear hq hm
          go_wp2_with fail
          go_meet
          case rel => exact ⟨true, rfl, rfl, by rw [HADD.out]; rfl⟩
    case rest =>
      obtain ⟨B, rfl, rfl, hB⟩ := hcut
      have HBB := Lib.hid hB
      clear hB
      go_upto_if 37 with fail
      go_cut [] (fun wx => ∃ v2, Lft wc wx p (.slice a1 L1.length cc1) v2 ⟨s.win, s.total, s.cap, addL L1 now s.total⟩)
      case first =>
        cases B
        · go_wp2_with fail
          go_meet
          case rel => exact ⟨_, by rw [HBB.out]; exact ⟨HLF.out.ms, Turns.refl _ _, fun g hg => .inl hg⟩⟩
        · have HM1 := Lib.hid HLF.out.ms
          have HNE1 : Hid ((Value.slice a1 L1.length cc1).ownBlock ≠ some wc.heap.size) := Lib.hid (fun e => by have := HLF.out.ms.tl.lt _ e; omega)
          have HLN1 : Hid (L1.length ≤ 3000) := Lib.hid (by omega)
          have hlen : (L1 ++ [(now, s.total)]).length = L1.length + 1 := by simp
          have HLEN := Lib.hid hlen
          have hpl1 := HLF.out.ms.blk.lt
          clear hlen
          generalize s.total = tt at *
          go_wp2_with fail
          go_region_law (refine step_append_tl (by rfl) _ _ (by rfl) (.slice a1 L1.length cc1) L1 (now, tt) (by rfl) wc.heap.size (by rfl) (HM1.out.later (by repeat (first | with_reducible assumption | with_reducible exact Turns.refl _ _ | with_reducible apply Turns.alloc | with_reducible apply Turns.drew))).tl (by repeat (first | with_reducible exact Blk.new _ _ _ | with_reducible apply Blk.drew)) HNE1.out HLN1.out ?_; intro v8 w8 ht8 hg8 hb8; have HP := Lib.hid (placed HM1.out (by repeat (first | with_reducible assumption | with_reducible exact Turns.refl _ _ | with_reducible apply Turns.alloc | with_reducible apply Turns.drew)) ht8 hg8 hb8); obtain ⟨a8, c8, hv8, _⟩ := ht8.form; rw [HLEN.out] at hv8; have hbk := HP.out.1; obtain ⟨⟨z0, z1, z2, z3⟩, y1, y2, y3⟩ := four hbk; subst hv8; clear ht8 hg8 hb8 hbk)
          all_goals
            go_wp2_with fail
            go_meet
            case rel => exact ⟨_, by rw [HBB.out]; exact HP.out.2⟩
      case rest =>
        obtain ⟨v2, h2⟩ := hcut
        have HL2 := Lib.hid (HLF.out.trans h2)
        clear h2 c0 c1 c2 c3 f1 f2 f3
        obtain ⟨⟨c0, c1, c2, c3⟩, f1, f2, f3⟩ := four HL2.out.ms.blk
        obtain ⟨mx, hmx, hmx2⟩ : ∃ mx, (if bytes < 0 then 0 else bytes) = mx ∧ max bytes 0 = mx := ⟨_, rfl, by split <;> omega⟩
        have hmn : (if 1073741824 < mx then 1073741824 else mx) = clampB bytes := by unfold clampB; rw [hmx2]; split <;> omega
        have hcb : 0 ≤ clampB bytes ∧ clampB bytes ≤ 1073741824 := by unfold clampB; omega
        have HFIN : Hid (∀ W, W = wc.setCell ⟨p, 2, none⟩ (.int .i64 (s.total + clampB bytes)) → Lft w W p v v2 (addM s now bytes n)) := Lib.hid (fun W hW => by
          subst hW
          have t2 : Turns (· = p) wc (wc.setCell ⟨p, 2, none⟩ (.int .i64 (s.total + clampB bytes))) := (Turns.refl (· = p) _).setCell (.inl rfl) _
          have hb := HL2.out.ms.blk.set 2 (.int .i64 (s.total + clampB bytes))
          have hAM : addM s now bytes n = ⟨s.win, s.total + clampB bytes, s.cap, addL L1 now s.total⟩ := by rw [HL1.out]; rfl
          rw [hAM]
          exact ⟨⟨hb, HL2.out.ms.tl.turns t2 (fun g hg e => HL2.out.ms.ne g hg e), HL2.out.ms.ne⟩, HL2.out.t.trans (t2.mono (fun k _ hk => .inl (.inl hk))), HL2.out.vb⟩)
        obtain ⟨hcb0, hcb1⟩ := hcb
        clear hmx2
        generalize clampB bytes = cb at *
        dsimp only at c0 c1 c2 c3
        generalize s.total = tt at *
        go_wp2
        go_end0
        exact ⟨rfl, n, v2, HCU.out, HFIN.out _ rfl⟩
end Go.Proofs.Ytfhbcdjbfjoknaa.rat
