/-
  slices.Insert of one thing, and slices.Delete of the first ones, at reorder's things.
-/
import Derived.Test.YtfgfejcnkjeghaaReoSeq
import Derived.Lib.Overlaps
import Derived.Lib.AppendZerosOnto
import Derived.Laws.IdiomCopy
import Derived.Laws.Externs
namespace Go.Proofs.Ytfgfejcnkjeghaa.reo
open Go.RowKit mem
set_option linter.unusedVariables false

abbrev zeroTh : Value := .agg #[.int .i64 0, .string ⟨#[]⟩, .int .i64 0]
theorem zeroV (w : World) : (zeroValue PT).run Try.prog w = .ok zeroTh w := by kernel_rfl
theorem sizeT (w : World) : (Go.sizeOf PT).run Try.prog w = .ok 3 w := by kernel_rfl

theorem cells_of {w : World} {g cap : Nat} {T : TypeId} {l : List Th} (h : Owns TE T w (.slice (some ⟨g, 0, none⟩) l.length cap) l) :
    (∀ j u, (TE.all l)[j]? = some u → w.cell? ⟨g, j, none⟩ = some u) ∧ (∀ j, w.frozen? ⟨g, j, none⟩ = false) ∧ l.length ≤ cap ∧ cap ≤ maxLen ∧ g < w.heap.size := by
  have hcs := @World.ownsRow.cells _ _ _ _ _ _ _ h
  rcases h.2 with ⟨h0, _⟩ | ⟨g', cap', cur, e, hb, hg, hc, hm, hs, ht⟩
  · cases h0
  · injection e with e1 _ e3
    injection e1 with e1
    injection e1 with e1
    subst e1 e3
    have hB : Blk w g cur T := hg
    refine ⟨fun j u hu => ?_, fun j => hB.free j, hc, hm, hB.lt⟩
    have := hcs (g := g) rfl j u hu
    rwa [show (⟨g, 0, none⟩ : Addr).add j = ⟨g, j, none⟩ by unfold Addr.add; split <;> simp_all] at this

theorem isSome_cells (b : Nat) : ∀ (vs : List Value) (o : Nat) (w : World) (q : Addr), (w.cell? q).isSome = true → ((w.setCells b o vs).cell? q).isSome = true
  | [], _, _, _, h => h
  | v :: vs, o, w, q, h => by
    rw [World.setCells]
    refine isSome_cells b vs (o + 1) _ q ?_
    by_cases e : q = ⟨b, o, none⟩
    · subst e
      obtain ⟨u, hu⟩ := Option.isSome_iff_exists.1 h
      rw [World.cell?_setCell_same' _ _ _ h]; rfl
    · rw [World.cell?_setCell_other _ _ _ _ (fun h => e h.symm)]; exact h

set_option maxRecDepth 100000 in
set_option maxHeartbeats 1000000 in
theorem delete (v : Value) (l : List Th) (n : Nat) (w : World) (h : Owns TE PT w v l) (hn : n ≤ l.length) (hl : l.length ≤ 1048576) :
    Calls Try.prog 37 #[v, .int .i64 0, .int .i64 n] w fun e w' => ∃ v', e = .returned v' ∧ Owns TE PT w' v' (l.drop n) ∧ Turns (fun k => v.ownBlock = some k) w w' ∧ v'.ownBlock = v.ownBlock := by
  have hform : (v = .slice none 0 0 ∧ l = []) ∨ ∃ g cap, v = .slice (some ⟨g, 0, none⟩) l.length cap := by
    rcases h.2 with ⟨e, h0⟩ | ⟨g, cap, cur, e, _⟩
    · exact .inl ⟨e, List.length_eq_zero_iff.1 h0⟩
    · exact .inr ⟨g, cap, e⟩
  rcases hform with ⟨rfl, rfl⟩ | ⟨g, cap, rfl⟩
  · have : n = 0 := by simpa using hn
    subst this
    have HO := Lib.hid h
    clear h hl hn
    go_enter Try.func37, Try.ntmps37
    go_wp2
    go_ret
    exact ⟨_, rfl, HO.out, Turns.refl _ _, rfl⟩
  · obtain ⟨hcell, hfree, hc, hm, hg⟩ := cells_of h
    have hlm : l.length ≤ maxLen := by unfold maxLen; omega
    have hm' : cap ≤ 9223372036854775807 := by unfold maxLen at hm; omega
    by_cases h0 : n = 0
    · subst h0
      have HO := Lib.hid h
      clear h hcell hfree hg hl
      go_enter Try.func37, Try.ntmps37
      go_wp2
      all_goals
        go_ret
        exact ⟨_, rfl, HO.out, Turns.refl _ _, rfl⟩
    · have hn0 : 0 < n := by omega
      obtain ⟨news, hnews⟩ : ∃ news, news = TE.all (l.drop n) := ⟨_, rfl⟩
      have hnl : news.length = (l.length - n) * 3 := by rw [hnews, TE.all_length, List.length_drop]; rfl
      obtain ⟨A, hA, hsrc⟩ : ∃ A : Addr, (if cap = n then some (⟨g, 0, none⟩ : Addr) else some ⟨g, n * 3, none⟩) = some A ∧ Hid (∀ t u, news[t]? = some u → w.drew.cell? (A.add t) = some u) := by
        by_cases hcn : cap = n
        · refine ⟨⟨g, 0, none⟩, by simp [hcn], Lib.hid fun t u hu => ?_⟩
          have : news = [] := List.length_eq_zero_iff.1 (by rw [hnl]; omega)
          rw [this] at hu
          simp at hu
        · refine ⟨⟨g, n * 3, none⟩, by simp [hcn], Lib.hid fun t u hu => ?_⟩
          rw [hnews, TE.all_drop, List.getElem?_drop] at hu
          have := hcell _ u hu
          rw [Addr.add_lit]
          exact this
      have s1 : Hid (news.length = (l.length - n) * 3) := Lib.hid hnl
      have s2 : Hid (∀ u ∈ news, u.oneCell' = true) := Lib.hid (by rw [hnews]; exact TE.all_cell _)
      have hall : (TE.all l).length = l.length * 3 := TE.all_length l
      have hsome : ∀ j, j < l.length * 3 → (w.cell? ⟨g, j, none⟩).isSome = true := fun j hj => by
        rw [hcell j _ (List.getElem?_eq_getElem (by rw [hall]; exact hj))]; rfl
      have s3 : Hid (∀ t, t < news.length → (w.drew.cell? ⟨g, 0 + 0 * 3 + t, none⟩).isSome = true ∧ w.drew.frozen? ⟨g, 0 + 0 * 3 + t, none⟩ = false) := Lib.hid (by
        intro t ht
        rw [hnl] at ht
        rw [show 0 + 0 * 3 + t = t by omega]
        exact ⟨hsome t (by omega), hfree t⟩)
      obtain ⟨W1, hW1⟩ : ∃ W1, W1 = w.drew.setCells g (0 + 0 * 3) news := ⟨_, rfl⟩
      have hcl : ∀ ty, (Builtin.clear_ #[ST] ty #[.slice (some ⟨g, (l.length - n) * 3, none⟩) (l.length - (l.length - n)) (cap - (l.length - n))]).run Try.prog W1 = .ok (.tuple #[]) (W1.setCells g ((l.length - n) * 3) (zerosOf zeroTh (l.length - (l.length - n)))) := by
        intro ty
        have e : l.length - (l.length - n) = n := by omega
        refine run_clear (E := TE) W1 ST PT ty zeroTh Try.underlying45 zeroV rfl (by decide) (by decide) g _ _ _ (by omega) (fun j hj => ?_) (fun j hj => ?_)
        · rw [hW1]
          refine isSome_cells g _ _ _ _ (hsome _ ?_)
          change j < (l.length - (l.length - n)) * 3 at hj
          omega
        · rw [hW1, World.frozen?_setCells]
          exact hfree _
      have hcut := Lib.hid (Owns.cut (E := TE) (T := PT) (w := w.drew) (l := l) h n hn (zerosOf zeroTh (l.length - (l.length - n))) (by rw [zerosOf_length]; show (l.length - (l.length - n)) * 3 = n * 3; omega))
      have hW := Lib.hid hW1
      have hN := Lib.hid hnews
      have hnc : n ≤ cap := by omega
      have hdc : l.length - n ≤ cap := by omega
      clear hW1 hnews hnl hcell hfree hall hsome h hg
      go_enter Try.func37, Try.ntmps37
      go_wp2_with fail
      go_region_law (refine step_append_room rfl (.tmp 22) (.tmp 25) ST rfl PT (infoOf infoT).choose 3 Try.underlying45 (infoOf infoT).choose_spec.1 (infoOf infoT).choose_spec.2.2.1 g 0 0 cap (by simp [Act.eval, Act.put]) A (l.length - n) (cap - n) news (by simp [Act.eval, Act.put]) s1.out hsrc.out s2.out (by omega) s3.out ?_; rw [← hW.out])
      go_wp2
      go_ret
      refine ⟨_, rfl, ?_, ?_, rfl⟩
      · have hc2 := hcut.out
        rw [← hN.out] at hc2
        rw [hW.out]
        exact hc2
      · rw [hW.out]
        exact Turns.setCells (S := fun k => (Value.slice (some ⟨g, 0, none⟩) l.length cap).ownBlock = some k) (.inl rfl) _ _ _ (Turns.setCells (S := fun k => (Value.slice (some ⟨g, 0, none⟩) l.length cap).ownBlock = some k) (.inl rfl) _ _ _ (Turns.refl _ _).drew)

/-! ### Insert -/
/-- copy of whole elements, as cells -/
theorem run_copyN {P : Program} (w : World) (dT sT ty elem : TypeId) (size : Nat) (b o dLen dCap : Nat) (a : Addr) (sLen sCap : Nat) (cs : List Value)
    (hu : P.underlying dT = some (.slice elem)) (hs : (P.info? elem).map (·.size) = some size) (hn : cs.length = Nat.min sLen dLen * size)
    (hsrc : ∀ j v, cs[j]? = some v → w.cell? (a.add j) = some v) (hc : ∀ j, j < cs.length → (w.cell? ⟨b, o + j, none⟩).isSome = true) (hf : ∀ j, j < cs.length → w.frozen? ⟨b, o + j, none⟩ = false) (h1 : ∀ v ∈ cs, v.oneCell' = true) :
    (Builtin.copy_ #[dT, sT] ty #[.slice (some ⟨b, o, none⟩) dLen dCap, .slice (some a) sLen sCap]).run P w = .ok (goInt (Nat.min sLen dLen)) (w.setCells b o cs) := by
  have hl := run_loadCells_list (P := P) w a cs hsrc
  have hst := run_storeCells_cells (P := P) b o cs 0 w (by simpa using hc) (by simpa using hf) h1
  cases hq : P.info? elem with
  | none => simp [hq] at hs
  | some i =>
    have hi : i.size = size := by simpa [hq] using hs
    have hmin : min sLen dLen = Nat.min sLen dLen := rfl
    simp [Builtin.copy_, run_underlying hu, Builtin.lenOf, Builtin.firstCells, sizeOf, typeInfo, hq, hi, ← hn, hl, hst]
theorem wpl_copy {P : Program} (w : World) {ops : Array Oper} {rest : List Oper} {o : Oper} {a : Act} {Q : Exit → Act → World → Prop} (hgd : o.guard = none) (d s : Operand) (t t' : TypeId)
    (ho : o.op = .call { callee := .builtin .copy, args := #[d, s], argTypes := #[t, t'] }) (v u : Value) (hd : a.eval d = v) (hs : a.eval s = u) {v' : Value} {w' : World}
    (hr : (Builtin.copy_ #[t, t'] o.type #[v, u]).run P w = .ok v' w') (h : wpList P ops Q rest (a.put o.dst v') w') : wpList P ops Q (o :: rest) a w := by
  refine wpList_plain hgd fun K hK => ?_
  unfold Oper.wp execOp
  simp only [ho, resolve, invoke, builtin, Sem.run_bind, Sem.run_pure, Result.andThen_ok, List.map_toArray, List.map_cons, List.map_nil, hd, hs, hr]
  exact hK _ _ h
theorem step_copy {P : Program} {ops : Array Oper} {o : Oper} {a : Act} {w : World} {K : Act → World → Prop} {Q : Exit → Act → World → Prop} {E : Prop}
    (hg : o.guard = none) (d x : Operand) (dT sT : TypeId) (hop : o.op = Op.call { callee := Callee.builtin Builtin.copy, args := #[d, x], argTypes := #[dT, sT] })
    (v u : Value) (hd : a.eval d = v) (hx : a.eval x = u) {v' : Value} {w' : World} (hr : (Builtin.copy_ #[dT, sT] o.type #[v, u]).run P w = .ok v' w') (hK : K (a.put o.dst v') w') :
    if Region.wanted o (yielded ops a.tmps) = true then Oper.wp P o a w K Q else E := by
  have hw : Region.wanted o (yielded ops a.tmps) = true := by simp [Region.wanted, hg]
  rw [if_pos hw]
  unfold Oper.wp
  simp [execOp, hop, resolve, invoke, builtin, hd, hx, hr, Result.andThen]
  exact hK
theorem wpl_append {P : Program} (w : World) {ops : Array Oper} {rest : List Oper} {o : Oper} {a : Act} {Q : Exit → Act → World → Prop} (hgd : o.guard = none) (d s : Operand) (t t' : TypeId)
    (ho : o.op = .call { callee := .builtin .append, args := #[d, s], argTypes := #[t, t'] }) (v u : Value) (hd : a.eval d = v) (hs : a.eval s = u) {v' : Value} {w' : World}
    (hr : (Builtin.append_ #[t, t'] o.type #[v, u]).run P w = .ok v' w') (h : wpList P ops Q rest (a.put o.dst v') w') : wpList P ops Q (o :: rest) a w := by
  refine wpList_plain hgd fun K hK => ?_
  unfold Oper.wp execOp
  simp only [ho, resolve, invoke, builtin, Sem.run_bind, Sem.run_pure, Result.andThen_ok, List.map_toArray, List.map_cons, List.map_nil, hd, hs, hr]
  exact hK _ _ h

/-- what a block holds behind an element that was put in -/
theorem over_ins (l : List Th) (n : Nat) (x : Th) (hn : n ≤ l.length) (rest : List Value) (hr : 3 ≤ rest.length) (c1 : List Value)
    (h1 : c1 = ((TE.all l ++ rest).take ((n + 1) * 3) ++ TE.all (l.drop n) ++ (TE.all l ++ rest).drop ((n + 1) * 3 + (TE.all (l.drop n)).length))) :
    (c1.take (n * 3) ++ TE.cs x ++ c1.drop (n * 3 + (TE.cs x).length)).take ((l.length + 1) * 3) = TE.all (l.take n ++ x :: l.drop n) := by
  have hal : (TE.all l).length = l.length * 3 := TE.all_length l
  have hcut : TE.all l = TE.all (l.take n) ++ TE.all (l.drop n) := by rw [← TE.all_append, List.take_append_drop]
  have ht : (TE.all (l.take n)).length = n * 3 := by rw [TE.all_length, List.length_take, Nat.min_eq_left hn]; rfl
  have hd : (TE.all (l.drop n)).length = (l.length - n) * 3 := by rw [TE.all_length, List.length_drop]; rfl
  have hx : (TE.cs x).length = 3 := rfl
  have e1 : (TE.all l ++ rest).take ((n + 1) * 3) = TE.all (l.take n) ++ ((TE.all (l.drop n) ++ rest).take 3) := by
    rw [hcut, List.append_assoc, List.take_append, ht, List.take_of_length_le (by omega), show (n + 1) * 3 - n * 3 = 3 by omega]
  have e2 : c1 = TE.all (l.take n) ++ (((TE.all (l.drop n) ++ rest).take 3) ++ (TE.all (l.drop n) ++ (TE.all l ++ rest).drop ((n + 1) * 3 + (TE.all (l.drop n)).length))) := by
    rw [h1, e1]; simp only [List.append_assoc]
  have e3 : c1.take (n * 3) = TE.all (l.take n) := by rw [e2, List.take_append_of_le_length (by omega), List.take_of_length_le (by omega)]
  have hl3 : ((TE.all (l.drop n) ++ rest).take 3).length = 3 := by rw [List.length_take, List.length_append]; omega
  have e4 : c1.drop (n * 3 + 3) = TE.all (l.drop n) ++ (TE.all l ++ rest).drop ((n + 1) * 3 + (TE.all (l.drop n)).length) := by
    rw [e2, List.drop_append, ht, List.drop_of_length_le (by omega), List.nil_append, show n * 3 + 3 - n * 3 = 3 by omega, List.drop_append, hl3, List.drop_of_length_le (by omega)]
    rfl
  rw [e3, hx, e4, TE.all_append, TE.all_cons, ← List.append_assoc, ← List.append_assoc, List.take_append_of_le_length (by simp only [List.length_append, ht, hx, hd]; omega), List.take_of_length_le (by simp only [List.length_append, ht, hx, hd]; omega)]

/-- what Insert leaves -/
structure Insd (w w' : World) (v v' : Value) (l : List Th) : Prop where
  own : Owns TE PT w' v' l
  t : Turns (fun k => v.ownBlock = some k) w w'
  src : ∀ g, v'.ownBlock = some g → v.ownBlock = some g ∨ w.heap.size ≤ g

theorem ins_over {w : World} {g cap : Nat} {cur : Array Value} {l : List Th} (n : Nat) (x : Th) (hn : n ≤ l.length) (hc : l.length + 1 ≤ cap) (hm : cap ≤ maxLen) (hb : Blk w g cur PT) (hs : cur.size = cap * 3) (ht : cur.toList.take (l.length * 3) = TE.all l) :
    Owns TE PT ((w.setCells g ((n + 1) * 3) (TE.all (l.drop n))).setCells g (n * 3) (TE.cs x)) (.slice (some ⟨g, 0, none⟩) (l.length + 1) cap) (l.take n ++ x :: l.drop n) := by
  have hd : (TE.all (l.drop n)).length = (l.length - n) * 3 := by rw [TE.all_length, List.length_drop]; rfl
  have hx : (TE.cs x).length = 3 := rfl
  obtain ⟨rest, hrest⟩ : ∃ rest, rest = cur.toList.drop (l.length * 3) := ⟨_, rfl⟩
  have hcur : cur.toList = TE.all l ++ rest := by rw [hrest, ← ht, List.take_append_drop]
  have hszl : cur.toList.length = cap * 3 := by rw [Array.length_toList]; exact hs
  have hal : (TE.all l).length = l.length * 3 := TE.all_length l
  have hrl : 3 ≤ rest.length := by rw [hcur, List.length_append] at hszl; omega
  have hb' : Blk w g cur.toList.toArray PT := by simpa using hb
  have b1 := Blk.setCells (TE.all (l.drop n)) ((n + 1) * 3) w cur.toList hb' (by rw [hd, hszl]; omega)
  rw [hcur] at b1
  obtain ⟨c1, hc1⟩ : ∃ c1, c1 = ((TE.all l ++ rest).take ((n + 1) * 3) ++ TE.all (l.drop n) ++ (TE.all l ++ rest).drop ((n + 1) * 3 + (TE.all (l.drop n)).length)) := ⟨_, rfl⟩
  have hc1l : c1.length = cap * 3 := by
    rw [hcur, List.length_append] at hszl
    rw [hc1, List.length_append, List.length_append, List.length_take, List.length_drop, List.length_append, hd]
    omega
  rw [← hc1] at b1
  have b2 := Blk.setCells (TE.cs x) (n * 3) _ c1 b1 (by rw [hx, hc1l]; omega)
  have hfin := over_ins l n x hn rest hrl c1 hc1
  have hlen : (l.take n ++ x :: l.drop n).length = l.length + 1 := by simp; omega
  unfold Owns
  rw [hlen]
  refine ⟨by rw [TE.all_length, hlen], .inr ⟨g, cap, _, rfl, Nat.zero_le _, b2, hc, hm, ?_, ?_⟩⟩
  · rw [List.size_toArray, List.length_append, List.length_append, List.length_take, List.length_drop, hx, hc1l]
    show _ = cap * 3
    omega
  · rw [List.toList_toArray]
    exact hfin
theorem setCells_keep {w : World} {g : Nat} (cs ds : List Value) (i j : Nat) : Turns (fun k => k = g) w ((w.setCells g i cs).setCells g j ds) :=
  Turns.setCells (S := fun k => k = g) (.inl rfl) _ _ _ (Turns.setCells (S := fun k => k = g) (.inl rfl) _ _ _ (Turns.refl _ _))

set_option maxRecDepth 100000 in
set_option maxHeartbeats 2000000 in
/-- at the end -/
theorem insert_end (v : Value) (l : List Th) (x : Th) (q : Nat) (w : World) (h : Owns TE PT w v l) (hl : l.length ≤ 1025) (hq : Blk w q (TE.cs x).toArray PT) :
    Calls Try.prog 28 #[v, .int .i64 l.length, .slice (some ⟨q, 0, none⟩) 1 1] w fun e w' => ∃ v', e = .returned v' ∧ Insd w w' v v' (l ++ [x]) := by
  obtain ⟨ao, c, hv, hc, _, _⟩ := h.form
  have HO := Lib.hid h
  have HQ := Lib.hid hq
  clear h hq
  have hcm : c ≤ 9223372036854775807 := by
    rcases HO.out.2 with ⟨e, _⟩ | ⟨g, cap, cur, e, _, _, _, hm, _⟩
    · rw [hv] at e; injection e with _ _ e; omega
    · rw [hv] at e; injection e with _ _ e; unfold maxLen at hm; omega
  subst hv
  generalize hlen : l.length = len at *
  have HLL := Lib.hid hlen
  clear hlen
  cases ao with
  | none =>
    go_enter Try.func28, Try.ntmps28
    go_wp2_with (at_builtin; refine wpList_append_one (E := TE) Try.underlying45 infoT rfl (by decide) (by decide) rfl _ _ rfl _ l x rfl HO.out q rfl HQ.out (by have := HLL.out; omega) ?_)
    all_goals
      intro v' w1 hown hgrow hat
      have HR : Hid (Insd w w1 (.slice none len c) v' (l ++ [x])) := Lib.hid ⟨hown, (Turns.of_grown hgrow).mono (fun k _ hk => hk.symm), fun g hg => hat.elim (fun e => .inl (e ▸ hg)) (fun e => .inr (by rw [e] at hg; injection hg with e; omega))⟩
      clear hown hgrow hat HO HQ
      go_wp2
      go_ret
      exact ⟨_, rfl, HR.out⟩
  | some a =>
    obtain ⟨g, o, sp⟩ := a
    go_enter Try.func28, Try.ntmps28
    go_wp2_with (at_builtin; refine wpList_append_one (E := TE) Try.underlying45 infoT rfl (by decide) (by decide) rfl _ _ rfl _ l x rfl HO.out q rfl HQ.out (by have := HLL.out; omega) ?_)
    all_goals
      intro v' w1 hown hgrow hat
      have HR : Hid (Insd w w1 (.slice (some ⟨g, o, sp⟩) len c) v' (l ++ [x])) := Lib.hid ⟨hown, (Turns.of_grown hgrow).mono (fun k _ hk => hk.symm), fun g hg => hat.elim (fun e => .inl (e ▸ hg)) (fun e => .inr (by rw [e] at hg; injection hg with e; omega))⟩
      clear hown hgrow hat HO HQ
      go_wp2
      go_ret
      exact ⟨_, rfl, HR.out⟩
end Go.Proofs.Ytfgfejcnkjeghaa.reo
