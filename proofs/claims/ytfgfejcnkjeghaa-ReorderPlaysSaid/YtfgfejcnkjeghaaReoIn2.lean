/-
  slices.Insert in the middle, at reorder's things.
-/
import Derived.Test.YtfgfejcnkjeghaaReoIns
import Derived.Deep.RegionLaw
namespace Go.Proofs.Ytfgfejcnkjeghaa.reo
open Go.RowKit mem
set_option linter.unusedVariables false

set_option maxRecDepth 100000 in
set_option maxHeartbeats 4000000 in
/-- in the middle, with room -/
theorem insert_room (g c : Nat) (l : List Th) (x : Th) (n q : Nat) (w : World) (h : Owns TE PT w (.slice (some ⟨g, 0, none⟩) l.length c) l) (hn : n < l.length) (hl : l.length ≤ 1025) (hc : l.length + 1 ≤ c) (hq : Blk w q (TE.cs x).toArray PT) (hqg : q ≠ g) :
    Calls Try.prog 28 #[.slice (some ⟨g, 0, none⟩) l.length c, .int .i64 n, .slice (some ⟨q, 0, none⟩) 1 1] w fun e w' => ∃ v', e = .returned v' ∧ Insd w w' (.slice (some ⟨g, 0, none⟩) l.length c) v' (l.take n ++ x :: l.drop n) := by
  have HR : Hid (∀ w0 : World, w0 = w.drew → Insd w ((w0.setCells g ((n + 1) * 3) (TE.all (l.drop n))).setCells g (n * 3) (TE.cs x)) (.slice (some ⟨g, 0, none⟩) l.length c) (.slice (some ⟨g, 0, none⟩) (l.length + 1) c) (l.take n ++ x :: l.drop n)) := Lib.hid (by
    rintro w0 rfl
    rcases h.2 with ⟨e, _⟩ | ⟨g', cap, cur, e, _, hb, _, hm, hs, ht⟩
    · cases e
    · injection e with e1 _ e3
      injection e1 with e1
      injection e1 with e1
      subst e1 e3
      exact ⟨ins_over (w := w.drew) n x (by omega) hc hm hb hs ht, (Turns.of_drew (setCells_keep (w := w.drew) _ _ _ _)).mono (fun k _ hk => by rw [hk]; rfl), fun g' hg' => .inl hg'⟩)
  obtain ⟨hcell, hfree, _, hm, hg⟩ := cells_of h
  have hm' : c ≤ 9223372036854775807 := by unfold maxLen at hm; omega
  have hal : (TE.all l).length = l.length * 3 := TE.all_length l
  have hd : (TE.all (l.drop n)).length = (l.length - n) * 3 := by rw [TE.all_length, List.length_drop]; rfl
  have hsome : ∀ j, j < c * 3 → (w.cell? ⟨g, j, none⟩).isSome = true := by
    rcases h.2 with ⟨e, _⟩ | ⟨g', cap, cur, e, _, hb, _, _, hs, _⟩
    · cases e
    · injection e with e1 _ e3
      injection e1 with e1
      injection e1 with e1
      subst e1 e3
      have hB : Blk w g cur PT := hb
      intro j hj
      rw [hB.cell, Array.getElem?_eq_getElem (by rw [hs]; exact hj)]
      rfl
  have hshape : ∃ tB kB, w.shape? g = some (tB, kB) ∧ kB ≠ 0 := by
    rcases h.2 with ⟨e, _⟩ | ⟨g', cap, cur, e, _, hb, _, _, hs, _⟩
    · cases e
    · injection e with e1 _ e3
      injection e1 with e1
      injection e1 with e1
      subst e1 e3
      refine ⟨PT, cur.size, by simp [World.shape?, hb], ?_⟩
      have hs' : cur.size = c * 3 := hs
      omega
  obtain ⟨tB, kB, hsb, hkB⟩ := hshape
  have hsa : w.shape? q = some (PT, 3) := by unfold Blk at hq; simp [World.shape?, hq, TE]
  have hov : ∀ lb cb, (callFunc 35 #[.slice (some ⟨q, 0, none⟩) 1 1, .slice (some ⟨g, (n + 1) * 3, none⟩) lb cb]).run Try.prog w = .ok (.value (.bool false)) w := fun lb cb => by
    rw [run_callFunc_extern Try.func35 (by kernel_rfl) (by kernel_rfl) (by kernel_rfl) (e := Extern.SlicesOverlaps.overlaps #[ST, ST] #[4]) (by kernel_rfl),
      Lib.run_overlaps_apart w ST 4 PT Try.underlying45 3 sizeT ⟨q, 0, none⟩ ⟨g, (n + 1) * 3, none⟩ 1 1 lb cb hqg PT tB 3 kB hsa hsb hkB (hq.free 0) (hq.free 3)]
    rfl
  have hszT : (Try.prog.info? PT).map (·.size) = some 3 := by
    have := infoT
    cases hi : Try.prog.info? PT with
    | none => rw [hi] at this; cases this
    | some i => rw [hi] at this; simp at this; simp [this]
  have hcp1 : ∀ (ty : TypeId) (dc sc : Nat), (Builtin.copy_ #[ST, ST] ty #[.slice (some ⟨g, (n + 1) * 3, none⟩) (l.length + 1 - (n + 1)) dc, .slice (some ⟨g, n * 3, none⟩) (l.length + 1 - n) sc]).run Try.prog w.drew = .ok (goInt (Nat.min (l.length + 1 - n) (l.length + 1 - (n + 1)))) (w.drew.setCells g ((n + 1) * 3) (TE.all (l.drop n))) := fun ty dc sc =>
    run_copyN w.drew _ _ ty PT 3 g ((n + 1) * 3) _ dc ⟨g, n * 3, none⟩ _ sc (TE.all (l.drop n)) Try.underlying45 hszT (by rw [hd]; congr 1; simp only [Nat.min_def]; split <;> omega)
      (fun j v hj => by
        rw [Addr.add_lit]
        refine hcell (n * 3 + j) v ?_
        rw [TE.all_drop, List.getElem?_drop] at hj
        exact hj)
      (fun j hj => hsome _ (by omega)) (fun j hj => hfree _) (TE.all_cell _)
  obtain ⟨W1, hW1⟩ : ∃ W1, W1 = w.drew.setCells g ((n + 1) * 3) (TE.all (l.drop n)) := ⟨_, rfl⟩
  have hs1 : ∀ j, j < c * 3 → (W1.cell? ⟨g, j, none⟩).isSome = true := fun j hj => by
    rw [hW1]
    exact isSome_cells g _ _ _ _ (hsome j hj)
  have hcp2 : ∀ (W : World), (∀ x, W.cell? x = W1.cell? x) → (∀ x, W.frozen? x = W1.frozen? x) → ∀ (ty : TypeId) (dc : Nat), (Builtin.copy_ #[ST, ST] ty #[.slice (some ⟨g, n * 3, none⟩) (l.length + 1 - n) dc, .slice (some ⟨q, 0, none⟩) 1 1]).run Try.prog W = .ok (goInt (Nat.min 1 (l.length + 1 - n))) (W.setCells g (n * 3) (TE.cs x)) := fun W hWc hWf ty dc =>
    run_copyN W _ _ ty PT 3 g (n * 3) _ dc ⟨q, 0, none⟩ 1 1 (TE.cs x) Try.underlying45 hszT (by show 3 = _; rw [show Nat.min 1 (l.length + 1 - n) = 1 by simp only [Nat.min_def]; split <;> omega])
      (fun j v hj => by
        rw [Addr.add_lit, hWc, hW1, World.cell?_setCells_out g _ _ _ _ (fun h _ => absurd h hqg)]
        show w.cell? _ = _
        rw [hq.cell, Nat.zero_add]
        simpa using hj)
      (fun j hj => by rw [hWc]; exact hs1 _ (by have hj' : j < 3 := hj; omega)) (fun j hj => by rw [hWf, hW1, World.frozen?_setCells]; exact hfree _) (fun v hv => TE.all_cell [x] v (by rw [TE.all_one]; exact hv))
  rw [← hW1] at hcp1
  have HW := Lib.hid hW1
  have hw1 : IntKind.i64.wrap ((n : Int) + (1 : Int)) = (n : Int) + (1 : Int) := by rw [IntKind.wrap_i64]; omega
  have hw2 : IntKind.i64.wrap ((l.length : Int) + (1 : Int)) = (l.length : Int) + (1 : Int) := by rw [IntKind.wrap_i64]; omega
  have hz2 : ¬ ((n : Int) = (l.length : Int)) := by omega
  have hz3 : ¬ ((c : Int) < (l.length : Int) + 1) := by omega
  have htn : ((n : Int) + 1).toNat = n + 1 := by omega
  have htl : ((l.length : Int) + 1).toNat = l.length + 1 := by omega
  have hb2 : ¬ (c = n + 1) := by omega
  have hb4 : ¬ (c = n) := by omega
  have hb5 : (0 : Int) ≤ (n : Int) + 1 := by omega
  have hb6 : (0 : Int) ≤ (l.length : Int) + 1 := by omega
  have hb7 : (n : Int) ≤ (l.length : Int) := by omega
  have hb8 : (n : Int) ≤ (l.length : Int) + 1 := by omega
  have hb9 : (l.length : Int) + 1 ≤ (c : Int) := by omega
  have hba : (n : Int) + 1 ≤ (l.length : Int) + 1 := by omega
  clear h hcell hfree hd hal hsome hs1 hW1 hsa hsb hkB hq hszT hm hg
  generalize l.length = len at *
  go_enter Try.func28, Try.ntmps28
  go_wp2_with (simp only [hov])
  go_region_law (refine step_copy rfl _ _ ST ST rfl (.slice (some ⟨g, (n + 1) * 3, none⟩) (len + 1 - (n + 1)) (c - (n + 1))) (.slice (some ⟨g, n * 3, none⟩) (len + 1 - n) (c - n)) (by simp [Act.eval, Act.put]) (by simp [Act.eval, Act.put]) (hcp1 _ _ _) ?_)
  go_wp2_with (at_builtin; refine wpl_copy _ rfl _ _ ST ST rfl _ _ rfl rfl (hcp2 _ (fun _ => rfl) (fun _ => rfl) _ _) ?_)
  go_ret
  exact ⟨_, rfl, by rw [HW.out]; exact HR.out _ rfl⟩

set_option maxRecDepth 100000 in
set_option maxHeartbeats 4000000 in
/-- in the middle, without room -/
theorem insert_grow (g c : Nat) (l : List Th) (x : Th) (n q : Nat) (w : World) (h : Owns TE PT w (.slice (some ⟨g, 0, none⟩) l.length c) l) (hn : n < l.length) (hl : l.length ≤ 1025) (hc : c < l.length + 1) (hq : Blk w q (TE.cs x).toArray PT) :
    Calls Try.prog 28 #[.slice (some ⟨g, 0, none⟩) l.length c, .int .i64 n, .slice (some ⟨q, 0, none⟩) 1 1] w fun e w' => ∃ v', e = .returned v' ∧ Insd w w' (.slice (some ⟨g, 0, none⟩) l.length c) v' (l.take n ++ x :: l.drop n) := by
  obtain ⟨hcell, hfree, hlc, hm, hg⟩ := cells_of h
  have hm' : c ≤ 9223372036854775807 := by unfold maxLen at hm; omega
  have hal : (TE.all l).length = l.length * 3 := TE.all_length l
  have hd : (TE.all (l.drop n)).length = (l.length - n) * 3 := by rw [TE.all_length, List.length_drop]; rfl
  have htk : (TE.all (l.take n)).length = n * 3 := by rw [TE.all_length, List.length_take, Nat.min_eq_left (by omega)]; rfl
  obtain ⟨i0, hi0, hz0, hzs, hzb⟩ := infoOf infoT
  have hszT : (Try.prog.info? PT).map (·.size) = some 3 := by rw [hi0]; simp [hzs]
  have hkk : (l.length : Int) + 1 - (n : Int) = ((l.length + 1 - n : Nat) : Int) := by omega
  have hik : n + (l.length + 1 - n) = l.length + 1 := by omega
  have hold : (Builtin.firstCells i0.size n (.slice (some ⟨g, 0, none⟩) n c)).run Try.prog w.drew = .ok (TE.all (l.take n)).toArray w.drew := by
    rw [hzs]
    exact run_firstCells_some w.drew 3 n ⟨g, 0, none⟩ n c (TE.all (l.take n)) htk (fun j v hj => by
      rw [Addr.add_lit, Nat.zero_add]
      rw [TE.all_take, List.getElem?_take] at hj
      split at hj
      · exact hcell j v hj
      · cases hj)
  obtain ⟨G, hG⟩ : ∃ G, G = grownCap w (l.length + 1) c PT := ⟨_, rfl⟩
  have hrz : ∀ ty, (Builtin.append_ #[ST, 3] ty #[.slice (some ⟨g, 0, none⟩) n c, .int .i64 ((l.length : Int) + 1 - (n : Int))]).run Try.prog w =
      .ok (.slice (some ⟨w.heap.size, 0, none⟩) (l.length + 1) G) (w.drew.alloc (.cells ((TE.all (l.take n)).toArray ++ Builtin.zeroCells zeroTh.cells (l.length + 1 - n) ++ Builtin.zeroCells zeroTh.cells (G - (l.length + 1))) PT)) := fun ty => by
    have h := Lib.run_append_grow_zeros w ST 3 ty PT i0 _ .i64 .i64 Try.underlying45 Try.underlying3 hi0 hz0 (some ⟨g, 0, none⟩) n c _ hold (l.length + 1 - n) (by omega) (by rw [hzs]; decide) (by omega) (by omega) (by rw [hzb]; omega) (by rw [hzb, hik]; exact growslice_fits hc (by omega))
    rw [hik] at h
    rw [hkk, hG]
    exact h
  obtain ⟨Z, hZ⟩ : ∃ Z : List Value, Z = (Builtin.zeroCells zeroTh.cells (l.length + 1 - n)).toList ++ (Builtin.zeroCells zeroTh.cells (G - (l.length + 1))).toList := ⟨_, rfl⟩
  have hGn : l.length + 1 ≤ G := by rw [hG]; exact grownCap_ge w _ _ _
  have hG63 : G ≤ maxLen := by rw [hG]; exact grownCap_le_maxLen w (l.length + 1) c PT (by unfold maxLen; omega)
  have hZl : Z.length = (l.length + 1 - n) * 3 + (G - (l.length + 1)) * 3 := by
    rw [hZ, List.length_append]
    have := fun k => zerosOf_length zeroTh k
    unfold zerosOf at this
    rw [this, this]
    rfl
  obtain ⟨ROW, hROW⟩ : ∃ ROW : Array Value, ROW = (TE.all (l.take n) ++ Z).toArray := ⟨_, rfl⟩
  have hRe : ((TE.all (l.take n)).toArray ++ Builtin.zeroCells zeroTh.cells (l.length + 1 - n) ++ Builtin.zeroCells zeroTh.cells (G - (l.length + 1))) = ROW := by
    rw [hROW, hZ]
    simp
  rw [hRe] at hrz
  obtain ⟨W1, hW1⟩ : ∃ W1, W1 = w.drew.alloc (.cells ROW PT) := ⟨_, rfl⟩
  have hB1 : Blk W1 w.heap.size (TE.all (l.take n) ++ Z).toArray PT := by rw [hW1, ← hROW]; exact Blk.new w.drew ROW PT
  have hRs : ROW.size = G * 3 := by rw [hROW, List.size_toArray, List.length_append, htk, hZl]; omega
  have hN : ∀ j, j < G * 3 → (W1.cell? ⟨w.heap.size, j, none⟩).isSome = true := fun j hj => by
    rw [hB1.cell, ← hROW, Array.getElem?_eq_getElem (by omega)]; rfl
  have hNf : ∀ j, W1.frozen? ⟨w.heap.size, j, none⟩ = false := fun j => hB1.free j
  have hN1 : New w W1 := by rw [hW1]; exact (Turns.refl _ _).drew.alloc _
  rw [← hW1] at hrz
  have hcpA : ∀ (W : World), (∀ x, W.cell? x = W1.cell? x) → (∀ x, W.frozen? x = W1.frozen? x) → ∀ (ty : TypeId) (dc : Nat), (Builtin.copy_ #[ST, ST] ty #[.slice (some ⟨w.heap.size, n * 3, none⟩) (l.length + 1 - n) dc, .slice (some ⟨q, 0, none⟩) 1 1]).run Try.prog W = .ok (goInt (Nat.min 1 (l.length + 1 - n))) (W.setCells w.heap.size (n * 3) (TE.cs x)) := fun W hWc hWf ty dc =>
    run_copyN W _ _ ty PT 3 w.heap.size (n * 3) _ dc ⟨q, 0, none⟩ 1 1 (TE.cs x) Try.underlying45 hszT (by show 3 = _; rw [show Nat.min 1 (l.length + 1 - n) = 1 by simp only [Nat.min_def]; split <;> omega])
      (fun j v hj => by
        rw [Addr.add_lit, hWc, hN1.cell (a := ⟨q, 0 + j, none⟩) hq.lt (fun h => h), hq.cell, Nat.zero_add]
        simpa using hj)
      (fun j hj => by rw [hWc]; exact hN _ (by have hj' : j < 3 := hj; omega)) (fun j hj => by rw [hWf]; exact hNf _) (fun v hv => TE.all_cell [x] v (by rw [TE.all_one]; exact hv))
  have hgN : g ≠ w.heap.size := by omega
  have hcpB : ∀ (W : World), (∀ y, W.cell? y = (W1.setCells w.heap.size (n * 3) (TE.cs x)).cell? y) → (∀ y, W.frozen? y = (W1.setCells w.heap.size (n * 3) (TE.cs x)).frozen? y) → ∀ (ty : TypeId) (dc sc : Nat), (Builtin.copy_ #[ST, ST] ty #[.slice (some ⟨w.heap.size, (n + 1) * 3, none⟩) (l.length + 1 - (n + 1)) dc, .slice (some ⟨g, n * 3, none⟩) (l.length - n) sc]).run Try.prog W = .ok (goInt (Nat.min (l.length - n) (l.length + 1 - (n + 1)))) (W.setCells w.heap.size ((n + 1) * 3) (TE.all (l.drop n))) := fun W hWc hWf ty dc sc =>
    run_copyN W _ _ ty PT 3 w.heap.size ((n + 1) * 3) _ dc ⟨g, n * 3, none⟩ _ sc (TE.all (l.drop n)) Try.underlying45 hszT (by rw [hd]; congr 1; simp only [Nat.min_def]; split <;> omega)
      (fun j v hj => by
        rw [Addr.add_lit, hWc, World.cell?_setCells_out _ _ _ _ _ (fun h _ => absurd h hgN), hN1.cell (a := ⟨g, n * 3 + j, none⟩) hg (fun h => h)]
        refine hcell (n * 3 + j) v ?_
        rw [TE.all_drop, List.getElem?_drop] at hj
        exact hj)
      (fun j hj => by rw [hWc]; exact isSome_cells _ _ _ _ _ (hN _ (by omega))) (fun j hj => by rw [hWf, World.frozen?_setCells]; exact hNf _) (TE.all_cell _)
  have HR : Hid (∀ w0 : World, w0 = ((W1.setCells w.heap.size (n * 3) (TE.cs x)).drew.setCells w.heap.size ((n + 1) * 3) (TE.all (l.drop n))) → Insd w w0 (.slice (some ⟨g, 0, none⟩) l.length c) (.slice (some ⟨w.heap.size, 0, none⟩) (l.length + 1) G) (l.take n ++ x :: l.drop n)) := Lib.hid (by
    rintro w0 rfl
    have hx : (TE.cs x).length = 3 := rfl
    have b1 := Blk.setCells (TE.cs x) (n * 3) W1 (TE.all (l.take n) ++ Z) hB1 (by rw [hx, List.length_append, htk, hZl]; omega)
    have e1 : (TE.all (l.take n) ++ Z).take (n * 3) = TE.all (l.take n) := by rw [List.take_append_of_le_length (by omega), List.take_of_length_le (by omega)]
    have e2 : (TE.all (l.take n) ++ Z).drop (n * 3 + (TE.cs x).length) = Z.drop 3 := by
      rw [hx, List.drop_append, htk, List.drop_of_length_le (by omega), List.nil_append, show n * 3 + 3 - n * 3 = 3 by omega]
    rw [e1, e2] at b1
    have hc1 : (TE.all (l.take n) ++ TE.cs x ++ Z.drop 3).length = G * 3 := by rw [List.length_append, List.length_append, htk, hx, List.length_drop, hZl]; omega
    have b2 := Blk.setCells (TE.all (l.drop n)) ((n + 1) * 3) _ _ b1.drew (by rw [hc1, hd]; omega)
    have e3 : (TE.all (l.take n) ++ TE.cs x ++ Z.drop 3).take ((n + 1) * 3) = TE.all (l.take n) ++ TE.cs x := by
      rw [List.take_append_of_le_length (by rw [List.length_append, htk, hx]; omega), List.take_of_length_le (by rw [List.length_append, htk, hx]; omega)]
    rw [e3] at b2
    have hlen : (l.take n ++ x :: l.drop n).length = l.length + 1 := by simp; omega
    have hsz := Turns.setCells (S := fun _ => False) (a := w) (p := w.heap.size) (.inr (Nat.le_refl _)) (TE.all (l.drop n)) ((n + 1) * 3) _ (Turns.setCells (S := fun _ => False) (a := w) (p := w.heap.size) (.inr (Nat.le_refl _)) (TE.cs x) (n * 3) _ hN1).drew
    refine ⟨?_, hsz.mono (fun _ _ h => h.elim), fun g' hg' => .inr (Nat.le_of_eq (by simpa [Value.ownBlock] using hg'))⟩
    unfold Owns
    rw [hlen]
    refine ⟨by rw [TE.all_length, hlen], .inr ⟨w.heap.size, G, _, rfl, Nat.zero_le _, b2, hGn, hG63, ?_, ?_⟩⟩
    · rw [List.size_toArray, List.length_append, List.length_append, List.length_append, htk, hx, hd, List.length_drop, hc1]
      show _ = G * 3
      omega
    · rw [List.toList_toArray, show (l.length + 1) * TE.n = (l.length + 1) * 3 from rfl, TE.all_append, TE.all_cons, ← List.append_assoc, List.take_append_of_le_length (by simp only [List.length_append, htk, hx, hd]; omega), List.take_of_length_le (by simp only [List.length_append, htk, hx, hd]; omega)])
  have hG63' : G ≤ 9223372036854775807 := by unfold maxLen at hG63; omega
  have hw1 : IntKind.i64.wrap ((n : Int) + (1 : Int)) = (n : Int) + (1 : Int) := by rw [IntKind.wrap_i64]; omega
  have hw2 : IntKind.i64.wrap ((l.length : Int) + (1 : Int)) = (l.length : Int) + (1 : Int) := by rw [IntKind.wrap_i64]; omega
  have hw3 : IntKind.i64.wrap ((l.length : Int) + (1 : Int) - (n : Int)) = (l.length : Int) + (1 : Int) - (n : Int) := by rw [IntKind.wrap_i64]; omega
  have hz2 : ¬ ((n : Int) = (l.length : Int)) := by omega
  have hz3 : (c : Int) < (l.length : Int) + 1 := by omega
  have htn : ((n : Int) + 1).toNat = n + 1 := by omega
  have hGi : ¬ (G = n) := by omega
  have hGim : ¬ (G = n + 1) := by omega
  have hb4 : ¬ (c = n) := by omega
  have hb5 : (0 : Int) ≤ (n : Int) + 1 := by omega
  have hb7 : (n : Int) ≤ (l.length : Int) := by omega
  have hb8 : (n : Int) ≤ (l.length : Int) + 1 := by omega
  have hba : (n : Int) + 1 ≤ (l.length : Int) + 1 := by omega
  have hbb : (n : Int) ≤ (c : Int) := by omega
  have hE1 : ∀ x, (W1.drew).cell? x = W1.cell? x := fun x => rfl
  have HW := Lib.hid hW1
  clear h hcell hfree hd hal htk hi0 hz0 hzs hzb hszT hkk hik hold hZl hRe hROW hB1 hRs hN hNf hN1 hW1 hZ hG hq hm hG63 hg
  generalize l.length = len at *
  go_enter Try.func28, Try.ntmps28
  go_wp2_with (first
    | (at_builtin; refine wpl_append _ rfl _ _ ST 3 rfl _ _ rfl rfl (hrz _) ?_)
    | (at_builtin; refine wpl_copy _ rfl _ _ ST ST rfl _ _ rfl rfl (hcpA _ (fun _ => rfl) (fun _ => rfl) _ _) ?_))
  have hF := hcpB ((W1.setCells w.heap.size (n * 3) (TE.cs x)).drew) (fun _ => rfl) (fun _ => rfl)
  go_region_law (refine step_copy rfl _ _ ST ST rfl (.slice (some ⟨w.heap.size, (n + 1) * 3, none⟩) (len + 1 - (n + 1)) (G - (n + 1))) (.slice (some ⟨g, n * 3, none⟩) (len - n) (c - n)) (by simp [Act.eval, Act.put]) (by simp [Act.eval, Act.put]) (hF _ _ _) ?_)
  go_wp2
  go_ret
  exact ⟨_, rfl, HR.out _ rfl⟩

/-- Insert of one thing -/
theorem insert (v : Value) (l : List Th) (x : Th) (n q : Nat) (w : World) (h : Owns TE PT w v l) (hn : n ≤ l.length) (hl : l.length ≤ 1025) (hq : Blk w q (TE.cs x).toArray PT) (hqv : v.ownBlock ≠ some q) :
    Calls Try.prog 28 #[v, .int .i64 n, .slice (some ⟨q, 0, none⟩) 1 1] w fun e w' => ∃ v', e = .returned v' ∧ Insd w w' v v' (l.take n ++ x :: l.drop n) := by
  rcases Nat.lt_or_eq_of_le hn with h1 | rfl
  · obtain ⟨g, c, rfl⟩ : ∃ g c, v = .slice (some ⟨g, 0, none⟩) l.length c := by
      rcases h.2 with ⟨_, h0⟩ | ⟨g, cap, cur, e, _⟩
      · omega
      · exact ⟨g, cap, e⟩
    by_cases hc : l.length + 1 ≤ c
    · exact insert_room g c l x n q w h h1 hl hc hq (fun e => hqv (by rw [e]; rfl))
    · exact insert_grow g c l x n q w h h1 hl (by omega) hq
  · rw [List.take_length, List.drop_length]
    exact insert_end v l x q w h hl hq
end Go.Proofs.Ytfgfejcnkjeghaa.reo
