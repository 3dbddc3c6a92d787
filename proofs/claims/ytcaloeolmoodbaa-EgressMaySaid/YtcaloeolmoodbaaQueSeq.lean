/-
  queue.Queue in memory; slices.Clone and slices.Delete of its items; what is taken out, and dropped.
-/
import Derived.Test.YtcaloeolmoodbaaRows
import Derived.Test.YtcaloeolmoodbaaQuePure
import Derived.Handy
import Derived.Lib.Hide
import Derived.Outline
import Derived.IntWalk
namespace Go.Proofs.Ytcaloeolmoodbaa.que
open Go.RowKit mem
set_option linter.unusedVariables false

abbrev PT : TypeId := 37
abbrev ST : TypeId := 103
abbrev QT : TypeId := 114
abbrev New (w w' : World) : Prop := Turns (fun _ => False) w w'
theorem infoP : (Try.prog.info? PT).map (fun i => (i.zero, i.size, i.bytes)) = some (some (.agg #[.int .i64 0, .int .i64 0, .int .i64 0, .bool false]), 4, 32) := by kernel_rfl
abbrev zeroIt : Value := .agg #[.int .i64 0, .int .i64 0, .int .i64 0, .bool false]
theorem zeroV (w : World) : (zeroValue PT).run Try.prog w = .ok zeroIt w := by kernel_rfl

/-- a row that a call made -/
structure Fresh (T : TypeId) (w w' : World) (v : Value) (l : List It) : Prop where
  own : Owns IE T w' v l
  vb : ∀ g, v.ownBlock = some g → w.heap.size ≤ g

theorem vb_of_alloc {n : Nat} {v : Value} (h : v.ownBlock = some n ∨ v.ownBlock = some (n + 1)) {g : Nat} (hg : v.ownBlock = some g) : n ≤ g := by
  rcases h with h | h
  · rw [h] at hg; injection hg with hg; omega
  · rw [h] at hg; injection hg with hg; omega

set_option maxRecDepth 100000 in
theorem clone (v : Value) (l : List It) (w : World) (h : Sub IE 0 w v l) (hl : l.length ≤ 1048576) :
    Calls Try.prog 88 #[v] w fun e w' => ∃ v', e = .returned v' ∧ Fresh PT w w' v' l ∧ New w w' := by
  have q : ∀ (w : World) (a : Option Addr) (n c n' c' : Nat), (binOp .eql ST (.slice a n c) (.slice none n' c')).run Try.prog w = .ok (.bool a.isNone) w := fun w a n c n' c' => Lib.run_eql_slice_nil w _ _ _ _ _ _ _ Try.underlying103
  rcases h with ⟨rfl, rfl⟩ | h
  · go_enter Try.func88, Try.ntmps88
    go_wp2
    go_ret
    exact ⟨_, rfl, ⟨Owns.nil _ _, fun g hg => by simp [Value.ownBlock] at hg⟩, Turns.refl _ _⟩
  · obtain ⟨g, o, c, hv, h1, h2, h3, h4, h5⟩ := id h
    have HL := Lib.hid h
    subst hv
    have HO : Hid (Owns IE PT (w.alloc (.cells #[] PT)) (.slice (some ⟨w.heap.size, 0, none⟩) 0 0) []) := Lib.hid (World.ownsRow_made (size := 4) w #[] 0 (Nat.zero_le _) (Nat.zero_le _) (by simp))
    have HS : Hid (Sub IE 0 (w.alloc (.cells #[] PT)) (.slice (some ⟨g, o, none⟩) l.length c) l) := Lib.hid (Sub.turns (.inr h) ((Turns.refl (fun _ => False) _).alloc _) (fun _ _ h => h))
    have hll := Lib.hid (show ([] : List It).length + l.length ≤ 1048576 by simpa using hl)
    clear h h5
    go_enter Try.func88, Try.ntmps88
    go_wp2_with (at_builtin; refine wpList_append_sub (E := IE) Try.underlying103 infoP rfl (by decide) (by decide) rfl _ _ rfl _ [] l rfl HO.out _ rfl 0 HS.out hll.out ?_)
    intro v' w1 hown hgrow hat
    have N := Lib.hid ((((Turns.refl (fun _ => False) w).alloc (.cells #[] PT)).trans ((Turns.of_grown hgrow).mono (fun k _ hk => .inr (by simp [Value.ownBlock] at hk; omega)))))
    have O := Lib.hid hown
    have V : Hid (∀ g, v'.ownBlock = some g → w.heap.size ≤ g) := Lib.hid (fun g hg => vb_of_alloc hat hg)
    clear hown hgrow hat HL HO HS hll
    go_wp2
    go_ret
    exact ⟨_, rfl, ⟨O.out, V.out⟩, N.out⟩

theorem cells_of {w : World} {g cap : Nat} {T : TypeId} {l : List It} (h : Owns IE T w (.slice (some ⟨g, 0, none⟩) l.length cap) l) :
    (∀ j u, (IE.all l)[j]? = some u → w.cell? ⟨g, j, none⟩ = some u) ∧ (∀ j, w.frozen? ⟨g, j, none⟩ = false) ∧ l.length ≤ cap ∧ cap ≤ maxLen ∧ g < w.heap.size := by
  have hcs := @World.ownsRow.cells _ _ _ _ _ _ _ h
  rcases h.2 with ⟨h0, _⟩ | ⟨g', cap', cur, e, hb, hg, hc, hm, hs, ht⟩
  · cases h0
  · injection e with e1 _ e3
    injection e1 with e1
    injection e1 with e1
    subst e1 e3
    have hB : Blk w g cur T := hg
    refine ⟨fun j u hu => ?_, fun j => hB.free j, hc, hm, hB.lt⟩
    have := hcs (g := g) rfl j u hu
    rwa [show (⟨g, 0, none⟩ : Addr).add j = ⟨g, j, none⟩ by unfold Addr.add; split <;> simp_all] at this

theorem isSome_cells (b : Nat) : ∀ (vs : List Value) (o : Nat) (w : World) (q : Addr), (w.cell? q).isSome = true → ((w.setCells b o vs).cell? q).isSome = true
  | [], _, _, _, h => h
  | v :: vs, o, w, q, h => by
    rw [World.setCells]
    refine isSome_cells b vs (o + 1) _ q ?_
    by_cases e : q = ⟨b, o, none⟩
    · subst e
      obtain ⟨u, hu⟩ := Option.isSome_iff_exists.1 h
      rw [World.cell?_setCell_same' _ _ _ h]; rfl
    · rw [World.cell?_setCell_other _ _ _ _ (fun h => e h.symm)]; exact h

set_option maxRecDepth 100000 in
set_option maxHeartbeats 1000000 in
theorem delete (v : Value) (l : List It) (n : Nat) (w : World) (h : Owns IE PT w v l) (hn : n ≤ l.length) (hl : l.length ≤ 1048576) :
    Calls Try.prog 89 #[v, .int .i64 0, .int .i64 n] w fun e w' => ∃ v', e = .returned v' ∧ Owns IE PT w' v' (l.drop n) ∧ Turns (fun k => v.ownBlock = some k) w w' ∧ v'.ownBlock = v.ownBlock := by
  have hform : (v = .slice none 0 0 ∧ l = []) ∨ ∃ g cap, v = .slice (some ⟨g, 0, none⟩) l.length cap := by
    rcases h.2 with ⟨e, h0⟩ | ⟨g, cap, cur, e, _⟩
    · exact .inl ⟨e, List.length_eq_zero_iff.1 h0⟩
    · exact .inr ⟨g, cap, e⟩
  rcases hform with ⟨rfl, rfl⟩ | ⟨g, cap, rfl⟩
  · have : n = 0 := by simpa using hn
    subst this
    have HO := Lib.hid h
    clear h hl hn
    go_enter Try.func89, Try.ntmps89
    go_wp2
    go_ret
    exact ⟨_, rfl, HO.out, Turns.refl _ _, rfl⟩
  · obtain ⟨hcell, hfree, hc, hm, hg⟩ := cells_of h
    have hlm : l.length ≤ maxLen := by unfold maxLen; omega
    have hm' : cap ≤ 9223372036854775807 := by unfold maxLen at hm; omega
    by_cases h0 : n = 0
    · subst h0
      have HO := Lib.hid h
      clear h hcell hfree hg hl
      go_enter Try.func89, Try.ntmps89
      go_wp2
      all_goals
        go_ret
        exact ⟨_, rfl, HO.out, Turns.refl _ _, rfl⟩
    · have hn0 : 0 < n := by omega
      obtain ⟨news, hnews⟩ : ∃ news, news = IE.all (l.drop n) := ⟨_, rfl⟩
      have hnl : news.length = (l.length - n) * 4 := by rw [hnews, IE.all_length, List.length_drop]; rfl
      obtain ⟨A, hA, hsrc⟩ : ∃ A : Addr, (if cap = n then some (⟨g, 0, none⟩ : Addr) else some ⟨g, n * 4, none⟩) = some A ∧ Hid (∀ t u, news[t]? = some u → w.drew.cell? (A.add t) = some u) := by
        by_cases hcn : cap = n
        · refine ⟨⟨g, 0, none⟩, by simp [hcn], Lib.hid fun t u hu => ?_⟩
          have : news = [] := List.length_eq_zero_iff.1 (by rw [hnl]; omega)
          rw [this] at hu
          simp at hu
        · refine ⟨⟨g, n * 4, none⟩, by simp [hcn], Lib.hid fun t u hu => ?_⟩
          rw [hnews, IE.all_drop, List.getElem?_drop] at hu
          have := hcell _ u hu
          rw [Addr.add_lit]
          exact this
      have s1 : Hid (news.length = (l.length - n) * 4) := Lib.hid hnl
      have s2 : Hid (∀ u ∈ news, u.oneCell' = true) := Lib.hid (by rw [hnews]; exact IE.all_cell _)
      have hall : (IE.all l).length = l.length * 4 := IE.all_length l
      have hsome : ∀ j, j < l.length * 4 → (w.cell? ⟨g, j, none⟩).isSome = true := fun j hj => by
        rw [hcell j _ (List.getElem?_eq_getElem (by rw [hall]; exact hj))]; rfl
      have s3 : Hid (∀ t, t < news.length → (w.drew.cell? ⟨g, 0 + 0 * 4 + t, none⟩).isSome = true ∧ w.drew.frozen? ⟨g, 0 + 0 * 4 + t, none⟩ = false) := Lib.hid (by
        intro t ht
        rw [hnl] at ht
        rw [show 0 + 0 * 4 + t = t by omega]
        exact ⟨hsome t (by omega), hfree t⟩)
      obtain ⟨W1, hW1⟩ : ∃ W1, W1 = w.drew.setCells g (0 + 0 * 4) news := ⟨_, rfl⟩
      have hcl : ∀ ty, (Builtin.clear_ #[ST] ty #[.slice (some ⟨g, (l.length - n) * 4, none⟩) (l.length - (l.length - n)) (cap - (l.length - n))]).run Try.prog W1 = .ok (.tuple #[]) (W1.setCells g ((l.length - n) * 4) (zerosOf zeroIt (l.length - (l.length - n)))) := by
        intro ty
        have e : l.length - (l.length - n) = n := by omega
        refine run_clear (E := IE) W1 ST PT ty zeroIt Try.underlying103 zeroV rfl (by decide) (by decide) g _ _ _ (by omega) (fun j hj => ?_) (fun j hj => ?_)
        · rw [hW1]
          refine isSome_cells g _ _ _ _ (hsome _ ?_)
          change j < (l.length - (l.length - n)) * 4 at hj
          omega
        · rw [hW1, World.frozen?_setCells]
          exact hfree _
      have hcut := Lib.hid (Owns.cut (E := IE) (T := PT) (w := w.drew) (l := l) h n hn (zerosOf zeroIt (l.length - (l.length - n))) (by rw [zerosOf_length]; show (l.length - (l.length - n)) * 4 = n * 4; omega))
      have hW := Lib.hid hW1
      have hN := Lib.hid hnews
      have hnc : n ≤ cap := by omega
      have hdc : l.length - n ≤ cap := by omega
      clear hW1 hnews hnl hcell hfree hall hsome h hg
      go_enter Try.func89, Try.ntmps89
      go_wp2_with fail
      go_region_law (refine step_append_room rfl (.tmp 22) (.tmp 25) ST rfl PT (infoOf infoP).choose 4 Try.underlying103 (infoOf infoP).choose_spec.1 (infoOf infoP).choose_spec.2.2.1 g 0 0 cap (by simp [Act.eval, Act.put]) A (l.length - n) (cap - n) news (by simp [Act.eval, Act.put]) s1.out hsrc.out s2.out (by omega) s3.out ?_; rw [← hW.out])
      go_wp2
      go_ret
      refine ⟨_, rfl, ?_, ?_, rfl⟩
      · have hc2 := hcut.out
        rw [← hN.out] at hc2
        rw [hW.out]
        exact hc2
      · rw [hW.out]
        exact Turns.setCells (S := fun k => (Value.slice (some ⟨g, 0, none⟩) l.length cap).ownBlock = some k) (.inl rfl) _ _ _ (Turns.setCells (S := fun k => (Value.slice (some ⟨g, 0, none⟩) l.length cap).ownBlock = some k) (.inl rfl) _ _ _ (Turns.refl _ _).drew)
end Go.Proofs.Ytcaloeolmoodbaa.que
