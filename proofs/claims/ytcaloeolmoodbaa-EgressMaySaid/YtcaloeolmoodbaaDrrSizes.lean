/-
  drr.Sched: sizes, forget.
-/
import Derived.Test.YtcaloeolmoodbaaDrrCalls2
namespace Go.Proofs.Ytcaloeolmoodbaa.drr
open Go.RowKit mem Go.Maps
set_option linter.unusedVariables false

abbrev HT : TypeId := 53
/-- v holds the heads l -/
def HRow (w : World) (v : Value) (l : Hs) : Prop :=
  ∃ ao c, v = .slice ao l.length c ∧ l.length ≤ c ∧ (l = [] ∨ ∃ g o, ao = some ⟨g, o, none⟩ ∧ g < w.heap.size ∧ ∀ j h, l[j]? = some h → w.cell? ⟨g, o + j * 2, none⟩ = some (.int .i64 h.1) ∧ w.cell? ⟨g, o + j * 2 + 1, none⟩ = some (.int .i64 h.2))
theorem HRow.later {w w' : World} {v : Value} {l : Hs} (h : HRow w v l) (t : New w w') : HRow w' v l := by
  obtain ⟨ao, c, e, hc, hr⟩ := h
  refine ⟨ao, c, e, hc, ?_⟩
  rcases hr with e | ⟨g, o, e, hg, hcell⟩
  · exact .inl e
  · exact .inr ⟨g, o, e, Nat.lt_of_lt_of_le hg t.size, fun j h hj => ⟨(t.cell (a := ⟨g, o + j * 2, none⟩) hg (fun h => h)).trans (hcell j h hj).1, (t.cell (a := ⟨g, o + j * 2 + 1, none⟩) hg (fun h => h)).trans (hcell j h hj).2⟩⟩
theorem zeroI (w : World) : (zeroValue 3).run Try.prog w = .ok (.int .i64 0) w := by kernel_rfl
/-- the map reads as the heads -/
structure Mz (D : DataW Unit) (l : Hs) : Prop where
  has : ∀ id, has D (.int .i64 id) = decide (id ∈ ids l)
  at_ : ∀ h ∈ l, ∀ z, D.atKey (.int .i64 h.1) z = .lit (.int .i64 h.2)
theorem ids_snoc (l : Hs) (x : Int × Int) : ids (l ++ [x]) = ids l ++ [x.1] := by unfold ids; exact List.map_append
theorem Mz.snoc {D : DataW Unit} {l : Hs} (h : Mz D l) (hD : IsMap D) (x : Int × Int) (hn : x.1 ∉ ids l) : Mz (D.put (.int .i64 x.1) (.lit (.int .i64 x.2))) (l ++ [x]) := by
  refine ⟨fun id => ?_, fun y hy z => ?_⟩
  · by_cases e : id = x.1
    · subst e
      rw [has_put_same hD (show WideAt.IsKeyLit (.int .i64 x.1) from trivial), ids_snoc]
      simp
    · rw [has_put_other (fun e2 => e (by injection e2)), h.has id, ids_snoc]
      simp [e]
  · rcases List.mem_append.1 hy with hy | hy
    · have : y.1 ≠ x.1 := fun e => hn (by rw [← e]; exact List.mem_map.2 ⟨y, hy, rfl⟩)
      rw [atKey_put_other (fun e2 => this (by injection e2))]
      exact h.at_ y hy z
    · simp at hy; subst hy
      exact atKey_put_same hD (show WideAt.IsKeyLit (.int .i64 y.1) from trivial) _ _
theorem take_succ' {α : Type} {l : List α} {j : Nat} {x : α} (h : l[j]? = some x) : l.take (j + 1) = l.take j ++ [x] := by
  rw [List.take_add_one, h]; rfl
theorem asc_not {l : Hs} (ha : (ids l).Pairwise (· < ·)) {j : Nat} {x : Int × Int} (hx : l[j]? = some x) : x.1 ∉ ids (l.take j) := by
  intro hm
  unfold ids at hm ha
  have h1 : (l.take (j + 1)).map (·.1) = (l.take j).map (·.1) ++ [x.1] := by rw [take_succ' hx]; simp
  have h2 : ((l.take (j + 1)).map (·.1)).Pairwise (· < ·) := by
    rw [List.map_take]; exact ha.sublist (List.take_sublist _ _)
  rw [h1, List.pairwise_append] at h2
  have := h2.2.2 x.1 hm x.1 (by simp)
  omega

set_option maxRecDepth 100000 in
set_option maxHeartbeats 2000000 in
theorem sizes (p mb c : Nat) (D : DataW Unit) (s : Sc) (l : Hs) (v : Value) (w : World) (h : Ss w p mb c D s) (hr : HRow w v l) (ok : Ok s l) (hlen : l.length ≤ 1048576) :
    Calls Try.prog 51 #[.pointer (some ⟨p, 0, none⟩), v] w fun e w' => ∃ mz D', e = .returned (.map (some mz)) ∧ w'.ownsMap Try.prog 3 (plainElem Try.prog 3) mz l.length D' ∧ w.heap.size ≤ mz ∧ New w w' ∧ Mz D' l := by
  obtain ⟨ao, cp, rfl, hcp, hrow⟩ := hr
  have hmm := @run_makeMap Try.prog
  have HH := Lib.hid h
  have HOK := Lib.hid ok
  have HROW := Lib.hid hrow
  have hlm : l.length ≤ maxLen := by unfold maxLen; omega
  clear h ok hrow
  go_enter Try.func51, Try.ntmps51
  have HM0 : Hid ((w.alloc (.map #[] 0)).ownsMap Try.prog 3 (plainElem Try.prog 3) w.heap.size 0 (.map [] : DataW Unit) ∧ New w (w.alloc (.map #[] 0))) := Lib.hid ⟨World.ownsMap_made _ _ _ _, (Turns.refl _ _).alloc _⟩
  go_upto_region 2 with fail
  refine (show Code.wp _ _ _ _ (w.alloc (.map #[] 0)) from ?_)
  have HS : Hid (w.heap.size ≤ w.heap.size) := Lib.hid (Nat.le_refl _)
  obtain ⟨mz, hmz⟩ : ∃ mz, w.heap.size = mz := ⟨_, rfl⟩
  rw [hmz] at HM0
  have HZ : Hid (w.heap.size ≤ mz) := Lib.hid (by omega)
  simp only [hmz]
  clear hmz HS
  generalize w.alloc (.map #[] 0) = w1 at *
  go_wp2_with fail
  go_loopw [13] (fun i wr => ∃ (j : Nat) (D' : DataW Unit), j ≤ l.length ∧ i = .int .i64 j ∧ wr.ownsMap Try.prog 3 (plainElem Try.prog 3) mz j D' ∧ New w wr ∧ Mz D' (l.take j)) (fun i _ => l.length - (intOf i).toNat)
  case atStart => exact ⟨0, _, Nat.zero_le _, rfl, HM0.out.1, HM0.out.2, (fun id => by simp [ids]; rfl), (fun x hx => by simp at hx)⟩
  case round =>
    obtain ⟨j, D', hj, rfl, hown, hnw, hmz⟩ := hrel
    have HO := Lib.hid hown
    have HN := Lib.hid hnw
    have HZM := Lib.hid hmz
    clear hown hnw hmz HM0
    by_cases hlt : j < l.length
    · obtain ⟨x, hx⟩ : ∃ x, l[j]? = some x := ⟨_, List.getElem?_eq_getElem hlt⟩
      obtain ⟨g, o, rfl, hg, hcell⟩ := HROW.out.resolve_left (fun e => by rw [e] at hlt; simp at hlt)
      have hc0 := (HN.out.cell (a := ⟨g, o + j * 2, none⟩) hg (fun h => h)).trans (hcell j x hx).1
      have hc1 := (HN.out.cell (a := ⟨g, o + j * 2 + 1, none⟩) hg (fun h => h)).trans (hcell j x hx).2
      have hxm := List.mem_of_getElem? hx
      obtain ⟨f, hf, hid⟩ := HOK.out.fl x hxm
      obtain ⟨hs0, hs1⟩ := HOK.out.sz x hxm
      have HX := Lib.hid hx
      have HZ2 := Lib.hid (HZM.out.snoc HO.out.isMap x (asc_not HOK.out.asc hx))
      rw [← take_succ' hx] at HZ2
      have hrg := HH.out.rg f hf
      have hrd := HH.out.rd2 f hf
      have hmo := HH.out.ok.m1
      rw [hid] at hrg hrd
      obtain ⟨id, sz⟩ := x
      dsimp only at *
      obtain ⟨hr1, hr2⟩ := hrg
      have HS7 := Lib.hid ((HH.out.later HN.out).later ((Turns.refl (fun _ => False) wr).alloc (.cells #[.int .i64 id, .int .i64 sz] HT)))
      have HO7 := Lib.hid (HO.out.alloc (.cells #[.int .i64 id, .int .i64 sz] HT))
      have HN7 : Hid (New w (wr.alloc (.cells #[.int .i64 id, .int .i64 sz] HT))) := Lib.hid (HN.out.alloc _)
      have HB7 : Hid (Blk (wr.alloc (.cells #[.int .i64 id, .int .i64 sz] HT)) wr.heap.size #[.int .i64 id, .int .i64 sz] HT) := Lib.hid (Blk.new _ _ _)
      clear hx hcell hf hid hxm
      go_upto_region 5 with fail
      refine (show Code.wp _ _ _ _ (wr.alloc (.cells #[.int .i64 id, .int .i64 sz] HT)) from ?_)
      clear hc0 hc1
      generalize wr.alloc (.cells #[.int .i64 id, .int .i64 sz] HT) = w7 at *
      generalize wr.heap.size = ph at *
      have hl1 := look_ok_at HS7.out.drew.map hr1 hr2 hrd
      obtain ⟨⟨c0, c1, c2, c3⟩, _⟩ := four HS7.out.blk
      obtain ⟨⟨x0, x1⟩, _⟩ := two HB7.out
      have hkey := keyI hr1 hr2
      have hval : plainElem (H := Unit) Try.prog 3 (.int .i64 sz) = some (.lit (.int .i64 sz), []) := plainElem_int Try.underlying3 (by simp [Lit.wf, IntKind.min, IntKind.max, IntKind.bits, IntKind.signed]; omega)
      have d0 : decide ((0 : Int) ≤ sz) = true := decide_eq_true hs0
      have d1 : decide (sz ≤ s.most) = true := decide_eq_true hs1
      have hmx : j < maxLen := by unfold maxLen; omega
      go_region
      go_upto_region 6 with fail
      go_region
      go_wp2_with (at_mapUpdate; refine wpList_mapUpdate_own _ rfl _ _ _ 86 rfl 3 3 lawI Try.underlying86 (plainElem Try.prog 3) mz j D' rfl (show (World.ownsMap _ _ _ _ _ _ _) from HO7.out) hmx _ _ _ rfl rfl hkey _ [] hval ?_; intro wm hownm hgrowm; have HM := Lib.hid hownm; have HG := Lib.hid hgrowm; clear hownm hgrowm)
      go_roundw
      case rel =>
        have t2 : Turns (· = mz) w7 wm := Turns.of_drew (Turns.of_drew ((Turns.of_grown HG.out).mono (fun k _ hk => by injection hk)))
        exact ⟨j + 1, _, by omega, by go_num, HM.out, HN7.out.trans (t2.mono (fun i _ hi => .inr (by rw [hi]; exact HZ.out))), HZ2.out⟩
      case measure => simp [intOf]; omega
    · obtain rfl : j = l.length := by omega
      have HZE := HZM.out
      rw [List.take_length] at HZE
      have HZF := Lib.hid HZE
      clear HZE
      go_wp2
      go_ret
      exact ⟨mz, D', rfl, HO.out, HZ.out, HN.out, HZF.out⟩

/-! ### forget -/
theorem Sc.ok.some {s : Sc} (h : s.ok) (F : Fl → Int) (hF : ∀ f ∈ s.L, F f = f.left ∨ F f = 0) : Sc.ok ⟨s.most, upd s.L F, s.turn, s.g⟩ := by
  refine ⟨h.m0, h.m1, fun g hg => ?_, fun e => ?_⟩
  · obtain ⟨f, hf, rfl⟩ := upd_mem hg
    obtain ⟨h1, h2, h3, h4, h5⟩ := h.f f hf
    have hm := h.m0
    show s.most ≤ f.share ∧ f.share ≤ 16777216 ∧ 0 ≤ F f ∧ F f < s.most + f.share ∧ (f.id ≠ s.turn ∨ s.g = false → F f < s.most)
    rcases hF f hf with e | e <;> rw [e]
    · exact ⟨h1, h2, h3, h4, h5⟩
    · exact ⟨h1, h2, Int.le_refl _, by omega, fun _ => by omega⟩
  · obtain ⟨f, hf, e⟩ := h.t e
    exact ⟨_, upd_mem' hf, e⟩
/-- what is left behind some rounds -/
def part (l : Hs) (left : Lit → Bool) (f : Fl) : Int := bif left (.int .i64 f.id) then f.left else forgetF l f
theorem part_or (l : Hs) (left : Lit → Bool) (f : Fl) : part l left f = f.left ∨ part l left f = 0 := by
  unfold part forgetF
  cases left (.int .i64 f.id)
  · simp only [cond_false]
    split
    · exact .inl rfl
    · exact .inr rfl
  · exact .inl rfl
def mkV (g : Option Nat) : Value := .pointer (g.map (fun g => ⟨g, 0, none⟩))
theorem sameI (a b : Int) : (Lit.int .i64 a).sameKey (.int .i64 b) = decide (a = b) := by
  by_cases e : a = b
  · subst e
    rw [decide_eq_true rfl]
    simp [Lit.sameKey]
  · rw [decide_eq_false e]
    exact sameKey_ne (fun e2 => e (by injection e2))
set_option maxRecDepth 10000 in
/-- 'v, ok := sizes[id]' -/
theorem look_sz {w : World} {mz n : Nat} {D : DataW Unit} {l : Hs} (h : w.ownsMap Try.prog 3 (plainElem Try.prog 3) mz n D) (hz : Mz D l) {id : Int} (n0 : -9223372036854775808 ≤ id) (n1 : id ≤ 9223372036854775807) :
    (Instr.lookup 86 (.map (some mz)) (.int .i64 id) true).run Try.prog w = .ok (.tuple #[.int .i64 (sizeOf' l id), .bool (decide (id ∈ ids l))]) w := by
  obtain ⟨v, ps, hrun, hv⟩ := h.look_ok lawI Try.underlying86 (zeroI w) (zd := .lit (.int .i64 0)) (zp := []) (plainElem_int Try.underlying3 (by decide)) (keyI n0 n1)
  obtain ⟨a, rfl, hy, _⟩ := plainElem_int_inv Try.underlying3 hv
  rw [hz.has id] at hrun
  have ha : a = sizeOf' l id := by
    injection hy with hy _
    by_cases e : id ∈ ids l
    · have := hz.at_ _ (sizeOf_mem e) (.lit (.int .i64 0))
      rw [this] at hy
      injection hy with hy
      injection hy with _ hy
      exact hy.symm
    · have hno := hz.has id
      rw [decide_eq_false e] at hno
      rw [atKey_of_not_has hno] at hy
      injection hy with hy
      injection hy with _ hy
      rw [← hy]
      unfold sizeOf'
      cases hx : l.find? (fun h => h.1 == id) with
      | none => rfl
      | some y =>
        exfalso
        have h1 := List.mem_of_find?_eq_some hx
        have h2 := List.find?_some hx
        simp at h2
        exact e (List.mem_map.2 ⟨y, h1, h2⟩)
  rw [← ha]
  exact hrun
set_option maxRecDepth 10000 in
/-- 'sizes[id]' -/
theorem look_at_sz {w : World} {mz n : Nat} {D : DataW Unit} {l : Hs} (h : w.ownsMap Try.prog 3 (plainElem Try.prog 3) mz n D) (hz : Mz D l) {id : Int} (n0 : -9223372036854775808 ≤ id) (n1 : id ≤ 9223372036854775807) :
    (Instr.lookup 86 (.map (some mz)) (.int .i64 id) false).run Try.prog w = .ok (.int .i64 (sizeOf' l id)) w := by
  obtain ⟨v, ps, hrun, hv⟩ := h.lookup lawI Try.underlying86 (zeroI w) (zd := .lit (.int .i64 0)) (zp := []) (plainElem_int Try.underlying3 (by decide)) (keyI n0 n1)
  obtain ⟨a, rfl, hy, _⟩ := plainElem_int_inv Try.underlying3 hv
  have ha : a = sizeOf' l id := by
    injection hy with hy _
    by_cases e : id ∈ ids l
    · have := hz.at_ _ (sizeOf_mem e) (.lit (.int .i64 0))
      rw [this] at hy
      injection hy with hy
      injection hy with _ hy
      exact hy.symm
    · have hno := hz.has id
      rw [decide_eq_false e] at hno
      rw [atKey_of_not_has hno] at hy
      injection hy with hy
      injection hy with _ hy
      rw [← hy]
      unfold sizeOf'
      cases hx : l.find? (fun h => h.1 == id) with
      | none => rfl
      | some y =>
        exfalso
        have h1 := List.mem_of_find?_eq_some hx
        have h2 := List.find?_some hx
        simp at h2
        exact e (List.mem_map.2 ⟨y, h1, h2⟩)
  rw [← ha]
  exact hrun
end Go.Proofs.Ytcaloeolmoodbaa.drr
