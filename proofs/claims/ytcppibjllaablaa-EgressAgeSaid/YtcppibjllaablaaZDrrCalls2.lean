/-
  drr.Sched: Add, Remove, pass.
-/
import Derived.Test.YtcppibjllaablaaZKaa
import Derived.Test.YtcppibjllaablaaZKab
set_option linter.unusedVariables false
set_option linter.unusedSimpArgs false
namespace Go.Proofs.Ytcppibjllaablaa.drr
open Go.RowKit mem Go.Maps
set_option linter.unusedVariables false

theorem add_bad (p mb c : Nat) (D : DataW Unit) (s : Sc) (id sh : Int) (w : World) (h : Ss w p mb c D s) (hb : sh < s.most ∨ 16777216 < sh) :
    Calls Try.prog 20 #[.pointer (some ⟨p, 0, none⟩), .int .i64 id, .int .i64 sh] w fun e w' => e = .returned (.int .i64 5) ∧ w' = w := by
  obtain ⟨⟨c0, c1, c2, c3⟩, _⟩ := four h.blk
  clear h
  go_enter Try.func20, Try.ntmps20
  by_cases h1 : sh < s.most
  · have d1 : decide (sh < s.most) = true := decide_eq_true h1
    go_wp2
    go_ret
    exact ⟨rfl, rfl⟩
  · have d1 : decide (sh < s.most) = false := decide_eq_false h1
    have d2 : decide (16777216 < sh) = true := decide_eq_true (hb.resolve_left h1)
    go_wp2
    go_ret
    exact ⟨rfl, rfl⟩
theorem add_there (p mb c : Nat) (D : DataW Unit) (s : Sc) (f : Fl) (sh : Int) (w : World) (h : Ss w p mb c D s) (h1 : s.most ≤ sh) (h2 : sh ≤ 16777216) (hf : f ∈ s.L) :
    Calls Try.prog 20 #[.pointer (some ⟨p, 0, none⟩), .int .i64 f.id, .int .i64 sh] w fun e w' => e = .returned (.int .i64 10) ∧ w' = w := by
  have hr0 := look_ok_at h.map (h.rg f hf).1 (h.rg f hf).2 (h.rd2 f hf)
  obtain ⟨⟨c0, c1, c2, c3⟩, _⟩ := four h.blk
  have d1 : decide (sh < s.most) = false := decide_eq_false (by omega)
  have d2 : decide (16777216 < sh) = false := decide_eq_false (by omega)
  clear h h1 h2 hf
  go_enter Try.func20, Try.ntmps20
  go_wp2
  go_ret
  exact ⟨rfl, rfl⟩
def addS (s : Sc) (id : Int) (b : Nat) (sh : Int) : Sc := ⟨s.most, s.L ++ [⟨id, b, sh, 0⟩], s.turn, s.g⟩
theorem fnd_snoc (L : List Fl) (f : Fl) (id : Int) : fnd (L ++ [f]) id = (fnd L id).or (if f.id = id then some f else none) := by
  unfold fnd
  rw [List.find?_append]
  congr 1
  by_cases e : f.id = id
  · simp [e]
  · have : (f.id == id) = false := by simpa using e
    simp [this, e]
theorem fnd_none {L : List Fl} {id : Int} (h : fnd L id = none) : ∀ f ∈ L, f.id ≠ id := fun f hf e => by
  have := List.find?_eq_none.1 h f hf
  simp [e] at this
set_option maxRecDepth 10000 in
set_option maxHeartbeats 1000000 in
theorem add_ok (p mb c : Nat) (D : DataW Unit) (s : Sc) (id sh : Int) (w : World) (h : Ss w p mb c D s) (h1 : s.most ≤ sh) (h2 : sh ≤ 16777216) (n0 : -9223372036854775808 ≤ id) (n1 : id ≤ 9223372036854775807) (hf : fnd s.L id = none) (hc : c ≤ 1048576) :
    Calls Try.prog 20 #[.pointer (some ⟨p, 0, none⟩), .int .i64 id, .int .i64 sh] w fun e w' => e = .returned (.int .i64 0) ∧ Ss w' p mb (c + 1) (D.put (.int .i64 id) (.lit (.int .i64 (w.heap.size : Int)))) (addS s id w.heap.size sh) ∧ Turns (· = mb) w w' := by
  have hr0 := look_ok_none h.map n0 n1 (by rw [h.rd1 id, hf]; rfl)
  obtain ⟨⟨c0, c1, c2, c3⟩, _⟩ := four h.blk
  have d1 : decide (sh < s.most) = false := decide_eq_false (by omega)
  have d2 : decide (16777216 < sh) = false := decide_eq_false (by omega)
  have HF := Lib.hid hf
  have HH := Lib.hid h
  have HN : Hid (s.most ≤ sh ∧ sh ≤ 16777216) := Lib.hid ⟨h1, h2⟩
  have hval : ptrE (.pointer (some ⟨w.heap.size, 0, none⟩)) = some (.lit (.int .i64 (w.heap.size : Int)), []) := rfl
  have hkey := keyI n0 n1
  have hmx : c < maxLen := by unfold maxLen; omega
  have hown := h.map.alloc (.cells #[.int .i64 sh, .int .i64 0] FB)
  have HO := Lib.hid hown
  have HB : Hid (Blk (w.alloc (.cells #[.int .i64 sh, .int .i64 0] FB)) w.heap.size #[.int .i64 sh, .int .i64 0] FB) := Lib.hid (Blk.new _ _ _)
  clear h h1 h2 hf hown
  go_enter Try.func20, Try.ntmps20
  go_wp2_with (at_mapUpdate; refine wpList_mapUpdate_own _ rfl _ _ _ 109 rfl 3 112 lawI Try.underlying109 ptrE mb c D rfl HO.out hmx _ _ _ rfl rfl hkey _ [] hval ?_; intro wm hownm hgrowm; have HM := Lib.hid hownm; have HG := Lib.hid hgrowm; clear hownm hgrowm)
  go_ret
  have h := HH.out
  have t1 : New w (w.alloc (.cells #[.int .i64 sh, .int .i64 0] FB)) := (Turns.refl _ _).alloc _
  have t2 : Turns (· = mb) (w.alloc (.cells #[.int .i64 sh, .int .i64 0] FB)) wm := (Turns.of_grown HG.out).mono (fun k _ hk => by injection hk)
  have tt : Turns (· = mb) w wm := (t1.mono (fun _ _ h => h.elim)).trans (t2.mono (fun i _ hi => .inl hi))
  have hm := h.mlt
  have hD : IsMap D := h.map.isMap
  refine ⟨rfl, ⟨tt.blk h.blk h.mp.symm, HM.out, fun x => ?_, fun f hf z => ?_, fun f hf => ?_, ?_, fun f hf => ?_, fun f hf => ?_, h.tr, ?_⟩, tt⟩
  · show _ = (fnd (s.L ++ [⟨id, w.heap.size, sh, 0⟩]) x).isSome
    rw [fnd_snoc]
    by_cases e : x = id
    · subst e
      rw [has_put_same hD (show WideAt.IsKeyLit (.int .i64 x) from trivial), HF.out]
      simp
    · rw [has_put_other (fun e2 => e (by injection e2)), h.rd1 x]
      have e3 : ¬ id = x := fun e2 => e e2.symm
      simp [e3]
  · rcases List.mem_append.1 hf with hf | hf
    · have := fnd_none HF.out f hf
      rw [atKey_put_other (fun e2 => this (by injection e2))]
      exact h.rd2 f hf z
    · simp at hf; subst hf
      exact atKey_put_same hD (show WideAt.IsKeyLit (.int .i64 id) from trivial) _ _
  · rcases List.mem_append.1 hf with hf | hf
    · exact tt.blk (h.fb f hf) (h.mf f hf).symm
    · simp at hf; subst hf
      exact t2.blk HB.out (by show ¬ w.heap.size = mb; omega)
  · show (s.L ++ [_]).Pairwise _
    rw [List.pairwise_append]
    refine ⟨h.ap, List.pairwise_singleton _ _, fun f hf g hg => ?_⟩
    simp at hg; subst hg
    have := h.flt f hf
    exact ⟨fnd_none HF.out f hf, by show f.b ≠ w.heap.size; omega⟩
  · rcases List.mem_append.1 hf with hf | hf
    · exact h.pf f hf
    · simp at hf; subst hf
      have := h.lt
      show w.heap.size ≠ p; omega
  · rcases List.mem_append.1 hf with hf | hf
    · exact h.rg f hf
    · simp at hf; subst hf
      exact ⟨n0, n1⟩
  · refine ⟨h.ok.m0, h.ok.m1, fun f hf => ?_, fun e => ?_⟩
    · rcases List.mem_append.1 hf with hf | hf
      · exact h.ok.f f hf
      · simp at hf; subst hf
        have := h.ok.m0
        have := HN.out
        exact ⟨this.1, this.2, Int.le_refl _, by show 0 < s.most + sh; omega, fun _ => by show 0 < s.most; omega⟩
    · obtain ⟨f, hf, e⟩ := h.ok.t e
      exact ⟨f, List.mem_append_left _ hf, e⟩

theorem remove_none (p mb c : Nat) (D : DataW Unit) (s : Sc) (id : Int) (w : World) (h : Ss w p mb c D s) (n0 : -9223372036854775808 ≤ id) (n1 : id ≤ 9223372036854775807) (hf : fnd s.L id = none) :
    Calls Try.prog 92 #[.pointer (some ⟨p, 0, none⟩), .int .i64 id] w fun e w' => e = .returned (.int .i64 12) ∧ w' = w := by
  have hrun := look_ok_none h.map n0 n1 (by rw [h.rd1 id, hf]; rfl)
  obtain ⟨⟨c0, c1, c2, c3⟩, _⟩ := four h.blk
  clear h hf
  go_enter Try.func92, Try.ntmps92
  go_wp2
  go_ret
  exact ⟨rfl, rfl⟩
def remS (s : Sc) (id : Int) : Sc := ⟨s.most, s.L.filter (fun f => f.id != id), s.turn, s.g && (id != s.turn)⟩
theorem fnd_filter (L : List Fl) (id x : Int) : fnd (L.filter (fun f => f.id != id)) x = if x = id then none else fnd L x := by
  unfold fnd
  induction L with
  | nil => split <;> rfl
  | cons f l ih =>
    rw [List.filter_cons]
    by_cases e : f.id = id
    · have e1 : (f.id != id) = false := by simp [e]
      rw [e1]
      simp only [Bool.false_eq_true, if_false]
      rw [ih, List.find?_cons]
      split
      next => rfl
      next hx =>
        have : (f.id == x) = false := by simp; omega
        rw [this]
    · have e1 : (f.id != id) = true := by simp [e]
      rw [e1]
      simp only [if_true]
      rw [List.find?_cons, List.find?_cons, ih]
      by_cases e2 : f.id = x
      · have : (f.id == x) = true := by simp [e2]
        rw [this]
        have : ¬ x = id := by omega
        simp [this]
      · have : (f.id == x) = false := by simp [e2]
        rw [this]
theorem Sc.ok.rem {s : Sc} (h : s.ok) (id : Int) : (remS s id).ok := by
  refine ⟨h.m0, h.m1, fun f hf => ?_, fun e => ?_⟩
  · obtain ⟨hf, hne⟩ := List.mem_filter.1 hf
    obtain ⟨h1, h2, h3, h4, h5⟩ := h.f f hf
    refine ⟨h1, h2, h3, h4, fun e => h5 ?_⟩
    rcases e with e | e
    · exact .inl e
    · show f.id ≠ s.turn ∨ s.g = false
      have e' : (s.g && (id != s.turn)) = false := e
      cases hg : s.g
      · exact .inr rfl
      · rw [hg] at e'
        simp at e' hne
        exact .inl (by omega)
  · have e' : (s.g && (id != s.turn)) = true := e
    simp at e'
    obtain ⟨f, hf, e3⟩ := h.t e'.1
    exact ⟨f, List.mem_filter.2 ⟨hf, by simp; rw [e3]; exact fun e => e'.2 e.symm⟩, e3⟩
set_option maxRecDepth 10000 in
set_option maxHeartbeats 1000000 in
theorem remove_ok (p mb c : Nat) (D : DataW Unit) (s : Sc) (f : Fl) (w : World) (h : Ss w p mb c D s) (hf : f ∈ s.L) :
    Calls Try.prog 92 #[.pointer (some ⟨p, 0, none⟩), .int .i64 f.id] w fun e w' => e = .returned (.int .i64 0) ∧ Ss w' p mb c (D.del (.int .i64 f.id)) (remS s f.id) ∧ Turns (fun k => k = p ∨ k = mb) w w' := by
  have hr0 := look_ok_at h.map (h.rg f hf).1 (h.rg f hf).2 (h.rd2 f hf)
  obtain ⟨⟨c0, c1, c2, c3⟩, k0, k1, k2, k3⟩ := four h.blk
  have HH := Lib.hid h
  have HF := Lib.hid hf
  have hkey := keyI (h.rg f hf).1 (h.rg f hf).2
  have hown := h.map
  have HO := Lib.hid hown
  have hok := h.ok.rem f.id
  have HK := Lib.hid hok
  have HE : Hid (∀ w1, w1.ownsMap Try.prog 3 ptrE mb c (D.del (.int .i64 f.id)) → Turns (fun k => k = p ∨ k = mb) w w1 → Blk w1 p (cells (remS s f.id) mb) SB → Ss w1 p mb c (D.del (.int .i64 f.id)) (remS s f.id)) := Lib.hid (by
    intro w1 hm t hb
    refine ⟨hb, hm, fun x => ?_, fun g hg z => ?_, fun g hg => ?_, List.Pairwise.filter _ h.ap, fun g hg => h.pf g (List.mem_filter.1 hg).1, fun g hg => h.rg g (List.mem_filter.1 hg).1, h.tr, hok⟩
    · show _ = (fnd (s.L.filter _) x).isSome
      rw [fnd_filter]
      by_cases e : x = f.id
      · rw [if_pos e, e, has_del_same]; rfl
      · rw [if_neg e, has_del_other (fun e2 => e (by injection e2)), h.rd1 x]
    · obtain ⟨hg, hne⟩ := List.mem_filter.1 hg
      simp at hne
      rw [atKey_del_other (fun e2 => hne (by injection e2))]
      exact h.rd2 g hg z
    · obtain ⟨hg, hne⟩ := List.mem_filter.1 hg
      refine t.blk (h.fb g hg) (fun e => ?_)
      rcases e with e | e
      · exact h.pf g hg e
      · exact h.mf g hg e.symm)
  have hpm := h.mp
  clear h hf hown hok
  go_enter Try.func92, Try.ntmps92
  go_upto_region 5 with (at_delete; refine wpList_delete_own _ rfl _ _ 109 3 rfl 112 lawI Try.underlying109 ptrE mb c D rfl HO.out _ _ rfl hkey ?_; intro wm hownm hturn; have HM := Lib.hid hownm; have HG := Lib.hid hturn.grown; clear hownm hturn)
  have t2 : Turns (· = mb) w wm := (Turns.of_grown HG.out).mono (fun k _ hk => by injection hk)
  have hb2 := t2.blk HH.out.blk hpm.symm
  have HB2 := Lib.hid hb2
  obtain ⟨⟨m0, m1, m2, m3⟩, q0, q1, q2, q3⟩ := four hb2
  have HT := Lib.hid (t2.mono (S' := fun k => k = p ∨ k = mb) (fun _ _ h => .inr h))
  clear t2 hb2 c0 c1 c2 c3 k0 k1 k2 k3 hr0
  by_cases e : f.id = s.turn
  · have e1 : (f.id == s.turn) = true := by simp [e]
    have e2 : (s.g && (f.id != s.turn)) = false := by simp [e]
    have HZ := HE.out (wm.setCell ⟨p, 3, none⟩ (.bool false)) (ownsMap_turns (S := (· = p)) HM.out (Turns.setCell (S := (· = p)) (Turns.refl _ wm) (p := ⟨p, 3, none⟩) (.inl rfl) _) hpm) (HT.out.setCell (p := ⟨p, 3, none⟩) (.inl (.inl rfl)) _) (by
      have := HB2.out.set 3 (.bool false)
      unfold remS
      rw [e2]
      exact this)
    have HZ2 := Lib.hid HZ
    clear HZ
    clear e
    go_wp2
    go_ret
    exact ⟨rfl, HZ2.out, HT.out.setCell (p := ⟨p, 3, none⟩) (.inl (.inl rfl)) _⟩
  · have e1 : (f.id == s.turn) = false := by simp [e]
    have e2 : (s.g && (f.id != s.turn)) = s.g := by simp [e]
    have HZ := Lib.hid (HE.out wm HM.out HT.out (by unfold remS; rw [e2]; exact HB2.out))
    clear e
    go_wp2
    go_ret
    exact ⟨rfl, HZ.out, HT.out⟩

/-- a row of whole numbers -/
def Row (w : World) (g : Nat) (l : List Int) : Prop := g < w.heap.size ∧ ∀ j, j < l.length → w.cell? ⟨g, j, none⟩ = some (.int .i64 (l.getD j 0))
theorem Row.turns {S : Nat → Prop} {w w' : World} {g : Nat} {l : List Int} (h : Row w g l) (t : Turns S w w') (hn : ¬ S g) : Row w' g l :=
  ⟨Nat.lt_of_lt_of_le h.1 t.size, fun j hj => (t.cell (a := ⟨g, j, none⟩) h.1 hn).trans (h.2 j hj)⟩
theorem row_of_owns {T : TypeId} {w : World} {v : Value} {l : List Int} (h : Owns itr.IntE T w v l) (hl : l ≠ []) : ∃ g c, v = .slice (some ⟨g, 0, none⟩) l.length c ∧ l.length ≤ c ∧ Row w g l ∧ v.ownBlock = some g := by
  obtain ⟨ao, c, rfl, hc, hr, ho⟩ := h.form
  rcases hr with e | ⟨g, rfl, hg, hcell⟩
  · exact absurd e hl
  · refine ⟨g, c, rfl, hc, ⟨hg, fun j hj => ?_⟩, ho g rfl⟩
    have := hcell j (l.getD j 0) (by rw [List.getD_eq_getElem?_getD, List.getElem?_eq_getElem hj]; rfl) 0 _ rfl
    simpa [itr.IntE] using this
set_option maxRecDepth 10000 in
theorem pass (p mb c : Nat) (D : DataW Unit) (s : Sc) (l : List Int) (g cap : Nat) (w : World) (h : Ss w p mb c D s) (hr : Row w g l) (hl : l ≠ []) (hlen : l.length ≤ 1048576) (hcap : l.length ≤ cap) (hasc : l.Pairwise (· < ·)) (hrg : ∀ x ∈ l, -9223372036854775808 ≤ x ∧ x ≤ 9223372036854775807)
    (hok : Sc.ok ⟨s.most, s.L, nextId l s.turn, false⟩) :
    Calls Try.prog 49 #[.pointer (some ⟨p, 0, none⟩), .slice (some ⟨g, 0, none⟩) l.length cap] w fun e w' => e = .returned (.tuple #[]) ∧ Ss w' p mb c D ⟨s.most, s.L, nextId l s.turn, false⟩ ∧ Turns (· = p) w w' := by
  have hbs := Any.slices_BinarySearch_int Try.searchI g 0 l.length cap l s.turn w (Nat.le_refl _) (by omega) (fun j hj => by rw [Nat.zero_add]; exact hr.2 j hj) (by rw [List.take_length]; exact itr.asc_le hasc)
  rw [List.take_length] at hbs
  have HBS := Lib.hid hbs
  have HH := Lib.hid h
  have hlm : l.length ≤ maxLen := by unfold maxLen; omega
  obtain ⟨⟨c0, c1, c2, c3⟩, k0, k1, k2, k3⟩ := four h.blk
  have h0 : 0 < l.length := List.length_pos_iff.2 hl
  have hcp : l.countP (fun x => decide (x < s.turn)) ≤ l.length := List.countP_le_length
  have HE : Hid (∀ w1, Ss w1 p mb c D s → Ss ((w1.setCell ⟨p, 2, none⟩ (.int .i64 (nextId l s.turn))).setCell ⟨p, 3, none⟩ (.bool false)) p mb c D ⟨s.most, s.L, nextId l s.turn, false⟩ ∧ Turns (· = p) w1 ((w1.setCell ⟨p, 2, none⟩ (.int .i64 (nextId l s.turn))).setCell ⟨p, 3, none⟩ (.bool false))) := Lib.hid (fun w1 h1 => by
    have t : Turns (· = p) w1 ((w1.setCell ⟨p, 2, none⟩ (.int .i64 (nextId l s.turn))).setCell ⟨p, 3, none⟩ (.bool false)) := ((Turns.refl (· = p) w1).setCell (p := ⟨p, 2, none⟩) (.inl rfl) _).setCell (p := ⟨p, 3, none⟩) (.inl rfl) _
    exact ⟨h1.turn _ _ ((h1.blk.set 2 _).set 3 _) t (hrg _ (nextId_mem hl _)) hok, t⟩)
  obtain ⟨K, hK⟩ : ∃ K : Nat, l.countP (fun x => decide (x < s.turn)) + (if s.turn ∈ l then 1 else 0) = K := ⟨_, rfl⟩
  have hlt : K % l.length < l.length := Nat.mod_lt _ h0
  have hne : nextId l s.turn = l.getD (K % l.length) 0 := by unfold nextId; rw [hK]
  have hcell := hr.2 _ hlt
  rw [← hne] at hcell
  obtain ⟨N, hN⟩ : ∃ N : Nat, l.countP (fun x => decide (x < s.turn)) = N := ⟨_, rfl⟩
  rw [hN] at HBS hcp hK
  obtain ⟨M, hM⟩ : ∃ M : Nat, K % l.length = M := ⟨_, rfl⟩
  rw [hM] at hlt hcell
  have hM2 : ((K : Int) % (l.length : Int)) = (M : Int) := by rw [← hM]; exact (Int.natCast_emod K l.length).symm
  have i0 : (0 : Int) ≤ (M : Int) := by omega
  have i1 : (M : Int) < (l.length : Int) := by omega
  have hz : ((l.length : Int) == 0) = false := by simp; omega
  have hw : IntKind.i64.wrap ((N : Int) + 1) = (N : Int) + 1 := IntWalk.i64_in _ (by omega)
  clear h hne hbs hN hM hr
  go_enter Try.func49, Try.ntmps49
  by_cases hm : s.turn ∈ l
  · have hm1 : l.contains s.turn = true := by simpa using hm
    rw [if_pos hm] at hK
    rw [hm1] at HBS
    have hK2 : (K : Int) = (N : Int) + 1 := by omega
    rw [hK2] at hM2
    clear hK hK2 hm hm1
    generalize nextId l s.turn = t' at *
    go_wp2_with fail
    refine HBS.out.mono ?_
    rintro e w1 ⟨rfl, q, rfl⟩
    go_wp2
    go_end0
    have HZ := HE.out (w.drewN q) (HH.out.drewN q)
    exact ⟨rfl, HZ.1, ((Turns.refl _ w).drewN q).trans (HZ.2.mono (fun _ _ h => .inl h))⟩
  · have hm1 : l.contains s.turn = false := by simpa using hm
    rw [if_neg hm] at hK
    rw [hm1] at HBS
    have hK2 : (K : Int) = (N : Int) := by omega
    rw [hK2] at hM2
    clear hK hK2 hm hm1
    generalize nextId l s.turn = t' at *
    go_wp2_with fail
    refine HBS.out.mono ?_
    rintro e w1 ⟨rfl, q, rfl⟩
    go_wp2
    go_end0
    have HZ := HE.out (w.drewN q) (HH.out.drewN q)
    exact ⟨rfl, HZ.1, ((Turns.refl _ w).drewN q).trans (HZ.2.mono (fun _ _ h => .inl h))⟩
end Go.Proofs.Ytcppibjllaablaa.drr
