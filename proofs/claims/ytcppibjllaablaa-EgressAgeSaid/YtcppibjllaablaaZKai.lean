/-
  Parts of the proof, one behind the other.
-/
import Derived.Test.YtcppibjllaablaaZKae
import Derived.Test.YtcppibjllaablaaZKah
import Derived.Test.YtcppibjllaablaaZEgrR20u
set_option linter.unusedVariables false
set_option linter.unusedSimpArgs false
/-
  Two outlets with the same flows by number: Add and Remove; and the numbers themselves. Pure.
-/
namespace Go.Proofs.Ytcppibjllaablaa.drr
open Go.RowKit mem
set_option linter.unusedVariables false
theorem beqF {a b : Int} (h : ¬ a = b) : (a == b) = false := by simpa using h
theorem beqT {a b : Int} (h : a = b) : (a == b) = true := by simpa using h
theorem fnd_insF {x : Fl} (id : Int) : ∀ {l : List Fl}, (∀ f ∈ l, f.id ≠ x.id) → fnd (insF x l) id = if x.id = id then some x else fnd l id
  | [], _ => by
    show fnd [x] id = _
    unfold fnd
    by_cases e : x.id = id
    · rw [if_pos e, List.find?_cons, beqT e]
    · rw [if_neg e, List.find?_cons, beqF e]
  | f :: l, h => by
    have ih := fnd_insF (x := x) id (l := l) (fun g hg => h g (List.mem_cons_of_mem _ hg))
    have hf := h f List.mem_cons_self
    unfold insF
    split
    · unfold fnd
      rw [List.find?_cons]
      by_cases e : x.id = id
      · rw [if_pos e, beqT e]
      · rw [if_neg e, beqF e]
    · unfold fnd at ih ⊢
      rw [List.find?_cons, List.find?_cons, ih]
      by_cases e : f.id = id
      · have e2 : ¬ x.id = id := fun e2 => hf (e.trans e2.symm)
        rw [if_neg e2, beqT e, if_neg e2]
      · rw [beqF e]
theorem insF_ap {x : Fl} : ∀ {l : List Fl}, Ap l → (∀ f ∈ l, f.id ≠ x.id ∧ f.b ≠ x.b) → Ap (insF x l)
  | [], _, _ => by show Ap [x]; unfold Ap; simp
  | f :: l, h, hne => by
    obtain ⟨h1, h2⟩ := List.pairwise_cons.1 h
    have hf := hne f List.mem_cons_self
    unfold insF
    split
    next e =>
      refine List.pairwise_cons.2 ⟨fun y hy => ?_, h⟩
      have := hne y hy
      exact ⟨fun e => this.1 e.symm, fun e => this.2 e.symm⟩
    next e =>
      refine List.pairwise_cons.2 ⟨fun y hy => ?_, insF_ap (l := l) h2 (fun g hg => hne g (List.mem_cons_of_mem _ hg))⟩
      rcases insF_mem hy with hg | hg
      · rw [hg]; exact hf
      · exact h1 y hg
theorem Re.add {s r : Sc} (h : Re s r) {id : Int} {sb bx : Nat} {sh : Int} (hs : fnd s.L id = none) (hr : ∀ f ∈ r.L, f.id ≠ id) : Re (addS s id sb sh) ⟨r.most, insF ⟨id, bx, sh, 0⟩ r.L, r.turn, r.g⟩ := by
  refine ⟨h.most, h.turn, h.g, fun x => ?_⟩
  show (fnd (s.L ++ [_]) x).map key = (fnd (insF _ r.L) x).map key
  rw [fnd_snoc, fnd_insF x (by exact hr)]
  have := h.fl x
  by_cases e : id = x
  · subst e
    rw [hs, if_pos rfl, if_pos rfl]
    rfl
  · rw [if_neg e, if_neg e, Option.or_none]
    exact this
theorem Re.rem {s r : Sc} (h : Re s r) (id : Int) : Re (remS s id) (remS r id) := by
  refine ⟨h.most, h.turn, by show (s.g && _) = (r.g && _); rw [h.g, h.turn], fun x => ?_⟩
  show (fnd (s.L.filter _) x).map key = (fnd (r.L.filter _) x).map key
  rw [fnd_filter, fnd_filter]
  split
  · rfl
  · exact h.fl x
theorem SAsc.filter {L : List Fl} (h : SAsc L) (p : Fl → Bool) : SAsc (L.filter p) := by
  unfold SAsc
  exact List.pairwise_map.2 ((List.pairwise_map.1 h).filter p)
end Go.Proofs.Ytcppibjllaablaa.drr
namespace Go.Proofs.Ytcppibjllaablaa.egr
open Go.RowKit mem
open Go.Proofs.Ytcppibjllaablaa.itr
set_option linter.unusedVariables false
theorem fnd_toE {L : List Rf} (id : Int) : fnd (L.map toE) id = (L.find? (fun f => f.id == id)).map toE := by
  unfold fnd
  rw [List.find?_map]; rfl
theorem fnd_insR {x : Rf} (id : Int) : ∀ {l : List Rf}, (∀ f ∈ l, f.id ≠ x.id) → fnd ((insR x l).map toE) id = if x.id = id then some (toE x) else fnd (l.map toE) id
  | [], _ => by
    show fnd [toE x] id = _
    unfold fnd
    have e0 : (toE x).id = x.id := rfl
    by_cases e : x.id = id
    · rw [if_pos e, List.find?_cons, e0, drr.beqT e]
    · rw [if_neg e, List.find?_cons, e0, drr.beqF e]; rfl
  | f :: l, h => by
    have ih := fnd_insR (x := x) id (l := l) (fun g hg => h g (List.mem_cons_of_mem _ hg))
    have hf := h f List.mem_cons_self
    have e0 : (toE x).id = x.id := rfl
    have e1 : (toE f).id = f.id := rfl
    unfold insR
    split
    · rw [List.map_cons]
      unfold fnd
      rw [List.find?_cons, e0]
      by_cases e : x.id = id
      · rw [if_pos e, drr.beqT e]
      · rw [if_neg e, drr.beqF e]
    · rw [List.map_cons, List.map_cons]
      unfold fnd at ih ⊢
      rw [List.find?_cons, List.find?_cons, ih, e1]
      by_cases e : f.id = id
      · have e2 : ¬ x.id = id := fun e2 => hf (e.trans e2.symm)
        rw [if_neg e2, drr.beqT e, if_neg e2]
      · rw [drr.beqF e]
theorem insR_mem_iff {x g : Rf} : ∀ {l : List Rf}, g ∈ insR x l ↔ g = x ∨ g ∈ l
  | [] => by show g ∈ [x] ↔ _; simp
  | f :: l => by
    unfold insR
    split
    · simp
    · rw [List.mem_cons, insR_mem_iff (l := l), List.mem_cons]
      constructor
      · rintro (h | h | h)
        · exact .inr (.inl h)
        · exact .inl h
        · exact .inr (.inr h)
      · rintro (h | h | h)
        · exact .inr (.inl h)
        · exact .inl h
        · exact .inr (.inr h)
/-- two outlets: a flow is added -/
theorem Eqv.add {L : List Ef} {M : List Rf} (h : Eqv L (M.map toE)) {f : Ef} {x : Rf} (hid : f.id = x.id) (hv : f.video = x.video) (hq : f.q = x.q) (hl : fnd L f.id = none) (hm : ∀ g ∈ M, g.id ≠ x.id) : Eqv (L ++ [f]) ((insR x M).map toE) := fun id => by
  rw [fnd_snoc, fnd_insR id hm]
  have := h id
  by_cases e : x.id = id
  · have e2 : f.id = id := hid.trans e
    rw [← e2, hl, if_pos rfl, e2, if_pos e]
    show some (f.video, f.q) = some (x.video, x.q)
    rw [hv, hq]
  · rw [if_neg (by rw [hid]; exact e), if_neg e, Option.or_none]
    exact this
theorem Eqv.rem {L : List Ef} {M : List Ef} (h : Eqv L M) (id : Int) : Eqv (L.filter (fun f => f.id != id)) (M.filter (fun f => f.id != id)) := fun x => by
  rw [fnd_filter, fnd_filter]
  split
  · rfl
  · exact h x
theorem toE_filter (M : List Rf) (id : Int) : (M.filter (fun g => g.id != id)).map toE = (M.map toE).filter (fun f => f.id != id) := by
  rw [List.filter_map]; rfl
/-- the numbers of both -/
theorem idS_ascN {L : List Ef} (h : Nd L) : (idS L).Pairwise (· < ·) := by
  have h1 : (idS L).Pairwise (fun x y => decide (x ≤ y) = true) := List.pairwise_mergeSort (fun a b c h1 h2 => by simp at *; omega) (fun a b => by simp; omega) _
  have h2 : (idS L).Nodup := by
    rw [(idS_perm L).nodup_iff]
    exact h
  have h3 := List.pairwise_and_iff.2 ⟨h1, h2⟩
  exact h3.imp (fun ⟨h4, h5⟩ => by simp at h4; omega)
theorem ids_eq {L : List Ef} {M : List Rf} (h : Eqv L (M.map toE)) (hn : Nd L) (ha : RAsc M) : idS L = M.map (·.id) := by
  have p1 : ∀ x, x ∈ idS L ↔ x ∈ M.map (·.id) := fun x => by
    rw [idS_mem]
    constructor
    · rintro ⟨f, hf, rfl⟩
      have := hn.fnd hf
      rcases h.cases f.id with ⟨e1, _⟩ | ⟨_, g, e1, e2, _⟩
      · rw [e1] at this; cases this
      · obtain ⟨h1, h2⟩ := fnd_some e2
        obtain ⟨y, hy, rfl⟩ := List.mem_map.1 h1
        exact List.mem_map.2 ⟨y, hy, h2⟩
    · intro hx
      obtain ⟨g, hg, rfl⟩ := List.mem_map.1 hx
      obtain ⟨j, hj⟩ := List.getElem?_of_mem hg
      have := fnd20 ha hj
      rcases h.cases g.id with ⟨_, e1⟩ | ⟨f, _, e1, e2, _⟩
      · rw [e1] at this; cases this
      · obtain ⟨h1, h2⟩ := fnd_some e1
        exact ⟨f, h1, h2⟩
  have p2 : (idS L).Pairwise (· < ·) := idS_ascN hn
  have p3 : (M.map (·.id)).Pairwise (· < ·) := ha
  refine List.Perm.eq_of_pairwise (le := fun a b : Int => a < b) (fun a b _ _ h1 h2 => by omega) p2 p3 ?_
  exact (List.perm_ext_iff_of_nodup (p2.imp (fun h => by omega)) (p3.imp (fun h => by omega))).2 p1
/-- what the document's outlet keeps follows from the program's -/
theorem Pd.of {w : World} {A : Ad} {k : Nat} {e r : Eo} {L : List Rf} (h : Es w A k e) (hr : Rq e r) (he : r.L = L.map toE) (ha : RAsc L) (sa : drr.SAsc r.s.L) (sp : drr.Ap r.s.L) : Pd L r := by
  have hfl := hr.fl
  rw [he] at hfl
  have hnd := h.ap.nd
  have both : ∀ f ∈ L, ∃ g ∈ e.L, g.id = f.id ∧ g.video = f.video ∧ g.q = f.q := fun f hf => by
    obtain ⟨j, hj⟩ := List.getElem?_of_mem hf
    have := fnd20 ha hj
    rcases hfl.cases f.id with ⟨_, e1⟩ | ⟨g, f', e1, e2, e3, e4⟩
    · rw [e1] at this; cases this
    · rw [this] at e2
      injection e2 with e2
      subst e2
      exact ⟨g, (fnd_some e1).1, (fnd_some e1).2, e3, e4⟩
  have back : ∀ g ∈ e.L, ∃ f ∈ L, f.id = g.id ∧ f.video = g.video := fun g hg => by
    have := hnd.fnd hg
    rcases hfl.cases g.id with ⟨e1, _⟩ | ⟨g', f', e1, e2, e3, e4⟩
    · rw [e1] at this; cases this
    · rw [this] at e1
      injection e1 with e1
      subst e1
      obtain ⟨h1, h2⟩ := fnd_some e2
      obtain ⟨y, hy, rfl⟩ := List.mem_map.1 h1
      exact ⟨y, hy, h2, e3.symm⟩
  obtain ⟨c, D, _, hss⟩ := h.sch
  have hsm : e.s.most = r.s.most := hr.s.most
  have smem : ∀ f ∈ r.s.L, ∃ g ∈ e.s.L, g.id = f.id ∧ g.share = f.share ∧ g.left = f.left := fun f hf => by
    have := sp.fnd hf
    rcases hr.s.fl.cases f.id with ⟨_, e1⟩ | ⟨g, f', e1, e2, e3, e4⟩
    · rw [e1] at this; cases this
    · rw [this] at e2
      injection e2 with e2
      subst e2
      exact ⟨g, (drr.fnd_some e1).1, (drr.fnd_some e1).2, e3, e4⟩
  have sback : ∀ g ∈ e.s.L, ∃ f ∈ r.s.L, f.id = g.id := fun g hg => by
    have := hss.ap.fnd hg
    rcases hr.s.fl.cases g.id with ⟨e1, _⟩ | ⟨g', f', e1, e2, e3, e4⟩
    · rw [e1] at this; cases this
    · exact ⟨f', (drr.fnd_some e2).1, (drr.fnd_some e2).2⟩
  refine ⟨he, ha, fun f hf => ?_, fun f hf => ?_, ?_, ?_, sa, sp, ?_, fun id => ?_⟩
  · obtain ⟨g, hg, _, _, e4⟩ := both f hf
    rw [← e4]; exact (h.qs g hg).ok
  · obtain ⟨g, hg, _, _, e4⟩ := both f hf
    have := h.fq g hg
    have e5 : (toE f).q = g.q := e4.symm
    exact ⟨by rw [e5, ← hr.frames]; exact this.fr, by rw [e5, ← hr.bytes]; exact this.mo, by rw [e5, ← hr.most]; exact this.sz⟩
  · have := h.cf
    exact ⟨by rw [← hr.frames]; exact this.f0, by rw [← hr.frames]; exact this.f1, by rw [← hr.bytes]; exact this.b0, by rw [← hr.bytes]; exact this.b1, by rw [← hr.age]; exact this.a0, by rw [← hr.age]; exact this.a1, by rw [← hr.most]; exact this.m0, by rw [← hr.most]; exact this.m1, by rw [← hr.guard]; exact this.g0, by rw [← hr.guard]; exact this.g1, by rw [← hr.credit]; exact this.c0, by rw [← hr.credit]; exact this.c1⟩
  · have := hss.ok
    refine ⟨by rw [← hsm]; exact this.m0, by rw [← hsm]; exact this.m1, fun f hf => ?_, fun e9 => ?_⟩
    · obtain ⟨g, hg, e1, e2, e3⟩ := smem f hf
      rw [← hsm, ← e2, ← e3, ← e1, ← hr.s.turn, ← hr.s.g]
      exact this.f g hg
    · obtain ⟨g, hg, e1⟩ := this.t (by rw [hr.s.g]; exact e9)
      obtain ⟨f, hf, e2⟩ := sback g hg
      exact ⟨f, hf, e2.trans (e1.trans hr.s.turn)⟩
  · rw [← hsm, h.sm]; exact hr.most
  · constructor
    · rintro ⟨f, hf, rfl⟩
      obtain ⟨g, hg, e1, _⟩ := smem f hf
      obtain ⟨y, hy, e2, e3⟩ := (h.vs f.id).1 ⟨g, hg, e1⟩
      obtain ⟨z, hz, e4, e5⟩ := back y hy
      exact ⟨z, hz, e4.trans e2, e5.trans e3⟩
    · rintro ⟨f, hf, rfl, hv⟩
      obtain ⟨g, hg, e1, e2, _⟩ := both f hf
      obtain ⟨y, hy, e3⟩ := (h.vs f.id).2 ⟨g, hg, e1, e2.trans hv⟩
      obtain ⟨z, hz, e4⟩ := sback y hy
      exact ⟨z, hz, e4.trans e3⟩
end Go.Proofs.Ytcppibjllaablaa.egr

/-
  A Run of the document's outlet, item by item: a rule of induction. Pure.
-/
namespace Go.Proofs.Ytcppibjllaablaa.egr
open Go.RowKit mem
set_option linter.unusedVariables false
theorem le_sum {l : List Nat} {a : Nat} (h : a ∈ l) : a ≤ l.sum := by
  induction l with
  | nil => cases h
  | cons x l ih =>
    rw [List.sum_cons]
    rcases List.mem_cons.1 h with h | h
    · omega
    · have := ih h
      omega
theorem tot_zero {L : List Rf} (h : TotR L = 0) : ∀ f ∈ L, f.q.L = [] := fun f hf => by
  have h1 : f.q.L.length ∈ L.map (fun f => f.q.L.length) := List.mem_map.2 ⟨f, hf, rfl⟩
  have h2 : f.q.L.length ≤ TotR L := le_sum h1
  exact List.length_eq_zero_iff.1 (by omega)
/-- the place of an item that goes out -/
structure Go1 (ids : List Int) (L : List Rf) (r : Eo) (i : Nat) (f : Rf) (x : que.It) : Prop where
  pu : Pd L r
  idl : L.map (·.id) = ids
  nx : (nextI ids r).2.1 = true
  at_ : L[i]? = some f
  id : f.id = (nextI ids r).1
  hd : f.q.L[0]? = some x
  cr : x.size ≤ r.credit
def gone1 (f : Rf) : Rf := f.with ⟨f.q.frames, f.q.most, f.q.L.drop 1, f.q.broken⟩ none 0
theorem runX_ind (P : List Rf → Eo → List Snt → Prop) (ids : List Int)
    (step : ∀ L r o i f x, Go1 ids L r i f x → P L r o → P (L.set i (gone1 f)) (goneI ids r (toE f) x) (o ++ [⟨f.id, x⟩])) :
    ∀ (m : Nat) (L : List Rf) (r : Eo) (o : List Snt), Pd L r → L.map (·.id) = ids → P L r o →
      ∃ Lk rk, Pd Lk rk ∧ Lk.map (·.id) = ids ∧ P Lk rk (o ++ (runX ids m r).1) ∧ (runX ids m r).2 = afterI ids rk ∧ (TotR L ≤ m → stepX ids rk = none) ∧ TotR Lk + (runX ids m r).1.length = TotR L
  | 0, L, r, o, hp, hi, h => by
    refine ⟨L, r, hp, hi, by show P L r (o ++ []); rw [List.append_nil]; exact h, rfl, fun ht => ?_, by show TotR L + 0 = _; omega⟩
    have hz := tot_zero (L := L) (by omega)
    rw [← hi]
    cases hn : (nextI (L.map (·.id)) r).2.1 with
    | false => exact hp.stepX_no hn
    | true =>
      obtain ⟨i, f, x, h1, _, h3, _⟩ := hp.item hn
      rw [hz f (List.mem_of_getElem? h1)] at h3
      cases h3
  | m + 1, L, r, o, hp, hi, h => by
    have no : stepX ids r = none → ∃ Lk rk, Pd Lk rk ∧ Lk.map (·.id) = ids ∧ P Lk rk (o ++ (runX ids (m + 1) r).1) ∧ (runX ids (m + 1) r).2 = afterI ids rk ∧ (TotR L ≤ m + 1 → stepX ids rk = none) ∧ TotR Lk + (runX ids (m + 1) r).1.length = TotR L := fun e => by
      rw [runX_none e]
      exact ⟨L, r, hp, hi, by show P L r (o ++ []); rw [List.append_nil]; exact h, rfl, fun _ => e, by show TotR L + 0 = _; omega⟩
    cases hn : (nextI ids r).2.1 with
    | false => exact no (by rw [← hi] at hn ⊢; exact hp.stepX_no hn)
    | true =>
      obtain ⟨i, f, x, h1, h2, h3, _⟩ := hp.item (by rw [hi]; exact hn)
      rw [hi] at h2
      by_cases hc : x.size ≤ r.credit
      · have g1 : Go1 ids L r i f x := ⟨hp, hi, hn, h1, h2, h3, hc⟩
        have hs : stepX ids r = some (⟨f.id, x⟩, goneI ids r (toE f) x) := by
          rw [← hi] at hn h2 ⊢
          exact hp.stepX_go hn h1 h2 h3 hc
        have hp2 : Pd (L.set i (gone1 f)) (goneI ids r (toE f) x) := by rw [← hi]; exact hp.gone h1 h3 hc none 0
        have hi2 : (L.set i (gone1 f)).map (·.id) = ids := by rw [← hi]; exact set_ids hp.asc h1 _ _ _
        have ht := TotR.set h1 ⟨f.q.frames, f.q.most, f.q.L.drop 1, f.q.broken⟩ none 0
        have h0 : 0 < f.q.L.length := (List.getElem?_eq_some_iff.1 h3).1
        have hd : (f.q.L.drop 1).length = f.q.L.length - 1 := List.length_drop
        simp only at ht
        obtain ⟨Lk, rk, k1, k2, k3, k4, k5, k6⟩ := runX_ind P ids step m _ _ (o ++ [⟨f.id, x⟩]) hp2 hi2 (step L r o i f x g1 h)
        rw [runX_some hs]
        refine ⟨Lk, rk, k1, k2, ?_, k4, fun h9 => k5 (by show TotR (L.set i (f.with _ none 0)) ≤ m; omega), ?_⟩
        · rw [List.append_assoc] at k3
          exact k3
        · show TotR Lk + (_ :: (runX ids m _).1).length = _
          rw [List.length_cons]
          have : TotR (L.set i (gone1 f)) + 1 = TotR L := by show TotR (L.set i (f.with _ none 0)) + 1 = _; omega
          omega
      · exact no (by
          rw [← hi] at hn h2 ⊢
          exact hp.stepX_low hn h1 h2 h3 (by omega))
theorem runX_len (ids : List Int) : ∀ (m : Nat) (r : Eo), (runX ids m r).1.length ≤ m
  | 0, r => Nat.le_refl _
  | m + 1, r => by
    cases hs : stepX ids r with
    | none => rw [runX_none hs]; exact Nat.zero_le _
    | some p =>
      obtain ⟨s, e'⟩ := p
      rw [runX_some hs]
      have := runX_len ids m e'
      show (_ :: _).length ≤ _
      rw [List.length_cons]
      omega
section
variable {ids : List Int} {r : Eo} {f : Rf} {x : que.It}
theorem goneI_credit (ids : List Int) (r : Eo) (f : Ef) (x : que.It) : (goneI ids r f x).credit = r.credit - x.size := by unfold goneI countE; split <;> rfl
theorem goneI_row (ids : List Int) (r : Eo) (f : Ef) (x : que.It) : (goneI ids r f x).row = if f.video = true then 0 else r.row + 1 := by unfold goneI countE; split <;> rfl
theorem goneI_cf (ids : List Int) (r : Eo) (f : Ef) (x : que.It) : (goneI ids r f x).frames = r.frames ∧ (goneI ids r f x).bytes = r.bytes ∧ (goneI ids r f x).age = r.age ∧ (goneI ids r f x).most = r.most ∧ (goneI ids r f x).guard = r.guard := by unfold goneI countE; split <;> exact ⟨rfl, rfl, rfl, rfl, rfl⟩
end
end Go.Proofs.Ytcppibjllaablaa.egr

/-
  The reference of layer 20: Run.
-/
namespace Go.Proofs.Ytcppibjllaablaa.egr
open Go.RowKit mem
open Go.Proofs.Ytcppibjllaablaa.drr (plc plc_at plc_no plc_cases before_succ before_all made0G)
set_option linter.unusedVariables false

/-- in the loop: k items are out -/
structure Rw (w wr : World) (pb pr : Nat) (L0 : List Rf) (r0 : Eo) (k : Nat) (vL vS u : Value) (o : List Snt) (L : List Rf) (r : Eo) : Prop where
  bx : Bx w wr pb pr r vL vS
  ro : RO wr vL vS L r
  pu : Pd L r
  ids : L.map (·.id) = L0.map (·.id)
  so : Sofar (L0.map (·.id)) r0 o r
  gr : Gr SE RSeT w wr u o
  tot : TotR L + o.length = TotR L0
  kk : o.length = k
  sl : r.s.L.length = r0.s.L.length
  w0 : 0 ≤ r.row
  w1 : r.row ≤ r0.row + (k : Int)
  fr : r.frames = r0.frames
  mem : ∀ g ∈ L, ∀ x ∈ g.q.L, ∃ f ∈ L0, x ∈ f.q.L
/-- the answer -/
structure Rz (w w' : World) (L0 : List Rf) (r0 : Eo) (vL vS u : Value) (o : List Snt) (L : List Rf) (r : Eo) : Prop where
  ro : RO w' vL vS L r
  pu : Pd L r
  ids : L.map (·.id) = L0.map (·.id)
  run : ∀ n, TotR L0 ≤ n → runX (L0.map (·.id)) n r0 = (o, r)
  gr : Gr SE RSeT w w' u o
  sl : r.s.L.length = r0.s.L.length
  fr : r.frames = r0.frames
  mem : ∀ g ∈ L, ∀ x ∈ g.q.L, ∃ f ∈ L0, x ∈ f.q.L
theorem Rw.len {w wr : World} {pb pr : Nat} {L0 : List Rf} {r0 : Eo} {k : Nat} {vL vS u : Value} {o : List Snt} {L : List Rf} {r : Eo} (h : Rw w wr pb pr L0 r0 k vL vS u o L r) : L.length = L0.length := by
  have := congrArg List.length h.ids
  simpa using this
theorem Rw.zn {w wr wc W2 : World} {pb pr : Nat} {L0 : List Rf} {r0 : Eo} {k : Nat} {vL vS vS' u : Value} {o : List Snt} {L : List Rf} {r : Eo} (h : Rw w wr pb pr L0 r0 k vL vS u o L r) (hs : stepX (L0.map (·.id)) r = none) (b : Bx w wc pb pr (afterI (L0.map (·.id)) r) vL vS') (ro : RO wc vL vS' L (afterI (L0.map (·.id)) r)) (g : Gr SE RSeT w wc u o) (n : New wc W2) :
    Blk (puts W2 pr 0 (rO (afterI (L0.map (·.id)) r) vL vS').toList) pr (rO (afterI (L0.map (·.id)) r) vL vS') RT20 ∧ Rz w (puts W2 pr 0 (rO (afterI (L0.map (·.id)) r) vL vS').toList) L0 r0 vL vS' u o L (afterI (L0.map (·.id)) r) := by
  obtain ⟨f1, f2, f3⟩ := fin9 b ro n
  have hp : Pd L (afterI (L0.map (·.id)) r) := by rw [← h.ids]; exact h.pu.after
  refine ⟨f1, f2, hp, h.ids, fun n hn => h.so.end_ hs (by have := h.tot; omega), ⟨(b.later n).ow _ vL vS' (g.own.turns n (fun _ _ h => h)) (by decide), g.vb, f3⟩, ?_, h.fr, h.mem⟩
  have h2 := h.pu.next.2
  rw [h.ids] at h2
  exact h2.len.trans h.sl
theorem ts_len {α : Type} {E : Enc α} {T : TypeId} {w : World} {ao : Option Addr} {n c : Nat} {l : List α} (h : TS E T w (.slice ao n c) l) : n = l.length ∧ n ≤ c ∧ c ≤ maxLen := by
  obtain ⟨_, n2, c2, hv, h1, h2, h3⟩ := h.form
  injection hv with e1 e2 e3
  omega
/-- a block, four cells -/
theorem four6 {w : World} {p : Nat} {a b c d e f : Value} {T : TypeId} (h : Blk w p #[a, b, c, d, e, f] T) :
    w.cell? ⟨p, 0, none⟩ = some a ∧ w.cell? ⟨p, 1, none⟩ = some b ∧ w.cell? ⟨p, 2, none⟩ = some c ∧ w.cell? ⟨p, 3, none⟩ = some d ∧ w.cell? ⟨p, 4, none⟩ = some e ∧ w.cell? ⟨p, 5, none⟩ = some f :=
  ⟨h.cell 0, h.cell 1, h.cell 2, h.cell 3, h.cell 4, h.cell 5⟩
theorem it_at {w : World} {ao : Option Addr} {n c : Nat} {l : List que.It} (h : TS que.IE que.OT w (.slice ao n c) l) {x : que.It} (hx : l[0]? = some x) : ∃ g o, ao = some ⟨g, o, none⟩ ∧ g < w.heap.size ∧ w.cell? ⟨g, o, none⟩ = some (.int .i64 x.n) ∧ w.cell? ⟨g, o + 1, none⟩ = some (.int .i64 x.size) ∧ w.cell? ⟨g, o + 2, none⟩ = some (.int .i64 x.tick) ∧ w.cell? ⟨g, o + 3, none⟩ = some (.bool x.key) := by
  obtain ⟨gq, oq, e, _, hg, h1⟩ := h.at_ hx
  refine ⟨gq, oq, e, hg, ?_⟩
  have a0 := h1 0 _ rfl
  have a1 := h1 1 _ rfl
  have a2 := h1 2 _ rfl
  have a3 := h1 3 _ rfl
  rw [Nat.zero_mul, Nat.add_zero] at a0 a1 a2 a3
  exact ⟨a0, a1, a2, a3⟩
theorem TS.drop1 {w : World} {g o n c : Nat} {l : List que.It} (h : TS que.IE que.OT w (.slice (some ⟨g, o, none⟩) n c) l) (h1 : 1 ≤ n) : TS que.IE que.OT w (.slice (if c = 1 then some ⟨g, o, none⟩ else some ⟨g, o + 4, none⟩) (n - 1) (c - 1)) (l.drop 1) := by
  obtain ⟨_, n2, c2, hv, hn, _⟩ := h.form
  injection hv with e1 e2 e3
  have hnl : n = l.length := by omega
  subst hnl
  refine ⟨?_, fun y hy => h.ty y ?_⟩
  · rcases h.sub with ⟨e, _⟩ | hl
    · injection e with e; cases e
    · exact .inr (hl.drop 1 h1)
  · split at hy <;> exact hy
/-- behind the item that is taken -/
structure Rg (w wx : World) (pb pr px py : Nat) (f : Rf) (x : que.It) (vL vS u : Value) (o : List Snt) (L : List Rf) (r : Eo) : Prop where
  bx : Bx w wx pb pr r vL vS
  ro : RO wx vL vS L r
  gr : Gr SE RSeT w wx u o
  px : Blk wx px #[.int .i64 f.id, .bool f.video, .int .i64 f.q.frames, .int .i64 f.q.most, .slice f.ao f.q.L.length f.c, .bool f.q.broken] FT
  py : Blk wx py #[.int .i64 x.n, .int .i64 x.size, .int .i64 x.tick, .bool x.key] que.OT
section
variable {w wx w' : World} {pb pr px py : Nat} {f : Rf} {x : que.It} {vL vS u vL' vS' : Value} {o : List Snt} {L L' : List Rf} {r r' : Eo}
theorem Rg.later (h : Rg w wx pb pr px py f x vL vS u o L r) (n : New wx w') : Rg w w' pb pr px py f x vL vS u o L r :=
  ⟨h.bx.later n, h.ro.later n, h.gr.later n, n.blk h.px (fun h => h), n.blk h.py (fun h => h)⟩
/-- the call's own copy turns -/
theorem Rg.self (h : Rg w wx pb pr px py f x vL vS u o L r) (t : Turns (· = pb) wx w') (hb : Blk w' pb (rO r' vL' vS') RT20) (ro : RO w' vL' vS' L' r') : Rg w w' pb pr px py f x vL' vS' u o L' r' :=
  ⟨⟨hb, t.blk h.bx.rb (fun e => h.bx.lo.2.2 e.symm), h.bx.n.trans (t.mono (fun k _ hk => .inr (by rw [hk]; exact h.bx.lo.1))), h.bx.lo⟩, ro, ⟨h.gr.own.turns t (fun g hg e => own_ne h.gr.own h.bx.bx (by decide) (by rw [hg, e])), h.gr.vb, h.bx.n.trans (t.mono (fun k _ hk => .inr (by rw [hk]; exact h.bx.lo.1)))⟩, t.blk h.px (fun e => blk_ne h.px h.bx.bx (by decide) e), t.blk h.py (fun e => blk_ne h.py h.bx.bx (by decide) e)⟩
end
end Go.Proofs.Ytcppibjllaablaa.egr
