/-
  egress.Out: Add.
-/
import Derived.Test.YtcaloeolmoodbaaEgrNew
import Derived.Deep.RegionHeld3
namespace Go.Proofs.Ytcaloeolmoodbaa.egr
open Go.RowKit mem Go.Maps
set_option linter.unusedVariables false

theorem add_there (A : Ad) (k : Nat) (e : Eo) (f : Ef) (v : Bool) (sh : Int) (w : World) (h : Es w A k e) (hf : f ∈ e.L) :
    Calls Try.prog 39 #[.pointer (some ⟨A.o, 0, none⟩), .int .i64 f.id, .bool v, .int .i64 sh] w fun x w' => x = .returned (.int .i64 10) ∧ w' = w := by
  have c5 := h.blk.cell 5
  have hr := h.look hf
  clear h
  go_enter Try.func39, Try.ntmps39
  go_wp2
  go_ret
  exact ⟨rfl, rfl⟩
/-- one flow more, and what the schedule then is -/
def addE (e : Eo) (f : Ef) (s : drr.Sc) : Eo := ⟨e.frames, e.bytes, e.age, e.most, e.guard, e.credit, e.row, e.L ++ [f], s⟩
theorem fnd_snoc (L : List Ef) (f : Ef) (id : Int) : fnd (L ++ [f]) id = (fnd L id).or (if f.id = id then some f else none) := by
  unfold fnd
  rw [List.find?_append]
  congr 1
  by_cases e : f.id = id
  · simp [List.find?_cons, e]
  · have : (f.id == id) = false := by simpa using e
    simp [List.find?_cons, this, e]
/-- the memory behind Add -/
theorem Es.add {w w2 w3 w4 : World} {A : Ad} {k : Nat} {e : Eo} (h : Es w A k e) {id : Int} (n0 : -9223372036854775808 ≤ id) (n1 : id ≤ 9223372036854775807) (hf : fnd e.L id = none) {v : Bool} {qb : Nat} {s' : drr.Sc}
    (hq : que.Qs w2 qb (.slice none 0 0) (que.fresh e.frames e.bytes)) (hqb : w.heap.size ≤ qb) (n2 : New w w2)
    (hs : (s' = e.s ∧ v = false ∧ w3 = w2) ∨ (v = true ∧ s'.most = e.s.most ∧ (∀ x, (∃ f ∈ s'.L, f.id = x) ↔ (∃ f ∈ e.s.L, f.id = x) ∨ x = id) ∧ (∃ c D, c ≤ k + 1 ∧ drr.Ss w3 A.sp A.smb c D s') ∧ Turns (· = A.smb) w2 w3))
    {c : Nat} {D : DataW Unit} (hc : c ≤ k) (hmp : w2.ownsMap Try.prog 3 drr.ptrE A.mb c D) (hr : Rd D e.L)
    (hg : (w3.alloc (.cells #[.pointer (some ⟨qb, 0, none⟩), .bool v] GB)).grownBy w4 (some A.mb)) (hm4 : w4.ownsMap Try.prog 3 drr.ptrE A.mb (c + 1) (D.put (.int .i64 id) (.lit (.int .i64 (w3.heap.size : Int))))) :
    Es w4 A (k + 1) (addE e ⟨id, w3.heap.size, v, qb, .slice none 0 0, que.fresh e.frames e.bytes⟩ s') ∧ Turns (fun i => i = A.mb ∨ i = A.smb) w w4 := by
  have h2 := h.later n2
  obtain ⟨c2, D2, hc2, hss⟩ := h2.sch
  have t3 : Turns (· = A.smb) w2 w3 := by
    rcases hs with ⟨_, _, e3⟩ | ⟨_, _, _, _, t⟩
    · rw [e3]; exact Turns.refl _ _
    · exact t
  have hmp3 := ownsMap_turns hmp t3 h.mm
  have t4 : Turns (· = A.mb) w3 w4 := ((Turns.refl _ w3).alloc (.cells #[.pointer (some ⟨qb, 0, none⟩), .bool v] GB)).trans ((Turns.of_grown hg).mono (fun i _ hi => .inl (by injection hi)))
  have t24 : Turns (fun i => i = A.mb ∨ i = A.smb) w2 w4 := (t3.mono (fun i _ hi => .inr hi)).trans (t4.mono (fun i _ hi => .inl (.inl hi)))
  have hb4 : Blk w4 w3.heap.size #[.pointer (some ⟨qb, 0, none⟩), .bool v] GB := ((Turns.of_grown hg).mono (fun i _ hi => by injection hi) : Turns (· = A.mb) (w3.alloc (.cells #[.pointer (some ⟨qb, 0, none⟩), .bool v] GB)) w4).blk (Blk.new _ _ _) (fun e3 => by have := hmp3.lt; omega)
  have hz2 := n2.size
  have hz3 := t3.size
  have ql := hq.lt
  have off : ∀ {r : Nat} {cs : Array Value} {T : TypeId}, Blk w2 r cs T → ¬ (r = A.mb ∨ r = A.smb) := fun hb hk => by
    rcases hk with e3 | e3
    · exact ownsMap_ne hmp hb e3.symm
    · exact ownsMap_ne hss.map hb e3.symm
  have offr : ∀ {α : Type} {E : Enc α} {v : Value} {l : List α} {T : TypeId}, Owns E T w2 v l → ∀ x, v.ownBlock = some x → ¬ (x = A.mb ∨ x = A.smb) := fun hb x hx hk => by
    rcases hk with e3 | e3
    · exact ownsMap_ne_row hmp hb x hx e3.symm
    · exact ownsMap_ne_row hss.map hb x hx e3.symm
  have hD := hmp.isMap
  have hsch : ∃ c D, c ≤ k + 1 ∧ drr.Ss w4 A.sp A.smb c D s' := by
    have tr : ∀ c D, drr.Ss w3 A.sp A.smb c D s' → drr.Ss w4 A.sp A.smb c D s' := fun c D hx => hx.turns t4 (fun e3 => ownsMap_ne hmp3 hx.blk e3.symm) (fun e3 => h.mm e3.symm) (fun f hf e3 => ownsMap_ne hmp3 (hx.fb f hf) e3.symm)
    rcases hs with ⟨e3, _, e4⟩ | ⟨_, _, _, ⟨c3, D3, hc3, hx⟩, _⟩
    · subst e3 e4
      exact ⟨c2, D2, by omega, tr c2 D2 hss⟩
    · exact ⟨c3, D3, hc3, tr c3 D3 hx⟩
  refine ⟨⟨t24.blk h2.blk (off h2.blk), ⟨c + 1, _, by omega, hm4, ⟨fun x => ?_, fun f hfm z => ?_⟩⟩, fun f hfm => ?_, fun f hfm => ?_, hsch, ?_, h.mm, fun f hfm => ?_, ⟨h.cf.f0, h.cf.f1, h.cf.b0, h.cf.b1, h.cf.a0, h.cf.a1, h.cf.m0, h.cf.m1, h.cf.g0, h.cf.g1, h.cf.c0, h.cf.c1⟩, fun f hfm => ?_, ?_, fun x => ?_⟩, (n2.mono (fun _ _ h => h.elim)).trans (t24.mono (fun i _ hi => .inl hi))⟩
  · show _ = (fnd (e.L ++ [_]) x).isSome
    rw [fnd_snoc]
    by_cases e3 : x = id
    · subst e3
      rw [has_put_same hD (show WideAt.IsKeyLit (.int .i64 x) from trivial), hf]
      simp
    · rw [has_put_other (fun e4 => e3 (by injection e4)), hr.has x]
      have e5 : ¬ id = x := fun e4 => e3 e4.symm
      simp [e5]
  · rcases List.mem_append.1 hfm with hfm | hfm
    · have := fnd_none hf f hfm
      rw [atKey_put_other (fun e3 => this (by injection e3))]
      exact hr.at_ f hfm z
    · simp at hfm; subst hfm
      exact atKey_put_same hD (show WideAt.IsKeyLit (.int .i64 id) from trivial) _ _
  · rcases List.mem_append.1 hfm with hfm | hfm
    · exact t24.blk (h2.fb f hfm) (off (h2.fb f hfm))
    · simp at hfm; subst hfm
      exact hb4
  · rcases List.mem_append.1 hfm with hfm | hfm
    · exact (h2.qs f hfm).turns t24 (off (h2.qs f hfm).blk) (offr (h2.qs f hfm).own)
    · simp at hfm; subst hfm
      exact hq.turns t24 (off hq.blk) (offr hq.own)
  · show (e.L ++ [_]).Pairwise Apart
    rw [List.pairwise_append]
    refine ⟨h.ap, List.pairwise_singleton _ _, fun f hfm g hg => ?_⟩
    simp at hg; subst hg
    have l1 := (h2.fb f hfm).lt
    have l2 := (h.qs f hfm).lt
    exact ⟨fnd_none hf f hfm, (by show f.fb ≠ w3.heap.size; omega), (by show f.qb ≠ qb; omega), (fun x _ e3 => by simp [Value.ownBlock] at e3)⟩
  · rcases List.mem_append.1 hfm with hfm | hfm
    · exact h.rg f hfm
    · simp at hfm; subst hfm
      exact ⟨n0, n1⟩
  · rcases List.mem_append.1 hfm with hfm | hfm
    · have := h.fq f hfm
      exact ⟨this.fr, this.mo, this.sz⟩
    · simp at hfm; subst hfm
      exact ⟨rfl, rfl, (fun x hx => by cases hx)⟩
  · rcases hs with ⟨e3, _, _⟩ | ⟨_, e3, _⟩
    · rw [e3]; exact h.sm
    · exact e3.trans h.sm
  · show (∃ f ∈ s'.L, f.id = x) ↔ ∃ f ∈ e.L ++ [_], f.id = x ∧ f.video = true
    have hv := h.vs x
    rcases hs with ⟨e3, e4, _⟩ | ⟨e4, _, e5, _⟩
    · rw [e3, hv]
      constructor
      · rintro ⟨f, hfm, hx⟩
        exact ⟨f, List.mem_append_left _ hfm, hx⟩
      · rintro ⟨f, hfm, hx, hy⟩
        rcases List.mem_append.1 hfm with hfm | hfm
        · exact ⟨f, hfm, hx, hy⟩
        · simp at hfm; subst hfm
          rw [e4] at hy; cases hy
    · rw [e5 x, hv]
      constructor
      · rintro (⟨f, hfm, hx⟩ | hx)
        · exact ⟨f, List.mem_append_left _ hfm, hx⟩
        · exact ⟨_, List.mem_append_right _ List.mem_cons_self, hx.symm, e4⟩
      · rintro ⟨f, hfm, hx, hy⟩
        rcases List.mem_append.1 hfm with hfm | hfm
        · exact .inl ⟨f, hfm, hx, hy⟩
        · simp at hfm; subst hfm
          exact .inr hx.symm

set_option maxRecDepth 100000 in
set_option maxHeartbeats 2000000 in
theorem add_sound (A : Ad) (k : Nat) (e : Eo) (id sh : Int) (w : World) (h : Es w A k e) (n0 : -9223372036854775808 ≤ id) (n1 : id ≤ 9223372036854775807) (hf : fnd e.L id = none) (hk : k ≤ 1048576) :
    Calls Try.prog 39 #[.pointer (some ⟨A.o, 0, none⟩), .int .i64 id, .bool false, .int .i64 sh] w fun x w' => x = .returned (.int .i64 0) ∧ ∃ fb qb, w.heap.size ≤ fb ∧ w.heap.size ≤ qb ∧ Es w' A (k + 1) (addE e ⟨id, fb, false, qb, .slice none 0 0, que.fresh e.frames e.bytes⟩ e.s) ∧ Turns (fun i => i = A.mb ∨ i = A.smb) w w' := by
  have hr := h.look_none hf n0 n1
  obtain ⟨⟨c0, c1, c2, c3, c4, c5, c6, c7, c8⟩, _⟩ := nine h.blk
  have HQ := Lib.hid (fun W => que.new e.frames e.bytes W h.cf.f0 h.cf.f1 h.cf.b0 h.cf.b1)
  have HH := Lib.hid h
  have HF := Lib.hid hf
  clear h hf
  go_enter Try.func39, Try.ntmps39
  go_upto_region 4 with fail
  clear hr
  go_region_with (go_at_call 43; (with_reducible refine Calls.mono (HQ.out _) ?_); rintro x w2 ⟨rfl, hq, n2⟩; have HQS := Lib.hid hq; have HN2 : Hid (New w w2) := Lib.hid (Turns.of_drew n2); clear hq n2)
  all_goals
    have HE2 := Lib.hid (HH.out.later HN2.out)
    clear c0 c1 c2 c3 c4 c5 c6 c7 c8
    obtain ⟨⟨c0, c1, c2, c3, c4, c5, c6, c7, c8⟩, _⟩ := nine HE2.out.blk
    obtain ⟨c, D, hc, hmp, hrd⟩ := HE2.out.map
    have HMP := Lib.hid hmp
    have HRD := Lib.hid hrd
    have hval : drr.ptrE (.pointer (some ⟨w2.heap.size, 0, none⟩)) = some (.lit (.int .i64 (w2.heap.size : Int)), []) := rfl
    have hkey := drr.keyI n0 n1
    have hmx : c < maxLen := by unfold maxLen; omega
    clear hmp hrd
    go_wp2_with (at_mapUpdate; refine wpList_mapUpdate_own _ rfl _ _ _ 144 rfl 3 142 drr.lawI Try.underlying144 drr.ptrE A.mb c D rfl (HMP.out.alloc (.cells #[.pointer (some ⟨w.heap.size, 0, none⟩), .bool false] GB)) hmx _ _ _ rfl rfl hkey _ [] hval ?_; intro wm hownm hgrowm; have HM := Lib.hid hownm; have HG := Lib.hid hgrowm; clear hownm hgrowm)
    go_ret
    have HA := HH.out.add n0 n1 HF.out (v := false) (s' := e.s) HQS.out (Nat.le_refl _) HN2.out (.inl ⟨rfl, rfl, rfl⟩) hc HMP.out HRD.out HG.out HM.out
    exact ⟨rfl, _, _, HN2.out.size, Nat.le_refl _, HA.1, HA.2⟩

theorem Es.no_pic {w : World} {A : Ad} {k : Nat} {e : Eo} (h : Es w A k e) {id : Int} (hf : fnd e.L id = none) : drr.fnd e.s.L id = none := by
  cases hx : drr.fnd e.s.L id with
  | none => rfl
  | some f =>
    obtain ⟨h1, h2⟩ := drr.fnd_some hx
    obtain ⟨g, hg, hid, _⟩ := (h.vs id).1 ⟨f, h1, h2⟩
    exact absurd hid (fnd_none hf g hg)
theorem adds_iff (s : drr.Sc) (id : Int) (b : Nat) (sh x : Int) : (∃ f ∈ (drr.addS s id b sh).L, f.id = x) ↔ (∃ f ∈ s.L, f.id = x) ∨ x = id := by
  constructor
  · rintro ⟨f, hf, hx⟩
    rcases List.mem_append.1 hf with hf | hf
    · exact .inl ⟨f, hf, hx⟩
    · simp at hf; subst hf
      exact .inr hx.symm
  · rintro (⟨f, hf, hx⟩ | hx)
    · exact ⟨f, List.mem_append_left _ hf, hx⟩
    · exact ⟨_, List.mem_append_right _ List.mem_cons_self, hx.symm⟩
set_option maxRecDepth 100000 in
set_option maxHeartbeats 2000000 in
theorem add_video (A : Ad) (k : Nat) (e : Eo) (id sh : Int) (w : World) (h : Es w A k e) (n0 : -9223372036854775808 ≤ id) (n1 : id ≤ 9223372036854775807) (hf : fnd e.L id = none) (hk : k ≤ 1048576) (hs0 : e.most ≤ sh) (hs1 : sh ≤ 16777216) :
    Calls Try.prog 39 #[.pointer (some ⟨A.o, 0, none⟩), .int .i64 id, .bool true, .int .i64 sh] w fun x w' => x = .returned (.int .i64 0) ∧ ∃ fb qb sb, w.heap.size ≤ fb ∧ w.heap.size ≤ qb ∧ w.heap.size ≤ sb ∧ Es w' A (k + 1) (addE e ⟨id, fb, true, qb, .slice none 0 0, que.fresh e.frames e.bytes⟩ (drr.addS e.s id sb sh)) ∧ Turns (fun i => i = A.mb ∨ i = A.smb) w w' := by
  have hr := h.look_none hf n0 n1
  obtain ⟨⟨c0, c1, c2, c3, c4, c5, c6, c7, c8⟩, _⟩ := nine h.blk
  have HQ := Lib.hid (fun W => que.new e.frames e.bytes W h.cf.f0 h.cf.f1 h.cf.b0 h.cf.b1)
  have HH := Lib.hid h
  have HF := Lib.hid hf
  have HNP := Lib.hid (h.no_pic hf)
  have hsm := h.sm
  have HSH : Hid (e.s.most ≤ sh ∧ sh ≤ 16777216) := Lib.hid ⟨by rw [hsm]; exact hs0, hs1⟩
  clear h hf hsm hs0 hs1
  go_enter Try.func39, Try.ntmps39
  go_upto_region 4 with fail
  clear hr
  go_region_with (go_at_call 43; (with_reducible refine Calls.mono (HQ.out _) ?_); rintro x w2 ⟨rfl, hq, n2⟩; have HQS := Lib.hid hq; have HN2 : Hid (New w w2) := Lib.hid (Turns.of_drew n2); clear hq n2)
  all_goals
    have HE2 := Lib.hid (HH.out.later HN2.out)
    clear c0 c1 c2 c3 c4 c5 c6 c7 c8
    obtain ⟨⟨c0, c1, c2, c3, c4, c5, c6, c7, c8⟩, _⟩ := nine HE2.out.blk
    obtain ⟨c, D, hc, hmp, hrd⟩ := HE2.out.map
    obtain ⟨d, DS, hd, hss⟩ := HE2.out.sch
    have HMP := Lib.hid hmp
    have HRD := Lib.hid hrd
    have HAD := Lib.hid (drr.add_ok A.sp A.smb d DS e.s id sh w2 hss HSH.out.1 HSH.out.2 n0 n1 HNP.out (by omega))
    clear hmp hrd hss
    go_wp2_with fail
    refine HAD.out.mono ?_
    rintro x w3 ⟨rfl, hs3, ht3⟩
    have HS3 := Lib.hid hs3
    have HT3 := Lib.hid ht3
    have hcell := fun i => ht3.cell (a := ⟨A.o, i, none⟩) HE2.out.lt (fun e2 => by obtain ⟨_, _, _, hx⟩ := HE2.out.sch; exact ownsMap_ne hx.map HE2.out.blk e2.symm)
    have b5 := (hcell 5).trans c5
    have HM3 := Lib.hid (ownsMap_turns HMP.out ht3 HE2.out.mm)
    have hval : drr.ptrE (.pointer (some ⟨w3.heap.size, 0, none⟩)) = some (.lit (.int .i64 (w3.heap.size : Int)), []) := rfl
    have hkey := drr.keyI n0 n1
    have hmx : c < maxLen := by unfold maxLen; omega
    clear hs3 ht3 hcell HAD c0 c1 c2 c3 c4 c5 c6 c7 c8
    go_wp2_with (at_mapUpdate; refine wpList_mapUpdate_own _ rfl _ _ _ 144 rfl 3 142 drr.lawI Try.underlying144 drr.ptrE A.mb c D rfl (HM3.out.alloc (.cells #[.pointer (some ⟨w.heap.size, 0, none⟩), .bool true] GB)) hmx _ _ _ rfl rfl hkey _ [] hval ?_; intro wm hownm hgrowm; have HM := Lib.hid hownm; have HG := Lib.hid hgrowm; clear hownm hgrowm)
    go_ret
    have HA := HH.out.add n0 n1 HF.out (v := true) (s' := drr.addS e.s id w2.heap.size sh) HQS.out (Nat.le_refl _) HN2.out (.inr ⟨rfl, rfl, fun x => adds_iff _ _ _ _ _, ⟨_, _, by omega, HS3.out⟩, HT3.out⟩) hc HMP.out HRD.out HG.out HM.out
    exact ⟨rfl, _, _, _, Nat.le_trans HN2.out.size HT3.out.size, Nat.le_refl _, HN2.out.size, HA.1, HA.2⟩
set_option maxRecDepth 100000 in
set_option maxHeartbeats 2000000 in
theorem add_bad (A : Ad) (k : Nat) (e : Eo) (id sh : Int) (w : World) (h : Es w A k e) (n0 : -9223372036854775808 ≤ id) (n1 : id ≤ 9223372036854775807) (hf : fnd e.L id = none) (hs : sh < e.most ∨ 16777216 < sh) :
    Calls Try.prog 39 #[.pointer (some ⟨A.o, 0, none⟩), .int .i64 id, .bool true, .int .i64 sh] w fun x w' => x = .returned (.int .i64 5) ∧ New w w' := by
  have hr := h.look_none hf n0 n1
  obtain ⟨⟨c0, c1, c2, c3, c4, c5, c6, c7, c8⟩, _⟩ := nine h.blk
  have HQ := Lib.hid (fun W => que.new e.frames e.bytes W h.cf.f0 h.cf.f1 h.cf.b0 h.cf.b1)
  have HH := Lib.hid h
  have hsm := h.sm
  have HSH : Hid (sh < e.s.most ∨ 16777216 < sh) := Lib.hid (by rw [hsm]; exact hs)
  clear h hf hsm hs
  go_enter Try.func39, Try.ntmps39
  go_upto_region 4 with fail
  clear hr
  go_region_with (go_at_call 43; (with_reducible refine Calls.mono (HQ.out _) ?_); rintro x w2 ⟨rfl, hq, n2⟩; have HN2 : Hid (New w w2) := Lib.hid (Turns.of_drew n2); clear hq n2)
  all_goals
    have HE2 := Lib.hid (HH.out.later HN2.out)
    clear c0 c1 c2 c3 c4 c5 c6 c7 c8
    obtain ⟨⟨c0, c1, c2, c3, c4, c5, c6, c7, c8⟩, _⟩ := nine HE2.out.blk
    obtain ⟨d, DS, hd, hss⟩ := HE2.out.sch
    have HAD := Lib.hid (drr.add_bad A.sp A.smb d DS e.s id sh w2 hss HSH.out)
    clear hss
    go_wp2_with fail
    refine HAD.out.mono ?_
    rintro x w3 ⟨rfl, rfl⟩
    go_wp2
    go_ret
    exact ⟨rfl, HN2.out⟩
end Go.Proofs.Ytcaloeolmoodbaa.egr
