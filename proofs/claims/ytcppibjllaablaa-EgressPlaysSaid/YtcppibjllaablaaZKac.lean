/-
  Parts of the proof, one behind the other.
-/
import Derived.Test.YtcppibjllaablaaZDrrCalls2
import Derived.Test.YtcppibjllaablaaZQueRef
import Derived.Deep.RegionHeld3
import Derived.Deep.QuietTactic
set_option linter.unusedVariables false
set_option linter.unusedSimpArgs false
/-
  drr.Sched: sizes, forget.
-/
namespace Go.Proofs.Ytcppibjllaablaa.drr
open Go.RowKit mem Go.Maps
set_option linter.unusedVariables false

abbrev HT : TypeId := 52
/-- v holds the heads l -/
def HRow (w : World) (v : Value) (l : Hs) : Prop :=
  ∃ ao c, v = .slice ao l.length c ∧ l.length ≤ c ∧ (l = [] ∨ ∃ g o, ao = some ⟨g, o, none⟩ ∧ g < w.heap.size ∧ ∀ j h, l[j]? = some h → w.cell? ⟨g, o + j * 2, none⟩ = some (.int .i64 h.1) ∧ w.cell? ⟨g, o + j * 2 + 1, none⟩ = some (.int .i64 h.2))
theorem HRow.later {w w' : World} {v : Value} {l : Hs} (h : HRow w v l) (t : New w w') : HRow w' v l := by
  obtain ⟨ao, c, e, hc, hr⟩ := h
  refine ⟨ao, c, e, hc, ?_⟩
  rcases hr with e | ⟨g, o, e, hg, hcell⟩
  · exact .inl e
  · exact .inr ⟨g, o, e, Nat.lt_of_lt_of_le hg t.size, fun j h hj => ⟨(t.cell (a := ⟨g, o + j * 2, none⟩) hg (fun h => h)).trans (hcell j h hj).1, (t.cell (a := ⟨g, o + j * 2 + 1, none⟩) hg (fun h => h)).trans (hcell j h hj).2⟩⟩
theorem zeroI (w : World) : (zeroValue 3).run Try.prog w = .ok (.int .i64 0) w := by kernel_rfl
/-- the map reads as the heads -/
structure Mz (D : DataW Unit) (l : Hs) : Prop where
  has : ∀ id, has D (.int .i64 id) = decide (id ∈ ids l)
  at_ : ∀ h ∈ l, ∀ z, D.atKey (.int .i64 h.1) z = .lit (.int .i64 h.2)
theorem ids_snoc (l : Hs) (x : Int × Int) : ids (l ++ [x]) = ids l ++ [x.1] := by unfold ids; exact List.map_append
theorem Mz.snoc {D : DataW Unit} {l : Hs} (h : Mz D l) (hD : IsMap D) (x : Int × Int) (hn : x.1 ∉ ids l) : Mz (D.put (.int .i64 x.1) (.lit (.int .i64 x.2))) (l ++ [x]) := by
  refine ⟨fun id => ?_, fun y hy z => ?_⟩
  · by_cases e : id = x.1
    · subst e
      rw [has_put_same hD (show WideAt.IsKeyLit (.int .i64 x.1) from trivial), ids_snoc]
      simp
    · rw [has_put_other (fun e2 => e (by injection e2)), h.has id, ids_snoc]
      simp [e]
  · rcases List.mem_append.1 hy with hy | hy
    · have : y.1 ≠ x.1 := fun e => hn (by rw [← e]; exact List.mem_map.2 ⟨y, hy, rfl⟩)
      rw [atKey_put_other (fun e2 => this (by injection e2))]
      exact h.at_ y hy z
    · simp at hy; subst hy
      exact atKey_put_same hD (show WideAt.IsKeyLit (.int .i64 y.1) from trivial) _ _
theorem take_succ' {α : Type} {l : List α} {j : Nat} {x : α} (h : l[j]? = some x) : l.take (j + 1) = l.take j ++ [x] := by
  rw [List.take_add_one, h]; rfl
theorem asc_not {l : Hs} (ha : (ids l).Pairwise (· < ·)) {j : Nat} {x : Int × Int} (hx : l[j]? = some x) : x.1 ∉ ids (l.take j) := by
  intro hm
  unfold ids at hm ha
  have h1 : (l.take (j + 1)).map (·.1) = (l.take j).map (·.1) ++ [x.1] := by rw [take_succ' hx]; simp
  have h2 : ((l.take (j + 1)).map (·.1)).Pairwise (· < ·) := by
    rw [List.map_take]; exact ha.sublist (List.take_sublist _ _)
  rw [h1, List.pairwise_append] at h2
  have := h2.2.2 x.1 hm x.1 (by simp)
  omega

set_option maxRecDepth 100000 in
set_option maxHeartbeats 2000000 in
theorem sizes (p mb c : Nat) (D : DataW Unit) (s : Sc) (l : Hs) (v : Value) (w : World) (h : Ss w p mb c D s) (hr : HRow w v l) (ok : Ok s l) (hlen : l.length ≤ 1048576) :
    Calls Try.prog 45 #[.pointer (some ⟨p, 0, none⟩), v] w fun e w' => ∃ mz D', e = .returned (.map (some mz)) ∧ w'.ownsMap Try.prog 3 (plainElem Try.prog 3) mz l.length D' ∧ w.heap.size ≤ mz ∧ New w w' ∧ Mz D' l := by
  obtain ⟨ao, cp, rfl, hcp, hrow⟩ := hr
  have hmm := @run_makeMap Try.prog
  have HH := Lib.hid h
  have HOK := Lib.hid ok
  have HROW := Lib.hid hrow
  have hlm : l.length ≤ maxLen := by unfold maxLen; omega
  clear h ok hrow
  go_enter Try.func45, Try.ntmps45
  have HM0 : Hid ((w.alloc (.map #[] 0)).ownsMap Try.prog 3 (plainElem Try.prog 3) w.heap.size 0 (.map [] : DataW Unit) ∧ New w (w.alloc (.map #[] 0))) := Lib.hid ⟨World.ownsMap_made _ _ _ _, (Turns.refl _ _).alloc _⟩
  go_upto_region 2 with fail
  refine (show Code.wp _ _ _ _ (w.alloc (.map #[] 0)) from ?_)
  have HS : Hid (w.heap.size ≤ w.heap.size) := Lib.hid (Nat.le_refl _)
  obtain ⟨mz, hmz⟩ : ∃ mz, w.heap.size = mz := ⟨_, rfl⟩
  rw [hmz] at HM0
  have HZ : Hid (w.heap.size ≤ mz) := Lib.hid (by omega)
  simp only [hmz]
  clear hmz HS
  generalize w.alloc (.map #[] 0) = w1 at *
  go_wp2_with fail
  go_loopw [13] (fun i wr => ∃ (j : Nat) (D' : DataW Unit), j ≤ l.length ∧ i = .int .i64 j ∧ wr.ownsMap Try.prog 3 (plainElem Try.prog 3) mz j D' ∧ New w wr ∧ Mz D' (l.take j)) (fun i _ => l.length - (intOf i).toNat)
  case atStart => exact ⟨0, _, Nat.zero_le _, rfl, HM0.out.1, HM0.out.2, (fun id => by simp [ids]; rfl), (fun x hx => by simp at hx)⟩
  case round =>
    obtain ⟨j, D', hj, rfl, hown, hnw, hmz⟩ := hrel
    have HO := Lib.hid hown
    have HN := Lib.hid hnw
    have HZM := Lib.hid hmz
    clear hown hnw hmz HM0
    by_cases hlt : j < l.length
    · obtain ⟨x, hx⟩ : ∃ x, l[j]? = some x := ⟨_, List.getElem?_eq_getElem hlt⟩
      obtain ⟨g, o, rfl, hg, hcell⟩ := HROW.out.resolve_left (fun e => by rw [e] at hlt; simp at hlt)
      have hc0 := (HN.out.cell (a := ⟨g, o + j * 2, none⟩) hg (fun h => h)).trans (hcell j x hx).1
      have hc1 := (HN.out.cell (a := ⟨g, o + j * 2 + 1, none⟩) hg (fun h => h)).trans (hcell j x hx).2
      have hxm := List.mem_of_getElem? hx
      obtain ⟨f, hf, hid⟩ := HOK.out.fl x hxm
      obtain ⟨hs0, hs1⟩ := HOK.out.sz x hxm
      have HX := Lib.hid hx
      have HZ2 := Lib.hid (HZM.out.snoc HO.out.isMap x (asc_not HOK.out.asc hx))
      rw [← take_succ' hx] at HZ2
      have hrg := HH.out.rg f hf
      have hrd := HH.out.rd2 f hf
      have hmo := HH.out.ok.m1
      rw [hid] at hrg hrd
      obtain ⟨id, sz⟩ := x
      dsimp only at *
      obtain ⟨hr1, hr2⟩ := hrg
      have HS7 := Lib.hid ((HH.out.later HN.out).later ((Turns.refl (fun _ => False) wr).alloc (.cells #[.int .i64 id, .int .i64 sz] HT)))
      have HO7 := Lib.hid (HO.out.alloc (.cells #[.int .i64 id, .int .i64 sz] HT))
      have HN7 : Hid (New w (wr.alloc (.cells #[.int .i64 id, .int .i64 sz] HT))) := Lib.hid (HN.out.alloc _)
      have HB7 : Hid (Blk (wr.alloc (.cells #[.int .i64 id, .int .i64 sz] HT)) wr.heap.size #[.int .i64 id, .int .i64 sz] HT) := Lib.hid (Blk.new _ _ _)
      clear hx hcell hf hid hxm
      go_upto_region 5 with fail
      refine (show Code.wp _ _ _ _ (wr.alloc (.cells #[.int .i64 id, .int .i64 sz] HT)) from ?_)
      clear hc0 hc1
      generalize wr.alloc (.cells #[.int .i64 id, .int .i64 sz] HT) = w7 at *
      generalize wr.heap.size = ph at *
      have hl1 := look_ok_at HS7.out.drew.map hr1 hr2 hrd
      obtain ⟨⟨c0, c1, c2, c3⟩, _⟩ := four HS7.out.blk
      obtain ⟨⟨x0, x1⟩, _⟩ := two HB7.out
      have hkey := keyI hr1 hr2
      have hval : plainElem (H := Unit) Try.prog 3 (.int .i64 sz) = some (.lit (.int .i64 sz), []) := plainElem_int Try.underlying3 (by simp [Lit.wf, IntKind.min, IntKind.max, IntKind.bits, IntKind.signed]; omega)
      have d0 : decide ((0 : Int) ≤ sz) = true := decide_eq_true hs0
      have d1 : decide (sz ≤ s.most) = true := decide_eq_true hs1
      have hmx : j < maxLen := by unfold maxLen; omega
      go_region
      go_upto_region 6 with fail
      go_region
      go_wp2_with (at_mapUpdate; refine wpList_mapUpdate_own _ rfl _ _ _ 80 rfl 3 3 lawI Try.underlying80 (plainElem Try.prog 3) mz j D' rfl (show (World.ownsMap _ _ _ _ _ _ _) from HO7.out) hmx _ _ _ rfl rfl hkey _ [] hval ?_; intro wm hownm hgrowm; have HM := Lib.hid hownm; have HG := Lib.hid hgrowm; clear hownm hgrowm)
      go_roundw
      case rel =>
        have t2 : Turns (· = mz) w7 wm := Turns.of_drew (Turns.of_drew ((Turns.of_grown HG.out).mono (fun k _ hk => by injection hk)))
        exact ⟨j + 1, _, by omega, by go_num, HM.out, HN7.out.trans (t2.mono (fun i _ hi => .inr (by rw [hi]; exact HZ.out))), HZ2.out⟩
      case measure => simp [intOf]; omega
    · obtain rfl : j = l.length := by omega
      have HZE := HZM.out
      rw [List.take_length] at HZE
      have HZF := Lib.hid HZE
      clear HZE
      go_wp2
      go_ret
      exact ⟨mz, D', rfl, HO.out, HZ.out, HN.out, HZF.out⟩

/-! ### forget -/
theorem Sc.ok.some {s : Sc} (h : s.ok) (F : Fl → Int) (hF : ∀ f ∈ s.L, F f = f.left ∨ F f = 0) : Sc.ok ⟨s.most, upd s.L F, s.turn, s.g⟩ := by
  refine ⟨h.m0, h.m1, fun g hg => ?_, fun e => ?_⟩
  · obtain ⟨f, hf, rfl⟩ := upd_mem hg
    obtain ⟨h1, h2, h3, h4, h5⟩ := h.f f hf
    have hm := h.m0
    show s.most ≤ f.share ∧ f.share ≤ 16777216 ∧ 0 ≤ F f ∧ F f < s.most + f.share ∧ (f.id ≠ s.turn ∨ s.g = false → F f < s.most)
    rcases hF f hf with e | e <;> rw [e]
    · exact ⟨h1, h2, h3, h4, h5⟩
    · exact ⟨h1, h2, Int.le_refl _, by omega, fun _ => by omega⟩
  · obtain ⟨f, hf, e⟩ := h.t e
    exact ⟨_, upd_mem' hf, e⟩
/-- what is left behind some rounds -/
def part (l : Hs) (left : Lit → Bool) (f : Fl) : Int := bif left (.int .i64 f.id) then f.left else forgetF l f
theorem part_or (l : Hs) (left : Lit → Bool) (f : Fl) : part l left f = f.left ∨ part l left f = 0 := by
  unfold part forgetF
  cases left (.int .i64 f.id)
  · simp only [cond_false]
    split
    · exact .inl rfl
    · exact .inr rfl
  · exact .inl rfl
def mkV (g : Option Nat) : Value := .pointer (g.map (fun g => ⟨g, 0, none⟩))
theorem sameI (a b : Int) : (Lit.int .i64 a).sameKey (.int .i64 b) = decide (a = b) := by
  by_cases e : a = b
  · subst e
    rw [decide_eq_true rfl]
    simp [Lit.sameKey]
  · rw [decide_eq_false e]
    exact sameKey_ne (fun e2 => e (by injection e2))
set_option maxRecDepth 10000 in
/-- 'v, ok := sizes[id]' -/
theorem look_sz {w : World} {mz n : Nat} {D : DataW Unit} {l : Hs} (h : w.ownsMap Try.prog 3 (plainElem Try.prog 3) mz n D) (hz : Mz D l) {id : Int} (n0 : -9223372036854775808 ≤ id) (n1 : id ≤ 9223372036854775807) :
    (Instr.lookup 80 (.map (some mz)) (.int .i64 id) true).run Try.prog w = .ok (.tuple #[.int .i64 (sizeOf' l id), .bool (decide (id ∈ ids l))]) w := by
  obtain ⟨v, ps, hrun, hv⟩ := h.look_ok lawI Try.underlying80 (zeroI w) (zd := .lit (.int .i64 0)) (zp := []) (plainElem_int Try.underlying3 (by decide)) (keyI n0 n1)
  obtain ⟨a, rfl, hy, _⟩ := plainElem_int_inv Try.underlying3 hv
  rw [hz.has id] at hrun
  have ha : a = sizeOf' l id := by
    injection hy with hy _
    by_cases e : id ∈ ids l
    · have := hz.at_ _ (sizeOf_mem e) (.lit (.int .i64 0))
      rw [this] at hy
      injection hy with hy
      injection hy with _ hy
      exact hy.symm
    · have hno := hz.has id
      rw [decide_eq_false e] at hno
      rw [atKey_of_not_has hno] at hy
      injection hy with hy
      injection hy with _ hy
      rw [← hy]
      unfold sizeOf'
      cases hx : l.find? (fun h => h.1 == id) with
      | none => rfl
      | some y =>
        exfalso
        have h1 := List.mem_of_find?_eq_some hx
        have h2 := List.find?_some hx
        simp at h2
        exact e (List.mem_map.2 ⟨y, h1, h2⟩)
  rw [← ha]
  exact hrun
set_option maxRecDepth 10000 in
/-- 'sizes[id]' -/
theorem look_at_sz {w : World} {mz n : Nat} {D : DataW Unit} {l : Hs} (h : w.ownsMap Try.prog 3 (plainElem Try.prog 3) mz n D) (hz : Mz D l) {id : Int} (n0 : -9223372036854775808 ≤ id) (n1 : id ≤ 9223372036854775807) :
    (Instr.lookup 80 (.map (some mz)) (.int .i64 id) false).run Try.prog w = .ok (.int .i64 (sizeOf' l id)) w := by
  obtain ⟨v, ps, hrun, hv⟩ := h.lookup lawI Try.underlying80 (zeroI w) (zd := .lit (.int .i64 0)) (zp := []) (plainElem_int Try.underlying3 (by decide)) (keyI n0 n1)
  obtain ⟨a, rfl, hy, _⟩ := plainElem_int_inv Try.underlying3 hv
  have ha : a = sizeOf' l id := by
    injection hy with hy _
    by_cases e : id ∈ ids l
    · have := hz.at_ _ (sizeOf_mem e) (.lit (.int .i64 0))
      rw [this] at hy
      injection hy with hy
      injection hy with _ hy
      exact hy.symm
    · have hno := hz.has id
      rw [decide_eq_false e] at hno
      rw [atKey_of_not_has hno] at hy
      injection hy with hy
      injection hy with _ hy
      rw [← hy]
      unfold sizeOf'
      cases hx : l.find? (fun h => h.1 == id) with
      | none => rfl
      | some y =>
        exfalso
        have h1 := List.mem_of_find?_eq_some hx
        have h2 := List.find?_some hx
        simp at h2
        exact e (List.mem_map.2 ⟨y, h1, h2⟩)
  rw [← ha]
  exact hrun
end Go.Proofs.Ytcppibjllaablaa.drr

/-
  The reference of layer 18: what its Put and Expire leave.
-/
namespace Go.Proofs.Ytcppibjllaablaa.que
open Go.RowKit mem
set_option linter.unusedVariables false

abbrev rcs (q : Q) (v : Value) : Array Value := #[.int .i64 q.frames, .int .i64 q.most, v, .bool q.broken]
/-- what the reference hands back: its queue's items in v', what has gone in u -/
structure RPost (w w' : World) (v : Value) (q : Q) (v' u : Value) (D : List It) : Prop where
  sub : Sub IE 0 w' v' q.L
  src : ∀ g, v'.ownBlock = some g → v.ownBlock = some g ∨ w.heap.size ≤ g
  gone : Sub IE 0 w' u D
  gsrc : ∀ g, u.ownBlock = some g → w.heap.size ≤ g
  n : New w w'
  ty : ∀ g, v'.ownBlock = some g → v.ownBlock = some g ∨ ∃ cs, Blk w' g cs OT
theorem owns_ty {E : Enc It} {w : World} {v : Value} {l : List It} (h : Owns E OT w v l) : ∀ g, v.ownBlock = some g → ∃ cs, Blk w g cs OT := fun g hg => by
  rcases h.2 with ⟨rfl, _⟩ | ⟨g', cap, cur, rfl, _, hb, _⟩
  · simp [Value.ownBlock] at hg
  · have : g' = g := by simpa [Value.ownBlock] using hg
    subst this
    exact ⟨_, hb⟩

/-- in the reference's loop: k items are gone, out holds them -/
structure RLoop (w wr : World) (v : Value) (q : Q) (pb px pr : Nat) (x : It) (vk vo : Value) (k : Nat) : Prop where
  box : Blk wr pb (rcs (qk q k) vk) RQ
  sub : Sub IE 0 wr vk (q.L.drop k)
  src : ∀ g, vk.ownBlock = some g → v.ownBlock = some g
  out : Owns IE OT wr vo (q.L.take k)
  vb : ∀ g, vo.ownBlock = some g → w.heap.size ≤ g ∧ g ≠ pb ∧ g ≠ px ∧ g ≠ pr
  xbox : Blk wr px x.cs.toArray OT
  rbox : Blk wr pr #[.int .i64 0, .int .i64 0, .slice none 0 0, .bool false] RQ
  n : New w wr

theorem RLoop.later {w wr w2 : World} {v : Value} {q : Q} {pb px pr : Nat} {x : It} {vk vo : Value} {k : Nat} (h : RLoop w wr v q pb px pr x vk vo k) (n : New wr w2) : RLoop w w2 v q pb px pr x vk vo k :=
  ⟨n.blk h.box (fun h => h), Sub.new h.sub n, h.src, h.out.turns n (fun _ _ h => h), h.vb, n.blk h.xbox (fun h => h), n.blk h.rbox (fun h => h), h.n.trans (n.mono (fun _ _ h => h.elim))⟩
theorem RLoop.step {w w5 w6 w9 : World} {v : Value} {q : Q} {pb px pr k d : Nat} {x : It} {vk vo v' u v9 : Value} {o : Obj} (h : RLoop w w5 v q pb px pr x vk vo k) (hd : DropPost w5 w6 vk (q.L.drop k) v' u) (hde : d = dropN (q.L.drop k)) (hvl : ∀ g, v.ownBlock = some g → g < w.heap.size) (hpb : w.heap.size ≤ pb) (hpx : px ≠ pb) (hpr : pr ≠ pb)
    (ho : Owns IE OT w9 v9 (q.L.take k ++ (q.L.drop k).take d)) (hg : (puts (w6.alloc o) pb 0 (rcs (qk q (k + d)) v').toList).grownBy w9 vo.ownBlock) (ha : v9.ownBlock = vo.ownBlock ∨ v9.ownBlock = some (puts (w6.alloc o) pb 0 (rcs (qk q (k + d)) v').toList).heap.size) :
    RLoop w w9 v q pb px pr x v' v9 (k + d) := by
  subst hde
  have n7 : New w5 (w6.alloc o) := hd.n.alloc o
  have b7 := n7.blk h.box (fun h => h)
  have x7 := n7.blk h.xbox (fun h => h)
  have t8 : Turns (· = pb) (w6.alloc o) (puts (w6.alloc o) pb 0 (rcs (qk q (k + dropN (q.L.drop k))) v').toList) := puts_turns (S := (· = pb)) (.inl rfl) _ 0 _ (Turns.refl _ _)
  have b8 := puts_blk (rcs (qk q k) vk).toList (rcs (qk q (k + dropN (q.L.drop k))) v').toList b7 rfl
  have x8 := t8.blk x7 hpx
  have r8 := t8.blk (n7.blk h.rbox (fun h => h)) hpr
  have t9 := Turns.of_grown hg
  have hvk : ∀ g, v'.ownBlock = some g → g < w.heap.size := fun g hg => hvl g (h.src g (hd.lb ▸ hg))
  have n8 : New w (puts (w6.alloc o) pb 0 (rcs (qk q (k + dropN (q.L.drop k))) v').toList) := (h.n.trans (n7.mono (fun _ _ h => h.elim))).trans (t8.mono (fun i _ hi => .inr (by rw [hi]; exact hpb)))
  refine ⟨t9.blk b8 (fun e => (h.vb pb e.symm).2.1 rfl), ?_, fun g hg => h.src g (hd.lb ▸ hg), by rw [take_more] at ho; exact ho, fun g hg => ?_, t9.blk x8 (fun e => (h.vb px e.symm).2.2.1 rfl), t9.blk r8 (fun e => (h.vb pr e.symm).2.2.2 rfl), n8.trans (t9.mono (fun i _ hi => .inr (h.vb i hi.symm).1))⟩
  · have s6 : Sub IE 0 w6 v' ((q.L.drop k).drop (dropN (q.L.drop k))) := .inr hd.left
    rw [List.drop_drop] at s6
    have s7 := Sub.turns s6 ((Turns.refl (fun _ => False) _).alloc o) (fun _ _ h => h)
    have s8 := Sub.turns' s7 t8 (fun g hg e => by have := hvk g hg; omega)
    exact Sub.turns' s8 t9 (fun g hg e => by have := hvk g hg; have := (h.vb g e.symm).1; omega)
  · rcases ha with e | e
    · exact h.vb g (e ▸ hg)
    · rw [e] at hg
      injection hg with hg
      have := n8.size
      have := b8.lt
      have := x8.lt
      have := r8.lt
      exact ⟨by omega, by omega, by omega, by omega⟩

theorem dropB (q : Q) (k : Nat) (hk : k < q.L.length) : ((qk q k).broken || decide (dropN (q.L.drop k) = (q.L.drop k).length)) = (qk q (k + dropN (q.L.drop k))).broken := brk_step q.broken q.L k _ hk (dropN_pos _)

theorem Owns.made0 {W : World} {B : Nat} (h : Blk W B #[] OT) : Owns IE OT W (.slice (some ⟨B, 0, none⟩) 0 0) [] :=
  ⟨by simp [Enc.all], .inr ⟨B, 0, #[], rfl, Nat.zero_le _, h, Nat.le_refl _, Nat.zero_le _, by simp, by simp [Enc.all]⟩⟩
theorem Blk.new' (w : World) (cs : Array Value) (t : TypeId) {n : Nat} (hn : n = w.heap.size) : Blk (w.alloc (.cells cs t)) n cs t := by rw [hn]; exact Blk.new _ _ _
theorem madeC {w2 W w8 : World} {B : Nat} {v8 : Value} {L : List It} (N : New w2 W) (hB : w2.heap.size ≤ B) (hown : Owns IE OT w8 v8 L) (hgrow : W.grownBy w8 (Value.slice (some ⟨B, 0, none⟩) 0 0).ownBlock)
    (hat : v8.ownBlock = (Value.slice (some ⟨B, 0, none⟩) 0 0).ownBlock ∨ v8.ownBlock = some W.heap.size) : Gr IE OT w2 w8 v8 L ∧ Turns (fun k => k = B) W w8 := by
  have ht := Turns.of_grown hgrow
  have ht' : Turns (fun k => k = B) W w8 := ht.mono (fun k _ hk => by simp [Value.ownBlock] at hk; omega)
  refine ⟨⟨hown, ?_, N.trans (ht'.mono (fun k _ hk => .inr (by rw [hk]; exact hB)))⟩, ht'⟩
  intro g hg
  rcases hat with e | e
  · rw [hg] at e; simp [Value.ownBlock] at e; omega
  · rw [hg] at e; injection e with e; have := N.size; omega
theorem Sub.one {W : World} {B : Nat} {x : It} (h : Blk W B x.cs.toArray OT) : Sub IE 0 W (.slice (some ⟨B, 0, none⟩) 1 1) [x] := by
  refine .inr ⟨B, 0, 1, rfl, Nat.le_refl _, by decide, Nat.zero_le _, h.lt, fun j u hu => ?_⟩
  rw [IE.all_one] at hu
  rw [Nat.zero_add, h.cell j]
  exact (by simp : x.cs.toArray[j]? = x.cs[j]?).trans hu
theorem Sub.one4 {W : World} {B : Nat} {xn xs xt : Int} {xk : Bool} (h : Blk W B #[.int .i64 xn, .int .i64 xs, .int .i64 xt, .bool xk] OT) : Sub IE 0 W (.slice (some ⟨B, 0, none⟩) 1 1) [⟨xn, xs, xt, xk⟩] := Sub.one (x := ⟨xn, xs, xt, xk⟩) h
/-- the reference's queue with the new item -/
structure RFin (w7 wx : World) (pb : Nat) (f m : Int) (L : List It) (n g cap : Nat) : Prop where
  blk : Blk wx pb #[.int .i64 f, .int .i64 m, .slice (some ⟨g, 0, none⟩) (n + 1) cap, .bool false] RQ
  own : Owns IE OT wx (.slice (some ⟨g, 0, none⟩) (n + 1) cap) L
  lo : w7.heap.size ≤ g
  turns : Turns (· = pb) w7 wx
theorem finR {w7 W w10 : World} {pb n : Nat} {f m : Int} {v2 V8 v10 : Value} {L : List It} (hb : Blk w7 pb #[.int .i64 f, .int .i64 m, v2, .bool false] RQ) (N : New w7 W) (hV : ∀ g, V8.ownBlock = some g → w7.heap.size ≤ g) (hown : Owns IE OT w10 v10 L) (hn : L.length = n + 1) (hgrow : W.grownBy w10 V8.ownBlock)
    (hat : v10.ownBlock = V8.ownBlock ∨ v10.ownBlock = some W.heap.size) : ∃ g cap, v10 = .slice (some ⟨g, 0, none⟩) (n + 1) cap ∧ RFin w7 (w10.setCell ⟨pb, 2, none⟩ v10) pb f m L n g cap ∧ Blk w10 pb #[.int .i64 f, .int .i64 m, v2, .bool false] RQ := by
  have hpb := hb.lt
  have ht : Turns (fun k => w7.heap.size ≤ k) W w10 := (Turns.of_grown hgrow).mono (fun k _ hk => hV k hk.symm)
  have hb10 := ht.blk (N.blk hb (fun h => h)) (by omega)
  have hv10 : ∀ g, v10.ownBlock = some g → w7.heap.size ≤ g := by
    intro g hg
    rcases hat with e | e
    · exact hV g (by rw [← e]; exact hg)
    · rw [hg] at e; injection e with e; have := N.size; omega
  have ts : Turns (· = pb) w10 (w10.setCell ⟨pb, 2, none⟩ v10) := (Turns.refl (· = pb) _).setCell (.inl rfl) _
  rcases hown.2 with ⟨_, h0⟩ | ⟨g, cap, cur, e, _⟩
  · omega
  · rw [hn] at e
    refine ⟨g, cap, e, ⟨?_, ?_, hv10 g (by rw [e]; rfl), ?_⟩, hb10⟩
    · have := hb10.set 2 v10
      rw [e] at this ⊢
      exact this
    · have := hown.turns ts (fun g' hg' e2 => by have := hv10 g' hg'; omega)
      rw [e] at this ⊢
      exact this
    · exact (N.mono (fun _ _ h => h.elim)).trans ((ht.mono (fun k _ hk => .inr hk)).trans (ts.mono (fun k _ hk => .inl (.inl hk))))

/-- what the loop's test holds on to -/
abbrev HeldT (w w' : World) (pb px : Nat) (c0 c1 c2 x1 : Value) : Prop :=
  New w w' ∧ pb < w'.heap.size ∧ px < w'.heap.size ∧ w'.cell? ⟨pb, 0, none⟩ = some c0 ∧ w'.cell? ⟨pb, 1, none⟩ = some c1 ∧ w'.cell? ⟨pb, 2, none⟩ = some c2 ∧ w'.cell? ⟨px, 1, none⟩ = some x1
theorem heldT_drew {w w' : World} {pb px : Nat} {c0 c1 c2 x1 : Value} (h : HeldT w w' pb px c0 c1 c2 x1) : HeldT w w'.drew pb px c0 c1 c2 x1 := by
  obtain ⟨hn, h⟩ := h
  exact ⟨hn.drew, h⟩
theorem heldT_nw {w w' : World} {pb px : Nat} {c0 c1 c2 x1 : Value} (h : HeldT w w' pb px c0 c1 c2 x1) : New w w' := h.1
theorem heldT_new {w w1 w2 : World} {pb px : Nat} {c0 c1 c2 x1 : Value} (n : New w1 w2) (h : HeldT w w1 pb px c0 c1 c2 x1) : HeldT w w2 pb px c0 c1 c2 x1 := by
  obtain ⟨hn, hl, hx, h0, h1, h2, h3⟩ := h
  exact ⟨hn.trans (n.mono (fun _ _ h => h.elim)), Nat.lt_of_lt_of_le hl n.size, Nat.lt_of_lt_of_le hx n.size, (n.cell (a := ⟨pb, 0, none⟩) hl (fun h => h)).trans h0, (n.cell (a := ⟨pb, 1, none⟩) hl (fun h => h)).trans h1, (n.cell (a := ⟨pb, 2, none⟩) hl (fun h => h)).trans h2, (n.cell (a := ⟨px, 1, none⟩) hx (fun h => h)).trans h3⟩

end Go.Proofs.Ytcppibjllaablaa.que

/-
  drr.Sched: forget.
-/
namespace Go.Proofs.Ytcppibjllaablaa.drr
open Go.RowKit mem Go.Maps
set_option linter.unusedVariables false

/-- a partly forgotten schedule; sizes; the iterator -/
structure Fg (w wr : World) (p mb c mz n : Nat) (D DZ : DataW Unit) (s : Sc) (l : Hs) (left : Lit → Bool) : Prop where
  ss : Ss wr p mb c D ⟨s.most, upd s.L (part l left), s.turn, s.g⟩
  mz : wr.ownsMap Try.prog 3 (plainElem Try.prog 3) mz n DZ
  t : Turns (Foot p mb s) w wr
theorem Fg.iter {w wr w2 : World} {p mb c mz n r : Nat} {D DZ : DataW Unit} {s : Sc} {l : Hs} {left : Lit → Bool} (h : Fg w wr p mb c mz n D DZ s l left) (hg : wr.grownBy w2 (some r)) (hr : w.heap.size ≤ r) (hs : Ss w p mb c D s) (hm : mz < w.heap.size) : Fg w w2 p mb c mz n D DZ s l left := by
  have t : Turns (· = r) wr w2 := (Turns.of_grown hg).mono (fun k _ hk => by injection hk)
  refine ⟨h.ss.turns t (fun e => ?_) (fun e => ?_) (fun f hf e => ?_), ownsMap_turns h.mz t (fun e => ?_), h.t.trans (t.mono (fun i _ hi => .inr (by rw [hi]; exact hr)))⟩
  · have := hs.lt; omega
  · have := hs.mlt; omega
  · obtain ⟨f', hf', rfl⟩ := upd_mem hf
    have h2 := hs.flt f' hf'
    have h3 : f'.b = r := e
    omega
  · omega
theorem part_miss {s : Sc} {l : Hs} {left : Lit → Bool} {x : Int} (h : x ∈ ids l ∨ left (.int .i64 x) = false) : upd s.L (part l (fun z => left z && !z.sameKey (.int .i64 x))) = upd s.L (part l left) := by
  refine upd_congr (fun f hf => ?_)
  unfold part
  dsimp only
  by_cases e : f.id = x
  · rw [sameI, decide_eq_true e]
    simp only [Bool.not_true, Bool.and_false, cond_false]
    rcases h with h | h
    · have e2 : forgetF l f = f.left := by unfold forgetF; rw [if_pos (by rw [e]; exact h)]
      rw [e2]
      cases left (.int .i64 f.id) <;> rfl
    · rw [e, h]; rfl
  · rw [sameI, decide_eq_false e]
    simp only [Bool.not_false, Bool.and_true]
theorem part_hit {s : Sc} (ap : Ap s.L) {l : Hs} {left : Lit → Bool} {f : Fl} (hf : f ∈ s.L) (h : f.id ∉ ids l) : upd s.L (part l (fun z => left z && !z.sameKey (.int .i64 f.id))) = upd (upd s.L (part l left)) (fun g => if g.id = f.id then 0 else g.left) := by
  rw [upd_upd]
  refine upd_congr (fun g hg => ?_)
  dsimp only
  unfold part
  dsimp only
  by_cases e : g.id = f.id
  · have e2 := ap.eq hg hf (.inl e)
    subst e2
    rw [sameI, decide_eq_true rfl, if_pos rfl]
    simp only [Bool.not_true, Bool.and_false, cond_false]
    unfold forgetF; rw [if_neg h]
  · rw [sameI, decide_eq_false e, if_neg e]
    simp only [Bool.not_false, Bool.and_true]
theorem grown_of_turns {w w' : World} {b : Nat} (t : Turns (· = b) w w') : w.grownBy w' (some b) := ⟨t.os, t.tape, t.output, t.size, fun i hi hne => t.block i hi (fun e => hne (by rw [e]))⟩
set_option maxRecDepth 100000 in
set_option maxHeartbeats 2000000 in
theorem forget (p mb c mz n : Nat) (D DZ : DataW Unit) (s : Sc) (l : Hs) (w : World) (h : Ss w p mb c D s) (hz : w.ownsMap Try.prog 3 (plainElem Try.prog 3) mz n DZ) (hmz : Mz DZ l) (hne : ∀ f ∈ s.L, mz ≠ f.b) :
    Calls Try.prog 46 #[.pointer (some ⟨p, 0, none⟩), .map (some mz)] w fun e w' => e = .returned (.tuple #[]) ∧ Lf w w' p mb c D s (begS l s) ∧ w'.ownsMap Try.prog 3 (plainElem Try.prog 3) mz n DZ := by
  have HH := Lib.hid h
  have HZ := Lib.hid hz
  have HMZ := Lib.hid hmz
  have HNE := Lib.hid hne
  have hown := h.map
  have HO := Lib.hid hown
  obtain ⟨⟨c0, c1, c2, c3⟩, k0, k1, k2, k3⟩ := four h.blk
  clear h hz hmz hne hown
  go_enter Try.func46, Try.ntmps46
  go_wp2_with (at_range; refine wpList_range_own _ rfl _ 109 rfl 3 112 lawI Try.underlying109 ptrE mb c D rfl HO.out ?_; intro w0 hrg0 hg0 hs0; have HR0 := Lib.hid hrg0; have HG0 := Lib.hid hg0; clear hrg0 hg0 hs0)
  go_frame
  obtain ⟨r, hr⟩ : ∃ r, w.heap.size = r := ⟨_, rfl⟩
  rw [hr] at HR0
  simp only [hr]
  have HR : Hid (w.heap.size ≤ r) := Lib.hid (by omega)
  clear hr
  have HF0 : Hid (Fg w w0 p mb c mz n D DZ s l (has D)) := Lib.hid (by
    have t : New w w0 := (Turns.of_grown HG0.out).mono (fun k _ hk => by cases hk)
    have e : upd s.L (part l (has D)) = s.L := upd_same _ _ (fun f hf => by unfold part; rw [HH.out.rd1, HH.out.ap.fnd hf]; rfl)
    have hs : Ss w0 p mb c D ⟨s.most, upd s.L (part l (has D)), s.turn, s.g⟩ := by rw [e]; exact HH.out.later t
    exact ⟨hs, ownsMap_turns HZ.out t (fun h => h), t.mono (fun _ _ h => h.elim)⟩)
  clear c0 c1 c2 c3 k0 k1 k2 k3 HG0 HO
  go_loopw [4, 5, 6, 7] (fun _ _ _ _ wr => ∃ (left : Lit → Bool) (cnt : Nat), wr.ranges Try.prog 3 ptrE mb r c D left cnt ∧ Fg w wr p mb c mz n D DZ s l left) (fun _ _ _ _ wr => wr.rangeLeft mb r)
  case atStart => exact ⟨_, _, HR0.out, HF0.out⟩
  case round =>
    obtain ⟨left, cnt, hrg, hfg⟩ := hrel
    have HRG := Lib.hid hrg
    have HFG := Lib.hid hfg
    clear hrg hfg HR0 HF0
    go_wp2_with (at_next; refine wpList_next_ranges _ rfl _ rfl 3 lawI ptrE (Value.int .i64) mkV (fun key kl hk => by obtain ⟨x, hx, _⟩ := Maps.keyOf_int_inv Try.underlying3 hk; exact ⟨x, hx⟩) (fun v y hv => ptrE_shape hv) mb r c _ _ _ rfl HRG.out ?_ ?_)
    · intro _ hl0
      have e : upd s.L (part l left) = upd s.L (forgetF l) := upd_congr (fun f hf => by unfold part; rw [hl0]; rfl)
      have hf := HFG.out
      have hs := hf.ss
      rw [e] at hs
      have HE := Lib.hid (And.intro (And.intro hs hf.t) hf.mz)
      clear hs hf e hl0
      go_wp2
      go_end0
      exact ⟨rfl, HE.out.1, HE.out.2⟩
    · intro x g kl y1 y2 w2 cnt2 hkey hlk hv hat hrg2 hlt hg2 hs2 hen
      obtain ⟨x', ex, rfl, hwf⟩ := Maps.keyOf_int_inv Try.underlying3 hkey
      have hxx : x = x' := by injection ex
      subst hxx
      obtain ⟨n0, n1⟩ := bounds_i64 hwf
      have hhas := has_true_of_atKey hat
      rw [HH.out.rd1] at hhas
      obtain ⟨f, hfn⟩ := Option.isSome_iff_exists.1 hhas
      obtain ⟨hf, hid⟩ := fnd_some hfn
      subst hid
      have hy : y1 = .lit (.int .i64 (f.b : Int)) := (hat (.map [])).symm.trans (HH.out.rd2 f hf (.map []))
      have hmk : mkV g = .pointer (some ⟨f.b, 0, none⟩) := ptrE_inv (ps := y2) (by rw [hv, ← hy])
      have HF2 := Lib.hid (HFG.out.iter hg2 HR.out HH.out HZ.out.lt)
      have HR2 := Lib.hid hrg2
      have hlook := look_sz HF2.out.mz HMZ.out n0 n1
      have hfm := upd_mem' (F := part l left) hf
      have HFM := Lib.hid hfm
      obtain ⟨⟨f0, f1⟩, f2, f3⟩ := two (HF2.out.ss.fb _ hfm)
      have hms := HF2.out.ss.mf _ hfm
      have hrb : r ≠ f.b := by have := HH.out.flt f hf; have := HR.out; omega
      have HLT : Hid (cnt2 < cnt) := Lib.hid hlt
      have HFF := Lib.hid hf
      rw [hmk] at hen ⊢
      clear hkey hlk hv hat hrg2 hlt hg2 hs2 hhas hfn hf hy hmk ex hwf hfm
      by_cases hin : f.id ∈ ids l
      · rw [decide_eq_true hin] at hlook
        have HM : Hid (upd s.L (part l (fun z => left z && !z.sameKey (.int .i64 f.id))) = upd s.L (part l left)) := Lib.hid (part_miss (.inl hin))
        clear hin
        go_wp2_with fail
        go_roundw
        case rel =>
          refine ⟨_, cnt2, HR2.out, ?_, HF2.out.mz, HF2.out.t⟩
          rw [HM.out]
          exact HF2.out.ss
        case measure => rw [HR2.out.left_eq, HRG.out.left_eq]; exact HLT.out
      · rw [decide_eq_false hin] at hlook
        have HM := Lib.hid (part_hit HH.out.ap HFF.out (left := left) hin)
        have hok := HH.out.ok.some (part l (fun z => left z && !z.sameKey (.int .i64 f.id))) (fun g _ => part_or _ _ _)
        rw [HM.out] at hok
        have HL := Lib.hid (HF2.out.ss.left HFM.out 0 hok)
        clear hin hok
        go_wp2_with fail
        go_roundw
        case rel =>
          have hl := HL.out
          refine ⟨_, cnt2, HR2.out.kept (grown_of_turns hl.2) (fun e => hms (by injection e)) (fun e => hrb (by injection e)), ?_, ownsMap_turns HF2.out.mz hl.2 (HNE.out f HFF.out), HF2.out.t.trans (hl.2.mono (fun i _ hi => .inl (.inr (.inr ⟨f, HFF.out, hi.symm⟩))))⟩
          rw [HM.out]
          exact hl.1
        case measure => rw [(HR2.out.kept (grown_of_turns HL.out.2) (fun e => hms (by injection e)) (fun e => hrb (by injection e))).left_eq, HRG.out.left_eq]; exact HLT.out
end Go.Proofs.Ytcppibjllaablaa.drr
