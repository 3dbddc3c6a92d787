/-
  Parts of the proof, one behind the other.
-/
import Derived.Test.YtcppibjllaablaaZEgrNext
import Derived.Test.YtcppibjllaablaaZKaa
import Derived.BigQuiet
import Derived.Deep.DeepCutAuto
import Derived.Test.YtcppibjllaablaaZKad
import Derived.Deep.RegionHeld3
set_option linter.unusedVariables false
set_option linter.unusedSimpArgs false
/-
  egress.Out: count.
-/
namespace Go.Proofs.Ytcppibjllaablaa.egr
open Go.RowKit mem Go.Maps
open Go.Proofs.Ytcppibjllaablaa.itr
set_option linter.unusedVariables false

theorem Es.cr {w : World} {A : Ad} {k : Nat} {e : Eo} (h : Es w A k e) {n r : Int} (n0 : 0 ≤ n) (n1 : n ≤ 1099511627776) {w' : World} (t : Turns (· = A.o) w w') (hb : Blk w' A.o (cells ⟨e.frames, e.bytes, e.age, e.most, e.guard, n, r, e.L, e.s⟩ A) OB) : Es w' A k ⟨e.frames, e.bytes, e.age, e.most, e.guard, n, r, e.L, e.s⟩ := by
  have hc := h.cf
  exact h.self t hb rfl rfl rfl rfl rfl ⟨hc.f0, hc.f1, hc.b0, hc.b1, hc.a0, hc.a1, hc.m0, hc.m1, hc.g0, hc.g1, n0, n1⟩
/-- a sound, a picture has gone -/
def countE (e : Eo) (n : Int) (v : Bool) : Eo := if v = true then ⟨e.frames, e.bytes, e.age, e.most, e.guard, e.credit - n, 0, e.L, drr.takeS n e.s⟩ else ⟨e.frames, e.bytes, e.age, e.most, e.guard, e.credit - n, e.row + 1, e.L, e.s⟩
def FootO (A : Ad) (e : Eo) (k : Nat) : Prop := k = A.o ∨ drr.Foot A.sp A.smb e.s k
set_option maxRecDepth 100000 in
set_option maxHeartbeats 2000000 in
theorem count (A : Ad) (k : Nat) (e : Eo) (n : Int) (v : Bool) (w : World) (h : Es w A k e) (n0 : 0 ≤ n) (n1 : n ≤ e.credit) (r0 : 0 ≤ e.row) (r1 : e.row < 9223372036854775807) :
    Calls Try.prog 70 #[.pointer (some ⟨A.o, 0, none⟩), .int .i64 n, .bool v] w fun x w' => x = .returned (.tuple #[]) ∧ Es w' A k (countE e n v) ∧ Turns (FootO A e) w w' := by
  obtain ⟨⟨c0, c1, c2, c3, c4, c5, c6, c7, c8⟩, f7, f8⟩ := nine h.blk
  have k0 := h.cf.c0
  have k1 := h.cf.c1
  have s1 : IntKind.i64.wrap (e.credit - n) = e.credit - n := IntWalk.i64_in _ (by omega)
  have s2 : IntKind.i64.wrap (e.row + 1) = e.row + 1 := IntWalk.i64_in _ (by omega)
  have t1 : Turns (· = A.o) w (w.setCell ⟨A.o, 7, none⟩ (.int .i64 (e.credit - n))) := Turns.setCell (S := (· = A.o)) (Turns.refl _ w) (p := ⟨A.o, 7, none⟩) (.inl rfl) _
  have hb1 : Blk (w.setCell ⟨A.o, 7, none⟩ (.int .i64 (e.credit - n))) A.o (cells ⟨e.frames, e.bytes, e.age, e.most, e.guard, e.credit - n, e.row, e.L, e.s⟩ A) OB := h.blk.set 7 _
  have h1 := h.cr (n := e.credit - n) (r := e.row) (by omega) (by omega) t1 hb1
  have HT1 := Lib.hid t1
  have H1 := Lib.hid h1
  clear h h1 t1 hb1
  cases v with
  | false =>
    have HE : Hid (countE e n false = ⟨e.frames, e.bytes, e.age, e.most, e.guard, e.credit - n, e.row + 1, e.L, e.s⟩) := Lib.hid rfl
    go_enter Try.func70, Try.ntmps70
    go_upto_region 1 with fail
    clear c0 c1 c2 c3 c4 c5 c6 c7 c8 f7 f8
    generalize w.setCell ⟨A.o, 7, none⟩ (.int .i64 (e.credit - n)) = w1 at *
    obtain ⟨⟨c0, c1, c2, c3, c4, c5, c6, c7, c8⟩, f7, f8⟩ := nine H1.out.blk
    go_wp2
    refine bodyPost_ret (results_none rfl _ _ _) rfl ?_
    have t2 : Turns (· = A.o) w1 (w1.setCell ⟨A.o, 8, none⟩ (.int .i64 (e.row + 1))) := Turns.setCell (S := (· = A.o)) (Turns.refl _ w1) (p := ⟨A.o, 8, none⟩) (.inl rfl) _
    have hb2 : Blk (w1.setCell ⟨A.o, 8, none⟩ (.int .i64 (e.row + 1))) A.o (cells ⟨e.frames, e.bytes, e.age, e.most, e.guard, e.credit - n, e.row + 1, e.L, e.s⟩ A) OB := H1.out.blk.set 8 _
    refine ⟨rfl, by rw [HE.out]; exact H1.out.cr (by omega) (by omega) t2 hb2, ?_⟩
    exact (HT1.out.mono (fun i _ hi => .inl hi)).trans (t2.mono (fun i _ hi => .inl (.inl hi)))
  | true =>
    have HE : Hid (countE e n true = ⟨e.frames, e.bytes, e.age, e.most, e.guard, e.credit - n, 0, e.L, drr.takeS n e.s⟩) := Lib.hid rfl
    go_enter Try.func70, Try.ntmps70
    go_upto_region 1 with fail
    clear c0 c1 c2 c3 c4 c5 c6 c7 c8 f7 f8
    generalize w.setCell ⟨A.o, 7, none⟩ (.int .i64 (e.credit - n)) = w1 at *
    obtain ⟨⟨c0, c1, c2, c3, c4, c5, c6, c7, c8⟩, f7, f8⟩ := nine H1.out.blk
    obtain ⟨c, D, hc, hss⟩ := H1.out.sch
    have HSS := Lib.hid (And.intro hc hss)
    have HTK := Lib.hid (drr.take A.sp A.smb c D e.s n w1 hss (by omega))
    clear hss hc
    go_wp2_with fail
    refine HTK.out.mono ?_
    rintro x w2 ⟨rfl, hl⟩
    have HL := Lib.hid hl
    have H2 := Lib.hid (H1.out.call HSS.out.1 HSS.out.2 hl.1 hl.2 (drr.Sim.take _ _))
    clear hl HTK c0 c1 c2 c3 c4 c5 c6 c7 c8 f7 f8
    obtain ⟨⟨c0, c1, c2, c3, c4, c5, c6, c7, c8⟩, f7, f8⟩ := nine H2.out.blk
    go_wp2
    go_end0
    have t2 : Turns (· = A.o) w2 (w2.setCell ⟨A.o, 8, none⟩ (.int .i64 0)) := Turns.setCell (S := (· = A.o)) (Turns.refl _ w2) (p := ⟨A.o, 8, none⟩) (.inl rfl) _
    have hb2 : Blk (w2.setCell ⟨A.o, 8, none⟩ (.int .i64 0)) A.o (cells ⟨e.frames, e.bytes, e.age, e.most, e.guard, e.credit - n, 0, e.L, drr.takeS n e.s⟩ A) OB := H2.out.blk.set 8 _
    refine ⟨rfl, by rw [HE.out]; exact H2.out.cr (by omega) (by omega) t2 hb2, ?_⟩
    exact ((HT1.out.mono (fun i _ hi => .inl hi)).trans (HL.out.2.mono (fun i _ hi => .inl (.inr hi)))).trans (t2.mono (fun i _ hi => .inl (.inl hi)))
end Go.Proofs.Ytcppibjllaablaa.egr

/-
  egress.Out: what its calls leave of everything else.
-/
namespace Go.Proofs.Ytcppibjllaablaa.egr
open Go.RowKit mem Go.Maps
open Go.Proofs.Ytcppibjllaablaa.itr
set_option linter.unusedVariables false

/-- all of an outlet lies at b or behind it -/
structure Lo (b : Nat) (A : Ad) (e : Eo) : Prop where
  o : b ≤ A.o
  m : b ≤ A.mb
  s : b ≤ A.sp
  t : b ≤ A.smb
  q : ∀ f ∈ e.L, b ≤ f.qb ∧ ∀ x, f.pv.ownBlock = some x → b ≤ x
  g : ∀ f ∈ e.s.L, b ≤ f.b
theorem Made.lo {w w' : World} {A : Ad} {k : Nat} {e : Eo} (h : Made w w' A k e) : Lo w.heap.size A e := ⟨h.o0, h.m0, h.s0, h.t0, fun f hf => (h.f0 f hf).2, h.g0⟩
theorem Lo.setQ {b : Nat} {A : Ad} {e : Eo} {f : Ef} {w : World} (h : Lo b A e) (hf : f ∈ e.L) (hw : b ≤ w.heap.size) {pv' : Value} {q' : que.Q} (hl : pv'.ownBlock = f.pv.ownBlock ∨ ∃ g, pv'.ownBlock = some g ∧ w.heap.size ≤ g) {c r : Int} : Lo b A ⟨e.frames, e.bytes, e.age, e.most, e.guard, c, r, setQ e.L f.id pv' q', e.s⟩ := by
  refine ⟨h.o, h.m, h.s, h.t, fun g hg => ?_, h.g⟩
  obtain ⟨g', hg', rfl⟩ := setQ_mem hg
  split
  · refine ⟨(h.q g' hg').1, fun x hx => ?_⟩
    rcases hl with e2 | ⟨y, e2, hy⟩
    · exact (h.q f hf).2 x (by rw [← e2]; exact hx)
    · have hx' : some y = some x := by rw [← e2]; exact hx
      injection hx' with hx'
      omega
  · exact h.q g' hg'
theorem Lo.sim {b : Nat} {A : Ad} {e : Eo} (h : Lo b A e) {s' : drr.Sc} (k : drr.Sim e.s s') {c r : Int} : Lo b A ⟨e.frames, e.bytes, e.age, e.most, e.guard, c, r, e.L, s'⟩ := by
  refine ⟨h.o, h.m, h.s, h.t, h.q, fun g hg => ?_⟩
  obtain ⟨_, F, e2⟩ := k
  have hg2 : g ∈ s'.L := hg
  rw [e2] at hg2
  obtain ⟨g', hg', rfl⟩ := drr.upd_mem hg2
  exact h.g g' hg'
/-- what is of another type stays; so do other maps; nothing ahead of b turns -/
structure Sf (b : Nat) (A : Ad) (w w' : World) : Prop where
  t : Turns (fun i => b ≤ i) w w'
  c : ∀ (r : Nat) (cs : Array Value) (T : TypeId), Blk w r cs T → T ≠ OB → T ≠ 108 → T ≠ 37 → T ≠ 111 → T ≠ 115 → w'.heap[r]? = w.heap[r]?
section
variable {b : Nat} {A : Ad} {w w1 w2 w' : World} {k : Nat} {e : Eo}
theorem Sf.refl (b : Nat) (A : Ad) (w : World) : Sf b A w w := ⟨Turns.refl _ _, fun _ _ _ _ _ _ _ _ _ => rfl⟩
theorem Sf.trans (h : Sf b A w w1) (h2 : Sf b A w1 w2) : Sf b A w w2 :=
  ⟨h.t.trans (h2.t.mono (fun _ _ hi => .inl hi)), fun r cs T hb a1 a2 a3 a4 a5 => by
    have e1 := h.c r cs T hb a1 a2 a3 a4 a5
    have hb1 : Blk w1 r cs T := by unfold Blk at hb ⊢; rw [e1]; exact hb
    rw [h2.c r cs T hb1 a1 a2 a3 a4 a5, e1]⟩
theorem Sf.new (n : New w w') : Sf b A w w' := ⟨n.mono (fun _ _ h => h.elim), fun r cs T hb _ _ _ _ _ => n.block r hb.lt (fun h => h)⟩
theorem Sf.of (t : Turns (fun i => b ≤ i) w w') {S : Nat → Prop} (t2 : Turns S w w') (hS : ∀ (r : Nat) (cs : Array Value) (T : TypeId), Blk w r cs T → T ≠ OB → T ≠ 108 → T ≠ 37 → T ≠ 111 → T ≠ 115 → ¬ S r) : Sf b A w w' :=
  ⟨t, fun r cs T hb a1 a2 a3 a4 a5 => t2.block r hb.lt (hS r cs T hb a1 a2 a3 a4 a5)⟩
theorem Sf.out (h : Es w A k e) (l : Lo b A e) (t : Turns (· = A.o) w w') : Sf b A w w' :=
  Sf.of (t.mono (fun i _ hi => by rw [hi]; exact l.o)) t (fun r cs T hb a1 _ _ _ _ hi => blk_ne hb h.blk a1 hi)
theorem Sf.que (h : Es w A k e) (l : Lo b A e) {f : Ef} (hf : f ∈ e.L) (t : Turns (que.Foot f.qb f.pv) w w') : Sf b A w w' :=
  Sf.of (t.mono (fun i _ hi => by rcases hi with hi | hi; rw [hi]; exact (l.q f hf).1; exact (l.q f hf).2 i hi)) t (fun r cs T hb _ a2 a3 _ _ hi => by
    rcases hi with hi | hi
    · exact blk_ne hb (h.qs f hf).blk a2 hi
    · exact own_ne (h.qs f hf).own hb (fun e3 => a3 e3.symm) hi)
theorem drr_lo (l : Lo b A e) : ∀ i, drr.Foot A.sp A.smb e.s i → b ≤ i := fun i hi => by
  rcases hi with hi | hi | ⟨f, hf, hi⟩
  · rw [hi]; exact l.s
  · rw [hi]; exact l.t
  · rw [← hi]; exact l.g f hf
theorem drr_off (h : Es w A k e) {r : Nat} {cs : Array Value} {T : TypeId} (hb : Blk w r cs T) (a4 : T ≠ 111) (a5 : T ≠ 115) : ¬ drr.Foot A.sp A.smb e.s r := fun hi => by
  obtain ⟨c, D, _, hss⟩ := h.sch
  rcases hi with hi | hi | ⟨f, hf, hi⟩
  · exact blk_ne hb hss.blk a4 hi
  · exact ownsMap_ne hss.map hb hi.symm
  · exact blk_ne hb (hss.fb f hf) a5 hi.symm
theorem Sf.drr (h : Es w A k e) (l : Lo b A e) (t : Turns (drr.Foot A.sp A.smb e.s) w w') : Sf b A w w' :=
  Sf.of (t.mono (fun i _ hi => drr_lo l i hi)) t (fun r cs T hb _ _ _ a4 a5 => drr_off h hb a4 a5)
theorem Sf.outdrr (h : Es w A k e) (l : Lo b A e) (t : Turns (FootO A e) w w') : Sf b A w w' :=
  Sf.of (t.mono (fun i _ hi => by rcases hi with hi | hi; rw [hi]; exact l.o; exact drr_lo l i hi)) t (fun r cs T hb a1 _ _ a4 a5 hi => by
    rcases hi with hi | hi
    · exact blk_ne hb h.blk a1 hi
    · exact drr_off h hb a4 a5 hi)
theorem Sf.maps (h : Es w A k e) (l : Lo b A e) (t : Turns (fun i => i = A.mb ∨ i = A.smb) w w') : Sf b A w w' := by
  obtain ⟨c, D, _, hm, _⟩ := h.map
  obtain ⟨c2, D2, _, hss⟩ := h.sch
  exact Sf.of (t.mono (fun i _ hi => by rcases hi with hi | hi; rw [hi]; exact l.m; rw [hi]; exact l.t)) t (fun r cs T hb _ _ _ _ _ hi => by
    rcases hi with hi | hi
    · exact ownsMap_ne hm hb hi.symm
    · exact ownsMap_ne hss.map hb hi.symm)
/-- a row of another type -/
theorem Sf.row (h : Sf b A w w') {α : Type} {E : Enc α} {T : TypeId} {v : Value} {l : List α} (ho : Owns E T w v l) (a1 : T ≠ OB) (a2 : T ≠ 108) (a3 : T ≠ 37) (a4 : T ≠ 111) (a5 : T ≠ 115) : Owns E T w' v l := by
  refine ⟨ho.1, ?_⟩
  rcases ho.2 with h0 | ⟨g, cap, cur, rfl, hb, hg, r⟩
  · exact .inl h0
  · exact .inr ⟨g, cap, cur, rfl, hb, by rw [h.c g cur T hg a1 a2 a3 a4 a5]; exact hg, r⟩
theorem Sf.blk (h : Sf b A w w') {r : Nat} {cs : Array Value} {T : TypeId} (hb : Blk w r cs T) (a1 : T ≠ OB) (a2 : T ≠ 108) (a3 : T ≠ 37) (a4 : T ≠ 111) (a5 : T ≠ 115) : Blk w' r cs T := by
  have e := h.c r cs T hb a1 a2 a3 a4 a5
  unfold Blk at hb ⊢
  rw [e]; exact hb
end
end Go.Proofs.Ytcppibjllaablaa.egr

/-
  egress.Out: what a Run does, item by item. Pure.
-/
namespace Go.Proofs.Ytcppibjllaablaa.egr
open Go.RowKit mem Go.Maps
open Go.Proofs.Ytcppibjllaablaa.itr
set_option linter.unusedVariables false

theorem choose_mem {s : drr.Sc} {l : drr.Hs} (hl : l ≠ []) (h : s.ok) (ok : drr.Ok s l) : (drr.chooseS l s).turn ∈ drr.ids l := by
  obtain ⟨h1, h2, h3⟩ := h.fir hl ok
  have hid : drr.ids l ≠ [] := fun e => hl (by unfold drr.ids at e; exact List.map_eq_nil_iff.1 e)
  cases l with
  | nil => exact absurd rfl hl
  | cons x t =>
    show (drr.runS (x :: t) (drr.firS (x :: t) s)).turn ∈ _
    unfold drr.runS
    split
    · rw [(drr.grant_turn _).1]
      exact drr.nextId_mem hid _
    · rw [(drr.grant_turn _).1]
      exact h2
/-- the flow whose turn it is has an item -/
theorem Es.next_flow {w : World} {A : Ad} {k : Nat} {e : Eo} (h : Es w A k e) (hn : (nextS e).2.1 = true) : ∃ f ∈ e.L, f.id = (nextS e).1 ∧ ∃ x, f.q.L[0]? = some x := by
  have hk := nx_ok e.L (idS e.L)
  obtain ⟨c, D, _, hss⟩ := h.sch
  have hok := h.ok_heads
  unfold nextS at hn ⊢
  generalize nx e.L (idS e.L) = s at *
  split
  next h1 =>
    obtain ⟨y, hy⟩ := Option.isSome_iff_exists.1 h1.1
    obtain ⟨f, hf, h2, _, h3⟩ := hk.b y hy
    exact ⟨f, hf, by rw [hy]; exact h2, _, h3⟩
  next h1 =>
    rw [if_neg h1] at hn
    split
    next h2 => rw [if_pos h2] at hn; cases hn
    next h2 =>
      have hm := choose_mem h2 hss.ok hok
      obtain ⟨y, hy, he⟩ := List.mem_map.1 hm
      obtain ⟨f, hf, h3, _, x, h4, _⟩ := hk.h y hy
      exact ⟨f, hf, h3.trans he, x, h4⟩
theorem next_sim (e : Eo) : drr.Sim e.s (nextS e).2.2 := by
  unfold nextS
  split
  · exact drr.Sim.refl _
  · split
    · exact drr.Sim.choose _ _
    · exact drr.Sim.choose _ _
def afterN (e : Eo) : Eo := ⟨e.frames, e.bytes, e.age, e.most, e.guard, e.credit, e.row, e.L, (nextS e).2.2⟩
def goneE (e : Eo) (f : Ef) (x : que.It) (pv : Value) : Eo := countE ⟨e.frames, e.bytes, e.age, e.most, e.guard, e.credit, e.row, setQ e.L f.id pv ⟨f.q.frames, f.q.most, f.q.L.drop 1, f.q.broken⟩, (nextS e).2.2⟩ x.size f.video
inductive Steps : Eo → List Snt → Eo → Prop
  | nil (e : Eo) : Steps e [] e
  | snoc {e : Eo} {l : List Snt} {e1 : Eo} {f : Ef} {x : que.It} (pv : Value) : Steps e l e1 → (nextS e1).2.1 = true → f ∈ e1.L → f.id = (nextS e1).1 → f.q.L[0]? = some x → x.size ≤ e1.credit → Steps e (l ++ [⟨f.id, x⟩]) (goneE e1 f x pv)
/-- a Run: it ends where nothing waits, or where there is no credit for what is next -/
def Ran (e : Eo) (l : List Snt) (e' : Eo) : Prop := ∃ e1, Steps e l e1 ∧ e' = afterN e1 ∧ ((nextS e1).2.1 = false ∨ ∃ f x, (nextS e1).2.1 = true ∧ f ∈ e1.L ∧ f.id = (nextS e1).1 ∧ f.q.L[0]? = some x ∧ e1.credit < x.size)
/-- how many items wait -/
def Tot (L : List Ef) : Nat := (L.map (fun f => f.q.L.length)).sum
theorem tot_same {L : List Ef} {id : Int} {pv : Value} {q : que.Q} (h : ∀ f ∈ L, f.id ≠ id) : setQ L id pv q = L := by
  unfold setQ
  have : ∀ f ∈ L, (if f.id = id then (⟨f.id, f.fb, f.video, f.qb, pv, q⟩ : Ef) else f) = f := fun f hf => if_neg (h f hf)
  rw [List.map_congr_left this, List.map_id']
theorem tot_set {L : List Ef} (h : Ap L) {f : Ef} (hf : f ∈ L) (pv : Value) (q : que.Q) : Tot (setQ L f.id pv q) + f.q.L.length = Tot L + q.L.length := by
  induction L with
  | nil => cases hf
  | cons g l ih =>
    obtain ⟨h1, h2⟩ := List.pairwise_cons.1 h
    have hs : setQ (g :: l) f.id pv q = (if g.id = f.id then (⟨g.id, g.fb, g.video, g.qb, pv, q⟩ : Ef) else g) :: setQ l f.id pv q := rfl
    rcases List.mem_cons.1 hf with e | hf
    · subst e
      have hl : setQ l f.id pv q = l := tot_same (fun y hy e2 => (h1 y hy).1 e2.symm)
      rw [hs, if_pos rfl, hl]
      unfold Tot
      rw [List.map_cons, List.map_cons, List.sum_cons, List.sum_cons]
      show q.L.length + _ + f.q.L.length = f.q.L.length + _ + q.L.length
      omega
    · have hne : ¬ g.id = f.id := fun e2 => (h1 f hf).1 e2
      have := ih h2 hf
      rw [hs, if_neg hne]
      unfold Tot at this ⊢
      rw [List.map_cons, List.map_cons, List.sum_cons, List.sum_cons]
      omega
theorem setQ_idm (L : List Ef) (id : Int) (pv : Value) (q : que.Q) : (setQ L id pv q).map (·.id) = L.map (·.id) := by
  unfold setQ
  rw [List.map_map]
  refine List.map_congr_left (fun f hf => ?_)
  show (if f.id = id then (⟨f.id, f.fb, f.video, f.qb, pv, q⟩ : Ef) else f).id = f.id
  split <;> rfl
theorem setQ_idS (L : List Ef) (id : Int) (pv : Value) (q : que.Q) : idS (setQ L id pv q) = idS L := by unfold idS; rw [setQ_idm]
theorem count_L (e : Eo) (n : Int) (v : Bool) : (countE e n v).L = e.L := by unfold countE; split <;> rfl
theorem count_row (e : Eo) (n : Int) (v : Bool) (h : 0 ≤ e.row) : 0 ≤ (countE e n v).row ∧ (countE e n v).row ≤ e.row + 1 := by
  unfold countE
  split
  · exact ⟨Int.le_refl _, by show (0 : Int) ≤ _; omega⟩
  · exact ⟨by show 0 ≤ e.row + 1; omega, Int.le_refl _⟩
theorem gone_L (e : Eo) (f : Ef) (x : que.It) (pv : Value) : (goneE e f x pv).L = setQ e.L f.id pv ⟨f.q.frames, f.q.most, f.q.L.drop 1, f.q.broken⟩ := count_L _ _ _
theorem gone_row (e : Eo) (f : Ef) (x : que.It) (pv : Value) (h : 0 ≤ e.row) : 0 ≤ (goneE e f x pv).row ∧ (goneE e f x pv).row ≤ e.row + 1 := count_row _ _ _ h
theorem Lo.count {b : Nat} {A : Ad} {e : Eo} (h : Lo b A e) (n : Int) (v : Bool) : Lo b A (countE e n v) := by
  unfold countE
  split
  · exact h.sim (drr.Sim.take _ _)
  · exact ⟨h.o, h.m, h.s, h.t, h.q, h.g⟩
end Go.Proofs.Ytcppibjllaablaa.egr

/-
  egress.Out: Run.
-/
namespace Go.Proofs.Ytcppibjllaablaa.egr
open Go.RowKit mem Go.Maps
open Go.Proofs.Ytcppibjllaablaa.itr
set_option linter.unusedVariables false

/-! ### a row of yet another type grows -/
theorem own_own {α β : Type} {E : Enc α} {F : Enc β} {w : World} {v u : Value} {l : List α} {m : List β} {T U : TypeId} (h : Owns E T w v l) (k : Owns F U w u m) (hT : T ≠ U) : ∀ g, u.ownBlock = some g → some g ≠ v.ownBlock := by
  rcases k.2 with ⟨rfl, _⟩ | ⟨g, cap, cur, rfl, _, hb, _⟩
  · intro g hg; simp [Value.ownBlock] at hg
  · intro g' hg e
    have : g = g' := by simpa [Value.ownBlock] using hg
    subst this
    exact own_ne h (show Blk w g cur U from hb) hT e.symm
theorem Es.row {w w' : World} {A : Ad} {k : Nat} {e : Eo} (h : Es w A k e) {α : Type} {E : Enc α} {T : TypeId} {v : Value} {l : List α} (ho : Owns E T w v l) (a1 : T ≠ OB) (a2 : T ≠ 108) (a3 : T ≠ 37) (a4 : T ≠ 111) (a5 : T ≠ 115) (a6 : T ≠ GB) (t : Turns (fun i => some i = v.ownBlock) w w') : Es w' A k e := by
  obtain ⟨c, D, hc, hmp, hr⟩ := h.map
  obtain ⟨c2, D2, hc2, hss⟩ := h.sch
  have off : ∀ {r : Nat} {cs : Array Value} {U : TypeId}, Blk w r cs U → T ≠ U → ¬ some r = v.ownBlock := fun hb hT e2 => own_ne ho hb hT e2.symm
  refine ⟨t.blk h.blk (off h.blk a1), ⟨c, D, hc, ownsMap_turns hmp t (fun hk => ownsMap_ne_row hmp ho _ hk.symm rfl), hr⟩, fun f hf => t.blk (h.fb f hf) (off (h.fb f hf) a6), fun f hf => (h.qs f hf).turns t (off (h.qs f hf).blk a2) (own_own ho (h.qs f hf).own a3), ⟨c2, D2, hc2, hss.turns t (off hss.blk a4) (fun hk => ownsMap_ne_row hss.map ho _ hk.symm rfl) (fun f hf => off (hss.fb f hf) a5)⟩, h.ap, h.mm, h.rg, h.cf, h.fq, h.sm, h.vs⟩
theorem Sf.grow {b : Nat} {A : Ad} {w w1 w2 : World} (h : Sf b A w w1) (hb : b ≤ w.heap.size) (t : Turns (fun i => w.heap.size ≤ i) w1 w2) : Sf b A w w2 :=
  ⟨h.t.trans (t.mono (fun i _ hi => .inl (Nat.le_trans hb hi))), fun r cs T hk a1 a2 a3 a4 a5 => by
    have hl := hk.lt
    have hz := h.t.size
    rw [t.block r (by omega) (by omega), h.c r cs T hk a1 a2 a3 a4 a5]⟩
/-- in the loop -/
structure Rx (b : Nat) (w wr : World) (A : Ad) (k : Nat) (e : Eo) (R : Int) (u v : Value) (l : List Snt) (e1 : Eo) : Prop where
  st : Steps e l e1
  es : Es wr A k e1
  lo : Lo b A e1
  sf : Sf b A w wr
  ids : idS e1.L = idS e.L
  ui : Owns IntE 3 wr u (idS e.L)
  ow : Owns SE SeT wr v l
  vb : ∀ g, v.ownBlock = some g → w.heap.size ≤ g
  tot : l.length + Tot e1.L = Tot e.L
  r0 : 0 ≤ e1.row
  r1 : e1.row + Tot e1.L ≤ R
theorem Rx.go {b : Nat} {w wr w6 w9 : World} {A : Ad} {k : Nat} {e : Eo} {R : Int} {u v v9 : Value} {l : List Snt} {e1 : Eo} (h : Rx b w wr A k e R u v l e1) (hb : b ≤ w.heap.size) (hn : (nextS e1).2.1 = true) {f : Ef} (hf : f ∈ e1.L) (hid : f.id = (nextS e1).1) {x : que.It} (hx : f.q.L[0]? = some x) (hcr : x.size ≤ e1.credit) {pv : Value}
    (hes : Es w6 A k (goneE e1 f x pv)) (lo : Lo b A (goneE e1 f x pv)) (sf : Sf b A wr w6) {o : Obj}
    (ho : Owns SE SeT w9 v9 (l ++ [⟨f.id, x⟩])) (hg : (w6.alloc o).grownBy w9 v.ownBlock) (ha : v9.ownBlock = v.ownBlock ∨ v9.ownBlock = some (w6.alloc o).heap.size) : Rx b w w9 A k e R u v9 (l ++ [⟨f.id, x⟩]) (goneE e1 f x pv) := by
  have hov := sf.row h.ow (by decide) (by decide) (by decide) (by decide) (by decide)
  have hoi := sf.row h.ui (by decide) (by decide) (by decide) (by decide) (by decide)
  have ht := Gr.turned hg
  have hsw := h.sf.trans sf
  have hlen : (f.q.L.drop 1).length = f.q.L.length - 1 := List.length_drop
  have h0 : 0 < f.q.L.length := (List.getElem?_eq_some_iff.1 hx).1
  have htot : Tot (goneE e1 f x pv).L + 1 = Tot e1.L := by
    have := tot_set h.es.ap hf pv ⟨f.q.frames, f.q.most, f.q.L.drop 1, f.q.broken⟩
    rw [gone_L]
    simp only at this
    omega
  have hrow := gone_row e1 f x pv h.r0
  have h1 := h.r1
  refine ⟨Steps.snoc pv h.st hn hf hid hx hcr, hes.row hov (by decide) (by decide) (by decide) (by decide) (by decide) (by decide) ht, lo, hsw.grow hb (ht.mono (fun i _ hi => h.vb i hi.symm)), by rw [gone_L, setQ_idS]; exact h.ids, hoi.turns ht (fun g hg e2 => own_own hov hoi (by decide) g hg e2), ho, fun g hg2 => ?_, ?_, hrow.1, by omega⟩
  · rcases ha with e2 | e2
    · exact h.vb g (by rw [← e2]; exact hg2)
    · rw [e2] at hg2
      injection hg2 with hg2
      have := hsw.t.size
      simp at hg2; omega
  · have := h.tot
    rw [List.length_append, List.length_singleton]; omega
set_option maxRecDepth 100000 in
set_option maxHeartbeats 4000000 in
theorem run (b : Nat) (A : Ad) (k : Nat) (e : Eo) (w : World) (h : Es w A k e) (lo : Lo b A e) (hb : b ≤ w.heap.size) (hk : k ≤ 1048576) (hL : e.L.length ≤ 1048576) (hT : Tot e.L ≤ 1048575) (r0 : 0 ≤ e.row) (r1 : e.row ≤ 4611686018427387904) :
    Calls Try.prog 53 #[.pointer (some ⟨A.o, 0, none⟩)] w fun x w' => ∃ v l e', x = .returned v ∧ Ran e l e' ∧ Es w' A k e' ∧ Lo b A e' ∧ Sf b A w w' ∧ Owns SE SeT w' v l ∧ (∀ g, v.ownBlock = some g → w.heap.size ≤ g) ∧ e'.row ≤ e.row + Tot e.L ∧ 0 ≤ e'.row := by
  have HI := Lib.hid (ids A k e w h hk)
  have HH := Lib.hid (And.intro h lo)
  have HRR : Hid (0 ≤ e.row ∧ e.row ≤ 4611686018427387904 ∧ (idS e.L).length ≤ 1048576 ∧ b ≤ w.heap.size) := Lib.hid ⟨r0, r1, by rw [(idS_perm e.L).length_eq, List.length_map]; exact hL, hb⟩
  clear h lo r0 r1 hk hL hb
  go_enter Try.func53, Try.ntmps53
  go_wp2_with fail
  refine HI.out.mono ?_
  rintro x w1 ⟨u, rfl, hu⟩
  have HX0 : Hid (Rx b w w1 A k e (e.row + Tot e.L) u (.slice none 0 0) [] e) := Lib.hid ⟨Steps.nil e, HH.out.1.later hu.n, HH.out.2, Sf.new hu.n, rfl, hu.own, Owns.nil _ _, (fun g hg => by simp [Value.ownBlock] at hg), by simp, HRR.out.1, Int.le_refl _⟩
  clear hu HI
  go_wp2_with fail
  go_loopw [3] (fun v wr => ∃ l e1, Rx b w wr A k e (e.row + Tot e.L) u v l e1) (fun v _ => Tot e.L - que.slen v)
  case atStart => exact ⟨[], e, HX0.out⟩
  case round =>
    obtain ⟨l, e1, hrx⟩ := hrel
    have HX := Lib.hid hrx
    obtain ⟨ao, c, hv, _, _, _⟩ := hrx.ow.form
    subst hv
    have HN := Lib.hid (next A k e1 u wr hrx.es (by rw [hrx.ids]; exact hrx.ui) (by rw [hrx.ids]; exact HRR.out.2.2.1))
    clear hrx HX0
    go_wp2_with fail
    refine HN.out.mono ?_
    rintro x w2 ⟨rfl, hes2, ht2⟩
    have HS2 := Lib.hid (Sf.drr HX.out.es HX.out.lo ht2)
    have HE2 : Hid (Es w2 A k (afterN e1)) := Lib.hid hes2
    have HNF := Lib.hid (fun hn => HX.out.es.next_flow hn)
    clear hes2 ht2 HN
    cases hn : (nextS e1).2.1 with
    | false =>
      have HR : Hid (Ran e l (afterN e1)) := Lib.hid ⟨e1, HX.out.st, rfl, .inl hn⟩
      clear hn
      go_wp2
      go_ret
      have hx := HX.out
      exact ⟨_, l, _, rfl, HR.out, HE2.out, hx.lo.sim (next_sim e1), hx.sf.trans HS2.out, HS2.out.row hx.ow (by decide) (by decide) (by decide) (by decide) (by decide), hx.vb, (by have := hx.r1; show e1.row ≤ _; omega), hx.r0⟩
    | true =>
      obtain ⟨f, hf, hid, x, hx⟩ := HNF.out hn
      rw [← hid]
      have hx2 := HX.out
      have HF := Lib.hid (And.intro hf (And.intro hid (And.intro hx hn)))
      have hes2 := HE2.out
      have c5 := hes2.blk.cell 5
      have hr := hes2.look1 hf
      obtain ⟨⟨f0, f1⟩, _⟩ := drr.two (hes2.fb f hf)
      have HFI := Lib.hid (que.first_cons f.qb f.pv f.q x w2 (hes2.qs f hf) hx)
      have HLT : Hid (f.qb < w2.heap.size ∧ ∀ g, f.pv.ownBlock = some g → g < w2.heap.size) := Lib.hid ⟨(hes2.qs f hf).lt, (hes2.qs f hf).vlt⟩
      have HX3 : Hid (0 ≤ x.size ∧ x.size ≤ e1.most) := Lib.hid ⟨(hes2.qs f hf).ok.pos x (List.mem_of_getElem? hx), (hes2.fq f hf).sz x (List.mem_of_getElem? hx)⟩
      clear hes2 hf hid hx hx2 hn HNF
      obtain ⟨xn, xs, xt, xk⟩ := x
      dsimp only [que.It.v] at HFI HX3
      go_wp2_with fail
      refine HFI.out.mono ?_
      rintro y w3' ⟨rfl, n3⟩
      have n4 : New w2 (w3'.alloc (.cells #[.int .i64 xn, .int .i64 xs, .int .i64 xt, .bool xk] que.PT)) := n3.trans ((Turns.refl _ w3').alloc _)
      have HB3 : Hid (Blk (w3'.alloc (.cells #[.int .i64 xn, .int .i64 xs, .int .i64 xt, .bool xk] que.PT)) w3'.heap.size #[.int .i64 xn, .int .i64 xs, .int .i64 xt, .bool xk] que.PT ∧ w2.heap.size ≤ w3'.heap.size) := Lib.hid ⟨Blk.new _ _ _, n3.size⟩
      have HE3 := Lib.hid (HE2.out.later n4)
      have HN3 := Lib.hid n4
      clear n3 n4 hr c5 f0 f1 HFI
      go_upto_region 8 with fail
      refine (show Code.wp _ _ _ _ (w3'.alloc (.cells #[.int .i64 xn, .int .i64 xs, .int .i64 xt, .bool xk] que.PT)) from ?_)
      generalize w3'.alloc (.cells #[.int .i64 xn, .int .i64 xs, .int .i64 xt, .bool xk] que.PT) = w3 at *
      generalize w3'.heap.size = px at *
      obtain ⟨⟨x0, x1, x2, x3⟩, _⟩ := que.four HB3.out.1
      have c7 := HE3.out.blk.cell 7
      dsimp only [afterN] at c7
      by_cases hcr : e1.credit < xs
      · have d1 : decide (e1.credit < xs) = true := decide_eq_true hcr
        have HR : Hid (Ran e l (afterN e1)) := Lib.hid ⟨e1, HX.out.st, rfl, .inr ⟨f, _, HF.out.2.2.2, HF.out.1, HF.out.2.1, HF.out.2.2.1, hcr⟩⟩
        clear hcr
        go_quiet (fail)
        go_wp2
        go_ret
        have hx := HX.out
        have n5 : New w2 (w3.drewN nq) := HN3.out.drewN _
        exact ⟨_, l, _, rfl, HR.out, HE2.out.later n5, hx.lo.sim (next_sim e1), (hx.sf.trans HS2.out).trans (Sf.new n5), (HS2.out.trans (Sf.new n5)).row hx.ow (by decide) (by decide) (by decide) (by decide) (by decide), hx.vb, (by have := hx.r1; show e1.row ≤ _; omega), hx.r0⟩
      · have d1 : decide (e1.credit < xs) = false := decide_eq_false hcr
        have HCR : Hid (xs ≤ e1.credit) := Lib.hid (by omega)
        clear hcr
        go_quiet (fail)
        clear x0 x1 x2 x3 c7 d1
        have HE4 := Lib.hid (HE3.out.later ((Turns.refl _ w3).drewN nq))
        have HB4 : Hid (Blk (w3.drewN nq) px #[.int .i64 xn, .int .i64 xs, .int .i64 xt, .bool xk] que.PT ∧ w2.heap.size ≤ px) := Lib.hid HB3.out
        have HN4 : Hid (New w2 (w3.drewN nq)) := Lib.hid (HN3.out.drewN _)
        clear HE3 HB3 HN3
        generalize w3.drewN nq = w4 at *
        have c5 := HE4.out.blk.cell 5
        obtain ⟨⟨f0, f1⟩, _⟩ := drr.two (HE4.out.fb f HF.out.1)
        have HPOP := Lib.hid (que.pop_cons f.qb f.pv f.q ⟨xn, xs, xt, xk⟩ w4 (HE4.out.qs f HF.out.1) HF.out.2.2.1)
        go_wp2_with fail
        refine HPOP.out.mono ?_
        rintro y w5 ⟨rfl, hl⟩
        have hoff : ∀ {r : Nat}, r = px → ¬ que.Foot f.qb f.pv r := fun {r} hr hk => by
          have h1 := HLT.out.1
          have h3 := HB4.out.2
          rcases hk with hk | hk
          · omega
          · have := HLT.out.2 r hk; omega
        have HB5 : Hid (Blk w5 px #[.int .i64 xn, .int .i64 xs, .int .i64 xt, .bool xk] que.PT) := Lib.hid (hl.turns.blk HB4.out.1 (hoff rfl))
        have hx1 := HX.out
        have hlo1 : Lo b A (afterN e1) := hx1.lo.sim (next_sim e1)
        have hz4 : b ≤ w4.heap.size := Nat.le_trans HRR.out.2.2.2 (Nat.le_trans hx1.sf.t.size (Nat.le_trans HS2.out.t.size HN4.out.size))
        obtain ⟨pv', hloc, hes5⟩ := HE4.out.queue HF.out.1 (q' := ⟨f.q.frames, f.q.most, f.q.L.drop 1, f.q.broken⟩) hl rfl rfl (fun z hz => (HE4.out.fq f HF.out.1).sz z (List.mem_of_mem_drop hz))
        have hlo5 := hlo1.setQ HF.out.1 hz4 (q' := ⟨f.q.frames, f.q.most, f.q.L.drop 1, f.q.broken⟩) hloc (c := e1.credit) (r := e1.row)
        have HS5 := Lib.hid ((HS2.out.trans (Sf.new HN4.out)).trans (Sf.que HE4.out hlo1 HF.out.1 hl.turns))
        have hfm : (⟨f.id, f.fb, f.video, f.qb, pv', ⟨f.q.frames, f.q.most, f.q.L.drop 1, f.q.broken⟩⟩ : Ef) ∈ setQ e1.L f.id pv' ⟨f.q.frames, f.q.most, f.q.L.drop 1, f.q.broken⟩ := List.mem_map.2 ⟨f, HF.out.1, if_pos rfl⟩
        have hfb5 := hes5.fb _ hfm
        dsimp only [fcells] at hfb5
        have HES5 := Lib.hid hes5
        have HLO5 := Lib.hid hlo5
        have hr1 := hx1.r1
        have hr0 := hx1.r0
        have hrr := HRR.out.2.1
        have HCT := Lib.hid (fun W (n : New w5 W) => count A k _ xs f.video W (hes5.later n) HX3.out.1 HCR.out hr0 (by show e1.row < _; omega))
        have HGE : Hid (goneE e1 f ⟨xn, xs, xt, xk⟩ pv' = countE ⟨(afterN e1).frames, (afterN e1).bytes, (afterN e1).age, (afterN e1).most, (afterN e1).guard, (afterN e1).credit, (afterN e1).row, setQ (afterN e1).L f.id pv' ⟨f.q.frames, f.q.most, f.q.L.drop 1, f.q.broken⟩, (afterN e1).s⟩ xs f.video) := Lib.hid rfl
        clear hl HPOP hoff hx1 hlo1 hz4 hloc hes5 hlo5 hfm c5 f0 f1 hr1 hr0 hrr HE4 HB4 HN4
        obtain ⟨⟨f0, f1⟩, _⟩ := drr.two hfb5
        obtain ⟨⟨x0, x1, x2, x3⟩, _⟩ := que.four HB5.out
        clear hfb5
        have c5 := HES5.out.blk.cell 5
        go_upto_region 11 with fail
        go_region_with (go_at_call 70; (with_reducible refine Calls.mono (HCT.out _ ?_) ?_); (focus (exact (Turns.refl _ _).drew)); rintro y w6 ⟨rfl, hes6, ht6⟩; have HES6 := Lib.hid hes6; have HT6 := Lib.hid (Turns.of_drew ht6); clear hes6 ht6)
        all_goals
          clear x0 x1 x2 x3 f0 f1 c5
          have HB6 := Lib.hid (HT6.out.blk HB5.out (fun hk => by
            rcases hk with hk | hk
            · exact blk_ne HB5.out HES5.out.blk (by decide) hk
            · exact drr_off HES5.out HB5.out (by decide) (by decide) hk))
          have HS6 := Lib.hid (HS5.out.trans (Sf.outdrr HES5.out HLO5.out HT6.out))
          have HOW6 := Lib.hid (HS6.out.row HX.out.ow (by decide) (by decide) (by decide) (by decide) (by decide))
          have hlt := HX.out.tot
          have hle : l.length + 1 ≤ 1048576 := by omega
          obtain ⟨⟨x0, x1, x2, x3⟩, _⟩ := que.four HB6.out
          go_wp2_with (at_builtin; refine wpList_append_one (E := SE) Try.underlying87 infoSe rfl (by decide) (by decide) rfl _ _ rfl _ l ⟨f.id, ⟨xn, xs, xt, xk⟩⟩ rfl (HOW6.out.turns (S := fun _ => False) ((Turns.refl _ _).alloc _) (fun _ _ h => h)) w6.heap.size rfl (heap_alloc_new w6 _) hle ?_; intro v9 w9 hown9 hgrow9 hat9; have HW9 := Lib.hid (And.intro hown9 (And.intro hgrow9 hat9)); clear hown9 hgrow9 hat9)
          go_roundw
          case rel => exact ⟨_, _, HX.out.go (pv := pv') HRR.out.2.2.2 HF.out.2.2.2 HF.out.1 HF.out.2.1 HF.out.2.2.1 HCR.out (by rw [HGE.out]; exact HES6.out) (by rw [HGE.out]; exact HLO5.out.count _ _) HS6.out HW9.out.1 HW9.out.2.1 HW9.out.2.2⟩
          case measure =>
            obtain ⟨a9, c9, e9, _⟩ := HW9.out.1.form
            have hgt : 0 < Tot e1.L := by
              have h0 : 0 < f.q.L.length := (List.getElem?_eq_some_iff.1 HF.out.2.2.1).1
              have h1 := tot_set HX.out.es.ap HF.out.1 f.pv ⟨f.q.frames, f.q.most, [], f.q.broken⟩
              simp only [List.length_nil] at h1
              omega
            rw [e9]
            show Tot e.L - (l ++ [_]).length < Tot e.L - l.length
            rw [List.length_append, List.length_singleton]
            omega
end Go.Proofs.Ytcppibjllaablaa.egr

/-
  egress.Out: a Run as a function, of what an outlet is without its places in memory. Pure.
-/
namespace Go.Proofs.Ytcppibjllaablaa.egr
open Go.RowKit mem Go.Maps
open Go.Proofs.Ytcppibjllaablaa.itr
set_option linter.unusedVariables false

def eB (f : drr.Fl) : drr.Fl := ⟨f.id, 0, f.share, f.left⟩
def eS (s : drr.Sc) : drr.Sc := ⟨s.most, s.L.map eB, s.turn, s.g⟩
theorem eB_upd (L : List drr.Fl) (F G : drr.Fl → Int) (h : ∀ f, F f = G (eB f)) : (drr.upd L F).map eB = drr.upd (L.map eB) G := by
  unfold drr.upd
  rw [List.map_map, List.map_map]
  refine List.map_congr_left (fun f _ => ?_)
  show eB ⟨f.id, f.b, f.share, F f⟩ = ⟨(eB f).id, (eB f).b, (eB f).share, G (eB f)⟩
  rw [h f]; rfl
theorem eB_fnd (L : List drr.Fl) (id : Int) : drr.fnd (L.map eB) id = (drr.fnd L id).map eB := by
  unfold drr.fnd
  rw [List.find?_map]
  rfl
theorem eS_left (s : drr.Sc) (id : Int) : drr.leftOf (eS s) id = drr.leftOf s id := by
  show (match drr.fnd (s.L.map eB) id with | some f => f.left | none => 0) = drr.leftOf s id
  unfold drr.leftOf
  rw [eB_fnd]
  cases drr.fnd s.L id <;> rfl
theorem eS_grant (s : drr.Sc) : eS (drr.grantS s) = drr.grantS (eS s) := by
  unfold drr.grantS
  show eS (if s.g = true then s else _) = if s.g = true then eS s else _
  split
  · rfl
  · show (⟨s.most, (drr.upd s.L _).map eB, s.turn, true⟩ : drr.Sc) = ⟨s.most, drr.upd (s.L.map eB) _, s.turn, true⟩
    exact congrArg (fun L => (⟨s.most, L, s.turn, true⟩ : drr.Sc)) (eB_upd s.L (fun f => if f.id = s.turn then f.left + f.share else f.left) (fun f => if f.id = s.turn then f.left + f.share else f.left) (fun f => rfl))
theorem eS_pass (l : drr.Hs) (s : drr.Sc) : eS (drr.passS l s) = drr.passS l (eS s) := rfl
theorem eS_beg (l : drr.Hs) (s : drr.Sc) : eS (drr.begS l s) = drr.begS l (eS s) := by
  show (⟨s.most, (drr.upd s.L _).map eB, s.turn, s.g⟩ : drr.Sc) = ⟨s.most, drr.upd (s.L.map eB) _, s.turn, s.g⟩
  exact congrArg (fun L => (⟨s.most, L, s.turn, s.g⟩ : drr.Sc)) (eB_upd s.L (drr.forgetF l) (drr.forgetF l) (fun f => rfl))
theorem eS_low (l : drr.Hs) (s : drr.Sc) : drr.lowS l (eS s) = drr.lowS l s := by
  unfold drr.lowS
  rw [← eS_grant, eS_left]
  rfl
theorem eS_run (l : drr.Hs) (s : drr.Sc) : eS (drr.runS l s) = drr.runS l (eS s) := by
  unfold drr.runS
  rw [eS_low]
  split
  · rw [eS_grant, eS_pass, eS_grant]
  · rw [eS_grant]
theorem eS_fir (l : drr.Hs) (s : drr.Sc) : eS (drr.firS l s) = drr.firS l (eS s) := by
  unfold drr.firS
  show eS (if s.turn ∈ drr.ids l then _ else _) = if s.turn ∈ drr.ids l then _ else _
  split
  · exact eS_beg _ _
  · rw [eS_pass, eS_beg]
theorem eS_choose (l : drr.Hs) (s : drr.Sc) : eS (drr.chooseS l s) = drr.chooseS l (eS s) := by
  cases l with
  | nil =>
    show (⟨s.most, (drr.upd s.L _).map eB, s.turn, false⟩ : drr.Sc) = ⟨s.most, drr.upd (s.L.map eB) _, s.turn, false⟩
    exact congrArg (fun L => (⟨s.most, L, s.turn, false⟩ : drr.Sc)) (eB_upd s.L (drr.forgetF []) (drr.forgetF []) (fun f => rfl))
  | cons x t =>
    show eS (drr.runS (x :: t) (drr.firS (x :: t) s)) = drr.runS (x :: t) (drr.firS (x :: t) (eS s))
    rw [eS_run, eS_fir]
theorem eS_take (n : Int) (s : drr.Sc) : eS (drr.takeS n s) = drr.takeS n (eS s) := by
  unfold drr.takeS
  rw [eS_left]
  show eS (if s.g = true ∧ 0 ≤ n ∧ n ≤ drr.leftOf s s.turn then _ else s) = if s.g = true ∧ 0 ≤ n ∧ n ≤ drr.leftOf s s.turn then _ else _
  split
  · show (⟨s.most, (drr.upd s.L _).map eB, s.turn, s.g⟩ : drr.Sc) = ⟨s.most, drr.upd (s.L.map eB) _, s.turn, s.g⟩
    exact congrArg (fun L => (⟨s.most, L, s.turn, s.g⟩ : drr.Sc)) (eB_upd s.L (fun f => if f.id = s.turn then f.left - n else f.left) (fun f => if f.id = s.turn then f.left - n else f.left) (fun f => rfl))
  · rfl

def eF (f : Ef) : Ef := ⟨f.id, 0, f.video, 0, .slice none 0 0, f.q⟩
def eE (e : Eo) : Eo := ⟨e.frames, e.bytes, e.age, e.most, e.guard, e.credit, e.row, e.L.map eF, eS e.s⟩
theorem eF_fnd (L : List Ef) (id : Int) : fnd (L.map eF) id = (fnd L id).map eF := by
  unfold fnd
  rw [List.find?_map]
  rfl
theorem eF_nx (L : List Ef) (l : List Int) : nx (L.map eF) l = nx L l := by
  have h : stepN (L.map eF) = stepN L := by
    funext s id
    unfold stepN
    rw [eF_fnd]
    cases fnd L id <;> rfl
  unfold nx
  rw [h]
theorem eF_setQ (L : List Ef) (id : Int) (pv pv' : Value) (q : que.Q) : (setQ L id pv q).map eF = (setQ (L.map eF) id pv' q).map eF := by
  unfold setQ
  rw [List.map_map, List.map_map, List.map_map]
  refine List.map_congr_left (fun f _ => ?_)
  show eF (if f.id = id then _ else f) = eF (if f.id = id then _ else eF f)
  split <;> rfl
def nextI (ids : List Int) (e : Eo) : Int × Bool × drr.Sc :=
  if (nx e.L ids).b.isSome = true ∧ (e.row < e.guard ∨ (nx e.L ids).H = []) then ((sdef (nx e.L ids).b).id, true, e.s)
  else if (nx e.L ids).H = [] then (0, false, drr.chooseS [] e.s)
  else ((drr.chooseS (nx e.L ids).H e.s).turn, true, drr.chooseS (nx e.L ids).H e.s)
theorem nextI_er (ids : List Int) (e : Eo) : nextI ids (eE e) = ((nextI ids e).1, (nextI ids e).2.1, eS (nextI ids e).2.2) := by
  unfold nextI
  show (if (nx (e.L.map eF) ids).b.isSome = true ∧ (e.row < e.guard ∨ (nx (e.L.map eF) ids).H = []) then ((sdef (nx (e.L.map eF) ids).b).id, true, eS e.s)
  else if (nx (e.L.map eF) ids).H = [] then (0, false, drr.chooseS [] (eS e.s))
  else ((drr.chooseS (nx (e.L.map eF) ids).H (eS e.s)).turn, true, drr.chooseS (nx (e.L.map eF) ids).H (eS e.s))) = _
  rw [eF_nx, ← eS_choose, ← eS_choose]
  split
  · rfl
  · split <;> rfl
def afterI (ids : List Int) (e : Eo) : Eo := ⟨e.frames, e.bytes, e.age, e.most, e.guard, e.credit, e.row, e.L, (nextI ids e).2.2⟩
theorem after_er (ids : List Int) (e : Eo) : afterI ids (eE e) = eE (afterI ids e) := by
  unfold afterI
  rw [nextI_er]; rfl
def goneI (ids : List Int) (e : Eo) (f : Ef) (x : que.It) : Eo := countE ⟨e.frames, e.bytes, e.age, e.most, e.guard, e.credit, e.row, setQ e.L f.id (.slice none 0 0) ⟨f.q.frames, f.q.most, f.q.L.drop 1, f.q.broken⟩, (nextI ids e).2.2⟩ x.size f.video
theorem gone_er (e : Eo) (f : Ef) (x : que.It) (pv : Value) : eE (goneE e f x pv) = eE (goneI (idS e.L) (eE e) (eF f) x) := by
  unfold goneE goneI countE
  rw [nextI_er]
  show eE (if f.video = true then _ else _) = eE (if f.video = true then _ else _)
  have h1 := eF_setQ e.L f.id pv (.slice none 0 0) ⟨f.q.frames, f.q.most, f.q.L.drop 1, f.q.broken⟩
  split
  · unfold eE
    dsimp only
    rw [h1, eS_take, eS_take]
    congr 1
    unfold eS
    dsimp only
    rw [List.map_map]
    congr 1
  · unfold eE
    dsimp only
    rw [h1]
    congr 1
    unfold eS
    dsimp only
    rw [List.map_map]
    congr 1
/-- one item goes -/
def stepR (ids : List Int) (e : Eo) : Option (Snt × Eo) :=
  if (nextI ids e).2.1 = true then
    match fnd e.L (nextI ids e).1 with
    | none => none
    | some f => match f.q.L with
      | [] => none
      | x :: _ => if e.credit < x.size then none else some (⟨f.id, x⟩, eE (goneI ids e f x))
  else none
def runR (ids : List Int) : Nat → Eo → List Snt × Eo
  | 0, e => ([], afterI ids e)
  | n + 1, e => match stepR ids e with
    | none => ([], afterI ids e)
    | some (s, e') => (s :: (runR ids n e').1, (runR ids n e').2)
def Nd (L : List Ef) : Prop := (L.map (·.id)).Pairwise (· ≠ ·)
theorem Ap.nd {L : List Ef} (h : Ap L) : Nd L := List.pairwise_map.2 (h.imp (fun h => h.1))
theorem Nd.fnd {L : List Ef} (h : Nd L) {f : Ef} (hf : f ∈ L) : egr.fnd L f.id = some f := by
  have h2 := List.pairwise_map.1 h
  clear h
  induction L with
  | nil => cases hf
  | cons g l ih =>
    obtain ⟨h3, h4⟩ := List.pairwise_cons.1 h2
    unfold egr.fnd at ih ⊢
    rw [List.find?_cons]
    rcases List.mem_cons.1 hf with e | hf
    · subst e; simp
    · have : (g.id == f.id) = false := by simpa using h3 f hf
      rw [this]
      exact ih hf h4
theorem Steps.nd {e e1 : Eo} {l : List Snt} (h : Steps e l e1) (hn : Nd e.L) : Nd e1.L ∧ idS e1.L = idS e.L := by
  induction h with
  | nil => exact ⟨hn, rfl⟩
  | snoc pv h1 h2 h3 h4 h5 h6 ih =>
    obtain ⟨i1, i2⟩ := ih
    refine ⟨?_, by rw [gone_L, setQ_idS]; exact i2⟩
    unfold Nd at i1 ⊢
    rw [gone_L, setQ_idm]
    exact i1
theorem eE_id (e : Eo) : idS (eE e).L = idS e.L := by
  show idS (e.L.map eF) = _
  unfold idS
  rw [List.map_map]; rfl
theorem stepR_some {e1 : Eo} (hn : Nd e1.L) {f : Ef} {x : que.It} (pv : Value) (h2 : (nextS e1).2.1 = true) (h3 : f ∈ e1.L) (h4 : f.id = (nextS e1).1) (h5 : f.q.L[0]? = some x) (h6 : x.size ≤ e1.credit) : stepR (idS e1.L) (eE e1) = some (⟨f.id, x⟩, eE (goneE e1 f x pv)) := by
  have hs : nextS e1 = nextI (idS e1.L) e1 := rfl
  unfold stepR
  rw [nextI_er, ← hs]
  dsimp only
  rw [if_pos h2, ← h4]
  show (match egr.fnd (e1.L.map eF) f.id with | none => none | some f' => _) = _
  rw [eF_fnd, hn.fnd h3, gone_er e1 f x pv]
  show (match f.q.L with | [] => none | y :: _ => _) = _
  cases hq : f.q.L with
  | nil => rw [hq] at h5; cases h5
  | cons y t =>
    rw [hq] at h5
    obtain rfl : y = x := by simpa using h5
    show (if e1.credit < y.size then none else _) = _
    rw [if_neg (by omega)]
    rfl
theorem stepR_none {e1 : Eo} (hn : Nd e1.L) (h : (nextS e1).2.1 = false ∨ ∃ f x, (nextS e1).2.1 = true ∧ f ∈ e1.L ∧ f.id = (nextS e1).1 ∧ f.q.L[0]? = some x ∧ e1.credit < x.size) : stepR (idS e1.L) (eE e1) = none := by
  have hs : nextS e1 = nextI (idS e1.L) e1 := rfl
  unfold stepR
  rw [nextI_er, ← hs]
  dsimp only
  rcases h with h | ⟨f, x, h2, h3, h4, h5, h6⟩
  · rw [if_neg (by rw [h]; decide)]
  · rw [if_pos h2, ← h4]
    show (match egr.fnd (e1.L.map eF) f.id with | none => none | some f' => _) = _
    rw [eF_fnd, hn.fnd h3]
    show (match f.q.L with | [] => none | y :: _ => _) = _
    cases hq : f.q.L with
    | nil => rfl
    | cons y t =>
      rw [hq] at h5
      obtain rfl : y = x := by simpa using h5
      show (if e1.credit < y.size then none else _) = _
      rw [if_pos h6]
theorem Steps.run {e e1 : Eo} {l : List Snt} (h : Steps e l e1) (hn : Nd e.L) : ∀ m, runR (idS e.L) (l.length + m) (eE e) = (l ++ (runR (idS e.L) m (eE e1)).1, (runR (idS e.L) m (eE e1)).2) := by
  induction h with
  | nil => intro m; simp
  | snoc pv h1 h2 h3 h4 h5 h6 ih =>
    intro m
    obtain ⟨i1, i2⟩ := h1.nd hn
    have hst := stepR_some i1 pv h2 h3 h4 h5 h6
    rw [i2] at hst
    rw [List.length_append, List.length_singleton, Nat.add_assoc, ih (1 + m), Nat.add_comm 1 m]
    show (_ ++ (match stepR _ _ with | none => _ | some (s, e') => _ : List Snt × Eo).1, (match stepR _ _ with | none => _ | some (s, e') => _ : List Snt × Eo).2) = _
    rw [hst]
    simp
/-- a Run is what the function says -/
theorem Ran.run {e e' : Eo} {l : List Snt} (h : Ran e l e') (hn : Nd e.L) (m : Nat) : runR (idS e.L) (l.length + m) (eE e) = (l, eE e') := by
  obtain ⟨e1, h1, rfl, h2⟩ := h
  obtain ⟨i1, i2⟩ := h1.nd hn
  have hst := stepR_none i1 h2
  rw [i2] at hst
  have hs : afterI (idS e.L) (eE e1) = eE (afterN e1) := by rw [after_er, ← i2]; rfl
  rw [h1.run hn]
  cases m with
  | zero =>
    show (l ++ [], afterI (idS e.L) (eE e1)) = _
    rw [List.append_nil, hs]
  | succ m =>
    show (l ++ (match stepR _ _ with | none => _ | some (s, e') => _ : List Snt × Eo).1, (match stepR _ _ with | none => _ | some (s, e') => _ : List Snt × Eo).2) = _
    rw [hst]
    show (l ++ [], afterI (idS e.L) (eE e1)) = _
    rw [List.append_nil, hs]
end Go.Proofs.Ytcppibjllaablaa.egr

/-
  egress.Out: Broken, Break, Waits.
-/
namespace Go.Proofs.Ytcppibjllaablaa.egr
open Go.RowKit mem Go.Maps
set_option linter.unusedVariables false

theorem broken_none (A : Ad) (k : Nat) (e : Eo) (id : Int) (w : World) (h : Es w A k e) (hf : fnd e.L id = none) (n0 : -9223372036854775808 ≤ id) (n1 : id ≤ 9223372036854775807) : Calls Try.prog 34 #[.pointer (some ⟨A.o, 0, none⟩), .int .i64 id] w fun x w' => x = .returned (.bool false) ∧ w' = w := by
  have c5 := h.blk.cell 5
  have hr := h.look_none hf n0 n1
  clear h hf
  go_enter Try.func34, Try.ntmps34
  go_wp2
  go_ret
  exact ⟨rfl, rfl⟩
theorem waits_none (A : Ad) (k : Nat) (e : Eo) (id : Int) (w : World) (h : Es w A k e) (hf : fnd e.L id = none) (n0 : -9223372036854775808 ≤ id) (n1 : id ≤ 9223372036854775807) : Calls Try.prog 29 #[.pointer (some ⟨A.o, 0, none⟩), .int .i64 id] w fun x w' => x = .returned (.tuple #[.int .i64 0, .int .i64 0]) ∧ w' = w := by
  have c5 := h.blk.cell 5
  have hr := h.look_none hf n0 n1
  clear h hf
  go_enter Try.func29, Try.ntmps29
  go_wp2
  go_ret2
  exact ⟨rfl, rfl⟩
theorem break_none (A : Ad) (k : Nat) (e : Eo) (id : Int) (w : World) (h : Es w A k e) (hf : fnd e.L id = none) (n0 : -9223372036854775808 ≤ id) (n1 : id ≤ 9223372036854775807) : Calls Try.prog 79 #[.pointer (some ⟨A.o, 0, none⟩), .int .i64 id] w fun x w' => x = .returned (.slice none 0 0) ∧ w' = w := by
  have c5 := h.blk.cell 5
  have hr := h.look_none hf n0 n1
  clear h hf
  go_enter Try.func79, Try.ntmps79
  go_wp2
  go_ret
  exact ⟨rfl, rfl⟩
/-- what a queue's call that takes items out leaves -/
theorem gone_lft {w w' : World} {p : Nat} {pv v : Value} {q : que.Q} {D : List que.It} (h : que.Gone w w' p pv q v D) : que.Lft w w' p pv q := by
  obtain ⟨pv', h1, h2⟩ := h.qs
  exact ⟨⟨pv', h1, .inl h2⟩, h.turns⟩
def brkQ (q : que.Q) : que.Q := ⟨q.frames, q.most, [], true⟩
set_option maxRecDepth 100000 in
set_option maxHeartbeats 1000000 in
theorem break_some (A : Ad) (k : Nat) (e : Eo) (f : Ef) (w : World) (h : Es w A k e) (hf : f ∈ e.L) :
    Calls Try.prog 79 #[.pointer (some ⟨A.o, 0, none⟩), .int .i64 f.id] w fun z w' => ∃ u pv', z = .returned u ∧ Es w' A k ⟨e.frames, e.bytes, e.age, e.most, e.guard, e.credit, e.row, setQ e.L f.id pv' (brkQ f.q), e.s⟩ ∧ Turns (que.Foot f.qb f.pv) w w' ∧ Owns SE SeT w' u (nam f.id f.q.L) ∧ (∀ g, u.ownBlock = some g → w.heap.size ≤ g) ∧ (pv'.ownBlock = f.pv.ownBlock ∨ ∃ g, pv'.ownBlock = some g ∧ w.heap.size ≤ g) := by
  have c5 := h.blk.cell 5
  have hr := h.look hf
  obtain ⟨⟨f0, f1⟩, _⟩ := drr.two (h.fb f hf)
  have HB := Lib.hid (que.break_ f.qb f.pv f.q w (h.qs f hf))
  have HSM : Hid (f.q.L.length ≤ 1048576) := Lib.hid (by have := (h.qs f hf).small; omega)
  have HH := Lib.hid h
  have HF := Lib.hid hf
  clear h hf
  go_enter Try.func79, Try.ntmps79
  go_wp2_with fail
  refine HB.out.mono ?_
  rintro x w1 ⟨v, rfl, hg⟩
  have HG := Lib.hid hg
  clear hg c5 hr f0 f1 HB
  have HNM := Lib.hid (named f.id v _ w1 HG.out.fr.own HSM.out)
  go_wp2_with fail
  refine HNM.out.mono ?_
  rintro x w2 ⟨u, rfl, hu⟩
  have HU := Lib.hid hu
  clear hu HNM
  go_wp2
  go_ret
  obtain ⟨pv', hloc, hes⟩ := HH.out.queue HF.out (q' := brkQ f.q) (gone_lft HG.out) rfl rfl (fun z hz => by cases hz)
  exact ⟨u, pv', rfl, hes.later HU.out.n, HG.out.turns.trans (HU.out.n.mono (fun _ _ h => h.elim)), HU.out.own, (fun g hg => Nat.le_trans HG.out.turns.size (HU.out.vb g hg)), hloc⟩
set_option maxRecDepth 100000 in
set_option maxHeartbeats 1000000 in
theorem waits_some (A : Ad) (k : Nat) (e : Eo) (f : Ef) (w : World) (h : Es w A k e) (hf : f ∈ e.L) :
    Calls Try.prog 29 #[.pointer (some ⟨A.o, 0, none⟩), .int .i64 f.id] w fun x w' => x = .returned (.tuple #[.int .i64 f.q.L.length, .int .i64 (que.sumL f.q.L)]) ∧ New w w' := by
  have c5 := h.blk.cell 5
  have hr := h.look hf
  obtain ⟨⟨f0, f1⟩, _⟩ := drr.two (h.fb f hf)
  have HQ := Lib.hid (h.qs f hf)
  have HL := Lib.hid (fun W hq => que.len f.qb f.pv f.q W hq)
  have HZ := Lib.hid (fun W hq => que.size f.qb f.pv f.q W hq)
  clear h hf
  go_enter Try.func29, Try.ntmps29
  go_upto_region 4 with fail
  go_quiet ((first
    | (go_at_call 14; exact Calls.quiet_of_same (HL.out _ (HQ.out.drewN _)))
    | (go_at_call 15; exact Calls.quiet_of_same (HZ.out _ (HQ.out.drewN _)))))
  go_wp2
  go_ret2
  exact ⟨rfl, (Turns.refl _ _).drewN _⟩
end Go.Proofs.Ytcppibjllaablaa.egr

/-
  egress.Out: Remove.
-/
namespace Go.Proofs.Ytcppibjllaablaa.egr
open Go.RowKit mem Go.Maps
set_option linter.unusedVariables false

theorem fnd_filter (L : List Ef) (id x : Int) : fnd (L.filter (fun f => f.id != id)) x = if x = id then none else fnd L x := by
  unfold fnd
  rw [List.find?_filter]
  by_cases e : x = id
  · rw [if_pos e]
    refine List.find?_eq_none.2 (fun f _ => ?_)
    by_cases e2 : f.id = id
    · simp [e2]
    · have : ¬ f.id = x := fun e3 => e2 (e3.trans e)
      simp [this]
  · rw [if_neg e]
    congr 1
    funext f
    by_cases e2 : f.id = x
    · have : ¬ x = id := e
      simp [e2, this]
    · simp [e2]
def remE (e : Eo) (id : Int) (s' : drr.Sc) : Eo := ⟨e.frames, e.bytes, e.age, e.most, e.guard, e.credit, e.row, e.L.filter (fun f => f.id != id), s'⟩
theorem Es.rem {w w2 : World} {A : Ad} {k : Nat} {e : Eo} (h : Es w A k e) {f : Ef} (hf : f ∈ e.L) {s' : drr.Sc} {c : Nat} {D : DataW Unit} (hc : c ≤ k) (hmp : w.ownsMap Try.prog 3 drr.ptrE A.mb c D) (hr : Rd D e.L)
    (hm : w2.ownsMap Try.prog 3 drr.ptrE A.mb c (D.del (.int .i64 f.id))) (hs : ∃ c D, c ≤ k ∧ drr.Ss w2 A.sp A.smb c D s') (hvs : ∀ x, (∃ g ∈ s'.L, g.id = x) ↔ (∃ g ∈ e.s.L, g.id = x) ∧ x ≠ f.id) (hmo : s'.most = e.s.most)
    (t : Turns (fun i => i = A.mb ∨ i = A.sp ∨ i = A.smb) w w2) : Es w2 A k (remE e f.id s') := by
  obtain ⟨c2, D2, hc2, hss⟩ := h.sch
  have off : ∀ {r : Nat} {cs : Array Value} {T : TypeId}, Blk w r cs T → T ≠ 111 → ¬ (r = A.mb ∨ r = A.sp ∨ r = A.smb) := fun hb hT hk => by
    rcases hk with e3 | e3 | e3
    · exact ownsMap_ne hmp hb e3.symm
    · exact blk_ne hb hss.blk hT e3
    · exact ownsMap_ne hss.map hb e3.symm
  have offr : ∀ {α : Type} {E : Enc α} {v : Value} {l : List α} {T : TypeId}, Owns E T w v l → T ≠ 111 → ∀ x, v.ownBlock = some x → ¬ (x = A.mb ∨ x = A.sp ∨ x = A.smb) := fun hb hT x hx hk => by
    rcases hk with e3 | e3 | e3
    · exact ownsMap_ne_row hmp hb x hx e3.symm
    · exact own_ne hb hss.blk hT (by rw [hx, e3])
    · exact ownsMap_ne_row hss.map hb x hx e3.symm
  refine ⟨t.blk h.blk (off h.blk (by decide)), ⟨c, _, hc, hm, ⟨fun x => ?_, fun g hg z => ?_⟩⟩, fun g hg => ?_, fun g hg => ?_, hs, h.ap.filter _, h.mm, fun g hg => h.rg g (List.mem_filter.1 hg).1, ⟨h.cf.f0, h.cf.f1, h.cf.b0, h.cf.b1, h.cf.a0, h.cf.a1, h.cf.m0, h.cf.m1, h.cf.g0, h.cf.g1, h.cf.c0, h.cf.c1⟩, fun g hg => ?_, hmo.trans h.sm, fun x => ?_⟩
  · show _ = (fnd (e.L.filter _) x).isSome
    rw [fnd_filter]
    by_cases e3 : x = f.id
    · rw [if_pos e3, e3, has_del_same]; rfl
    · rw [if_neg e3, has_del_other (fun e2 => e3 (by injection e2)), hr.has x]
  · obtain ⟨hg, hne⟩ := List.mem_filter.1 hg
    simp at hne
    rw [atKey_del_other (fun e2 => hne (by injection e2))]
    exact hr.at_ g hg z
  · have hg := (List.mem_filter.1 hg).1
    exact t.blk (h.fb g hg) (off (h.fb g hg) (by decide))
  · have hg := (List.mem_filter.1 hg).1
    exact (h.qs g hg).turns t (off (h.qs g hg).blk (by decide)) (offr (h.qs g hg).own (by decide))
  · have hg := (List.mem_filter.1 hg).1
    exact ⟨(h.fq g hg).fr, (h.fq g hg).mo, (h.fq g hg).sz⟩
  · show (∃ g ∈ s'.L, g.id = x) ↔ ∃ g ∈ e.L.filter (fun y => y.id != f.id), g.id = x ∧ g.video = true
    rw [hvs x, h.vs x]
    constructor
    · rintro ⟨⟨g, hg, hx, hv⟩, hne⟩
      exact ⟨g, List.mem_filter.2 ⟨hg, by simp; omega⟩, hx, hv⟩
    · rintro ⟨g, hg, hx, hv⟩
      obtain ⟨hg, hne⟩ := List.mem_filter.1 hg
      simp at hne
      exact ⟨⟨g, hg, hx, hv⟩, by omega⟩
/-- a queue that is no flow's turns -/
theorem Es.stray {w w' : World} {A : Ad} {k : Nat} {e : Eo} (h : Es w A k e) {f : Ef} (hq : que.Qs w f.qb f.pv f.q) (hap : ∀ g ∈ e.L, Apart g f) (t : Turns (que.Foot f.qb f.pv) w w') : Es w' A k e := by
  obtain ⟨c, D, hc, hmp, hr⟩ := h.map
  obtain ⟨c2, D2, hc2, hss⟩ := h.sch
  have off : ∀ {r : Nat} {cs : Array Value} {T : TypeId}, Blk w r cs T → T ≠ 108 → T ≠ 37 → ¬ que.Foot f.qb f.pv r := fun hb h1 h2 hk => by
    rcases hk with e2 | e2
    · exact blk_ne hb hq.blk h1 e2
    · exact own_ne hq.own hb (fun e3 => h2 e3.symm) e2
  have offm : ∀ {b n : Nat} {D : DataW Unit}, w.ownsMap Try.prog 3 drr.ptrE b n D → ¬ que.Foot f.qb f.pv b := fun hm hk => by
    rcases hk with e2 | e2
    · exact ownsMap_ne hm hq.blk e2
    · exact ownsMap_ne_row hm hq.own _ e2 rfl
  refine ⟨t.blk h.blk (off h.blk (by decide) (by decide)), ⟨c, D, hc, ownsMap_turns hmp t (offm hmp), hr⟩, fun g hg => t.blk (h.fb g hg) (off (h.fb g hg) (by decide) (by decide)), fun g hg => ?_, ⟨c2, D2, hc2, hss.turns t (off hss.blk (by decide) (by decide)) (offm hss.map) (fun g hg => off (hss.fb g hg) (by decide) (by decide))⟩, h.ap, h.mm, h.rg, h.cf, h.fq, h.sm, h.vs⟩
  have hp := hap g hg
  refine (h.qs g hg).turns t (fun hk => ?_) (fun x hx hk => ?_)
  · rcases hk with e3 | e3
    · exact hp.2.2.1 e3
    · exact own_ne hq.own (h.qs g hg).blk (by decide) e3
  · rcases hk with e3 | e3
    · exact own_ne (h.qs g hg).own hq.blk (by decide) (by rw [hx, e3])
    · exact hp.2.2.2 x hx e3
theorem remove_none (A : Ad) (k : Nat) (e : Eo) (id : Int) (w : World) (h : Es w A k e) (hf : fnd e.L id = none) (n0 : -9223372036854775808 ≤ id) (n1 : id ≤ 9223372036854775807) : Calls Try.prog 77 #[.pointer (some ⟨A.o, 0, none⟩), .int .i64 id] w fun x w' => x = .returned (.tuple #[.slice none 0 0, .int .i64 12]) ∧ w' = w := by
  have c5 := h.blk.cell 5
  have hr := h.look_none hf n0 n1
  clear h hf
  go_enter Try.func77, Try.ntmps77
  go_wp2
  go_ret2
  exact ⟨rfl, rfl⟩
theorem sound_vs {w : World} {A : Ad} {k : Nat} {e : Eo} (h : Es w A k e) {f : Ef} (hf : f ∈ e.L) (hv : f.video = false) : ∀ x, (∃ g ∈ e.s.L, g.id = x) ↔ (∃ g ∈ e.s.L, g.id = x) ∧ x ≠ f.id := fun x => by
  constructor
  · rintro ⟨g, hg, rfl⟩
    refine ⟨⟨g, hg, rfl⟩, fun e2 => ?_⟩
    obtain ⟨y, hy, hid, hvy⟩ := (h.vs g.id).1 ⟨g, hg, rfl⟩
    rcases h.ap.two hy hf with e3 | e3
    · rw [e3, hv] at hvy; cases hvy
    · exact e3.1 (hid.trans e2)
  · exact fun h => h.1
theorem pic_vs (s : drr.Sc) (id : Int) : ∀ x, (∃ g ∈ (drr.remS s id).L, g.id = x) ↔ (∃ g ∈ s.L, g.id = x) ∧ x ≠ id := fun x => by
  constructor
  · rintro ⟨g, hg, rfl⟩
    obtain ⟨hg, hne⟩ := List.mem_filter.1 hg
    simp at hne
    exact ⟨⟨g, hg, rfl⟩, hne⟩
  · rintro ⟨⟨g, hg, rfl⟩, hne⟩
    exact ⟨g, List.mem_filter.2 ⟨hg, by simpa using hne⟩, rfl⟩
/-- the schedule without a flow -/
def goS (e : Eo) (f : Ef) : drr.Sc := if f.video = true then drr.remS e.s f.id else e.s
set_option maxRecDepth 100000 in
set_option maxHeartbeats 2000000 in
theorem remove_some (A : Ad) (k : Nat) (e : Eo) (f : Ef) (w : World) (h : Es w A k e) (hf : f ∈ e.L) :
    Calls Try.prog 77 #[.pointer (some ⟨A.o, 0, none⟩), .int .i64 f.id] w fun x w' => ∃ u, x = .returned (.tuple #[u, .int .i64 0]) ∧ Es w' A k (remE e f.id (goS e f)) ∧ Turns (fun i => (i = A.mb ∨ i = A.sp ∨ i = A.smb) ∨ que.Foot f.qb f.pv i) w w' ∧ Owns SE SeT w' u (nam f.id f.q.L) ∧ ∀ g, u.ownBlock = some g → w.heap.size ≤ g := by
  have c5 := h.blk.cell 5
  have hr := h.look hf
  obtain ⟨c, D, hc, hmp, hrd⟩ := h.map
  obtain ⟨c2, D2, hc2, hss⟩ := h.sch
  have hkey := drr.keyI (h.rg f hf).1 (h.rg f hf).2
  have HH := Lib.hid h
  have HF := Lib.hid hf
  have HMP := Lib.hid (And.intro hc (And.intro hmp hrd))
  have HSS := Lib.hid (And.intro hc2 hss)
  have HSM : Hid (f.q.L.length ≤ 1048576) := Lib.hid (by have := (h.qs f hf).small; omega)
  have HAP : Hid (∀ g ∈ e.L.filter (fun y => y.id != f.id), Apart g f) := Lib.hid (fun g hg => by
    obtain ⟨hg, hne⟩ := List.mem_filter.1 hg
    simp at hne
    rcases HH.out.ap.two hg HF.out with e3 | e3
    · exact absurd (by rw [e3]) hne
    · exact e3)
  clear h hf hmp hrd hss hc hc2
  go_enter Try.func77, Try.ntmps77
  go_upto_region 5 with (at_delete; refine wpList_delete_own _ rfl _ _ 138 3 rfl 136 drr.lawI Try.underlying138 drr.ptrE A.mb c D rfl HMP.out.2.1 _ _ rfl hkey ?_; intro wm hownm hturn; have HM := Lib.hid hownm; have HG := Lib.hid hturn.grown; clear hownm hturn)
  have t1 : Turns (· = A.mb) w wm := (Turns.of_grown HG.out).mono (fun k _ hk => by injection hk)
  have HT1 := Lib.hid t1
  have off : ∀ {r : Nat} {cs : Array Value} {T : TypeId}, Blk w r cs T → ¬ r = A.mb := fun hb e3 => ownsMap_ne HMP.out.2.1 hb e3.symm
  have hbm := t1.blk HH.out.blk (off HH.out.blk)
  have hfm := t1.blk (HH.out.fb f HF.out) (off (HH.out.fb f HF.out))
  have hqm := (HH.out.qs f HF.out).turns t1 (off (HH.out.qs f HF.out).blk) (fun g hg e3 => ownsMap_ne_row HMP.out.2.1 (HH.out.qs f HF.out).own g hg e3.symm)
  have hsm := HSS.out.2.turns t1 (off HSS.out.2.blk) (fun e3 => HH.out.mm e3.symm) (fun g hg => off (HSS.out.2.fb g hg))
  have HFM := Lib.hid hfm
  have HQM := Lib.hid hqm
  have HSM2 := Lib.hid hsm
  obtain ⟨⟨b0, b1, b2, b3, b4, b5, b6, b7, b8⟩, _⟩ := nine hbm
  obtain ⟨⟨f0, f1⟩, _⟩ := drr.two hfm
  clear hbm hfm hqm hsm c5 hr t1 off hkey
  cases hv : f.video with
  | false =>
    rw [hv] at f1
    have HGS : Hid (goS e f = e.s) := Lib.hid (if_neg (by rw [hv]; decide))
    have HES2 : Hid (Es wm A k (remE e f.id e.s)) := Lib.hid (HH.out.rem HF.out HMP.out.1 HMP.out.2.1 HMP.out.2.2 HM.out ⟨c2, D2, HSS.out.1, HSM2.out⟩ (sound_vs HH.out HF.out hv) rfl (HT1.out.mono (fun i _ hi => .inl hi)))
    have HT2 : Hid (Turns (fun i => (i = A.mb ∨ i = A.sp ∨ i = A.smb) ∨ que.Foot f.qb f.pv i) w wm) := Lib.hid (HT1.out.mono (fun i _ hi => .inl (.inl hi)))
    have HQ2 := HQM
    clear hv
    have HB := Lib.hid (que.break_ f.qb f.pv f.q wm HQ2.out)
    go_wp2_with fail
    refine HB.out.mono ?_
    rintro x w3 ⟨v, rfl, hg⟩
    have HG := Lib.hid hg
    clear hg HB
    have HNM := Lib.hid (named f.id v _ w3 HG.out.fr.own HSM.out)
    go_wp2_with fail
    refine HNM.out.mono ?_
    rintro x w4 ⟨u, rfl, hu⟩
    have HU := Lib.hid hu
    clear hu HNM
    go_wp2
    go_ret2
    have hes := (HES2.out.stray HQ2.out HAP.out HG.out.turns).later HU.out.n
    have t3 := HT2.out.trans (HG.out.turns.mono (S' := fun i => ((i = A.mb ∨ i = A.sp ∨ i = A.smb) ∨ que.Foot f.qb f.pv i) ∨ w.heap.size ≤ i) (fun i _ hi => .inl (.inr hi)))
    rw [HGS.out]
    exact ⟨u, rfl, hes, t3.trans (HU.out.n.mono (fun _ _ h => h.elim)), HU.out.own, fun g hg => Nat.le_trans t3.size (HU.out.vb g hg)⟩
  | true =>
    rw [hv] at f1
    have HGS : Hid (goS e f = drr.remS e.s f.id) := Lib.hid (if_pos hv)
    obtain ⟨f2, hf2, hid2⟩ := (HH.out.vs f.id).2 ⟨f, HF.out, rfl, hv⟩
    have HRM := Lib.hid (drr.remove_ok A.sp A.smb c2 D2 e.s f2 wm HSM2.out hf2)
    rw [hid2] at HRM
    clear hv hf2 hid2
    go_wp2_with fail
    refine HRM.out.mono ?_
    rintro x w2 ⟨rfl, hs2, ht2⟩
    have HTT : Hid (Turns (fun i => i = A.mb ∨ i = A.sp ∨ i = A.smb) w w2) := Lib.hid ((HT1.out.mono (fun i _ hi => .inl hi)).trans (ht2.mono (fun i _ hi => .inl (.inr hi))))
    have HES2 : Hid (Es w2 A k (remE e f.id (drr.remS e.s f.id))) := Lib.hid (HH.out.rem HF.out HMP.out.1 HMP.out.2.1 HMP.out.2.2 (ownsMap_turns HM.out ht2 (fun e3 => by
      rcases e3 with e3 | e3
      · exact ownsMap_ne HMP.out.2.1 HSS.out.2.blk e3
      · exact HH.out.mm e3)) ⟨c2, _, HSS.out.1, hs2⟩ (pic_vs _ _) rfl HTT.out)
    have off2 : ∀ {r : Nat} {cs : Array Value} {T : TypeId}, Blk wm r cs T → T ≠ 111 → ¬ (r = A.sp ∨ r = A.smb) := fun hb hT hk => by
      rcases hk with e3 | e3
      · exact blk_ne hb HSM2.out.blk hT e3
      · exact ownsMap_ne HSM2.out.map hb e3.symm
    have hfb2 := ht2.blk HFM.out (off2 HFM.out (by decide))
    have HQ2 := Lib.hid (HQM.out.turns ht2 (off2 HQM.out.blk (by decide)) (fun g hg e3 => by
      rcases e3 with e3 | e3
      · exact own_ne HQM.out.own HSM2.out.blk (by decide) (by rw [hg, e3])
      · exact ownsMap_ne_row HSM2.out.map HQM.out.own g hg e3.symm))
    have HT2 : Hid (Turns (fun i => (i = A.mb ∨ i = A.sp ∨ i = A.smb) ∨ que.Foot f.qb f.pv i) w w2) := Lib.hid (HTT.out.mono (fun i _ hi => .inl hi))
    clear hs2 ht2 off2 HRM b0 b1 b2 b3 b4 b5 b6 b7 b8 f0 f1
    obtain ⟨⟨f0, f1⟩, _⟩ := drr.two hfb2
    clear hfb2
    have HB := Lib.hid (que.break_ f.qb f.pv f.q w2 HQ2.out)
    go_wp2_with fail
    refine HB.out.mono ?_
    rintro x w3 ⟨v, rfl, hg⟩
    have HG := Lib.hid hg
    clear hg HB
    have HNM := Lib.hid (named f.id v _ w3 HG.out.fr.own HSM.out)
    go_wp2_with fail
    refine HNM.out.mono ?_
    rintro x w4 ⟨u, rfl, hu⟩
    have HU := Lib.hid hu
    clear hu HNM
    go_wp2
    go_ret2
    have hes := (HES2.out.stray HQ2.out HAP.out HG.out.turns).later HU.out.n
    have t3 := HT2.out.trans (HG.out.turns.mono (S' := fun i => ((i = A.mb ∨ i = A.sp ∨ i = A.smb) ∨ que.Foot f.qb f.pv i) ∨ w.heap.size ≤ i) (fun i _ hi => .inl (.inr hi)))
    rw [HGS.out]
    exact ⟨u, rfl, hes, t3.trans (HU.out.n.mono (fun _ _ h => h.elim)), HU.out.own, fun g hg => Nat.le_trans t3.size (HU.out.vb g hg)⟩
end Go.Proofs.Ytcppibjllaablaa.egr

/-
  Layer 20's laws: an outlet made since a world; awake.
-/
namespace Go.Proofs.Ytcppibjllaablaa.egr
open Go.RowKit mem Go.Maps
open Go.Proofs.Ytcppibjllaablaa.itr
set_option linter.unusedVariables false

/-- an outlet that lies at b or behind it -/
structure Ru (b : Nat) (w wr : World) (A : Ad) (k : Nat) (e : Eo) : Prop where
  es : Es wr A k e
  lo : Lo b A e
  sf : Sf b A w wr
section
variable {b : Nat} {w wr w2 : World} {A : Ad} {k : Nat} {e : Eo}
theorem Ru.base (h : Ru b w wr A k e) : b ≤ wr.heap.size := Nat.le_trans h.lo.o (Nat.le_of_lt h.es.blk.lt)
theorem Ru.later (h : Ru b w wr A k e) (n : New wr w2) : Ru b w w2 A k e := ⟨h.es.later n, h.lo, h.sf.trans (Sf.new n)⟩
theorem Ru.more (h : Ru b w wr A k e) {k' : Nat} (hk : k ≤ k') : Ru b w wr A k' e := ⟨h.es.more hk, h.lo, h.sf⟩
theorem Made.ru {w w1 : World} (h : Made w w1 A k e) : Ru w.heap.size w w1 A k e := ⟨h.es, h.lo, Sf.new h.n⟩
theorem Ru.add (h : Ru b w wr A k e) {k' : Nat} {f : Ef} {s' : drr.Sc} (hes : Es w2 A k' (addE e f s')) (t : Turns (fun i => i = A.mb ∨ i = A.smb) wr w2) (hq : wr.heap.size ≤ f.qb) (hp : f.pv = .slice none 0 0) (hs : ∀ g ∈ s'.L, g ∈ e.s.L ∨ wr.heap.size ≤ g.b) : Ru b w w2 A k' (addE e f s') := by
  have hb := h.base
  refine ⟨hes, ⟨h.lo.o, h.lo.m, h.lo.s, h.lo.t, fun g hg => ?_, fun g hg => ?_⟩, h.sf.trans (Sf.maps h.es h.lo t)⟩
  · rcases List.mem_append.1 hg with hg | hg
    · exact h.lo.q g hg
    · simp at hg; subst hg
      exact ⟨by omega, fun x hx => by rw [hp] at hx; simp [Value.ownBlock] at hx⟩
  · rcases hs g hg with hg | hg
    · exact h.lo.g g hg
    · omega
theorem Ru.put (h : Ru b w wr A k e) {f : Ef} (hf : f ∈ e.L) {pv' : Value} {q' : que.Q} (hes : Es w2 A k ⟨e.frames, e.bytes, e.age, e.most, e.guard, e.credit, e.row, setQ e.L f.id pv' q', e.s⟩) (t : Turns (que.Foot f.qb f.pv) wr w2) (hl : pv'.ownBlock = f.pv.ownBlock ∨ ∃ g, pv'.ownBlock = some g ∧ wr.heap.size ≤ g) : Ru b w w2 A k ⟨e.frames, e.bytes, e.age, e.most, e.guard, e.credit, e.row, setQ e.L f.id pv' q', e.s⟩ :=
  ⟨hes, h.lo.setQ hf h.base hl, h.sf.trans (Sf.que h.es h.lo hf t)⟩
theorem Ru.grant (h : Ru b w wr A k e) {c : Int} (hes : Es w2 A k ⟨e.frames, e.bytes, e.age, e.most, e.guard, c, e.row, e.L, e.s⟩) (t : Turns (· = A.o) wr w2) : Ru b w w2 A k ⟨e.frames, e.bytes, e.age, e.most, e.guard, c, e.row, e.L, e.s⟩ :=
  ⟨hes, ⟨h.lo.o, h.lo.m, h.lo.s, h.lo.t, h.lo.q, h.lo.g⟩, h.sf.trans (Sf.out h.es h.lo t)⟩
end

/-! ### awake -/
def qS : Nat → que.Q
  | 0 => que.fresh 9 99
  | n + 1 => que.putQ (qS n) ⟨(n : Int), 1, 0, true⟩
def eA (fb1 qb1 fb2 qb2 sb j : Nat) (pv pv2 : Value) (q2 : que.Q) (c : Int) : Eo := ⟨9, 99, 9, 9, 2, c, 0, [⟨1, fb1, false, qb1, pv, qS j⟩, ⟨2, fb2, true, qb2, pv2, q2⟩], drr.addS (drr.fresh 9) 2 sb 9⟩
def q2A : que.Q := que.putQ (que.fresh 9 99) ⟨9, 5, 0, true⟩
def l4 : List Snt := [⟨1, ⟨0, 1, 0, true⟩⟩, ⟨1, ⟨1, 1, 0, true⟩⟩, ⟨2, ⟨9, 5, 0, true⟩⟩, ⟨1, ⟨2, 1, 0, true⟩⟩]
theorem run_l (n : Nat) : (runR [1, 2] (n + 5) (eE (eA 0 0 0 0 0 3 (.slice none 0 0) (.slice none 0 0) q2A 100))).1 = l4 := by kernel_rfl
theorem run_c (n : Nat) : (runR [1, 2] (n + 5) (eE (eA 0 0 0 0 0 3 (.slice none 0 0) (.slice none 0 0) q2A 100))).2.credit = 92 := by kernel_rfl
theorem ids12 {fb1 qb1 fb2 qb2 sb j : Nat} {pv pv2 : Value} {q2 : que.Q} {c : Int} : idS (eA fb1 qb1 fb2 qb2 sb j pv pv2 q2 c).L = [1, 2] := by
  show ([1, 2] : List Int).mergeSort (fun x y => decide (x ≤ y)) = [1, 2]
  exact sorted_is (List.Perm.refl _) (by decide)
theorem ran4 {fb1 qb1 fb2 qb2 sb : Nat} {pv pv2 : Value} {l : List Snt} {e' : Eo} (h : Ran (eA fb1 qb1 fb2 qb2 sb 3 pv pv2 q2A 100) l e') (hn : Nd (eA fb1 qb1 fb2 qb2 sb 3 pv pv2 q2A 100).L) : l = l4 ∧ e'.credit = 92 := by
  have h1 := h.run hn 5
  rw [ids12] at h1
  have h2 := run_l l.length
  have h3 := run_c l.length
  have e : eE (eA fb1 qb1 fb2 qb2 sb 3 pv pv2 q2A 100) = eE (eA 0 0 0 0 0 3 (.slice none 0 0) (.slice none 0 0) q2A 100) := rfl
  rw [e] at h1
  rw [h1] at h2 h3
  exact ⟨h2, h3⟩
theorem tot4 (fb1 qb1 fb2 qb2 sb : Nat) (pv pv2 : Value) (c : Int) : Tot (eA fb1 qb1 fb2 qb2 sb 3 pv pv2 q2A c).L ≤ 1048575 := by
  have : Tot (eA fb1 qb1 fb2 qb2 sb 3 pv pv2 q2A c).L = 4 := by kernel_rfl
  omega
theorem fnd_A {fb qb : Nat} {v : Bool} {pv : Value} {q : que.Q} : fnd [⟨1, fb, v, qb, pv, q⟩] 2 = none := rfl
set_option maxRecDepth 100000 in
set_option maxHeartbeats 4000000 in
theorem awake (w : World) : Calls Try.prog 26 #[] w fun x w' => x = .returned (.bool true) ∧ New w w' := by
  have HN := Lib.hid (new_ok 9 99 9 9 2 w ⟨⟨by omega, by omega⟩, ⟨by omega, by omega⟩, ⟨by omega, by omega⟩, ⟨by omega, by omega⟩, by omega, by omega⟩)
  go_enter Try.func26, Try.ntmps26
  go_wp2_with fail
  refine HN.out.mono ?_
  rintro x w1 ⟨A, rfl, hm⟩
  have HR1 := Lib.hid hm.ru
  clear hm HN
  have HA1 := Lib.hid (add_sound A 0 _ 1 0 w1 HR1.out.es (by omega) (by omega) rfl (by omega))
  go_wp2_with fail
  refine HA1.out.mono ?_
  rintro x w2 ⟨rfl, fb1, qb1, hf1, hq1, hes2, ht2⟩
  have HR2 := Lib.hid (HR1.out.add hes2 ht2 hq1 rfl (fun g hg => .inl hg))
  clear hf1 hq1 hes2 ht2 HA1 HR1
  have HA2 := Lib.hid (add_video A 1 _ 2 9 w2 HR2.out.es (by omega) (by omega) fnd_A (by omega) (Int.le_refl _) (by omega))
  go_wp2_with fail
  refine HA2.out.mono ?_
  rintro x w3 ⟨rfl, fb2, qb2, sb, hf2, hq2, hsb, hes3, ht3⟩
  have HR3 : Hid (Ru w.heap.size w w3 A 2 (eA fb1 qb1 fb2 qb2 sb 0 (.slice none 0 0) (.slice none 0 0) (que.fresh 9 99) 0)) := Lib.hid (HR2.out.add hes3 ht3 hq2 rfl (fun g hg => by
    rcases List.mem_append.1 hg with hg | hg
    · exact .inl hg
    · simp at hg; subst hg
      exact .inr hsb))
  clear hf2 hq2 hsb hes3 ht3 HA2 HR2
  go_wp2_with fail
  go_loopw [26] (fun i wr => ∃ j : Nat, j ≤ 3 ∧ i = .int .i64 j ∧ ∃ pv, Ru w.heap.size w wr A 2 (eA fb1 qb1 fb2 qb2 sb j pv (.slice none 0 0) (que.fresh 9 99) 0)) (fun i _ => 3 - (intOf i).toNat)
  case atStart => exact ⟨0, by omega, rfl, _, HR3.out⟩
  case round =>
    obtain ⟨j, hj, rfl, pv, hru⟩ := hrel
    have HR := Lib.hid hru
    clear hru HR3
    by_cases hlt : j < 3
    · have HP := Lib.hid (put_some A 2 _ ⟨1, fb1, false, qb1, pv, qS j⟩ ⟨(j : Int), 1, 0, false⟩ wr HR.out.es List.mem_cons_self (by show (1 : Int) ≤ 9; omega) (by show -9223372036854775808 ≤ (1 : Int); omega))
      dsimp only [que.It.v] at HP
      go_wp2_with fail
      refine HP.out.mono ?_
      rintro x w5 ⟨u, pv', rfl, hes, ht, _, _, hloc⟩
      have HR5 : Hid (Ru w.heap.size w w5 A 2 (eA fb1 qb1 fb2 qb2 sb (j + 1) pv' (.slice none 0 0) (que.fresh 9 99) 0)) := Lib.hid (HR.out.put List.mem_cons_self hes ht hloc)
      clear hes ht hloc HP HR
      go_wp2_with fail
      go_roundw
      case rel => exact ⟨j + 1, by omega, by go_num, pv', HR5.out⟩
      case measure => simp [intOf]; omega
    · obtain rfl : j = 3 := by omega
      clear hlt hj
      have HP := Lib.hid (put_some A 2 _ ⟨2, fb2, true, qb2, .slice none 0 0, que.fresh 9 99⟩ ⟨9, 5, 0, true⟩ wr HR.out.es (List.mem_cons_of_mem _ List.mem_cons_self) (by show (5 : Int) ≤ 9; omega) (by show -9223372036854775808 ≤ (5 : Int); omega))
      dsimp only [que.It.v] at HP
      go_wp2_with fail
      refine HP.out.mono ?_
      rintro x w5 ⟨u, pv2, rfl, hes, ht, _, _, hloc⟩
      have HR5 : Hid (Ru w.heap.size w w5 A 2 (eA fb1 qb1 fb2 qb2 sb 3 pv pv2 q2A 0)) := Lib.hid (HR.out.put (List.mem_cons_of_mem _ List.mem_cons_self) hes ht hloc)
      clear hes ht hloc HP HR
      have HG := Lib.hid (grant A 2 _ 100 w5 HR5.out.es (by omega) (by omega))
      go_wp2_with fail
      refine HG.out.mono ?_
      rintro x w6 ⟨rfl, hes, ht⟩
      have HR6 : Hid (Ru w.heap.size w w6 A 2 (eA fb1 qb1 fb2 qb2 sb 3 pv pv2 q2A 100)) := Lib.hid (HR5.out.grant hes ht)
      clear hes ht HG HR5
      have HRU := Lib.hid (run w.heap.size A 2 _ w6 HR6.out.es HR6.out.lo HR6.out.base (by omega) (by show 2 ≤ 1048576; omega) (tot4 _ _ _ _ _ _ _ _) (Int.le_refl _) (by show (0 : Int) ≤ _; omega))
      go_wp2_with fail
      refine HRU.out.mono ?_
      rintro x w7 ⟨v, l, e', rfl, hran, hes, hlo, hsf, how, hvb, _, _⟩
      obtain ⟨rfl, hcr⟩ := ran4 hran HR6.out.es.ap.nd
      obtain ⟨ao, c, rfl, hc, hrd, _⟩ := how.form
      obtain ⟨g, rfl, hgl, hcell⟩ := hrd.resolve_left (fun e => by cases e)
      have z0 : w7.cell? ⟨g, 0, none⟩ = _ := hcell 0 _ rfl 0 _ rfl
      have z1 : w7.cell? ⟨g, 5, none⟩ = _ := hcell 1 _ rfl 0 _ rfl
      have z2 : w7.cell? ⟨g, 10, none⟩ = _ := hcell 2 _ rfl 0 _ rfl
      have z3 : w7.cell? ⟨g, 15, none⟩ = _ := hcell 3 _ rfl 0 _ rfl
      have HCC := Lib.hid (credit A 2 e' w7 hes)
      rw [hcr] at HCC
      have HSF := Lib.hid (HR6.out.sf.trans hsf)
      clear hran hes hlo hsf how hvb hcr hrd hcell HRU HR6
      go_wp2_with fail
      refine HCC.out.mono ?_
      rintro x w8 ⟨rfl, rfl⟩
      go_wp2
      go_ret
      exact ⟨rfl, HSF.out.t.mono (fun i hi h => by omega)⟩
end Go.Proofs.Ytcppibjllaablaa.egr

/-
  Two outlets with the same flows by number (Rq): each call keeps that. Pure. (The document's outlet is one whose flows lie by rising numbers.)
-/
namespace Go.Proofs.Ytcppibjllaablaa.drr
open Go.RowKit mem
set_option linter.unusedVariables false

def key (f : Fl) : Int × Int := (f.share, f.left)
def Eqv (L M : List Fl) : Prop := ∀ id, (fnd L id).map key = (fnd M id).map key
structure Re (s r : Sc) : Prop where
  most : s.most = r.most
  turn : s.turn = r.turn
  g : s.g = r.g
  fl : Eqv s.L r.L
theorem Eqv.cases {L M : List Fl} (h : Eqv L M) (id : Int) : (fnd L id = none ∧ fnd M id = none) ∨ ∃ f g, fnd L id = some f ∧ fnd M id = some g ∧ f.share = g.share ∧ f.left = g.left := by
  have h1 := h id
  cases hL : fnd L id with
  | none => cases hM : fnd M id with
    | none => exact .inl ⟨rfl, rfl⟩
    | some g => rw [hL, hM] at h1; cases h1
  | some f => cases hM : fnd M id with
    | none => rw [hL, hM] at h1; cases h1
    | some g =>
      rw [hL, hM] at h1
      have h2 : key f = key g := by simpa using h1
      unfold key at h2
      injection h2 with h3 h4
      exact .inr ⟨f, g, rfl, rfl, h3, h4⟩
theorem Re.left {s r : Sc} (h : Re s r) (id : Int) : leftOf s id = leftOf r id := by
  unfold leftOf
  rcases h.fl.cases id with ⟨e1, e2⟩ | ⟨f, g, e1, e2, _, e4⟩
  · rw [e1, e2]
  · rw [e1, e2]; exact e4
theorem Eqv.upd {L M : List Fl} (h : Eqv L M) {F : Fl → Int} (hF : ∀ f g : Fl, f.id = g.id → f.share = g.share → f.left = g.left → F f = F g) : Eqv (drr.upd L F) (drr.upd M F) := by
  intro id
  rw [fnd_upd, fnd_upd]
  rcases h.cases id with ⟨e1, e2⟩ | ⟨f, g, e1, e2, e3, e4⟩
  · rw [e1, e2]
  · rw [e1, e2]
    show some (f.share, F f) = some (g.share, F g)
    rw [hF f g ((fnd_some e1).2.trans (fnd_some e2).2.symm) e3 e4, e3]
theorem Re.grant {s r : Sc} (h : Re s r) : Re (grantS s) (grantS r) := by
  unfold grantS
  rw [h.g]
  split
  · exact h
  · refine ⟨h.most, h.turn, rfl, ?_⟩
    show Eqv (drr.upd s.L _) (drr.upd r.L _)
    rw [h.turn]
    exact h.fl.upd (fun f g e1 e2 e3 => by simp only [e1, e2, e3])
theorem Re.pass {s r : Sc} (h : Re s r) (l : Hs) : Re (passS l s) (passS l r) := ⟨h.most, by show nextId _ s.turn = nextId _ r.turn; rw [h.turn], rfl, h.fl⟩
theorem Re.beg {s r : Sc} (h : Re s r) (l : Hs) : Re (begS l s) (begS l r) := ⟨h.most, h.turn, h.g, h.fl.upd (fun f g e1 _ e3 => by unfold forgetF; rw [e1, e3])⟩
theorem Re.fir {s r : Sc} (h : Re s r) (l : Hs) : Re (firS l s) (firS l r) := by
  unfold firS
  rw [h.turn]
  split
  · exact h.beg l
  · exact (h.beg l).pass l
theorem Re.low {s r : Sc} (h : Re s r) (l : Hs) : lowS l s = lowS l r := by
  unfold lowS
  rw [h.grant.left, h.turn]
theorem Re.run {s r : Sc} (h : Re s r) (l : Hs) : Re (runS l s) (runS l r) := by
  unfold runS
  rw [h.low l]
  split
  · exact (h.grant.pass l).grant
  · exact h.grant
theorem Re.choose {s r : Sc} (h : Re s r) (l : Hs) : Re (chooseS l s) (chooseS l r) := by
  cases l with
  | nil => exact ⟨h.most, h.turn, rfl, h.fl.upd (fun f g e1 _ e3 => by unfold forgetF; rw [e1, e3])⟩
  | cons x t => exact (h.fir _).run _
theorem Re.take {s r : Sc} (h : Re s r) (n : Int) : Re (takeS n s) (takeS n r) := by
  unfold takeS
  rw [h.g, h.turn, h.left]
  split
  · refine ⟨h.most, rfl, rfl, ?_⟩
    exact h.fl.upd (fun f g e1 e2 e3 => by simp only [e1, e3])
  · exact h
theorem Re.refl (s : Sc) : Re s s := ⟨rfl, rfl, rfl, fun _ => rfl⟩
theorem Re.trans {s r t : Sc} (h : Re s r) (k : Re r t) : Re s t := ⟨h.most.trans k.most, h.turn.trans k.turn, h.g.trans k.g, fun id => (h.fl id).trans (k.fl id)⟩
theorem Re.symm {s r : Sc} (h : Re s r) : Re r s := ⟨h.most.symm, h.turn.symm, h.g.symm, fun id => (h.fl id).symm⟩
theorem Re.eS (s : Sc) : Re (egr.eS s) s := ⟨rfl, rfl, rfl, fun id => by
  show (fnd (s.L.map egr.eB) id).map key = _
  rw [egr.eB_fnd, Option.map_map]
  rfl⟩
end Go.Proofs.Ytcppibjllaablaa.drr

namespace Go.Proofs.Ytcppibjllaablaa.egr
open Go.RowKit mem
open Go.Proofs.Ytcppibjllaablaa.itr
set_option linter.unusedVariables false

def key (f : Ef) : Bool × que.Q := (f.video, f.q)
def Eqv (L M : List Ef) : Prop := ∀ id, (fnd L id).map key = (fnd M id).map key
structure Rq (e r : Eo) : Prop where
  frames : e.frames = r.frames
  bytes : e.bytes = r.bytes
  age : e.age = r.age
  most : e.most = r.most
  guard : e.guard = r.guard
  credit : e.credit = r.credit
  row : e.row = r.row
  fl : Eqv e.L r.L
  s : drr.Re e.s r.s
theorem Eqv.cases {L M : List Ef} (h : Eqv L M) (id : Int) : (fnd L id = none ∧ fnd M id = none) ∨ ∃ f g, fnd L id = some f ∧ fnd M id = some g ∧ f.video = g.video ∧ f.q = g.q := by
  have h1 := h id
  cases hL : fnd L id with
  | none => cases hM : fnd M id with
    | none => exact .inl ⟨rfl, rfl⟩
    | some g => rw [hL, hM] at h1; cases h1
  | some f => cases hM : fnd M id with
    | none => rw [hL, hM] at h1; cases h1
    | some g =>
      rw [hL, hM] at h1
      have h2 : key f = key g := by simpa using h1
      unfold key at h2
      injection h2 with h3 h4
      exact .inr ⟨f, g, rfl, rfl, h3, h4⟩
theorem Eqv.refl (L : List Ef) : Eqv L L := fun _ => rfl
theorem Eqv.symm {L M : List Ef} (h : Eqv L M) : Eqv M L := fun id => (h id).symm
theorem Eqv.trans {L M N : List Ef} (h : Eqv L M) (k : Eqv M N) : Eqv L N := fun id => (h id).trans (k id)
theorem Rq.trans {a b c : Eo} (h : Rq a b) (k : Rq b c) : Rq a c := ⟨h.frames.trans k.frames, h.bytes.trans k.bytes, h.age.trans k.age, h.most.trans k.most, h.guard.trans k.guard, h.credit.trans k.credit, h.row.trans k.row, h.fl.trans k.fl, h.s.trans k.s⟩
theorem Rq.symm {a b : Eo} (h : Rq a b) : Rq b a := ⟨h.frames.symm, h.bytes.symm, h.age.symm, h.most.symm, h.guard.symm, h.credit.symm, h.row.symm, h.fl.symm, h.s.symm⟩
theorem fnd_id {L : List Ef} {id : Int} {f : Ef} (h : fnd L id = some f) : f.id = id := (fnd_some h).2
theorem fnd_set (L : List Ef) (id x : Int) (pv : Value) (q : que.Q) : fnd (setQ L id pv q) x = (fnd L x).map (fun g => if g.id = id then ⟨g.id, g.fb, g.video, g.qb, pv, q⟩ else g) := by
  unfold fnd setQ
  rw [List.find?_map]
  congr 1
  have : ((fun f : Ef => f.id == x) ∘ fun g : Ef => if g.id = id then (⟨g.id, g.fb, g.video, g.qb, pv, q⟩ : Ef) else g) = fun f : Ef => f.id == x := by
    funext g
    show ((if g.id = id then (⟨g.id, g.fb, g.video, g.qb, pv, q⟩ : Ef) else g).id == x) = (g.id == x)
    split <;> rfl
  rw [this]
theorem Eqv.set {L M : List Ef} (h : Eqv L M) (id : Int) (pv pv' : Value) (q : que.Q) : Eqv (setQ L id pv q) (setQ M id pv' q) := by
  intro x
  rw [fnd_set, fnd_set]
  rcases h.cases x with ⟨e1, e2⟩ | ⟨f, g, e1, e2, e3, e4⟩
  · rw [e1, e2]; rfl
  · rw [e1, e2]
    have i1 := fnd_id e1
    have i2 := fnd_id e2
    show some (key (if f.id = id then _ else f)) = some (key (if g.id = id then _ else g))
    rw [i1, i2]
    split
    · show some (f.video, q) = some (g.video, q); rw [e3]
    · show some (f.video, f.q) = some (g.video, g.q); rw [e3, e4]
theorem Eqv.nx {L M : List Ef} (h : Eqv L M) (l : List Int) : nx L l = nx M l := by
  have : stepN L = stepN M := by
    funext s id
    unfold stepN
    rcases h.cases id with ⟨e1, e2⟩ | ⟨f, g, e1, e2, e3, e4⟩
    · rw [e1, e2]
    · rw [e1, e2]
      dsimp only
      rw [e3, e4]
  unfold egr.nx
  rw [this]
theorem Rq.nextI {e r : Eo} (h : Rq e r) (ids : List Int) : (nextI ids e).1 = (nextI ids r).1 ∧ (nextI ids e).2.1 = (nextI ids r).2.1 ∧ drr.Re (nextI ids e).2.2 (nextI ids r).2.2 := by
  unfold egr.nextI
  rw [h.fl.nx, h.row, h.guard]
  split
  · exact ⟨rfl, rfl, h.s⟩
  · split
    · refine ⟨rfl, rfl, ?_⟩
      show drr.Re (drr.chooseS [] e.s) (drr.chooseS [] r.s)
      exact h.s.choose _
    · refine ⟨(h.s.choose _).turn, rfl, ?_⟩
      show drr.Re (drr.chooseS _ e.s) (drr.chooseS _ r.s)
      exact h.s.choose _
theorem Rq.afterI {e r : Eo} (h : Rq e r) (ids : List Int) : Rq (afterI ids e) (afterI ids r) := ⟨h.frames, h.bytes, h.age, h.most, h.guard, h.credit, h.row, h.fl, (h.nextI ids).2.2⟩
theorem Rq.count {e r : Eo} (h : Rq e r) (n : Int) (v : Bool) : Rq (countE e n v) (countE r n v) := by
  unfold countE
  split
  · exact ⟨h.frames, h.bytes, h.age, h.most, h.guard, by show e.credit - n = r.credit - n; rw [h.credit], rfl, h.fl, h.s.take n⟩
  · exact ⟨h.frames, h.bytes, h.age, h.most, h.guard, by show e.credit - n = r.credit - n; rw [h.credit], by show e.row + 1 = r.row + 1; rw [h.row], h.fl, h.s⟩
theorem eF_eqv (L : List Ef) : Eqv (L.map eF) L := fun id => by rw [eF_fnd, Option.map_map]; rfl
theorem Rq.eE (e : Eo) : Rq (eE e) e := ⟨rfl, rfl, rfl, rfl, rfl, rfl, rfl, eF_eqv _, drr.Re.eS _⟩
theorem Rq.gone {e r : Eo} (h : Rq e r) (ids : List Int) {f g : Ef} (hid : f.id = g.id) (hv : f.video = g.video) (hq : f.q = g.q) (x : que.It) : Rq (goneI ids e f x) (goneI ids r g x) := by
  unfold goneI
  rw [hid, hv, hq]
  have h1 : Rq (⟨e.frames, e.bytes, e.age, e.most, e.guard, e.credit, e.row, setQ e.L g.id (.slice none 0 0) ⟨g.q.frames, g.q.most, g.q.L.drop 1, g.q.broken⟩, (egr.nextI ids e).2.2⟩ : Eo) ⟨r.frames, r.bytes, r.age, r.most, r.guard, r.credit, r.row, setQ r.L g.id (.slice none 0 0) ⟨g.q.frames, g.q.most, g.q.L.drop 1, g.q.broken⟩, (egr.nextI ids r).2.2⟩ := ⟨h.frames, h.bytes, h.age, h.most, h.guard, h.credit, h.row, h.fl.set _ _ _ _, (h.nextI ids).2.2⟩
  exact h1.count _ _
theorem Rq.stepR {e r : Eo} (h : Rq e r) (ids : List Int) : (egr.stepR ids e = none ∧ egr.stepR ids r = none) ∨ ∃ s e' r', egr.stepR ids e = some (s, e') ∧ egr.stepR ids r = some (s, r') ∧ Rq e' r' := by
  obtain ⟨h1, h2, h3⟩ := h.nextI ids
  unfold egr.stepR
  rw [h2, h1, h.credit]
  split
  · rcases h.fl.cases (egr.nextI ids r).1 with ⟨e1, e2⟩ | ⟨f, g, e1, e2, e3, e4⟩
    · rw [e1, e2]; exact .inl ⟨rfl, rfl⟩
    · have i1 := fnd_id e1
      have i2 := fnd_id e2
      rw [e1, e2]
      dsimp only
      rw [e4]
      cases g.q.L with
      | nil => exact .inl ⟨rfl, rfl⟩
      | cons x l =>
        dsimp only
        split
        · exact .inl ⟨rfl, rfl⟩
        · refine .inr ⟨⟨f.id, x⟩, _, _, rfl, by rw [i1, i2], ?_⟩
          exact ((Rq.eE _).trans (h.gone ids (i1.trans i2.symm) e3 e4 x)).trans (Rq.eE _).symm
  · exact .inl ⟨rfl, rfl⟩
theorem Rq.runR {e r : Eo} (h : Rq e r) (ids : List Int) : ∀ n, (egr.runR ids n e).1 = (egr.runR ids n r).1 ∧ Rq (egr.runR ids n e).2 (egr.runR ids n r).2 := by
  intro n
  induction n generalizing e r with
  | zero => exact ⟨rfl, h.afterI ids⟩
  | succ n ih =>
    unfold egr.runR
    rcases h.stepR ids with ⟨e1, e2⟩ | ⟨s, e', r', e1, e2, e3⟩
    · rw [e1, e2]; exact ⟨rfl, h.afterI ids⟩
    · rw [e1, e2]
      obtain ⟨k1, k2⟩ := ih e3
      exact ⟨by show s :: _ = s :: _; rw [k1], k2⟩
end Go.Proofs.Ytcppibjllaablaa.egr

/-
  egress.Out: Tick.
-/
namespace Go.Proofs.Ytcppibjllaablaa.egr
open Go.RowKit mem Go.Maps
open Go.Proofs.Ytcppibjllaablaa.itr
set_option linter.unusedVariables false

def expE (e : Eo) (f : Ef) (now : Int) (pv : Value) : Eo := ⟨e.frames, e.bytes, e.age, e.most, e.guard, e.credit, e.row, setQ e.L f.id pv (que.expQ f.q now e.age), e.s⟩
/-- a Tick, flow by flow -/
inductive TSteps (now : Int) : Eo → List Int → List Snt → Eo → Prop
  | nil (e : Eo) : TSteps now e [] [] e
  | snoc {e : Eo} {l : List Int} {o : List Snt} {e1 : Eo} {f : Ef} (pv : Value) : TSteps now e l o e1 → f ∈ e1.L → TSteps now e (l ++ [f.id]) (o ++ nam f.id (que.expD f.q now e1.age)) (expE e1 f now pv)
def TickOk (L : List Ef) : Prop := ∀ f ∈ L, ∀ x ∈ f.q.L, 0 ≤ x.tick ∧ x.tick ≤ 2199023255552
abbrev HeldT (A : Ad) (f : Ef) (c : Nat) (D : DataW Unit) (age : Int) (w' : World) : Prop :=
  w'.ownsMap Try.prog 3 drr.ptrE A.mb c D ∧ (Instr.lookup MT (.map (some A.mb)) (.int .i64 f.id) false).run Try.prog w' = .ok (.pointer (some ⟨f.fb, 0, none⟩)) w' ∧ A.o < w'.heap.size ∧ f.fb < w'.heap.size ∧ w'.cell? ⟨A.o, 5, none⟩ = some (.map (some A.mb)) ∧ w'.cell? ⟨A.o, 2, none⟩ = some (.int .i64 age) ∧ w'.cell? ⟨f.fb, 0, none⟩ = some (.pointer (some ⟨f.qb, 0, none⟩))
def KeyT (f : Ef) (D : DataW Unit) : Prop := (-9223372036854775808 ≤ f.id ∧ f.id ≤ 9223372036854775807) ∧ ∀ z, D.atKey (.int .i64 f.id) z = .lit (.int .i64 (f.fb : Int))
theorem look1_at {w : World} {mb c : Nat} {D : DataW Unit} {f : Ef} (hm : w.ownsMap Try.prog 3 drr.ptrE mb c D) (hk : KeyT f D) : (Instr.lookup MT (.map (some mb)) (.int .i64 f.id) false).run Try.prog w = .ok (.pointer (some ⟨f.fb, 0, none⟩)) w := by
  obtain ⟨v, ps, hrun, hv⟩ := hm.lookup drr.lawI Try.underlying138 (zeroP w) (zd := .lit (.int .i64 (-1))) (zp := []) rfl (drr.keyI hk.1.1 hk.1.2)
  rw [hk.2] at hv
  rw [drr.ptrE_inv hv] at hrun
  exact hrun
theorem heldT_turns {A : Ad} {f : Ef} {c : Nat} {D : DataW Unit} {age : Int} {w1 w2 : World} {T : Nat → Prop} (k : Turns T w1 w2) (hT : ¬ T A.mb ∧ ¬ T A.o ∧ ¬ T f.fb) (hk : KeyT f D) (h : HeldT A f c D age w1) : HeldT A f c D age w2 := by
  obtain ⟨h1, h2, h3, h4, h5, h6, h7⟩ := h
  have hm := ownsMap_turns h1 k hT.1
  exact ⟨hm, look1_at hm hk, Nat.lt_of_lt_of_le h3 k.size, Nat.lt_of_lt_of_le h4 k.size, (k.cell (a := ⟨A.o, 5, none⟩) h3 hT.2.1).trans h5, (k.cell (a := ⟨A.o, 2, none⟩) h3 hT.2.1).trans h6, (k.cell (a := ⟨f.fb, 0, none⟩) h4 hT.2.2).trans h7⟩
theorem heldT_drew {A : Ad} {f : Ef} {c : Nat} {D : DataW Unit} {age : Int} {w1 : World} (hk : KeyT f D) (h : HeldT A f c D age w1) : HeldT A f c D age w1.drew := heldT_turns (T := fun _ => False) ((Turns.refl _ _).drew) ⟨fun h => h, fun h => h, fun h => h⟩ hk h
theorem gone_pre {w W w2 : World} {p : Nat} {pv v : Value} {q : que.Q} {L : List que.It} (n : New w W) (h : que.Gone W w2 p pv q v L) : que.Gone w w2 p pv q v L :=
  ⟨⟨h.fr.own, fun g hg => Nat.le_trans n.size (h.fr.vb g hg)⟩, h.qs, (n.mono (fun _ _ h => h.elim)).trans (h.turns.mono (fun _ _ h => .inl h))⟩
/-- in the loop -/
structure Tx (b : Nat) (now : Int) (w wr : World) (A : Ad) (k : Nat) (e : Eo) (u v : Value) (j : Nat) (o : List Snt) (e1 : Eo) : Prop where
  st : TSteps now e ((idS e.L).take j) o e1
  es : Es wr A k e1
  lo : Lo b A e1
  sf : Sf b A w wr
  ids : idS e1.L = idS e.L
  ui : Owns IntE 3 wr u (idS e.L)
  ow : Owns SE SeT wr v o
  vb : ∀ g, v.ownBlock = some g → w.heap.size ≤ g
  tot : o.length + Tot e1.L = Tot e.L
  tk : TickOk e1.L
theorem Tx.go {b : Nat} {now : Int} {w wr w2 w3 w8 W : World} {A : Ad} {k : Nat} {e : Eo} {u v v2 v8 : Value} {j : Nat} {o : List Snt} {e1 : Eo} (h : Tx b now w wr A k e u v j o e1) (hb : b ≤ w.heap.size) {f : Ef} (hf : f ∈ e1.L) (hid : (idS e.L)[j]? = some f.id)
    (hg : que.Gone wr w2 f.qb f.pv (que.expQ f.q now e1.age) v2 (que.expD f.q now e1.age)) (hn : New w2 w3) (hW : New w3 W) (hwz : W.heap.size = w3.heap.size) (ho : Owns SE SeT w8 v8 (o ++ nam f.id (que.expD f.q now e1.age))) (hgr : W.grownBy w8 v.ownBlock) (ha : v8.ownBlock = v.ownBlock ∨ v8.ownBlock = some W.heap.size) :
    ∃ e2, Tx b now w w8 A k e u v8 (j + 1) (o ++ nam f.id (que.expD f.q now e1.age)) e2 := by
  obtain ⟨pv', hloc, hes2⟩ := h.es.queue hf (gone_lft hg) rfl rfl (fun z hz => (h.es.fq f hf).sz z (List.mem_of_mem_drop hz))
  have sfW : Sf b A wr W := ((Sf.que h.es h.lo hf hg.turns).trans (Sf.new hn)).trans (Sf.new hW)
  have hesW := (hes2.later hn).later hW
  have hov := sfW.row h.ow (by decide) (by decide) (by decide) (by decide) (by decide)
  have hoi := sfW.row h.ui (by decide) (by decide) (by decide) (by decide) (by decide)
  have t8 : Turns (fun i => some i = v.ownBlock) W w8 := Turns.of_grown hgr
  have hsw := h.sf.trans sfW
  have hbr : b ≤ wr.heap.size := Nat.le_trans hb h.sf.t.size
  have htot : Tot (setQ e1.L f.id pv' (que.expQ f.q now e1.age)) + (que.expD f.q now e1.age).length = Tot e1.L := by
    have h1 := tot_set h.es.ap hf pv' (que.expQ f.q now e1.age)
    have h2 : (que.expQ f.q now e1.age).L.length + (que.expD f.q now e1.age).length = f.q.L.length := by
      show (f.q.L.drop _).length + (f.q.L.take _).length = _
      rw [List.length_drop, List.length_take]; omega
    omega
  refine ⟨expE e1 f now pv', by rw [drr.take_succ' hid]; exact TSteps.snoc pv' h.st hf, hesW.row hov (by decide) (by decide) (by decide) (by decide) (by decide) (by decide) t8, h.lo.setQ hf hbr hloc, hsw.grow hb (t8.mono (fun i _ hi => h.vb i hi.symm)), ?_, hoi.turns t8 (fun g hg e2 => own_own hov hoi (by decide) g hg e2), ho, fun g hg2 => ?_, ?_, fun g hg x hx => ?_⟩
  · show idS (setQ _ _ _ _) = _
    rw [setQ_idS]; exact h.ids
  · rcases ha with e2 | e2
    · exact h.vb g (by rw [← e2]; exact hg2)
    · rw [e2] at hg2
      injection hg2 with hg2
      have := hsw.t.size
      omega
  · have := h.tot
    rw [List.length_append]
    unfold nam
    rw [List.length_map]
    show o.length + _ + Tot (setQ _ _ _ _) = _
    omega
  · obtain ⟨g', hg', rfl⟩ := setQ_mem hg
    split at hx
    · exact h.tk f hf x (List.mem_of_mem_drop hx)
    · exact h.tk g' hg' x hx
set_option maxRecDepth 100000 in
set_option maxHeartbeats 4000000 in
theorem tick (b : Nat) (A : Ad) (k : Nat) (e : Eo) (now : Int) (w : World) (h : Es w A k e) (lo : Lo b A e) (hb : b ≤ w.heap.size) (hk : k ≤ 1048576) (hL : e.L.length ≤ 1048576) (hT : Tot e.L ≤ 1048575) (ht : TickOk e.L) (n0 : 0 ≤ now) (n1 : now ≤ 2199023255552) :
    Calls Try.prog 30 #[.pointer (some ⟨A.o, 0, none⟩), .int .i64 now] w fun x w' => ∃ v o e', x = .returned v ∧ TSteps now e (idS e.L) o e' ∧ Es w' A k e' ∧ Lo b A e' ∧ Sf b A w w' ∧ Owns SE SeT w' v o ∧ (∀ g, v.ownBlock = some g → w.heap.size ≤ g) ∧ TickOk e'.L := by
  have HI := Lib.hid (ids A k e w h hk)
  have HH := Lib.hid (And.intro h lo)
  have HRR : Hid ((idS e.L).length ≤ 1048576 ∧ b ≤ w.heap.size ∧ 0 ≤ now ∧ now ≤ 2199023255552 ∧ TickOk e.L) := Lib.hid ⟨by rw [(idS_perm e.L).length_eq, List.length_map]; exact hL, hb, n0, n1, ht⟩
  clear h lo hk hL hb n0 n1 ht
  go_enter Try.func30, Try.ntmps30
  go_wp2_with fail
  refine HI.out.mono ?_
  rintro x w1 ⟨u, rfl, hu⟩
  obtain ⟨ao, c, hv, hlc, _, _⟩ := hu.own.form
  subst hv
  have HX0 : Hid (Tx b now w w1 A k e (.slice ao (idS e.L).length c) (.slice none 0 0) 0 [] e) := Lib.hid ⟨TSteps.nil e, HH.out.1.later hu.n, HH.out.2, Sf.new hu.n, rfl, hu.own, Owns.nil _ _, (fun g hg => by simp [Value.ownBlock] at hg), by simp, HRR.out.2.2.2.2⟩
  have hlm : (idS e.L).length ≤ maxLen := by have := HRR.out.1; unfold maxLen; omega
  have hl2 : (idS e.L).length ≤ 1048576 := HRR.out.1
  clear hu HI
  generalize hl : idS e.L = l at *
  have HLL := Lib.hid hl
  clear hl
  go_wp2_with fail
  go_loopw [5, 11] (fun v i wr => ∃ (j : Nat) (o : List Snt) (e1 : Eo), j ≤ l.length ∧ i = .int .i64 j ∧ Tx b now w wr A k e (.slice ao l.length c) v j o e1) (fun _ i _ => l.length - (intOf i).toNat)
  case atStart => exact ⟨0, [], e, Nat.zero_le _, rfl, HX0.out⟩
  case round =>
    obtain ⟨j, o, e1, hj, rfl, htx⟩ := hrel
    have HX := Lib.hid htx
    clear htx HX0
    by_cases hlt : j < l.length
    · have HLT := Lib.hid hlt
      obtain ⟨id, hid⟩ : ∃ x, l[j]? = some x := ⟨_, List.getElem?_eq_getElem hlt⟩
      have hui := HX.out.ui
      rw [HLL.out] at hui
      obtain ⟨a2, c2, e2, _, hrd, _⟩ := hui.form
      obtain ⟨g, hg, hgl, hc⟩ := hrd.resolve_left (fun e => by rw [e] at hlt; exact absurd hlt (Nat.not_lt_zero _))
      subst hg
      obtain ⟨rfl, _, rfl⟩ : ao = some ⟨g, 0, none⟩ ∧ l.length = l.length ∧ c = c2 := by injection e2 with p1 p2 p3; exact ⟨p1, p2, p3⟩
      have d0 : wr.cell? ⟨g, j * 1 + 0, none⟩ = _ := hc j id hid 0 _ rfl
      rw [Nat.mul_one, Nat.add_zero] at d0
      obtain ⟨f, hf, rfl⟩ : ∃ f ∈ e1.L, f.id = id := (idS_mem _ _).1 (by rw [HX.out.ids, HLL.out]; exact List.mem_of_getElem? hid)
      have HF := Lib.hid (And.intro hf hid)
      obtain ⟨ao3, c3, hv3, _, _, _⟩ := HX.out.ow.form
      subst hv3
      clear hrd hc hui e2 hid hf
      have hes := HX.out.es
      have c5 := hes.blk.cell 5
      have c2' := hes.blk.cell 2
      have hr0 := hes.look1 HF.out.1
      have hr1 := (hes.later ((Turns.refl _ wr).drew)).look1 HF.out.1
      obtain ⟨⟨f0, f1⟩, _⟩ := drr.two (hes.fb f HF.out.1)
      have htk := HX.out.tk f HF.out.1
      have hrr := HRR.out
      have HEX := Lib.hid (fun W (n : New wr W) => (que.expire f.qb f.pv f.q now e1.age W ((hes.qs f HF.out.1).later n) hrr.2.2.1 hrr.2.2.2.1 htk).mono (R' := fun x w2 => ∃ v, x = .returned v ∧ que.Gone wr w2 f.qb f.pv (que.expQ f.q now e1.age) v (que.expD f.q now e1.age)) (fun x w2 ⟨v, h1, h2⟩ => ⟨v, h1, gone_pre n h2⟩))
      obtain ⟨cm, Dm, _, hmp, hrd2⟩ := hes.map
      have HKT : Hid (KeyT f Dm) := Lib.hid ⟨hes.rg f HF.out.1, hrd2.at_ f HF.out.1⟩
      have hheld : HeldT A f cm Dm e1.age wr := ⟨hmp, hr0, hes.blk.lt, (hes.fb f HF.out.1).lt, c5, c2', f0⟩
      have HOF1 : Hid (¬ que.Foot f.qb f.pv A.mb ∧ ¬ que.Foot f.qb f.pv A.o ∧ ¬ que.Foot f.qb f.pv f.fb) := Lib.hid ⟨fun hk => by
        rcases hk with e2 | e2
        · exact ownsMap_ne hmp (hes.qs f HF.out.1).blk e2
        · exact ownsMap_ne_row hmp (hes.qs f HF.out.1).own _ e2 rfl, fun hk => by
        rcases hk with e2 | e2
        · exact blk_ne hes.blk (hes.qs f HF.out.1).blk (by decide) e2
        · exact own_ne (hes.qs f HF.out.1).own hes.blk (by decide) e2, fun hk => by
        rcases hk with e2 | e2
        · exact blk_ne (hes.fb f HF.out.1) (hes.qs f HF.out.1).blk (by decide) e2
        · exact own_ne (hes.qs f HF.out.1).own (hes.fb f HF.out.1) (by decide) e2⟩
      have HOF2 : Hid (∀ v', v' = Value.slice ao3 o.length c3 → ¬ (some A.mb = v'.ownBlock) ∧ ¬ (some A.o = v'.ownBlock) ∧ ¬ (some f.fb = v'.ownBlock)) := Lib.hid (fun v' hv' => by
        subst hv'
        exact ⟨fun e2 => ownsMap_ne_row hmp HX.out.ow _ e2.symm rfl, fun e2 => own_ne HX.out.ow hes.blk (by decide) e2.symm, fun e2 => own_ne HX.out.ow (hes.fb f HF.out.1) (by decide) e2.symm⟩)
      have HRW : Hid (∀ w2 w3 v2, que.Gone wr w2 f.qb f.pv (que.expQ f.q now e1.age) v2 (que.expD f.q now e1.age) → New w2 w3 → Owns SE SeT w3 (.slice ao3 o.length c3) o) := Lib.hid (fun w2 w3 v2 hg hn => ((Sf.que HX.out.es HX.out.lo HF.out.1 hg.turns).trans (Sf.new hn)).row HX.out.ow (by decide) (by decide) (by decide) (by decide) (by decide))
      clear hmp hrd2
      have hfl : f.q.L.length ≤ Tot e1.L := by
        have h1 := tot_set hes.ap HF.out.1 f.pv ⟨f.q.frames, f.q.most, [], f.q.broken⟩
        simp only [List.length_nil] at h1
        omega
      have hel : (que.expD f.q now e1.age).length ≤ f.q.L.length := by unfold que.expD; rw [List.length_take]; omega
      have htt := HX.out.tot
      have HSM : Hid ((que.expD f.q now e1.age).length ≤ 1048576 ∧ o.length + (nam f.id (que.expD f.q now e1.age)).length ≤ 1048576) := Lib.hid ⟨by omega, by unfold nam; rw [List.length_map]; omega⟩
      clear hes htk hrr hfl hel htt
      go_upto_region 5 with fail
      clear hr0 hr1 c5 c2' f0 f1
      go_region_held3 (fun w' => w'.ownsMap Try.prog 3 drr.ptrE A.mb cm Dm ∧ (Instr.lookup MT (.map (some A.mb)) (.int .i64 f.id) false).run Try.prog w' = .ok (.pointer (some ⟨f.fb, 0, none⟩)) w' ∧ A.o < w'.heap.size ∧ f.fb < w'.heap.size ∧ w'.cell? ⟨A.o, 5, none⟩ = some (.map (some A.mb)) ∧ w'.cell? ⟨A.o, 2, none⟩ = some (.int .i64 e1.age) ∧ w'.cell? ⟨f.fb, 0, none⟩ = some (.pointer (some ⟨f.qb, 0, none⟩)))
        (first
          | (with_reducible assumption)
          | ((with_reducible refine heldT_drew HKT.out ?_); with_reducible assumption)
          | ((with_reducible apply heldT_turns hg2.turns HOF1.out HKT.out); with_reducible assumption)
          | ((with_reducible apply heldT_turns hn3 ⟨fun h => h, fun h => h, fun h => h⟩ HKT.out); with_reducible assumption)
          | ((refine heldT_turns (Turns.of_grown hgrow) (HOF2.out _ rfl) HKT.out ?_); (first | (with_reducible assumption) | ((with_reducible refine heldT_drew HKT.out ?_); with_reducible assumption))))
        (first
          | (go_at_call 42; (with_reducible refine Calls.mono (HEX.out _ ?_) ?_); (focus (first | exact Turns.refl _ _ | exact (Turns.refl _ _).drew | exact (Turns.refl _ _).drew.drew)); rintro x w2 ⟨v2, rfl, hg2⟩)
          | (go_at_call 60; (with_reducible refine Calls.mono (named f.id _ _ _ (by first | exact hg2.fr.own | exact hg2.fr.own.turns (S := fun _ => False) ((Turns.refl _ _).drew) (fun _ _ h => h)) HSM.out.1) ?_); rintro x w3 ⟨y3, rfl, hu3⟩; have hn3 : New w2 w3 := (by first | exact hu3.n | exact Turns.of_drew hu3.n))
          | (refine step_append_owns (E := SE) Try.underlying87 infoSe rfl (by decide) (by decide) (by rfl) _ _ (by rfl) (.slice ao3 o.length c3) y3 o (nam f.id (que.expD f.q now e1.age)) (by rfl) (by rfl) (by first | exact HRW.out _ _ _ hg2 hn3 | exact (HRW.out _ _ _ hg2 hn3).turns (S := fun _ => False) ((Turns.refl _ _).drew) (fun _ _ h => h)) (by first | exact hu3.own | exact hu3.own.turns (S := fun _ => False) ((Turns.refl _ _).drew) (fun _ _ h => h)) HSM.out.2 ?_; intro v8 w8 hown hgrow hat))
      obtain ⟨e2, htx2⟩ : ∃ e2, Tx b now w w8 A k e (.slice (some ⟨g, 0, none⟩) l.length c) v8 (j + 1) (o ++ nam f.id (que.expD f.q now e1.age)) e2 := by
        first
          | exact HX.out.go HRR.out.2.1 HF.out.1 (by rw [HLL.out]; exact HF.out.2) hg2 hn3 (Turns.refl _ _) rfl hown hgrow hat
          | exact HX.out.go HRR.out.2.1 HF.out.1 (by rw [HLL.out]; exact HF.out.2) hg2 hn3 ((Turns.refl _ _).drew) rfl hown hgrow hat
          | exact HX.out.go HRR.out.2.1 HF.out.1 (by rw [HLL.out]; exact HF.out.2) hg2 hn3 ((Turns.refl _ _).drew.drew) rfl hown hgrow hat
      have HX2 := Lib.hid htx2
      clear htx2 hown hgrow hat hu3 hn3 hg2 hheld HX HEX HOF1 HOF2 HRW
      go_wp2
      go_roundw
      case rel =>
        have hlt2 := HLT.out
        exact ⟨j + 1, _, _, hlt2, by go_num, HX2.out⟩
      case measure =>
        have hlt2 := HLT.out
        simp [intOf]; omega
    · obtain rfl : j = l.length := by omega
      go_wp2
      go_ret
      have hx := HX.out
      have hst := hx.st
      rw [HLL.out, List.take_length] at hst
      exact ⟨_, o, e1, rfl, (by rw [HLL.out]; exact hst), hx.es, hx.lo, hx.sf, hx.ow, hx.vb, hx.tk⟩
end Go.Proofs.Ytcppibjllaablaa.egr

/-
  The reference of layer 19: Find, size, after.
-/
namespace Go.Proofs.Ytcppibjllaablaa.drr
open Go.RowKit mem
set_option linter.unusedVariables false

abbrev New9 (w w' : World) : Prop := Turns (fun _ => False) w w'
abbrev GT : TypeId := 175
abbrev GST : TypeId := 63
abbrev RHT : TypeId := 170
theorem infoG : (Try.prog.info? GT).map (fun i => (i.zero, i.size, i.bytes)) = some (some (.agg #[.int .i64 0, .int .i64 0, .int .i64 0]), 3, 24) := by kernel_rfl
theorem infoRH : (Try.prog.info? RHT).map (fun i => (i.zero, i.size, i.bytes)) = some (some (.agg #[.int .i64 0, .int .i64 0]), 2, 16) := by kernel_rfl
def GE : Enc Fl := ⟨3, fun f => [.int .i64 f.id, .int .i64 f.share, .int .i64 f.left], fun _ => rfl, fun x u hu => by
  simp at hu
  rcases hu with rfl | rfl | rfl <;> rfl⟩
def RHE : Enc (Int × Int) := ⟨2, fun h => [.int .i64 h.1, .int .i64 h.2], fun _ => rfl, fun x u hu => by
  simp at hu
  rcases hu with rfl | rfl <;> rfl⟩
abbrev rS (s : Sc) (v : Value) : Array Value := #[.int .i64 s.most, v, .int .i64 s.turn, .bool s.g]
theorem flow_at {w : World} {ao : Option Addr} {n c : Nat} {l : List Fl} (h : TS GE GT w (.slice ao n c) l) {k : Nat} {x : Fl} (hx : l[k]? = some x) : ∃ g o, ao = some ⟨g, o, none⟩ ∧ g < w.heap.size ∧ w.cell? ⟨g, o + k * 3, none⟩ = some (.int .i64 x.id) ∧ w.cell? ⟨g, o + k * 3 + 1, none⟩ = some (.int .i64 x.share) ∧ w.cell? ⟨g, o + k * 3 + 2, none⟩ = some (.int .i64 x.left) := by
  obtain ⟨g, o, e, _, hg, h1⟩ := h.at_ hx
  exact ⟨g, o, e, hg, h1 0 _ rfl, h1 1 _ rfl, h1 2 _ rfl⟩
theorem head_at {w : World} {ao : Option Addr} {n c : Nat} {l : Hs} (h : TS RHE RHT w (.slice ao n c) l) {k : Nat} {x : Int × Int} (hx : l[k]? = some x) : ∃ g o, ao = some ⟨g, o, none⟩ ∧ g < w.heap.size ∧ w.cell? ⟨g, o + k * 2, none⟩ = some (.int .i64 x.1) ∧ w.cell? ⟨g, o + k * 2 + 1, none⟩ = some (.int .i64 x.2) := by
  obtain ⟨g, o, e, _, hg, h1⟩ := h.at_ hx
  exact ⟨g, o, e, hg, h1 0 _ rfl, h1 1 _ rfl⟩
/-- a place as the reference tells it: -1: none -/
def plc {α : Type} (L : List α) (P : α → Bool) : Int := match L.findIdx? P with | some i => (i : Int) | none => -1
theorem plc_cases {α : Type} (L : List α) (P : α → Bool) : (plc L P = -1 ∧ ∀ f ∈ L, P f = false) ∨ ∃ (i : Nat) (f : α), plc L P = (i : Int) ∧ L[i]? = some f ∧ P f = true ∧ ∀ (j : Nat) (g : α), j < i → L[j]? = some g → P g = false := by
  unfold plc
  cases h : L.findIdx? P with
  | none => exact .inl ⟨rfl, fun f hf => by simpa using List.findIdx?_eq_none_iff.1 h f hf⟩
  | some i =>
    obtain ⟨hi, h1, h2⟩ := List.findIdx?_eq_some_iff_getElem.1 h
    refine .inr ⟨i, L[i], rfl, List.getElem?_eq_getElem hi, h1, fun j g hj hg => ?_⟩
    obtain ⟨hj2, e⟩ := List.getElem?_eq_some_iff.1 hg
    have := h2 j hj
    rw [e] at this
    simpa using this
theorem plc_at {α : Type} {L : List α} {P : α → Bool} {k : Nat} {f : α} (hf : L[k]? = some f) (hp : P f = true) (hb : ∀ (j : Nat) (g : α), j < k → L[j]? = some g → P g = false) : plc L P = (k : Int) := by
  obtain ⟨hk, e⟩ := List.getElem?_eq_some_iff.1 hf
  have : L.findIdx? P = some k := List.findIdx?_eq_some_iff_getElem.2 ⟨hk, by rw [e]; exact hp, fun j hj => by
    have := hb j L[j] hj (List.getElem?_eq_getElem (by omega))
    simp [this]⟩
  unfold plc
  rw [this]
theorem plc_no {α : Type} {L : List α} {P : α → Bool} (hb : ∀ (j : Nat) (g : α), L[j]? = some g → P g = false) : plc L P = -1 := by
  have : L.findIdx? P = none := List.findIdx?_eq_none_iff.2 (fun f hf => by
    obtain ⟨j, hj, e⟩ := List.getElem_of_mem hf
    have := hb j f (by rw [List.getElem?_eq_getElem hj, e])
    simp [this])
  unfold plc
  rw [this]

set_option maxRecDepth 10000 in
set_option maxHeartbeats 2000000 in
theorem rfind (v : Value) (s : Sc) (id : Int) (w : World) (h : TS GE GT w v s.L) (hl : s.L.length ≤ 1048576) :
    Calls Try.prog 90 #[.agg (rS s v), .int .i64 id] w fun e w' => e = .returned (.int .i64 (plc s.L (fun f => f.id == id))) ∧ New9 w w' := by
  have HS := Lib.hid h
  obtain ⟨ao, n, c, hv, hn, _, _⟩ := h.form
  have HN := Lib.hid hn
  have hn2 : n ≤ 1048576 := by omega
  clear h hn hl
  subst hv
  have H0 : Hid (New9 w (w.alloc (.cells #[.int .i64 s.most, .slice ao n c, .int .i64 s.turn, .bool s.g] GST))) := Lib.hid ((Turns.refl _ _).alloc _)
  go_enter Try.func90, Try.ntmps90
  go_wp2_with fail
  go_loopw [10] (fun i wr => ∃ k : Nat, k ≤ n ∧ i = .int .i64 k ∧ New9 w wr ∧ ∀ j g, j < k → s.L[j]? = some g → (g.id == id) = false) (fun i _ => n - (intOf i).toNat)
  case atStart => exact ⟨0, Nat.zero_le _, rfl, H0.out, fun j g hj => absurd hj (Nat.not_lt_zero _)⟩
  case round =>
    obtain ⟨k, hk, rfl, hnw, hbf⟩ := hrel
    have HNW := Lib.hid hnw
    have HBF := Lib.hid hbf
    clear hnw hbf H0
    by_cases hlt : k < n
    · obtain ⟨x, hx⟩ : ∃ x, s.L[k]? = some x := ⟨_, List.getElem?_eq_getElem (by have := HN.out; omega)⟩
      have HX := Lib.hid hx
      obtain ⟨g, o, hg, hgl, z0, z1, z2⟩ := flow_at (HS.out.later HNW.out) hx
      subst hg
      have d1 : decide ((k : Int) < (n : Int)) = true := decide_eq_true (by omega)
      have j1 : (k : Int) < (n : Int) := by omega
      have hw : IntKind.i64.wrap ((k : Int) + 1) = (k : Int) + 1 := IntWalk.i64_in _ (by omega)
      have HN2 : Hid (New9 w (wr.alloc (.cells #[.int .i64 x.id, .int .i64 x.share, .int .i64 x.left] GT))) := Lib.hid (HNW.out.alloc _)
      clear hx
      cases he : (x.id == id) with
      | true =>
        have HE1 := Lib.hid he
        go_wp2
        go_ret
        exact ⟨by rw [plc_at HX.out HE1.out HBF.out]; rfl, HN2.out⟩
      | false =>
        have HE1 := Lib.hid he
        go_wp2_with fail
        go_roundw
        case rel => exact ⟨k + 1, by omega, by push_cast; go_num, HN2.out, fun j g hj hg => by
          by_cases e : j = k
          · subst e
            have := HX.out
            rw [hg] at this
            injection this with this
            rw [this]; exact HE1.out
          · exact HBF.out j g (by omega) hg⟩
        case measure => simp [intOf]; omega
    · have d1 : decide ((k : Int) < (n : Int)) = false := decide_eq_false (by omega)
      have d2 : decide (k < n) = false := decide_eq_false hlt
      have HP : Hid (plc s.L (fun f => f.id == id) = -1) := Lib.hid (plc_no (fun j g hg => HBF.out j g (by have := (List.getElem?_eq_some_iff.1 hg).1; have := HN.out; omega) hg))
      go_wp2
      go_ret
      exact ⟨by rw [HP.out]; rfl, HNW.out⟩
/-- a flow's head; -1: it has none -/
def szF (most : Int) (H : Hs) (id : Int) : Int := H.foldl (fun n h => if h.1 = id ∧ 0 ≤ h.2 ∧ h.2 ≤ most then h.2 else n) (-1)
theorem szF_take (most : Int) (H : Hs) (id : Int) (k : Nat) (x : Int × Int) (h : H[k]? = some x) : szF most (H.take (k + 1)) id = if x.1 = id ∧ 0 ≤ x.2 ∧ x.2 ≤ most then x.2 else szF most (H.take k) id := by
  unfold szF
  rw [List.take_add_one, h, List.foldl_append]
  rfl
set_option maxRecDepth 10000 in
set_option maxHeartbeats 2000000 in
theorem rsize19 (v : Value) (s : Sc) (H : Hs) (vh : Value) (id : Int) (w : World) (h : TS RHE RHT w vh H) (hl : H.length ≤ 1048576) :
    Calls Try.prog 106 #[.agg (rS s v), vh, .int .i64 id] w fun e w' => e = .returned (.int .i64 (szF s.most H id)) ∧ New9 w w' := by
  have HS := Lib.hid h
  obtain ⟨ao, n, c, hv, hn, _, _⟩ := h.form
  have HN := Lib.hid hn
  have hn2 : n ≤ 1048576 := by omega
  clear h hn hl
  subst hv
  have hb : Blk (w.alloc (.cells #[.int .i64 s.most, v, .int .i64 s.turn, .bool s.g] GST)) w.heap.size #[.int .i64 s.most, v, .int .i64 s.turn, .bool s.g] GST := Blk.new _ _ _
  have HB := Lib.hid hb
  have H0 : Hid (New9 w (w.alloc (.cells #[.int .i64 s.most, v, .int .i64 s.turn, .bool s.g] GST))) := Lib.hid ((Turns.refl _ _).alloc _)
  clear hb
  go_enter Try.func106, Try.ntmps106
  go_upto_region 2 with fail
  refine (show Code.wp _ _ _ _ (w.alloc (.cells #[.int .i64 s.most, v, .int .i64 s.turn, .bool s.g] GST)) from ?_)
  generalize w.alloc (.cells #[.int .i64 s.most, v, .int .i64 s.turn, .bool s.g] GST) = w2 at *
  generalize w.heap.size = pb at *
  go_wp2_with fail
  go_loopw [7, 12] (fun r i wr => ∃ k : Nat, k ≤ n ∧ i = .int .i64 k ∧ r = .int .i64 (szF s.most (H.take k) id) ∧ New9 w2 wr) (fun _ i _ => n - (intOf i).toNat)
  case atStart => exact ⟨0, Nat.zero_le _, rfl, rfl, Turns.refl _ _⟩
  case round =>
    obtain ⟨k, hk, rfl, rfl, hnw⟩ := hrel
    have HNW := Lib.hid hnw
    clear hnw
    by_cases hlt : k < n
    · obtain ⟨x, hx⟩ : ∃ x, H[k]? = some x := ⟨_, List.getElem?_eq_getElem (by have := HN.out; omega)⟩
      have HX := Lib.hid hx
      obtain ⟨g, o, hg, hgl, z0, z1⟩ := head_at ((HS.out.later H0.out).later HNW.out) hx
      subst hg
      have HT1 := Lib.hid (szF_take s.most H id k x hx)
      have d1 : decide ((k : Int) < (n : Int)) = true := decide_eq_true (by omega)
      have j1 : (k : Int) < (n : Int) := by omega
      have hw : IntKind.i64.wrap ((k : Int) + 1) = (k : Int) + 1 := IntWalk.i64_in _ (by omega)
      have HN2 : Hid (New9 w2 (wr.alloc (.cells #[.int .i64 x.1, .int .i64 x.2] RHT))) := Lib.hid (HNW.out.alloc _)
      have b0 : wr.cell? ⟨pb, 0, none⟩ = some (.int .i64 s.most) := (HNW.out.blk HB.out (fun h => h)).cell 0
      have hpl := (HNW.out.blk HB.out (fun h => h)).lt
      clear hx
      obtain ⟨x1, x2⟩ := x
      dsimp only at *
      generalize szF s.most (H.take k) id = r0 at *
      have hbb : Blk (wr.alloc (.cells #[.int .i64 x1, .int .i64 x2] RHT)) wr.heap.size #[.int .i64 x1, .int .i64 x2] RHT := Blk.new _ _ _
      have hc0 : (wr.alloc (.cells #[.int .i64 x1, .int .i64 x2] RHT)).cell? ⟨pb, 0, none⟩ = some (.int .i64 s.most) := (((HNW.out.blk HB.out (fun h => h)).alloc (.cells #[.int .i64 x1, .int .i64 x2] RHT))).cell 0
      go_upto_region 5 with fail
      refine (show Code.wp _ _ _ _ (wr.alloc (.cells #[.int .i64 x1, .int .i64 x2] RHT)) from ?_)
      clear b0 z0 z1 hgl hpl
      generalize wr.alloc (.cells #[.int .i64 x1, .int .i64 x2] RHT) = w3 at *
      generalize wr.heap.size = px at *
      have y0 : w3.cell? ⟨px, 0, none⟩ = some (.int .i64 x1) := hbb.cell 0
      have y1 : w3.cell? ⟨px, 1, none⟩ = some (.int .i64 x2) := hbb.cell 1
      clear hbb
      have hcs : (∃ h1 : (x1 == id) = true, ∃ h2 : decide (0 ≤ x2) = true, ∃ h3 : decide (x2 ≤ s.most) = true, szF s.most (H.take (k + 1)) id = x2) ∨ ((x1 == id) = false ∧ szF s.most (H.take (k + 1)) id = r0) ∨ ((x1 == id) = true ∧ decide (0 ≤ x2) = false ∧ szF s.most (H.take (k + 1)) id = r0) ∨ ((x1 == id) = true ∧ decide (0 ≤ x2) = true ∧ decide (x2 ≤ s.most) = false ∧ szF s.most (H.take (k + 1)) id = r0) := by
        rw [HT1.out]
        by_cases e1 : x1 = id
        · by_cases e2 : 0 ≤ x2
          · by_cases e3 : x2 ≤ s.most
            · exact .inl ⟨by simp [e1], decide_eq_true e2, decide_eq_true e3, if_pos ⟨e1, e2, e3⟩⟩
            · exact .inr (.inr (.inr ⟨by simp [e1], decide_eq_true e2, decide_eq_false e3, if_neg (fun h => e3 h.2.2)⟩))
          · exact .inr (.inr (.inl ⟨by simp [e1], decide_eq_false e2, if_neg (fun h => e2 h.2.1)⟩))
        · exact .inr (.inl ⟨by simp [e1], if_neg (fun h => e1 h.1)⟩)
      rcases hcs with ⟨q1, q2, q3, q4⟩ | ⟨q1, q4⟩ | ⟨q1, q2, q4⟩ | ⟨q1, q2, q3, q4⟩
      all_goals
        have HQ := Lib.hid q4
        clear q4
        go_wp2_with fail
        go_roundw
        case rel => exact ⟨k + 1, by omega, by push_cast; go_num, by rw [HQ.out], HN2.out⟩
        case measure => simp [intOf]; omega
    · have d1 : decide ((k : Int) < (n : Int)) = false := decide_eq_false (by omega)
      have d2 : decide (k < n) = false := decide_eq_false hlt
      have HP : Hid (H.take k = H) := Lib.hid (List.take_of_length_le (by have := HN.out; omega))
      rw [HP.out]
      go_wp2
      go_ret
      exact ⟨rfl, H0.out.trans (HNW.out.mono (fun _ _ h => h.elim))⟩
end Go.Proofs.Ytcppibjllaablaa.drr

/-
  An outlet made since b: what each call leaves of it.
-/
namespace Go.Proofs.Ytcppibjllaablaa.egr
open Go.RowKit mem Go.Maps
set_option linter.unusedVariables false
section
variable {b : Nat} {w wr w2 : World} {A : Ad} {k : Nat} {e e' : Eo}
theorem Ru.whole (h : Ru b w wr A k e) (hes : Es w2 A k e') (hlo : Lo b A e') (hsf : Sf b A wr w2) : Ru b w w2 A k e' := ⟨hes, hlo, h.sf.trans hsf⟩
theorem Lo.rem (h : Lo b A e) (f : Ef) : Lo b A (remE e f.id (goS e f)) := by
  refine ⟨h.o, h.m, h.s, h.t, fun g hg => h.q g (List.mem_filter.1 hg).1, fun g hg => ?_⟩
  have hg2 : g ∈ (goS e f).L := hg
  unfold goS at hg2
  split at hg2
  · exact h.g g (List.mem_filter.1 hg2).1
  · exact h.g g hg2
theorem Ru.remove (h : Ru b w wr A k e) {f : Ef} (hf : f ∈ e.L) (hes : Es w2 A k (remE e f.id (goS e f))) (t : Turns (fun i => (i = A.mb ∨ i = A.sp ∨ i = A.smb) ∨ que.Foot f.qb f.pv i) wr w2) : Ru b w w2 A k (remE e f.id (goS e f)) := by
  obtain ⟨c, D, _, hm, _⟩ := h.es.map
  obtain ⟨c2, D2, _, hss⟩ := h.es.sch
  refine ⟨hes, h.lo.rem f, h.sf.trans (Sf.of (t.mono (fun i _ hi => ?_)) t (fun r cs T hb a1 a2 a3 a4 a5 hi => ?_))⟩
  · rcases hi with (hi | hi | hi) | hi | hi
    · rw [hi]; exact h.lo.m
    · rw [hi]; exact h.lo.s
    · rw [hi]; exact h.lo.t
    · rw [hi]; exact (h.lo.q f hf).1
    · exact (h.lo.q f hf).2 i hi
  · rcases hi with (hi | hi | hi) | hi | hi
    · exact ownsMap_ne hm hb hi.symm
    · exact blk_ne hb hss.blk a4 hi
    · exact ownsMap_ne hss.map hb hi.symm
    · exact blk_ne hb (h.es.qs f hf).blk a2 hi
    · exact own_ne (h.es.qs f hf).own hb (fun e3 => a3 e3.symm) hi
end
end Go.Proofs.Ytcppibjllaablaa.egr

/-
  A Tick on two outlets with the same flows by number. No program.
-/
namespace Go.Proofs.Ytcppibjllaablaa.egr
open Go.RowKit mem
set_option linter.unusedVariables false

theorem Nd.setq {L : List Ef} (h : Nd L) (id : Int) (pv : Value) (q : que.Q) : Nd (setQ L id pv q) := by
  unfold Nd
  rw [setQ_idm]
  exact h
theorem TSteps.inv {now : Int} {e : Eo} {l : List Int} {id : Int} {o : List Snt} {e' : Eo} (k : TSteps now e (l ++ [id]) o e') : ∃ o1 e1 f pv, TSteps now e l o1 e1 ∧ f ∈ e1.L ∧ f.id = id ∧ o = o1 ++ nam f.id (que.expD f.q now e1.age) ∧ e' = expE e1 f now pv := by
  generalize hm : l ++ [id] = m at k
  cases k with
  | nil => simp at hm
  | snoc pv k1 hf =>
    obtain ⟨h1, h2⟩ := List.append_inj' hm rfl
    subst h1
    injection h2 with h2 _
    exact ⟨_, _, _, pv, k1, hf, h2.symm, rfl, rfl⟩
theorem TSteps.none {now : Int} {e : Eo} {o : List Snt} {e' : Eo} (k : TSteps now e [] o e') : o = [] ∧ e' = e := by
  generalize hm : ([] : List Int) = m at k
  cases k with
  | nil => exact ⟨rfl, rfl⟩
  | snoc pv k1 hf => simp at hm
theorem TSteps.rq {now : Int} {e r : Eo} (h : Rq e r) (he : Nd e.L) (hr : Nd r.L) {l : List Int} {o : List Snt} {e' : Eo} (k : TSteps now e l o e') : ∀ {o2 : List Snt} {r' : Eo}, TSteps now r l o2 r' → o = o2 ∧ Rq e' r' ∧ Nd e'.L ∧ Nd r'.L := by
  induction k with
  | nil =>
    intro o2 r' k2
    obtain ⟨rfl, rfl⟩ := k2.none
    exact ⟨rfl, h, he, hr⟩
  | snoc pv k1 hf ih =>
    rename_i l1 o1 e1 f
    intro o2 r' k2
    obtain ⟨o3, r1, g, pv2, k3, hg, hid, rfl, rfl⟩ := k2.inv
    obtain ⟨e2, hq, n1, n2⟩ := ih k3
    have f1 := n1.fnd hf
    have g1 := n2.fnd hg
    rcases hq.fl.cases f.id with ⟨c1, _⟩ | ⟨f', g', c1, c2, c3, c4⟩
    · rw [f1] at c1; cases c1
    · rw [f1] at c1
      rw [← hid, g1] at c2
      injection c1 with c1
      injection c2 with c2
      subst c1 c2
      rw [e2, hid, c4, hq.age]
      refine ⟨rfl, ?_, n1.setq _ _ _, n2.setq _ _ _⟩
      unfold expE
      rw [hid, c4, hq.age]
      exact ⟨hq.frames, hq.bytes, rfl, hq.most, hq.guard, hq.credit, hq.row, hq.fl.set _ _ _ _, hq.s⟩
end Go.Proofs.Ytcppibjllaablaa.egr

/-
  The reference of layer 19: after.
-/
namespace Go.Proofs.Ytcppibjllaablaa.drr
open Go.RowKit mem
set_option linter.unusedVariables false

def hasF (most : Int) (H : Hs) (f : Fl) : Bool := decide (0 ≤ szF most H f.id)
def behF (most : Int) (H : Hs) (id : Int) (f : Fl) : Bool := decide (id < f.id) && hasF most H f
def aft (most : Int) (L : List Fl) (H : Hs) (id : Int) : Int := if plc L (behF most H id) = -1 then plc L (hasF most H) else plc L (behF most H id)
theorem fours {w : World} {p : Nat} {a b c d : Value} {T : TypeId} (k : Blk w p #[a, b, c, d] T) :
    (w.cell? ⟨p, 0, none⟩ = some a ∧ w.cell? ⟨p, 1, none⟩ = some b ∧ w.cell? ⟨p, 2, none⟩ = some c ∧ w.cell? ⟨p, 3, none⟩ = some d) ∧ w.frozen? ⟨p, 0, none⟩ = false ∧ w.frozen? ⟨p, 1, none⟩ = false ∧ w.frozen? ⟨p, 2, none⟩ = false ∧ w.frozen? ⟨p, 3, none⟩ = false :=
  ⟨⟨k.cell 0, k.cell 1, k.cell 2, k.cell 3⟩, k.free 0, k.free 1, k.free 2, k.free 3⟩
theorem before_succ {α : Type} {L : List α} {P : α → Bool} {k : Nat} {x : α} (hx : L[k]? = some x) (hp : P x = false) (hb : ∀ (j : Nat) (g : α), j < k → L[j]? = some g → P g = false) : ∀ (j : Nat) (g : α), j < k + 1 → L[j]? = some g → P g = false := fun j g hj hg => by
  by_cases e : j = k
  · subst e
    rw [hg] at hx
    injection hx with hx
    rw [hx]; exact hp
  · exact hb j g (by omega) hg
theorem before_all {α : Type} {L : List α} {P : α → Bool} {k : Nat} (hk : L.length ≤ k) (hb : ∀ (j : Nat) (g : α), j < k → L[j]? = some g → P g = false) : plc L P = -1 :=
  plc_no (fun j g hg => hb j g (by have := (List.getElem?_eq_some_iff.1 hg).1; omega) hg)

set_option maxRecDepth 10000 in
set_option maxHeartbeats 4000000 in
theorem rafter (v : Value) (s : Sc) (H : Hs) (vh : Value) (id : Int) (w : World) (h : TS GE GT w v s.L) (hl : s.L.length ≤ 1048576) (hh : TS RHE RHT w vh H) (hlh : H.length ≤ 1048576) :
    Calls Try.prog 107 #[.agg (rS s v), vh, .int .i64 id] w fun e w' => e = .returned (.int .i64 (aft s.most s.L H id)) ∧ New9 w w' := by
  have HS := Lib.hid h
  have HH := Lib.hid hh
  have HLH := Lib.hid hlh
  obtain ⟨ao, n, c, hv, hn, _, _⟩ := h.form
  obtain ⟨ah, nh, ch, hvh, hnh, _, _⟩ := hh.form
  have HN := Lib.hid hn
  have hn2 : n ≤ 1048576 := by omega
  clear h hn hl hh hnh hlh
  subst hv hvh
  have hb : Blk (w.alloc (.cells #[.int .i64 s.most, .slice ao n c, .int .i64 s.turn, .bool s.g] GST)) w.heap.size #[.int .i64 s.most, .slice ao n c, .int .i64 s.turn, .bool s.g] GST := Blk.new _ _ _
  have HB := Lib.hid hb
  have H0 : Hid (New9 w (w.alloc (.cells #[.int .i64 s.most, .slice ao n c, .int .i64 s.turn, .bool s.g] GST))) := Lib.hid ((Turns.refl _ _).alloc _)
  clear hb
  go_enter Try.func107, Try.ntmps107
  go_upto_region 1 with fail
  refine (show Code.wp _ _ _ _ (w.alloc (.cells #[.int .i64 s.most, .slice ao n c, .int .i64 s.turn, .bool s.g] GST)) from ?_)
  generalize w.alloc (.cells #[.int .i64 s.most, .slice ao n c, .int .i64 s.turn, .bool s.g] GST) = w2 at *
  generalize w.heap.size = pb at *
  have b1 : w2.cell? ⟨pb, 1, none⟩ = some (.slice ao n c) := HB.out.cell 1
  go_wp2_with fail
  go_loopw [14] (fun i wr => ∃ k : Nat, k ≤ n ∧ i = .int .i64 k ∧ New9 w2 wr ∧ ∀ (j : Nat) (g : Fl), j < k → s.L[j]? = some g → behF s.most H id g = false) (fun i _ => n - (intOf i).toNat)
  case atStart => exact ⟨0, Nat.zero_le _, rfl, Turns.refl _ _, fun j g hj => absurd hj (Nat.not_lt_zero _)⟩
  case round =>
    obtain ⟨k, hk, rfl, hnw, hbf⟩ := hrel
    have HNW := Lib.hid hnw
    have HBF := Lib.hid hbf
    clear hnw hbf b1
    by_cases hlt : k < n
    · obtain ⟨x, hx⟩ : ∃ x, s.L[k]? = some x := ⟨_, List.getElem?_eq_getElem (by have := HN.out; omega)⟩
      have HX := Lib.hid hx
      obtain ⟨g, o, hg, hgl, z0, z1, z2⟩ := flow_at ((HS.out.later H0.out).later HNW.out) hx
      subst hg
      have d1 : decide ((k : Int) < (n : Int)) = true := decide_eq_true (by omega)
      have j1 : (k : Int) < (n : Int) := by omega
      have hw : IntKind.i64.wrap ((k : Int) + 1) = (k : Int) + 1 := IntWalk.i64_in _ (by omega)
      have HN3 : Hid (New9 w2 (wr.alloc (.cells #[.int .i64 x.id, .int .i64 x.share, .int .i64 x.left] GT))) := Lib.hid (HNW.out.alloc _)
      have HBX : Hid (Blk (wr.alloc (.cells #[.int .i64 x.id, .int .i64 x.share, .int .i64 x.left] GT)) wr.heap.size #[.int .i64 x.id, .int .i64 x.share, .int .i64 x.left] GT) := Lib.hid (Blk.new _ _ _)
      clear hx
      go_upto_region 4 with fail
      refine (show Code.wp _ _ _ _ (wr.alloc (.cells #[.int .i64 x.id, .int .i64 x.share, .int .i64 x.left] GT)) from ?_)
      clear z0 z1 z2 hgl
      generalize wr.alloc (.cells #[.int .i64 x.id, .int .i64 x.share, .int .i64 x.left] GT) = w3 at *
      generalize wr.heap.size = px at *
      have y0 : w3.cell? ⟨px, 0, none⟩ = some (.int .i64 x.id) := HBX.out.cell 0
      by_cases hid : id < x.id
      · have d2 : decide (id < x.id) = true := decide_eq_true hid
        obtain ⟨⟨b0, b1, b2, b3⟩, _⟩ := fours (HN3.out.blk HB.out (fun h => h))
        have HSZ := Lib.hid (rsize19 (.slice (some ⟨g, o, none⟩) n c) s H (.slice ah nh ch) x.id w3 ((HH.out.later H0.out).later HN3.out) HLH.out)
        by_cases hz : 0 ≤ szF s.most H x.id
        · have d3 : decide (0 ≤ szF s.most H x.id) = true := decide_eq_true hz
          have HP : Hid (plc s.L (behF s.most H id) = (k : Int)) := Lib.hid (plc_at HX.out (by unfold behF hasF; rw [d2, d3]; rfl) HBF.out)
          clear hz hid
          go_wp2_with fail
          refine HSZ.out.mono ?_
          rintro e w4 ⟨rfl, n4⟩
          have HN4 := Lib.hid (HN3.out.trans (n4.mono (fun _ _ h => h.elim)))
          clear n4
          go_wp2
          go_ret
          exact ⟨by unfold aft; rw [HP.out, if_neg (by omega)]; rfl, H0.out.trans (HN4.out.mono (fun _ _ h => h.elim))⟩
        · have d3 : decide (0 ≤ szF s.most H x.id) = false := decide_eq_false hz
          have HP := Lib.hid (before_succ HX.out (by unfold behF hasF; rw [d2, d3]; rfl) HBF.out)
          clear hz hid
          go_wp2_with fail
          refine HSZ.out.mono ?_
          rintro e w4 ⟨rfl, n4⟩
          have HN4 : Hid (New9 w2 w4) := Lib.hid (HN3.out.trans (n4.mono (fun _ _ h => h.elim)))
          clear n4
          go_wp2_with fail
          go_roundw
          case rel => exact ⟨k + 1, by omega, by push_cast; go_num, HN4.out, HP.out⟩
          case measure => simp [intOf]; omega
      · have d2 : decide (id < x.id) = false := decide_eq_false hid
        have HP := Lib.hid (before_succ HX.out (by unfold behF; rw [d2]; rfl) HBF.out)
        clear hid
        go_wp2_with fail
        go_roundw
        case rel => exact ⟨k + 1, by omega, by push_cast; go_num, HN3.out, HP.out⟩
        case measure => simp [intOf]; omega
    · have d1 : decide ((k : Int) < (n : Int)) = false := decide_eq_false (by omega)
      have d2 : decide (k < n) = false := decide_eq_false hlt
      have HP : Hid (plc s.L (behF s.most H id) = -1) := Lib.hid (before_all (by have := HN.out; omega) HBF.out)
      have b1 : wr.cell? ⟨pb, 1, none⟩ = some (.slice ao n c) := (HNW.out.blk HB.out (fun h => h)).cell 1
      clear hlt hk HBF
      go_wp2_with fail
      go_loopw [36] (fun i wx => ∃ k : Nat, k ≤ n ∧ i = .int .i64 k ∧ New9 w2 wx ∧ ∀ (j : Nat) (g : Fl), j < k → s.L[j]? = some g → hasF s.most H g = false) (fun i _ => n - (intOf i).toNat)
      case atStart => exact ⟨0, Nat.zero_le _, rfl, HNW.out, fun j g hj => absurd hj (Nat.not_lt_zero _)⟩
      case round =>
        obtain ⟨k, hk, rfl, hnw, hbf⟩ := hrel
        have HNX := Lib.hid hnw
        have HBF := Lib.hid hbf
        clear hnw hbf b1 d1 d2 HNW
        by_cases hlt : k < n
        · obtain ⟨x, hx⟩ : ∃ x, s.L[k]? = some x := ⟨_, List.getElem?_eq_getElem (by have := HN.out; omega)⟩
          have HX := Lib.hid hx
          obtain ⟨g, o, hg, hgl, z0, z1, z2⟩ := flow_at ((HS.out.later H0.out).later HNX.out) hx
          subst hg
          have d1 : decide ((k : Int) < (n : Int)) = true := decide_eq_true (by omega)
          have j1 : (k : Int) < (n : Int) := by omega
          have hw : IntKind.i64.wrap ((k : Int) + 1) = (k : Int) + 1 := IntWalk.i64_in _ (by omega)
          have HN3 : Hid (New9 w2 (wr.alloc (.cells #[.int .i64 x.id, .int .i64 x.share, .int .i64 x.left] GT))) := Lib.hid (HNX.out.alloc _)
          have HBX : Hid (Blk (wr.alloc (.cells #[.int .i64 x.id, .int .i64 x.share, .int .i64 x.left] GT)) wr.heap.size #[.int .i64 x.id, .int .i64 x.share, .int .i64 x.left] GT) := Lib.hid (Blk.new _ _ _)
          clear hx
          go_upto_region 10 with fail
          refine (show Code.wp _ _ _ _ (wr.alloc (.cells #[.int .i64 x.id, .int .i64 x.share, .int .i64 x.left] GT)) from ?_)
          clear z0 z1 z2 hgl
          generalize wr.alloc (.cells #[.int .i64 x.id, .int .i64 x.share, .int .i64 x.left] GT) = w3 at *
          generalize wr.heap.size = px at *
          have y0 : w3.cell? ⟨px, 0, none⟩ = some (.int .i64 x.id) := HBX.out.cell 0
          obtain ⟨⟨b0, b1, b2, b3⟩, _⟩ := fours (HN3.out.blk HB.out (fun h => h))
          have HSZ := Lib.hid (rsize19 (.slice (some ⟨g, o, none⟩) n c) s H (.slice ah nh ch) x.id w3 ((HH.out.later H0.out).later HN3.out) HLH.out)
          by_cases hz : 0 ≤ szF s.most H x.id
          · have d3 : decide (0 ≤ szF s.most H x.id) = true := decide_eq_true hz
            have HP2 : Hid (plc s.L (hasF s.most H) = (k : Int)) := Lib.hid (plc_at HX.out d3 HBF.out)
            clear hz
            go_wp2_with fail
            refine HSZ.out.mono ?_
            rintro e w4 ⟨rfl, n4⟩
            have HN4 := Lib.hid (HN3.out.trans (n4.mono (fun _ _ h => h.elim)))
            clear n4
            go_wp2
            go_ret
            exact ⟨by unfold aft; rw [HP.out, if_pos rfl, HP2.out]; rfl, H0.out.trans (HN4.out.mono (fun _ _ h => h.elim))⟩
          · have d3 : decide (0 ≤ szF s.most H x.id) = false := decide_eq_false hz
            have HP2 := Lib.hid (before_succ HX.out (P := hasF s.most H) d3 HBF.out)
            clear hz
            go_wp2_with fail
            refine HSZ.out.mono ?_
            rintro e w4 ⟨rfl, n4⟩
            have HN4 : Hid (New9 w2 w4) := Lib.hid (HN3.out.trans (n4.mono (fun _ _ h => h.elim)))
            clear n4
            go_wp2_with fail
            go_roundw
            case rel => exact ⟨k + 1, by omega, by push_cast; go_num, HN4.out, HP2.out⟩
            case measure => simp [intOf]; omega
        · have d1 : decide ((k : Int) < (n : Int)) = false := decide_eq_false (by omega)
          have d2 : decide (k < n) = false := decide_eq_false hlt
          have HP2 : Hid (plc s.L (hasF s.most H) = -1) := Lib.hid (before_all (by have := HN.out; omega) HBF.out)
          go_wp2
          go_ret
          exact ⟨by unfold aft; rw [HP.out, if_pos rfl, HP2.out]; rfl, H0.out.trans (HNX.out.mono (fun _ _ h => h.elim))⟩
end Go.Proofs.Ytcppibjllaablaa.drr

/-
  The reference of layer 19: whose turn comes next, as the program tells it. Pure.
-/
namespace Go.Proofs.Ytcppibjllaablaa.drr
open Go.RowKit mem
set_option linter.unusedVariables false

def lec (l : List Int) (t : Int) : Nat := l.countP (fun x => decide (x ≤ t))
theorem lec_lt {l : List Int} (hl : l.Pairwise (· < ·)) (t : Int) : l.countP (fun x => decide (x < t)) + (if t ∈ l then 1 else 0) = lec l t := by
  induction l with
  | nil => rfl
  | cons x l ih =>
    obtain ⟨h1, h2⟩ := List.pairwise_cons.1 hl
    have ih := ih h2
    unfold lec at ih ⊢
    rw [List.countP_cons, List.countP_cons]
    by_cases h3 : x < t
    · have hne : ¬ t = x := by omega
      have : (t ∈ x :: l) = (t ∈ l) := by simp [hne]
      simp only [this]
      rw [if_pos (decide_eq_true h3), if_pos (decide_eq_true (by omega : x ≤ t))]
      omega
    · by_cases h4 : x = t
      · subst h4
        have hn : x ∉ l := fun hx => by have := h1 x hx; omega
        have c0 : l.countP (fun y => decide (y < x)) = 0 := List.countP_eq_zero.2 (fun y hy => by have := h1 y hy; simp; omega)
        have c1 : l.countP (fun y => decide (y ≤ x)) = 0 := List.countP_eq_zero.2 (fun y hy => by have := h1 y hy; simp; omega)
        rw [c0, c1, if_neg (by simp), if_pos (by simp), if_pos (by simp)]
      · have hn : t ∉ x :: l := fun hx => by
          rcases List.mem_cons.1 hx with e | e
          · exact h4 e.symm
          · have := h1 t e; omega
        have c0 : l.countP (fun y => decide (y < t)) = 0 := List.countP_eq_zero.2 (fun y hy => by have := h1 y hy; simp; omega)
        have c1 : l.countP (fun y => decide (y ≤ t)) = 0 := List.countP_eq_zero.2 (fun y hy => by have := h1 y hy; simp; omega)
        rw [c0, c1, if_neg (by simp; omega), if_neg hn, if_neg (by simp; omega)]
theorem lec_at {l : List Int} (hl : l.Pairwise (· < ·)) (t : Int) : ∀ (i : Nat) (x : Int), l[i]? = some x → (i < lec l t → x ≤ t) ∧ (lec l t ≤ i → t < x) := by
  induction l with
  | nil => intro i x h; simp at h
  | cons y l ih =>
    obtain ⟨h1, h2⟩ := List.pairwise_cons.1 hl
    intro i x hx
    have hc : lec (y :: l) t = lec l t + (if y ≤ t then 1 else 0) := by unfold lec; rw [List.countP_cons]; simp
    by_cases hy : y ≤ t
    · rw [hc, if_pos hy]
      cases i with
      | zero =>
        have hx' : y = x := by simpa using hx
        subst hx'
        exact ⟨fun _ => hy, fun h => by omega⟩
      | succ i =>
        have := ih h2 i x (by simpa using hx)
        exact ⟨fun h => this.1 (by omega), fun h => this.2 (by omega)⟩
    · have c1 : lec l t = 0 := List.countP_eq_zero.2 (fun z hz => by have := h1 z hz; simp; omega)
      rw [hc, if_neg hy, c1]
      refine ⟨fun h => by omega, fun _ => ?_⟩
      cases i with
      | zero =>
        have hx' : y = x := by simpa using hx
        subst hx'; omega
      | succ i =>
        have := h1 x (List.mem_of_getElem? (by simpa using hx : l[i]? = some x))
        omega
theorem lec_le (l : List Int) (t : Int) : lec l t ≤ l.length := List.countP_le_length
/-- the next number: the least above t, or the least of all -/
theorem next_is {l : List Int} (hl : l.Pairwise (· < ·)) (hne : l ≠ []) (t : Int) : nextId l t ∈ l ∧ ((∃ x ∈ l, t < x) → t < nextId l t ∧ ∀ x ∈ l, t < x → nextId l t ≤ x) ∧ ((∀ x ∈ l, x ≤ t) → ∀ x ∈ l, nextId l t ≤ x) := by
  have hmem := nextId_mem hne t
  have hpos : 0 < l.length := List.length_pos_iff.2 hne
  have hn : nextId l t = l.getD (lec l t % l.length) 0 := by unfold nextId; rw [lec_lt hl t]
  refine ⟨hmem, fun ⟨x, hx, hxt⟩ => ?_, fun hall => ?_⟩
  · obtain ⟨i, hi, rfl⟩ := List.getElem_of_mem hx
    have h1 := lec_at hl t i _ (List.getElem?_eq_getElem hi)
    have hlt : lec l t < l.length := by
      by_cases h : i < lec l t
      · have := h1.1 h; omega
      · omega
    rw [Nat.mod_eq_of_lt hlt, List.getD_eq_getElem?_getD, List.getElem?_eq_getElem hlt] at hn
    have hn' : nextId l t = l[lec l t] := hn
    refine ⟨?_, fun y hy hyt => ?_⟩
    · rw [hn']; exact (lec_at hl t _ _ (List.getElem?_eq_getElem hlt)).2 (Nat.le_refl _)
    · obtain ⟨j, hj, rfl⟩ := List.getElem_of_mem hy
      rw [hn']
      by_cases h : j < lec l t
      · have := (lec_at hl t j _ (List.getElem?_eq_getElem hj)).1 h; omega
      · by_cases e : j = lec l t
        · subst e; exact Int.le_refl _
        · have := List.pairwise_iff_getElem.1 hl (lec l t) j hlt hj (by omega)
          omega
  · have hge : lec l t = l.length := by
      have h1 := lec_le l t
      by_cases h : lec l t < l.length
      · have := (lec_at hl t _ _ (List.getElem?_eq_getElem h)).2 (Nat.le_refl _)
        have := hall _ (List.getElem_mem h)
        omega
      · omega
    rw [hge, Nat.mod_self, List.getD_eq_getElem?_getD, List.getElem?_eq_getElem hpos] at hn
    have hn' : nextId l t = l[0] := hn
    intro x hx
    obtain ⟨j, hj, rfl⟩ := List.getElem_of_mem hx
    rw [hn']
    by_cases e : j = 0
    · subst e; exact Int.le_refl _
    · have := List.pairwise_iff_getElem.1 hl 0 j hpos hj (by omega)
      omega

/-! ### the sizes -/
theorem szF_not {most : Int} {H : Hs} {id : Int} (h : id ∉ ids H) : szF most H id = -1 := by
  unfold szF
  have : ∀ (l : Hs) (n : Int), id ∉ ids l → l.foldl (fun n h => if h.1 = id ∧ 0 ≤ h.2 ∧ h.2 ≤ most then h.2 else n) n = n := by
    intro l
    induction l with
    | nil => intro n _; rfl
    | cons x l ih =>
      intro n hx
      have h1 : ¬ x.1 = id := fun e => hx (by unfold ids; rw [List.map_cons, e]; exact List.mem_cons_self)
      have h2 : id ∉ ids l := fun e => hx (by unfold ids; rw [List.map_cons]; exact List.mem_cons_of_mem _ e)
      rw [List.foldl_cons, if_neg (fun h => h1 h.1)]
      exact ih n h2
  exact this H _ h
theorem szF_mem {most : Int} {H : Hs} (ha : (ids H).Pairwise (· < ·)) (hs : ∀ h ∈ H, 0 ≤ h.2 ∧ h.2 ≤ most) {id : Int} (h : id ∈ ids H) : szF most H id = sizeOf' H id := by
  have key : ∀ (l : Hs) (n : Int), (ids l).Pairwise (· < ·) → (∀ h ∈ l, 0 ≤ h.2 ∧ h.2 ≤ most) → id ∈ ids l → l.foldl (fun n h => if h.1 = id ∧ 0 ≤ h.2 ∧ h.2 ≤ most then h.2 else n) n = sizeOf' l id := by
    intro l
    induction l with
    | nil => intro n _ _ hx; cases hx
    | cons x l ih =>
      intro n hp hs hx
      have hp' : (x.1 :: ids l).Pairwise (· < ·) := hp
      obtain ⟨h1, h2⟩ := List.pairwise_cons.1 hp'
      have hsx := hs x List.mem_cons_self
      rw [List.foldl_cons]
      by_cases e : x.1 = id
      · have hni : id ∉ ids l := fun hx => by have := h1 id hx; omega
        rw [if_pos ⟨e, hsx.1, hsx.2⟩]
        have h3 : ∀ (m : Hs) (n : Int), id ∉ ids m → m.foldl (fun n h => if h.1 = id ∧ 0 ≤ h.2 ∧ h.2 ≤ most then h.2 else n) n = n := by
          intro m
          induction m with
          | nil => intro n _; rfl
          | cons y m ihm =>
            intro n hy
            have g1 : ¬ y.1 = id := fun e => hy (by unfold ids; rw [List.map_cons, e]; exact List.mem_cons_self)
            have g2 : id ∉ ids m := fun e => hy (by unfold ids; rw [List.map_cons]; exact List.mem_cons_of_mem _ e)
            rw [List.foldl_cons, if_neg (fun h => g1 h.1)]
            exact ihm n g2
        rw [h3 l _ hni]
        unfold sizeOf'
        rw [List.find?_cons]
        have : (x.1 == id) = true := by simp [e]
        rw [this]
      · rw [if_neg (fun h => e h.1)]
        have hx' : id ∈ ids l := by
          have : id ∈ x.1 :: ids l := hx
          rcases List.mem_cons.1 this with h | h
          · exact absurd h.symm e
          · exact h
        rw [ih n h2 (fun h hh => hs h (List.mem_cons_of_mem _ hh)) hx']
        unfold sizeOf'
        rw [List.find?_cons]
        have : (x.1 == id) = false := by simp [e]
        rw [this]
  exact key H _ ha hs h
theorem hasF_iff {most : Int} {H : Hs} (ha : (ids H).Pairwise (· < ·)) (hs : ∀ h ∈ H, 0 ≤ h.2 ∧ h.2 ≤ most) (f : Fl) : hasF most H f = decide (f.id ∈ ids H) := by
  unfold hasF
  by_cases h : f.id ∈ ids H
  · rw [szF_mem ha hs h, decide_eq_true h]
    exact decide_eq_true (hs _ (sizeOf_mem h)).1
  · rw [szF_not h, decide_eq_false h]
    rfl
/-- flows by rising numbers -/
def SAsc (L : List Fl) : Prop := (L.map (·.id)).Pairwise (· < ·)
theorem SAsc.lt {L : List Fl} (h : SAsc L) {i j : Nat} {f g : Fl} (hf : L[i]? = some f) (hg : L[j]? = some g) (hij : i < j) : f.id < g.id := by
  have h' := List.pairwise_map.1 h
  obtain ⟨h1, e1⟩ := List.getElem?_eq_some_iff.1 hf
  obtain ⟨h2, e2⟩ := List.getElem?_eq_some_iff.1 hg
  have := List.pairwise_iff_getElem.1 h' i j h1 h2 hij
  rw [e1, e2] at this
  exact this
theorem SAsc.le {L : List Fl} (h : SAsc L) {i j : Nat} {f g : Fl} (hf : L[i]? = some f) (hg : L[j]? = some g) (hij : i ≤ j) : f.id ≤ g.id := by
  by_cases e : i = j
  · subst e
    rw [hf] at hg
    injection hg with hg
    rw [hg]; exact Int.le_refl _
  · have := h.lt hf hg (by omega); omega
theorem SAsc.inj {L : List Fl} (h : SAsc L) {i j : Nat} {f g : Fl} (hf : L[i]? = some f) (hg : L[j]? = some g) (e : f.id = g.id) : i = j := by
  rcases Nat.lt_trichotomy i j with hij | hij | hij
  · have := h.lt hf hg hij; omega
  · exact hij
  · have := h.lt hg hf hij; omega
theorem mem_at {L : List Fl} {f : Fl} (h : f ∈ L) : ∃ i : Nat, L[i]? = some f := by
  obtain ⟨i, hi, e⟩ := List.getElem_of_mem h
  exact ⟨i, by rw [List.getElem?_eq_getElem hi, e]⟩
/-- the place of the next one -/
theorem aft_is {s : Sc} {H : Hs} (ok : Ok s H) (ha : SAsc s.L) (hne : H ≠ []) (t : Int) : ∃ (i : Nat) (f : Fl), aft s.most s.L H t = (i : Int) ∧ s.L[i]? = some f ∧ f.id = nextId (ids H) t := by
  have hids : ids H ≠ [] := fun e => hne (by unfold ids at e; exact List.map_eq_nil_iff.1 e)
  obtain ⟨n1, n2, n3⟩ := next_is ok.asc hids t
  have hfl : ∀ x ∈ ids H, ∃ (j : Nat) (g : Fl), s.L[j]? = some g ∧ g.id = x := fun x hx => by
    obtain ⟨y, hy, rfl⟩ := List.mem_map.1 hx
    obtain ⟨g, hg, e⟩ := ok.fl y hy
    obtain ⟨j, hj⟩ := mem_at hg
    exact ⟨j, g, hj, e⟩
  unfold aft
  rcases plc_cases s.L (behF s.most H t) with ⟨e, hno⟩ | ⟨i, f, e, hf, hp, hb⟩
  · rw [e, if_pos rfl]
    have hall : ∀ x ∈ ids H, x ≤ t := fun x hx => by
      obtain ⟨j, g, hg, rfl⟩ := hfl x hx
      have h1 := hno g (List.mem_of_getElem? hg)
      unfold behF at h1
      rw [hasF_iff ok.asc ok.sz, decide_eq_true hx, Bool.and_true] at h1
      have := of_decide_eq_false h1
      omega
    have hmin := n3 hall
    rcases plc_cases s.L (hasF s.most H) with ⟨e2, hno2⟩ | ⟨i, f, e2, hf, hp, hb⟩
    · obtain ⟨j, g, hg, hgid⟩ := hfl _ n1
      have h1 := hno2 g (List.mem_of_getElem? hg)
      rw [hasF_iff ok.asc ok.sz, hgid, decide_eq_true n1] at h1
      cases h1
    · refine ⟨i, f, e2, hf, ?_⟩
      rw [hasF_iff ok.asc ok.sz] at hp
      have hfm := of_decide_eq_true hp
      have l1 := hmin f.id hfm
      obtain ⟨j, g, hg, hgid⟩ := hfl _ n1
      have hij : i ≤ j := by
        by_cases h : j < i
        · have := hb j g h hg
          rw [hasF_iff ok.asc ok.sz, hgid, decide_eq_true n1] at this
          cases this
        · omega
      have := ha.le hf hg hij
      omega
  · rw [e, if_neg (by omega)]
    refine ⟨i, f, rfl, hf, ?_⟩
    unfold behF at hp
    rw [hasF_iff ok.asc ok.sz, Bool.and_eq_true] at hp
    have p1 := of_decide_eq_true hp.1
    have p2 := of_decide_eq_true hp.2
    obtain ⟨m1, m2⟩ := n2 ⟨f.id, p2, p1⟩
    have l1 := m2 f.id p2 p1
    obtain ⟨j, g, hg, hgid⟩ := hfl _ n1
    have hij : i ≤ j := by
      by_cases h : j < i
      · have := hb j g h hg
        unfold behF at this
        rw [hasF_iff ok.asc ok.sz, hgid, decide_eq_true n1, decide_eq_true m1] at this
        cases this
      · omega
    have := ha.le hf hg hij
    omega
theorem aft_nil {s : Sc} (t : Int) : aft s.most s.L [] t = -1 := by
  unfold aft
  have h1 : plc s.L (behF s.most [] t) = -1 := plc_no (fun j g _ => by unfold behF hasF; rw [szF_not (by simp [ids])]; simp)
  have h2 : plc s.L (hasF s.most []) = -1 := plc_no (fun j g _ => by unfold hasF; rw [szF_not (by simp [ids])]; simp)
  rw [h1, if_pos rfl, h2]
theorem find_is {L : List Fl} (ha : SAsc L) {id : Int} {i : Nat} {f : Fl} (hf : L[i]? = some f) (e : f.id = id) : plc L (fun g => g.id == id) = (i : Int) :=
  plc_at hf (by simp [e]) (fun j g hj hg => by
    have := ha.lt hg hf hj
    simp; omega)
theorem find_not {L : List Fl} {id : Int} (h : ∀ f ∈ L, f.id ≠ id) : plc L (fun g => g.id == id) = -1 :=
  plc_no (fun j g hg => by simpa using h g (List.mem_of_getElem? hg))
theorem SAsc.upd {L : List Fl} (h : SAsc L) (F : Fl → Int) : SAsc (upd L F) := by
  unfold SAsc drr.upd
  rw [List.map_map]
  exact h
theorem upd_at {L : List Fl} {F : Fl → Int} {i : Nat} {f : Fl} (h : L[i]? = some f) : (upd L F)[i]? = some ⟨f.id, f.b, f.share, F f⟩ := by
  unfold upd
  rw [List.getElem?_map, h]; rfl
/-- one flow's balance anew, in its place -/
theorem upd_set {L : List Fl} (ha : SAsc L) {i : Nat} {f : Fl} (hf : L[i]? = some f) (x : Int) : upd L (fun g => if g.id = f.id then x else g.left) = L.set i ⟨f.id, f.b, f.share, x⟩ := by
  apply List.ext_getElem?
  intro j
  unfold upd
  rw [List.getElem?_map, List.getElem?_set]
  by_cases e : i = j
  · subst e
    have hlt := (List.getElem?_eq_some_iff.1 hf).1
    rw [if_pos rfl, if_pos hlt, hf]
    show some (⟨f.id, f.b, f.share, if f.id = f.id then x else f.left⟩ : Fl) = _
    rw [if_pos rfl]
  · rw [if_neg e]
    cases hj : L[j]? with
    | none => rfl
    | some g =>
      have : ¬ g.id = f.id := fun e2 => e (ha.inj hf hj e2.symm)
      show some (⟨g.id, g.b, g.share, if g.id = f.id then x else g.left⟩ : Fl) = some g
      rw [if_neg this]
end Go.Proofs.Ytcppibjllaablaa.drr

/-
  The reference of layer 19: Choose.
-/
namespace Go.Proofs.Ytcppibjllaablaa.drr
open Go.RowKit mem
set_option linter.unusedVariables false

theorem made0G {α : Type} (E : Enc α) {T : TypeId} {W : World} {B : Nat} (h : Blk W B #[] T) : Owns E T W (.slice (some ⟨B, 0, none⟩) 0 0) [] :=
  ⟨by simp [Enc.all], .inr ⟨B, 0, #[], rfl, Nat.zero_le _, h, Nat.le_refl _, Nat.zero_le _, by simp, by simp [Enc.all]⟩⟩
theorem madeG {α : Type} {E : Enc α} {T : TypeId} {w2 W w8 : World} {B : Nat} {v8 : Value} {L : List α} (N : Turns (fun _ => False) w2 W) (hB : w2.heap.size ≤ B) (hown : Owns E T w8 v8 L) (hgrow : W.grownBy w8 (Value.slice (some ⟨B, 0, none⟩) 0 0).ownBlock)
    (hat : v8.ownBlock = (Value.slice (some ⟨B, 0, none⟩) 0 0).ownBlock ∨ v8.ownBlock = some W.heap.size) : Gr E T w2 w8 v8 L := by
  have ht := Turns.of_grown hgrow
  have ht' : Turns (fun k => k = B) W w8 := ht.mono (fun k _ hk => by simp [Value.ownBlock] at hk; omega)
  refine ⟨hown, ?_, N.trans (ht'.mono (fun k _ hk => .inr (by rw [hk]; exact hB)))⟩
  intro g hg
  rcases hat with e | e
  · rw [hg] at e; simp [Value.ownBlock] at e; omega
  · rw [hg] at e; injection e with e; have := N.size; omega
theorem own_free {α : Type} {E : Enc α} {T : TypeId} {w : World} {g n c : Nat} {l : List α} (h : Owns E T w (.slice (some ⟨g, 0, none⟩) n c) l) (i : Nat) : w.frozen? ⟨g, i, none⟩ = false := by
  rcases h.2 with ⟨e, _⟩ | ⟨g', cap, cur, e, _, hb, _⟩
  · injection e with e; cases e
  · injection e with e _ _
    injection e with e
    injection e with e _ _
    subst e
    exact (show Blk w g cur T from hb).free i
theorem Gr.store {α : Type} {E : Enc α} {T : TypeId} {w wr : World} {g n c : Nat} {l : List α} (h : Gr E T w wr (.slice (some ⟨g, 0, none⟩) n c) l) {j i : Nat} {x y : α} (hx : l[j]? = some x) (u : Value) (hi : i < E.n) (hy : E.cs y = (E.cs x).set i u) :
    Gr E T w (wr.setCell ⟨g, j * E.n + i, none⟩ u) (.slice (some ⟨g, 0, none⟩) n c) (l.set j y) :=
  ⟨h.own.setCell rfl hx u hi hy, h.vb, h.n.trans ((Turns.refl (fun k => k = g) wr).setCell (p := ⟨g, j * E.n + i, none⟩) (.inl rfl) u |>.mono (fun k _ hk => .inr (by rw [hk]; exact h.vb g rfl)))⟩
/-- the first k of them made anew -/
def mapK (L : List Fl) (F : Fl → Int) (k : Nat) : List Fl := (upd L F).take k ++ L.drop k
theorem mapK_zero (L : List Fl) (F : Fl → Int) : mapK L F 0 = L := rfl
theorem mapK_len (L : List Fl) (F : Fl → Int) (k : Nat) : (mapK L F k).length = L.length := by
  unfold mapK upd
  rw [List.length_append, List.length_take, List.length_drop, List.length_map]
  omega
theorem mapK_at {L : List Fl} {F : Fl → Int} {k : Nat} (x : Fl) (hx : L[k]? = some x) : (mapK L F k)[k]? = some x := by
  obtain ⟨hk, e⟩ := List.getElem?_eq_some_iff.1 hx
  unfold mapK
  have hl : ((upd L F).take k).length = k := by unfold upd; rw [List.length_take, List.length_map]; omega
  rw [List.getElem?_append_right (by omega), hl, Nat.sub_self, List.getElem?_drop]
  exact hx
theorem mapK_succ {L : List Fl} {F : Fl → Int} {k : Nat} (x : Fl) (hx : L[k]? = some x) : (mapK L F k).set k ⟨x.id, x.b, x.share, F x⟩ = mapK L F (k + 1) := by
  obtain ⟨hk, e⟩ := List.getElem?_eq_some_iff.1 hx
  have hl : ((upd L F).take k).length = k := by unfold upd; rw [List.length_take, List.length_map]; omega
  have hd : L.drop k = x :: L.drop (k + 1) := by rw [List.drop_eq_getElem_cons hk, e]
  have ht : (upd L F).take (k + 1) = (upd L F).take k ++ [⟨x.id, x.b, x.share, F x⟩] := by rw [List.take_add_one, upd_at hx]; rfl
  unfold mapK
  rw [List.set_append, if_neg (by omega), hl, Nat.sub_self, hd, List.set_cons_zero, ht, List.append_assoc]
  rfl
theorem mapK_same {L : List Fl} {F : Fl → Int} {k : Nat} (x : Fl) (hx : L[k]? = some x) (e : F x = x.left) : mapK L F k = mapK L F (k + 1) := by
  rw [← mapK_succ x hx, e]
  have h := mapK_at (F := F) x hx
  exact (List.set_getElem?_self' h).symm
where
  List.set_getElem?_self' {l : List Fl} {k : Nat} {x : Fl} (h : l[k]? = some x) : l.set k ⟨x.id, x.b, x.share, x.left⟩ = l := by
    obtain ⟨hk, e⟩ := List.getElem?_eq_some_iff.1 h
    have : (⟨x.id, x.b, x.share, x.left⟩ : Fl) = l[k] := e.symm
    rw [this, List.set_getElem_self]
theorem mapK_all {L : List Fl} {F : Fl → Int} {k : Nat} (h : L.length ≤ k) : mapK L F k = upd L F := by
  unfold mapK
  rw [List.take_of_length_le (by unfold upd; rw [List.length_map]; exact h), List.drop_of_length_le h, List.append_nil]
theorem Ok.upd' {s : Sc} {H : Hs} (h : Ok s H) (F : Fl → Int) (t : Int) (g : Bool) : Ok ⟨s.most, upd s.L F, t, g⟩ H :=
  ⟨h.asc, fun x hx => by
    obtain ⟨f, hf, e⟩ := h.fl x hx
    exact ⟨_, upd_mem' hf, e⟩, h.sz⟩
theorem Ok.grant {s : Sc} {H : Hs} (h : Ok s H) : Ok (grantS s) H := by
  unfold grantS
  split
  · exact h
  · exact h.upd' _ _ _
theorem SAsc.grant {s : Sc} (h : SAsc s.L) : SAsc (grantS s).L := by
  unfold grantS
  split
  · exact h
  · exact h.upd _
theorem Ok.fir {s : Sc} {H : Hs} (h : Ok s H) : Ok (firS H s) H := by
  unfold firS
  split
  · exact h.upd' _ _ _
  · exact h.upd' _ _ _
theorem fir_L (H : Hs) (s : Sc) : (firS H s).L = upd s.L (forgetF H) := by
  unfold firS
  split <;> rfl
/-- what Choose has made: its copy of the schedule, its result's place, its own row of flows -/
structure Mb (w wx : World) (pb pr : Nat) (v3 : Value) (L : List Fl) (most tt : Int) (g : Bool) : Prop where
  bx : Blk wx pb #[.int .i64 most, v3, .int .i64 tt, .bool g] GST
  rb : Blk wx pr #[.int .i64 0, .slice none 0 0, .int .i64 0, .bool false] GST
  gr : Gr GE GT w wx v3 L
  lo : w.heap.size ≤ pb ∧ w.heap.size ≤ pr ∧ pb ≠ pr
section
variable {w wx w2 : World} {pb pr : Nat} {v3 : Value} {L : List Fl} {most tt : Int} {g : Bool}
theorem Mb.later (h : Mb w wx pb pr v3 L most tt g) (n : New9 wx w2) : Mb w w2 pb pr v3 L most tt g := ⟨n.blk h.bx (fun h => h), n.blk h.rb (fun h => h), h.gr.later n, h.lo⟩
theorem Mb.self (h : Mb w wx pb pr v3 L most tt g) {tt' : Int} {g' : Bool} (hb : Blk w2 pb #[.int .i64 most, v3, .int .i64 tt', .bool g'] GST) (t : Turns (· = pb) wx w2) : Mb w w2 pb pr v3 L most tt' g' :=
  ⟨hb, t.blk h.rb (fun e => h.lo.2.2 e.symm), ⟨h.gr.own.turns t (fun x hx e => (TS.of_owns h.gr.own).off h.bx (by decide) (by rw [hx, e])), h.gr.vb, h.gr.n.trans (t.mono (fun i _ hi => .inr (by rw [hi]; exact h.lo.1)))⟩, h.lo⟩
theorem Mb.set2 (h : Mb w wx pb pr v3 L most tt g) (x : Int) : Mb w (wx.setCell ⟨pb, 2, none⟩ (.int .i64 x)) pb pr v3 L most x g := h.self (h.bx.set 2 _) ((Turns.refl (· = pb) _).setCell (.inl rfl) _)
theorem Mb.set3 (h : Mb w wx pb pr v3 L most tt g) (x : Bool) : Mb w (wx.setCell ⟨pb, 3, none⟩ (.bool x)) pb pr v3 L most tt x := h.self (h.bx.set 3 _) ((Turns.refl (· = pb) _).setCell (.inl rfl) _)
/-- a balance is stored -/
theorem Mb.left {g3 n c3 : Nat} (h : Mb w wx pb pr (.slice (some ⟨g3, 0, none⟩) n c3) L most tt g) {i : Nat} {f : Fl} (hf : L[i]? = some f) (x : Int) : Mb w (wx.setCell ⟨g3, i * 3 + 2, none⟩ (.int .i64 x)) pb pr (.slice (some ⟨g3, 0, none⟩) n c3) (L.set i ⟨f.id, f.b, f.share, x⟩) most tt g := by
  have hp : g3 ≠ pb := fun e => (TS.of_owns h.gr.own).off h.bx (by decide) (by rw [← e]; rfl)
  have hr : g3 ≠ pr := fun e => (TS.of_owns h.gr.own).off h.rb (by decide) (by rw [← e]; rfl)
  have t : Turns (· = g3) wx (wx.setCell ⟨g3, i * 3 + 2, none⟩ (.int .i64 x)) := (Turns.refl (· = g3) _).setCell (.inl rfl) _
  exact ⟨t.blk h.bx (fun e => hp e.symm), t.blk h.rb (fun e => hr e.symm), Gr.store (i := 2) (y := ⟨f.id, f.b, f.share, x⟩) h.gr hf _ (by decide) rfl, h.lo⟩
/-- the result is told -/
theorem Mb.ret (h : Mb w wx pb pr v3 L most tt g) : Blk (puts wx pr 0 [.int .i64 most, v3, .int .i64 tt, .bool g]) pr #[.int .i64 most, v3, .int .i64 tt, .bool g] GST ∧ TS GE GT (puts wx pr 0 [.int .i64 most, v3, .int .i64 tt, .bool g]) v3 L ∧ New9 w (puts wx pr 0 [.int .i64 most, v3, .int .i64 tt, .bool g]) := by
  have t : Turns (· = pr) wx (puts wx pr 0 [.int .i64 most, v3, .int .i64 tt, .bool g]) := puts_turns (S := (· = pr)) (.inl rfl) _ 0 _ (Turns.refl _ _)
  exact ⟨puts_blk _ _ h.rb rfl, (TS.of_owns h.gr.own).turns t (fun x hx e => (TS.of_owns h.gr.own).off h.rb (by decide) (by rw [hx, e])), h.gr.n.trans (t.mono (fun i _ hi => .inr (by rw [hi]; exact h.lo.2.1)))⟩
end
/-- where the loop stands -/
structure Lc (w wr : World) (pb pr g3 n c3 : Nat) (s : Sc) (H : Hs) (j i : Nat) (st : Sc) (f : Fl) (tt : Int) : Prop where
  wh : (j = 0 ∧ st = firS H s) ∨ (j = 1 ∧ st = passS H (grantS (firS H s)) ∧ lowS H (firS H s) = true)
  at_ : st.L[i]? = some f
  id : f.id = st.turn
  mb : Mb w wr pb pr (.slice (some ⟨g3, 0, none⟩) n c3) st.L s.most tt st.g
  ok : st.ok
  okh : Ok st H
  asc : SAsc st.L
  ap : Ap st.L
  mo : st.most = s.most
  inH : st.turn ∈ ids H
/-- what Choose's drawn regions hold on to -/
abbrev HeldZ (w w' : World) (pb g3 o : Nat) (c0 c1 c2 c3 z : Value) : Prop := New9 w w' ∧ pb < w'.heap.size ∧ g3 < w'.heap.size ∧ w'.cell? ⟨pb, 0, none⟩ = some c0 ∧ w'.cell? ⟨pb, 1, none⟩ = some c1 ∧ w'.cell? ⟨pb, 2, none⟩ = some c2 ∧ w'.cell? ⟨pb, 3, none⟩ = some c3 ∧ w'.cell? ⟨g3, o, none⟩ = some z
theorem heldZ_new {w w1 w2 : World} {pb g3 o : Nat} {c0 c1 c2 c3 z : Value} (n : New9 w1 w2) (h : HeldZ w w1 pb g3 o c0 c1 c2 c3 z) : HeldZ w w2 pb g3 o c0 c1 c2 c3 z := by
  obtain ⟨hn, hl, hg, h0, h1, h2, h3, h4⟩ := h
  have c := fun i => n.cell (a := ⟨pb, i, none⟩) hl (fun h => h)
  exact ⟨hn.trans (n.mono (fun _ _ h => h.elim)), Nat.lt_of_lt_of_le hl n.size, Nat.lt_of_lt_of_le hg n.size, (c 0).trans h0, (c 1).trans h1, (c 2).trans h2, (c 3).trans h3, (n.cell (a := ⟨g3, o, none⟩) hg (fun h => h)).trans h4⟩
theorem heldZ_drew {w w1 : World} {pb g3 o : Nat} {c0 c1 c2 c3 z : Value} (h : HeldZ w w1 pb g3 o c0 c1 c2 c3 z) : HeldZ w w1.drew pb g3 o c0 c1 c2 c3 z := by
  obtain ⟨hn, h⟩ := h
  exact ⟨hn.drew, h⟩
abbrev HeldQ (w' : World) (pb : Nat) (c0 c1 c2 c3 : Value) : Prop := w'.cell? ⟨pb, 0, none⟩ = some c0 ∧ w'.cell? ⟨pb, 1, none⟩ = some c1 ∧ w'.cell? ⟨pb, 2, none⟩ = some c2 ∧ w'.cell? ⟨pb, 3, none⟩ = some c3
theorem heldQ_drew {w1 : World} {pb : Nat} {c0 c1 c2 c3 : Value} (h : HeldQ w1 pb c0 c1 c2 c3) : HeldQ w1.drew pb c0 c1 c2 c3 := h
theorem heldQ_store {w1 : World} {pb pr : Nat} {c0 c1 c2 c3 : Value} (hne : pb ≠ pr) (v0 v1 v2 v3 : Value) (h : HeldQ w1 pb c0 c1 c2 c3) : HeldQ ((((w1.setCell ⟨pr, 0, none⟩ v0).setCell ⟨pr, 1, none⟩ v1).setCell ⟨pr, 2, none⟩ v2).setCell ⟨pr, 3, none⟩ v3) pb c0 c1 c2 c3 := by
  obtain ⟨h0, h1, h2, h3⟩ := h
  have t : Turns (· = pr) w1 ((((w1.setCell ⟨pr, 0, none⟩ v0).setCell ⟨pr, 1, none⟩ v1).setCell ⟨pr, 2, none⟩ v2).setCell ⟨pr, 3, none⟩ v3) := ((((Turns.refl (· = pr) w1).setCell (p := ⟨pr, 0, none⟩) (.inl rfl) _).setCell (p := ⟨pr, 1, none⟩) (.inl rfl) _).setCell (p := ⟨pr, 2, none⟩) (.inl rfl) _).setCell (p := ⟨pr, 3, none⟩) (.inl rfl) _
  have hl : pb < w1.heap.size := World.block_lt_of_cell? w1 ⟨pb, 0, none⟩ h0
  have c := fun i => t.cell (a := ⟨pb, i, none⟩) hl hne
  exact ⟨(c 0).trans h0, (c 1).trans h1, (c 2).trans h2, (c 3).trans h3⟩
theorem own_len {α : Type} {E : Enc α} {T : TypeId} {w : World} {ao : Option Addr} {n c : Nat} {l : List α} (h : Owns E T w (.slice ao n c) l) : n = l.length := by
  obtain ⟨_, _, hv, _⟩ := h.form
  injection hv with _ e _
theorem left_at {s : Sc} (ap : Ap s.L) {i : Nat} {f : Fl} (hf : s.L[i]? = some f) : leftOf s f.id = f.left := by
  unfold leftOf
  rw [ap.fnd (List.mem_of_getElem? hf)]
theorem grant_set {st : Sc} (ha : SAsc st.L) {i : Nat} {f : Fl} (hf : st.L[i]? = some f) (hid : f.id = st.turn) (hg : st.g = false) : (grantS st).L = st.L.set i ⟨f.id, f.b, f.share, f.left + f.share⟩ := by
  rw [← upd_set ha hf]
  unfold grantS
  rw [hg]
  show upd st.L _ = upd st.L _
  refine upd_congr (fun g hg => ?_)
  obtain ⟨j, hj⟩ := mem_at hg
  by_cases e : g.id = st.turn
  · have : i = j := ha.inj hf hj (hid.trans e.symm)
    subst this
    rw [hf] at hj
    injection hj with hj
    subst hj
    rw [if_pos e, if_pos rfl]
  · rw [if_neg e, if_neg (fun e2 => e (e2.trans hid))]
theorem grant_true {st : Sc} (hg : st.g = true) : grantS st = st := by unfold grantS; rw [hg]; rfl
theorem choose_run {H : Hs} (h : H ≠ []) (s : Sc) : chooseS H s = runS H (firS H s) := by
  cases H with
  | nil => exact absurd rfl h
  | cons x t => rfl
theorem blkS_ne {w : World} {p g n c : Nat} {l : List Fl} {cs : Array Value} {T : TypeId} (h : Owns GE GT w (.slice (some ⟨g, 0, none⟩) n c) l) (hb : Blk w p cs T) (hT : GT ≠ T) : g ≠ p := fun e => by
  have := (TS.of_owns h).off hb hT
  exact this (by rw [e]; rfl)
end Go.Proofs.Ytcppibjllaablaa.drr

/-
  The reference of layer 19: Take (where the flow whose turn it is has enough).
-/
namespace Go.Proofs.Ytcppibjllaablaa.drr
open Go.RowKit mem
set_option linter.unusedVariables false

theorem take_set {s : Sc} (ha : SAsc s.L) (ap : Ap s.L) {i : Nat} {f : Fl} (hf : s.L[i]? = some f) (hid : f.id = s.turn) (hg : s.g = true) {n : Int} (n0 : 0 ≤ n) (n1 : n ≤ f.left) : takeS n s = ⟨s.most, s.L.set i ⟨f.id, f.b, f.share, f.left - n⟩, s.turn, true⟩ := by
  have hl : leftOf s s.turn = f.left := by rw [← hid]; exact left_at ap hf
  unfold takeS
  rw [if_pos ⟨hg, n0, by rw [hl]; exact n1⟩, hg, ← upd_set ha hf]
  congr 1
  refine upd_congr (fun g hg => ?_)
  obtain ⟨j, hj⟩ := mem_at hg
  by_cases e : g.id = s.turn
  · have : i = j := ha.inj hf hj (hid.trans e.symm)
    subst this
    rw [hf] at hj
    injection hj with hj
    subst hj
    rw [if_pos e, if_pos rfl]
  · rw [if_neg e, if_neg (fun e2 => e (e2.trans hid))]
set_option maxRecDepth 100000 in
set_option maxHeartbeats 4000000 in
theorem rtake (v : Value) (s : Sc) (x : Int) (i : Nat) (f : Fl) (w : World) (h : TS GE GT w v s.L) (hl : s.L.length ≤ 1048576) (asc : SAsc s.L) (ap : Ap s.L) (hf : s.L[i]? = some f) (hid : f.id = s.turn) (hg : s.g = true) (n0 : 0 ≤ x) (n1 : x ≤ f.left) (n2 : f.left ≤ 1099511627776) :
    Calls Try.prog 75 #[.agg (rS s v), .int .i64 x] w fun e w' => ∃ ao n c, e = .returned (.agg (rS (takeS x s) (.slice ao n c))) ∧ TS GE GT w' (.slice ao n c) (takeS x s).L ∧ New9 w w' := by
  have HS := Lib.hid h
  have HT := Lib.hid (take_set asc ap hf hid hg n0 n1)
  have HX := Lib.hid hf
  have HF := Lib.hid (find_is asc hf hid)
  obtain ⟨ao, n, c, hv, hn, _, _⟩ := h.form
  have HN := Lib.hid hn
  have hn2 : n ≤ 1048576 := by omega
  have HLM : Hid (([] : List Fl).length + s.L.length ≤ 1048576) := Lib.hid (by simp; omega)
  have HLN : Hid (s.L.length ≤ 1048576) := Lib.hid hl
  have hil := (List.getElem?_eq_some_iff.1 hf).1
  have j1 : (i : Int) < (n : Int) := by omega
  subst hv
  obtain ⟨g0, o0, hg0, hgl, z0, z1, z2⟩ := flow_at h hf
  subst hg0
  have d1 : decide ((i : Int) < 0) = false := decide_eq_false (by omega)
  have d2 : decide (x < 0) = false := decide_eq_false (by omega)
  have d3 : decide (f.left < x) = false := decide_eq_false (by omega)
  have s1 : IntKind.i64.wrap (f.left - x) = f.left - x := IntWalk.i64_in _ (by omega)
  obtain ⟨smost, sL, sturn, sg⟩ := s
  dsimp only at *
  obtain rfl : sg = true := hg
  clear h hn hl asc ap hf hid n0 n1 n2 hil
  have HB : Hid (Blk ((w.alloc (.cells #[.int .i64 smost, .slice (some ⟨g0, o0, none⟩) n c, .int .i64 sturn, .bool true] GST)).alloc (.cells #[.int .i64 0, .slice none 0 0, .int .i64 0, .bool false] GST)) w.heap.size #[.int .i64 smost, .slice (some ⟨g0, o0, none⟩) n c, .int .i64 sturn, .bool true] GST) := Lib.hid ((Blk.new _ _ _).alloc _)
  have HR : Hid (Blk ((w.alloc (.cells #[.int .i64 smost, .slice (some ⟨g0, o0, none⟩) n c, .int .i64 sturn, .bool true] GST)).alloc (.cells #[.int .i64 0, .slice none 0 0, .int .i64 0, .bool false] GST)) (w.heap.size + 1) #[.int .i64 0, .slice none 0 0, .int .i64 0, .bool false] GST) := Lib.hid (by
    rw [show w.heap.size + 1 = (w.alloc (.cells #[.int .i64 smost, .slice (some ⟨g0, o0, none⟩) n c, .int .i64 sturn, .bool true] GST)).heap.size by simp]
    exact Blk.new _ _ _)
  have H0 : Hid (New9 w ((w.alloc (.cells #[.int .i64 smost, .slice (some ⟨g0, o0, none⟩) n c, .int .i64 sturn, .bool true] GST)).alloc (.cells #[.int .i64 0, .slice none 0 0, .int .i64 0, .bool false] GST))) := Lib.hid (((Turns.refl _ _).alloc _).alloc _)
  have HPP : Hid (w.heap.size ≠ w.heap.size + 1 ∧ w.heap.size ≤ w.heap.size ∧ w.heap.size ≤ w.heap.size + 1) := Lib.hid (by omega)
  go_enter Try.func75, Try.ntmps75
  go_upto_region 1 with fail
  refine (show Code.wp _ _ _ _ ((w.alloc (.cells #[.int .i64 smost, .slice (some ⟨g0, o0, none⟩) n c, .int .i64 sturn, .bool true] GST)).alloc (.cells #[.int .i64 0, .slice none 0 0, .int .i64 0, .bool false] GST)) from ?_)
  clear z0 z1 z2 hgl
  generalize (w.alloc (.cells #[.int .i64 smost, .slice (some ⟨g0, o0, none⟩) n c, .int .i64 sturn, .bool true] GST)).alloc (.cells #[.int .i64 0, .slice none 0 0, .int .i64 0, .bool false] GST) = w2 at *
  obtain ⟨pb, hpb⟩ : ∃ pb, pb = w.heap.size := ⟨_, rfl⟩
  rw [← hpb] at HB HR
  rw [show (w.heap.size ≠ w.heap.size + 1 ∧ w.heap.size ≤ w.heap.size ∧ w.heap.size ≤ w.heap.size + 1) = (pb ≠ pb + 1 ∧ w.heap.size ≤ pb ∧ w.heap.size ≤ pb + 1) by rw [hpb]] at HPP
  rw [← hpb]
  clear hpb
  generalize pb + 1 = pr at *
  obtain ⟨⟨b0, b1, b2, b3⟩, _⟩ := fours HB.out
  have HFD := Lib.hid (rfind (.slice (some ⟨g0, o0, none⟩) n c) ⟨smost, sL, sturn, true⟩ sturn w2 (HS.out.later H0.out) HLN.out)
  have hfe : plc (⟨smost, sL, sturn, true⟩ : Sc).L (fun f => f.id == sturn) = (i : Int) := HF.out
  rw [hfe] at HFD
  clear hfe
  go_wp2_with fail
  refine HFD.out.mono ?_
  rintro e w3 ⟨rfl, n3⟩
  have HN3 := Lib.hid n3
  have HB3 := Lib.hid (n3.blk HB.out (fun h => h))
  have HR3 := Lib.hid (n3.blk HR.out (fun h => h))
  clear n3 b0 b1 b2 b3 HFD HB HR
  obtain ⟨⟨b0, b1, b2, b3⟩, _⟩ := fours HB3.out
  obtain ⟨g1, o1, hg1, hgl, z0, z1, z2⟩ := flow_at ((HS.out.later H0.out).later HN3.out) HX.out
  injection hg1 with hg1
  injection hg1 with hg1 hg2 _
  subst hg1 hg2
  have hpl := HB3.out.lt
  have HO1 : Hid (Owns GE GT (w3.alloc (.cells #[] GT)) (.slice (some ⟨w3.heap.size, 0, none⟩) 0 0) []) := Lib.hid (made0G GE (Blk.new _ _ _))
  have HS1 : Hid (Sub GE 0 (w3.alloc (.cells #[] GT)) (.slice (some ⟨g0, o0, none⟩) n c) sL) := Lib.hid (((HS.out.later H0.out).later HN3.out).later ((Turns.refl _ _).alloc _)).sub
  go_wp2_with (at_builtin; refine wpList_append_sub (E := GE) Try.underlying61 infoG rfl (by decide) (by decide) rfl _ _ rfl _ [] sL rfl HO1.out _ rfl 0 HS1.out HLM.out ?_)
  intro v4 w4 hown hgrow hat
  have hg4 : Gr GE GT w3 w4 v4 sL := madeG ((Turns.refl (fun _ => False) w3).alloc (.cells #[] GT)) (Nat.le_refl _) hown hgrow (by rw [World.size_alloc]; exact hat)
  obtain ⟨a3, c3, hv3, _⟩ := hg4.own.form
  rw [← HN.out] at hv3
  subst hv3
  obtain ⟨g3, hg3, hgl3, hcell⟩ := own_at hg4.own HX.out
  subst hg3
  have HG4 := Lib.hid hg4
  have HMB : Hid (Mb w w4 pb pr (.slice (some ⟨g3, 0, none⟩) n c3) sL smost sturn true ∨ True) := Lib.hid (.inr trivial)
  have y2 := own_free hg4.own (i * 3 + 2)
  have x2 := hcell 2 _ rfl
  change w4.cell? ⟨g3, i * 3 + 2, none⟩ = some (.int .i64 f.left) at x2
  clear hown hgrow hat hg4 HO1 HS1 b0 b1 b2 b3 z0 z1 z2 hgl hpl hcell HMB
  have HB4 := Lib.hid (HG4.out.n.blk HB3.out (fun h => h))
  have HR4 := Lib.hid (HG4.out.n.blk HR3.out (fun h => h))
  have HG5 := Lib.hid (Gr.store (i := 2) (y := ⟨f.id, f.b, f.share, f.left - x⟩) HG4.out HX.out (.int .i64 (f.left - x)) (by decide) rfl)
  obtain ⟨⟨b0, b1, b2, b3⟩, f0, f1, f2, f3⟩ := fours HB4.out
  go_upto_region 6 with fail
  refine (show Code.wp _ _ _ _ (w4.setCell ⟨g3, i * 3 + 2, none⟩ (.int .i64 (f.left - x))) from ?_)
  have HT5 : Hid (Turns (· = g3) w4 (w4.setCell ⟨g3, i * 3 + 2, none⟩ (.int .i64 (f.left - x)))) := Lib.hid ((Turns.refl (· = g3) _).setCell (.inl rfl) _)
  have HGP : Hid (g3 ≠ pb ∧ g3 ≠ pr) := Lib.hid ⟨blkS_ne HG4.out.own HB4.out (by decide), blkS_ne HG4.out.own HR4.out (by decide)⟩
  clear b0 b1 b2 b3 f0 f1 f2 f3 x2 y2 hgl3
  have hsg : w4.setCell ⟨g3, i * 3 + 2, none⟩ (.int .i64 (f.left - x)) = w4.setCell ⟨g3, i * GE.n + 2, none⟩ (.int .i64 (f.left - x)) := rfl
  rw [← hsg] at HG5
  clear hsg
  generalize w4.setCell ⟨g3, i * 3 + 2, none⟩ (.int .i64 (f.left - x)) = w5 at *
  have HB5 := Lib.hid (HT5.out.blk HB4.out (fun e => HGP.out.1 e.symm))
  have HR5 := Lib.hid (HT5.out.blk HR4.out (fun e => HGP.out.2 e.symm))
  obtain ⟨⟨b0, b1, b2, b3⟩, f0, f1, f2, f3⟩ := fours HB5.out
  have T6 : Turns (· = pb) w5 (w5.setCell ⟨pb, 1, none⟩ (.slice (some ⟨g3, 0, none⟩) n c3)) := (Turns.refl (· = pb) _).setCell (.inl rfl) _
  have HM6 : Hid (Mb w (w5.setCell ⟨pb, 1, none⟩ (.slice (some ⟨g3, 0, none⟩) n c3)) pb pr (.slice (some ⟨g3, 0, none⟩) n c3) (sL.set i ⟨f.id, f.b, f.share, f.left - x⟩) smost sturn true) := Lib.hid (by
    have hb6 : Blk (w5.setCell ⟨pb, 1, none⟩ (.slice (some ⟨g3, 0, none⟩) n c3)) pb #[.int .i64 smost, .slice (some ⟨g3, 0, none⟩) n c3, .int .i64 sturn, .bool true] GST := HB5.out.set 1 _
    have hg := HG5.out
    have n30 : New9 w w3 := H0.out.trans (HN3.out.mono (fun _ _ h => h.elim))
    exact ⟨hb6, T6.blk HR5.out (fun e => HPP.out.1 e.symm), ⟨hg.own.turns T6 (fun y hy e => (TS.of_owns hg.own).off HB5.out (by decide) (by rw [hy, e])), fun y hy => Nat.le_trans n30.size (hg.vb y hy), (n30.trans (hg.n.mono (fun _ _ h => h.elim))).trans (T6.mono (fun k _ hk => .inr (by rw [hk]; exact HPP.out.2.1)))⟩, HPP.out.2.1, HPP.out.2.2, HPP.out.1⟩)
  clear T6
  go_upto_region 7 with fail
  refine (show Code.wp _ _ _ _ (w5.setCell ⟨pb, 1, none⟩ (.slice (some ⟨g3, 0, none⟩) n c3)) from ?_)
  clear b0 b1 b2 b3 f0 f1 f2 f3
  generalize w5.setCell ⟨pb, 1, none⟩ (.slice (some ⟨g3, 0, none⟩) n c3) = w6 at *
  obtain ⟨⟨b0, b1, b2, b3⟩, _⟩ := fours HM6.out.bx
  obtain ⟨⟨r0, r1, r2, r3⟩, y0, y1, y2, y3⟩ := fours HM6.out.rb
  have hne := HM6.out.lo.2.2
  have hne' := hne.symm
  have HFI := Lib.hid (HM6.out.ret)
  go_wp2_with fail
  refine (show bodyPost _ _ _ _ _ (puts w6 pr 0 [.int .i64 smost, .slice (some ⟨g3, 0, none⟩) n c3, .int .i64 sturn, .bool true]) from ?_)
  clear b0 b1 b2 b3 r0 r1 r2 r3 y0 y1 y2 y3
  generalize puts w6 pr 0 [.int .i64 smost, .slice (some ⟨g3, 0, none⟩) n c3, .int .i64 sturn, .bool true] = w12 at *
  obtain ⟨⟨e0, e1, e2, e3⟩, _⟩ := fours HFI.out.1
  refine bodyPost_ret (v := .agg #[.int .i64 smost, .slice (some ⟨g3, 0, none⟩) n c3, .int .i64 sturn, .bool true]) (by simp [results, Try.results75, go_sem, e0, e1, e2, e3]) rfl ?_
  exact ⟨some ⟨g3, 0, none⟩, n, c3, by rw [HT.out], by rw [HT.out]; exact HFI.out.2.1, HFI.out.2.2⟩
end Go.Proofs.Ytcppibjllaablaa.drr

/-
  The reference of layer 19: Add.
-/
namespace Go.Proofs.Ytcppibjllaablaa.drr
open Go.RowKit mem
set_option linter.unusedVariables false

/-- put in its place -/
def insF (x : Fl) : List Fl → List Fl
  | [] => [x]
  | f :: l => if x.id < f.id then x :: f :: l else f :: insF x l
/-- is its place found? -/
def donF (x : Fl) (l : List Fl) : Bool := l.any (fun f => decide (x.id < f.id))
def outF (x : Fl) (l : List Fl) : List Fl := if donF x l then insF x l else l
theorem donF_snoc (x : Fl) (l : List Fl) (f : Fl) : donF x (l ++ [f]) = (donF x l || decide (x.id < f.id)) := by
  unfold donF
  rw [List.any_append]
  simp
theorem insF_no {x : Fl} : ∀ {l : List Fl}, donF x l = false → insF x l = l ++ [x]
  | [], _ => rfl
  | f :: l, h => by
    have h1 : decide (x.id < f.id) = false ∧ donF x l = false := by
      unfold donF at h ⊢
      rw [List.any_cons] at h
      simpa using h
    unfold insF
    rw [if_neg (of_decide_eq_false h1.1), insF_no h1.2]
    rfl
theorem insF_snoc {x : Fl} : ∀ {l : List Fl} (f : Fl), donF x l = true → insF x (l ++ [f]) = insF x l ++ [f]
  | [], f, h => by cases h
  | g :: l, f, h => by
    show insF x (g :: (l ++ [f])) = insF x (g :: l) ++ [f]
    unfold insF
    by_cases e : x.id < g.id
    · rw [if_pos e, if_pos e]; rfl
    · rw [if_neg e, if_neg e]
      have h1 : donF x l = true := by
        unfold donF at h ⊢
        rw [List.any_cons, decide_eq_false e, Bool.false_or] at h
        exact h
      rw [insF_snoc f h1]
      rfl
theorem insF_here {x : Fl} : ∀ {l : List Fl} (f : Fl), donF x l = false → x.id < f.id → insF x (l ++ [f]) = l ++ [x] ++ [f]
  | [], f, _, e => by
    show insF x [f] = _
    unfold insF
    rw [if_pos e]; rfl
  | g :: l, f, h, e => by
    have h1 : decide (x.id < g.id) = false ∧ donF x l = false := by
      unfold donF at h ⊢
      rw [List.any_cons] at h
      simpa using h
    show insF x (g :: (l ++ [f])) = _
    unfold insF
    rw [if_neg (of_decide_eq_false h1.1), insF_here f h1.2 e]
    rfl
/-- what is told when f comes -/
def preF (x : Fl) (l : List Fl) (f : Fl) : List Fl := if donF x l = false ∧ x.id < f.id then l ++ [x] else outF x l
theorem outF_snoc (x : Fl) (l : List Fl) (f : Fl) : outF x (l ++ [f]) = preF x l f ++ [f] := by
  unfold outF preF outF
  rw [donF_snoc]
  cases h : donF x l
  · by_cases e : x.id < f.id
    · have := insF_here f h e
      simp [e, this]
    · simp [e]
  · have := insF_snoc f h
    simp [this]
theorem fnd_ins {x : Fl} : ∀ {l : List Fl}, (∀ f ∈ l, f.id ≠ x.id) → ∀ id, fnd (insF x l) id = if id = x.id then some x else fnd l id
  | [], _, id => by
    unfold insF fnd
    by_cases e : id = x.id
    · subst e; simp
    · simp [e, Ne.symm e]
  | f :: l, h, id => by
    have hf := h f List.mem_cons_self
    have ih := fnd_ins (l := l) (fun g hg => h g (List.mem_cons_of_mem _ hg)) id
    unfold insF
    split
    · unfold fnd
      rw [List.find?_cons]
      by_cases e : id = x.id
      · subst e; simp
      · have : (x.id == id) = false := by simp; omega
        rw [this, if_neg e]
    · unfold fnd at ih ⊢
      rw [List.find?_cons, List.find?_cons]
      by_cases e2 : f.id = id
      · have : (f.id == id) = true := by simp [e2]
        rw [this]
        by_cases e : id = x.id
        · exact absurd (e2.trans e) hf
        · rw [if_neg e]
      · have : (f.id == id) = false := by simp [e2]
        rw [this]
        exact ih
theorem insF_len (x : Fl) : ∀ l : List Fl, (insF x l).length = l.length + 1
  | [] => rfl
  | f :: l => by
    unfold insF
    split
    · rfl
    · rw [List.length_cons, insF_len x l]; rfl
theorem outF_len (x : Fl) (l : List Fl) : (outF x l).length ≤ l.length + 1 := by
  unfold outF
  split
  · rw [insF_len]; exact Nat.le_refl _
  · omega
theorem insF_mem {x g : Fl} : ∀ {l : List Fl}, g ∈ insF x l → g = x ∨ g ∈ l
  | [], h => by
    have : g ∈ [x] := h
    simp at this; exact .inl this
  | f :: l, h => by
    unfold insF at h
    split at h
    · rcases List.mem_cons.1 h with h | h
      · exact .inl h
      · exact .inr h
    · rcases List.mem_cons.1 h with h | h
      · exact .inr (by rw [h]; exact List.mem_cons_self)
      · rcases insF_mem h with h | h
        · exact .inl h
        · exact .inr (List.mem_cons_of_mem _ h)
theorem insF_asc {x : Fl} : ∀ {l : List Fl}, SAsc l → (∀ f ∈ l, f.id ≠ x.id) → SAsc (insF x l)
  | [], _, _ => by show SAsc [x]; unfold SAsc; simp
  | f :: l, h, hne => by
    have h' : (f.id :: l.map (·.id)).Pairwise (· < ·) := h
    obtain ⟨h1, h2⟩ := List.pairwise_cons.1 h'
    have hf := hne f List.mem_cons_self
    unfold insF
    split
    next e =>
      show (x.id :: f.id :: l.map (·.id)).Pairwise (· < ·)
      refine List.pairwise_cons.2 ⟨fun y hy => ?_, h'⟩
      rcases List.mem_cons.1 hy with hy | hy
      · rw [hy]; exact e
      · have := h1 y hy; omega
    next e =>
      have ih := insF_asc (l := l) h2 (fun g hg => hne g (List.mem_cons_of_mem _ hg))
      show (f.id :: (insF x l).map (·.id)).Pairwise (· < ·)
      refine List.pairwise_cons.2 ⟨fun y hy => ?_, ih⟩
      obtain ⟨g, hg, rfl⟩ := List.mem_map.1 hy
      rcases insF_mem hg with hg | hg
      · rw [hg]; omega
      · exact h1 _ (List.mem_map.2 ⟨g, hg, rfl⟩)

set_option maxRecDepth 100000 in
set_option maxHeartbeats 4000000 in
theorem radd_bad (v : Value) (s : Sc) (id sh : Int) (w : World) (h : TS GE GT w v s.L) (hl : s.L.length ≤ 1048576) (hb : sh < s.most ∨ 16777216 < sh) :
    Calls Try.prog 91 #[.agg (rS s v), .int .i64 id, .int .i64 sh] w fun e w' => e = .returned (.tuple #[.agg (rS s v), .int .i64 5]) ∧ New9 w w' := by
  obtain ⟨ao, n, c, hv, hn, _, _⟩ := h.form
  subst hv
  clear h hn hl
  have HB : Hid (Blk ((w.alloc (.cells #[.int .i64 s.most, .slice ao n c, .int .i64 s.turn, .bool s.g] GST)).alloc (.cells #[.int .i64 0, .slice none 0 0, .int .i64 0, .bool false] GST)) w.heap.size #[.int .i64 s.most, .slice ao n c, .int .i64 s.turn, .bool s.g] GST) := Lib.hid ((Blk.new _ _ _).alloc _)
  have HR : Hid (Blk ((w.alloc (.cells #[.int .i64 s.most, .slice ao n c, .int .i64 s.turn, .bool s.g] GST)).alloc (.cells #[.int .i64 0, .slice none 0 0, .int .i64 0, .bool false] GST)) (w.heap.size + 1) #[.int .i64 0, .slice none 0 0, .int .i64 0, .bool false] GST) := Lib.hid (by
    rw [show w.heap.size + 1 = (w.alloc (.cells #[.int .i64 s.most, .slice ao n c, .int .i64 s.turn, .bool s.g] GST)).heap.size by simp]
    exact Blk.new _ _ _)
  have H0 : Hid (New9 w ((w.alloc (.cells #[.int .i64 s.most, .slice ao n c, .int .i64 s.turn, .bool s.g] GST)).alloc (.cells #[.int .i64 0, .slice none 0 0, .int .i64 0, .bool false] GST))) := Lib.hid (((Turns.refl _ _).alloc _).alloc _)
  have HPP : Hid (w.heap.size ≠ w.heap.size + 1 ∧ w.heap.size ≤ w.heap.size + 1) := Lib.hid (by omega)
  have hcs : decide (sh < s.most) = true ∨ (decide (sh < s.most) = false ∧ decide (16777216 < sh) = true) := by
    by_cases e : sh < s.most
    · exact .inl (decide_eq_true e)
    · exact .inr ⟨decide_eq_false e, decide_eq_true (hb.resolve_left e)⟩
  clear hb
  go_enter Try.func91, Try.ntmps91
  go_upto_region 1 with fail
  refine (show Code.wp _ _ _ _ ((w.alloc (.cells #[.int .i64 s.most, .slice ao n c, .int .i64 s.turn, .bool s.g] GST)).alloc (.cells #[.int .i64 0, .slice none 0 0, .int .i64 0, .bool false] GST)) from ?_)
  generalize (w.alloc (.cells #[.int .i64 s.most, .slice ao n c, .int .i64 s.turn, .bool s.g] GST)).alloc (.cells #[.int .i64 0, .slice none 0 0, .int .i64 0, .bool false] GST) = w2 at *
  obtain ⟨pb, hpb⟩ : ∃ pb, pb = w.heap.size := ⟨_, rfl⟩
  rw [← hpb] at HB HR
  rw [show (w.heap.size ≠ w.heap.size + 1 ∧ w.heap.size ≤ w.heap.size + 1) = (pb ≠ pb + 1 ∧ w.heap.size ≤ pb + 1) by rw [hpb]] at HPP
  rw [← hpb]
  clear hpb
  generalize pb + 1 = pr at *
  have HFI : Hid (Blk (puts w2 pr 0 [.int .i64 s.most, .slice ao n c, .int .i64 s.turn, .bool s.g]) pr #[.int .i64 s.most, .slice ao n c, .int .i64 s.turn, .bool s.g] GST ∧ New9 w (puts w2 pr 0 [.int .i64 s.most, .slice ao n c, .int .i64 s.turn, .bool s.g])) := Lib.hid (by
    have t : Turns (· = pr) w2 (puts w2 pr 0 [.int .i64 s.most, .slice ao n c, .int .i64 s.turn, .bool s.g]) := puts_turns (S := (· = pr)) (.inl rfl) _ 0 _ (Turns.refl _ _)
    exact ⟨puts_blk _ _ HR.out rfl, H0.out.trans (t.mono (fun k _ hk => .inr (by rw [hk]; exact HPP.out.2)))⟩)
  obtain ⟨⟨b0, b1, b2, b3⟩, _⟩ := fours HB.out
  obtain ⟨⟨r0, r1, r2, r3⟩, y0, y1, y2, y3⟩ := fours HR.out
  have hne := HPP.out.1
  have hne' := hne.symm
  rcases hcs with d1 | ⟨d1, d2⟩
  all_goals
    go_wp2_with fail
    refine (show bodyPost _ _ _ _ _ (puts w2 pr 0 [.int .i64 s.most, .slice ao n c, .int .i64 s.turn, .bool s.g]) from ?_)
    clear b0 b1 b2 b3 r0 r1 r2 r3 y0 y1 y2 y3
    generalize puts w2 pr 0 [.int .i64 s.most, .slice ao n c, .int .i64 s.turn, .bool s.g] = w12 at *
    obtain ⟨⟨e0, e1, e2, e3⟩, _⟩ := fours HFI.out.1
    refine bodyPost_ret (v := .tuple #[.agg #[.int .i64 s.most, .slice ao n c, .int .i64 s.turn, .bool s.g], .int .i64 5]) (by simp [results, Try.results91, go_sem, e0, e1, e2, e3]) rfl ?_
    exact ⟨rfl, HFI.out.2⟩
end Go.Proofs.Ytcppibjllaablaa.drr
