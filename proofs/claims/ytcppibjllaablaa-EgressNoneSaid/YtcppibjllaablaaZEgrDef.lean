/-
  Layer 20's laws: both outlets side by side; what a call of 'Does' keeps.
-/
import Derived.Test.YtcppibjllaablaaZKai
import Derived.Test.YtcppibjllaablaaZKaf
set_option linter.unusedVariables false
set_option linter.unusedSimpArgs false
namespace Go.Proofs.Ytcppibjllaablaa.egr
open Go.RowKit mem
set_option linter.unusedVariables false

abbrev STT : TypeId := 67
abbrev ACT : TypeId := 77
abbrev stS (A : Ad) (r : Eo) (vL vS : Value) (now n : Int) : Array Value := #[.pointer (some ⟨A.o, 0, none⟩), .int .i64 r.frames, .int .i64 r.bytes, .int .i64 r.age, .int .i64 r.most, .int .i64 r.guard, vL, .int .i64 r.s.most, vS, .int .i64 r.s.turn, .bool r.s.g, .int .i64 r.credit, .int .i64 r.row, .int .i64 now, .int .i64 n]
abbrev z15 : Array Value := #[.pointer none, .int .i64 0, .int .i64 0, .int .i64 0, .int .i64 0, .int .i64 0, .slice none 0 0, .int .i64 0, .slice none 0 0, .int .i64 0, .bool false, .int .i64 0, .int .i64 0, .int .i64 0, .int .i64 0]
structure Arg where
  kd : Int
  id : Int
  n : Int
  key : Bool
  video : Bool
abbrev acs (a : Arg) : Array Value := #[.int .i64 a.kd, .int .i64 a.id, .int .i64 a.n, .bool a.key, .bool a.video]
theorem fifteen {w : World} {p : Nat} {a b c d e f g h i j k l m n o : Value} {T : TypeId} (hb : Blk w p #[a, b, c, d, e, f, g, h, i, j, k, l, m, n, o] T) :
    (w.cell? ⟨p, 0, none⟩ = some a ∧ w.cell? ⟨p, 1, none⟩ = some b ∧ w.cell? ⟨p, 2, none⟩ = some c ∧ w.cell? ⟨p, 3, none⟩ = some d ∧ w.cell? ⟨p, 4, none⟩ = some e ∧ w.cell? ⟨p, 5, none⟩ = some f ∧ w.cell? ⟨p, 6, none⟩ = some g ∧ w.cell? ⟨p, 7, none⟩ = some h ∧ w.cell? ⟨p, 8, none⟩ = some i ∧ w.cell? ⟨p, 9, none⟩ = some j ∧ w.cell? ⟨p, 10, none⟩ = some k ∧ w.cell? ⟨p, 11, none⟩ = some l ∧ w.cell? ⟨p, 12, none⟩ = some m ∧ w.cell? ⟨p, 13, none⟩ = some n ∧ w.cell? ⟨p, 14, none⟩ = some o)
    ∧ w.frozen? ⟨p, 0, none⟩ = false ∧ w.frozen? ⟨p, 1, none⟩ = false ∧ w.frozen? ⟨p, 2, none⟩ = false ∧ w.frozen? ⟨p, 3, none⟩ = false ∧ w.frozen? ⟨p, 4, none⟩ = false ∧ w.frozen? ⟨p, 5, none⟩ = false ∧ w.frozen? ⟨p, 6, none⟩ = false ∧ w.frozen? ⟨p, 7, none⟩ = false ∧ w.frozen? ⟨p, 8, none⟩ = false ∧ w.frozen? ⟨p, 9, none⟩ = false ∧ w.frozen? ⟨p, 10, none⟩ = false ∧ w.frozen? ⟨p, 11, none⟩ = false ∧ w.frozen? ⟨p, 12, none⟩ = false ∧ w.frozen? ⟨p, 13, none⟩ = false ∧ w.frozen? ⟨p, 14, none⟩ = false :=
  ⟨⟨hb.cell 0, hb.cell 1, hb.cell 2, hb.cell 3, hb.cell 4, hb.cell 5, hb.cell 6, hb.cell 7, hb.cell 8, hb.cell 9, hb.cell 10, hb.cell 11, hb.cell 12, hb.cell 13, hb.cell 14⟩, hb.free 0, hb.free 1, hb.free 2, hb.free 3, hb.free 4, hb.free 5, hb.free 6, hb.free 7, hb.free 8, hb.free 9, hb.free 10, hb.free 11, hb.free 12, hb.free 13, hb.free 14⟩

/-! ### what the program's calls leave of the reference's memory -/
section
variable {b : Nat} {A : Ad} {w w' w2 : World}
/-- what has turned, exactly -/
theorem Sf.turned (h : Sf b A w w') : Turns (fun i => w'.heap[i]? ≠ w.heap[i]?) w w' :=
  ⟨h.t.os, h.t.tape, h.t.output, h.t.size, fun k hk hn => Classical.byContradiction (fun he => hn he)⟩
theorem Sf.ts (h : Sf b A w w') {α : Type} {E : Enc α} {T : TypeId} {v : Value} {l : List α} (k : TS E T w v l) (a1 : T ≠ OB) (a2 : T ≠ 108) (a3 : T ≠ 37) (a4 : T ≠ 111) (a5 : T ≠ 115) : TS E T w' v l :=
  k.turns h.turned (fun g hg hne => by
    obtain ⟨cs, hb⟩ := k.ty g hg
    exact hne (h.c g cs T hb a1 a2 a3 a4 a5))
theorem Sf.ro (h : Sf b A w w') {vL vS : Value} {L : List Rf} {r : Eo} (k : RO w vL vS L r) : RO w' vL vS L r :=
  ⟨h.ts k.l (by decide) (by decide) (by decide) (by decide) (by decide), fun f hf => h.ts (k.q f hf) (by decide) (by decide) (by decide) (by decide) (by decide), h.ts k.s (by decide) (by decide) (by decide) (by decide) (by decide), k.e, fun f hf => Nat.lt_of_lt_of_le (k.b f hf) h.t.size⟩
end

/-- both outlets, side by side -/
structure Dv (b : Nat) (w wr : World) (A : Ad) (k : Nat) (e : Eo) (vL vS : Value) (L : List Rf) (r : Eo) (now n : Int) : Prop where
  ru : Ru b w wr A k e
  ro : RO wr vL vS L r
  asc : RAsc L
  sa : drr.SAsc r.s.L
  sp : drr.Ap r.s.L
  rq : Rq e r
  tk : ∀ f ∈ L, ∀ x ∈ f.q.L, 0 ≤ x.tick ∧ x.tick ≤ now
/-- how great all is behind i acts -/
structure Dc (i : Nat) (k : Nat) (e r : Eo) (L : List Rf) (now n : Int) : Prop where
  k : k ≤ i
  l : L.length ≤ i
  s : r.s.L.length ≤ i
  n0 : 0 ≤ n
  n1 : n ≤ i
  t0 : 0 ≤ now
  t1 : now ≤ 16 * (i : Int)
  r0 : 0 ≤ e.row
  r1 : e.row ≤ 1000000 * (i : Int)
  fr : r.frames ≤ 8
section
variable {b : Nat} {w wr w2 : World} {A : Ad} {k : Nat} {e r : Eo} {vL vS : Value} {L : List Rf} {now n : Int}
theorem Dv.pu (h : Dv b w wr A k e vL vS L r now n) : Pd L r := Pd.of h.ru.es h.rq h.ro.e h.asc h.sa h.sp
theorem Dv.later (h : Dv b w wr A k e vL vS L r now n) (t : New wr w2) : Dv b w w2 A k e vL vS L r now n :=
  ⟨h.ru.later t, h.ro.later t, h.asc, h.sa, h.sp, h.rq, h.tk⟩
theorem Dv.len (h : Dv b w wr A k e vL vS L r now n) : e.L.length = L.length := by
  have h1 := h.rq.fl
  rw [h.ro.e] at h1
  have h2 := ids_eq h1 h.ru.es.ap.nd h.asc
  have h3 := (idS_perm e.L).length_eq
  rw [h2, List.length_map, List.length_map] at h3
  exact h3.symm
theorem Dv.ids (h : Dv b w wr A k e vL vS L r now n) : idS e.L = L.map (·.id) := by
  have h1 := h.rq.fl
  rw [h.ro.e] at h1
  exact ids_eq h1 h.ru.es.ap.nd h.asc
/-- a flow of the reference, and the program's -/
theorem Dv.flow (h : Dv b w wr A k e vL vS L r now n) {i : Nat} {f : Rf} (hf : L[i]? = some f) : ∃ g ∈ e.L, g.id = f.id ∧ g.video = f.video ∧ g.q = f.q := by
  have h1 := h.rq.fl
  rw [h.ro.e] at h1
  have := fnd20 h.asc hf
  rcases h1.cases f.id with ⟨_, e1⟩ | ⟨g, f', e1, e2, e3, e4⟩
  · rw [e1] at this; cases this
  · rw [this] at e2
    injection e2 with e2
    subst e2
    exact ⟨g, (fnd_some e1).1, (fnd_some e1).2, e3, e4⟩
theorem Dv.none (h : Dv b w wr A k e vL vS L r now n) {id : Int} (hno : ∀ f ∈ L, f.id ≠ id) : fnd e.L id = none := by
  have h1 := h.rq.fl
  rw [h.ro.e] at h1
  rcases h1.cases id with ⟨e1, _⟩ | ⟨g, f', e1, e2, e3, e4⟩
  · exact e1
  · obtain ⟨h2, h3⟩ := fnd_some e2
    obtain ⟨y, hy, rfl⟩ := List.mem_map.1 h2
    exact absurd h3 (hno y hy)
end
theorem has_or (L : List Rf) (id : Int) : (∀ f ∈ L, f.id ≠ id) ∨ ∃ (i : Nat) (f : Rf), L[i]? = some f ∧ f.id = id := by
  by_cases h : ∃ f ∈ L, f.id = id
  · obtain ⟨f, hf, e⟩ := h
    obtain ⟨i, hi⟩ := List.getElem?_of_mem hf
    exact .inr ⟨i, f, hi, e⟩
  · exact .inl (fun f hf e => h ⟨f, hf, e⟩)
theorem tot_len {L : List Rf} (h : ∀ f ∈ L, f.q.L.length ≤ 8) : TotR L ≤ 8 * L.length := by
  unfold TotR
  induction L with
  | nil => exact Nat.le_refl _
  | cons f l ih =>
    have h1 := h f List.mem_cons_self
    have h2 := ih (fun g hg => h g (List.mem_cons_of_mem _ hg))
    rw [List.map_cons, List.sum_cons, List.length_cons]
    omega
theorem tot_lenE {L : List Ef} (h : ∀ f ∈ L, f.q.L.length ≤ 8) : Tot L ≤ 8 * L.length := by
  unfold Tot
  induction L with
  | nil => exact Nat.le_refl _
  | cons f l ih =>
    have h1 := h f List.mem_cons_self
    have h2 := ih (fun g hg => h g (List.mem_cons_of_mem _ hg))
    rw [List.map_cons, List.sum_cons, List.length_cons]
    omega

/-- the three blocks of a call of Does: the state, the act, the answer -/
structure Cx (w w' : World) (pb pa pr : Nat) (A : Ad) (r : Eo) (vL vS : Value) (now n : Int) (a : Arg) : Prop where
  b : Blk w' pb (stS A r vL vS now n) STT
  a : Blk w' pa (acs a) ACT
  r : Blk w' pr z15 STT
  lo : w.heap.size ≤ pb ∧ w.heap.size ≤ pa ∧ w.heap.size ≤ pr ∧ pb ≠ pr ∧ pa ≠ pb ∧ pa ≠ pr
section
variable {w w1 w2 : World} {pb pa pr : Nat} {A : Ad} {r r' : Eo} {vL vS vL' vS' : Value} {now n now' n' : Int} {a : Arg} {b : Nat} {A' : Ad}
theorem Cx.later (h : Cx w w1 pb pa pr A r vL vS now n a) (t : New w1 w2) : Cx w w2 pb pa pr A r vL vS now n a := ⟨t.blk h.b (fun h => h), t.blk h.a (fun h => h), t.blk h.r (fun h => h), h.lo⟩
theorem Cx.sf (h : Cx w w1 pb pa pr A r vL vS now n a) (t : Sf b A' w1 w2) : Cx w w2 pb pa pr A r vL vS now n a := ⟨t.blk h.b (by decide) (by decide) (by decide) (by decide) (by decide), t.blk h.a (by decide) (by decide) (by decide) (by decide) (by decide), t.blk h.r (by decide) (by decide) (by decide) (by decide) (by decide), h.lo⟩
/-- the state's own block turns -/
theorem Cx.self (h : Cx w w1 pb pa pr A r vL vS now n a) (t : Turns (· = pb) w1 w2) (hb : Blk w2 pb (stS A r' vL' vS' now' n') STT) : Cx w w2 pb pa pr A r' vL' vS' now' n' a :=
  ⟨hb, t.blk h.a h.lo.2.2.2.2.1, t.blk h.r h.lo.2.2.2.1.symm, h.lo⟩
theorem Cx.start (w : World) (A : Ad) (r : Eo) (vL vS : Value) (now n : Int) (a : Arg) :
    Cx w (((w.alloc (.cells (stS A r vL vS now n) STT)).alloc (.cells (acs a) ACT)).alloc (.cells z15 STT)) w.heap.size (w.heap.size + 1) (w.heap.size + 1 + 1) A r vL vS now n a ∧ New w (((w.alloc (.cells (stS A r vL vS now n) STT)).alloc (.cells (acs a) ACT)).alloc (.cells z15 STT)) :=
  ⟨⟨((Blk.new _ _ _).alloc _).alloc _, by
    rw [show w.heap.size + 1 = (w.alloc (.cells (stS A r vL vS now n) STT)).heap.size by simp]
    exact (Blk.new _ _ _).alloc _, by
    rw [show w.heap.size + 1 + 1 = ((w.alloc (.cells (stS A r vL vS now n) STT)).alloc (.cells (acs a) ACT)).heap.size by simp]
    exact Blk.new _ _ _, by omega⟩, (((Turns.refl _ _).alloc _).alloc _).alloc _⟩
end
section
variable {b : Nat} {w wr w2 : World} {A : Ad} {k : Nat} {e r : Eo} {vL vS : Value} {L : List Rf} {now n : Int} {p : Nat} {cs : Array Value}
/-- a block of the law's own turns: both outlets stay -/
theorem Es.off (h : Es wr A k e) {T : TypeId} (hb : Blk wr p cs T) (t : Turns (· = p) wr w2) (a1 : T ≠ OB) (a2 : T ≠ 108) (a3 : T ≠ 37) (a4 : T ≠ 111) (a5 : T ≠ 115) (a6 : T ≠ GB) : Es w2 A k e := by
  obtain ⟨c, D, hc, hmp, hr⟩ := h.map
  obtain ⟨c2, D2, hc2, hss⟩ := h.sch
  have off : ∀ {r : Nat} {ds : Array Value} {U : TypeId}, Blk wr r ds U → T ≠ U → ¬ r = p := fun hk hT e2 => blk_ne hk hb (fun e3 => hT e3.symm) e2
  refine ⟨t.blk h.blk (off h.blk a1), ⟨c, D, hc, ownsMap_turns hmp t (fun hk => ownsMap_ne hmp hb hk), hr⟩, fun f hf => t.blk (h.fb f hf) (off (h.fb f hf) a6), fun f hf => (h.qs f hf).turns t (off (h.qs f hf).blk a2) (fun g hg e2 => own_ne (h.qs f hf).own hb (fun e3 => a3 e3.symm) (by rw [hg, e2])), ⟨c2, D2, hc2, hss.turns t (off hss.blk a4) (fun hk => ownsMap_ne hss.map hb hk) (fun f hf => off (hss.fb f hf) a5)⟩, h.ap, h.mm, h.rg, h.cf, h.fq, h.sm, h.vs⟩
theorem Dv.off (h : Dv b w wr A k e vL vS L r now n) {T : TypeId} (hb : Blk wr p cs T) (hb0 : b ≤ w.heap.size) (hp : w.heap.size ≤ p) (t : Turns (· = p) wr w2) (hT : T = STT) : Dv b w w2 A k e vL vS L r now n := by
  subst hT
  refine ⟨⟨h.ru.es.off hb t (by decide) (by decide) (by decide) (by decide) (by decide) (by decide), h.ru.lo, ?_⟩, ?_, h.asc, h.sa, h.sp, h.rq, h.tk⟩
  · exact h.ru.sf.grow hb0 (t.mono (fun i _ hi => by rw [hi]; exact hp))
  · exact ⟨h.ro.l.turns t (fun y hy e => h.ro.l.off hb (by decide) (by rw [hy, e])), fun f hf => (h.ro.q f hf).turns t (fun y hy e => (h.ro.q f hf).off hb (by decide) (by rw [hy, e])), h.ro.s.turns t (fun y hy e => h.ro.s.off hb (by decide) (by rw [hy, e])), h.ro.e, fun f hf => Nat.lt_of_lt_of_le (h.ro.b f hf) t.size⟩
end
/-! ### what the last statements hold on to -/
abbrev HeldS (w w' : World) (pr pb : Nat) (c0 c1 c2 c3 c4 c5 c6 c7 c8 c9 c10 c11 c12 c13 c14 : Value) : Prop :=
  Turns (· = pr) w w' ∧ pb < w'.heap.size ∧ w'.cell? ⟨pb, 0, none⟩ = some c0 ∧ w'.cell? ⟨pb, 1, none⟩ = some c1 ∧ w'.cell? ⟨pb, 2, none⟩ = some c2 ∧ w'.cell? ⟨pb, 3, none⟩ = some c3 ∧ w'.cell? ⟨pb, 4, none⟩ = some c4 ∧ w'.cell? ⟨pb, 5, none⟩ = some c5 ∧ w'.cell? ⟨pb, 6, none⟩ = some c6 ∧ w'.cell? ⟨pb, 7, none⟩ = some c7 ∧ w'.cell? ⟨pb, 8, none⟩ = some c8 ∧ w'.cell? ⟨pb, 9, none⟩ = some c9 ∧ w'.cell? ⟨pb, 10, none⟩ = some c10 ∧ w'.cell? ⟨pb, 11, none⟩ = some c11 ∧ w'.cell? ⟨pb, 12, none⟩ = some c12 ∧ w'.cell? ⟨pb, 13, none⟩ = some c13 ∧ w'.cell? ⟨pb, 14, none⟩ = some c14
section
variable {w w' w1 w2 : World} {pr pb : Nat} {c0 c1 c2 c3 c4 c5 c6 c7 c8 c9 c10 c11 c12 c13 c14 : Value}
theorem heldS_drew (h : HeldS w w' pr pb c0 c1 c2 c3 c4 c5 c6 c7 c8 c9 c10 c11 c12 c13 c14) : HeldS w w'.drew pr pb c0 c1 c2 c3 c4 c5 c6 c7 c8 c9 c10 c11 c12 c13 c14 := by
  obtain ⟨hn, h⟩ := h
  exact ⟨hn.drew, h⟩
theorem heldS_turns (n : Turns (· = pr) w1 w2) (hne : pb ≠ pr) (h : HeldS w w1 pr pb c0 c1 c2 c3 c4 c5 c6 c7 c8 c9 c10 c11 c12 c13 c14) : HeldS w w2 pr pb c0 c1 c2 c3 c4 c5 c6 c7 c8 c9 c10 c11 c12 c13 c14 := by
  obtain ⟨hn, hl, h0, h1, h2, h3, h4, h5, h6, h7, h8, h9, h10, h11, h12, h13, h14⟩ := h
  have c := fun i => n.cell (a := ⟨pb, i, none⟩) hl hne
  exact ⟨hn.trans (n.mono (fun _ _ h => .inl h)), Nat.lt_of_lt_of_le hl n.size, (c 0).trans h0, (c 1).trans h1, (c 2).trans h2, (c 3).trans h3, (c 4).trans h4, (c 5).trans h5, (c 6).trans h6, (c 7).trans h7, (c 8).trans h8, (c 9).trans h9, (c 10).trans h10, (c 11).trans h11, (c 12).trans h12, (c 13).trans h13, (c 14).trans h14⟩
theorem heldS_new (n : New w1 w2) (hne : pb ≠ pr) (h : HeldS w w1 pr pb c0 c1 c2 c3 c4 c5 c6 c7 c8 c9 c10 c11 c12 c13 c14) : HeldS w w2 pr pb c0 c1 c2 c3 c4 c5 c6 c7 c8 c9 c10 c11 c12 c13 c14 := heldS_turns (n.mono (fun _ _ h => h.elim)) hne h
theorem heldS_store (hne : pb ≠ pr) (v0 v1 v2 v3 v4 v5 v6 v7 v8 v9 v10 v11 v12 v13 v14 : Value) (h : HeldS w w1 pr pb c0 c1 c2 c3 c4 c5 c6 c7 c8 c9 c10 c11 c12 c13 c14) :
    HeldS w (((((((((((((((w1.setCell ⟨pr, 0, none⟩ v0).setCell ⟨pr, 1, none⟩ v1).setCell ⟨pr, 2, none⟩ v2).setCell ⟨pr, 3, none⟩ v3).setCell ⟨pr, 4, none⟩ v4).setCell ⟨pr, 5, none⟩ v5).setCell ⟨pr, 6, none⟩ v6).setCell ⟨pr, 7, none⟩ v7).setCell ⟨pr, 8, none⟩ v8).setCell ⟨pr, 9, none⟩ v9).setCell ⟨pr, 10, none⟩ v10).setCell ⟨pr, 11, none⟩ v11).setCell ⟨pr, 12, none⟩ v12).setCell ⟨pr, 13, none⟩ v13).setCell ⟨pr, 14, none⟩ v14) pr pb c0 c1 c2 c3 c4 c5 c6 c7 c8 c9 c10 c11 c12 c13 c14 :=
  heldS_turns (puts_turns (S := (· = pr)) (p := pr) (.inl rfl) [v0, v1, v2, v3, v4, v5, v6, v7, v8, v9, v10, v11, v12, v13, v14] 0 w1 (Turns.refl _ _)) hne h
end
/-- the answer's block, told -/
theorem Cx.fin {b : Nat} {w w1 : World} {pb pa pr : Nat} {A : Ad} {k : Nat} {e r : Eo} {vL vS : Value} {L : List Rf} {now n : Int} {a : Arg} (h : Cx w w1 pb pa pr A r vL vS now n a) (d : Dv b w w1 A k e vL vS L r now n) (hb0 : b ≤ w.heap.size) {w9 : World} (n9 : New w1 w9) : Blk (puts w9 pr 0 (stS A r vL vS now n).toList) pr (stS A r vL vS now n) STT ∧ Dv b w (puts w9 pr 0 (stS A r vL vS now n).toList) A k e vL vS L r now n :=
  ⟨puts_blk _ _ (h.later n9).r rfl, (d.later n9).off (h.later n9).r hb0 h.lo.2.2.1 (puts_turns (S := (· = pr)) (.inl rfl) _ 0 _ (Turns.refl _ _)) rfl⟩

/-- a call on the document's outlet -/
inductive ActR (now n : Int) (a : Arg) : List Rf → Eo → List Rf → Eo → Int → Int → List Snt → Prop
  | no {L : List Rf} {r : Eo} (n' : Int) : n' = n ∨ n' = n + 1 → (a.kd = 4 → False) → (a.kd = 3 → False) → ActR now n a L r L r now n' []
  | put {L : List Rf} {r : Eo} {i : Nat} {f : Rf} (ao : Option Addr) (c : Nat) : a.kd = 1 → L[i]? = some f → f.id = a.id → a.n ≤ r.most → ActR now n a L r (L.set i (f.with (que.putQ f.q (keyed (toE f) ⟨n + 1, a.n, now, a.key⟩)) ao c)) ⟨r.frames, r.bytes, r.age, r.most, r.guard, r.credit, r.row, setQ r.L f.id (.slice none 0 0) (que.putQ f.q (keyed (toE f) ⟨n + 1, a.n, now, a.key⟩)), r.s⟩ now (n + 1) []
  | cred {L : List Rf} {r : Eo} (c : Int) : a.kd = 2 → c = grantI (if a.key = true ∧ 0 ≤ a.id ∧ a.id ≤ r.credit then r.credit - a.id else r.credit) a.n → ActR now n a L r L ⟨r.frames, r.bytes, r.age, r.most, r.guard, c, r.row, r.L, r.s⟩ now n []
  | run {L L' : List Rf} {r r' : Eo} {o : List Snt} : a.kd = 3 → runX (L.map (·.id)) (TotR L) r = (o, r') → L'.map (·.id) = L.map (·.id) → ActR now n a L r L' r' now n o
  | tick {L L' : List Rf} {r r' : Eo} {o : List Snt} : a.kd = 4 → TSteps (now + a.n % 16) r (L.map (·.id)) o r' → ActR now n a L r L' r' (now + a.n % 16) n []
  | add {L : List Rf} {r : Eo} (s : drr.Sc) : a.kd = 5 → (∀ f ∈ L, f.id ≠ a.id) → ActR now n a L r (insR (radX r a.id a.video) L) ⟨r.frames, r.bytes, r.age, r.most, r.guard, r.credit, r.row, (insR (radX r a.id a.video) L).map toE, s⟩ now n []
  | rem {L : List Rf} {r : Eo} {i : Nat} {f : Rf} (s : drr.Sc) : a.kd = 6 → L[i]? = some f → f.id = a.id → ActR now n a L r (L.filter (fun g => g.id != f.id)) (remE r f.id s) now n []
  | brk {L : List Rf} {r : Eo} {i : Nat} {f : Rf} : a.kd = 7 → L[i]? = some f → f.id = a.id → ActR now n a L r (L.set i (f.with (brkQ f.q) none 0)) ⟨r.frames, r.bytes, r.age, r.most, r.guard, r.credit, r.row, setQ r.L f.id (.slice none 0 0) (brkQ f.q), r.s⟩ now n []
/-- an act's numbers -/
structure Ra (a : Arg) : Prop where
  i0 : -9223372036854775808 ≤ a.id
  i1 : a.id ≤ 9223372036854775807
  n0 : -9223372036854775808 ≤ a.n
  n1 : a.n ≤ 9223372036854775807
/-- behind a call of Does -/
def Post (b : Nat) (w : World) (A : Ad) (L : List Rf) (r : Eo) (now n : Int) (a : Arg) (i : Nat) (x : Ending) (w' : World) : Prop :=
  ∃ k' e' vL' vS' L' r' now' n' u o, x = .returned (.tuple #[.agg (stS A r' vL' vS' now' n'), u, .bool true]) ∧ Dv b w w' A k' e' vL' vS' L' r' now' n' ∧ Dc (i + 1) k' e' r' L' now' n' ∧ ActR now n a L r L' r' now' n' o ∧ TS SE RSeT w' u o
/-- behind a call of flows -/
def PostF (b : Nat) (w : World) (A : Ad) (L : List Rf) (r : Eo) (now n : Int) (a : Arg) (i : Nat) (x : Ending) (w' : World) : Prop :=
  ∃ k' e' vL' vS' L' r', x = .returned (.tuple #[.agg (stS A r' vL' vS' now n), .bool true]) ∧ Dv b w w' A k' e' vL' vS' L' r' now n ∧ Dc (i + 1) k' e' r' L' now n ∧ ActR now n a L r L' r' now n []
end Go.Proofs.Ytcppibjllaablaa.egr
