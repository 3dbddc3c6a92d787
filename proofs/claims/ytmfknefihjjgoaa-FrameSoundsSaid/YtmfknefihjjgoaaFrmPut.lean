/-
  A maker's Put.
-/
import Derived.Test.YtmfknefihjjgoaaFrmTake
import Derived.Test.YtmfknefihjjgoaaPuts
import Derived.Deep.AppendLies
import Derived.Deep.RegionLaw
import Derived.Deep.RegionHeld3
import Derived.Deep.QuietTactic
import Derived.BigQuiet
import Derived.OwnWalk
namespace Go.Proofs.Ytmfknefihjjgoaa.frm
open Go.RowKit mem
set_option linter.unusedVariables false

theorem infoU : (Try.prog.info? 43).map (fun i => (i.zero, i.size, i.bytes)) = some (some (.agg #[.int .i64 0, .int .i64 0, .bool false, .bool false, .bool false, .string ⟨#[]⟩, .int .i64 0]), 7, 48) := by kernel_rfl

def dropped (s : Q) : Q := { s with o := [], lo := s.lo + s.o.length }
def base (s : Q) (u : U) : Q := if contB s u = true then s else dropped s
def refused (s : Q) (u : U) : Bool := !contB s u && (s.c.v && !u.st)
def pushed (s : Q) (u : U) : Q := { base s u with o := (base s u).o ++ [u] }
def over (s : Q) : Bool := decide (s.c.n < s.o.length) || decide (s.c.b < size s.o)
def waits (s : Q) (u : U) : Bool := s.c.v && !u.mr
def putS (s : Q) (u : U) : Q :=
  if refused s u = true then { dropped s with lo := (dropped s).lo + 1 } else if over (pushed s u) = true then dropped (pushed s u) else if waits s u = true then pushed s u else { pushed s u with o := [], wh := (pushed s u).wh + 1 }
def putF (s : Q) (u : U) : List U :=
  if refused s u = true then [] else if over (pushed s u) = true then [] else if waits s u = true then [] else (pushed s u).o
def putOk (s : Q) (u : U) : Bool := !refused s u && (!over (pushed s u) && !waits s u)

/-- a maker that k calls have been made on, at the most -/
structure Q.ok (s : Q) (k : Nat) : Prop where
  b0 : 1 ≤ s.c.b
  b1 : s.c.b ≤ 1048576
  n0 : 1 ≤ s.c.n
  n1 : s.c.n ≤ 1024
  w0 : 0 ≤ s.c.w
  w1 : s.c.w ≤ 1099511627776
  ol : (s.o.length : Int) ≤ s.c.n
  sz : (size s.o : Int) ≤ s.c.b
  os : ∀ y ∈ s.o, y.ok
  h0 : 0 ≤ s.wh
  h1 : s.wh ≤ k
  l0 : 0 ≤ s.lo
  l1 : s.lo + s.o.length ≤ k

theorem base_c (s : Q) (u : U) : (base s u).c = s.c := by unfold base dropped; split <;> rfl
theorem base_wh (s : Q) (u : U) : (base s u).wh = s.wh := by unfold base dropped; split <;> rfl
theorem base_ok {s : Q} {k : Nat} (h : s.ok k) (u : U) : (base s u).ok k := by
  unfold base
  split
  · exact h
  · have := h.l0; have := h.l1; have := h.b0; have := h.n0
    refine ⟨h.b0, h.b1, h.n0, h.n1, h.w0, h.w1, ?_, ?_, ?_, h.h0, h.h1, ?_, ?_⟩ <;> simp [dropped, size] <;> omega
theorem pushed_c (s : Q) (u : U) : (pushed s u).c = s.c := base_c s u
theorem pushed_len (s : Q) (u : U) : (pushed s u).o.length = (base s u).o.length + 1 := by simp [pushed]
theorem pushed_size (s : Q) (u : U) : size (pushed s u).o = size (base s u).o + u.x.size := by simp [pushed, size_append, size]

theorem put_ok {s : Q} {k : Nat} (h : s.ok k) (u : U) (hu : u.ok) : (putS s u).ok (k + 1) := by
  have hb := base_ok h u
  have hd : (dropped s).ok k := by
    have := h.l0; have := h.l1; have := h.b0; have := h.n0
    refine ⟨h.b0, h.b1, h.n0, h.n1, h.w0, h.w1, ?_, ?_, ?_, h.h0, h.h1, ?_, ?_⟩ <;> simp [dropped, size] <;> omega
  have hpc := pushed_c s u
  have hpl := pushed_len s u
  have hps := pushed_size s u
  have hbc := base_c s u
  have l0 := hb.l0
  have l1 := hb.l1
  have h0 := hb.h0
  have h1 := hb.h1
  have hplo : (pushed s u).lo = (base s u).lo := rfl
  have hpwh : (pushed s u).wh = (base s u).wh := rfl
  unfold putS
  split
  · have := hd.l0; have := hd.l1; have := hd.h1
    exact ⟨h.b0, h.b1, h.n0, h.n1, h.w0, h.w1, hd.ol, hd.sz, hd.os, hd.h0, by show (dropped s).wh ≤ _; omega, by show 0 ≤ (dropped s).lo + 1; omega, by show (dropped s).lo + 1 + ((dropped s).o.length : Int) ≤ _; omega⟩
  split
  · refine ⟨?_, ?_, ?_, ?_, ?_, ?_, ?_, ?_, ?_, ?_, ?_, ?_, ?_⟩ <;> simp only [dropped, hpc, hplo, hpwh]
    · exact h.b0
    · exact h.b1
    · exact h.n0
    · exact h.n1
    · exact h.w0
    · exact h.w1
    · have := h.n0; simp; omega
    · have := h.b0; simp [size]; omega
    · simp
    · omega
    · omega
    · omega
    · rw [hpl]; simp; omega
  rename_i ho
  have hov : ¬ s.c.n < ((pushed s u).o.length : Int) ∧ ¬ s.c.b < (size (pushed s u).o : Int) := by
    simp only [over, hpc, Bool.or_eq_true, decide_eq_true_eq, not_or] at ho
    exact ho
  split
  · refine ⟨by rw [hpc]; exact h.b0, by rw [hpc]; exact h.b1, by rw [hpc]; exact h.n0, by rw [hpc]; exact h.n1, by rw [hpc]; exact h.w0, by rw [hpc]; exact h.w1, by rw [hpc]; omega, by rw [hpc]; omega, ?_, by omega, by omega, by omega, by rw [hpl, hplo]; omega⟩
    intro y hy
    simp only [pushed, List.mem_append, List.mem_singleton] at hy
    rcases hy with hy | rfl
    · exact hb.os y hy
    · exact hu
  · refine ⟨?_, ?_, ?_, ?_, ?_, ?_, ?_, ?_, ?_, ?_, ?_, ?_, ?_⟩ <;> simp only [hpc, hplo, hpwh]
    · exact h.b0
    · exact h.b1
    · exact h.n0
    · exact h.n1
    · exact h.w0
    · exact h.w1
    · have := h.n0; simp; omega
    · have := h.b0; simp [size]; omega
    · simp
    · omega
    · omega
    · omega
    · simp; omega

/-- the block of a slice is that of another one, or new, or none -/
def From (w : World) (v v' : Value) : Prop := v'.ownBlock = none ∨ v'.ownBlock = v.ownBlock ∨ ∃ g, v'.ownBlock = some g ∧ w.heap.size ≤ g

def PutPost (w w' : World) (p : Nat) (v : Value) (s : Q) (u : U) (e : Ending) : Prop :=
  ∃ v' vr, e = .returned (.tuple #[.agg #[vr], .bool (putOk s u)]) ∧ Turns (fun k => k = p ∨ some k = v.ownBlock) w w' ∧ Mk w' p v' (putS s u) ∧ Row w' vr (putF s u) ∧ From w v v' ∧ From w v vr

theorem From.nil (w : World) (v : Value) : From w v (.slice none 0 0) := .inl rfl
theorem From.refl (w : World) (v : Value) : From w v v := .inr (.inl rfl)

/-- in the middle of a Put -/
structure Mid (w wx : World) (p : Nat) (v v1 : Value) (q : Q) (ucs : List Value) (pu pr : Nat) : Prop where
  m : Mk wx p v1 q
  t : Turns (fun k => k = p ∨ some k = v.ownBlock) w wx
  f : From w v v1
  bu : Blk wx pu ucs.toArray 43
  br : Blk wx pr #[.slice none 0 0] 34
  lp : p < w.heap.size
  lu : w.heap.size ≤ pu
  lr : w.heap.size ≤ pr
  vu : v1.ownBlock ≠ some pu
  vr : v1.ownBlock ≠ some pr
  ne : pu ≠ pr
theorem Mk.drewN {w : World} {p : Nat} {v : Value} {s : Q} (h : Mk w p v s) (n : Nat) : Mk (w.drewN n) p v s := h
theorem Row.drew {w : World} {v : Value} {l : List U} (h : Row w v l) : Row w.drew v l := h
theorem Mid.row {w wx : World} {p : Nat} {v v1 : Value} {q : Q} {ucs : List Value} {pu pr : Nat} (h : Mid w wx p v v1 q ucs pu pr) : Row wx v1 q.o := h.m.2.1
theorem Mid.new {w wx w' : World} {p : Nat} {v v1 : Value} {q : Q} {ucs : List Value} {pu pr : Nat} (h : Mid w wx p v v1 q ucs pu pr) (n : New wx w') : Mid w w' p v v1 q ucs pu pr :=
  ⟨h.m.turns n (fun h => h) (fun _ _ h => h), h.t.trans (n.mono (fun _ _ h => h.elim)), h.f, n.blk h.bu (fun h => h), n.blk h.br (fun h => h), h.lp, h.lu, h.lr, h.vu, h.vr, h.ne⟩
theorem Mid.lost {w wx w' : World} {p : Nat} {v v1 : Value} {q : Q} {ucs : List Value} {pu pr : Nat} (h : Mid w wx p v v1 q ucs pu pr) (n : Lost wx w' p q) : Mid w w' p v (.slice none 0 0) (dropped q) ucs pu pr := by
  have h1 := h.lp; have h2 := h.lu; have h3 := h.lr
  exact ⟨n.2, h.t.trans (n.1.mono (fun _ _ h => .inl (.inl h))), .inl rfl, n.1.blk h.bu (by omega), n.1.blk h.br (by omega), h.lp, h.lu, h.lr, by simp [Value.ownBlock], by simp [Value.ownBlock], h.ne⟩

/-- a counter of the maker is written -/
theorem Mid.lo {w wx : World} {p : Nat} {v v1 : Value} {q : Q} {ucs : List Value} {pu pr : Nat} (h : Mid w wx p v v1 q ucs pu pr) (x : Int) : Mid w (wx.setCell ⟨p, 6, none⟩ (.int .i64 x)) p v v1 { q with lo := x } ucs pu pr := by
  have h1 := h.lp; have h2 := h.lu; have h3 := h.lr
  have ht : Turns (· = p) wx (wx.setCell ⟨p, 6, none⟩ (.int .i64 x)) := (Turns.refl (· = p) _).setCell (.inl rfl) _
  exact ⟨⟨h.m.1.set 6 _, row_self h.m.2.1 h.m.2.2 ht, h.m.2.2⟩, h.t.trans (ht.mono (fun _ _ h => .inl (.inl h))), h.f, ht.blk h.bu (by omega), ht.blk h.br (by omega), h.lp, h.lu, h.lr, h.vu, h.vr, h.ne⟩
theorem Mid.wh {w wx : World} {p : Nat} {v v1 : Value} {q : Q} {ucs : List Value} {pu pr : Nat} (h : Mid w wx p v v1 q ucs pu pr) (x : Int) : Mid w (wx.setCell ⟨p, 5, none⟩ (.int .i64 x)) p v v1 { q with wh := x } ucs pu pr := by
  have h1 := h.lp; have h2 := h.lu; have h3 := h.lr
  have ht : Turns (· = p) wx (wx.setCell ⟨p, 5, none⟩ (.int .i64 x)) := (Turns.refl (· = p) _).setCell (.inl rfl) _
  exact ⟨⟨h.m.1.set 5 _, row_self h.m.2.1 h.m.2.2 ht, h.m.2.2⟩, h.t.trans (ht.mono (fun _ _ h => .inl (.inl h))), h.f, ht.blk h.bu (by omega), ht.blk h.br (by omega), h.lp, h.lu, h.lr, h.vu, h.vr, h.ne⟩

/-- a unit is appended -/
theorem Mid.push {w wx W w1 : World} {p : Nat} {v v1 : Value} {q : Q} {u : U} {pu pr g cap : Nat} (h : Mid w wx p v v1 q u.cs pu pr) (n : New wx W)
    (hown : w1.ownsRow 0 43 7 (.slice (some ⟨g, 0, none⟩) (q.o.length + 1) cap) (q.o.length + 1) (us q.o ++ u.cs)) (hg : W.grownBy w1 v1.ownBlock) (hat : v1.ownBlock = some g ∨ wx.heap.size ≤ g) :
    Mid w (w1.setCell ⟨p, 4, none⟩ (.slice (some ⟨g, 0, none⟩) (q.o.length + 1) cap)) p v (.slice (some ⟨g, 0, none⟩) (q.o.length + 1) cap) { q with o := q.o ++ [u] } u.cs pu pr := by
  have h1 := h.lp; have h2 := h.lu; have h3 := h.lr
  have hv := h.m.2.2
  have hpl := h.m.lt
  have hul := h.bu.lt
  have hrl := h.br.lt
  have hvl := h.m.2.1.lt
  have t1 : Turns (fun k => some k = v1.ownBlock) wx w1 := (n.mono (fun _ _ h => h.elim)).trans ((Turns.of_grown hg).mono (fun _ _ h => .inl h))
  have ht : Turns (· = p) w1 (w1.setCell ⟨p, 4, none⟩ (.slice (some ⟨g, 0, none⟩) (q.o.length + 1) cap)) := (Turns.refl (· = p) _).setCell (.inl rfl) _
  have hsz := h.t.size
  have hgp : g ≠ p := by
    rcases hat with e | e
    · intro e2; exact hv (by rw [e, e2])
    · omega
  have hgu : g ≠ pu := by
    rcases hat with e | e
    · intro e2; exact h.vu (by rw [e, e2])
    · omega
  have hgr : g ≠ pr := by
    rcases hat with e | e
    · intro e2; exact h.vr (by rw [e, e2])
    · omega
  have b1 := t1.blk h.m.1 (fun e => hv e.symm)
  have hrow : Row w1 (.slice (some ⟨g, 0, none⟩) (q.o.length + 1) cap) (q.o ++ [u]) := by
    unfold Row
    rw [us_append, us_one, List.length_append]
    exact hown
  have hob : (Value.slice (some ⟨g, 0, none⟩) (q.o.length + 1) cap).ownBlock = some g := rfl
  refine ⟨⟨b1.set 4 _, row_self hrow (by rw [hob]; simpa using hgp) ht, by rw [hob]; simpa using hgp⟩, ?_, ?_, ht.blk (t1.blk h.bu (fun e => h.vu e.symm)) (by omega), ht.blk (t1.blk h.br (fun e => h.vr e.symm)) (by omega), h.lp, h.lu, h.lr, by rw [hob]; simpa using hgu, by rw [hob]; simpa using hgr, h.ne⟩
  · have t12 : Turns (fun k => k = p ∨ some k = v1.ownBlock) wx (w1.setCell ⟨p, 4, none⟩ (.slice (some ⟨g, 0, none⟩) (q.o.length + 1) cap)) := (t1.mono (fun k _ hk => .inr hk)).trans (ht.mono (fun k _ hk => .inl (.inl hk)))
    refine h.t.trans (t12.mono ?_)
    intro k _ hk
    rcases hk with rfl | hk
    · exact .inl (.inl rfl)
    · rcases h.f with f | f | ⟨g', f, hg'⟩
      · rw [f] at hk; cases hk
      · exact .inl (.inr (hk.trans f))
      · rw [f] at hk; injection hk with hk; exact .inr (by omega)
  · rcases hat with e | e
    · rcases h.f with f | f | ⟨g', f, hg'⟩
      · rw [e] at f; simp at f
      · exact .inr (.inl (by rw [hob, ← e, f]))
      · exact .inr (.inr ⟨g, hob, by rw [e] at f; injection f with f; omega⟩)
    · exact .inr (.inr ⟨g, hob, by omega⟩)

theorem Mid.took {w wx w' : World} {p : Nat} {v v1 : Value} {q : Q} {ucs : List Value} {pu pr : Nat} (h : Mid w wx p v v1 q ucs pu pr) (n : Took wx w' p v1 q) : Mid w w' p v (.slice none 0 0) { q with o := [] } ucs pu pr := by
  have h1 := h.lp; have h2 := h.lu; have h3 := h.lr
  exact ⟨n.2.1, h.t.trans (n.1.mono (fun _ _ h => .inl (.inl h))), .inl rfl, n.1.blk h.bu (by omega), n.1.blk h.br (by omega), h.lp, h.lu, h.lr, by simp [Value.ownBlock], by simp [Value.ownBlock], h.ne⟩

/-- what a region's reads rest on -/
abbrev HeldP (w0 w' : World) (p : Nat) (a b c : Value) : Prop := New w0 w' ∧ p < w'.heap.size ∧ w'.cell? ⟨p, 1, none⟩ = some a ∧ w'.cell? ⟨p, 2, none⟩ = some b ∧ w'.cell? ⟨p, 4, none⟩ = some c
theorem heldP_drew {w0 w' : World} {p : Nat} {a b c : Value} (h : HeldP w0 w' p a b c) : HeldP w0 w'.drew p a b c := ⟨h.1.drew, h.2.1, h.2.2.1, h.2.2.2.1, h.2.2.2.2⟩
theorem heldP_new {w0 w1 w' : World} {p : Nat} {a b c : Value} (n : New w1 w') (h : HeldP w0 w1 p a b c) : HeldP w0 w' p a b c :=
  ⟨h.1.trans (n.mono (fun _ _ h => h.elim)), Nat.lt_of_lt_of_le h.2.1 n.size, (n.cell (a := ⟨p, 1, none⟩) h.2.1 (fun h => h)).trans h.2.2.1, (n.cell (a := ⟨p, 2, none⟩) h.2.1 (fun h => h)).trans h.2.2.2.1, (n.cell (a := ⟨p, 4, none⟩) h.2.1 (fun h => h)).trans h.2.2.2.2⟩

/-- the result is stored -/
theorem Mid.done {w wx : World} {p : Nat} {v v1 : Value} {q : Q} {ucs : List Value} {pu pr : Nat} (h : Mid w wx p v v1 q ucs pu pr) (vr : Value) :
    Turns (fun k => k = p ∨ some k = v.ownBlock) w (wx.setCell ⟨pr, 0, none⟩ vr) ∧ Mk (wx.setCell ⟨pr, 0, none⟩ vr) p v1 q ∧ From w v v1 ∧ (wx.setCell ⟨pr, 0, none⟩ vr).cell? ⟨pr, 0, none⟩ = some vr ∧ Turns (· = pr) wx (wx.setCell ⟨pr, 0, none⟩ vr) := by
  have h1 := h.lp; have h2 := h.lu; have h3 := h.lr
  have ht : Turns (· = pr) wx (wx.setCell ⟨pr, 0, none⟩ vr) := (Turns.refl (· = pr) _).setCell (.inl rfl) _
  exact ⟨h.t.trans (ht.mono (fun k _ hk => .inr (by omega))), h.m.turns ht (by omega) (fun g hg hgp => h.vr (by rw [hg, hgp])), h.f, (h.br.set 0 vr).cell 0, ht⟩

set_option maxHeartbeats 1000000 in
set_option maxRecDepth 100000 in
theorem putC (p : Nat) (v : Value) (s : Q) (u : U) (k : Nat) (w : World) (h : Mk w p v s) (hs : s.ok k) (hk : k ≤ 1000000) (hu : u.ok) :
    Calls Try.prog 16 #[.pointer (some ⟨p, 0, none⟩), .agg u.cs.toArray] w fun e w' => PutPost w w' p v s u e := by
  have hlo : s.o.length ≤ 1000000 := by have := hs.ol; have := hs.n1; omega
  have HC := Lib.hid (fun w h => contC p v s u w h hlo hu hs.os)
  have HL := Lib.hid (fun w h => loseC p v s w h hlo hs.l0 (by have := hs.l1; omega))
  have hm0 : Mid w ((w.alloc (.cells u.cs.toArray 43)).alloc (.cells #[.slice none 0 0] 34)) p v v s u.cs w.heap.size (w.heap.size + 1) := by
    have hpl := h.lt
    have h2 := Blk.new (w.alloc (.cells u.cs.toArray 43)) #[.slice none 0 0] 34
    rw [World.size_alloc] at h2
    have hv := h.2.1.lt
    exact ⟨(h.alloc _).alloc _, ((Turns.refl _ _).alloc _).alloc _, From.refl _ _, (Blk.new w _ _).alloc _, h2, hpl, Nat.le_refl _, Nat.le_succ _, fun e => by have := hv _ e; omega, fun e => by have := hv _ e; omega, by omega⟩
  have HM := Lib.hid hm0
  clear hm0 h
  obtain ⟨ua, ut, um, ust, uk, ux, utk⟩ := u
  simp only [U.cs] at *
  go_enter Try.func16, Try.ntmps16
  go_wp2_with fail
  generalize (w.alloc (.cells #[.int .i64 ua, .int .i64 ut, .bool um, .bool ust, .bool uk, .string ux, .int .i64 utk] 43)).alloc (.cells #[.slice none 0 0] 34) = w2 at *
  generalize w.heap.size + 1 = pr at *
  obtain ⟨pu, hpu⟩ : ∃ pu, pu = w.heap.size := ⟨_, rfl⟩
  rw [← hpu] at HM ⊢
  clear hpu
  refine (HC.out _ HM.out.m).mono ?_
  rintro e w3 ⟨rfl, n3⟩
  have M3 := Lib.hid (HM.out.new n3)
  clear HM n3 w2
  go_upto_if 9 with fail
  obtain ⟨q, hq⟩ : ∃ q, q = base s ⟨ua, ut, um, ust, uk, ux, utk⟩ := ⟨_, rfl⟩
  obtain ⟨rf, hrf⟩ : ∃ rf, rf = refused s ⟨ua, ut, um, ust, uk, ux, utk⟩ := ⟨_, rfl⟩
  have HQ := Lib.hid (And.intro hq hrf)
  clear hq hrf
  go_cut [] (fun wx => rf = false ∧ ∃ v1, Mid w wx p v v1 q [.int .i64 ua, .int .i64 ut, .bool um, .bool ust, .bool uk, .string ux, .int .i64 utk] pu pr)
  case first =>
    obtain ⟨cb, hcb⟩ : ∃ cb, cb = contB s ⟨ua, ut, um, ust, uk, ux, utk⟩ := ⟨_, rfl⟩
    have HCB := Lib.hid hcb
    rw [← hcb]
    clear hcb
    cases cb
    · go_wp2_with fail
      refine (HL.out _ M3.out.m).mono ?_
      rintro e w4 ⟨rfl, l4⟩
      have M4 := Lib.hid (M3.out.lost l4)
      clear M3 l4
      have c0 := M4.out.m.1.cell 0
      have u3 := M4.out.bu.cell 3
      have r0 := M4.out.br.free 0
      have r1 := M4.out.br.cell 0
      have c6 := M4.out.m.1.cell 6
      have f6 := M4.out.m.1.free 6
      have l6 : IntKind.i64.wrap ((dropped s).lo + 1) = (dropped s).lo + 1 := IntWalk.i64_in _ (by have := hs.l0; have := hs.l1; have := hs.h1; simp only [dropped]; omega)
      have hc0 : (dropped s).c.v = s.c.v := rfl
      simp only [mcs] at c0 c6
      rw [hc0] at c0
      generalize hvv : s.c.v = sv at *
      have HV := Lib.hid hvv
      clear hvv
      by_cases hb : sv = true ∧ ust = false
      · obtain ⟨rfl, rfl⟩ := hb
        have hput : Hid (putS s ⟨ua, ut, um, false, uk, ux, utk⟩ = { dropped s with lo := (dropped s).lo + 1 } ∧ putF s ⟨ua, ut, um, false, uk, ux, utk⟩ = [] ∧ putOk s ⟨ua, ut, um, false, uk, ux, utk⟩ = false) := Lib.hid (by
          have : refused s ⟨ua, ut, um, false, uk, ux, utk⟩ = true := by simp [refused, ← HCB.out, HV.out]
          simp [putS, putF, putOk, this])
        have D := Lib.hid ((M4.out.lo ((dropped s).lo + 1)).done (.slice none 0 0))
        clear HQ
        go_wp2
        generalize (w4.setCell ⟨p, 6, none⟩ (.int .i64 ((dropped s).lo + 1))).setCell ⟨pr, 0, none⟩ (.slice none 0 0) = w9 at *
        have d9 := D.out.2.2.2.1
        refine bodyPost_ret (v := .tuple #[.agg #[.slice none 0 0], .bool false]) (by simp [results, Try.results16, go_sem, d9]) rfl ?_
        refine ⟨.slice none 0 0, .slice none 0 0, by rw [hput.out.2.2], D.out.1, by rw [hput.out.1]; exact D.out.2.1, by rw [hput.out.2.1]; exact Row.nil _, From.nil _ _, From.nil _ _⟩
      · have hrf : refused s ⟨ua, ut, um, ust, uk, ux, utk⟩ = false := by
          simp only [refused, ← HCB.out, HV.out]
          cases sv <;> cases ust <;> simp at hb ⊢
        have hqq : base s ⟨ua, ut, um, ust, uk, ux, utk⟩ = dropped s := by simp [base, ← HCB.out]
        have hrel := HQ.out
        rw [hrf, hqq] at hrel
        obtain ⟨rfl, rfl⟩ := hrel
        clear hrf hqq
        cases sv <;> cases ust <;> simp at hb
        all_goals
          go_wp2_with fail
          go_meet
          case rel => exact ⟨by trivial, _, M4.out⟩
    · have hrf : refused s ⟨ua, ut, um, ust, uk, ux, utk⟩ = false := by simp [refused, ← HCB.out]
      have hqq : base s ⟨ua, ut, um, ust, uk, ux, utk⟩ = s := by simp [base, ← HCB.out]
      have hrel := HQ.out
      rw [hrf, hqq] at hrel
      obtain ⟨rfl, rfl⟩ := hrel
      clear hrf hqq
      go_wp2_with fail
      go_meet
      case rel => exact ⟨by trivial, _, M3.out⟩
  case rest =>
    obtain ⟨hrf, v1, hm⟩ := hcut
    have HRF : Hid (refused s ⟨ua, ut, um, ust, uk, ux, utk⟩ = false) := Lib.hid (by rw [← HQ.out.2]; exact hrf)
    have HQB := Lib.hid HQ.out.1
    clear HQ HC HL M3 hrf
    have hqo : Hid (q.ok k) := Lib.hid (by rw [HQB.out]; exact base_ok hs _)
    have hql : (q.o.length : Int) + 1 ≤ 1025 := by have := hqo.out.ol; have := hqo.out.n1; omega
    obtain ⟨i0, hi, hz0, hz1, hz2⟩ := info_parts infoU
    have c4 := hm.m.1.cell 4
    have f4 := hm.m.1.free 4
    obtain ⟨u0, u1, u2, u3, u4, u5', u6'⟩ : _ ∧ _ ∧ _ ∧ _ ∧ _ ∧ _ ∧ _ := ⟨hm.bu.cell 0, hm.bu.cell 1, hm.bu.cell 2, hm.bu.cell 3, hm.bu.cell 4, hm.bu.cell 5, hm.bu.cell 6⟩
    have HM4 := Lib.hid hm
    have hown : wc.ownsRow 0 43 7 v1 q.o.length (us q.o) := hm.m.2.1
    have hne := hm.m.2.2
    have hpw := hm.m.lt
    have hform := hm.m.2.1.form
    obtain ⟨ao, cc, hv1, hx⟩ := hform
    clear hm hx
    subst hv1
    go_wp2_with fail
    go_cut [] (fun wx => ∃ g cap, Mid w wx p v (.slice (some ⟨g, 0, none⟩) (q.o.length + 1) cap) { q with o := q.o ++ [⟨ua, ut, um, ust, uk, ux, utk⟩] } [.int .i64 ua, .int .i64 ut, .bool um, .bool ust, .bool uk, .string ux, .int .i64 utk] pu pr)
    case first =>
      go_region_law
        ((refine step_append_lies _ (by rfl) _ _ _ (by rfl) 0 43 i0 _ 7 48 Try.underlying32 hi hz0 hz1 hz2 rfl (by decide) (.slice ao q.o.length cc) _ _ (by rfl) ((World.ownsRow.alloc hown _).drew)
                ⟨wc.heap.size, 0, none⟩ 1 1 [.int .i64 ua, .int .i64 ut, .bool um, .bool ust, .bool uk, .string ux, .int .i64 utk] (by rfl) (by rfl) (World.news_of_block (cs := #[.int .i64 ua, .int .i64 ut, .bool um, .bool ust, .bool uk, .string ux, .int .i64 utk]) (t := 43) (fr := (0, 0)) (heap_alloc_new wc _)) (by simp [Value.oneCell'])
                (by omega) (by unfold maxLen; omega) (by omega) (Nat.zero_le _) (wc.heap.size + 1) (by simp) ?_; intro g cap w1 hown1 hgrow hat hlt2; have hc1 : w1.cell? ⟨p, 4, none⟩ = some (.slice ao q.o.length cc) := (hgrow.cell_far ⟨p, 4, none⟩ (by simp; omega) (fun h => hne h.symm)).trans ((World.cell?_alloc_past _ _ _ hpw).trans c4); have hf1 : w1.frozen? ⟨p, 4, none⟩ = false := (hgrow.frozen_far ⟨p, 4, none⟩ (by simp; omega) (fun h => hne h.symm)).trans ((World.frozen?_alloc_past _ _ _ hpw).trans f4)))
      all_goals
        have M5 := Lib.hid (HM4.out.push (u := ⟨ua, ut, um, ust, uk, ux, utk⟩) (((Turns.refl _ wc).alloc _).drew) hown1 hgrow (by rcases hat with h | h; exact .inl h; exact .inr (by omega)))
        go_wp2_with fail
        go_meet
        case rel => exact ⟨_, _, M5.out⟩
    case rest =>
      obtain ⟨g, cap, hm⟩ := hcut
      obtain ⟨q2, hq2⟩ : ∃ q2, q2 = pushed s ⟨ua, ut, um, ust, uk, ux, utk⟩ := ⟨_, rfl⟩
      have hqq : ({ q with o := q.o ++ [⟨ua, ut, um, ust, uk, ux, utk⟩] } : Q) = q2 := by rw [hq2, pushed, HQB.out]
      have hlen : q2.o.length = q.o.length + 1 := by rw [← hqq]; simp
      rw [hqq, ← hlen] at hm
      have hsz : size q2.o ≤ 1000000000000 := by
        have := hqo.out.sz; have := hqo.out.b1; have hx1 : ux.size ≤ 1048576 := hu.x1
        rw [← hqq]; simp only [size_append, size]; omega
      have hl2 : q2.o.length ≤ 1000000 := by omega
      have hc2 : q2.c = s.c := by rw [hq2]; exact pushed_c _ _
      have HQ2 := Lib.hid hq2
      have hl0 : 0 ≤ q2.lo ∧ q2.lo ≤ 1000000000 ∧ 0 ≤ q2.wh ∧ q2.wh ≤ 1000000000 := by
        have := hqo.out.l0; have := hqo.out.l1; have := hqo.out.h0; have := hqo.out.h1
        rw [← hqq]; simp only; omega
      obtain ⟨l0, l1, h0, h1⟩ := hl0
      have HO := Lib.hid (fun w h => openC p (.slice (some ⟨g, 0, none⟩) q2.o.length cap) q2 w h)
      have HZ := Lib.hid (fun w h => sizeC (.slice (some ⟨g, 0, none⟩) q2.o.length cap) q2.o w h hl2 hsz)
      have HL := Lib.hid (fun w h => loseC p (.slice (some ⟨g, 0, none⟩) q2.o.length cap) q2 w h hl2 l0 l1)
      clear hqq hq2 hlen hown HM4 u0 u1 u2 u3 u4 u5' u6' c4 f4 hi hz0 hz1 hz2 hne hpw HQB hqo hql
      have c1 := hm.m.1.cell 1
      have c2 := hm.m.1.cell 2
      have c4 := hm.m.1.cell 4
      have hpw := hm.m.lt
      simp only [mcs, hc2] at c1 c2 c4
      have cb0 := hs.b0
      have cb1 := hs.b1
      have cn0 := hs.n0
      have cn1 := hs.n1
      generalize hcb : s.c.b = b at *
      generalize hcn : s.c.n = n at *
      have hov : over q2 = (decide (n < q2.o.length) || decide (b < size q2.o)) := by rw [over, hc2, hcb, hcn]
      obtain ⟨ov, hoe⟩ : ∃ ov, ov = over q2 := ⟨_, rfl⟩
      rw [← hoe] at hov
      have HOV := Lib.hid hov
      have HOE := Lib.hid hoe
      have HM := Lib.hid hm
      have hm1 : ∀ w', New wc w' → w'.cell? ⟨p, 1, none⟩ = some (.int .i64 b) := fun w' hn => (hn.cell (a := ⟨p, 1, none⟩) hpw (fun h => h)).trans c1
      have hh : HeldP wc wc p (.int .i64 b) (.int .i64 n) (.slice (some ⟨g, 0, none⟩) q2.o.length cap) := ⟨Turns.refl _ _, hpw, c1, c2, c4⟩
      clear hm hov hm1 hoe
      go_wp2_with fail
      go_cut [62] (fun v62 wx => v62 = .bool ov ∧ Mid w wx p v (.slice (some ⟨g, 0, none⟩) q2.o.length cap) q2 [.int .i64 ua, .int .i64 ut, .bool um, .bool ust, .bool uk, .string ux, .int .i64 utk] pu pr)
      case first =>
        have HOVV := HOV.out
        clear HOE
        generalize hzz : size q2.o = z at *
        generalize hll : q2.o.length = m at *
        have HLL := Lib.hid (And.intro hzz hll)
        have HOW := Lib.hid HOVV
        clear hzz hll HOV HOVV
        by_cases hn : n < m
        · have hd : decide (n < (m : Int)) = true := by simp [hn]
          go_quiet ((go_at_call 12; exact Calls.quiet_of_same ((HO.out _ (HM.out.m.drewN _)).mono (fun _ _ h => And.intro h.1 h.2.symm))))
          go_wp2_with fail
          go_meet
          case rel => exact ⟨by rw [HOW.out, hd]; simp, HM.out.new (by (repeat (first | (refine Turns.alloc ?_ _) | (refine Turns.drewN ?_ _) | (refine Turns.drew ?_))); exact Turns.refl _ _)⟩
        · have hd : decide (n < (m : Int)) = false := by simp; omega
          by_cases hb : b < z
          all_goals
            go_region_held3 (fun w' => New wc w' ∧ p < w'.heap.size ∧ w'.cell? ⟨p, 1, none⟩ = some (.int .i64 b) ∧ w'.cell? ⟨p, 2, none⟩ = some (.int .i64 n) ∧ w'.cell? ⟨p, 4, none⟩ = some (.slice (some ⟨g, 0, none⟩) m cap))
              (first
                | (with_reducible assumption)
                | ((with_reducible refine heldP_drew ?_); with_reducible assumption)
                | ((with_reducible refine heldP_new (by assumption) ?_); with_reducible assumption)
                | ((with_reducible refine heldP_new (by assumption) (heldP_drew ?_)); with_reducible assumption))
              (first
                | (go_at_call 12; (with_reducible refine (HO.out _ (by first | exact HM.out.m | exact HM.out.m.drew)).mono ?_); rintro e w' ⟨rfl, rfl⟩)
                | (go_at_call 17; (with_reducible refine (HZ.out _ (by first | exact HM.out.row | exact HM.out.row.drew)).mono ?_); rintro e w5 ⟨rfl, n5⟩))
            all_goals
              rename_i hHl
              go_wp2_with fail
              go_meet
              case rel => exact ⟨by rw [HOW.out, hd]; simp [hb], HM.out.new hHl.1⟩
      case rest =>
        obtain ⟨rfl, hm⟩ := hcut
        have HM := Lib.hid hm
        clear hm hh
        cases ov
        · have hv0 := HM.out.m.1.cell 0
          have u2 := HM.out.bu.cell 2
          simp only [mcs, hc2] at hv0
          have r0 := HM.out.br.free 0
          have r1 := HM.out.br.cell 0
          have h1' := HRF.out
          have h2' := HOE.out
          rw [HQ2.out] at h2'
          have hpre : Hid (∀ (b : Bool), waits s ⟨ua, ut, um, ust, uk, ux, utk⟩ = b → putS s ⟨ua, ut, um, ust, uk, ux, utk⟩ = (if b then q2 else { q2 with o := [], wh := q2.wh + 1 }) ∧ putF s ⟨ua, ut, um, ust, uk, ux, utk⟩ = (if b then [] else q2.o) ∧ putOk s ⟨ua, ut, um, ust, uk, ux, utk⟩ = !b) := Lib.hid (fun b hb => by
            rw [HQ2.out]
            subst hb
            simp only [putS, putF, putOk, h1', ← h2']
            simp)
          generalize hsv : s.c.v = sv at *
          have HSV := Lib.hid hsv
          clear hsv h1' h2' HL HO HZ HRF HOV HOE
          by_cases hwt : sv = true ∧ um = false
          · obtain ⟨rfl, rfl⟩ := hwt
            have hput := Lib.hid (hpre.out true (by simp [waits, HSV.out]))
            have D := Lib.hid (HM.out.done (.slice none 0 0))
            clear hpre
            go_wp2
            generalize wc.setCell ⟨pr, 0, none⟩ (.slice none 0 0) = w9 at *
            have d9 := D.out.2.2.2.1
            refine bodyPost_ret (v := .tuple #[.agg #[.slice none 0 0], .bool false]) (by simp [results, Try.results16, go_sem, d9]) rfl ?_
            exact ⟨_, .slice none 0 0, by rw [hput.out.2.2]; rfl, D.out.1, by rw [hput.out.1]; exact D.out.2.1, by rw [hput.out.2.1]; exact Row.nil _, D.out.2.2.1, From.nil _ _⟩
          · have hput := Lib.hid (hpre.out false (by simp only [waits, HSV.out]; cases sv <;> cases um <;> simp at hwt ⊢))
            have d5 := HM.out.m.1.cell 5
            have f5 := HM.out.m.1.free 5
            have l6 : IntKind.i64.wrap (q2.wh + 1) = q2.wh + 1 := IntWalk.i64_in _ (by omega)
            have MW := Lib.hid (HM.out.wh (q2.wh + 1))
            clear HM hpre
            cases sv <;> cases um <;> simp at hwt
            all_goals
              go_wp2_with fail
              generalize wc.setCell ⟨p, 5, none⟩ (.int .i64 (q2.wh + 1)) = w6 at *
              refine (takeC p _ _ w6 MW.out.m).mono ?_
              rintro e w7 ⟨rfl, tk⟩
              have M7 := MW.out.took tk
              have D := Lib.hid (M7.done (.slice (some ⟨g, 0, none⟩) q2.o.length cap))
              have r0 := M7.br.free 0
              have r1 := M7.br.cell 0
              have hrow := Lib.hid (tk.2.2.turns D.out.2.2.2.2 (fun g' hg' hgp => MW.out.vr (by rw [hg', hgp])))
              have hfr := Lib.hid MW.out.f
              clear M7 tk MW
              go_wp2
              generalize w7.setCell ⟨pr, 0, none⟩ (.slice (some ⟨g, 0, none⟩) q2.o.length cap) = w9 at *
              have d9 := D.out.2.2.2.1
              refine bodyPost_ret (v := .tuple #[.agg #[.slice (some ⟨g, 0, none⟩) q2.o.length cap], .bool true]) (by simp [results, Try.results16, go_sem, d9]) rfl ?_
              exact ⟨.slice none 0 0, _, by rw [hput.out.2.2]; rfl, D.out.1, by rw [hput.out.1]; exact D.out.2.1, by rw [hput.out.2.1]; exact hrow.out, From.nil _ _, hfr.out⟩
        · go_wp2_with fail
          refine (HL.out _ HM.out.m).mono ?_
          rintro e w6 ⟨rfl, l6⟩
          have M6 := HM.out.lost l6
          have D := Lib.hid (M6.done (.slice none 0 0))
          have r0 := M6.br.free 0
          have r1 := M6.br.cell 0
          have hput : Hid (putS s ⟨ua, ut, um, ust, uk, ux, utk⟩ = dropped q2 ∧ putF s ⟨ua, ut, um, ust, uk, ux, utk⟩ = [] ∧ putOk s ⟨ua, ut, um, ust, uk, ux, utk⟩ = false) := Lib.hid (by
            have h1 := HRF.out
            have h2 := HOE.out
            rw [HQ2.out] at h2
            rw [HQ2.out]
            simp [putS, putF, putOk, h1, ← h2])
          clear HM M6 l6 HL HOV HOE
          go_wp2
          generalize w6.setCell ⟨pr, 0, none⟩ (.slice none 0 0) = w9 at *
          have d9 := D.out.2.2.2.1
          refine bodyPost_ret (v := .tuple #[.agg #[.slice none 0 0], .bool false]) (by simp [results, Try.results16, go_sem, d9]) rfl ?_
          exact ⟨.slice none 0 0, .slice none 0 0, by rw [hput.out.2.2], D.out.1, by rw [hput.out.1]; exact D.out.2.1, by rw [hput.out.2.1]; exact Row.nil _, From.nil _ _, From.nil _ _⟩
end Go.Proofs.Ytmfknefihjjgoaa.frm
