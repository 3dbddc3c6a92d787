/-
  rtp.Parse: the packet, or the error.
-/
import Derived.Test.YtijpgkkhjjpjoaaRpRead
import Derived.Deep.RegionLaw
import Derived.Deep.LoopGhost
import Derived.Deep.DeepCutAuto
namespace Go.Proofs.Ytijpgkkhjjpjoaa.rp
open Go.RowKit mem rd oref sq
set_option linter.unusedVariables false

theorem info4 : (Try.prog.info? 22).map (fun i => (i.zero, i.size, i.bytes)) = some (some (.int .u32 0), 1, 4) := by kernel_rfl

/-- a row that the call owns, behind whatever turns other blocks -/
theorem own_turns {S : Nat → Prop} {w w' : World} {base : Nat} {e : TypeId} {v : Value} {n : Nat} {xs : List Value} (ho : w.ownsRow base e 1 v n xs) (ht : Turns S w w') (hs : ∀ g, v.ownBlock = some g → ¬ S g) : w'.ownsRow base e 1 v n xs := by
  refine ⟨ho.1, ?_⟩
  rcases ho.2 with h0 | ⟨g, cap, cur, rfl, hb0, hg, r⟩
  · exact .inl h0
  · refine .inr ⟨g, cap, cur, rfl, hb0, ?_, r⟩
    rw [ht.block g (lt_of_block hg) (hs g rfl)]; exact hg

theorem own_shape {w : World} {base : Nat} {e : TypeId} {v : Value} {n : Nat} {xs : List Value} (h : w.ownsRow base e 1 v n xs) : ∃ a c, v = .slice a n c := by
  rcases h.2 with ⟨rfl, rfl⟩ | ⟨g, cap, cur, rfl, _⟩
  · exact ⟨_, _, rfl⟩
  · exact ⟨_, _, rfl⟩
/-- in the middle of Parse: the result's block, the packet's, the reader's -/
structure Mid (w W : World) (pd pr : Nat) (p : P) (v : Value) (s : St) : Prop where
  b : Blk W pd (pc p v) PT
  r : Rs W pr s
  z : Blk W w.heap.size (pc zero (.slice none 0 0)) PT
  n : New w W
  o : W.ownsRow w.heap.size U4 1 v p.cs.length (p.cs.map (Value.int .u32))
  hr : w.heap.size < pr
  hd : w.heap.size < pd
  hne : pd ≠ pr
  v1 : v.ownBlock ≠ some pd
  v2 : v.ownBlock ≠ some pr
  v3 : v.ownBlock ≠ some w.heap.size

theorem Mid.both {w W W' : World} {pd pr : Nat} {p p' : P} {v : Value} {s s' : St} (h : Mid w W pd pr p v s) (k : Both W W' pd pr p' v s') (hc : p'.cs = p.cs) : Mid w W' pd pr p' v s' := by
  obtain ⟨kb, kr, kt⟩ := k
  refine ⟨kb, kr, kt.blk h.z (by have := h.hr; have := h.hd; omega), h.n.trans (kt.mono (fun k _ hk => .inr (by have := h.hr; have := h.hd; omega))), ?_, h.hr, h.hd, h.hne, h.v1, h.v2, h.v3⟩
  rw [hc]
  exact own_turns h.o kt (fun g hg hk => by rcases hk with rfl | rfl; exact h.v1 hg; exact h.v2 hg)
/-- a reader's call -/
theorem Mid.step {w W W' : World} {pd pr : Nat} {p : P} {v : Value} {s s' : St} (h : Mid w W pd pr p v s) (k : Step W W' pr s') : Mid w W' pd pr p v s' :=
  h.both ⟨k.2.blk h.b h.hne, k.1, k.2.mono (fun _ _ h => .inr h)⟩ rfl
/-- a store into the packet -/
theorem Mid.put {w W : World} {pd pr : Nat} {p p' : P} {v : Value} {s : St} (h : Mid w W pd pr p v s) (i : Nat) (x : Value) (k : Blk (W.setCell ⟨pd, i, none⟩ x) pd (pc p' v) PT) (hc : p'.cs = p.cs) : Mid w (W.setCell ⟨pd, i, none⟩ x) pd pr p' v s :=
  h.both ⟨k, h.r.turns ((Turns.refl (· = pd) W).setCell (.inl rfl) x) (fun e => h.hne e.symm), (Turns.refl _ W).setCell (.inl (.inl rfl)) x⟩ hc
theorem Mid.drew {w W : World} {pd pr : Nat} {p : P} {v : Value} {s : St} (h : Mid w W pd pr p v s) : Mid w W.drew pd pr p v s :=
  ⟨h.b.drew, h.r, h.z.drew, h.n.drew, h.o, h.hr, h.hd, h.hne, h.v1, h.v2, h.v3⟩

/-- the sources' append, and its store -/
theorem Mid.append {w W W1 : World} {pd pr : Nat} {p : P} {v v' : Value} {s : St} {x : Int} (h : Mid w W pd pr p v s) (hW : ∀ k, k < W.heap.size → True) {WA : World} (hA : New W WA)
    (ho : W1.ownsRow w.heap.size U4 1 v' (p.cs.length + 1) ((p.cs.map (Value.int .u32)) ++ [.int .u32 x])) (hg : WA.grownBy W1 v.ownBlock) (hat : v'.ownBlock = v.ownBlock ∨ ∃ g, v'.ownBlock = some g ∧ W.heap.size ≤ g) :
    Mid w (W1.setCell ⟨pd, 5, none⟩ v') pd pr { p with cs := p.cs ++ [x] } v' s := by
  have hpd := h.b.lt
  have hpr := h.r.lt
  have hz := h.z.lt
  have t1 : Turns (fun k => some k = v.ownBlock) W W1 := (hA.mono (fun _ _ h => h.elim)).trans ((Turns.of_grown hg).mono (fun _ _ h => .inl h))
  have b1 := t1.blk h.b (fun e => h.v1 e.symm)
  have r1 := h.r.turns t1 (fun e => h.v2 e.symm)
  have z1 := t1.blk h.z (fun e => h.v3 e.symm)
  have v1' : v'.ownBlock ≠ some pd := by
    rcases hat with e | ⟨g, e, hge⟩
    · rw [e]; exact h.v1
    · rw [e]; intro e2; injection e2 with e2; omega
  have v2' : v'.ownBlock ≠ some pr := by
    rcases hat with e | ⟨g, e, hge⟩
    · rw [e]; exact h.v2
    · rw [e]; intro e2; injection e2 with e2; omega
  have v3' : v'.ownBlock ≠ some w.heap.size := by
    rcases hat with e | ⟨g, e, hge⟩
    · rw [e]; exact h.v3
    · rw [e]; intro e2; injection e2 with e2; omega
  refine ⟨ps5 b1 v', r1.turns ((Turns.refl (· = pd) W1).setCell (.inl rfl) v') (fun e => h.hne e.symm), z1.setOther (a := ⟨pd, 5, none⟩) (show pd ≠ w.heap.size by have := h.hd; omega) v', ?_, ?_, h.hr, h.hd, h.hne, v1', v2', v3'⟩
  · refine (h.n.trans (t1.mono (fun k hk e => ?_))).setCell (.inr (show w.heap.size ≤ pd from Nat.le_of_lt h.hd)) v'
    right
    rcases h.o.2 with ⟨rfl, _⟩ | ⟨g, cap, cur, rfl, hb, _⟩
    · cases e
    · have : k = g := by injection e
      omega
  · have := ownsRow_setCell_other ho (show v'.ownBlock ≠ some (Addr.block ⟨pd, 5, none⟩) from v1') v'
    simp only [List.length_append, List.length_cons, List.length_nil, List.map_append, List.map_cons, List.map_nil]
    exact this


section
variable {w : World} {p : Nat} {d : P} {v : Value} {t : TypeId} (h : Blk w p (pc d v) t)
include h
theorem pc2 : w.cell? ⟨p, 2, none⟩ = some (.int .u16 d.seq) := h.cell 2
theorem pc3 : w.cell? ⟨p, 3, none⟩ = some (.int .u32 d.time) := h.cell 3
theorem pc4 : w.cell? ⟨p, 4, none⟩ = some (.int .u32 d.ssrc) := h.cell 4
theorem ps2 (x : Int) : Blk (w.setCell ⟨p, 2, none⟩ (.int .u16 x)) p (pc { d with seq := x } v) t := h.set 2 _
theorem ps3 (x : Int) : Blk (w.setCell ⟨p, 3, none⟩ (.int .u32 x)) p (pc { d with time := x } v) t := h.set 3 _
theorem ps4 (x : Int) : Blk (w.setCell ⟨p, 4, none⟩ (.int .u32 x)) p (pc { d with ssrc := x } v) t := h.set 4 _
end
/-- eleven stores into one block -/
def put11 (w : World) (p : Nat) (v0 v1 v2 v3 v4 v5 v6 v7 v8 v9 v10 : Value) : World := (((((((((((w.setCell ⟨p, 0, none⟩ v0).setCell ⟨p, 1, none⟩ v1).setCell ⟨p, 2, none⟩ v2).setCell ⟨p, 3, none⟩ v3).setCell ⟨p, 4, none⟩ v4).setCell ⟨p, 5, none⟩ v5).setCell ⟨p, 6, none⟩ v6).setCell ⟨p, 7, none⟩ v7).setCell ⟨p, 8, none⟩ v8).setCell ⟨p, 9, none⟩ v9).setCell ⟨p, 10, none⟩ v10)
theorem put11_blk {w : World} {p : Nat} {a0 a1 a2 a3 a4 a5 a6 a7 a8 a9 a10 : Value} {t : TypeId} (h : Blk w p #[a0, a1, a2, a3, a4, a5, a6, a7, a8, a9, a10] t) (v0 v1 v2 v3 v4 v5 v6 v7 v8 v9 v10 : Value) : Blk (put11 w p v0 v1 v2 v3 v4 v5 v6 v7 v8 v9 v10) p #[v0, v1, v2, v3, v4, v5, v6, v7, v8, v9, v10] t := by
  have h0 : Blk (w.setCell ⟨p, 0, none⟩ v0) p #[v0, a1, a2, a3, a4, a5, a6, a7, a8, a9, a10] t := h.set 0 v0
  have h1 : Blk ((w.setCell ⟨p, 0, none⟩ v0).setCell ⟨p, 1, none⟩ v1) p #[v0, v1, a2, a3, a4, a5, a6, a7, a8, a9, a10] t := h0.set 1 v1
  have h2 : Blk (((w.setCell ⟨p, 0, none⟩ v0).setCell ⟨p, 1, none⟩ v1).setCell ⟨p, 2, none⟩ v2) p #[v0, v1, v2, a3, a4, a5, a6, a7, a8, a9, a10] t := h1.set 2 v2
  have h3 : Blk ((((w.setCell ⟨p, 0, none⟩ v0).setCell ⟨p, 1, none⟩ v1).setCell ⟨p, 2, none⟩ v2).setCell ⟨p, 3, none⟩ v3) p #[v0, v1, v2, v3, a4, a5, a6, a7, a8, a9, a10] t := h2.set 3 v3
  have h4 : Blk (((((w.setCell ⟨p, 0, none⟩ v0).setCell ⟨p, 1, none⟩ v1).setCell ⟨p, 2, none⟩ v2).setCell ⟨p, 3, none⟩ v3).setCell ⟨p, 4, none⟩ v4) p #[v0, v1, v2, v3, v4, a5, a6, a7, a8, a9, a10] t := h3.set 4 v4
  have h5 : Blk ((((((w.setCell ⟨p, 0, none⟩ v0).setCell ⟨p, 1, none⟩ v1).setCell ⟨p, 2, none⟩ v2).setCell ⟨p, 3, none⟩ v3).setCell ⟨p, 4, none⟩ v4).setCell ⟨p, 5, none⟩ v5) p #[v0, v1, v2, v3, v4, v5, a6, a7, a8, a9, a10] t := h4.set 5 v5
  have h6 : Blk (((((((w.setCell ⟨p, 0, none⟩ v0).setCell ⟨p, 1, none⟩ v1).setCell ⟨p, 2, none⟩ v2).setCell ⟨p, 3, none⟩ v3).setCell ⟨p, 4, none⟩ v4).setCell ⟨p, 5, none⟩ v5).setCell ⟨p, 6, none⟩ v6) p #[v0, v1, v2, v3, v4, v5, v6, a7, a8, a9, a10] t := h5.set 6 v6
  have h7 : Blk ((((((((w.setCell ⟨p, 0, none⟩ v0).setCell ⟨p, 1, none⟩ v1).setCell ⟨p, 2, none⟩ v2).setCell ⟨p, 3, none⟩ v3).setCell ⟨p, 4, none⟩ v4).setCell ⟨p, 5, none⟩ v5).setCell ⟨p, 6, none⟩ v6).setCell ⟨p, 7, none⟩ v7) p #[v0, v1, v2, v3, v4, v5, v6, v7, a8, a9, a10] t := h6.set 7 v7
  have h8 : Blk (((((((((w.setCell ⟨p, 0, none⟩ v0).setCell ⟨p, 1, none⟩ v1).setCell ⟨p, 2, none⟩ v2).setCell ⟨p, 3, none⟩ v3).setCell ⟨p, 4, none⟩ v4).setCell ⟨p, 5, none⟩ v5).setCell ⟨p, 6, none⟩ v6).setCell ⟨p, 7, none⟩ v7).setCell ⟨p, 8, none⟩ v8) p #[v0, v1, v2, v3, v4, v5, v6, v7, v8, a9, a10] t := h7.set 8 v8
  have h9 : Blk ((((((((((w.setCell ⟨p, 0, none⟩ v0).setCell ⟨p, 1, none⟩ v1).setCell ⟨p, 2, none⟩ v2).setCell ⟨p, 3, none⟩ v3).setCell ⟨p, 4, none⟩ v4).setCell ⟨p, 5, none⟩ v5).setCell ⟨p, 6, none⟩ v6).setCell ⟨p, 7, none⟩ v7).setCell ⟨p, 8, none⟩ v8).setCell ⟨p, 9, none⟩ v9) p #[v0, v1, v2, v3, v4, v5, v6, v7, v8, v9, a10] t := h8.set 9 v9
  have h10 : Blk (((((((((((w.setCell ⟨p, 0, none⟩ v0).setCell ⟨p, 1, none⟩ v1).setCell ⟨p, 2, none⟩ v2).setCell ⟨p, 3, none⟩ v3).setCell ⟨p, 4, none⟩ v4).setCell ⟨p, 5, none⟩ v5).setCell ⟨p, 6, none⟩ v6).setCell ⟨p, 7, none⟩ v7).setCell ⟨p, 8, none⟩ v8).setCell ⟨p, 9, none⟩ v9).setCell ⟨p, 10, none⟩ v10) p #[v0, v1, v2, v3, v4, v5, v6, v7, v8, v9, v10] t := h9.set 10 v10
  exact h10
theorem put11_turns {S : Nat → Prop} {a w : World} {p : Nat} (h : Turns S a w) (hp : S p ∨ a.heap.size ≤ p) (v0 v1 v2 v3 v4 v5 v6 v7 v8 v9 v10 : Value) : Turns S a (put11 w p v0 v1 v2 v3 v4 v5 v6 v7 v8 v9 v10) := (((((((((((h.setCell (p := ⟨p, 0, none⟩) hp v0).setCell (p := ⟨p, 1, none⟩) hp v1).setCell (p := ⟨p, 2, none⟩) hp v2).setCell (p := ⟨p, 3, none⟩) hp v3).setCell (p := ⟨p, 4, none⟩) hp v4).setCell (p := ⟨p, 5, none⟩) hp v5).setCell (p := ⟨p, 6, none⟩) hp v6).setCell (p := ⟨p, 7, none⟩) hp v7).setCell (p := ⟨p, 8, none⟩) hp v8).setCell (p := ⟨p, 9, none⟩) hp v9).setCell (p := ⟨p, 10, none⟩) hp v10)
section
variable {w : World} {p : Nat} {a0 a1 a2 a3 a4 a5 a6 a7 a8 a9 a10 : Value} {t : TypeId} (h : Blk w p #[a0, a1, a2, a3, a4, a5, a6, a7, a8, a9, a10] t)
include h
theorem cells11 : w.cell? ⟨p, 0, none⟩ = some a0 ∧ w.cell? ⟨p, 1, none⟩ = some a1 ∧ w.cell? ⟨p, 2, none⟩ = some a2 ∧ w.cell? ⟨p, 3, none⟩ = some a3 ∧ w.cell? ⟨p, 4, none⟩ = some a4 ∧ w.cell? ⟨p, 5, none⟩ = some a5 ∧ w.cell? ⟨p, 6, none⟩ = some a6 ∧ w.cell? ⟨p, 7, none⟩ = some a7 ∧ w.cell? ⟨p, 8, none⟩ = some a8 ∧ w.cell? ⟨p, 9, none⟩ = some a9 ∧ w.cell? ⟨p, 10, none⟩ = some a10 := ⟨h.cell 0, h.cell 1, h.cell 2, h.cell 3, h.cell 4, h.cell 5, h.cell 6, h.cell 7, h.cell 8, h.cell 9, h.cell 10⟩
theorem frees11 : w.frozen? ⟨p, 0, none⟩ = false ∧ w.frozen? ⟨p, 1, none⟩ = false ∧ w.frozen? ⟨p, 2, none⟩ = false ∧ w.frozen? ⟨p, 3, none⟩ = false ∧ w.frozen? ⟨p, 4, none⟩ = false ∧ w.frozen? ⟨p, 5, none⟩ = false ∧ w.frozen? ⟨p, 6, none⟩ = false ∧ w.frozen? ⟨p, 7, none⟩ = false ∧ w.frozen? ⟨p, 8, none⟩ = false ∧ w.frozen? ⟨p, 9, none⟩ = false ∧ w.frozen? ⟨p, 10, none⟩ = false := ⟨h.free 0, h.free 1, h.free 2, h.free 3, h.free 4, h.free 5, h.free 6, h.free 7, h.free 8, h.free 9, h.free 10⟩
end
theorem hdP_succ (b : Int) (s : St) (k : Nat) : hdP b s (k + 1) = { hdP b s k with cs := (hdP b s k).cs ++ [vn 4 (hdS s k)] } := by
  unfold hdP hdS
  rw [csL_succ]
theorem hdP_len (b : Int) (s : St) (k : Nat) : (hdP b s k).cs.length = k := csL_len _ _
theorem hdS_succ (s : St) (k : Nat) : hdS s (k + 1) = nx 4 (hdS s k) := rfl
theorem and128b (a : Int) (h0 : 0 ≤ a) (h1 : a ≤ 255) : bits .and .u8 a 128 = if 128 ≤ a then 128 else 0 := vp.and128 a h0 h1

end Go.Proofs.Ytijpgkkhjjpjoaa.rp
