/-
  rtp.Parse: the packet, or the error.
-/
import Derived.Test.YtcppibjllaablaaGreatRpRead
import Derived.Deep.RegionLaw
import Derived.Deep.LoopGhost
import Derived.Deep.DeepCutAuto
namespace Go.Proofs.YtcppibjllaablaaGreat.rp
open Go.RowKit mem rd oref sq
set_option linter.unusedVariables false

theorem info4 : (Tryz.prog.info? 72).map (fun i => (i.zero, i.size, i.bytes)) = some (some (.int .u32 0), 1, 4) := by kernel_rfl

/-- a row that the call owns, behind whatever turns other blocks -/
theorem own_turns {S : Nat → Prop} {w w' : World} {base : Nat} {e : TypeId} {v : Value} {n : Nat} {xs : List Value} (ho : w.ownsRow base e 1 v n xs) (ht : Turns S w w') (hs : ∀ g, v.ownBlock = some g → ¬ S g) : w'.ownsRow base e 1 v n xs := by
  refine ⟨ho.1, ?_⟩
  rcases ho.2 with h0 | ⟨g, cap, cur, rfl, hb0, hg, r⟩
  · exact .inl h0
  · refine .inr ⟨g, cap, cur, rfl, hb0, ?_, r⟩
    rw [ht.block g (lt_of_block hg) (hs g rfl)]; exact hg

theorem own_shape {w : World} {base : Nat} {e : TypeId} {v : Value} {n : Nat} {xs : List Value} (h : w.ownsRow base e 1 v n xs) : ∃ a c, v = .slice a n c := by
  rcases h.2 with ⟨rfl, rfl⟩ | ⟨g, cap, cur, rfl, _⟩
  · exact ⟨_, _, rfl⟩
  · exact ⟨_, _, rfl⟩
/-- in the middle of Parse: the result's block, the packet's, the reader's -/
structure Mid (w W : World) (pd pr : Nat) (p : P) (v : Value) (s : St) : Prop where
  b : Blk W pd (pc p v) PT
  r : Rs W pr s
  z : Blk W w.heap.size (pc zero (.slice none 0 0)) PT
  n : New w W
  o : W.ownsRow w.heap.size U4 1 v p.cs.length (p.cs.map (Value.int .u32))
  hr : w.heap.size < pr
  hd : w.heap.size < pd
  hne : pd ≠ pr
  v1 : v.ownBlock ≠ some pd
  v2 : v.ownBlock ≠ some pr
  v3 : v.ownBlock ≠ some w.heap.size

theorem Mid.both {w W W' : World} {pd pr : Nat} {p p' : P} {v : Value} {s s' : St} (h : Mid w W pd pr p v s) (k : Both W W' pd pr p' v s') (hc : p'.cs = p.cs) : Mid w W' pd pr p' v s' := by
  obtain ⟨kb, kr, kt⟩ := k
  refine ⟨kb, kr, kt.blk h.z (by have := h.hr; have := h.hd; omega), h.n.trans (kt.mono (fun k _ hk => .inr (by have := h.hr; have := h.hd; omega))), ?_, h.hr, h.hd, h.hne, h.v1, h.v2, h.v3⟩
  rw [hc]
  exact own_turns h.o kt (fun g hg hk => by rcases hk with rfl | rfl; exact h.v1 hg; exact h.v2 hg)
/-- a reader's call -/
theorem Mid.step {w W W' : World} {pd pr : Nat} {p : P} {v : Value} {s s' : St} (h : Mid w W pd pr p v s) (k : Step W W' pr s') : Mid w W' pd pr p v s' :=
  h.both ⟨k.2.blk h.b h.hne, k.1, k.2.mono (fun _ _ h => .inr h)⟩ rfl
/-- a store into the packet -/
theorem Mid.put {w W : World} {pd pr : Nat} {p p' : P} {v : Value} {s : St} (h : Mid w W pd pr p v s) (i : Nat) (x : Value) (k : Blk (W.setCell ⟨pd, i, none⟩ x) pd (pc p' v) PT) (hc : p'.cs = p.cs) : Mid w (W.setCell ⟨pd, i, none⟩ x) pd pr p' v s :=
  h.both ⟨k, h.r.turns ((Turns.refl (· = pd) W).setCell (.inl rfl) x) (fun e => h.hne e.symm), (Turns.refl _ W).setCell (.inl (.inl rfl)) x⟩ hc
theorem Mid.drew {w W : World} {pd pr : Nat} {p : P} {v : Value} {s : St} (h : Mid w W pd pr p v s) : Mid w W.drew pd pr p v s :=
  ⟨h.b.drew, h.r, h.z.drew, h.n.drew, h.o, h.hr, h.hd, h.hne, h.v1, h.v2, h.v3⟩

/-- the sources' append, and its store -/
theorem Mid.append {w W W1 : World} {pd pr : Nat} {p : P} {v v' : Value} {s : St} {x : Int} (h : Mid w W pd pr p v s) (hW : ∀ k, k < W.heap.size → True) {WA : World} (hA : New W WA)
    (ho : W1.ownsRow w.heap.size U4 1 v' (p.cs.length + 1) ((p.cs.map (Value.int .u32)) ++ [.int .u32 x])) (hg : WA.grownBy W1 v.ownBlock) (hat : v'.ownBlock = v.ownBlock ∨ ∃ g, v'.ownBlock = some g ∧ W.heap.size ≤ g) :
    Mid w (W1.setCell ⟨pd, 5, none⟩ v') pd pr { p with cs := p.cs ++ [x] } v' s := by
  have hpd := h.b.lt
  have hpr := h.r.lt
  have hz := h.z.lt
  have t1 : Turns (fun k => some k = v.ownBlock) W W1 := (hA.mono (fun _ _ h => h.elim)).trans ((Turns.of_grown hg).mono (fun _ _ h => .inl h))
  have b1 := t1.blk h.b (fun e => h.v1 e.symm)
  have r1 := h.r.turns t1 (fun e => h.v2 e.symm)
  have z1 := t1.blk h.z (fun e => h.v3 e.symm)
  have v1' : v'.ownBlock ≠ some pd := by
    rcases hat with e | ⟨g, e, hge⟩
    · rw [e]; exact h.v1
    · rw [e]; intro e2; injection e2 with e2; omega
  have v2' : v'.ownBlock ≠ some pr := by
    rcases hat with e | ⟨g, e, hge⟩
    · rw [e]; exact h.v2
    · rw [e]; intro e2; injection e2 with e2; omega
  have v3' : v'.ownBlock ≠ some w.heap.size := by
    rcases hat with e | ⟨g, e, hge⟩
    · rw [e]; exact h.v3
    · rw [e]; intro e2; injection e2 with e2; omega
  refine ⟨ps5 b1 v', r1.turns ((Turns.refl (· = pd) W1).setCell (.inl rfl) v') (fun e => h.hne e.symm), z1.setOther (a := ⟨pd, 5, none⟩) (show pd ≠ w.heap.size by have := h.hd; omega) v', ?_, ?_, h.hr, h.hd, h.hne, v1', v2', v3'⟩
  · refine (h.n.trans (t1.mono (fun k hk e => ?_))).setCell (.inr (show w.heap.size ≤ pd from Nat.le_of_lt h.hd)) v'
    right
    rcases h.o.2 with ⟨rfl, _⟩ | ⟨g, cap, cur, rfl, hb, _⟩
    · cases e
    · have : k = g := by injection e
      omega
  · have := ownsRow_setCell_other ho (show v'.ownBlock ≠ some (Addr.block ⟨pd, 5, none⟩) from v1') v'
    simp only [List.length_append, List.length_cons, List.length_nil, List.map_append, List.map_cons, List.map_nil]
    exact this

set_option maxHeartbeats 4000000 in
theorem parse_big (s0 : ByteArray) (w : World) (hs : s0.size ≤ 4611686018427387904) (hb : 1500 < s0.size) :
    Calls Tryz.prog 16 #[.string s0] w fun en w' => en = .returned (.tuple #[.agg (pc zero (.slice none 0 0)), .int .i64 4]) ∧ New w w' := by
  have hb' : (1500 : Int) < (s0.size : Int) := by omega
  go_enter Tryz.func16, Tryz.ntmps16
  go_wp2
  go_returns
  exact ⟨rfl, (Turns.refl _ _).alloc _⟩

section
variable {w : World} {p : Nat} {d : P} {v : Value} {t : TypeId} (h : Blk w p (pc d v) t)
include h
theorem pc2 : w.cell? ⟨p, 2, none⟩ = some (.int .u16 d.seq) := h.cell 2
theorem pc3 : w.cell? ⟨p, 3, none⟩ = some (.int .u32 d.time) := h.cell 3
theorem pc4 : w.cell? ⟨p, 4, none⟩ = some (.int .u32 d.ssrc) := h.cell 4
theorem ps2 (x : Int) : Blk (w.setCell ⟨p, 2, none⟩ (.int .u16 x)) p (pc { d with seq := x } v) t := h.set 2 _
theorem ps3 (x : Int) : Blk (w.setCell ⟨p, 3, none⟩ (.int .u32 x)) p (pc { d with time := x } v) t := h.set 3 _
theorem ps4 (x : Int) : Blk (w.setCell ⟨p, 4, none⟩ (.int .u32 x)) p (pc { d with ssrc := x } v) t := h.set 4 _
end
/-- eleven stores into one block -/
def put11 (w : World) (p : Nat) (v0 v1 v2 v3 v4 v5 v6 v7 v8 v9 v10 : Value) : World := (((((((((((w.setCell ⟨p, 0, none⟩ v0).setCell ⟨p, 1, none⟩ v1).setCell ⟨p, 2, none⟩ v2).setCell ⟨p, 3, none⟩ v3).setCell ⟨p, 4, none⟩ v4).setCell ⟨p, 5, none⟩ v5).setCell ⟨p, 6, none⟩ v6).setCell ⟨p, 7, none⟩ v7).setCell ⟨p, 8, none⟩ v8).setCell ⟨p, 9, none⟩ v9).setCell ⟨p, 10, none⟩ v10)
theorem put11_blk {w : World} {p : Nat} {a0 a1 a2 a3 a4 a5 a6 a7 a8 a9 a10 : Value} {t : TypeId} (h : Blk w p #[a0, a1, a2, a3, a4, a5, a6, a7, a8, a9, a10] t) (v0 v1 v2 v3 v4 v5 v6 v7 v8 v9 v10 : Value) : Blk (put11 w p v0 v1 v2 v3 v4 v5 v6 v7 v8 v9 v10) p #[v0, v1, v2, v3, v4, v5, v6, v7, v8, v9, v10] t := by
  have h0 : Blk (w.setCell ⟨p, 0, none⟩ v0) p #[v0, a1, a2, a3, a4, a5, a6, a7, a8, a9, a10] t := h.set 0 v0
  have h1 : Blk ((w.setCell ⟨p, 0, none⟩ v0).setCell ⟨p, 1, none⟩ v1) p #[v0, v1, a2, a3, a4, a5, a6, a7, a8, a9, a10] t := h0.set 1 v1
  have h2 : Blk (((w.setCell ⟨p, 0, none⟩ v0).setCell ⟨p, 1, none⟩ v1).setCell ⟨p, 2, none⟩ v2) p #[v0, v1, v2, a3, a4, a5, a6, a7, a8, a9, a10] t := h1.set 2 v2
  have h3 : Blk ((((w.setCell ⟨p, 0, none⟩ v0).setCell ⟨p, 1, none⟩ v1).setCell ⟨p, 2, none⟩ v2).setCell ⟨p, 3, none⟩ v3) p #[v0, v1, v2, v3, a4, a5, a6, a7, a8, a9, a10] t := h2.set 3 v3
  have h4 : Blk (((((w.setCell ⟨p, 0, none⟩ v0).setCell ⟨p, 1, none⟩ v1).setCell ⟨p, 2, none⟩ v2).setCell ⟨p, 3, none⟩ v3).setCell ⟨p, 4, none⟩ v4) p #[v0, v1, v2, v3, v4, a5, a6, a7, a8, a9, a10] t := h3.set 4 v4
  have h5 : Blk ((((((w.setCell ⟨p, 0, none⟩ v0).setCell ⟨p, 1, none⟩ v1).setCell ⟨p, 2, none⟩ v2).setCell ⟨p, 3, none⟩ v3).setCell ⟨p, 4, none⟩ v4).setCell ⟨p, 5, none⟩ v5) p #[v0, v1, v2, v3, v4, v5, a6, a7, a8, a9, a10] t := h4.set 5 v5
  have h6 : Blk (((((((w.setCell ⟨p, 0, none⟩ v0).setCell ⟨p, 1, none⟩ v1).setCell ⟨p, 2, none⟩ v2).setCell ⟨p, 3, none⟩ v3).setCell ⟨p, 4, none⟩ v4).setCell ⟨p, 5, none⟩ v5).setCell ⟨p, 6, none⟩ v6) p #[v0, v1, v2, v3, v4, v5, v6, a7, a8, a9, a10] t := h5.set 6 v6
  have h7 : Blk ((((((((w.setCell ⟨p, 0, none⟩ v0).setCell ⟨p, 1, none⟩ v1).setCell ⟨p, 2, none⟩ v2).setCell ⟨p, 3, none⟩ v3).setCell ⟨p, 4, none⟩ v4).setCell ⟨p, 5, none⟩ v5).setCell ⟨p, 6, none⟩ v6).setCell ⟨p, 7, none⟩ v7) p #[v0, v1, v2, v3, v4, v5, v6, v7, a8, a9, a10] t := h6.set 7 v7
  have h8 : Blk (((((((((w.setCell ⟨p, 0, none⟩ v0).setCell ⟨p, 1, none⟩ v1).setCell ⟨p, 2, none⟩ v2).setCell ⟨p, 3, none⟩ v3).setCell ⟨p, 4, none⟩ v4).setCell ⟨p, 5, none⟩ v5).setCell ⟨p, 6, none⟩ v6).setCell ⟨p, 7, none⟩ v7).setCell ⟨p, 8, none⟩ v8) p #[v0, v1, v2, v3, v4, v5, v6, v7, v8, a9, a10] t := h7.set 8 v8
  have h9 : Blk ((((((((((w.setCell ⟨p, 0, none⟩ v0).setCell ⟨p, 1, none⟩ v1).setCell ⟨p, 2, none⟩ v2).setCell ⟨p, 3, none⟩ v3).setCell ⟨p, 4, none⟩ v4).setCell ⟨p, 5, none⟩ v5).setCell ⟨p, 6, none⟩ v6).setCell ⟨p, 7, none⟩ v7).setCell ⟨p, 8, none⟩ v8).setCell ⟨p, 9, none⟩ v9) p #[v0, v1, v2, v3, v4, v5, v6, v7, v8, v9, a10] t := h8.set 9 v9
  have h10 : Blk (((((((((((w.setCell ⟨p, 0, none⟩ v0).setCell ⟨p, 1, none⟩ v1).setCell ⟨p, 2, none⟩ v2).setCell ⟨p, 3, none⟩ v3).setCell ⟨p, 4, none⟩ v4).setCell ⟨p, 5, none⟩ v5).setCell ⟨p, 6, none⟩ v6).setCell ⟨p, 7, none⟩ v7).setCell ⟨p, 8, none⟩ v8).setCell ⟨p, 9, none⟩ v9).setCell ⟨p, 10, none⟩ v10) p #[v0, v1, v2, v3, v4, v5, v6, v7, v8, v9, v10] t := h9.set 10 v10
  exact h10
theorem put11_turns {S : Nat → Prop} {a w : World} {p : Nat} (h : Turns S a w) (hp : S p ∨ a.heap.size ≤ p) (v0 v1 v2 v3 v4 v5 v6 v7 v8 v9 v10 : Value) : Turns S a (put11 w p v0 v1 v2 v3 v4 v5 v6 v7 v8 v9 v10) := (((((((((((h.setCell (p := ⟨p, 0, none⟩) hp v0).setCell (p := ⟨p, 1, none⟩) hp v1).setCell (p := ⟨p, 2, none⟩) hp v2).setCell (p := ⟨p, 3, none⟩) hp v3).setCell (p := ⟨p, 4, none⟩) hp v4).setCell (p := ⟨p, 5, none⟩) hp v5).setCell (p := ⟨p, 6, none⟩) hp v6).setCell (p := ⟨p, 7, none⟩) hp v7).setCell (p := ⟨p, 8, none⟩) hp v8).setCell (p := ⟨p, 9, none⟩) hp v9).setCell (p := ⟨p, 10, none⟩) hp v10)
section
variable {w : World} {p : Nat} {a0 a1 a2 a3 a4 a5 a6 a7 a8 a9 a10 : Value} {t : TypeId} (h : Blk w p #[a0, a1, a2, a3, a4, a5, a6, a7, a8, a9, a10] t)
include h
theorem cells11 : w.cell? ⟨p, 0, none⟩ = some a0 ∧ w.cell? ⟨p, 1, none⟩ = some a1 ∧ w.cell? ⟨p, 2, none⟩ = some a2 ∧ w.cell? ⟨p, 3, none⟩ = some a3 ∧ w.cell? ⟨p, 4, none⟩ = some a4 ∧ w.cell? ⟨p, 5, none⟩ = some a5 ∧ w.cell? ⟨p, 6, none⟩ = some a6 ∧ w.cell? ⟨p, 7, none⟩ = some a7 ∧ w.cell? ⟨p, 8, none⟩ = some a8 ∧ w.cell? ⟨p, 9, none⟩ = some a9 ∧ w.cell? ⟨p, 10, none⟩ = some a10 := ⟨h.cell 0, h.cell 1, h.cell 2, h.cell 3, h.cell 4, h.cell 5, h.cell 6, h.cell 7, h.cell 8, h.cell 9, h.cell 10⟩
theorem frees11 : w.frozen? ⟨p, 0, none⟩ = false ∧ w.frozen? ⟨p, 1, none⟩ = false ∧ w.frozen? ⟨p, 2, none⟩ = false ∧ w.frozen? ⟨p, 3, none⟩ = false ∧ w.frozen? ⟨p, 4, none⟩ = false ∧ w.frozen? ⟨p, 5, none⟩ = false ∧ w.frozen? ⟨p, 6, none⟩ = false ∧ w.frozen? ⟨p, 7, none⟩ = false ∧ w.frozen? ⟨p, 8, none⟩ = false ∧ w.frozen? ⟨p, 9, none⟩ = false ∧ w.frozen? ⟨p, 10, none⟩ = false := ⟨h.free 0, h.free 1, h.free 2, h.free 3, h.free 4, h.free 5, h.free 6, h.free 7, h.free 8, h.free 9, h.free 10⟩
end
theorem hdP_succ (b : Int) (s : St) (k : Nat) : hdP b s (k + 1) = { hdP b s k with cs := (hdP b s k).cs ++ [vn 4 (hdS s k)] } := by
  unfold hdP hdS
  rw [csL_succ]
theorem hdP_len (b : Int) (s : St) (k : Nat) : (hdP b s k).cs.length = k := csL_len _ _
theorem hdS_succ (s : St) (k : Nat) : hdS s (k + 1) = nx 4 (hdS s k) := rfl
theorem and128b (a : Int) (h0 : 0 ≤ a) (h1 : a ≤ 255) : bits .and .u8 a 128 = if 128 ≤ a then 128 else 0 := vp.and128 a h0 h1

set_option maxRecDepth 100000 in
set_option maxHeartbeats 8000000 in
theorem parse_small (s0 : ByteArray) (w : World) (hs : s0.size ≤ 1500) :
    Calls Tryz.prog 16 #[.string s0] w fun en w' => ∃ v, en = .returned (.tuple #[.agg (pc (outP s0.data.toList) v), .int .i64 (outE s0.data.toList)]) ∧ New w w' ∧ w'.ownsRow w.heap.size U4 1 v (outP s0.data.toList).cs.length ((outP s0.data.toList).cs.map (Value.int .u32)) := by
  have HU8 := Lib.hid (fun p st w h => u8_st p st w h)
  have HU16 := Lib.hid (fun p st w h => u16_st p st w h)
  have HU32 := Lib.hid (fun p st w h => u32_st p st w h)
  have HR := Lib.hid (fun w => read_st s0 w (by omega))
  have hlen : s0.data.toList.length = s0.size := Go.Proofs.YtcppibjllaablaaGreat.wr.size_list s0
  have HOE : Hid (outE s0.data.toList = allE (s0.data.toList, 0)) := Lib.hid (by unfold outE; rw [if_neg (by omega)])
  have HOP : Hid (outP s0.data.toList = if outE s0.data.toList = 0 then allP (s0.data.toList, 0) else zero) := Lib.hid rfl
  have hls : ∀ st : St, st.1.length ≤ 1500 → st.1.length ≤ 4611686018427387904 := fun _ h => by omega
  have hsl : (s0.data.toList, (0 : Int)).1.length ≤ 1500 := by simp only; omega
  have hsb : ¬ (1500 : Int) < (s0.size : Int) := by omega
  have hoks : Ok (s0.data.toList, (0 : Int)) := by simp [Ok]
  generalize (s0.data.toList, (0 : Int)) = s at *
  clear hlen
  go_enter Tryz.func16, Tryz.ntmps16
  go_wp2_with fail
  refine (HR.out _).mono ?_
  rintro e w1 ⟨rfl, hr1, hn1⟩
  have hz1 := hn1.blk (Blk.new w #[.bool false, .int .u8 0, .int .u16 0, .int .u32 0, .int .u32 0, .slice none 0 0, .bool false, .int .u16 0, .string ⟨#[]⟩, .string ⟨#[]⟩, .int .i64 0] PT) (fun h => h)
  have hn1' : New w w1 := ((Turns.refl _ w).alloc (.cells #[.bool false, .int .u8 0, .int .u16 0, .int .u32 0, .int .u32 0, .slice none 0 0, .bool false, .int .u16 0, .string ⟨#[]⟩, .string ⟨#[]⟩, .int .i64 0] PT)).trans (hn1.mono (fun _ _ h => h.elim))
  have hpr : w.heap.size < (w.alloc (.cells #[.bool false, .int .u8 0, .int .u16 0, .int .u32 0, .int .u32 0, .slice none 0 0, .bool false, .int .u16 0, .string ⟨#[]⟩, .string ⟨#[]⟩, .int .i64 0] PT)).heap.size := by simp
  have hpr1 := hr1.lt
  generalize (w.alloc (.cells #[.bool false, .int .u8 0, .int .u16 0, .int .u32 0, .int .u32 0, .slice none 0 0, .bool false, .int .u16 0, .string ⟨#[]⟩, .string ⟨#[]⟩, .int .i64 0] PT)).heap.size = pr at *
  clear hn1 HR hs
  have HT1 := Lib.hid (HU8.out pr s w1 hr1)
  have H1 := Lib.hid (And.intro hz1 hn1')
  clear hr1 hz1 hn1'
  go_wp2_with fail
  refine (HT1.out).mono ?_
  rintro e w2 ⟨rfl, hr2, ht2⟩
  have HT2 := Lib.hid (HU8.out pr (nx 1 s) w2 hr2)
  have hz2 := ht2.blk H1.out.1 (by omega)
  have hn2 : New w w2 := H1.out.2.trans (ht2.mono (fun k _ h => .inr (by omega)))
  have H2 := Lib.hid (And.intro hz2 hn2)
  clear hr2 ht2 hz2 hn2 H1 HT1
  go_wp2_with fail
  refine (HT2.out).mono ?_
  rintro e w3 ⟨rfl, hr3, ht3⟩
  have hz3 := ht3.blk H2.out.1 (by omega)
  have hn3 : New w w3 := H2.out.2.trans (ht3.mono (fun k _ h => .inr (by omega)))
  have H3 := Lib.hid (And.intro hr3 (And.intro hz3 hn3))
  clear hr3 ht3 hz3 hn3 H2 HT2
  have hba := vn_bd1 s
  have hbb := vn_bd1 (nx 1 s)
  have HVR : Hid (vr s = if vn 1 s / 64 = 2 then nx 1 (nx 1 s) else fl 2 (nx 1 (nx 1 s))) := Lib.hid rfl
  have HAE : Hid (allE s = bodyE (vn 1 s) (vr s)) := Lib.hid rfl
  have HAP : Hid (allP s = bodyP (vn 1 s) (vn 1 (nx 1 s)) (vr s)) := Lib.hid rfl
  have hvl : (vr s).1.length ≤ 1500 := by
    unfold vr
    split
    · exact Nat.le_trans (nx_len 1 _) (Nat.le_trans (nx_len 1 _) hsl)
    · exact Nat.le_trans (fl_len 2 _) (Nat.le_trans (nx_len 1 _) (Nat.le_trans (nx_len 1 _) hsl))
  generalize vn 1 (nx 1 s) = b at *
  generalize vn 1 s = a at *
  go_upto_if 21 with fail
  have hvr : ∀ x, (if a / 64 = 2 then x else fl 2 x) = (if a / 64 = 2 then x else fl 2 x) := fun _ => rfl
  obtain ⟨sv, hsv⟩ : ∃ x, x = vr s := ⟨_, rfl⟩
  rw [← hsv] at HVR HAE HAP hvl
  have hokv : Ok sv := by rw [hsv]; unfold vr; split; exact nx_ok 1 (nx_ok 1 hoks); exact fl_ok 2 (nx_ok 1 (nx_ok 1 hoks))
  clear hsv hvr
  go_cut [] (fun wx => Rs wx pr sv ∧ Blk wx w.heap.size #[.bool false, .int .u8 0, .int .u16 0, .int .u32 0, .int .u32 0, .slice none 0 0, .bool false, .int .u16 0, .string ⟨#[]⟩, .string ⟨#[]⟩, .int .i64 0] PT ∧ New w wx)
  case first =>
    by_cases ha : a / 64 = 2
    · have hab : (a / 64 != 2) = false := by simp [ha]
      rw [if_pos ha] at HVR
      rw [hab]
      clear hab ha
      go_wp2_with fail
      go_meet
      case rel => rw [HVR.out]; exact H3.out
    · have hab : (a / 64 != 2) = true := by simp [ha]
      rw [if_neg ha] at HVR
      rw [hab]
      clear hab ha
      have HF := Lib.hid (fail_st pr _ 2 w3 H3.out.1)
      go_wp2_with fail
      refine (HF.out).mono ?_
      rintro e w4 ⟨rfl, hr4, ht4⟩
      go_wp2_with fail
      go_meet
      case rel =>
        rw [HVR.out]
        exact ⟨hr4, ht4.blk H3.out.2.1 (by omega), H3.out.2.2.trans (ht4.mono (fun k _ h => .inr (by omega)))⟩
  case rest =>
    obtain ⟨hr4, hz4, hn4⟩ := hcut
    clear H3 HVR
    have h127 := vp.and127 b hbb.1 hbb.2
    have hlt4 := hz4.lt
    have hlt5 := hr4.lt
    have hM : Mid w (wc.alloc (.cells #[.bool (bits .and .u8 b 128 != 0), .int .u8 (b % 128), .int .u16 0, .int .u32 0, .int .u32 0, .slice none 0 0, .bool false, .int .u16 0, .string ⟨#[]⟩, .string ⟨#[]⟩, .int .i64 0] PT)) wc.heap.size pr { zero with mrk := vp.b128 b, typ := b % 128 } (.slice none 0 0) sv :=
      ⟨Blk.new wc _ _, hr4.turns ((Turns.refl (fun _ => False) wc).alloc _) (fun h => h), hz4.alloc _, hn4.alloc _, World.ownsRow_nil _ _ _ _, hpr, hlt4, by omega, by simp [Value.ownBlock], by simp [Value.ownBlock], by simp [Value.ownBlock]⟩
    have HM := Lib.hid hM
    clear hM hr4 hz4 hn4
    have hpdp : wc.heap.size ≠ pr := by omega
    go_wp2_with fail
    obtain ⟨W0, hW0⟩ : ∃ W, W = wc.alloc (.cells #[.bool (bits .and .u8 b 128 != 0), .int .u8 (b % 128), .int .u16 0, .int .u32 0, .int .u32 0, .slice none 0 0, .bool false, .int .u16 0, .string ⟨#[]⟩, .string ⟨#[]⟩, .int .i64 0] PT) := ⟨_, rfl⟩
    rw [← hW0] at HM ⊢
    clear hW0
    generalize wc.heap.size = pd at *
    refine (HU16.out pr sv W0 HM.out.r).mono ?_
    rintro e V0 ⟨rfl, k0⟩
    have hm := HM.out.step k0
    have hold := pc2 hm.b
    have hfr := hm.b.free 2
    have hm2 := hm.put 2 _ (ps2 hm.b (vn 2 sv)) rfl
    have HM1 := Lib.hid hm2
    clear hm hm2 k0 HM
    go_wp2_with fail
    generalize V0.setCell ⟨pd, 2, none⟩ (.int .u16 (vn 2 sv)) = W1 at *
    clear hold hfr
    refine (HU32.out pr (nx 2 sv) W1 HM1.out.r).mono ?_
    rintro e V1 ⟨rfl, k1⟩
    have hm := HM1.out.step k1
    have hold := pc3 hm.b
    have hfr := hm.b.free 3
    have hm2 := hm.put 3 _ (ps3 hm.b (vn 4 (nx 2 sv))) rfl
    have HM2 := Lib.hid hm2
    clear hm hm2 k1 HM1
    go_wp2_with fail
    generalize V1.setCell ⟨pd, 3, none⟩ (.int .u32 (vn 4 (nx 2 sv))) = W2 at *
    clear hold hfr
    refine (HU32.out pr (nx 4 (nx 2 sv)) W2 HM2.out.r).mono ?_
    rintro e V2 ⟨rfl, k2⟩
    have hm := HM2.out.step k2
    have hold := pc4 hm.b
    have hfr := hm.b.free 4
    have hm2 := hm.put 4 _ (ps4 hm.b (vn 4 (nx 4 (nx 2 sv)))) rfl
    have HM3 := Lib.hid hm2
    clear hm hm2 k2 HM2
    have h15 := vp.and15 a hba.1 hba.2
    obtain ⟨N, hN, hN2⟩ : ∃ N : Nat, a % 16 = (N : Int) ∧ N ≤ 15 := ⟨(a % 16).toNat, by omega, by omega⟩
    rw [hN] at h15
    go_wp2_with fail
    generalize V2.setCell ⟨pd, 4, none⟩ (.int .u32 (vn 4 (nx 4 (nx 2 sv)))) = W3 at *
    clear hold hfr
    have HM4 : Hid (Mid w W3 pd pr (hdP b sv 0) (.slice none 0 0) (hdS sv 0)) := Lib.hid HM3.out
    clear HM3
    obtain ⟨i0, hi, hz0, hz1, hz2⟩ := info_parts info4
    go_loopw [41] (fun j wr => ∃ k : Nat, k ≤ N ∧ j = .int .u8 k ∧ ∃ v, Mid w wr pd pr (hdP b sv k) v (hdS sv k)) (fun j _ => N - (intOf j).toNat)
    case atStart => exact ⟨0, Nat.zero_le _, rfl, _, HM4.out⟩
    case round =>
      clear HM4
      obtain ⟨k, hk, rfl, v, hm⟩ := hrel
      have HK := Lib.hid hm
      by_cases hlt : k < N
      · have hx := vn_bd4 (hdS sv k)
        have hcl := hdP_len b sv k
        have hlt' : (k : Int) < (N : Int) := by omega
        have HU := Lib.hid (fun w h => HU32.out pr (hdS sv k) w h)
        have HS1 := Lib.hid (hdP_succ b sv k)
        have c5 := pc5 hm.b
        clear hm
        have HCL := Lib.hid hcl
        clear hcl
        generalize vn 4 (hdS sv k) = x at *
        go_wp2_with fail
        go_region_law (first
          | (go_simp; go_at_call 45; (with_reducible refine (HU.out _ ?_).mono ?_); (exact HK.out.drew.r); rintro e w2 ⟨rfl, k2⟩; have m2 := HK.out.drew.step k2; have c52 := pc5 m2.b; have M2 := Lib.hid m2; have hpd2 := m2.b.lt; clear m2 k2)
          | (refine step_append_lies _ (by rfl) _ _ _ (by rfl) w.heap.size U4 i0 (.int .u32 0) 1 4 Tryz.underlying73 hi hz0 hz1 hz2 rfl (by decide) v _ _ (by rfl) (M2.out.o.alloc _)
                ⟨w2.heap.size, 0, none⟩ 1 1 [.int .u32 x] (by rfl) (by rfl) (World.news_of_block (cs := #[.int .u32 x]) (t := U4) (fr := (0, 0)) (heap_alloc_new w2 _)) (by simp [Value.oneCell'])
                (by omega) (by rw [HCL.out]; unfold maxLen; omega) (by rw [HCL.out]; omega) (by have := M2.out.hd; simp; omega) (w2.heap.size + 1) (by simp) ?_; intro g cap w1' hown hgrow hat hlt2; have hc1 : w1'.cell? ⟨pd, 5, none⟩ = some v := (hgrow.cell_far ⟨pd, 5, none⟩ (by simp; omega) (fun h => M2.out.v1 h.symm)).trans ((World.cell?_alloc_past _ _ _ hpd2).trans c52); have hf1 : w1'.frozen? ⟨pd, 5, none⟩ = false := (hgrow.frozen_far ⟨pd, 5, none⟩ (by simp; omega) (fun h => M2.out.v1 h.symm)).trans ((World.frozen?_alloc_past _ _ _ hpd2).trans (M2.out.b.free 5))))
        all_goals
          have R := M2.out.append (fun _ _ => trivial) ((Turns.refl (fun _ => False) w2).alloc (.cells #[.int .u32 x] U4)) hown hgrow (by rcases hat with h | h; exact .inl h.symm; exact .inr ⟨g, rfl, by omega⟩)
          rw [← HS1.out] at R
          have R2 := Lib.hid R
          clear R hown hgrow hat hc1 hf1 c5 c52 M2 HK
          go_wp2
          go_roundw
          case rel => exact ⟨k + 1, by omega, by go_num, _, R2.out⟩
          case measure => simp [intOf]; omega
      · obtain rfl : k = N := by omega
        clear hk hlt
        have hlt' : ¬ ((k : Int) < (k : Int)) := by omega
        clear hm
        have HXT : Hid (bodyP a b sv = pyP a (xtP a (hdP b sv k) (hdS sv k)) (xtS a (hdS sv k))) := Lib.hid (by unfold bodyP; rw [hN]; rfl)
        have HXE : Hid (bodyE a sv = pyE a (xtS a (hdS sv k))) := Lib.hid (by unfold bodyE; rw [hN]; rfl)
        have hsl2 : (hdS sv k).1.length ≤ 1500 := by
          unfold hdS
          exact Nat.le_trans (it_len _ _) (Nat.le_trans (nx_len _ _) (Nat.le_trans (nx_len _ _) (Nat.le_trans (nx_len _ _) hvl)))
        generalize hdP b sv k = p1 at *
        generalize hdS sv k = s1 at *
        go_upto_if 53 with fail
        go_cut [] (fun wx => Mid w wx pd pr (xtP a p1 s1) v (xtS a s1))
        case first =>
          have h16 := vp.and16 a hba.1 hba.2
          by_cases h : a / 16 % 2 = 1
          · rw [if_pos h] at h16
            have hxp : xtP a p1 s1 = exP p1 s1 := by unfold xtP; rw [if_pos h]
            have hxs : xtS a s1 = exS s1 := by unfold xtS; rw [if_pos h]
            have HX := Lib.hid (And.intro hxp hxs)
            have HT := Lib.hid (takeExt pd pr p1 v s1 wr HK.out.b HK.out.r HK.out.hne)
            clear h hxp hxs
            go_wp2_with fail
            refine (HT.out).mono ?_
            rintro e w5 ⟨rfl, hB⟩
            go_wp2_with fail
            go_meet
            case rel =>
              rw [HX.out.1, HX.out.2]
              exact HK.out.both hB rfl
          · rw [if_neg h] at h16
            have hxp : xtP a p1 s1 = p1 := by unfold xtP; rw [if_neg h]
            have hxs : xtS a s1 = s1 := by unfold xtS; rw [if_neg h]
            have HX := Lib.hid (And.intro hxp hxs)
            clear h hxp hxs
            go_wp2_with fail
            go_meet
            case rel =>
              rw [HX.out.1, HX.out.2]
              exact HK.out
        case rest =>
          have HM5 := Lib.hid hcut
          clear HK hcut
          have hsl3 : (xtS a s1).1.length ≤ 1500 := by
            unfold xtS exS exS1
            split
            · exact Nat.le_trans (nx_len _ _) (Nat.le_trans (nx_len _ _) (Nat.le_trans (nx_len _ _) hsl2))
            · exact hsl2
          generalize xtP a p1 s1 = p2 at *
          generalize xtS a s1 = s2 at *
          have HRest := Lib.hid (rest_st pr s2 wc HM5.out.r)
          go_wp2_with fail
          refine (HRest.out).mono ?_
          rintro e w6 ⟨rfl, k6⟩
          have m6 := HM5.out.step k6
          have c9 := pc9 m6.b
          have f9 := m6.b.free 9
          have m7 := m6.put 9 _ (ps9 m6.b (lst s2.1)) rfl
          have HM7 := Lib.hid m7
          clear m6 m7 k6 HRest HM5
          go_upto_if 61 with fail
          refine (show Code.wp _ _ _ _ (w6.setCell ⟨pd, 9, none⟩ (.string (lst s2.1))) from ?_)
          generalize w6.setCell ⟨pd, 9, none⟩ (.string (lst s2.1)) = w7 at *
          clear c9 f9
          go_cut [] (fun wx => ∃ st : St, st.2 = pyE a s2 ∧ Mid w wx pd pr (pyP a p2 s2) v st)
          case first =>
            have h32 := vp.and32 a hba.1 hba.2
            by_cases h : a / 32 % 2 = 1
            · rw [if_pos h] at h32
              have hxp : pyP a p2 s2 = spP { p2 with pay := lst s2.1 } s2.1 := by unfold pyP; rw [if_pos h]; rfl
              have hxs : pyE a s2 = (fl (pdE s2.1) ([], s2.2)).2 := by unfold pyE; rw [if_pos h]
              have HX := Lib.hid (And.intro hxp hxs)
              have HT := Lib.hid (splitPad pd pr { p2 with pay := lst s2.1 } s2.1 v ([], s2.2) w7 (by omega) rfl HM7.out.b HM7.out.r HM7.out.hne)
              clear h hxp hxs
              go_wp2_with fail
              refine (HT.out).mono ?_
              rintro e w8 ⟨rfl, hB⟩
              go_wp2_with fail
              go_meet
              case rel =>
                rw [HX.out.1, HX.out.2]
                exact ⟨_, rfl, HM7.out.both hB rfl⟩
            · rw [if_neg h] at h32
              have hxp : pyP a p2 s2 = { p2 with pay := lst s2.1 } := by unfold pyP; rw [if_neg h]
              have hxs : pyE a s2 = s2.2 := by unfold pyE; rw [if_neg h]
              have HX := Lib.hid (And.intro hxp hxs)
              clear h hxp hxs
              go_wp2_with fail
              go_meet
              case rel =>
                rw [HX.out.1, HX.out.2]
                exact ⟨([], s2.2), rfl, HM7.out⟩
          case rest =>
            obtain ⟨st, hst, hm9⟩ := hcut
            clear HM7
            obtain ⟨nv, hnv⟩ : ∃ n, n = (pyP a p2 s2).cs.length := ⟨_, rfl⟩
            obtain ⟨av, cv, hvv⟩ := own_shape hm9.o
            rw [← hnv] at hvv
            subst hvv
            clear hnv
            have HErr := Lib.hid (err_st pr st wc hm9.r)
            have HST := Lib.hid hst
            have HM9 := Lib.hid hm9
            obtain ⟨z, hz⟩ : ∃ z, z = st.2 := ⟨_, rfl⟩
            rw [← hz] at HErr HST
            clear hst hm9 hz
            go_wp2_with fail
            refine (HErr.out).mono ?_
            rintro e w10 ⟨rfl, rfl⟩
            have hbz : Blk wc w.heap.size #[.bool false, .int .u8 0, .int .u16 0, .int .u32 0, .int .u32 0, .slice none 0 0, .bool false, .int .u16 0, .string ⟨#[]⟩, .string ⟨#[]⟩, .int .i64 0] PT := HM9.out.z
            obtain ⟨z0, z1, z2, z3, z4, z5, z6, z7, z8, z9, z10⟩ := cells11 hbz
            obtain ⟨f0, f1, f2, f3, f4, f5, f6, f7, f8, f9, f10⟩ := frees11 hbz
            by_cases he : z = 0
            · subst he
              have HO := Lib.hid HM9.out.o
              have hbd := HM9.out.b
              have hne := HM9.out.hne
              have hhd := HM9.out.hd
              have hn := HM9.out.n
              have hv3 := HM9.out.v3
              have HPP : Hid (outE s0.data.toList = 0 ∧ outP s0.data.toList = pyP a p2 s2) := by
                have e1 : outE s0.data.toList = 0 := by rw [HOE.out, HAE.out, HXE.out]; exact HST.out.symm
                refine Lib.hid ⟨e1, ?_⟩
                rw [HOP.out, if_pos e1, HAP.out, HXT.out]
              generalize pyP a p2 s2 = pp at *
              obtain ⟨mrk, typ, seq, time, ssrc, cs, ext, prof, data, pay, pad⟩ := pp
              have hbd2 : Blk wc pd #[.bool mrk, .int .u8 typ, .int .u16 seq, .int .u32 time, .int .u32 ssrc, .slice av nv cv, .bool ext, .int .u16 prof, .string data, .string pay, .int .i64 pad] PT := hbd
              obtain ⟨d0, d1, d2, d3, d4, d5, d6, d7, d8, d9, d10⟩ := cells11 hbd2
              have HF := Lib.hid (put11_blk hbz (.bool mrk) (.int .u8 typ) (.int .u16 seq) (.int .u32 time) (.int .u32 ssrc) (.slice av nv cv) (.bool ext) (.int .u16 prof) (.string data) (.string pay) (.int .i64 pad))
              have HN := Lib.hid (put11_turns hn (.inr (Nat.le_refl _)) (.bool mrk) (.int .u8 typ) (.int .u16 seq) (.int .u32 time) (.int .u32 ssrc) (.slice av nv cv) (.bool ext) (.int .u16 prof) (.string data) (.string pay) (.int .i64 pad))
              have HO2 := Lib.hid (own_turns HO.out (put11_turns (Turns.refl (· = w.heap.size) wc) (.inl rfl) (.bool mrk) (.int .u8 typ) (.int .u16 seq) (.int .u32 time) (.int .u32 ssrc) (.slice av nv cv) (.bool ext) (.int .u16 prof) (.string data) (.string pay) (.int .i64 pad)) (fun g hg hk => hv3 (by rw [hg, hk])))
              clear hbz hbd hbd2 hn HM9 HO HErr
              go_wp2
              refine (show bodyPost _ _ _ _ _ (put11 wc w.heap.size (.bool mrk) (.int .u8 typ) (.int .u16 seq) (.int .u32 time) (.int .u32 ssrc) (.slice av nv cv) (.bool ext) (.int .u16 prof) (.string data) (.string pay) (.int .i64 pad)) from ?_)
              generalize put11 wc w.heap.size (.bool mrk) (.int .u8 typ) (.int .u16 seq) (.int .u32 time) (.int .u32 ssrc) (.slice av nv cv) (.bool ext) (.int .u16 prof) (.string data) (.string pay) (.int .i64 pad) = w11 at *
              clear z0 z1 z2 z3 z4 z5 z6 z7 z8 z9 z10
              obtain ⟨z0, z1, z2, z3, z4, z5, z6, z7, z8, z9, z10⟩ := cells11 HF.out
              refine bodyPost_ret (v := .tuple #[.agg #[.bool mrk, .int .u8 typ, .int .u16 seq, .int .u32 time, .int .u32 ssrc, .slice av nv cv, .bool ext, .int .u16 prof, .string data, .string pay, .int .i64 pad], .int .i64 0]) (by simp [results, Tryz.results16, go_sem, z0, z1, z2, z3, z4, z5, z6, z7, z8, z9, z10]) rfl ?_
              refine ⟨.slice av nv cv, ?_, HN.out, ?_⟩
              · rw [HPP.out.1, HPP.out.2]; rfl
              · rw [HPP.out.2]; exact HO2.out
            · have heb : (z != 0) = true := by simp [he]
              have HPP : Hid (outE s0.data.toList = z ∧ outP s0.data.toList = zero) := by
                have e1 : outE s0.data.toList = z := by rw [HOE.out, HAE.out, HXE.out]; exact HST.out.symm
                refine Lib.hid ⟨e1, ?_⟩
                rw [HOP.out, if_neg (by rw [e1]; exact he)]
              have HF := Lib.hid (put11_blk hbz (.bool false) (.int .u8 0) (.int .u16 0) (.int .u32 0) (.int .u32 0) (.slice none 0 0) (.bool false) (.int .u16 0) (.string ⟨#[]⟩) (.string ⟨#[]⟩) (.int .i64 0))
              have HN := Lib.hid (put11_turns HM9.out.n (.inr (Nat.le_refl _)) (.bool false) (.int .u8 0) (.int .u16 0) (.int .u32 0) (.int .u32 0) (.slice none 0 0) (.bool false) (.int .u16 0) (.string ⟨#[]⟩) (.string ⟨#[]⟩) (.int .i64 0))
              clear hbz HM9 HErr he
              go_wp2
              refine (show bodyPost _ _ _ _ _ (put11 wc w.heap.size (.bool false) (.int .u8 0) (.int .u16 0) (.int .u32 0) (.int .u32 0) (.slice none 0 0) (.bool false) (.int .u16 0) (.string ⟨#[]⟩) (.string ⟨#[]⟩) (.int .i64 0)) from ?_)
              generalize put11 wc w.heap.size (.bool false) (.int .u8 0) (.int .u16 0) (.int .u32 0) (.int .u32 0) (.slice none 0 0) (.bool false) (.int .u16 0) (.string ⟨#[]⟩) (.string ⟨#[]⟩) (.int .i64 0) = w11 at *
              clear z0 z1 z2 z3 z4 z5 z6 z7 z8 z9 z10
              obtain ⟨z0, z1, z2, z3, z4, z5, z6, z7, z8, z9, z10⟩ := cells11 HF.out
              refine bodyPost_ret (v := .tuple #[.agg #[.bool false, .int .u8 0, .int .u16 0, .int .u32 0, .int .u32 0, .slice none 0 0, .bool false, .int .u16 0, .string ⟨#[]⟩, .string ⟨#[]⟩, .int .i64 0], .int .i64 z]) (by simp [results, Tryz.results16, go_sem, z0, z1, z2, z3, z4, z5, z6, z7, z8, z9, z10]) rfl ?_
              refine ⟨.slice none 0 0, ?_, HN.out, ?_⟩
              · rw [HPP.out.1, HPP.out.2]; rfl
              · rw [HPP.out.2]; exact World.ownsRow_nil _ _ _ _
end Go.Proofs.YtcppibjllaablaaGreat.rp
