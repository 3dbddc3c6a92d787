/-
  The reference of layer 18: what its Put and Expire leave.
-/
import Derived.Test.YtcaloeolmoodbaaQueRef
import Derived.Deep.RegionHeld3
import Derived.Deep.QuietTactic
namespace Go.Proofs.Ytcaloeolmoodbaa.que
open Go.RowKit mem
set_option linter.unusedVariables false

abbrev rcs (q : Q) (v : Value) : Array Value := #[.int .i64 q.frames, .int .i64 q.most, v, .bool q.broken]
/-- what the reference hands back: its queue's items in v', what has gone in u -/
structure RPost (w w' : World) (v : Value) (q : Q) (v' u : Value) (D : List It) : Prop where
  sub : Sub IE 0 w' v' q.L
  src : ∀ g, v'.ownBlock = some g → v.ownBlock = some g ∨ w.heap.size ≤ g
  gone : Sub IE 0 w' u D
  gsrc : ∀ g, u.ownBlock = some g → w.heap.size ≤ g
  n : New w w'

/-- in the reference's loop: k items are gone, out holds them -/
structure RLoop (w wr : World) (v : Value) (q : Q) (pb px pr : Nat) (x : It) (vk vo : Value) (k : Nat) : Prop where
  box : Blk wr pb (rcs (qk q k) vk) RQ
  sub : Sub IE 0 wr vk (q.L.drop k)
  src : ∀ g, vk.ownBlock = some g → v.ownBlock = some g
  out : Owns IE OT wr vo (q.L.take k)
  vb : ∀ g, vo.ownBlock = some g → w.heap.size ≤ g ∧ g ≠ pb ∧ g ≠ px ∧ g ≠ pr
  xbox : Blk wr px x.cs.toArray OT
  rbox : Blk wr pr #[.int .i64 0, .int .i64 0, .slice none 0 0, .bool false] RQ
  n : New w wr

theorem RLoop.later {w wr w2 : World} {v : Value} {q : Q} {pb px pr : Nat} {x : It} {vk vo : Value} {k : Nat} (h : RLoop w wr v q pb px pr x vk vo k) (n : New wr w2) : RLoop w w2 v q pb px pr x vk vo k :=
  ⟨n.blk h.box (fun h => h), Sub.new h.sub n, h.src, h.out.turns n (fun _ _ h => h), h.vb, n.blk h.xbox (fun h => h), n.blk h.rbox (fun h => h), h.n.trans (n.mono (fun _ _ h => h.elim))⟩
theorem RLoop.step {w w5 w6 w9 : World} {v : Value} {q : Q} {pb px pr k d : Nat} {x : It} {vk vo v' u v9 : Value} {o : Obj} (h : RLoop w w5 v q pb px pr x vk vo k) (hd : DropPost w5 w6 vk (q.L.drop k) v' u) (hde : d = dropN (q.L.drop k)) (hvl : ∀ g, v.ownBlock = some g → g < w.heap.size) (hpb : w.heap.size ≤ pb) (hpx : px ≠ pb) (hpr : pr ≠ pb)
    (ho : Owns IE OT w9 v9 (q.L.take k ++ (q.L.drop k).take d)) (hg : (puts (w6.alloc o) pb 0 (rcs (qk q (k + d)) v').toList).grownBy w9 vo.ownBlock) (ha : v9.ownBlock = vo.ownBlock ∨ v9.ownBlock = some (puts (w6.alloc o) pb 0 (rcs (qk q (k + d)) v').toList).heap.size) :
    RLoop w w9 v q pb px pr x v' v9 (k + d) := by
  subst hde
  have n7 : New w5 (w6.alloc o) := hd.n.alloc o
  have b7 := n7.blk h.box (fun h => h)
  have x7 := n7.blk h.xbox (fun h => h)
  have t8 : Turns (· = pb) (w6.alloc o) (puts (w6.alloc o) pb 0 (rcs (qk q (k + dropN (q.L.drop k))) v').toList) := puts_turns (S := (· = pb)) (.inl rfl) _ 0 _ (Turns.refl _ _)
  have b8 := puts_blk (rcs (qk q k) vk).toList (rcs (qk q (k + dropN (q.L.drop k))) v').toList b7 rfl
  have x8 := t8.blk x7 hpx
  have r8 := t8.blk (n7.blk h.rbox (fun h => h)) hpr
  have t9 := Turns.of_grown hg
  have hvk : ∀ g, v'.ownBlock = some g → g < w.heap.size := fun g hg => hvl g (h.src g (hd.lb ▸ hg))
  have n8 : New w (puts (w6.alloc o) pb 0 (rcs (qk q (k + dropN (q.L.drop k))) v').toList) := (h.n.trans (n7.mono (fun _ _ h => h.elim))).trans (t8.mono (fun i _ hi => .inr (by rw [hi]; exact hpb)))
  refine ⟨t9.blk b8 (fun e => (h.vb pb e.symm).2.1 rfl), ?_, fun g hg => h.src g (hd.lb ▸ hg), by rw [take_more] at ho; exact ho, fun g hg => ?_, t9.blk x8 (fun e => (h.vb px e.symm).2.2.1 rfl), t9.blk r8 (fun e => (h.vb pr e.symm).2.2.2 rfl), n8.trans (t9.mono (fun i _ hi => .inr (h.vb i hi.symm).1))⟩
  · have s6 : Sub IE 0 w6 v' ((q.L.drop k).drop (dropN (q.L.drop k))) := .inr hd.left
    rw [List.drop_drop] at s6
    have s7 := Sub.turns s6 ((Turns.refl (fun _ => False) _).alloc o) (fun _ _ h => h)
    have s8 := Sub.turns' s7 t8 (fun g hg e => by have := hvk g hg; omega)
    exact Sub.turns' s8 t9 (fun g hg e => by have := hvk g hg; have := (h.vb g e.symm).1; omega)
  · rcases ha with e | e
    · exact h.vb g (e ▸ hg)
    · rw [e] at hg
      injection hg with hg
      have := n8.size
      have := b8.lt
      have := x8.lt
      have := r8.lt
      exact ⟨by omega, by omega, by omega, by omega⟩

theorem dropB (q : Q) (k : Nat) (hk : k < q.L.length) : ((qk q k).broken || decide (dropN (q.L.drop k) = (q.L.drop k).length)) = (qk q (k + dropN (q.L.drop k))).broken := brk_step q.broken q.L k _ hk (dropN_pos _)

theorem Owns.made0 {W : World} {B : Nat} (h : Blk W B #[] OT) : Owns IE OT W (.slice (some ⟨B, 0, none⟩) 0 0) [] :=
  ⟨by simp [Enc.all], .inr ⟨B, 0, #[], rfl, Nat.zero_le _, h, Nat.le_refl _, Nat.zero_le _, by simp, by simp [Enc.all]⟩⟩
theorem Blk.new' (w : World) (cs : Array Value) (t : TypeId) {n : Nat} (hn : n = w.heap.size) : Blk (w.alloc (.cells cs t)) n cs t := by rw [hn]; exact Blk.new _ _ _
theorem madeC {w2 W w8 : World} {B : Nat} {v8 : Value} {L : List It} (N : New w2 W) (hB : w2.heap.size ≤ B) (hown : Owns IE OT w8 v8 L) (hgrow : W.grownBy w8 (Value.slice (some ⟨B, 0, none⟩) 0 0).ownBlock)
    (hat : v8.ownBlock = (Value.slice (some ⟨B, 0, none⟩) 0 0).ownBlock ∨ v8.ownBlock = some W.heap.size) : Gr IE OT w2 w8 v8 L ∧ Turns (fun k => k = B) W w8 := by
  have ht := Turns.of_grown hgrow
  have ht' : Turns (fun k => k = B) W w8 := ht.mono (fun k _ hk => by simp [Value.ownBlock] at hk; omega)
  refine ⟨⟨hown, ?_, N.trans (ht'.mono (fun k _ hk => .inr (by rw [hk]; exact hB)))⟩, ht'⟩
  intro g hg
  rcases hat with e | e
  · rw [hg] at e; simp [Value.ownBlock] at e; omega
  · rw [hg] at e; injection e with e; have := N.size; omega
theorem Sub.one {W : World} {B : Nat} {x : It} (h : Blk W B x.cs.toArray OT) : Sub IE 0 W (.slice (some ⟨B, 0, none⟩) 1 1) [x] := by
  refine .inr ⟨B, 0, 1, rfl, Nat.le_refl _, by decide, Nat.zero_le _, h.lt, fun j u hu => ?_⟩
  rw [IE.all_one] at hu
  rw [Nat.zero_add, h.cell j]
  exact (by simp : x.cs.toArray[j]? = x.cs[j]?).trans hu
theorem Sub.one4 {W : World} {B : Nat} {xn xs xt : Int} {xk : Bool} (h : Blk W B #[.int .i64 xn, .int .i64 xs, .int .i64 xt, .bool xk] OT) : Sub IE 0 W (.slice (some ⟨B, 0, none⟩) 1 1) [⟨xn, xs, xt, xk⟩] := Sub.one (x := ⟨xn, xs, xt, xk⟩) h
/-- the reference's queue with the new item -/
structure RFin (w7 wx : World) (pb : Nat) (f m : Int) (L : List It) (n g cap : Nat) : Prop where
  blk : Blk wx pb #[.int .i64 f, .int .i64 m, .slice (some ⟨g, 0, none⟩) (n + 1) cap, .bool false] RQ
  own : Owns IE OT wx (.slice (some ⟨g, 0, none⟩) (n + 1) cap) L
  lo : w7.heap.size ≤ g
  turns : Turns (· = pb) w7 wx
theorem finR {w7 W w10 : World} {pb n : Nat} {f m : Int} {v2 V8 v10 : Value} {L : List It} (hb : Blk w7 pb #[.int .i64 f, .int .i64 m, v2, .bool false] RQ) (N : New w7 W) (hV : ∀ g, V8.ownBlock = some g → w7.heap.size ≤ g) (hown : Owns IE OT w10 v10 L) (hn : L.length = n + 1) (hgrow : W.grownBy w10 V8.ownBlock)
    (hat : v10.ownBlock = V8.ownBlock ∨ v10.ownBlock = some W.heap.size) : ∃ g cap, v10 = .slice (some ⟨g, 0, none⟩) (n + 1) cap ∧ RFin w7 (w10.setCell ⟨pb, 2, none⟩ v10) pb f m L n g cap ∧ Blk w10 pb #[.int .i64 f, .int .i64 m, v2, .bool false] RQ := by
  have hpb := hb.lt
  have ht : Turns (fun k => w7.heap.size ≤ k) W w10 := (Turns.of_grown hgrow).mono (fun k _ hk => hV k hk.symm)
  have hb10 := ht.blk (N.blk hb (fun h => h)) (by omega)
  have hv10 : ∀ g, v10.ownBlock = some g → w7.heap.size ≤ g := by
    intro g hg
    rcases hat with e | e
    · exact hV g (by rw [← e]; exact hg)
    · rw [hg] at e; injection e with e; have := N.size; omega
  have ts : Turns (· = pb) w10 (w10.setCell ⟨pb, 2, none⟩ v10) := (Turns.refl (· = pb) _).setCell (.inl rfl) _
  rcases hown.2 with ⟨_, h0⟩ | ⟨g, cap, cur, e, _⟩
  · omega
  · rw [hn] at e
    refine ⟨g, cap, e, ⟨?_, ?_, hv10 g (by rw [e]; rfl), ?_⟩, hb10⟩
    · have := hb10.set 2 v10
      rw [e] at this ⊢
      exact this
    · have := hown.turns ts (fun g' hg' e2 => by have := hv10 g' hg'; omega)
      rw [e] at this ⊢
      exact this
    · exact (N.mono (fun _ _ h => h.elim)).trans ((ht.mono (fun k _ hk => .inr hk)).trans (ts.mono (fun k _ hk => .inl (.inl hk))))

/-- what the loop's test holds on to -/
abbrev HeldT (w w' : World) (pb px : Nat) (c0 c1 c2 x1 : Value) : Prop :=
  New w w' ∧ pb < w'.heap.size ∧ px < w'.heap.size ∧ w'.cell? ⟨pb, 0, none⟩ = some c0 ∧ w'.cell? ⟨pb, 1, none⟩ = some c1 ∧ w'.cell? ⟨pb, 2, none⟩ = some c2 ∧ w'.cell? ⟨px, 1, none⟩ = some x1
theorem heldT_drew {w w' : World} {pb px : Nat} {c0 c1 c2 x1 : Value} (h : HeldT w w' pb px c0 c1 c2 x1) : HeldT w w'.drew pb px c0 c1 c2 x1 := by
  obtain ⟨hn, h⟩ := h
  exact ⟨hn.drew, h⟩
theorem heldT_nw {w w' : World} {pb px : Nat} {c0 c1 c2 x1 : Value} (h : HeldT w w' pb px c0 c1 c2 x1) : New w w' := h.1
theorem heldT_new {w w1 w2 : World} {pb px : Nat} {c0 c1 c2 x1 : Value} (n : New w1 w2) (h : HeldT w w1 pb px c0 c1 c2 x1) : HeldT w w2 pb px c0 c1 c2 x1 := by
  obtain ⟨hn, hl, hx, h0, h1, h2, h3⟩ := h
  exact ⟨hn.trans (n.mono (fun _ _ h => h.elim)), Nat.lt_of_lt_of_le hl n.size, Nat.lt_of_lt_of_le hx n.size, (n.cell (a := ⟨pb, 0, none⟩) hl (fun h => h)).trans h0, (n.cell (a := ⟨pb, 1, none⟩) hl (fun h => h)).trans h1, (n.cell (a := ⟨pb, 2, none⟩) hl (fun h => h)).trans h2, (n.cell (a := ⟨px, 1, none⟩) hx (fun h => h)).trans h3⟩

end Go.Proofs.Ytcaloeolmoodbaa.que
