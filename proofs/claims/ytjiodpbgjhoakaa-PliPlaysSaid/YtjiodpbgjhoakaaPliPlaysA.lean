/-
  PliPlays: the relation of both sides.
-/
import Derived.Test.YtjiodpbgjhoakaaPliRef2
namespace Go.Proofs.Ytjiodpbgjhoakaa.pli
open Go.RowKit mem
open ints (IE IT ST infoI)
set_option linter.unusedVariables false

structure Rel (s : Q) (a : RA) (f m now : Int) (k : Nat) : Prop where
  sf : s.first = f
  sm : s.most = m
  af : a.first = f
  am : a.most = m
  wa : a.wanted = s.wanted
  se : a.sent = s.sent
  s0 : 0 ≤ s.sent
  s1 : s.sent ≤ k
  w0 : 0 ≤ s.wait
  w1 : s.wait ≤ m
  on : s.wanted = true → a.L ≠ [] ∧ s.wait = waitF f m (a.L.length - 1) ∧ s.due = a.L.getLastD 0 + s.wait
  ln : a.L.length ≤ k
  bd : ∀ x ∈ a.L, 0 ≤ x ∧ x ≤ now
section
variable {s : Q} {a : RA} {f m now : Int} {k : Nat}
theorem Rel.sok (h : Rel s a f m now k) (f0 : 1 ≤ f) (fm : f ≤ m) (m1 : m ≤ 1073741824) (hk : k ≤ 1000) : s.ok :=
  ⟨by have := h.sf; omega, by have := h.sf; have := h.sm; omega, by have := h.sm; omega, h.w0, by have := h.w1; omega, h.s0, by have := h.s1; omega⟩
theorem Rel.aok (h : Rel s a f m now k) (f0 : 1 ≤ f) (fm : f ≤ m) (m1 : m ≤ 1073741824) (hk : k ≤ 1000) (hn : now ≤ 4398046511104) : a.ok :=
  ⟨by have := h.af; omega, by have := h.af; have := h.am; omega, by have := h.am; omega, by have := h.ln; omega, fun x hx => by have := h.bd x hx; omega, by rw [h.se]; exact h.s0, by rw [h.se]; have := h.s1; omega⟩
theorem Rel.ne (h : Rel s a f m now k) : a.wanted = true → a.L ≠ [] := fun hw => (h.on (by rw [← h.wa]; exact hw)).1
theorem Rel.later (h : Rel s a f m now k) {now' : Int} (hn : now ≤ now') : Rel s a f m now' (k + 1) :=
  { h with s1 := by have := h.s1; omega, ln := by have := h.ln; omega, bd := fun x hx => by have := h.bd x hx; omega }
theorem Rel.due_eq (h : Rel s a f m now k) (hw : s.wanted = true) : dueF a = s.due := by
  have h1 := h.on hw
  rw [h1.2.2, h1.2.1]
  unfold dueF
  rw [h.af, h.am]
theorem Rel.tickB (h : Rel s a f m now k) (t : Int) : rtickB a t = tickB s t := by
  unfold rtickB pli.tickB
  rw [h.wa]
  cases hw : s.wanted
  · rfl
  · rw [h.due_eq hw]
theorem Rel.tick (h : Rel s a f m now k) (f0 : 1 ≤ f) (fm : f ≤ m) {t : Int} (h0 : 0 ≤ now) (ht : now ≤ t) : Rel (tickQ s t) (rtickA a t) f m t (k + 1) := by
  unfold rtickA tickQ
  rw [h.tickB t]
  split
  · rename_i hb
    have hw : s.wanted = true := by
      unfold pli.tickB at hb
      cases hw : s.wanted
      · rw [hw] at hb; simp at hb
      · rfl
    have h1 := h.on hw
    have hl := List.length_pos_iff.2 h1.1
    refine ⟨h.sf, h.sm, h.af, h.am, h.wa, (by show a.sent + 1 = s.sent + 1; rw [h.se]), (by show 0 ≤ s.sent + 1; have := h.s0; omega), (by show s.sent + 1 ≤ _; have := h.s1; omega), (by show 0 ≤ min _ _; have := h.w0; have := h.sm; omega), (by show min _ _ ≤ m; have := h.sm; omega), fun _ => ⟨by simp, ?_, ?_⟩, (by show (a.L ++ [t]).length ≤ _; have := h.ln; simp; omega), ?_⟩
    · show min (2 * s.wait) s.most = waitF f m ((a.L ++ [t]).length - 1)
      rw [h1.2.1, h.sm, show (a.L ++ [t]).length - 1 = (a.L.length - 1) + 1 by simp; omega]
      rfl
    · show t + min (2 * s.wait) s.most = (a.L ++ [t]).getLastD 0 + min (2 * s.wait) s.most
      simp
    · intro x hx
      have hx' : x ∈ a.L ++ [t] := hx
      rw [List.mem_append, List.mem_singleton] at hx'
      rcases hx' with hx' | rfl
      · have := h.bd x hx'; omega
      · omega
  · exact h.later ht
theorem Rel.wantB (h : Rel s a f m now k) (on : Bool) (t : Int) : rwantB a on t = wantB s on t := by
  unfold rwantB pli.wantB
  rw [h.tickB, h.wa]
theorem Rel.want (h : Rel s a f m now k) (f0 : 1 ≤ f) (fm : f ≤ m) (on : Bool) {t : Int} (h0 : 0 ≤ now) (ht : now ≤ t) : Rel (wantQ s on t) (rwantA a on t) f m t (k + 1) := by
  cases on
  · exact ⟨h.sf, h.sm, h.af, h.am, rfl, h.se, h.s0, (by show s.sent ≤ _; have := h.s1; omega), h.w0, h.w1, fun h => by simp [wantQ] at h, (by show ([] : List Int).length ≤ _; simp), fun x hx => by simp [rwantA] at hx⟩
  · unfold rwantA wantQ
    rw [h.wa]
    simp only [if_true]
    cases hw : s.wanted
    · simp only [Bool.false_eq_true, if_false]
      refine ⟨h.sf, h.sm, h.af, h.am, rfl, (by show a.sent + 1 = s.sent + 1; rw [h.se]), (by show 0 ≤ s.sent + 1; have := h.s0; omega), (by show s.sent + 1 ≤ _; have := h.s1; omega), (by show 0 ≤ s.first; have := h.sf; omega), (by show s.first ≤ m; have := h.sf; omega), fun _ => ⟨by simp, ?_, ?_⟩, (by show ([t] : List Int).length ≤ _; simp), ?_⟩
      · show s.first = waitF f m (([t] : List Int).length - 1)
        rw [h.sf]; rfl
      · show t + s.first = ([t] : List Int).getLastD 0 + s.first
        rfl
      · intro x hx
        have hx' : x ∈ [t] := hx
        rw [List.mem_singleton] at hx'
        subst hx'
        omega
    · simp only [if_true]
      exact h.tick f0 fm h0 ht
end

structure PL (w wr : World) (p px : Nat) (s : Q) (a : RA) (v : Value) : Prop where
  own : Own w wr p s
  x : Blk wr px (rcs a v) RT
  sub : Sub IE 0 wr v a.L
  le : w.heap.size ≤ px
  ne : px ≠ p
  vb : ∀ g, v.ownBlock = some g → px < g ∧ p < g
section
variable {w wr w2 : World} {p px : Nat} {s t : Q} {a b : RA} {v v' : Value}
theorem PL.later (h : PL w wr p px s a v) (n : New wr w2) : PL w w2 p px s a v := ⟨h.own.later n, n.blk h.x (fun h => h), Sub.new h.sub n, h.le, h.ne, h.vb⟩
/-- the program's side has turned -/
theorem PL.at_ (h : PL w wr p px s a v) (k : At wr w2 p t) : PL w w2 p px t a v :=
  ⟨h.own.at_ k, k.2.blk h.x h.ne, Sub.turns' h.sub k.2 (fun g hg e => by have := h.vb g hg; omega), h.le, h.ne, h.vb⟩
/-- the reference's side has answered, and is stored -/
theorem PL.stored (h : PL w wr p px s a v) (k : RPost wr w2 v v' b.L) : PL w (puts w2 px 0 (rcs b v').toList) p px s b v' := by
  have h2 := h.later k.n
  have hpx := h.x.lt
  have hpp := h.own.sq.lt
  have hvb : ∀ g, v'.ownBlock = some g → px < g ∧ p < g := fun g hg => by
    rcases k.src g hg with e | e
    · exact h.vb g e
    · omega
  have ht := puts_turns (S := (· = px)) (p := px) (.inl rfl) (rcs b v').toList 0 _ (Turns.refl (· = px) w2)
  refine ⟨⟨ht.blk h2.own.sq (fun e => h.ne e.symm), h2.own.n.trans (ht.mono (fun i _ hi => .inr (by rw [hi]; exact h.le))), h.own.p0⟩, puts_blk (rcs a v).toList (rcs b v').toList h2.x rfl, Sub.turns' k.sub ht (fun g hg e => by have := hvb g hg; omega), h.le, h.ne, hvb⟩
end
end Go.Proofs.Ytjiodpbgjhoakaa.pli
