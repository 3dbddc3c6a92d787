/-
  LadderPlays: the law.
-/
import Derived.Test.YtfhbcdjbfjoknaaLadRtick
import Derived.Test.YtfhbcdjbfjoknaaLadNeeds
import Derived.Test.YtfhbcdjbfjoknaaLadTick
import Derived.Deep.CutBlock
namespace Go.Proofs.Ytfhbcdjbfjoknaa.lad
open Go.RowKit mem
open ints (IE IT ST infoI)
set_option linter.unusedVariables false

/-- both sides -/
structure Rl (s : Q) (q : RQ) (k : Nat) : Prop where
  dn : s.down = q.d
  up_ : s.up = q.u
  sp : s.spare = q.sp
  N_ : s.N = q.N
  am : (s.aim : Int) = q.most
  at_ : s.at' = q.at'
  mv : s.moves = q.mv
  bad : s.bad = (tailF (rbadB q.N q.at') q.R : Nat)
  good : s.good = (tailF (rgoodB q.N q.sp q.most q.at') q.R : Nat)
  al : q.at' < q.N.length
  il : s.aim < q.N.length
  m0 : 0 ≤ q.mv
  m1 : q.mv ≤ k
  rl : q.R.length ≤ k
theorem Rl.badB {s : Q} {q : RQ} {k : Nat} (h : Rl s q k) (r : Int) : badB s r = rbadB q.N q.at' r := by
  unfold lad.badB rbadB nd
  rw [h.at_, h.N_]
theorem Rl.goodB {s : Q} {q : RQ} {k : Nat} (h : Rl s q k) (r : Int) (hb : rbadB q.N q.at' r = false) : goodB s r = rgoodB q.N q.sp q.most q.at' r := by
  unfold lad.goodB rgoodB ampleF nd
  rw [hb, h.at_, h.N_, h.sp, Int.mul_comm q.sp]
  have e : decide (q.at' < s.aim) = decide ((q.at' : Int) < q.most) := decide_eq_decide.2 (by have := h.am; omega)
  rw [e]; rfl
theorem Rl.tick {s : Q} {q : RQ} {k : Nat} (h : Rl s q k) (r : Int) (d1 : 1 ≤ q.d) (u1 : 1 ≤ q.u) : tickB s r = q.tickB r ∧ Rl (tickQ s r) (q.tick r) (k + 1) := by
  have ht1 := tailF_push (rbadB q.N q.at') q.R r
  have ht2 := tailF_push (rgoodB q.N q.sp q.most q.at') q.R r
  have hb := h.badB r
  have hle := tailF_le (rbadB q.N q.at') (q.R ++ [r])
  have hle2 := tailF_le (rgoodB q.N q.sp q.most q.at') (q.R ++ [r])
  cases hbb : rbadB q.N q.at' r
  · have hg := h.goodB r hbb
    rw [hbb] at hb ht1
    rw [if_neg (by decide)] at ht1
    have hnd : ¬ q.d ≤ (q.down r : Int) := by unfold RQ.down; rw [ht1]; show ¬ q.d ≤ ((0 : Nat) : Int); omega
    cases hgg : rgoodB q.N q.sp q.most q.at' r
    · rw [hgg] at hg ht2
      rw [if_neg (by decide)] at ht2
      have hnu : ¬ q.u ≤ (q.ups r : Int) := by unfold RQ.ups; rw [ht2]; show ¬ q.u ≤ ((0 : Nat) : Int); omega
      rw [show tickQ s r = { s with bad := 0, good := 0 } by simp [tickQ, hb, hg], show q.tick r = { q with R := q.R ++ [r] } by unfold RQ.tick; rw [if_neg hnd, if_neg hnu]]
      refine ⟨?_, ⟨h.dn, h.up_, h.sp, h.N_, h.am, h.at_, h.mv, ?_, ?_, h.al, h.il, h.m0, (by show q.mv ≤ _; have := h.m1; omega), (by show (q.R ++ [r]).length ≤ _; have := h.rl; simp; omega)⟩⟩
      · unfold RQ.tickB
        rw [decide_eq_false hnd, decide_eq_false hnu]
        simp [tickB, hb, hg]
      · show (0 : Int) = (tailF (rbadB q.N q.at') (q.R ++ [r]) : Nat)
        rw [ht1]; rfl
      · show (0 : Int) = (tailF (rgoodB q.N q.sp q.most q.at') (q.R ++ [r]) : Nat)
        rw [ht2]; rfl
    · rw [hgg] at hg ht2
      rw [if_pos rfl] at ht2
      have hup : (q.ups r : Int) = s.good + 1 := by unfold RQ.ups; rw [ht2, h.good]; omega
      have hat : s.at' < s.aim := by unfold lad.goodB at hg; simp at hg; exact hg.1
      by_cases hu : q.u ≤ (q.ups r : Int)
      · have hu' : s.up ≤ s.good + 1 := by rw [h.up_]; omega
        rw [show tickQ s r = stepQ s (s.at' + 1) by simp [tickQ, hb, hg, hu'], show q.tick r = { q with at' := q.at' + 1, mv := q.mv + 1, R := [] } by unfold RQ.tick; rw [if_neg hnd, if_pos hu]]
        refine ⟨?_, ⟨h.dn, h.up_, h.sp, h.N_, h.am, (by show s.at' + 1 = q.at' + 1; rw [h.at_]), (by show s.moves + 1 = q.mv + 1; rw [h.mv]), rfl, rfl, (by show q.at' + 1 < q.N.length; have := h.at_; have := h.il; omega), h.il, (by show 0 ≤ q.mv + 1; have := h.m0; omega), (by show q.mv + 1 ≤ _; have := h.m1; omega), (by show ([] : List Int).length ≤ _; simp)⟩⟩
        unfold RQ.tickB
        rw [decide_eq_true hu]
        simp [tickB, hb, hg, hu']
      · have hu' : ¬ s.up ≤ s.good + 1 := by rw [h.up_]; omega
        rw [show tickQ s r = { s with bad := 0, good := s.good + 1 } by simp [tickQ, hb, hg, hu'], show q.tick r = { q with R := q.R ++ [r] } by unfold RQ.tick; rw [if_neg hnd, if_neg hu]]
        refine ⟨?_, ⟨h.dn, h.up_, h.sp, h.N_, h.am, h.at_, h.mv, ?_, ?_, h.al, h.il, h.m0, (by show q.mv ≤ _; have := h.m1; omega), (by show (q.R ++ [r]).length ≤ _; have := h.rl; simp; omega)⟩⟩
        · unfold RQ.tickB
          rw [decide_eq_false hnd, decide_eq_false hu]
          simp [tickB, hb, hg]; omega
        · show (0 : Int) = (tailF (rbadB q.N q.at') (q.R ++ [r]) : Nat)
          rw [ht1]; rfl
        · show s.good + 1 = (tailF (rgoodB q.N q.sp q.most q.at') (q.R ++ [r]) : Nat)
          rw [ht2, h.good]; omega
  · rw [hbb] at hb ht1
    rw [if_pos rfl] at ht1
    have hgg : rgoodB q.N q.sp q.most q.at' r = false := by unfold rgoodB; rw [hbb]; rfl
    rw [hgg] at ht2
    rw [if_neg (by decide)] at ht2
    have hnu : ¬ q.u ≤ (q.ups r : Int) := by unfold RQ.ups; rw [ht2]; show ¬ q.u ≤ ((0 : Nat) : Int); omega
    have hdn : (q.down r : Int) = s.bad + 1 := by unfold RQ.down; rw [ht1, h.bad]; omega
    by_cases hd : q.d ≤ (q.down r : Int)
    · have hd' : s.down ≤ s.bad + 1 := by rw [h.dn]; omega
      rw [show tickQ s r = stepQ s (s.at' - 1) by simp [tickQ, hb, hd'], show q.tick r = { q with at' := q.at' - 1, mv := q.mv + 1, R := [] } by unfold RQ.tick; rw [if_pos hd]]
      refine ⟨?_, ⟨h.dn, h.up_, h.sp, h.N_, h.am, (by show s.at' - 1 = q.at' - 1; rw [h.at_]), (by show s.moves + 1 = q.mv + 1; rw [h.mv]), rfl, rfl, (by show q.at' - 1 < q.N.length; have := h.al; omega), h.il, (by show 0 ≤ q.mv + 1; have := h.m0; omega), (by show q.mv + 1 ≤ _; have := h.m1; omega), (by show ([] : List Int).length ≤ _; simp)⟩⟩
      unfold RQ.tickB
      rw [decide_eq_true hd]
      simp [tickB, hb, hd']
    · have hd' : ¬ s.down ≤ s.bad + 1 := by rw [h.dn]; omega
      rw [show tickQ s r = { s with bad := s.bad + 1, good := 0 } by simp [tickQ, hb, hd'], show q.tick r = { q with R := q.R ++ [r] } by unfold RQ.tick; rw [if_neg hd, if_neg hnu]]
      refine ⟨?_, ⟨h.dn, h.up_, h.sp, h.N_, h.am, h.at_, h.mv, ?_, ?_, h.al, h.il, h.m0, (by show q.mv ≤ _; have := h.m1; omega), (by show (q.R ++ [r]).length ≤ _; have := h.rl; simp; omega)⟩⟩
      · unfold RQ.tickB
        rw [decide_eq_false hd, decide_eq_false hnu]
        simp [tickB, hb]; omega
      · show s.bad + 1 = (tailF (rbadB q.N q.at') (q.R ++ [r]) : Nat)
        rw [ht1, h.bad]; omega
      · show (0 : Int) = (tailF (rgoodB q.N q.sp q.most q.at') (q.R ++ [r]) : Nat)
        rw [ht2]; rfl
theorem RQ.tick_same (q : RQ) (r : Int) : (q.tick r).d = q.d ∧ (q.tick r).u = q.u ∧ (q.tick r).sp = q.sp ∧ (q.tick r).N = q.N ∧ (q.tick r).most = q.most := by
  unfold RQ.tick
  split
  · exact ⟨rfl, rfl, rfl, rfl, rfl⟩
  · split <;> exact ⟨rfl, rfl, rfl, rfl, rfl⟩
theorem Rl.qok {s : Q} {q : RQ} {k : Nat} (h : Rl s q k) (hr : Rise q.N) (hs : 0 ≤ q.sp ∧ q.sp ≤ 100) (d1 : 1 ≤ q.d) (u1 : 1 ≤ q.u) (hk : k ≤ 900) : q.ok :=
  ⟨h.al, by have := h.am; have := h.il; omega, hr.2.1, hr.bd, hs.1, hs.2, d1, u1, by have := h.rl; omega, h.m0, by have := h.m1; omega⟩
theorem Rl.sok {s : Q} {q : RQ} {k : Nat} (h : Rl s q k) (hr : Rise q.N) (hs : 0 ≤ q.sp ∧ q.sp ≤ 100) (d1 : 1 ≤ q.d ∧ q.d ≤ 8) (u1 : 1 ≤ q.u ∧ q.u ≤ 8) (hk : k ≤ 900) : s.ok := by
  have hl := h.rl
  have h1 := tailF_le (rbadB q.N q.at') q.R
  have h2 := tailF_le (rgoodB q.N q.sp q.most q.at') q.R
  obtain ⟨e1, e2, e3, e4, e5, e6, e7, e8, e9, e10, e11, e12, e13, e14⟩ := h
  exact ⟨by rw [e4]; exact hr.1, by rw [e4]; exact hr.2.1, by rw [e4]; exact hr.bd, by rw [e6, e4]; exact e10, by rw [e4]; exact e11, by omega, by omega, by omega, by omega, by omega, by omega, by omega, by omega, by omega, by omega, by omega, by omega⟩

/-- the memory of the law -/
structure Kl (w wr : World) (p g c' px : Nat) (ao : Option Addr) (cc : Nat) (s : Q) (q : RQ) (ra : Option Addr) (rc : Nat) : Prop where
  own : Own w wr p g c' s
  x : Blk wr px (q8 q ao cc (.slice ra q.R.length rc)) RL
  sub : Sub IE 0 wr (.slice ra q.R.length rc) q.R
  rb : ∀ b, (Value.slice ra q.R.length rc).ownBlock = some b → px < b ∧ p < b
  vw : Vw wr ao q.N
  vb : ∀ b o, ao = some ⟨b, o, none⟩ → b ≠ p ∧ b ≠ px
  le : w.heap.size ≤ px
  ne : px ≠ p
  gx : g ≠ px
theorem Vw.turns {w w1 : World} {a : Option Addr} {N : List Int} {S : Nat → Prop} (h : Vw w a N) (t : Turns S w w1) (hn : ∀ b o, a = some ⟨b, o, none⟩ → ¬ S b) : Vw w1 a N := by
  rcases h with h | ⟨g, o, ha, hg, hc⟩
  · exact .inl h
  · exact .inr ⟨g, o, ha, Nat.lt_of_lt_of_le hg t.size, fun k hk => (t.cell (a := ⟨g, o + k, none⟩) hg (hn g o ha)).trans (hc k hk)⟩
section
variable {w wr w2 : World} {p g c' px : Nat} {ao : Option Addr} {cc : Nat} {s t : Q} {q q' : RQ} {ra ra' : Option Addr} {rc rc' : Nat}
theorem Kl.later (h : Kl w wr p g c' px ao cc s q ra rc) (n : New wr w2) : Kl w w2 p g c' px ao cc s q ra rc :=
  ⟨h.own.later n, n.blk h.x (fun h => h), Sub.turns h.sub n (fun _ _ h => h), h.rb, h.vw.later n, h.vb, h.le, h.ne, h.gx⟩
theorem Kl.at_ (h : Kl w wr p g c' px ao cc s q ra rc) (k : At wr w2 p g c' t) : Kl w w2 p g c' px ao cc t q ra rc :=
  ⟨h.own.at_ k, k.2.blk h.x h.ne, Sub.turns' h.sub k.2 (fun b hb e => by have := h.rb b hb; omega), h.rb, h.vw.turns k.2 (fun b o e => (h.vb b o e).1), h.vb, h.le, h.ne, h.gx⟩
/-- the reference's answer is stored -/
theorem Kl.stored (h : Kl w wr p g c' px ao cc s q ra rc) (n : New wr w2) (hs : Sub IE 0 w2 (.slice ra' q'.R.length rc') q'.R) (hsrc : ∀ b, (Value.slice ra' q'.R.length rc').ownBlock = some b → wr.heap.size ≤ b) (hN : q'.N = q.N) :
    Kl w (puts w2 px 0 (q8 q' ao cc (.slice ra' q'.R.length rc')).toList) p g c' px ao cc s q' ra' rc' := by
  have h2 := h.later n
  have hpx := h.x.lt
  have hpp := h.own.ls.blk.lt
  have hvb : ∀ b, (Value.slice ra' q'.R.length rc').ownBlock = some b → px < b ∧ p < b := fun b hb => by have := hsrc b hb; omega
  have ht := puts_turns (S := (· = px)) (p := px) (.inl rfl) (q8 q' ao cc (.slice ra' q'.R.length rc')).toList 0 _ (Turns.refl (· = px) w2)
  refine ⟨⟨?_, h2.own.n.trans (ht.mono (fun i _ hi => .inr (by rw [hi]; exact h.le))), h.own.p0⟩, puts_blk (q8 q ao cc (.slice ra q.R.length rc)).toList _ h2.x rfl, Sub.turns' hs ht (fun b hb e => by have := hvb b hb; omega), hvb, ?_, h.vb, h.le, h.ne, h.gx⟩
  · exact ⟨ht.blk h2.own.ls.blk (fun e => h.ne e.symm), fun k hk => (ht.cell (a := ⟨g, k, none⟩) h2.own.ls.gl h.gx).trans (h2.own.ls.row k hk), Nat.lt_of_lt_of_le h2.own.ls.gl ht.size, h2.own.ls.ne⟩
  · rw [hN]; exact h2.vw.turns ht (fun b o e => (h.vb b o e).2)
end
abbrev zero8 : Array Value := #[.int .i64 0, .int .i64 0, .int .i64 0, .slice none 0 0, .int .i64 0, .int .i64 0, .int .i64 0, .slice none 0 0]
/-- what the region of the reference's call holds on to -/
abbrev HeldX (w w' : World) (px b o : Nat) (a0 a1 a2 a3 a4 a5 a6 a7 c : Value) : Prop :=
  New w w' ∧ px < w'.heap.size ∧ b < w'.heap.size ∧ w'.cell? ⟨px, 0, none⟩ = some a0 ∧ w'.cell? ⟨px, 1, none⟩ = some a1 ∧ w'.cell? ⟨px, 2, none⟩ = some a2 ∧ w'.cell? ⟨px, 3, none⟩ = some a3 ∧ w'.cell? ⟨px, 4, none⟩ = some a4 ∧ w'.cell? ⟨px, 5, none⟩ = some a5 ∧ w'.cell? ⟨px, 6, none⟩ = some a6 ∧ w'.cell? ⟨px, 7, none⟩ = some a7 ∧ w'.cell? ⟨b, o, none⟩ = some c
theorem heldX_drew {w w' : World} {px b o : Nat} {a0 a1 a2 a3 a4 a5 a6 a7 c : Value} (h : HeldX w w' px b o a0 a1 a2 a3 a4 a5 a6 a7 c) : HeldX w w'.drew px b o a0 a1 a2 a3 a4 a5 a6 a7 c := by
  obtain ⟨hn, h⟩ := h
  exact ⟨hn.drew, h⟩
theorem heldX_new {w w1 w2 : World} {px b o : Nat} {a0 a1 a2 a3 a4 a5 a6 a7 c : Value} (k : New w1 w2) (h : HeldX w w1 px b o a0 a1 a2 a3 a4 a5 a6 a7 c) : HeldX w w2 px b o a0 a1 a2 a3 a4 a5 a6 a7 c := by
  obtain ⟨hn, hl, hb, h0, h1, h2, h3, h4, h5, h6, h7, h8⟩ := h
  have c := fun i => k.cell (a := ⟨px, i, none⟩) hl (fun h => h)
  exact ⟨new_tr hn k, Nat.lt_of_lt_of_le hl k.size, Nat.lt_of_lt_of_le hb k.size, (c 0).trans h0, (c 1).trans h1, (c 2).trans h2, (c 3).trans h3, (c 4).trans h4, (c 5).trans h5, (c 6).trans h6, (c 7).trans h7, (k.cell (a := ⟨b, o, none⟩) hb (fun h => h)).trans h8⟩
theorem heldX_alloc {w w1 : World} {px b o : Nat} {a0 a1 a2 a3 a4 a5 a6 a7 c : Value} (x : Obj) (h : HeldX w w1 px b o a0 a1 a2 a3 a4 a5 a6 a7 c) : HeldX w (w1.alloc x) px b o a0 a1 a2 a3 a4 a5 a6 a7 c :=
  heldX_new ((Turns.refl _ _).alloc x) h
theorem new_of_y {w W wq : World} (h : New W wq) (k : New w W) : New w wq := new_tr k h
theorem new_yb {w W wq : World} (h : New W wq) (hW : W.heap = (w.alloc (.cells zero8 RL)).heap) : Blk wq w.heap.size zero8.toList.toArray RL := by
  have h0 : Blk W w.heap.size zero8 RL := by
    unfold Blk; rw [hW]; exact Blk.new w _ _
  exact h.blk h0 (fun h => h)
theorem new_y {w W wq : World} (h : New W wq) (hW : W.heap = (w.alloc (.cells zero8 RL)).heap) :
    wq.cell? ⟨w.heap.size, 0, none⟩ = some (.int .i64 0) ∧ wq.cell? ⟨w.heap.size, 1, none⟩ = some (.int .i64 0) ∧ wq.cell? ⟨w.heap.size, 2, none⟩ = some (.int .i64 0) ∧ wq.cell? ⟨w.heap.size, 3, none⟩ = some (.slice none 0 0) ∧ wq.cell? ⟨w.heap.size, 4, none⟩ = some (.int .i64 0) ∧ wq.cell? ⟨w.heap.size, 5, none⟩ = some (.int .i64 0) ∧ wq.cell? ⟨w.heap.size, 6, none⟩ = some (.int .i64 0) ∧ wq.cell? ⟨w.heap.size, 7, none⟩ = some (.slice none 0 0)
    ∧ wq.frozen? ⟨w.heap.size, 0, none⟩ = false ∧ wq.frozen? ⟨w.heap.size, 1, none⟩ = false ∧ wq.frozen? ⟨w.heap.size, 2, none⟩ = false ∧ wq.frozen? ⟨w.heap.size, 3, none⟩ = false ∧ wq.frozen? ⟨w.heap.size, 4, none⟩ = false ∧ wq.frozen? ⟨w.heap.size, 5, none⟩ = false ∧ wq.frozen? ⟨w.heap.size, 6, none⟩ = false ∧ wq.frozen? ⟨w.heap.size, 7, none⟩ = false := by
  have hb := new_yb h hW
  exact ⟨hb.cell 0, hb.cell 1, hb.cell 2, hb.cell 3, hb.cell 4, hb.cell 5, hb.cell 6, hb.cell 7, hb.free 0, hb.free 1, hb.free 2, hb.free 3, hb.free 4, hb.free 5, hb.free 6, hb.free 7⟩

theorem new_y2 {w wq : World} (h : New (World.drew (World.alloc w (.cells #[.int .i64 0, .int .i64 0, .int .i64 0, .slice none 0 0, .int .i64 0, .int .i64 0, .int .i64 0, .slice none 0 0] RL))) wq) :
    wq.cell? ⟨w.heap.size, 0, none⟩ = some (.int .i64 0) ∧ wq.cell? ⟨w.heap.size, 1, none⟩ = some (.int .i64 0) ∧ wq.cell? ⟨w.heap.size, 2, none⟩ = some (.int .i64 0) ∧ wq.cell? ⟨w.heap.size, 3, none⟩ = some (.slice none 0 0) ∧ wq.cell? ⟨w.heap.size, 4, none⟩ = some (.int .i64 0) ∧ wq.cell? ⟨w.heap.size, 5, none⟩ = some (.int .i64 0) ∧ wq.cell? ⟨w.heap.size, 6, none⟩ = some (.int .i64 0) ∧ wq.cell? ⟨w.heap.size, 7, none⟩ = some (.slice none 0 0)
    ∧ wq.frozen? ⟨w.heap.size, 0, none⟩ = false ∧ wq.frozen? ⟨w.heap.size, 1, none⟩ = false ∧ wq.frozen? ⟨w.heap.size, 2, none⟩ = false ∧ wq.frozen? ⟨w.heap.size, 3, none⟩ = false ∧ wq.frozen? ⟨w.heap.size, 4, none⟩ = false ∧ wq.frozen? ⟨w.heap.size, 5, none⟩ = false ∧ wq.frozen? ⟨w.heap.size, 6, none⟩ = false ∧ wq.frozen? ⟨w.heap.size, 7, none⟩ = false := new_y h rfl
theorem new_yb2 {w wq : World} (h : New (World.drew (World.alloc w (.cells #[.int .i64 0, .int .i64 0, .int .i64 0, .slice none 0 0, .int .i64 0, .int .i64 0, .int .i64 0, .slice none 0 0] RL))) wq) : Blk wq w.heap.size zero8.toList.toArray RL := new_yb h rfl
set_option maxRecDepth 10000 in
set_option maxHeartbeats 8000000 in
theorem plays_law (da ua sa ma : Int) (a : Option Addr) (n c : Nat) (z : Nat → Int) (ra : Option Addr) (rn rc : Nat) (rz : Nat → Int) (w : World) (d0 : -9223372036854775808 ≤ da) (d1 : da ≤ 9223372036854775807) (u0 : -9223372036854775808 ≤ ua) (u1 : ua ≤ 9223372036854775807) (s0 : -9223372036854775808 ≤ sa) (s1 : sa ≤ 9223372036854775807) (m0 : -9223372036854775808 ≤ ma) (m1 : ma ≤ 9223372036854775807) (hl : args.IntRow .i64 w a n c z) (hr : args.IntRow .i64 w ra rn rc rz) :
    Calls Try.prog 3 #[.int .i64 da, .int .i64 ua, .int .i64 sa, .int .i64 ma, .slice a n c, .slice ra rn rc] w fun e w' => e = .returned (.bool true) ∧ Below w.heap.size w w' := by
  have md := mask.mask3 da
  have mu := mask.mask3 ua
  have ms := mask.mask4 sa
  have xd : 0 ≤ da % 8 ∧ da % 8 ≤ 7 := by omega
  have xu : 0 ≤ ua % 8 ∧ ua % 8 ≤ 7 := by omega
  have xs : 0 ≤ sa % 16 ∧ sa % 16 ≤ 15 := by omega
  generalize da % 8 = dx at *
  generalize ua % 8 = ux at *
  generalize sa % 16 = sx at *
  obtain ⟨xd0, xd1⟩ := xd
  obtain ⟨xu0, xu1⟩ := xu
  obtain ⟨xs0, xs1⟩ := xs
  have HA := Lib.hid (fun w => awake w)
  have HNE := Lib.hid (fun W (N : New w W) => needs a n c z w W hl N)
  obtain ⟨hrn, hrw, hrc⟩ := hr
  unfold maxLen at hrn
  have HRC := Lib.hid hrc
  clear hl hrw hrc
  go_enter Try.func3, Try.ntmps3
  go_wp2_with fail
  refine (HA.out _).mono ?_
  rintro e w1 ⟨rfl, n1⟩
  have HN1 := Lib.hid n1
  clear n1
  go_wp2_with fail
  refine (HNE.out _ (HN1.out.alloc _)).mono ?_
  rintro e w3 ⟨ao, cc, N, rfl, hvw, hri, hbd, n3⟩
  have HC3 : Hid (Blk w3 w1.heap.size (cfg (1 + dx) (1 + ux) sx) CT ∧ w1.heap.size < w3.heap.size) := Lib.hid (by
    have h1 := n3.blk (Blk.new w1 (cfg (1 + dx) (1 + ux) sx) CT) (fun h => h)
    exact ⟨h1, h1.lt⟩)
  have HN3 : Hid (New w w3) := Lib.hid ((HN1.out.alloc _).trans (n3.mono (fun _ _ h => h.elim)))
  have HRI := Lib.hid hri
  have HVW := Lib.hid hvw
  have HNW := Lib.hid (new_ok (1 + dx) (1 + ux) sx ma ao cc N w3 hvw ⟨by omega, by omega, by omega, by omega, by omega, by omega⟩ hri)
  have HLN : Hid (1 ≤ N.length ∧ N.length ≤ 3) := Lib.hid ⟨hri.1, hri.2.1⟩
  have HVG : Hid (∀ b o, ao = some ⟨b, o, none⟩ → b < w3.heap.size) := Lib.hid (fun b o e => by
    rcases hvw with h | ⟨g, o', e2, hg, _⟩
    · have := hri.1; simp [h] at this
    · rw [e2] at e; injection e with e; injection e with e; omega)
  clear hvw hri hbd n3 HNE HN1
  generalize w1.heap.size = pc at *
  obtain ⟨c0, c1, c2⟩ := three HC3.out.1
  go_wp2_with fail
  refine HNW.out.mono ?_
  rintro e w4 ⟨p, g, c', rfl, ho⟩
  have hc4 := ho.n.blk HC3.out.1 (fun h => h)
  have HO4 := Lib.hid (Own.of_new HN3.out ho)
  have HV4 := Lib.hid (HVW.out.later ho.n)
  have HLT : Hid (p < w4.heap.size ∧ g < w4.heap.size ∧ w3.heap.size ≤ p) := Lib.hid ⟨ho.ls.blk.lt, ho.ls.gl, ho.p0⟩
  have hw34 := ho.n.size
  have HVG4 : Hid (∀ b o, ao = some ⟨b, o, none⟩ → b < w4.heap.size ∧ b < p) := Lib.hid (fun b o e => ⟨by have := HVG.out b o e; omega, by have := HVG.out b o e; have := HLT.out; omega⟩)
  have hle4 := HO4.out.n.size
  clear ho HNW HC3 HVW HVG c0 c1 c2 hw34 HN3
  obtain ⟨c0, c1, c2⟩ := three hc4
  have hpc := hc4.lt
  clear hc4
  have hlim := limF_eq HLN.out.1 ma
  have hlt := limF_lt HLN.out.1 ma
  have hl3 := HLN.out.2
  have hl1 := HLN.out.1
  obtain ⟨li, hli⟩ : ∃ li, li = limF N.length ma := ⟨_, rfl⟩
  rw [← hli] at hlim hlt
  have W9 : IntKind.i64.wrap ((N.length : Int) - 1) = (N.length : Int) - 1 := IntWalk.i64_in _ (by omega)
  have HR4 : Hid (Rl (fresh (1 + dx) (1 + ux) sx N ma) ⟨1 + dx, 1 + ux, sx, N, li, li, 0, []⟩ 0) := Lib.hid ⟨rfl, rfl, rfl, rfl, by show ((limF N.length ma : Nat) : Int) = _; rw [← hli], by show limF N.length ma = li; exact hli.symm, rfl, rfl, rfl, hlt, by show limF N.length ma < _; rw [← hli]; exact hlt, Int.le_refl _, Int.le_refl _, Nat.le_refl _⟩
  have HK4 : Hid (Kl w (w4.alloc (.cells (q8 ⟨1 + dx, 1 + ux, sx, N, li, li, 0, []⟩ ao cc (.slice none 0 0)) RL)) p g c' w4.heap.size ao cc (fresh (1 + dx) (1 + ux) sx N ma) ⟨1 + dx, 1 + ux, sx, N, li, li, 0, []⟩ none 0) :=
    Lib.hid ⟨HO4.out.later ((Turns.refl _ _).alloc _), Blk.new _ _ _, .inl ⟨rfl, rfl⟩, (fun b hb => by simp [Value.ownBlock] at hb), HV4.out.later ((Turns.refl _ _).alloc _), (fun b o e => by have := HVG4.out b o e; omega), HO4.out.n.size, by have := HLT.out; omega, by have := HLT.out; omega⟩
  have HME : Hid (1 ≤ 1 + dx ∧ 1 + dx ≤ 8 ∧ 1 ≤ 1 + ux ∧ 1 + ux ≤ 8 ∧ 0 ≤ sx ∧ sx ≤ 100) := Lib.hid (by omega)
  clear HO4 HV4 HVG4 hli
  generalize fresh (1 + dx) (1 + ux) sx N ma = s4 at *
  obtain ⟨mx, hmx⟩ : ∃ mx, (if ma < 0 then 0 else ma) = mx := ⟨_, rfl⟩
  have hmx2 : mx = max ma 0 := by rw [← hmx]; split <;> omega
  have hif : (if (N.length : Int) - 1 < mx then (N.length : Int) - 1 else mx) = (li : Int) := by
    rw [hlim, hmx2]
    split <;> omega
  clear hmx2
  clear hlim hlt hl3 hl1
  go_upto_region 10 with fail
  refine (show Code.wp _ _ _ _ (w4.alloc (.cells (q8 ⟨1 + dx, 1 + ux, sx, N, li, li, 0, []⟩ ao cc (.slice none 0 0)) RL)) from ?_)
  clear c0 c1 c2 hpc W9 hif hle4 hmx
  generalize w4.alloc (.cells (q8 ⟨1 + dx, 1 + ux, sx, N, li, li, 0, []⟩ ao cc (.slice none 0 0)) RL) = w5 at *
  generalize w4.heap.size = px at *
  go_wp2_with fail
  go_loopw [18] (fun i wr => ∃ (k : Nat) (s : Q) (at' : Nat) (mv : Int) (R : List Int) (qa : Option Addr) (qc : Nat), k ≤ rn ∧ k ≤ 200 ∧ i = .int .i64 k ∧ Kl w wr p g c' px ao cc s (RQ.mk (1 + dx) (1 + ux) sx N at' (li : Int) mv R) qa qc ∧ Rl s (RQ.mk (1 + dx) (1 + ux) sx N at' (li : Int) mv R) k) (fun i _ => rn - (intOf i).toNat)
  case atStart => exact ⟨0, s4, li, 0, [], none, 0, by omega, by omega, rfl, HK4.out, HR4.out⟩
  case round =>
    obtain ⟨k, s, at', mv, R, qa, qc, hk, hk2, rfl, hkl, hrl⟩ := hrel
    have HK := Lib.hid hkl
    have HR := Lib.hid hrl
    clear hkl hrl HK4 HR4
    by_cases hgo : k < rn ∧ k < 200
    · obtain ⟨hlt, hlt2⟩ := hgo
      obtain ⟨b, off, rfl, hb, hc⟩ := HRC.out.resolve_left (by omega)
      have HZ : Hid (∀ W, New w W → W.cell? ⟨b, off + k, none⟩ = some (.int .i64 (rz k)) ∧ b < W.heap.size) := Lib.hid (fun W n => ⟨(n.cell (a := ⟨b, off + k, none⟩) hb (fun h => h)).trans (hc k hlt), Nat.lt_of_lt_of_le hb n.size⟩)
      clear hc hb
      have x0 := (HZ.out _ HK.out.own.n).1
      have HT := Lib.hid (tick p g c' s (rz k) wr HK.out.own.ls (HR.out.sok HRI.out ⟨HME.out.2.2.2.2.1, HME.out.2.2.2.2.2⟩ ⟨HME.out.1, HME.out.2.1⟩ ⟨HME.out.2.2.1, HME.out.2.2.2.1⟩ (by omega)))
      have HF := Lib.hid (HR.out.tick (rz k) HME.out.1 HME.out.2.2.1)
      have HQO := Lib.hid (HR.out.qok HRI.out ⟨HME.out.2.2.2.2.1, HME.out.2.2.2.2.2⟩ HME.out.1 HME.out.2.2.1 (by omega))
      have e1 : decide ((k : Int) < (rn : Int)) = true := decide_eq_true (by omega)
      have e2 : decide ((k : Int) < 200) = true := decide_eq_true (by omega)
      have i1 : (k : Int) < (rn : Int) := by omega
      generalize rz k = r at *
      have htk := HT.out
      rw [HF.out.1] at htk
      have HT := Lib.hid htk
      clear htk
      generalize hq : RQ.tick ⟨1 + dx, 1 + ux, sx, N, at', li, mv, R⟩ r = q' at *
      have HQE := Lib.hid hq
      generalize htb : RQ.tickB ⟨1 + dx, 1 + ux, sx, N, at', li, mv, R⟩ r = tb at *
      have HTE := Lib.hid htb
      clear hq htb
      have HSM : Hid (q'.d = 1 + dx ∧ q'.u = 1 + ux ∧ q'.sp = sx ∧ q'.N = N ∧ q'.most = li) := Lib.hid (by rw [← HQE.out]; exact RQ.tick_same _ _)
      go_wp2_with fail
      refine HT.out.mono ?_
      rintro e w6 ⟨rfl, a6⟩
      have HK6 := Lib.hid (HK.out.at_ a6)
      clear HT a6 x0 HK
      generalize tickQ s r = s6 at *
      have x0 := (HZ.out _ HK6.out.own.n).1
      have hbl := (HZ.out _ HK6.out.own.n).2
      have HRT : Hid (∀ W, New w6 W → Calls Try.prog 13 #[.agg (rl (1 + dx) (1 + ux) sx (.slice ao N.length cc) at' li mv (.slice qa R.length qc)), .int .i64 r] W fun e w' => ∃ ra' rc', e = .returned (.tuple #[.agg (rl (1 + dx) (1 + ux) sx (.slice ao N.length cc) q'.at' li q'.mv (.slice ra' q'.R.length rc')), .bool tb]) ∧ New w6 w' ∧ New W w' ∧ Sub IE 0 w' (.slice ra' q'.R.length rc') q'.R ∧ ∀ b, (Value.slice ra' q'.R.length rc').ownBlock = some b → w6.heap.size ≤ b ∧ W.heap.size ≤ b) := Lib.hid (fun W nW => (rtick ⟨1 + dx, 1 + ux, sx, N, at', li, mv, R⟩ ao cc qa R.length qc r W (HK6.out.vw.later nW) HQO.out rfl (Sub.turns HK6.out.sub nW (fun _ _ h => h))).mono (fun e w' ⟨ra', rc', he, hp⟩ => by
        rw [HQE.out] at he hp
        rw [HTE.out] at he
        unfold q8 at he
        rw [HSM.out.1, HSM.out.2.1, HSM.out.2.2.1, HSM.out.2.2.2.1, HSM.out.2.2.2.2] at he
        exact ⟨ra', rc', he, new_tr nW hp.n, hp.n, hp.sub, fun b hb => ⟨Nat.le_trans nW.size (hp.src b hb), hp.src b hb⟩⟩))
      obtain ⟨qd, qu, qsp, qN, qat, qmost, qmv, qR⟩ := q'
      obtain ⟨sm1, sm2, sm3, sm4, sm5⟩ := HSM.out
      dsimp only at *
      replace sm3 := sm3.symm
      replace sm4 := sm4.symm
      subst sm1 sm2 sm3 sm4 sm5
      clear HSM HQE HTE
      have hpx := HK6.out.x.lt
      obtain ⟨c0, c1, c2, c3, c4, c5, c6, c7⟩ := eight HK6.out.x
      go_upto_region 14 with fail
      generalize hRl : R.length = Rn at *
      have HRl := Lib.hid hRl
      clear hRl
      go_cut [20, 21] (fun yv bv wx => ∃ (py : Nat) (ra' : Option Addr) (rc' : Nat), yv = .pointer (some ⟨py, 0, none⟩) ∧ bv = .bool tb ∧ Blk wx py (rl (1 + dx) (1 + ux) sx (.slice ao N.length cc) qat li qmv (.slice ra' qR.length rc')) RL ∧ New w6 wx ∧ Sub IE 0 wx (.slice ra' qR.length rc') qR ∧ ∀ b, (Value.slice ra' qR.length rc').ownBlock = some b → w6.heap.size ≤ b)
      case first =>
        have hpn : px ≠ w6.heap.size := by omega
        have hbn : b ≠ w6.heap.size := by omega
        go_region_with (go_at_call 13; (with_reducible refine Calls.mono (HRT.out _ ?_) ?_); (focus (with_reducible (first | exact (Turns.refl _ _).drew | exact ((Turns.refl _ _).alloc _).drew))); rintro e wq ⟨ra7, rc7, rfl, n67, hnq, s7, b7⟩; have S7 := Lib.hid (And.intro n67 (And.intro s7 b7)); clear n67 s7 b7; (first | (have hpy := new_y2 hnq; obtain ⟨y0, y1, y2, y3, y4, y5, y6, y7, g0, g1, g2, g3, g4, g5, g6, g7⟩ := hpy) | skip))
        all_goals
          go_wp2_with fail
          go_meet
          case rel =>
            refine ⟨_, ra7, rc7, rfl, rfl, ?_⟩
            first
              | (with_reducible exact ⟨Blk.new _ _ _, S7.out.1.alloc _, Sub.turns S7.out.2.1 ((Turns.refl (fun _ => False) _).alloc _) (fun _ _ h => h), fun b hb => (S7.out.2.2 b hb).1⟩)
              | (have h1 := puts_blk _ [.int .i64 (1 + dx), .int .i64 (1 + ux), .int .i64 sx, .slice ao N.length cc, .int .i64 qat, .int .i64 li, .int .i64 qmv, .slice ra7 qR.length rc7] (new_yb2 hnq) rfl
                 have h2 := puts_turns (S := fun _ => False) (a := w6) (p := w6.heap.size) (.inr (Nat.le_refl _)) [.int .i64 (1 + dx), .int .i64 (1 + ux), .int .i64 sx, .slice ao N.length cc, .int .i64 qat, .int .i64 li, .int .i64 qmv, .slice ra7 qR.length rc7] 0 _ S7.out.1
                 have h3 := Sub.turns' S7.out.2.1 (puts_turns (S := (· = w6.heap.size)) (a := wq) (p := w6.heap.size) (.inl rfl) [.int .i64 (1 + dx), .int .i64 (1 + ux), .int .i64 sx, .slice ao N.length cc, .int .i64 qat, .int .i64 li, .int .i64 qmv, .slice ra7 qR.length rc7] 0 _ (Turns.refl _ _)) (fun b0 hb0 e0 => by have := (S7.out.2.2 b0 hb0).2; simp at this; omega)
                 simp only [puts, Nat.zero_add, Nat.reduceAdd] at h1 h2 h3
                 with_reducible exact ⟨h1, h2, h3, fun b hb => (S7.out.2.2 b hb).1⟩)
              | (trace_state; sorry)
      case rest =>
        obtain ⟨py, ra7, rc7, rfl, rfl, hby, hn7, hs7, hb7⟩ := hcut
        have HST := Lib.hid (Kl.stored (q' := ⟨1 + dx, 1 + ux, sx, N, qat, li, qmv, qR⟩) HK6.out hn7 hs7 hb7 rfl)
        have HR7 := Lib.hid HF.out.2
        have hx7 := hn7.blk HK6.out.x (fun h => h)
        obtain ⟨c0, c1, c2, c3, c4, c5, c6, c7⟩ := eight hby
        obtain ⟨y0, y1, y2, y3, y4, y5, y6, y7⟩ := eight hx7
        obtain ⟨f0, f1, f2, f3, f4, f5, f6, f7⟩ := frees8 hx7
        clear hby hn7 hs7 hb7 hx7
        go_upto_region 16 with fail
        clear c0 c1 c2 c3 c4 c5 c6 c7 y0 y1 y2 y3 y4 y5 y6 y7 f0 f1 f2 f3 f4 f5 f6 f7 hpx hbl x0
        have HK7 : Hid (Kl w (World.setCell (World.setCell (World.setCell (World.setCell (World.setCell (World.setCell (World.setCell (World.setCell wc ⟨px, 0, none⟩ (.int .i64 (1 + dx))) ⟨px, 1, none⟩ (.int .i64 (1 + ux))) ⟨px, 2, none⟩ (.int .i64 sx)) ⟨px, 3, none⟩ (.slice ao N.length cc)) ⟨px, 4, none⟩ (.int .i64 (qat : Nat))) ⟨px, 5, none⟩ (.int .i64 (li : Nat))) ⟨px, 6, none⟩ (.int .i64 qmv)) ⟨px, 7, none⟩ (.slice ra7 qR.length rc7)) p g c' px ao cc s6 ⟨1 + dx, 1 + ux, sx, N, qat, li, qmv, qR⟩ ra7 rc7) := Lib.hid (by
          have h := HST.out
          simp only [q8, rl, puts, Nat.zero_add, Nat.reduceAdd] at h
          exact h)
        generalize (World.setCell (World.setCell (World.setCell (World.setCell (World.setCell (World.setCell (World.setCell (World.setCell wc ⟨px, 0, none⟩ (.int .i64 (1 + dx))) ⟨px, 1, none⟩ (.int .i64 (1 + ux))) ⟨px, 2, none⟩ (.int .i64 sx)) ⟨px, 3, none⟩ (.slice ao N.length cc)) ⟨px, 4, none⟩ (.int .i64 (qat : Nat))) ⟨px, 5, none⟩ (.int .i64 (li : Nat))) ⟨px, 6, none⟩ (.int .i64 qmv)) ⟨px, 7, none⟩ (.slice ra7 qR.length rc7)) = w8 at *
        have HK8 := HK7
        clear HST HK7
        obtain ⟨y0, y1, y2, y3, y4, y5, y6, y7⟩ := eight HK8.out.x
        have HM := fun nq => lad.at_ p g c' s6 (w8.drewN nq) (HK8.out.own.ls.later ((Turns.refl _ _).drewN nq))
        have HJ := fun nq => lad.moves p g c' s6 (w8.drewN nq) (HK8.out.own.ls.later ((Turns.refl _ _).drewN nq))
        rw [HR7.out.at_] at HM
        rw [HR7.out.mv] at HJ
        have HM := Lib.hid HM
        have HJ := Lib.hid HJ
        cases tb
        all_goals
          go_quiet ((first
            | (go_at_call 14; exact Calls.quiet_of_same (HM.out _))
            | (go_at_call 15; exact Calls.quiet_of_same (HJ.out _))))
          go_wp2_with fail
          go_roundw
          case rel => exact ⟨k + 1, s6, qat, qmv, qR, ra7, rc7, by omega, by omega, by go_num, HK8.out.later ((Turns.refl _ _).drewN _), HR7.out⟩
          case measure => simp [intOf]; omega
    · have hx : ¬ k < rn ∨ (k < rn ∧ ¬ k < 200) := by omega
      clear hgo
      rcases hx with h1 | ⟨h1, h2⟩
      · have d1 : decide ((k : Int) < (rn : Int)) = false := decide_eq_false (by omega)
        go_wp2_with fail
        go_ret
        exact ⟨rfl, HK.out.own.below⟩
      · have d1 : decide ((k : Int) < (rn : Int)) = true := decide_eq_true (by omega)
        have d2 : decide ((k : Int) < 200) = false := decide_eq_false (by omega)
        go_wp2_with fail
        go_ret
        exact ⟨rfl, HK.out.own.below⟩
end Go.Proofs.Ytfhbcdjbfjoknaa.lad
