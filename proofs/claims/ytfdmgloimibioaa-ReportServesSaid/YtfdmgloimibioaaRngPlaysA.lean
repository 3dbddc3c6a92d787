/-
  RingPlays: what each act leaves.
-/
import Derived.Test.YtfdmgloimibioaaRngRef
import Derived.Test.YtfdmgloimibioaaRngAll
import Derived.Test.YtfdmgloimibioaaRactRow
import Derived.Test.YtfdmgloimibioaaMask
import Derived.Test.YtfdmgloimibioaaCut
import Derived.Deep.DeepCutAuto
import Derived.Deep.QuietTactic
import Derived.BigQuiet
namespace Go.Proofs.Ytfdmgloimibioaa.rng
open Go.RowKit mem Go.Maps cutl
open Go.Proofs.Ytfdmgloimibioaa.args (IntRow Ract)
set_option linter.unusedVariables false

/-- the ring, and the reference's list -/
structure Pl (w wr : World) (p bm : Nat) (pv v : Value) (k : Nat) (r : R) (Z : Nat) (m gp : Int) : Prop where
  own : Own w wr p bm pv k r
  rows : LR w.heap.size wr v r.L
  apart : ∀ g, v.ownBlock = some g → ¬ Foot p bm pv g
  sz : r.size = Z
  ms : r.most = m
  gs : r.gap = gp
  sent : r.sent ≤ 10 * k
section
variable {w w1 w2 w3 : World} {p bm : Nat} {pv v v' : Value} {k : Nat} {r : R} {Z : Nat} {m gp : Int}
theorem Pl.len (h : Pl w w1 p bm pv v k r Z m gp) : r.L.length ≤ Z := by rw [← h.sz]; exact h.own.rg.le
theorem Pl.later (h : Pl w w1 p bm pv v k r Z m gp) (n : New w1 w2) : Pl w w2 p bm pv v k r Z m gp :=
  ⟨h.own.later n, h.rows.turns n (fun _ _ h => h), h.apart, h.sz, h.ms, h.gs, h.sent⟩
theorem Pl.more (h : Pl w w1 p bm pv v k r Z m gp) : Pl w w1 p bm pv v (k + 1) r Z m gp :=
  ⟨⟨h.own.rg.more (Nat.le_succ _), h.own.n, h.own.p0, h.own.m0, h.own.v0⟩, h.rows, h.apart, h.sz, h.ms, h.gs, by have := h.sent; omega⟩
/-- the program's Put, then the reference's -/
theorem Pl.put {n : Int} {s : ByteArray} {pv' : Value} (h : Pl w w1 p bm pv v k r Z m gp) (ho : Own w w2 p bm pv' (k + 1) (putR r n s)) (hr : LR w2.heap.size w3 v' (putR r n s).L) (hn : New w2 w3) (hw : w.heap.size ≤ w2.heap.size) : Pl w w3 p bm pv' v' (k + 1) (putR r n s) Z m gp := by
  have e : (putR r n s).size = r.size ∧ (putR r n s).most = r.most ∧ (putR r n s).gap = r.gap ∧ (putR r n s).sent = r.sent := by unfold putR; split <;> exact ⟨rfl, rfl, rfl, rfl⟩
  refine ⟨ho.later hn, hr.mono hw, ?_, e.1.trans h.sz, e.2.1.trans h.ms, e.2.2.1.trans h.gs, by rw [e.2.2.2]; have := h.sent; omega⟩
  intro g hg hf
  have h1 := (hr.lt g hg).1
  rcases hf with rfl | rfl | hf
  · have := ho.rg.lt; omega
  · have := ho.rg.mlt; omega
  · have := ho.rg.vlt g hf; omega
theorem againR_keep (r : R) (n now : Int) : (againR r n now).size = r.size ∧ (againR r n now).most = r.most ∧ (againR r n now).gap = r.gap := by
  unfold againR
  split
  · exact ⟨rfl, rfl, rfl⟩
  · split
    · exact ⟨rfl, rfl, rfl⟩
    · split
      · exact ⟨rfl, rfl, rfl⟩
      · split <;> exact ⟨rfl, rfl, rfl⟩
theorem allSt_keep (r : R) (now : Int) (z : Nat → Int) (k : Nat) : (allSt r now z k).1.size = r.size ∧ (allSt r now z k).1.most = r.most ∧ (allSt r now z k).1.gap = r.gap := by
  induction k with
  | zero => exact ⟨rfl, rfl, rfl⟩
  | succ k ih =>
    obtain ⟨a, b, c⟩ := againR_keep (allSt r now z k).1 (z k) now
    exact ⟨a.trans ih.1, b.trans ih.2.1, c.trans ih.2.2⟩
end

theorem againR_sentE (r : R) (n now : Int) : (againR r n now).sent = r.sent + (if againE r n now = 0 then 1 else 0) := by
  unfold againE againR findR
  cases hf : lastIdx r.L n with
  | none => simp
  | some i =>
    obtain ⟨x, hx, _⟩ := lastIdx_some hf
    simp only [hx]
    split
    · simp
    · split <;> simp
theorem allSt_ok {r : R} (h : r.ok) {now : Int} (t0 : 0 ≤ now) (t1 : now ≤ 1048576) (z : Nat → Int) (k : Nat) (hs : r.sent + k ≤ 1048576) : (allSt r now z k).1.ok := by
  induction k with
  | zero => exact h
  | succ k ih =>
    have h1 := allSt_sent r now z k
    exact againR_ok (ih (by omega)) (z k) t0 t1 (by omega)
theorem allSt_L (r : R) (now : Int) (z : Nat → Int) (k : Nat) : (allSt r now z k).1.L.length = r.L.length := by
  induction k with
  | zero => rfl
  | succ k ih => exact (againR_len _ _ _).trans ih

/-- both have asked -/
theorem Pl.again {w w1 w2 w3 : World} {p bm : Nat} {pv v v' : Value} {k : Nat} {r r' : R} {Z : Nat} {m gp : Int} (h : Pl w w1 p bm pv v k r Z m gp) (hl : Left w1 w2 p bm pv k r') (hr : LR w.heap.size w3 v' r'.L) (hn : New w2 w3) (ha : v' = v ∨ ∀ g, v'.ownBlock = some g → w2.heap.size ≤ g)
    (e : r'.size = r.size ∧ r'.most = r.most ∧ r'.gap = r.gap) (hs : r'.sent ≤ 10 * ((k + 1 : Nat) : Int)) : Pl w w3 p bm pv v' (k + 1) r' Z m gp := by
  have ho := (h.own.left hl).later hn
  refine ⟨⟨ho.rg.more (Nat.le_succ _), ho.n, ho.p0, ho.m0, ho.v0⟩, hr, ?_, e.1.trans h.sz, e.2.1.trans h.ms, e.2.2.trans h.gs, hs⟩
  rcases ha with rfl | ha
  · exact h.apart
  · intro g hg hf
    have h1 := ha g hg
    rcases hf with rfl | rfl | hf
    · have := hl.1.lt; omega
    · have := hl.1.mlt; omega
    · have := hl.1.vlt g hf; omega

/-- the reference's list and what is wanted, while the numbers are asked for one by one -/
structure Qs (w w4 wr2 : World) (p bm : Nat) (pv vl vw : Value) (r : R) (L : List ByteArray) : Prop where
  new : New w4 wr2
  want : Owns SE StT wr2 vw L
  wb : ∀ g, vw.ownBlock = some g → w4.heap.size ≤ g
  rows : LR w.heap.size wr2 vl r.L
  apart : ∀ g, vl.ownBlock = some g → ¬ Foot p bm pv g
  ap2 : ∀ g, vl.ownBlock = some g → vw.ownBlock ≠ some g
theorem Qs.asked {w w4 w1 w2 : World} {p bm : Nat} {pv vl vl' vw : Value} {r r' : R} {L : List ByteArray} (h : Qs w w4 w1 p bm pv vl vw r L) (hr : LR w.heap.size w2 vl' r'.L) (hn : New w1 w2) (ha : vl' = vl ∨ ∀ g, vl'.ownBlock = some g → w1.heap.size ≤ g) (hf : ∀ i, Foot p bm pv i → i < w4.heap.size) : Qs w w4 w2 p bm pv vl' vw r' L := by
  refine ⟨h.new.trans (hn.mono (fun _ _ h => h.elim)), h.want.turns hn (fun _ _ h => h), h.wb, hr, ?_, ?_⟩
  · rcases ha with rfl | ha
    · exact h.apart
    · intro g hg hfo
      have := ha g hg; have := hf g hfo; have := h.new.size; omega
  · rcases ha with rfl | ha
    · exact h.ap2
    · intro g hg e
      have := ha g hg; have := h.want.lt g e; omega
theorem Qs.push {w w4 w1 w2 : World} {p bm : Nat} {pv vl vw vw' : Value} {r : R} {L : List ByteArray} {s : ByteArray} {o : Obj} (h : Qs w w4 w1 p bm pv vl vw r L) (ho : Owns SE StT w2 vw' (L ++ [s])) (hg : (w1.alloc o).grownBy w2 vw.ownBlock) (ha : vw'.ownBlock = vw.ownBlock ∨ vw'.ownBlock = some (w1.alloc o).heap.size) : Qs w w4 w2 p bm pv vl vw' r (L ++ [s]) := by
  have t2 : Turns (fun k => some k = vw.ownBlock) w1 w2 := ((Turns.refl _ _).alloc _).trans ((Turns.of_grown hg).mono (fun k _ hk => .inl hk))
  have hlt := h.rows.lt
  refine ⟨h.new.trans (t2.mono (fun k _ hk => .inr (h.wb k hk.symm))), ho, ?_, h.rows.turns' t2 (fun g hg e => h.ap2 g hg e.symm), h.apart, ?_⟩
  · intro g hg
    rcases ha with e | e
    · exact h.wb g (by rw [← e]; exact hg)
    · rw [e] at hg; injection hg with hg; have := h.new.size; simp at hg; omega
  · intro g hg e
    rcases ha with e2 | e2
    · exact h.ap2 g hg (by rw [← e2]; exact e)
    · rw [e2] at e; injection e with e; have := (hlt g hg).2; simp at e; omega

theorem and16 (q : Int) (q0 : 0 ≤ q) (q1 : q ≤ 65535) : bits .and .u16 q 15 = q % 16 := by
  have h1 : (BitVec.ofInt 16 q).toNat = q.toNat := by simp [BitVec.toNat_ofInt]; omega
  have h2 : (BitVec.ofInt 16 15).toNat = 15 := rfl
  have h3 : ((BitVec.ofInt 16 q &&& BitVec.ofInt 16 15).toNat : Int) = q % 16 := by
    rw [BitVec.toNat_and, h1, h2, show (15 : Nat) = 2 ^ 4 - 1 from rfl, Nat.and_two_pow_sub_one_eq_mod]
    omega
  show IntKind.u16.wrap ((BitVec.ofInt IntKind.u16.bits q &&& BitVec.ofInt IntKind.u16.bits 15).toNat : Int) = _
  rw [show IntKind.u16.bits = 16 from rfl, h3]
  have h4 : IntKind.u16.wrap (q % 16) = (q % 16) % 65536 := rfl
  rw [h4]; omega
end Go.Proofs.Ytfdmgloimibioaa.rng
