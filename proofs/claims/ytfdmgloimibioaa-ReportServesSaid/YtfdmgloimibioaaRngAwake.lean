/-
  'awake' of layer 16; RingMay.
-/
import Derived.Test.YtfdmgloimibioaaRngPut2
namespace Go.Proofs.Ytfdmgloimibioaa.rng
open Go.RowKit mem Go.Maps
set_option linter.unusedVariables false

theorem put_is (p bm : Nat) (pv : Value) (k : Nat) (r : R) (n : Int) (s : ByteArray) (t : R) (ht : putR r n s = t) (w : World) (h : Rg w p bm pv k r) (n0 : 0 ≤ n) (n1 : n ≤ 65535) (hk : k < 1048576) :
    Calls Try.prog 14 #[.pointer (some ⟨p, 0, none⟩), .int .u16 n, .string s] w fun e w' => e = .returned (.tuple #[]) ∧ Putted w w' p bm pv (k + 1) t := by
  subst ht; exact put p bm pv k r n s w h n0 n1 hk

/-- a ring that the call made, and what it left alone -/
structure Own (w w' : World) (p bm : Nat) (pv : Value) (k : Nat) (r : R) : Prop where
  rg : Rg w' p bm pv k r
  n : New w w'
  p0 : w.heap.size ≤ p
  m0 : w.heap.size ≤ bm
  v0 : ∀ g, pv.ownBlock = some g → w.heap.size ≤ g
theorem Own.made {w w' : World} {r : R} (h : Rg w' (w.heap.size + 1) w.heap.size (.slice none 0 0) 0 r) (n : New w w') : Own w w' (w.heap.size + 1) w.heap.size (.slice none 0 0) 0 r :=
  ⟨h, n, Nat.le_succ _, Nat.le_refl _, fun g hg => by simp [Value.ownBlock] at hg⟩
theorem Own.foot {w w' : World} {p bm k : Nat} {pv : Value} {r : R} (h : Own w w' p bm pv k r) {i : Nat} (hi : Foot p bm pv i) : w.heap.size ≤ i := by
  rcases hi with rfl | rfl | hi
  · exact h.p0
  · exact h.m0
  · exact h.v0 i hi
theorem Own.put {w w1 w2 : World} {p bm k k' : Nat} {pv : Value} {r r' : R} (h : Own w w1 p bm pv k r) (h2 : Putted w1 w2 p bm pv k' r') : ∃ pv', Own w w2 p bm pv' k' r' := by
  obtain ⟨pv', hr, ht, hl⟩ := h2
  refine ⟨pv', hr, h.n.trans (ht.mono (fun i _ hi => .inr (h.foot hi))), h.p0, h.m0, ?_⟩
  intro g hg
  rcases hl with hl | ⟨g', hl, hg'⟩
  · exact h.v0 g (hl ▸ hg)
  · rw [hl] at hg
    injection hg with hg
    have := h.n.size
    omega
theorem Own.left {w w1 w2 : World} {p bm k k' : Nat} {pv : Value} {r r' : R} (h : Own w w1 p bm pv k r) (h2 : Left w1 w2 p bm pv k' r') : Own w w2 p bm pv k' r' :=
  ⟨h2.1, h.n.trans (h2.2.mono (fun i _ hi => .inr (h.foot hi))), h.p0, h.m0, h.v0⟩
theorem Own.drewN {w w1 : World} {p bm k : Nat} {pv : Value} {r : R} (h : Own w w1 p bm pv k r) (n : Nat) : Own w (w1.drewN n) p bm pv k r :=
  ⟨⟨h.rg.blk, h.rg.own, h.rg.map, h.rg.ne, h.rg.ok⟩, h.n.drewN n, h.p0, h.m0, h.v0⟩
theorem Own.later {w w1 w2 : World} {p bm k : Nat} {pv : Value} {r : R} (h : Own w w1 p bm pv k r) (n : New w1 w2) : Own w w2 p bm pv k r :=
  ⟨h.rg.turns n (fun h => h) (fun h => h) (fun _ _ h => h), h.n.trans (n.mono (fun _ _ h => h.elim)), h.p0, h.m0, h.v0⟩

def ra : ByteArray := ⟨#[97]⟩
def rb : ByteArray := ⟨#[98]⟩
def rc : ByteArray := ⟨#[99]⟩
def r0 : R := fresh 2 1 0
def r1 : R := ⟨2, 0, 1, 0, [⟨1, ra, 0, 0⟩], 0⟩
def r2 : R := ⟨2, 0, 1, 0, [⟨1, ra, 0, 0⟩, ⟨2, rb, 0, 0⟩], 0⟩
def r3 : R := ⟨2, 1, 1, 0, [⟨2, rb, 0, 0⟩, ⟨3, rc, 0, 0⟩], 0⟩
def r4 : R := ⟨2, 1, 1, 0, [⟨2, rb, 0, 0⟩, ⟨3, rc, 1, 0⟩], 1⟩

/-- what Again answers, whatever there is -/
theorem again (p bm : Nat) (pv : Value) (k : Nat) (r : R) (n now : Int) (w : World) (h : Rg w p bm pv k r) (n0 : 0 ≤ n) (n1 : n ≤ 65535) (t0 : 0 ≤ now) (t1 : now ≤ 1048576) (hs : r.sent < 1048576) :
    Calls Try.prog 16 #[.pointer (some ⟨p, 0, none⟩), .int .u16 n, .int .i64 now] w fun e w' => e = .returned (.tuple #[.string (againS r n now), .int .i64 (againE r n now)]) ∧ Left w w' p bm pv k (againR r n now) := by
  cases hf : lastIdx r.L n with
  | none =>
    have hF : findR r n = none := by unfold findR; rw [hf]
    have e1 : againS r n now = ⟨#[]⟩ := by unfold againS; rw [hF]
    have e2 : againE r n now = 12 := by unfold againE; rw [hF]
    have e3 : againR r n now = r := by unfold againR; rw [hf]
    rw [e1, e2, e3]
    refine (again_none p bm pv k r n now w h n0 n1 hf).mono ?_
    rintro e w' ⟨rfl, rfl⟩
    exact ⟨rfl, h, Turns.refl _ _⟩
  | some i =>
    obtain ⟨x, hx, _⟩ := lastIdx_some hf
    exact again_some p bm pv k r n now i x w h n0 n1 hf hx t0 t1 hs
theorem again_is (p bm : Nat) (pv : Value) (k : Nat) (r : R) (n now : Int) (s : ByteArray) (en : Int) (t : R) (ht : againS r n now = s ∧ againE r n now = en ∧ againR r n now = t) (w : World) (h : Rg w p bm pv k r) (n0 : 0 ≤ n) (n1 : n ≤ 65535) (t0 : 0 ≤ now) (t1 : now ≤ 1048576) (hs : r.sent < 1048576) :
    Calls Try.prog 16 #[.pointer (some ⟨p, 0, none⟩), .int .u16 n, .int .i64 now] w fun e w' => e = .returned (.tuple #[.string s, .int .i64 en]) ∧ Left w w' p bm pv k t := by
  obtain ⟨rfl, rfl, rfl⟩ := ht
  exact again p bm pv k r n now w h n0 n1 t0 t1 hs

theorem awake (w : World) :
    Calls Try.prog 12 #[] w fun e w' => e = .returned (.bool true) ∧ New w w' := by
  have HN := Lib.hid (new 2 1 0 w (by decide) (by decide) (by decide) (by decide) (by decide) (by decide))
  have hne : (Value.pointer (some ⟨w.heap.size + 1, 0, none⟩) = Value.pointer none) = False := by simp
  go_enter Try.func12, Try.ntmps12
  go_wp2_with fail
  refine HN.out.mono ?_
  rintro e w1 ⟨rfl, h1, n1⟩
  have H1 := Lib.hid (Own.made h1 n1)
  clear h1 n1 HN
  generalize w.heap.size + 1 = p at *
  generalize w.heap.size = bm at *
  go_wp2_with fail
  refine (put_is p bm _ 0 r0 1 ra r1 rfl _ H1.out.rg (by decide) (by decide) (by decide)).mono ?_
  rintro e w2 ⟨rfl, h2⟩
  obtain ⟨v2, h2⟩ := H1.out.put h2
  have H2 := Lib.hid h2
  clear h2 H1
  go_wp2_with fail
  refine (put_is p bm _ 1 r1 2 rb r2 rfl _ H2.out.rg (by decide) (by decide) (by decide)).mono ?_
  rintro e w3 ⟨rfl, h2⟩
  obtain ⟨v3, h2⟩ := H2.out.put h2
  have H3 := Lib.hid h2
  clear h2 H2
  go_wp2_with fail
  refine (put_is p bm _ 2 r2 3 rc r3 rfl _ H3.out.rg (by decide) (by decide) (by decide)).mono ?_
  rintro e w4 ⟨rfl, h2⟩
  obtain ⟨v4, h2⟩ := H3.out.put h2
  have H4 := Lib.hid h2
  clear h2 H3
  go_wp2_with fail
  refine (again_is p bm _ 3 r3 1 0 ⟨#[]⟩ 12 r3 ⟨rfl, rfl, rfl⟩ _ H4.out.rg (by decide) (by decide) (by decide) (by decide) (by decide)).mono ?_
  rintro e w5 ⟨rfl, h2⟩
  have H5 := Lib.hid (H4.out.left h2)
  clear h2 H4
  go_wp2_with fail
  refine (again_is p bm _ 3 r3 3 0 rc 0 r4 ⟨rfl, rfl, rfl⟩ _ H5.out.rg (by decide) (by decide) (by decide) (by decide) (by decide)).mono ?_
  rintro e w6 ⟨rfl, h2⟩
  have H6 := Lib.hid (H5.out.left h2)
  clear h2 H5
  go_wp2_with fail
  refine (again_is p bm _ 3 r4 3 0 ⟨#[]⟩ 11 r4 ⟨rfl, rfl, rfl⟩ _ H6.out.rg (by decide) (by decide) (by decide) (by decide) (by decide)).mono ?_
  rintro e w7 ⟨rfl, h2⟩
  have H7 := Lib.hid (H6.out.left h2)
  clear h2 H6
  have heq : rc.toList = [99] := toList_mk [99]
  go_wp2_with (first
    | (go_at_call 21; (with_reducible refine (len p bm v4 3 r4 _ H7.out.rg).mono ?_); rintro e w' ⟨rfl, rfl⟩)
    | (go_at_call 22; (with_reducible refine (sent p bm v4 3 r4 _ H7.out.rg).mono ?_); rintro e w' ⟨rfl, rfl⟩))
  go_ret
  exact ⟨rfl, H7.out.n⟩
end Go.Proofs.Ytfdmgloimibioaa.rng
