/-
  The writer's calls inside one statement that leaves its order open.
-/
import Derived.Test.YtcppibjllaablaaGreatOctPartsLaw
import Derived.Deep.RegionHeld3
import Derived.Deep.DeepCutAuto
namespace Go.Proofs.YtcppibjllaablaaGreat.oref
open Go.RowKit mem rd wr
set_option linter.unusedVariables false

/-- what one number's line writes -/
def one (N : Nat) (x : Int) : List UInt8 := be N x ++ be N x ++ be 1 x ++ be 2 x ++ be 4 x
def upto (N : Nat) (z : Nat → Int) (k : Nat) : List UInt8 := (List.range k).flatMap fun i => one N (z i)
theorem one_length (N : Nat) (x : Int) : (one N x).length = 2 * N + 7 := by unfold one; simp only [List.length_append, be_length]; omega
theorem upto_succ (N : Nat) (z : Nat → Int) (k : Nat) : upto N z (k + 1) = upto N z k ++ one N (z k) := by
  unfold upto; rw [List.range_succ, List.flatMap_append, List.flatMap_cons, List.flatMap_nil, List.append_nil]
theorem upto_length (N : Nat) (z : Nat → Int) (k : Nat) : (upto N z k).length = k * (2 * N + 7) := by
  induction k with
  | zero => simp [upto]
  | succ k ih => rw [upto_succ, List.length_append, ih, one_length]; exact (Nat.succ_mul k (2 * N + 7)).symm


/-- The writer at p, over W0, in the middle of one statement: the bytes ys; the blocks of arguments that lie ready. -/
def Now (W0 W : World) (p : Nat) (ys : List UInt8) (args : List (Nat × Array Value × TypeId)) : Prop :=
  ∃ q, Wr W p q ys ∧ Turns (fun k => k = p) W0 W ∧ (q = none ∨ ∃ g, q = some g ∧ W0.heap.size ≤ g) ∧ ∀ a ∈ args, Blk W a.1 a.2.1 a.2.2 ∧ a.1 ≠ p ∧ q ≠ some a.1

theorem Now.of {W0 W : World} {p : Nat} {ys : List UInt8} (h : Wrote W0 W p none ys) : Now W0 W p ys [] := by
  obtain ⟨q, hb, ht, hq⟩ := h
  exact ⟨q, hb, ht.mono (fun k _ h => by rcases h with h | h; exact h; cases h), hq, fun a ha => by cases ha⟩
theorem Now.done {W0 W : World} {p : Nat} {ys : List UInt8} {args : List (Nat × Array Value × TypeId)} (h : Now W0 W p ys args) : Wrote W0 W p none ys := by
  obtain ⟨q, hb, ht, hq, _⟩ := h
  exact ⟨q, hb, ht.mono (fun k _ h => .inl h), hq⟩
theorem Now.drew {W0 W : World} {p : Nat} {ys : List UInt8} {args : List (Nat × Array Value × TypeId)} (h : Now W0 W p ys args) : Now W0 W.drew p ys args := by
  obtain ⟨q, hb, ht, hq, ha⟩ := h
  exact ⟨q, hb, ht.drew, hq, ha⟩
theorem Now.alloc {W0 W : World} {p : Nat} {ys : List UInt8} {args : List (Nat × Array Value × TypeId)} (h : Now W0 W p ys args) (cs : Array Value) (t : TypeId) : Now W0 (W.alloc (.cells cs t)) p ys ((W.heap.size, cs, t) :: args) := by
  obtain ⟨q, hb, ht, hq, ha⟩ := h
  have hn : New W (W.alloc (.cells cs t)) := (Turns.refl _ W).alloc _
  refine ⟨q, hb.turns hn (fun h => h) (fun _ _ h => h), ht.alloc _, hq, fun a h => ?_⟩
  rcases List.mem_cons.1 h with rfl | h
  · refine ⟨Blk.new W cs t, ?_, ?_⟩
    · have := hb.lt; show W.heap.size ≠ p; omega
    · intro e; have := hb.qlt _ e; omega
  · exact ⟨(ha a h).1.alloc _, (ha a h).2⟩
/-- a call that writes to it -/
theorem Now.call {W0 W w2 : World} {p : Nat} {zs : List UInt8} {args : List (Nat × Array Value × TypeId)} {q : Option Nat}
    (ht : Turns (fun k => k = p) W0 W) (hq : q = none ∨ ∃ g, q = some g ∧ W0.heap.size ≤ g) (ha : ∀ a ∈ args, Blk W a.1 a.2.1 a.2.2 ∧ a.1 ≠ p ∧ q ≠ some a.1) (h : Wrote W w2 p q zs) : Now W0 w2 p zs args := by
  obtain ⟨q2, hb2, ht2, hq2⟩ := h
  refine ⟨q2, hb2, ht.trans (ht2.mono ?_), ?_, fun a h => ?_⟩
  · intro k _ hk
    rcases hk with hk | hk
    · exact .inl hk
    · rcases hq with rfl | ⟨g, rfl, hg⟩
      · cases hk
      · injection hk with hk; subst hk; exact .inr hg
  · rcases hq2 with rfl | ⟨g, rfl, hg⟩
    · exact hq
    · exact .inr ⟨g, rfl, Nat.le_trans ht.size hg⟩
  · obtain ⟨hblk, hne, hnq⟩ := ha a h
    refine ⟨ht2.blk hblk (by rintro (h | h); exact hne h; exact hnq h.symm), hne, ?_⟩
    rcases hq2 with rfl | ⟨g, rfl, hg⟩
    · exact hnq
    · intro e; injection e with e; have := hblk.lt; omega
theorem Now.cell {W0 W : World} {p : Nat} {ys : List UInt8} {args : List (Nat × Array Value × TypeId)} (h : Now W0 W p ys args) {b o : Nat} (hb : b < W0.heap.size) (hne : b ≠ p) : W.cell? ⟨b, o, none⟩ = W0.cell? ⟨b, o, none⟩ ∧ b < W.heap.size := by
  obtain ⟨q, _, ht, _⟩ := h
  exact ⟨ht.cell hb hne, by have := ht.size; omega⟩

theorem q_unique {W : World} {p : Nat} {q q' : Option Nat} {xs ys : List UInt8} (h : Wr W p q xs) (h' : Wr W p q' ys) : q = q' := by
  obtain ⟨v, hv, hb, _⟩ := h
  obtain ⟨v', hv', hb', _⟩ := h'
  unfold Blk at hb hb'
  rw [hb] at hb'
  simp only [Option.some.injEq, Obj.cells.injEq] at hb'
  have e : v = v' := by have := hb'.1; simpa using this
  rw [← hv, ← hv', e]

/-- what a call leaves: whatever lay ready lies ready -/
def After (W0 W w' : World) (p : Nat) (ys zs : List UInt8) : Prop :=
  (∀ args, Now W0 W p ys args → Now W0 w' p zs args) ∧ (∀ b o, b < W0.heap.size → b ≠ p → w'.cell? ⟨b, o, none⟩ = W0.cell? ⟨b, o, none⟩ ∧ b < w'.heap.size)
theorem After.mk {W0 W w' : World} {p : Nat} {ys zs : List UInt8} {q : Option Nat} (hb : Wr W p q ys) (ht : Turns (fun k => k = p) W0 W) (hq : q = none ∨ ∃ g, q = some g ∧ W0.heap.size ≤ g) (h : Wrote W w' p q zs) : After W0 W w' p ys zs := by
  refine ⟨fun args hn => ?_, fun b o hb0 hne => ?_⟩
  · obtain ⟨q', hb', ht', hq', ha'⟩ := hn
    obtain rfl := q_unique hb hb'
    exact Now.call ht hq ha' h
  · exact Now.cell (Now.call ht hq (args := []) (fun a ha => by cases ha) h) hb0 hne

theorem num_at {W0 W : World} {p : Nat} {ys : List UInt8} {B : Nat} {n x : Int} {N : Nat} (hN : rd.lim n = (N : Int)) (hx : 0 ≤ x ∧ x ≤ 18446744073709551615) (hl : ys.length ≤ 1000)
    (h : ∃ args, Now W0 W p ys args ∧ (B, #[Value.int .u64 x, .int .u64 x], 183) ∈ args) :
    Calls Tryz.prog 85 #[.pointer (some ⟨p, 0, none⟩), .int .i64 n, .slice (some ⟨B, 0, none⟩) 2 2] W fun en w' => en = .returned (.pointer (some ⟨p, 0, none⟩)) ∧ After W0 W w' p ys (ys ++ be N x ++ be N x) := by
  obtain ⟨args, ⟨q, hb, ht, hq, ha⟩, hm⟩ := h
  obtain ⟨hblk, hne, hnq⟩ := ha _ hm
  refine (num p q ys n N hN B 2 2 (fun _ => x) W hb (fun i hi => ?_) (fun _ _ => hx) hblk.lt hne hnq (by omega)).mono ?_
  · match i, hi with
    | 0, _ => exact hblk.cell 0
    | 1, _ => exact hblk.cell 1
  · rintro e w' ⟨rfl, hw⟩
    rw [show ((List.range 2).flatMap fun _ => be N x) = be N x ++ be N x from by simp [List.range_succ], ← List.append_assoc] at hw
    exact ⟨rfl, After.mk hb ht hq hw⟩
theorem u8_at {W0 W : World} {p : Nat} {ys : List UInt8} {B : Nat} {x : Int} (hx : 0 ≤ x ∧ x ≤ 255) (hl : ys.length ≤ 1000)
    (h : ∃ args, Now W0 W p ys args ∧ (B, #[Value.int .u8 x], 5) ∈ args) :
    Calls Tryz.prog 50 #[.pointer (some ⟨p, 0, none⟩), .slice (some ⟨B, 0, none⟩) 1 1] W fun en w' => en = .returned (.pointer (some ⟨p, 0, none⟩)) ∧ After W0 W w' p ys (ys ++ be 1 x) := by
  obtain ⟨args, ⟨q, hb, ht, hq, ha⟩, hm⟩ := h
  obtain ⟨hblk, hne, hnq⟩ := ha _ hm
  have e1 : b8 (Go.Proofs.YtcppibjllaablaaGreat.wr.byteOf x) = .int .u8 x := by unfold b8; rw [byteOf_toNat]; rw [show x % 256 = x from by omega]
  have e2 : be 1 x = [Go.Proofs.YtcppibjllaablaaGreat.wr.byteOf x] := by simp [be]
  rw [e2]
  refine (u8 p q ys [Go.Proofs.YtcppibjllaablaaGreat.wr.byteOf x] B 1 W hb (by simp only [List.map_cons, List.map_nil, e1]; exact hblk) (by simp) (by simp; omega)).mono ?_
  rintro e w' ⟨rfl, hw⟩
  exact ⟨rfl, After.mk hb ht hq hw⟩
theorem u16_at {W0 W : World} {p : Nat} {ys : List UInt8} {B : Nat} {x : Int} (hx : 0 ≤ x ∧ x ≤ 65535) (hl : ys.length ≤ 1000)
    (h : ∃ args, Now W0 W p ys args ∧ (B, #[Value.int .u16 x], 71) ∈ args) :
    Calls Tryz.prog 53 #[.pointer (some ⟨p, 0, none⟩), .slice (some ⟨B, 0, none⟩) 1 1] W fun en w' => en = .returned (.pointer (some ⟨p, 0, none⟩)) ∧ After W0 W w' p ys (ys ++ be 2 x) := by
  obtain ⟨args, ⟨q, hb, ht, hq, ha⟩, hm⟩ := h
  obtain ⟨hblk, hne, hnq⟩ := ha _ hm
  refine (u16 p q ys B 1 1 (fun _ => x) W hb (fun i hi => match i, hi with | 0, _ => hblk.cell 0) (fun _ _ => hx) hblk.lt hne hnq (by omega)).mono ?_
  rintro e w' ⟨rfl, hw⟩
  rw [show ((List.range 1).flatMap fun _ => be 2 x) = be 2 x from by simp] at hw
  exact ⟨rfl, After.mk hb ht hq hw⟩
theorem u32_at {W0 W : World} {p : Nat} {ys : List UInt8} {B : Nat} {x : Int} (hx : 0 ≤ x ∧ x ≤ 4294967295) (hl : ys.length ≤ 1000)
    (h : ∃ args, Now W0 W p ys args ∧ (B, #[Value.int .u32 x], 72) ∈ args) :
    Calls Tryz.prog 54 #[.pointer (some ⟨p, 0, none⟩), .slice (some ⟨B, 0, none⟩) 1 1] W fun en w' => en = .returned (.pointer (some ⟨p, 0, none⟩)) ∧ After W0 W w' p ys (ys ++ be 4 x) := by
  obtain ⟨args, ⟨q, hb, ht, hq, ha⟩, hm⟩ := h
  obtain ⟨hblk, hne, hnq⟩ := ha _ hm
  refine (u32 p q ys B 1 1 (fun _ => x) W hb (fun i hi => match i, hi with | 0, _ => hblk.cell 0) (fun _ _ => hx) hblk.lt hne hnq (by omega)).mono ?_
  rintro e w' ⟨rfl, hw⟩
  rw [show ((List.range 1).flatMap fun _ => be 4 x) = be 4 x from by simp] at hw
  exact ⟨rfl, After.mk hb ht hq hw⟩

theorem puts_done {W0 W w' : World} {p : Nat} {Y : List UInt8} {args : List (Nat × Array Value × TypeId)} (N : Nat) (x : Int) (hx : 0 ≤ x)
    (h : After W0 W w' p (Y ++ be N x ++ be N x ++ be 1 (x % 256) ++ be 2 (x % 65536)) (Y ++ be N x ++ be N x ++ be 1 (x % 256) ++ be 2 (x % 65536) ++ be 4 (x % 4294967296)))
    (hn : Now W0 W p (Y ++ be N x ++ be N x ++ be 1 (x % 256) ++ be 2 (x % 65536)) args) : Wrote W0 w' p none (Y ++ one N x) := by
  have h1 := be_mod 1 1 x hx (Nat.le_refl _)
  have h2 := be_mod 2 2 x hx (Nat.le_refl _)
  have h4 := be_mod 4 4 x hx (Nat.le_refl _)
  have := (h.1 _ hn).done
  rw [show x % 256 = x % 256 ^ 1 from rfl, h1, show x % 65536 = x % 256 ^ 2 from rfl, h2, show x % 4294967296 = x % 256 ^ 4 from rfl, h4] at this
  unfold one
  simpa only [List.append_assoc] using this
theorem dcell {W : World} {a : Addr} {r : Option Value} (h : W.cell? a = r) : W.drew.cell? a = r := h
theorem acell {W : World} {o : Obj} {b k : Nat} {r : Option Value} (hl : b < W.heap.size) (h : W.cell? ⟨b, k, none⟩ = r) : (W.alloc o).cell? ⟨b, k, none⟩ = r := (World.cell?_alloc_past _ _ _ hl).trans h
end Go.Proofs.YtcppibjllaablaaGreat.oref
