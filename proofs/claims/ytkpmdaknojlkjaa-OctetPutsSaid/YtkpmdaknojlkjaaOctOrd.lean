/-
  OctetPuts: what holds in the middle of the statement of four calls, whatever has been done.
-/
import Derived.Test.YtkpmdaknojlkjaaOctNow
import Derived.Test.YtkpmdaknojlkjaaOrd8
namespace Go.Proofs.Ytkpmdaknojlkjaa.oref
open Go.RowKit mem rd wr
set_option linter.unusedVariables false

abbrev AL := List (Nat × Array Value × TypeId)
def ys8 (Y : List UInt8) (N : Nat) (x : Int) (c1 c2 c3 c4 : Bool) : List UInt8 :=
  if c4 then Y ++ be N x ++ be N x ++ be 1 (x % 256) ++ be 2 (x % 65536) ++ be 4 (x % 4294967296)
  else if c3 then Y ++ be N x ++ be N x ++ be 1 (x % 256) ++ be 2 (x % 65536)
  else if c2 then Y ++ be N x ++ be N x ++ be 1 (x % 256)
  else if c1 then Y ++ be N x ++ be N x else Y
def Sl (s : Bool) (v : Value) (n : Nat) (cs : Array Value) (t : TypeId) (args : AL) : Prop := s = true → ∃ B, v = .slice (some ⟨B, 0, none⟩) n n ∧ (B, cs, t) ∈ args
theorem Sl.more {s : Bool} {v : Value} {n : Nat} {cs : Array Value} {t : TypeId} {args : AL} (h : Sl s v n cs t args) (e : Nat × Array Value × TypeId) : Sl s v n cs t (e :: args) := fun hs => by
  obtain ⟨B, hv, hm⟩ := h hs
  exact ⟨B, hv, List.mem_cons_of_mem _ hm⟩
def I8 (W0 : World) (p : Nat) (Y : List UInt8) (N : Nat) (x : Int) (s1 c1 s2 c2 s3 c3 s4 c4 : Bool) (v1 v2 v3 v4 v5 v6 v7 v8 : Value) (w : World) : Prop :=
  ∃ args : AL, Now W0 w p (ys8 Y N x c1 c2 c3 c4) args ∧ Sl s1 v1 2 #[Value.int .u64 x, .int .u64 x] 30 args ∧ Sl s2 v3 1 #[Value.int .u8 (x % 256)] 5 args
    ∧ Sl s3 v5 1 #[Value.int .u16 (x % 65536)] 33 args ∧ Sl s4 v7 1 #[Value.int .u32 (x % 4294967296)] 35 args
    ∧ (c1 = true → v2 = .pointer (some ⟨p, 0, none⟩)) ∧ (c2 = true → v4 = .pointer (some ⟨p, 0, none⟩)) ∧ (c3 = true → v6 = .pointer (some ⟨p, 0, none⟩))
    ∧ (c2 = true → c1 = true) ∧ (c3 = true → c2 = true) ∧ (c4 = true → c3 = true)

section
variable {W0 w : World} {p N : Nat} {Y : List UInt8} {x : Int} {s1 c1 s2 c2 s3 c3 s4 c4 : Bool} {v1 v2 v3 v4 v5 v6 v7 v8 : Value}

theorem I8.b1 (h : I8 W0 p Y N x s1 c1 s2 c2 s3 c3 s4 c4 v1 v2 v3 v4 v5 v6 v7 v8 w) : I8 W0 p Y N x true c1 s2 c2 s3 c3 s4 c4 (.slice (some ⟨w.heap.size, 0, none⟩) 2 2) v2 v3 v4 v5 v6 v7 v8 (w.alloc (.cells #[Value.int .u64 x, .int .u64 x] 30)) := by
  obtain ⟨args, hn, h1, h2, h3, h4, r⟩ := h
  exact ⟨_, hn.alloc _ _, fun _ => ⟨_, rfl, List.mem_cons_self⟩, h2.more _, h3.more _, h4.more _, r⟩
theorem I8.b2 (h : I8 W0 p Y N x s1 c1 s2 c2 s3 c3 s4 c4 v1 v2 v3 v4 v5 v6 v7 v8 w) : I8 W0 p Y N x s1 c1 true c2 s3 c3 s4 c4 v1 v2 (.slice (some ⟨w.heap.size, 0, none⟩) 1 1) v4 v5 v6 v7 v8 (w.alloc (.cells #[Value.int .u8 (x % 256)] 5)) := by
  obtain ⟨args, hn, h1, h2, h3, h4, r⟩ := h
  exact ⟨_, hn.alloc _ _, h1.more _, fun _ => ⟨_, rfl, List.mem_cons_self⟩, h3.more _, h4.more _, r⟩
theorem I8.b3 (h : I8 W0 p Y N x s1 c1 s2 c2 s3 c3 s4 c4 v1 v2 v3 v4 v5 v6 v7 v8 w) : I8 W0 p Y N x s1 c1 s2 c2 true c3 s4 c4 v1 v2 v3 v4 (.slice (some ⟨w.heap.size, 0, none⟩) 1 1) v6 v7 v8 (w.alloc (.cells #[Value.int .u16 (x % 65536)] 33)) := by
  obtain ⟨args, hn, h1, h2, h3, h4, r⟩ := h
  exact ⟨_, hn.alloc _ _, h1.more _, h2.more _, fun _ => ⟨_, rfl, List.mem_cons_self⟩, h4.more _, r⟩
theorem I8.b4 (h : I8 W0 p Y N x s1 c1 s2 c2 s3 c3 s4 c4 v1 v2 v3 v4 v5 v6 v7 v8 w) : I8 W0 p Y N x s1 c1 s2 c2 s3 c3 true c4 v1 v2 v3 v4 v5 v6 (.slice (some ⟨w.heap.size, 0, none⟩) 1 1) v8 (w.alloc (.cells #[Value.int .u32 (x % 4294967296)] 35)) := by
  obtain ⟨args, hn, h1, h2, h3, h4, r⟩ := h
  exact ⟨_, hn.alloc _ _, h1.more _, h2.more _, h3.more _, fun _ => ⟨_, rfl, List.mem_cons_self⟩, r⟩

theorem I8.k1 (h : I8 W0 p Y N x true false s2 c2 s3 c3 s4 c4 v1 v2 v3 v4 v5 v6 v7 v8 w) : ∃ B, v1 = .slice (some ⟨B, 0, none⟩) 2 2 ∧ (∃ args : AL, Now W0 w p Y args ∧ (B, #[Value.int .u64 x, .int .u64 x], 30) ∈ args)
    ∧ ∀ w', After W0 w w' p Y (Y ++ be N x ++ be N x) → I8 W0 p Y N x true true s2 c2 s3 c3 s4 c4 v1 (.pointer (some ⟨p, 0, none⟩)) v3 v4 v5 v6 v7 v8 w' := by
  obtain ⟨args, hn, h1, h2, h3, h4, k1, k2, k3, i2, i3, i4⟩ := h
  have e2 : c2 = false := by cases c2; rfl; exact absurd (i2 rfl) (by decide)
  subst e2
  have e3 : c3 = false := by cases c3; rfl; exact absurd (i3 rfl) (by decide)
  subst e3
  have e4 : c4 = false := by cases c4; rfl; exact absurd (i4 rfl) (by decide)
  subst e4
  obtain ⟨B, hB, hm⟩ := h1 rfl
  exact ⟨B, hB, ⟨args, hn, hm⟩, fun w' hA => ⟨args, hA.1 _ hn, h1, h2, h3, h4, fun _ => rfl, k2, k3, fun _ => rfl, i3, i4⟩⟩
theorem I8.k2 (h : I8 W0 p Y N x s1 true true false s3 c3 s4 c4 v1 v2 v3 v4 v5 v6 v7 v8 w) : v2 = .pointer (some ⟨p, 0, none⟩) ∧ ∃ B, v3 = .slice (some ⟨B, 0, none⟩) 1 1 ∧ (∃ args : AL, Now W0 w p (Y ++ be N x ++ be N x) args ∧ (B, #[Value.int .u8 (x % 256)], 5) ∈ args)
    ∧ ∀ w', After W0 w w' p (Y ++ be N x ++ be N x) (Y ++ be N x ++ be N x ++ be 1 (x % 256)) → I8 W0 p Y N x s1 true true true s3 c3 s4 c4 v1 v2 v3 (.pointer (some ⟨p, 0, none⟩)) v5 v6 v7 v8 w' := by
  obtain ⟨args, hn, h1, h2, h3, h4, k1, k2, k3, i2, i3, i4⟩ := h
  have e3 : c3 = false := by cases c3; rfl; exact absurd (i3 rfl) (by decide)
  subst e3
  have e4 : c4 = false := by cases c4; rfl; exact absurd (i4 rfl) (by decide)
  subst e4
  obtain ⟨B, hB, hm⟩ := h2 rfl
  exact ⟨k1 rfl, B, hB, ⟨args, hn, hm⟩, fun w' hA => ⟨args, hA.1 _ hn, h1, h2, h3, h4, k1, fun _ => rfl, k3, fun _ => rfl, fun _ => rfl, i4⟩⟩
theorem I8.k3 (h : I8 W0 p Y N x s1 c1 s2 true true false s4 c4 v1 v2 v3 v4 v5 v6 v7 v8 w) : v4 = .pointer (some ⟨p, 0, none⟩) ∧ ∃ B, v5 = .slice (some ⟨B, 0, none⟩) 1 1 ∧ (∃ args : AL, Now W0 w p (Y ++ be N x ++ be N x ++ be 1 (x % 256)) args ∧ (B, #[Value.int .u16 (x % 65536)], 33) ∈ args)
    ∧ ∀ w', After W0 w w' p (Y ++ be N x ++ be N x ++ be 1 (x % 256)) (Y ++ be N x ++ be N x ++ be 1 (x % 256) ++ be 2 (x % 65536)) → I8 W0 p Y N x s1 c1 s2 true true true s4 c4 v1 v2 v3 v4 v5 (.pointer (some ⟨p, 0, none⟩)) v7 v8 w' := by
  obtain ⟨args, hn, h1, h2, h3, h4, k1, k2, k3, i2, i3, i4⟩ := h
  have e4 : c4 = false := by cases c4; rfl; exact absurd (i4 rfl) (by decide)
  subst e4
  obtain ⟨B, hB, hm⟩ := h3 rfl
  exact ⟨k2 rfl, B, hB, ⟨args, hn, hm⟩, fun w' hA => ⟨args, hA.1 _ hn, h1, h2, h3, h4, k1, k2, fun _ => rfl, i2, fun _ => rfl, fun _ => rfl⟩⟩
theorem I8.k4 (h : I8 W0 p Y N x s1 c1 s2 c2 s3 true true false v1 v2 v3 v4 v5 v6 v7 v8 w) : v6 = .pointer (some ⟨p, 0, none⟩) ∧ ∃ B, v7 = .slice (some ⟨B, 0, none⟩) 1 1 ∧ (∃ args : AL, Now W0 w p (Y ++ be N x ++ be N x ++ be 1 (x % 256) ++ be 2 (x % 65536)) args ∧ (B, #[Value.int .u32 (x % 4294967296)], 35) ∈ args)
    ∧ ∀ w', After W0 w w' p (Y ++ be N x ++ be N x ++ be 1 (x % 256) ++ be 2 (x % 65536)) (Y ++ be N x ++ be N x ++ be 1 (x % 256) ++ be 2 (x % 65536) ++ be 4 (x % 4294967296)) → ∀ v, I8 W0 p Y N x s1 c1 s2 c2 s3 true true true v1 v2 v3 v4 v5 v6 v7 v w' := by
  obtain ⟨args, hn, h1, h2, h3, h4, k1, k2, k3, i2, i3, i4⟩ := h
  obtain ⟨B, hB, hm⟩ := h4 rfl
  exact ⟨k3 rfl, B, hB, ⟨args, hn, hm⟩, fun w' hA v => ⟨args, hA.1 _ hn, h1, h2, h3, h4, k1, k2, k3, i2, i3, fun _ => rfl⟩⟩
theorem I8.done (hx : 0 ≤ x) (h : I8 W0 p Y N x s1 c1 s2 c2 s3 c3 s4 true v1 v2 v3 v4 v5 v6 v7 v8 w) : Wrote W0 w p none (Y ++ one N x) := by
  obtain ⟨args, hn, _⟩ := h
  have h1 := be_mod 1 1 x hx (Nat.le_refl _)
  have h2 := be_mod 2 2 x hx (Nat.le_refl _)
  have h4 := be_mod 4 4 x hx (Nat.le_refl _)
  have hd := hn.done
  unfold ys8 at hd
  simp only [if_true] at hd
  rw [show x % 256 = x % 256 ^ 1 from rfl, h1, show x % 65536 = x % 256 ^ 2 from rfl, h2, show x % 4294967296 = x % 256 ^ 4 from rfl, h4] at hd
  unfold one
  simpa only [List.append_assoc] using hd
theorem I8.start (h : Now W0 w p Y []) : I8 W0 p Y N x false false false false false false false false v1 v2 v3 v4 v5 v6 v7 v8 w :=
  ⟨[], h, fun h => (by cases h), fun h => (by cases h), fun h => (by cases h), fun h => (by cases h), fun h => (by cases h), fun h => (by cases h), fun h => (by cases h), fun h => (by cases h), fun h => (by cases h), fun h => (by cases h)⟩
end
end Go.Proofs.Ytkpmdaknojlkjaa.oref
