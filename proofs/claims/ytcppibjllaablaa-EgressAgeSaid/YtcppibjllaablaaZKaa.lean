/-
  Parts of the proof, one behind the other.
-/
import Derived.WalkKit
import Derived.WalkSpells
import Derived.OneCell
import Derived.Maps.AppendAt
import Derived.Deep.AppendLies
import Derived.Laws.AppendOwnNone
import Derived.OwnWalk
import Derived.Deep.Draws
import Derived.Test.YtcppibjllaablaaRows
import Derived.Handy
import Derived.Lib.Hide
import Derived.Outline
import Derived.ProofKit
import Derived.OpenShut
import Derived.ShutString
import Derived.ChangeOld
import Derived.Below
import Derived.Deep.Slices
import Derived.Maps.OwnSet
import Derived.Maps.StringElems
import Derived.WalkLawsBesides
import Derived.IntWalk
import Derived.RegionTactic
import Derived.Maps.RangeWalk
import Derived.BigQuiet
import Derived.Deep.DeepCutAuto
import Derived.Deep.QuietTactic
import Derived.ArgAppend
import Derived.Lib.SliceRun
import Derived.Deep.RegionLaw
set_option linter.unusedVariables false
set_option linter.unusedSimpArgs false
/-
  Blocks of memory known whole, and what a call leaves alone. No program.
-/
namespace Go.Proofs.Ytcppibjllaablaa.mem
open Go.RowKit
set_option linter.unusedVariables false

/-- block p holds the cells cs, all of which may be written -/
def Blk (w : World) (p : Nat) (cs : Array Value) (t : TypeId) : Prop := w.heap[p]? = some (.cells cs t (0, 0))

theorem Blk.lt {w : World} {p : Nat} {cs : Array Value} {t : TypeId} (h : Blk w p cs t) : p < w.heap.size := lt_of_block h
theorem Blk.cell {w : World} {p : Nat} {cs : Array Value} {t : TypeId} (h : Blk w p cs t) (i : Nat) : w.cell? ⟨p, i, none⟩ = cs[i]? := by
  unfold Blk at h; simp [World.cell?, h]
theorem Blk.free {w : World} {p : Nat} {cs : Array Value} {t : TypeId} (h : Blk w p cs t) (i : Nat) : w.frozen? ⟨p, i, none⟩ = false := by
  unfold Blk at h; simp [World.frozen?, h]
theorem Blk.set {w : World} {p : Nat} {cs : Array Value} {t : TypeId} (h : Blk w p cs t) (i : Nat) (u : Value) : Blk (w.setCell ⟨p, i, none⟩ u) p (cs.setIfInBounds i u) t := by
  have hlt := h.lt
  have h' : w.heap[p] = .cells cs t (0, 0) := by simpa [Blk, Array.getElem?_eq_getElem hlt] using h
  show (w.heap.modify p _)[p]? = _
  rw [Array.getElem?_eq_getElem (by simpa using hlt), Array.getElem_modify_self, h']
  rfl
theorem Blk.setOther {w : World} {p : Nat} {cs : Array Value} {t : TypeId} (h : Blk w p cs t) {a : Addr} (hne : a.block ≠ p) (u : Value) : Blk (w.setCell a u) p cs t := by
  unfold Blk; rw [Below.heap_setCell _ _ _ _ (fun e => hne e.symm)]; exact h
theorem Blk.alloc {w : World} {p : Nat} {cs : Array Value} {t : TypeId} (h : Blk w p cs t) (o : Obj) : Blk (w.alloc o) p cs t := by
  unfold Blk; rw [Below.heap_alloc _ _ _ h.lt]; exact h
theorem Blk.new (w : World) (cs : Array Value) (t : TypeId) : Blk (w.alloc (.cells cs t)) w.heap.size cs t := by
  show (w.heap.push _)[w.heap.size]? = _
  simp
theorem Blk.drew {w : World} {p : Nat} {cs : Array Value} {t : TypeId} (h : Blk w p cs t) : Blk w.drew p cs t := h

/-- Between w and w' nothing that was there has turned but the blocks of S. -/
structure Turns (S : Nat → Prop) (w w' : World) : Prop where
  os : w'.os = w.os
  tape : w'.tape = w.tape
  output : w'.output = w.output
  size : w.heap.size ≤ w'.heap.size
  block : ∀ k, k < w.heap.size → ¬ S k → w'.heap[k]? = w.heap[k]?

theorem Turns.refl (S : Nat → Prop) (w : World) : Turns S w w := ⟨rfl, rfl, rfl, Nat.le_refl _, fun _ _ _ => rfl⟩
theorem Turns.trans {S : Nat → Prop} {a b c : World} (h : Turns S a b) (k : Turns (fun n => S n ∨ a.heap.size ≤ n) b c) : Turns S a c :=
  ⟨k.os.trans h.os, k.tape.trans h.tape, k.output.trans h.output, Nat.le_trans h.size k.size, fun i hi hs =>
    (k.block i (Nat.lt_of_lt_of_le hi h.size) (fun hh => hh.elim hs (fun h' => by omega))).trans (h.block i hi hs)⟩
theorem Turns.mono {S S' : Nat → Prop} {w w' : World} (h : Turns S w w') (hs : ∀ k, k < w.heap.size → S k → S' k) : Turns S' w w' :=
  ⟨h.os, h.tape, h.output, h.size, fun k hk hn => h.block k hk (fun hh => hn (hs k hk hh))⟩
theorem Turns.alloc {S : Nat → Prop} {a w : World} (h : Turns S a w) (o : Obj) : Turns S a (w.alloc o) :=
  h.trans ⟨rfl, rfl, rfl, by simp, fun k hk _ => Below.heap_alloc _ _ _ hk⟩
theorem Turns.setCell {S : Nat → Prop} {a w : World} (h : Turns S a w) {p : Addr} (hp : S p.block ∨ a.heap.size ≤ p.block) (u : Value) : Turns S a (w.setCell p u) :=
  h.trans ⟨rfl, rfl, rfl, by simp [World.setCell], fun k _ hk => Below.heap_setCell _ _ _ _ (fun e => hk (e ▸ hp))⟩
theorem Turns.drew {S : Nat → Prop} {a w : World} (h : Turns S a w) : Turns S a w.drew := ⟨h.os, h.tape, h.output, h.size, h.block⟩
theorem Turns.of_drew {S : Nat → Prop} {w w' : World} (h : Turns S w.drew w') : Turns S w w' := ⟨h.os, h.tape, h.output, h.size, h.block⟩
theorem Turns.below {S : Nat → Prop} {B : Nat} {w w' : World} (h : Turns S w w') (hB : B ≤ w.heap.size) (hs : ∀ k, k < w.heap.size → S k → B ≤ k) : Below B w w' :=
  ⟨h.os, h.tape, h.output, h.size, fun k hk => h.block k (by omega) (fun hh => by have := hs k (by omega) hh; omega)⟩
theorem Turns.of_below {B : Nat} {w w' : World} (h : Below B w w') : Turns (fun k => B ≤ k) w w' :=
  ⟨h.os, h.tape, h.output, h.size, fun k _ hn => h.block k (by omega)⟩
theorem Turns.of_grown {w w' : World} {row : Option Nat} (h : w.grownBy w' row) : Turns (fun k => some k = row) w w' :=
  ⟨h.os, h.tape, h.output, h.size, fun k hk hn => h.block k hk hn⟩
theorem Turns.blk {S : Nat → Prop} {w w' : World} (h : Turns S w w') {p : Nat} {cs : Array Value} {t : TypeId} (hb : Blk w p cs t) (hn : ¬ S p) : Blk w' p cs t := by
  unfold Blk; rw [h.block p hb.lt hn]; exact hb
theorem Turns.cell {S : Nat → Prop} {w w' : World} (h : Turns S w w') {a : Addr} (hlt : a.block < w.heap.size) (hn : ¬ S a.block) : w'.cell? a = w.cell? a :=
  World.cell?_of_block (w := w) (h.block a.block hlt hn)
theorem Turns.frozen {S : Nat → Prop} {w w' : World} (h : Turns S w w') {a : Addr} (hlt : a.block < w.heap.size) (hn : ¬ S a.block) : w'.frozen? a = w.frozen? a :=
  World.frozen?_of_block (w := w) (h.block a.block hlt hn)
theorem Below.turns {B : Nat} {S : Nat → Prop} {a w w' : World} (h : Below B a w) (k : Turns S w w') (hB : B ≤ w.heap.size) (hs : ∀ n, S n → B ≤ n) : Below B a w' :=
  h.trans (k.below hB (fun n _ hn => hs n hn))

/-! ### strings -/
theorem loop_eq (bs : ByteArray) : ∀ (n i : Nat) (r : List UInt8), bs.size - i = n → ByteArray.toList.loop bs i r = r.reverse ++ bs.data.toList.drop i := by
  intro n
  induction n with
  | zero =>
    intro i r h
    unfold ByteArray.toList.loop
    rw [if_neg (by omega), List.drop_eq_nil_of_le (by rw [Array.length_toList]; show bs.size ≤ i; omega), List.append_nil]
  | succ n ih =>
    intro i r h
    unfold ByteArray.toList.loop
    have hi : i < bs.size := by omega
    rw [if_pos hi, ih (i + 1) _ (by omega)]
    have hd : i < bs.data.toList.length := by rw [Array.length_toList]; exact hi
    rw [List.drop_eq_getElem_cons hd]
    have hg : bs.get! i = bs.data.toList[i] := by
      show bs.data[i]! = _
      exact getElem!_pos bs.data i hi
    rw [hg]
    simp
theorem toList_eq (s : ByteArray) : s.toList = s.data.toList := by
  unfold ByteArray.toList
  rw [loop_eq s _ 0 [] rfl]
  simp

theorem toList_nil (s : ByteArray) : s.toList = [] ↔ s.size = 0 := by
  rw [toList_eq, ← List.length_eq_zero_iff, Array.length_toList]; rfl
theorem toList_beq (a b : ByteArray) (h : a = b) : (a.toList == b.toList) = true := by subst h; simp
theorem toList_mk (l : List UInt8) : (⟨l.toArray⟩ : ByteArray).toList = l := by rw [toList_eq]
theorem cat_mk (a b : List UInt8) : (⟨a.toArray⟩ : ByteArray) ++ ⟨b.toArray⟩ = ⟨(a ++ b).toArray⟩ := by
  apply ByteArray.ext
  simp
theorem eta_mk (s : ByteArray) : (⟨s.data.toList.toArray⟩ : ByteArray) = s := by simp
theorem mk_toList (s : ByteArray) : s = ⟨s.toList.toArray⟩ := by rw [toList_eq, eta_mk]
theorem size_mk (l : List UInt8) : (⟨l.toArray⟩ : ByteArray).size = l.length := rfl
theorem length_toList (s : ByteArray) : s.toList.length = s.size := by rw [toList_eq, Array.length_toList]; rfl
end Go.Proofs.Ytcppibjllaablaa.mem

/-
  Slices of structs that the call owns, for any struct. No program.
-/
namespace Go.Proofs.Ytcppibjllaablaa.mem
open Go.RowKit
set_option linter.unusedVariables false

/-- how an element is stored: in n cells -/
structure Enc (α : Type) where
  n : Nat
  cs : α → List Value
  len : ∀ a, (cs a).length = n
  one : ∀ a, ∀ u ∈ cs a, u.oneCell' = true

section
variable {α : Type} (E : Enc α)
def Enc.all (l : List α) : List Value := l.flatMap E.cs
theorem Enc.all_nil : E.all [] = [] := rfl
theorem Enc.all_cons (u : α) (l : List α) : E.all (u :: l) = E.cs u ++ E.all l := rfl
theorem Enc.all_append (l m : List α) : E.all (l ++ m) = E.all l ++ E.all m := by simp [Enc.all]
theorem Enc.all_one (u : α) : E.all [u] = E.cs u := by simp [Enc.all]
theorem Enc.all_length (l : List α) : (E.all l).length = l.length * E.n := by
  induction l with
  | nil => simp [Enc.all]
  | cons u l ih => rw [E.all_cons, List.length_append, ih, E.len, List.length_cons, Nat.add_mul]; omega
theorem Enc.all_cell (l : List α) : ∀ u ∈ E.all l, u.oneCell' = true := by
  intro u hu
  simp only [Enc.all, List.mem_flatMap] at hu
  obtain ⟨y, _, hy⟩ := hu
  exact E.one y u hy
theorem Enc.all_at (l : List α) (k : Nat) (u : α) (h : l[k]? = some u) (j : Nat) (v : Value) (hj : (E.cs u)[j]? = some v) : (E.all l)[k * E.n + j]? = some v := by
  induction l generalizing k with
  | nil => simp at h
  | cons y l ih =>
    have hyl := E.len y
    have hj7 : j < E.n := by have := (List.getElem?_eq_some_iff.1 hj).1; rwa [E.len] at this
    rw [E.all_cons]
    cases k with
    | zero =>
      simp at h
      subst h
      rw [List.getElem?_append_left (by omega)]
      simpa using hj
    | succ k =>
      have e : (k + 1) * E.n = k * E.n + E.n := Nat.succ_mul _ _
      rw [List.getElem?_append_right (by omega), hyl]
      have := ih k (by simpa using h)
      rw [show (k + 1) * E.n + j - E.n = k * E.n + j by omega]
      exact this

/-- a slice that holds the elements l, in a block of its own (or nil) -/
def Owns (T : TypeId) (w : World) (v : Value) (l : List α) : Prop := w.ownsRow 0 T E.n v l.length (E.all l)
variable {E}
theorem Owns.nil (T : TypeId) (w : World) : Owns E T w (.slice none 0 0) [] := World.ownsRow_nil w 0 _ _
theorem Owns.lt {T : TypeId} {w : World} {v : Value} {l : List α} (h : Owns E T w v l) : ∀ g, v.ownBlock = some g → g < w.heap.size := fun g hg => (World.ownsRow.lt h g hg).2
theorem Owns.turns {T : TypeId} {S : Nat → Prop} {w w' : World} {v : Value} {l : List α} (h : Owns E T w v l) (ht : Turns S w w') (hn : ∀ g, v.ownBlock = some g → ¬ S g) : Owns E T w' v l := by
  have hl := h.lt
  refine ⟨h.1, ?_⟩
  rcases h.2 with h0 | ⟨g, cap, cur, rfl, hb, hg, r⟩
  · exact .inl h0
  · exact .inr ⟨g, cap, cur, rfl, hb, by rw [ht.block g (hl g rfl) (hn g rfl)]; exact hg, r⟩
/-- the elements can be read through the slice: block g, from its beginning -/
def Reads (E : Enc α) (w : World) (ao : Option Addr) (l : List α) : Prop :=
  l = [] ∨ ∃ g, ao = some ⟨g, 0, none⟩ ∧ g < w.heap.size ∧ ∀ (k : Nat) (u : α), l[k]? = some u → ∀ (j : Nat) (x : Value), (E.cs u)[j]? = some x → w.cell? ⟨g, k * E.n + j, none⟩ = some x
theorem Owns.form {T : TypeId} {w : World} {v : Value} {l : List α} (h : Owns E T w v l) :
    ∃ (ao : Option Addr) (c : Nat), v = .slice ao l.length c ∧ l.length ≤ c ∧ Reads E w ao l ∧ ∀ g, ao = some ⟨g, 0, none⟩ → v.ownBlock = some g := by
  have hlt := h.lt
  have hcs := @World.ownsRow.cells _ _ _ _ _ _ _ h
  rcases h.2 with ⟨rfl, h0⟩ | ⟨g, cap, cur, rfl, hb, hg, hc, r⟩
  · have : l = [] := List.length_eq_zero_iff.1 h0
    subst this
    exact ⟨none, 0, rfl, Nat.le_refl _, .inl rfl, fun g hg => by cases hg⟩
  · refine ⟨some ⟨g, 0, none⟩, cap, rfl, hc, .inr ⟨g, rfl, hlt g rfl, fun k u hu j x hj => ?_⟩, fun g' hg' => by cases hg'; rfl⟩
    have := hcs (g := g) rfl (k * E.n + j) x (E.all_at l k u hu j x hj)
    rwa [show (⟨g, 0, none⟩ : Addr).add (k * E.n + j) = ⟨g, k * E.n + j, none⟩ by unfold Addr.add; split <;> simp_all] at this
theorem Reads.turns {S : Nat → Prop} {w w' : World} {ao : Option Addr} {l : List α} (h : Reads E w ao l) (ht : Turns S w w') (hn : ∀ g, ao = some ⟨g, 0, none⟩ → ¬ S g) : Reads E w' ao l := by
  rcases h with h | ⟨g, rfl, hg, hc⟩
  · exact .inl h
  · exact .inr ⟨g, rfl, Nat.lt_of_lt_of_le hg ht.size, fun k u hu j x hj => (ht.cell (a := ⟨g, k * E.n + j, none⟩) hg (hn g rfl)).trans (hc k u hu j x hj)⟩
/-- a row that has just been built: one block that holds just the elements -/
theorem Reads.of_block {w : World} {g : Nat} {l : List α} {t : TypeId} {fr : Nat × Nat} (h : w.heap[g]? = some (.cells (E.all l).toArray t fr)) : Reads E w (some ⟨g, 0, none⟩) l := by
  refine .inr ⟨g, rfl, (Array.getElem?_eq_some_iff.1 h).1, fun k u hu j x hj => ?_⟩
  have := World.news_of_block h (k * E.n + j) x (E.all_at l k u hu j x hj)
  rwa [show (⟨g, 0, none⟩ : Addr).add (k * E.n + j) = ⟨g, k * E.n + j, none⟩ by unfold Addr.add; split <;> simp_all] at this

theorem infoOf {P : Program} {T : TypeId} {z : Value} {size bytes : Nat} (h : (P.info? T).map (fun i => (i.zero, i.size, i.bytes)) = some (some z, size, bytes)) : ∃ i, P.info? T = some i ∧ i.zero = some z ∧ i.size = size ∧ i.bytes = bytes := by
  cases hi : P.info? T with
  | none => rw [hi] at h; cases h
  | some i => rw [hi] at h; simp at h; exact ⟨i, rfl, h.1, h.2.1, h.2.2⟩

/-- append of the elements m, that lie readable at ao -/
theorem Owns.append {P : Program} {T RT ty : TypeId} {z : Value} {bytes : Nat} (hu : P.underlying RT = some (.slice T)) (hi : (P.info? T).map (fun i => (i.zero, i.size, i.bytes)) = some (some z, E.n, bytes)) (hz : z.cells.size = E.n) (h0 : 0 < E.n)
    {W : World} {v : Value} {l m : List α} (hr : Owns E T W v l) (g c : Nat) (hm : ∀ j u, (E.all m)[j]? = some u → W.cell? ((⟨g, 0, none⟩ : Addr).add j) = some u) (h63 : l.length + m.length ≤ 1048576) (hb : bytes ≤ 4096) :
    ∃ v' w', (Builtin.append_ #[RT, RT] ty #[v, .slice (some ⟨g, 0, none⟩) m.length c]).run P W = .ok v' w' ∧ Owns E T w' v' (l ++ m) ∧ W.grownBy w' v.ownBlock ∧ (v'.ownBlock = v.ownBlock ∨ v'.ownBlock = some W.heap.size) := by
  obtain ⟨i0, hi, hz0, hz1, hz2⟩ := infoOf hi
  have hby : (l.length + m.length) * bytes ≤ 1048576 * 4096 := Nat.mul_le_mul h63 hb
  obtain ⟨v', w', h1, h2, h3, _, h5⟩ := run_append_own_at (P := P) W 0 RT ty T i0 _ E.n bytes hu hi hz0 hz1 hz2 hz h0 v l.length (E.all l) hr ⟨g, 0, none⟩ m.length c (E.all m) (E.all_length m) hm (E.all_cell m) (by unfold maxLen; omega) (by omega) (Nat.zero_le _)
  refine ⟨v', w', h1, ?_, h3, h5⟩
  unfold Owns
  rw [E.all_append, List.length_append]
  exact h2

/-- append of one element, in a row that has just been built: a step of a list of operations -/
theorem wpList_append_one {P : Program} {T RT : TypeId} {z : Value} {bytes : Nat} (hu : P.underlying RT = some (.slice T)) (hi : (P.info? T).map (fun i => (i.zero, i.size, i.bytes)) = some (some z, E.n, bytes)) (hz : z.cells.size = E.n) (h0 : 0 < E.n) (hb : bytes ≤ 4096)
    {ops : Array Oper} {rest : List Oper} {o : Oper} {a : Act} {Q : Exit → Act → World → Prop} {W : World} (hgd : o.guard = none) (sl x : Operand)
    (ho : o.op = .call { callee := .builtin .append, args := #[sl, x], argTypes := #[RT, RT] }) (v : Value) (l : List α) (u : α) (hs : a.eval sl = v) (hr : Owns E T W v l) (g : Nat) (hx : a.eval x = .slice (some ⟨g, 0, none⟩) 1 1)
    (hg : W.heap[g]? = some (.cells (E.cs u).toArray T (0, 0))) (h63 : l.length + 1 ≤ 1048576)
    (h : ∀ v' w', Owns E T w' v' (l ++ [u]) → W.grownBy w' v.ownBlock → (v'.ownBlock = v.ownBlock ∨ v'.ownBlock = some W.heap.size) → wpList P ops Q rest (a.put o.dst v') w') : wpList P ops Q (o :: rest) a W := by
  refine wpList_plain hgd fun K hK => ?_
  obtain ⟨v', w', hrun, h2, h3, h4⟩ := Owns.append (P := P) (ty := o.type) hu hi hz h0 hr (m := [u]) g 1 (by rw [E.all_one]; exact World.news_of_block (cs := (E.cs u).toArray) hg) h63 hb
  unfold Oper.wp execOp
  simp only [ho, resolve, invoke, builtin, Sem.run_bind, Sem.run_pure, Result.andThen_ok, List.map_toArray, List.map_cons, List.map_nil, hs, hx]
  rw [show (1 : Nat) = [u].length from rfl] at *
  simp only [hrun]
  exact hK _ _ (h v' w' h2 h3 h4)
end
end Go.Proofs.Ytcppibjllaablaa.mem

/-
  A struct stored whole: the cells of a block written one behind the other. No program.
-/
namespace Go.Proofs.Ytcppibjllaablaa.mem
open Go.RowKit
set_option linter.unusedVariables false

/-- the cells vs are written into block p, from cell i on -/
def puts (w : World) (p : Nat) : Nat → List Value → World
  | _, [] => w
  | i, v :: vs => puts (w.setCell ⟨p, i, none⟩ v) p (i + 1) vs

theorem puts_turns {S : Nat → Prop} {a : World} {p : Nat} (hp : S p ∨ a.heap.size ≤ p) : ∀ (vs : List Value) (i : Nat) (w : World), Turns S a w → Turns S a (puts w p i vs)
  | [], _, _, h => h
  | v :: vs, i, w, h => puts_turns hp vs (i + 1) _ (h.setCell (p := ⟨p, i, none⟩) hp v)

theorem puts_other {p q : Nat} (hne : p ≠ q) {cs : Array Value} {t : TypeId} : ∀ (vs : List Value) (i : Nat) (w : World), Blk w q cs t → Blk (puts w p i vs) q cs t
  | [], _, _, h => h
  | v :: vs, i, w, h => puts_other hne vs (i + 1) _ (h.setOther (a := ⟨p, i, none⟩) hne v)

/-- l with vs written over it from i on -/
def over : List Value → Nat → List Value → List Value
  | l, _, [] => l
  | l, i, v :: vs => over (l.set i v) (i + 1) vs
theorem over_length : ∀ (vs : List Value) (l : List Value) (i : Nat), (over l i vs).length = l.length
  | [], _, _ => rfl
  | v :: vs, l, i => by rw [over, over_length, List.length_set]
theorem over_pre : ∀ (vs a b : List Value), vs.length = b.length → over (a ++ b) a.length vs = a ++ vs
  | [], a, b, h => by
    have : b = [] := List.length_eq_zero_iff.1 h.symm
    subst this; rfl
  | v :: vs, a, [], h => by simp at h
  | v :: vs, a, x :: b, h => by
    have h1 : (a ++ x :: b).set a.length v = (a ++ [v]) ++ b := by simp
    rw [over, h1, show a.length + 1 = (a ++ [v]).length by simp, over_pre vs (a ++ [v]) b (by simpa using h)]
    simp

theorem puts_over {p : Nat} {t : TypeId} : ∀ (vs : List Value) (i : Nat) (w : World) (l : List Value), Blk w p l.toArray t → Blk (puts w p i vs) p (over l i vs).toArray t
  | [], _, _, _, h => h
  | v :: vs, i, w, l, h => by
    have h1 := h.set i v
    rw [List.setIfInBounds_toArray] at h1
    exact puts_over vs (i + 1) _ _ h1
/-- the whole block is written -/
theorem puts_blk {w : World} {p : Nat} {t : TypeId} (l vs : List Value) (h : Blk w p l.toArray t) (hl : vs.length = l.length) : Blk (puts w p 0 vs) p vs.toArray t := by
  have h1 := puts_over vs 0 w l h
  have h2 := over_pre vs [] l hl
  simp only [List.nil_append, List.length_nil] at h2
  rwa [h2] at h1

theorem Blk.drewN {w : World} {p : Nat} {cs : Array Value} {t : TypeId} (h : Blk w p cs t) (n : Nat) : Blk (w.drewN n) p cs t := h
theorem Turns.drewN {S : Nat → Prop} {a w : World} (h : Turns S a w) (n : Nat) : Turns S a (w.drewN n) := ⟨h.os, h.tape, h.output, h.size, h.block⟩
theorem Turns.of_drewN {S : Nat → Prop} {a w : World} {n : Nat} (h : Turns S (a.drewN n) w) : Turns S a w := ⟨h.os, h.tape, h.output, h.size, h.block⟩
end Go.Proofs.Ytcppibjllaablaa.mem

/-
  antiphonlaw01.Cut.
-/
namespace Go.Proofs.Ytcppibjllaablaa.cutl
open Go.RowKit mem
set_option linter.unusedVariables false

def cutS (s : ByteArray) (n : Nat) : ByteArray := if n < s.size then s.extract 0 n else s
theorem cutS_size (s : ByteArray) (n : Nat) : (cutS s n).size ≤ n ∧ (cutS s n).size ≤ s.size := by
  unfold cutS; split
  · rw [ByteArray.size_extract]; omega
  · omega
end Go.Proofs.Ytcppibjllaablaa.cutl

/-
  'x & (2^n - 1)' of an int, of whatever sign: x modulo 2^n.
-/
namespace Go.Proofs.Ytcppibjllaablaa.mask
set_option linter.unusedVariables false

theorem toNat_mask (x : Int) (n : Nat) : ((x % 18446744073709551616).toNat &&& (2 ^ n - 1)) = (x % 18446744073709551616).toNat % 2 ^ n := Nat.and_two_pow_sub_one_eq_mod _ n

theorem and_mask (x m : Int) (n : Nat) (hn : n ≤ 62) (hm : m = ((2 ^ n - 1 : Nat) : Int)) : bits .and .i64 x m = x % ((2 ^ n : Nat) : Int) := by
  subst hm
  have hp : 2 ^ n ≤ 2 ^ 62 := Nat.pow_le_pow_right (by omega) hn
  have hpos : 0 < 2 ^ n := Nat.two_pow_pos n
  have h1 : (BitVec.ofInt 64 x).toNat = (x % 18446744073709551616).toNat := by simp [BitVec.toNat_ofInt]
  have h2 : (BitVec.ofInt 64 ((2 ^ n - 1 : Nat) : Int)).toNat = 2 ^ n - 1 := by
    rw [BitVec.toNat_ofInt]
    omega
  have h3 : ((BitVec.ofInt 64 x &&& BitVec.ofInt 64 ((2 ^ n - 1 : Nat) : Int)).toNat : Int) = x % ((2 ^ n : Nat) : Int) := by
    rw [BitVec.toNat_and, h1, h2, toNat_mask]
    obtain ⟨d, hd⟩ := Nat.pow_dvd_pow 2 (show n ≤ 64 by omega)
    have e : (18446744073709551616 : Int) = ((2 ^ n : Nat) : Int) * (d : Int) := by
      have : (18446744073709551616 : Nat) = 2 ^ n * d := by rw [← hd]
      omega
    have h0 : 0 ≤ x % 18446744073709551616 := by omega
    rw [Int.natCast_emod, Int.toNat_of_nonneg h0, e, Int.emod_emod_of_dvd _ ⟨d, rfl⟩]
  show IntKind.i64.wrap ((BitVec.ofInt IntKind.i64.bits x &&& BitVec.ofInt IntKind.i64.bits ((2 ^ n - 1 : Nat) : Int)).toNat : Int) = _
  rw [show IntKind.i64.bits = 64 from rfl, h3]
  have hb : 0 ≤ x % ((2 ^ n : Nat) : Int) ∧ x % ((2 ^ n : Nat) : Int) < ((2 ^ n : Nat) : Int) := ⟨Int.emod_nonneg _ (by omega), Int.emod_lt_of_pos _ (by omega)⟩
  exact IntWalk.i64_in _ (by omega)

theorem mask1 (x : Int) : bits .and .i64 x 1 = x % 2 := and_mask x 1 1 (by omega) rfl
theorem mask2 (x : Int) : bits .and .i64 x 3 = x % 4 := and_mask x 3 2 (by omega) rfl
theorem mask3 (x : Int) : bits .and .i64 x 7 = x % 8 := and_mask x 7 3 (by omega) rfl
theorem mask4 (x : Int) : bits .and .i64 x 15 = x % 16 := and_mask x 15 4 (by omega) rfl
theorem mask5 (x : Int) : bits .and .i64 x 31 = x % 32 := and_mask x 31 5 (by omega) rfl
theorem mask6 (x : Int) : bits .and .i64 x 63 = x % 64 := and_mask x 63 6 (by omega) rfl
theorem mask7 (x : Int) : bits .and .i64 x 127 = x % 128 := and_mask x 127 7 (by omega) rfl
theorem mask8 (x : Int) : bits .and .i64 x 255 = x % 256 := and_mask x 255 8 (by omega) rfl
theorem mask10 (x : Int) : bits .and .i64 x 1023 = x % 1024 := and_mask x 1023 10 (by omega) rfl
theorem mask11 (x : Int) : bits .and .i64 x 2047 = x % 2048 := and_mask x 2047 11 (by omega) rfl
theorem mask14 (x : Int) : bits .and .i64 x 16383 = x % 16384 := and_mask x 16383 14 (by omega) rfl
theorem mask9 (x : Int) : bits .and .i64 x 511 = x % 512 := and_mask x 511 9 (by omega) rfl
theorem mask12 (x : Int) : bits .and .i64 x 4095 = x % 4096 := and_mask x 4095 12 (by omega) rfl
theorem mask16 (x : Int) : bits .and .i64 x 65535 = x % 65536 := and_mask x 65535 16 (by omega) rfl
theorem mask20 (x : Int) : bits .and .i64 x 1048575 = x % 1048576 := and_mask x 1048575 20 (by omega) rfl
end Go.Proofs.Ytcppibjllaablaa.mask

/-
  What a law's walk is told of the arguments that came in.
-/
namespace Go.Proofs.Ytcppibjllaablaa.args
open Go.ChangeShapes Go.WideShapes Go.ChangeAt Go.RowKit
open Go.ChangeMaps (open_string shut_string)
set_option linter.unusedVariables false

theorem own : ownKnob Try.prog.godebug = none := by kernel_rfl
theorem laidOut : laidOutB Try.prog = true := by kernel_rfl

/-- A slice of integers that came in: n elements z 0, z 1, .. -/
def IntRow (k : IntKind) (w : World) (a : Option Addr) (n c : Nat) (z : Nat → Int) : Prop :=
  n ≤ maxLen ∧ (∀ i, i < n → (Lit.int k (z i)).wf = true) ∧ (n = 0 ∨ ∃ b off, a = some ⟨b, off, none⟩ ∧ b < w.heap.size ∧ ∀ i, i < n → w.cell? ⟨b, off + i, none⟩ = some (.int k (z i)))

theorem open_row {H : Type} {enc : TypeId × Value → H} {w : World} {t e : TypeId} {k : IntKind} {a : Option Addr} {n c : Nat} {d : DataW H} {ps : List MemPlace}
    (ht : Try.prog.underlying t = some (.slice e)) (he : Try.prog.underlying e = some (.int k)) (hc : Try.prog.cellsOf e = 1)
    (h : DataW.Trod enc Try.prog w 0 (fun _ => true) true t (.slice a n c) d ps) : ∃ z, IntRow k w a n c z := by
  have lt : ∀ x ∈ ps, x.block < w.heap.size := by obtain ⟨m, hm⟩ := h; exact DataW.trod_lt m _ _ _ hm
  obtain ⟨fuel, hf⟩ := h
  rcases open_ints ht he hc hf with ⟨hcs, _⟩ | ⟨x, l, c', zs, hcs, _, hl, hm, hz, hx, hcell, hwz⟩
  · simp [Value.cells] at hcs
    obtain ⟨rfl, rfl, rfl⟩ := hcs
    exact ⟨fun _ => 0, by simp, fun i hi => by omega, .inl rfl⟩
  · simp [Value.cells] at hcs
    obtain ⟨rfl, rfl, rfl⟩ := hcs
    simp only [Prod.mk.injEq] at hx
    obtain ⟨rfl, rfl⟩ := hx
    simp only [if_true] at hz
    refine ⟨fun i => zs.getD i 0, by omega, fun i hi => hwz _ (by show zs.getD i 0 ∈ zs; simp [List.getD, List.getElem?_eq_getElem (show i < zs.length by omega)]), ?_⟩
    by_cases h0 : n = 0
    · exact .inl h0
    · right
      obtain ⟨b, off, spot⟩ := x
      have hspot : spot = none := by simpa [Addr.add] using World.cell?_spot (hcell 0 (by omega))
      subst hspot
      have hb : b < w.heap.size := lt (.cell b off) (MemPlace.mem_row.2 ⟨0, by omega, by simp⟩)
      exact ⟨b, off, rfl, hb, fun i hi => by rw [← add_plain]; exact hcell i (by omega)⟩

/-- the same of a slice among the cells of a struct -/
theorem open_row_list {H : Type} {enc : TypeId × Value → H} {w : World} {t e : TypeId} {k : IntKind} {cs : List Value} {fuel : Nat} {y : DataW H × List MemPlace}
    (ht : Try.prog.underlying t = some (.slice e)) (he : Try.prog.underlying e = some (.int k)) (hc : Try.prog.cellsOf e = 1)
    (h : DataW.trod enc Try.prog w 0 (fun _ => true) true fuel t cs = some y) : ∃ a n c z, cs = [.slice a n c] ∧ IntRow k w a n c z := by
  have hs : ∃ a n c, cs = [.slice a n c] := by
    rcases open_ints ht he hc h with ⟨hcs, _⟩ | ⟨x, l, c', zs, hcs, _⟩
    · exact ⟨_, _, _, hcs⟩
    · exact ⟨_, _, _, hcs⟩
  obtain ⟨a, n, c, rfl⟩ := hs
  obtain ⟨z, hz⟩ := open_row (d := y.1) (ps := y.2) ht he hc ⟨fuel, h⟩
  exact ⟨a, n, c, z, rfl, hz⟩
end Go.Proofs.Ytcppibjllaablaa.args

/-
  drr, as pure functions: flows, whose turn it is, Choose, Take. No program.
-/
namespace Go.Proofs.Ytcppibjllaablaa.drr
open Go.RowKit mem
set_option linter.unusedVariables false

/-- a flow: its number, the block that holds it, its share, its balance -/
structure Fl where
  id : Int
  b : Nat
  share : Int
  left : Int
structure Sc where
  most : Int
  L : List Fl
  turn : Int
  g : Bool

def fnd (L : List Fl) (id : Int) : Option Fl := L.find? (fun f => f.id == id)
theorem fnd_some {L : List Fl} {id : Int} {f : Fl} (h : fnd L id = some f) : f ∈ L ∧ f.id = id := by
  refine ⟨List.mem_of_find?_eq_some h, ?_⟩
  have := List.find?_some h
  simpa using this
/-- no two flows have a number, or a block, in common -/
def Ap (L : List Fl) : Prop := L.Pairwise (fun f g => f.id ≠ g.id ∧ f.b ≠ g.b)
theorem Ap.eq {L : List Fl} (h : Ap L) : ∀ {f g : Fl}, f ∈ L → g ∈ L → (f.id = g.id ∨ f.b = g.b) → f = g := by
  induction L with
  | nil => intro f g hf; cases hf
  | cons x l ih =>
    have hp := List.pairwise_cons.1 h
    intro f g hf hg e
    rcases List.mem_cons.1 hf with hf | hf <;> rcases List.mem_cons.1 hg with hg | hg
    · rw [hf, hg]
    · have := hp.1 g hg
      rw [← hf] at this
      rcases e with e | e
      · exact absurd e this.1
      · exact absurd e this.2
    · have := hp.1 f hf
      rw [← hg] at this
      rcases e with e | e
      · exact absurd e.symm this.1
      · exact absurd e.symm this.2
    · exact ih hp.2 hf hg e
theorem Ap.fnd {L : List Fl} (h : Ap L) {f : Fl} (hf : f ∈ L) : fnd L f.id = some f := by
  unfold drr.fnd
  cases hx : L.find? (fun g => g.id == f.id) with
  | none =>
    have := List.find?_eq_none.1 hx f hf
    simp at this
  | some g =>
    obtain ⟨h1, h2⟩ := fnd_some (L := L) (id := f.id) hx
    rw [h.eq h1 hf (.inl h2)]

/-- each flow's balance anew -/
def upd (L : List Fl) (F : Fl → Int) : List Fl := L.map (fun f => ⟨f.id, f.b, f.share, F f⟩)
theorem upd_mem {L : List Fl} {F : Fl → Int} {g : Fl} (h : g ∈ upd L F) : ∃ f ∈ L, g = ⟨f.id, f.b, f.share, F f⟩ := by
  obtain ⟨f, hf, e⟩ := List.mem_map.1 h
  exact ⟨f, hf, e.symm⟩
theorem upd_mem' {L : List Fl} {F : Fl → Int} {f : Fl} (h : f ∈ L) : (⟨f.id, f.b, f.share, F f⟩ : Fl) ∈ upd L F := List.mem_map.2 ⟨f, h, rfl⟩
theorem Ap.upd {L : List Fl} (h : Ap L) (F : Fl → Int) : Ap (upd L F) := by
  unfold Ap drr.upd
  rw [List.pairwise_map]
  exact h
theorem fnd_upd (L : List Fl) (F : Fl → Int) (id : Int) : fnd (upd L F) id = (fnd L id).map (fun f => ⟨f.id, f.b, f.share, F f⟩) := by
  unfold fnd upd
  induction L with
  | nil => rfl
  | cons x l ih =>
    rw [List.map_cons, List.find?_cons, List.find?_cons]
    dsimp only
    split
    · rfl
    · exact ih
theorem upd_same (L : List Fl) (F : Fl → Int) (h : ∀ f ∈ L, F f = f.left) : upd L F = L := by
  unfold upd
  rw [List.map_congr_left (g := id) (fun f hf => by rw [h f hf]; rfl), List.map_id]
theorem upd_upd (L : List Fl) (F G : Fl → Int) : upd (upd L F) G = upd L (fun f => G ⟨f.id, f.b, f.share, F f⟩) := by
  unfold upd
  rw [List.map_map]
  rfl
theorem upd_congr {L : List Fl} {F G : Fl → Int} (h : ∀ f ∈ L, F f = G f) : upd L F = upd L G := by
  unfold upd
  exact List.map_congr_left (fun f hf => by rw [h f hf])
def setL (L : List Fl) (id x : Int) : List Fl := upd L (fun f => if f.id = id then x else f.left)

/-- the heads of flows: number and size -/
abbrev Hs := List (Int × Int)
def ids (l : Hs) : List Int := l.map (·.1)
def sizeOf' (l : Hs) (id : Int) : Int := match l.find? (fun h => h.1 == id) with | some h => h.2 | none => 0
theorem sizeOf_mem {l : Hs} {id : Int} (h : id ∈ ids l) : (id, sizeOf' l id) ∈ l := by
  unfold sizeOf'
  cases hx : l.find? (fun h => h.1 == id) with
  | none =>
    obtain ⟨y, hy, e⟩ := List.mem_map.1 h
    have := List.find?_eq_none.1 hx y hy
    simp [e] at this
  | some y =>
    have h1 := List.mem_of_find?_eq_some hx
    have h2 := List.find?_some hx
    simp at h2
    subst h2
    exact h1
/-- the next number behind t -/
def nextId (l : List Int) (t : Int) : Int := l.getD ((l.countP (fun x => decide (x < t)) + (if t ∈ l then 1 else 0)) % l.length) 0
theorem nextId_mem {l : List Int} (hl : l ≠ []) (t : Int) : nextId l t ∈ l := by
  unfold nextId
  have h0 : 0 < l.length := List.length_pos_iff.2 hl
  have hlt : (l.countP (fun x => decide (x < t)) + (if t ∈ l then 1 else 0)) % l.length < l.length := Nat.mod_lt _ h0
  rw [List.getD_eq_getElem?_getD, List.getElem?_eq_getElem hlt]
  exact List.getElem_mem hlt

def forgetF (l : Hs) (f : Fl) : Int := if f.id ∈ ids l then f.left else 0
def grantS (s : Sc) : Sc := if s.g then s else ⟨s.most, upd s.L (fun f => if f.id = s.turn then f.left + f.share else f.left), s.turn, true⟩
def passS (l : Hs) (s : Sc) : Sc := ⟨s.most, s.L, nextId (ids l) s.turn, false⟩
def leftOf (s : Sc) (id : Int) : Int := match fnd s.L id with | some f => f.left | none => 0
def lowS (l : Hs) (s : Sc) : Bool := decide (leftOf (grantS s) s.turn < sizeOf' l s.turn)
def runS (l : Hs) (s : Sc) : Sc := if lowS l s then grantS (passS l (grantS s)) else grantS s
def begS (l : Hs) (s : Sc) : Sc := ⟨s.most, upd s.L (forgetF l), s.turn, s.g⟩
def firS (l : Hs) (s : Sc) : Sc := if s.turn ∈ ids l then begS l s else passS l (begS l s)
def chooseS (l : Hs) (s : Sc) : Sc := match l with
  | [] => ⟨s.most, upd s.L (forgetF []), s.turn, false⟩
  | _ :: _ => runS l (firS l s)
def takeS (n : Int) (s : Sc) : Sc := if s.g = true ∧ 0 ≤ n ∧ n ≤ leftOf s s.turn then ⟨s.most, upd s.L (fun f => if f.id = s.turn then f.left - n else f.left), s.turn, s.g⟩ else s

structure Sc.ok (s : Sc) : Prop where
  m0 : 1 ≤ s.most
  m1 : s.most ≤ 16777216
  f : ∀ f ∈ s.L, s.most ≤ f.share ∧ f.share ≤ 16777216 ∧ 0 ≤ f.left ∧ f.left < s.most + f.share ∧ (f.id ≠ s.turn ∨ s.g = false → f.left < s.most)
  t : s.g = true → ∃ f ∈ s.L, f.id = s.turn
/-- heads that may be told: rising numbers, of flows that are there -/
structure Ok (s : Sc) (l : Hs) : Prop where
  asc : (ids l).Pairwise (· < ·)
  fl : ∀ h ∈ l, ∃ f ∈ s.L, f.id = h.1
  sz : ∀ h ∈ l, 0 ≤ h.2 ∧ h.2 ≤ s.most

theorem Sc.ok.beg {s : Sc} (h : s.ok) (l : Hs) : (begS l s).ok := by
  refine ⟨h.m0, h.m1, fun g hg => ?_, fun e => ?_⟩
  · obtain ⟨f, hf, rfl⟩ := upd_mem hg
    obtain ⟨h1, h2, h3, h4, h5⟩ := h.f f hf
    have hm := h.m0
    show s.most ≤ f.share ∧ f.share ≤ 16777216 ∧ 0 ≤ forgetF l f ∧ forgetF l f < s.most + f.share ∧ (f.id ≠ s.turn ∨ s.g = false → forgetF l f < s.most)
    unfold forgetF
    split
    · exact ⟨h1, h2, h3, h4, h5⟩
    · exact ⟨h1, h2, Int.le_refl _, by omega, fun _ => by omega⟩
  · obtain ⟨f, hf, e⟩ := h.t e
    exact ⟨_, upd_mem' hf, e⟩
theorem Sc.ok.pass {s : Sc} (h : s.ok) (l : Hs) (hl : ∀ f ∈ s.L, f.id = s.turn → f.left < s.most) : (passS l s).ok :=
  ⟨h.m0, h.m1, fun f hf => by
    obtain ⟨h1, h2, h3, h4, h5⟩ := h.f f hf
    refine ⟨h1, h2, h3, h4, fun _ => ?_⟩
    by_cases e : f.id = s.turn
    · exact hl f hf e
    · exact h5 (.inl e), fun e => by cases e⟩
theorem Sc.ok.grant {s : Sc} (h : s.ok) (ht : ∃ f ∈ s.L, f.id = s.turn) : (grantS s).ok := by
  unfold grantS
  split
  next => exact h
  next hg =>
    refine ⟨h.m0, h.m1, fun g hgm => ?_, fun _ => ?_⟩
    · obtain ⟨f, hf, rfl⟩ := upd_mem hgm
      obtain ⟨h1, h2, h3, h4, h5⟩ := h.f f hf
      have h6 := h5 (.inr (by simpa using hg))
      refine ⟨h1, h2, ?_, ?_, fun e => ?_⟩
      · show 0 ≤ (if f.id = s.turn then f.left + f.share else f.left)
        have := h.m0
        split <;> omega
      · show (if f.id = s.turn then f.left + f.share else f.left) < s.most + f.share
        split <;> omega
      · show (if f.id = s.turn then f.left + f.share else f.left) < s.most
        rcases e with e | e
        · rw [if_neg e]; exact h6
        · cases e
    · obtain ⟨f, hf, e⟩ := ht
      exact ⟨_, upd_mem' hf, e⟩
theorem grant_turn (s : Sc) : (grantS s).turn = s.turn ∧ (grantS s).most = s.most ∧ (grantS s).g = true := by
  unfold grantS
  split
  next h => exact ⟨rfl, rfl, h⟩
  next h => exact ⟨rfl, rfl, rfl⟩
theorem grant_fl {s : Sc} {id : Int} (h : ∃ f ∈ s.L, f.id = id) : ∃ f ∈ (grantS s).L, f.id = id := by
  unfold grantS
  split
  · exact h
  · obtain ⟨f, hf, e⟩ := h
    exact ⟨_, upd_mem' hf, e⟩
/-- one who was not granted has enough, once granted -/
theorem grant_enough {s : Sc} (h : s.ok) (ap : Ap s.L) (ht : ∃ f ∈ s.L, f.id = s.turn) (hg : s.g = false) {n : Int} (hn : n ≤ s.most) : n ≤ leftOf (grantS s) s.turn := by
  obtain ⟨f, hf, e⟩ := ht
  obtain ⟨h1, h2, h3, h4, h5⟩ := h.f f hf
  have hfn := ap.fnd hf
  rw [e] at hfn
  have : leftOf (grantS s) s.turn = f.left + f.share := by
    unfold leftOf grantS
    rw [hg]
    simp only [Bool.false_eq_true, if_false]
    rw [fnd_upd, hfn]
    simp [e]
  omega
theorem Sc.ok.fir {s : Sc} (h : s.ok) {l : Hs} (hl : l ≠ []) (ok : Ok s l) : (firS l s).ok ∧ (firS l s).turn ∈ ids l ∧ (firS l s).most = s.most := by
  unfold firS
  split
  next ht => exact ⟨h.beg l, ht, rfl⟩
  next ht =>
    refine ⟨(h.beg l).pass l (fun f hf e => ?_), nextId_mem (by unfold ids; simpa using hl) _, rfl⟩
    obtain ⟨f', hf', rfl⟩ := upd_mem hf
    have hm := h.m0
    show forgetF l f' < s.most
    unfold forgetF
    rw [if_neg (by intro hx; exact ht (by rw [← (show f'.id = s.turn from e)]; exact hx))]
    omega
end Go.Proofs.Ytcppibjllaablaa.drr

/-
  append of one owned row onto another: 'append(x, y...)'. No program.
-/
namespace Go.Proofs.Ytcppibjllaablaa.mem
open Go.RowKit
set_option linter.unusedVariables false
section
variable {α : Type} {E : Enc α}

theorem Owns.append_owns {P : Program} {T RT ty : TypeId} {z : Value} {bytes : Nat} (hu : P.underlying RT = some (.slice T)) (hi : (P.info? T).map (fun i => (i.zero, i.size, i.bytes)) = some (some z, E.n, bytes)) (hz : z.cells.size = E.n) (h0 : 0 < E.n) (hb : bytes ≤ 4096)
    {W : World} {v u : Value} {l m : List α} (hr : Owns E T W v l) (hm : Owns E T W u m) (h63 : l.length + m.length ≤ 1048576) :
    ∃ v' w', (Builtin.append_ #[RT, RT] ty #[v, u]).run P W = .ok v' w' ∧ Owns E T w' v' (l ++ m) ∧ W.grownBy w' v.ownBlock ∧ (v'.ownBlock = v.ownBlock ∨ v'.ownBlock = some W.heap.size) := by
  obtain ⟨i0, hi', hz0, hz1, hz2⟩ := infoOf hi
  have hcells := @World.ownsRow.cells _ _ _ _ _ _ _ hm
  rcases hm.2 with ⟨rfl, hn⟩ | ⟨g, cap, cur, rfl, hbl, hg, r⟩
  · have : m = [] := List.length_eq_zero_iff.1 hn
    subst this
    refine ⟨v, W, ?_, by rw [List.append_nil]; exact hr, ⟨rfl, rfl, rfl, Nat.le_refl _, fun _ _ _ => rfl⟩, .inl rfl⟩
    exact run_append_owned_none (P := P) (w := W) 0 RT ty T i0 E.n hu hi' v l.length (E.all l) hr
  · exact Owns.append hu hi hz h0 hr (m := m) g cap (fun j x hj => hcells rfl j x hj) h63 hb

theorem step_append_owns {P : Program} {T RT : TypeId} {z : Value} {bytes : Nat} (hu : P.underlying RT = some (.slice T)) (hi : (P.info? T).map (fun i => (i.zero, i.size, i.bytes)) = some (some z, E.n, bytes)) (hz : z.cells.size = E.n) (h0 : 0 < E.n) (hb : bytes ≤ 4096)
    {ops : Array Oper} {o : Oper} {a : Act} {K : Act → World → Prop} {Q : Exit → Act → World → Prop} {X : Prop} {W : World} (hgd : o.guard = none) (sl x : Operand)
    (ho : o.op = .call { callee := .builtin .append, args := #[sl, x], argTypes := #[RT, RT] }) (v u : Value) (l m : List α) (hs : a.eval sl = v) (hx : a.eval x = u) (hr : Owns E T W v l) (hm : Owns E T W u m) (h63 : l.length + m.length ≤ 1048576)
    (h : ∀ v' w', Owns E T w' v' (l ++ m) → W.grownBy w' v.ownBlock → (v'.ownBlock = v.ownBlock ∨ v'.ownBlock = some W.heap.size) → K (a.put o.dst v') w') :
    if Region.wanted o (yielded ops a.tmps) = true then Oper.wp P o a W K Q else X := by
  have hw : Region.wanted o (yielded ops a.tmps) = true := by simp [Region.wanted, hgd]
  rw [if_pos hw]
  obtain ⟨v', w', hrun, h2, h3, h4⟩ := Owns.append_owns (P := P) (ty := o.type) hu hi hz h0 hb hr hm h63
  unfold Oper.wp execOp
  simp only [ho, resolve, invoke, builtin, Sem.run_bind, Sem.run_pure, Result.andThen_ok, List.map_toArray, List.map_cons, List.map_nil, hs, hx, hrun]
  exact h v' w' h2 h3 h4
end
end Go.Proofs.Ytcppibjllaablaa.mem

/-
  One cell of an element that lies in an owned row is stored. No program.
-/
namespace Go.Proofs.Ytcppibjllaablaa.mem
open Go.RowKit
set_option linter.unusedVariables false
section
variable {α : Type} {E : Enc α}
theorem Enc.all_set (l : List α) (j : Nat) (x y : α) (i : Nat) (u : Value) (hx : l[j]? = some x) (hi : i < E.n) (hy : E.cs y = (E.cs x).set i u) : E.all (l.set j y) = (E.all l).set (j * E.n + i) u := by
  induction l generalizing j with
  | nil => simp at hx
  | cons z l ih =>
    have hz := E.len z
    cases j with
    | zero =>
      simp at hx
      subst hx
      rw [List.set_cons_zero, E.all_cons, E.all_cons, hy, Nat.zero_mul, Nat.zero_add, List.set_append_left _ _ (by omega)]
    | succ j =>
      rw [List.set_cons_succ, E.all_cons, E.all_cons, ih j (by simpa using hx), List.set_append_right _ _ (by rw [hz, Nat.succ_mul]; omega), hz]
      congr 2
      rw [Nat.succ_mul]; omega
theorem Owns.setCell {T : TypeId} {w : World} {v : Value} {l : List α} (h : Owns E T w v l) {g j i : Nat} (hv : v.ownBlock = some g) {x y : α} (hx : l[j]? = some x) (u : Value) (hi : i < E.n) (hy : E.cs y = (E.cs x).set i u) :
    Owns E T (w.setCell ⟨g, j * E.n + i, none⟩ u) v (l.set j y) := by
  rcases h.2 with ⟨rfl, h0⟩ | ⟨g', cap, cur, rfl, hb, hg, hc, hm, hs, ht⟩
  · simp [Value.ownBlock] at hv
  · simp [Value.ownBlock] at hv
    subst hv
    have hb2 : Blk w g' cur T := hg
    have hjl : j < l.length := (List.getElem?_eq_some_iff.1 hx).1
    have hlt : j * E.n + i < l.length * E.n := by
      have : (j + 1) * E.n ≤ l.length * E.n := Nat.mul_le_mul_right _ hjl
      rw [Nat.succ_mul] at this; omega
    unfold Owns
    rw [List.length_set]
    refine ⟨by rw [E.all_length, List.length_set], .inr ⟨g', cap, cur.setIfInBounds (j * E.n + i) u, rfl, hb, hb2.set _ u, hc, hm, by simpa using hs, ?_⟩⟩
    rw [E.all_set l j x y i u hx hi hy, ← ht, Array.toList_setIfInBounds, List.take_set]
end
end Go.Proofs.Ytcppibjllaablaa.mem

/-
  A scalar field of a struct that came in.
-/
namespace Go.Proofs.Ytcppibjllaablaa.args
open Go.ChangeShapes Go.WideShapes Go.ChangeAt Go.RowKit Go.Deep
set_option linter.unusedVariables false

section
variable {H : Type} {enc : TypeId × Value → H} {P : Program} {w : World} {base : Nat} {spare : Nat → Bool} {held : Bool}

theorem field_cell {t : TypeId} {fs : Array Field} {fuel : Nat} {cs : List Value} {x : DataW H × List MemPlace} (ht : P.underlying t = some (.struct fs)) (h : DataW.trod enc P w base spare held fuel t cs = some x)
    (j : Nat) (f : Field) (hj : fs[j]? = some f) (o : Nat) (ho : f.offset = o) (hc : P.cellsOf f.type = 1) : ∃ n y, DataW.trod enc P w base spare held n f.type ((cs.drop o).take 1) = some y := by
  obtain ⟨xs, n, _, _, hl, hlen, hf⟩ := DataW.trod_struct ht h
  have := hf j f hj
  rw [ho, hc] at this
  have hjs : j < fs.size := by
    rcases Nat.lt_or_ge j fs.size with h' | h'
    · exact h'
    · simp [Array.getElem?_eq_none h'] at hj
  have hjx : j < xs.length := by omega
  rw [List.getElem?_eq_getElem hjx] at this
  exact ⟨n, _, this⟩
theorem take_one {cs : List Value} {o : Nat} {v : Value} (h : (cs.drop o).take 1 = [v]) : cs[o]? = some v := by
  have h1 : ((cs.drop o).take 1)[0]? = some v := by rw [h]; rfl
  simpa [List.getElem?_take, List.getElem?_drop] using h1
theorem field_int {t : TypeId} {fs : Array Field} {fuel : Nat} {cs : List Value} {x : DataW H × List MemPlace} {k : IntKind} (ht : P.underlying t = some (.struct fs)) (h : DataW.trod enc P w base spare held fuel t cs = some x)
    (j : Nat) (f : Field) (hj : fs[j]? = some f) (o : Nat) (ho : f.offset = o) (hc : P.cellsOf f.type = 1) (hk : P.underlying f.type = some (.int k)) : ∃ z, cs[o]? = some (.int k z) ∧ (Lit.int k z).wf = true := by
  obtain ⟨n, y, hy⟩ := field_cell ht h j f hj o ho hc
  obtain ⟨z, hz, _, hw⟩ := DataW.trod_int hk hy
  exact ⟨z, take_one hz, hw⟩
theorem field_bool {t : TypeId} {fs : Array Field} {fuel : Nat} {cs : List Value} {x : DataW H × List MemPlace} (ht : P.underlying t = some (.struct fs)) (h : DataW.trod enc P w base spare held fuel t cs = some x)
    (j : Nat) (f : Field) (hj : fs[j]? = some f) (o : Nat) (ho : f.offset = o) (hc : P.cellsOf f.type = 1) (hk : P.underlying f.type = some .bool) : ∃ z, cs[o]? = some (.bool z) ∧ True := by
  obtain ⟨n, y, hy⟩ := field_cell ht h j f hj o ho hc
  obtain ⟨z, hz, _⟩ := DataW.trod_bool hk hy
  exact ⟨z, take_one hz, trivial⟩
theorem field_string {t : TypeId} {fs : Array Field} {fuel : Nat} {cs : List Value} {x : DataW H × List MemPlace} (ht : P.underlying t = some (.struct fs)) (h : DataW.trod enc P w base spare held fuel t cs = some x)
    (j : Nat) (f : Field) (hj : fs[j]? = some f) (o : Nat) (ho : f.offset = o) (hc : P.cellsOf f.type = 1) (hk : P.underlying f.type = some .string) : ∃ z : ByteArray, cs[o]? = some (.string z) ∧ z.size ≤ maxLen := by
  obtain ⟨n, y, hy⟩ := field_cell ht h j f hj o ho hc
  obtain ⟨z, hz, _, hw⟩ := DataW.trod_string hk hy
  exact ⟨z, take_one hz, hw⟩
end
end Go.Proofs.Ytcppibjllaablaa.args

/-
  Maps keyed by whole numbers that the call owns: the look-up with what is known of the entry, the store at a step of a region that draws. No program.
-/
namespace Go.Proofs.Ytcppibjllaablaa.mem
open Go.RowKit Go.Maps
set_option linter.unusedVariables false

section
variable {P : Program} {w : World} {ops : Array Oper} {rest : List Oper} {o : Oper} {a : Act} {Q : Exit → Act → World → Prop}

/-- 'm[k]' where the entry is known -/
theorem wpList_look_int (hg : o.guard = none) (m x : Operand) (t : TypeId) (hop : o.op = Op.lookup t m x false)
    (k e : TypeId) (q : IntKind) (K : Keyed P k) (ht : P.underlying t = some (.map k e)) (he : P.underlying e = some (.int q)) (hz : (zeroValue e).run P w = .ok (.int q 0) w) (b n : Nat) (D : DataW Unit)
    (hm : a.eval m = .map (some b)) (hown : w.ownsMap P k (plainElem P e) b n D) (key : Value) (kl : Lit) (hx : a.eval x = key) (hkey : keyOf P k key = some kl)
    (c : Int) (hc : D.atKey kl (.lit (.int q 0)) = .lit (.int q c))
    (hK : wpList P ops Q rest (a.put o.dst (.int q c)) w) :
    wpList P ops Q (o :: rest) a w :=
  wpList_lookup_own_int w hg m x t hop k e q K ht he hz b n D hm hown key kl hx hkey (fun c' hat _ => by
    rw [hat] at hc
    injection hc with h1
    injection h1 with _ h2
    rw [h2]; exact hK)

/-- 'v, ok := m[k]' where the entry is known -/
theorem wpList_look_ok_int (hg : o.guard = none) (m x : Operand) (t : TypeId) (hop : o.op = Op.lookup t m x true)
    (k e : TypeId) (q : IntKind) (K : Keyed P k) (ht : P.underlying t = some (.map k e)) (he : P.underlying e = some (.int q)) (hz : (zeroValue e).run P w = .ok (.int q 0) w) (b n : Nat) (D : DataW Unit)
    (hm : a.eval m = .map (some b)) (hown : w.ownsMap P k (plainElem P e) b n D) (key : Value) (kl : Lit) (hx : a.eval x = key) (hkey : keyOf P k key = some kl)
    (c : Int) (hc : D.atKey kl (.lit (.int q 0)) = .lit (.int q c)) (bb : Bool) (hb : Maps.has D kl = bb)
    (hK : wpList P ops Q rest (a.put o.dst (.tuple #[.int q c, .bool bb])) w) :
    wpList P ops Q (o :: rest) a w :=
  wpList_lookup_own_ok_int w hg m x t hop k e q K ht he hz b n D hm hown key kl hx hkey (fun c' hat _ => by
    rw [hat] at hc
    injection hc with h1
    injection h1 with _ h2
    rw [h2, hb]; exact hK)

/-- 'v, ok := m[k]' in a map of strings, where the entry is known -/
theorem wpList_look_ok_str (hg : o.guard = none) (m x : Operand) (t : TypeId) (hop : o.op = Op.lookup t m x true)
    (k e : TypeId) (K : Keyed P k) (ht : P.underlying t = some (.map k e)) (he : P.underlying e = some .string) (hz : (zeroValue e).run P w = .ok (.string ⟨#[]⟩) w) (b n : Nat) (D : DataW Unit)
    (hm : a.eval m = .map (some b)) (hown : w.ownsMap P k (plainElem P e) b n D) (key : Value) (kl : Lit) (hx : a.eval x = key) (hkey : keyOf P k key = some kl)
    (s : ByteArray) (hc : D.atKey kl (.lit (.string [])) = .lit (.string s.data.toList)) (bb : Bool) (hb : Maps.has D kl = bb)
    (hK : wpList P ops Q rest (a.put o.dst (.tuple #[.string s, .bool bb])) w) :
    wpList P ops Q (o :: rest) a w :=
  wpList_lookup_own_ok w hg m x t hop k e K ht (plainElem P e) hz (.lit (.string [])) [] (plainElem_string he (by decide)) b n D hm hown key kl hx hkey (fun v ps hv => by
    rw [hc] at hv
    obtain ⟨s', rfl, h1, _⟩ := plainElem_string_inv he hv
    injection h1 with h2 _
    injection h2 with h2
    injection h2 with h2
    have : s' = s := by
      apply ByteArray.ext
      exact (Array.toList_inj.1 h2).symm
    subst this
    rw [hb]; exact hK)

/-- 'm[k] = v' at a step of a region that draws its order -/
theorem step_mapUpdate {K : Act → World → Prop} {X : Prop} (hg : o.guard = none) (m x v : Operand) (t : TypeId) (hop : o.op = Op.mapUpdate t m x v)
    (k e : TypeId) (Kk : Keyed P k) (ht : P.underlying t = some (.map k e)) (R : Value → Option (DataW Unit × List MemPlace)) (b n : Nat) (D : DataW Unit)
    (hm : a.eval m = .map (some b)) (hown : w.ownsMap P k R b n D) (hn : n < maxLen) (key val : Value) (kl : Lit) (hx : a.eval x = key) (hv : a.eval v = val) (hkey : keyOf P k key = some kl)
    (d : DataW Unit) (ps : List MemPlace) (hval : R val = some (d, ps))
    (hK : ∀ w', w'.ownsMap P k R b (n + 1) (D.put kl d) → w.grownBy w' (some b) → K (a.put o.dst undef) w') :
    if Region.wanted o (yielded ops a.tmps) = true then Oper.wp P o a w K Q else X := by
  have hw : Region.wanted o (yielded ops a.tmps) = true := by simp [Region.wanted, hg]
  rw [if_pos hw]
  obtain ⟨w', hrun, r1, r2⟩ := hown.update Kk ht hn hkey hval
  unfold Oper.wp
  simp [execOp, hop, hm, hx, hv, hrun, Result.andThen]
  exact hK w' r1 r2
end

section
variable {P : Program} {k : TypeId} {R : Value → Option (DataW Unit × List MemPlace)} {b n : Nat} {D : DataW Unit} {w w' : World}
theorem ownsMap_turns {S : Nat → Prop} (h : w.ownsMap P k R b n D) (ht : Turns S w w') (hb : ¬ S b) : w'.ownsMap P k R b n D := by
  have hlt := h.lt
  obtain ⟨es, clock, hbl, F, hs, hD⟩ := h
  exact ⟨es, clock, (ht.block b hlt hb).trans hbl, F, hs, hD⟩
/-- a map is no row of cells -/
theorem ownsMap_ne {p : Nat} {cs : Array Value} {t : TypeId} (h : w.ownsMap P k R b n D) (hp : Blk w p cs t) : b ≠ p := by
  rintro rfl
  obtain ⟨es, clock, hbl, _⟩ := h
  unfold Blk at hp
  rw [hbl] at hp; cases hp
theorem ownsMap_ne_row {α : Type} {E : Enc α} {T : TypeId} {v : Value} {l : List α} (h : w.ownsMap P k R b n D) (hr : Owns E T w v l) : ∀ g, v.ownBlock = some g → b ≠ g := by
  rintro g hg rfl
  obtain ⟨es, clock, hbl, _⟩ := h
  rcases hr.2 with ⟨rfl, _⟩ | ⟨g', cap, cur, rfl, _, hbg, _⟩
  · simp [Value.ownBlock] at hg
  · simp [Value.ownBlock] at hg
    subst hg
    rw [hbl] at hbg; cases hbg
end
end Go.Proofs.Ytcppibjllaablaa.mem

/-
  Slices of structs that can be read from some place in a block on; append of such a slice onto an owned one. No program.
-/
namespace Go.Proofs.Ytcppibjllaablaa.mem
open Go.RowKit
set_option linter.unusedVariables false
section
variable {α : Type} {E : Enc α}

/-- v holds the elements l, in a block from B on -/
def Lies (E : Enc α) (B : Nat) (w : World) (v : Value) (l : List α) : Prop :=
  ∃ g o c, v = .slice (some ⟨g, o, none⟩) l.length c ∧ l.length ≤ c ∧ c ≤ maxLen ∧ B ≤ g ∧ g < w.heap.size ∧ ∀ j u, (E.all l)[j]? = some u → w.cell? ⟨g, o + j, none⟩ = some u
theorem Lies.turns {B : Nat} {S : Nat → Prop} {w w' : World} {v : Value} {l : List α} (h : Lies E B w v l) (ht : Turns S w w') (hn : ∀ g, B ≤ g → ¬ S g) : Lies E B w' v l := by
  obtain ⟨g, o, c, rfl, h1, h2, h3, h4, h5⟩ := h
  exact ⟨g, o, c, rfl, h1, h2, h3, Nat.lt_of_lt_of_le h4 ht.size, fun j u hu => (ht.cell (a := ⟨g, o + j, none⟩) h4 (hn g h3)).trans (h5 j u hu)⟩
/-- the block of v is not among what has turned -/
theorem Lies.turns' {B : Nat} {S : Nat → Prop} {w w' : World} {v : Value} {l : List α} (h : Lies E B w v l) (ht : Turns S w w') (hn : ∀ g, v.ownBlock = some g → ¬ S g) : Lies E B w' v l := by
  obtain ⟨g, o, c, rfl, h1, h2, h3, h4, h5⟩ := h
  exact ⟨g, o, c, rfl, h1, h2, h3, Nat.lt_of_lt_of_le h4 ht.size, fun j u hu => (ht.cell (a := ⟨g, o + j, none⟩) h4 (hn g rfl)).trans (h5 j u hu)⟩
theorem Lies.lt {B : Nat} {w : World} {v : Value} {l : List α} (h : Lies E B w v l) : ∀ g, v.ownBlock = some g → B ≤ g ∧ g < w.heap.size := by
  obtain ⟨g, o, c, rfl, h1, h2, h3, h4, h5⟩ := h
  intro g' hg'
  have : g = g' := by simpa [Value.ownBlock] using hg'
  subst this
  exact ⟨h3, h4⟩
theorem Lies.mono {B B' : Nat} {w : World} {v : Value} {l : List α} (h : Lies E B w v l) (hB : B' ≤ B) : Lies E B' w v l := by
  obtain ⟨g, o, c, rfl, h1, h2, h3, h4, h5⟩ := h
  exact ⟨g, o, c, rfl, h1, h2, Nat.le_trans hB h3, h4, h5⟩
theorem Owns.lies {T : TypeId} {w : World} {v : Value} {l : List α} (h : Owns E T w v l) (hl : l ≠ []) (B : Nat) (hB : ∀ g, v.ownBlock = some g → B ≤ g) : Lies E B w v l := by
  have hcs := @World.ownsRow.cells _ _ _ _ _ _ _ h
  rcases h.2 with ⟨_, h0⟩ | ⟨g, cap, cur, rfl, hb, hg, hc, hm, hs, ht⟩
  · exact absurd (List.length_eq_zero_iff.1 h0) hl
  · refine ⟨g, 0, cap, rfl, hc, hm, hB g rfl, (Array.getElem?_eq_some_iff.1 hg).1, fun j u hu => ?_⟩
    have := hcs (g := g) rfl j u hu
    rw [Nat.zero_add]
    rwa [show (⟨g, 0, none⟩ : Addr).add j = ⟨g, j, none⟩ by unfold Addr.add; split <;> simp_all] at this
/-- 'l[1:]' -/
theorem Lies.tail {B g o c : Nat} {w : World} {l : List α} {x : α} (h : Lies E B w (.slice (some ⟨g, o, none⟩) (x :: l).length c) (x :: l)) : Lies E B w (.slice (some ⟨g, o + E.n, none⟩) l.length (c - 1)) l := by
  obtain ⟨g', o', c', e, h1, h2, h3, h4, h5⟩ := h
  injection e with e1 _ e3
  injection e1 with e1
  injection e1 with e1 e2
  subst e1 e2 e3
  refine ⟨g, o + E.n, c - 1, rfl, by simp at h1; omega, by omega, h3, h4, fun j u hu => ?_⟩
  have := h5 (E.n + j) u (by rw [E.all_cons, List.getElem?_append_right (by rw [E.len]; omega), E.len]; rw [show E.n + j - E.n = j by omega]; exact hu)
  rwa [Nat.add_assoc]
theorem Lies.cell {B : Nat} {w : World} {v : Value} {l : List α} (h : Lies E B w v l) : ∃ g o c, v = .slice (some ⟨g, o, none⟩) l.length c ∧ l.length ≤ c ∧ c ≤ maxLen ∧ B ≤ g ∧ g < w.heap.size ∧ ∀ (k : Nat) (u : α), l[k]? = some u → ∀ (j : Nat) (x : Value), (E.cs u)[j]? = some x → w.cell? ⟨g, o + k * E.n + j, none⟩ = some x := by
  obtain ⟨g, o, c, e, h1, h2, h3, h4, h5⟩ := h
  refine ⟨g, o, c, e, h1, h2, h3, h4, fun k u hu j x hj => ?_⟩
  have := h5 (k * E.n + j) x (E.all_at l k u hu j x hj)
  rwa [← Nat.add_assoc] at this
/-- what stands behind '[]T{}' -/
theorem Lies.made (w : World) (T : TypeId) : Lies E w.heap.size (w.alloc (.cells #[] T)) (.slice (some ⟨w.heap.size, 0, none⟩) 0 0) [] :=
  ⟨w.heap.size, 0, 0, rfl, Nat.le_refl _, Nat.zero_le _, Nat.le_refl _, by simp, fun j u hu => by simp [Enc.all] at hu⟩

/-- append of the elements m, that lie somewhere, onto an owned row: a step of a list of operations -/
theorem wpList_append_lying {P : Program} {T RT : TypeId} {z : Value} {bytes : Nat} (hu : P.underlying RT = some (.slice T)) (hi : (P.info? T).map (fun i => (i.zero, i.size, i.bytes)) = some (some z, E.n, bytes)) (hz : z.cells.size = E.n) (h0 : 0 < E.n) (hb : bytes ≤ 4096)
    {ops : Array Oper} {rest : List Oper} {o : Oper} {a : Act} {Q : Exit → Act → World → Prop} {W : World} (hgd : o.guard = none) (sl x : Operand)
    (ho : o.op = .call { callee := .builtin .append, args := #[sl, x], argTypes := #[RT, RT] }) (v : Value) (l m : List α) (hs : a.eval sl = v) (hr : Owns E T W v l) (vm : Value) (hx : a.eval x = vm) (B : Nat) (hm : Lies E B W vm m) (h63 : l.length + m.length ≤ 1048576)
    (h : ∀ v' w', Owns E T w' v' (l ++ m) → W.grownBy w' v.ownBlock → (v'.ownBlock = v.ownBlock ∨ v'.ownBlock = some W.heap.size) → wpList P ops Q rest (a.put o.dst v') w') : wpList P ops Q (o :: rest) a W := by
  refine wpList_plain hgd fun K hK => ?_
  obtain ⟨g, of, c, rfl, _, _, _, _, hcell⟩ := hm
  obtain ⟨i0, hi', hz0, hz1, hz2⟩ := infoOf hi
  have hby : (l.length + m.length) * bytes ≤ 1048576 * 4096 := Nat.mul_le_mul h63 hb
  obtain ⟨v', w', hrun, h2, h3, _, h5⟩ := run_append_own_at (P := P) W 0 RT o.type T i0 _ E.n bytes hu hi' hz0 hz1 hz2 hz h0 v l.length (E.all l) hr ⟨g, of, none⟩ m.length c (E.all m) (E.all_length m)
    (fun j u hj => by have := hcell j u hj; rwa [show (⟨g, of, none⟩ : Addr).add j = ⟨g, of + j, none⟩ by unfold Addr.add; split <;> simp_all])
    (E.all_cell m) (by unfold maxLen; omega) (by omega) (Nat.zero_le _)
  unfold Oper.wp execOp
  simp only [ho, resolve, invoke, builtin, Sem.run_bind, Sem.run_pure, Result.andThen_ok, List.map_toArray, List.map_cons, List.map_nil, hs, hx, hrun]
  refine hK _ _ (h v' w' ?_ h3 h5)
  unfold Owns
  rw [E.all_append, List.length_append]
  exact h2
end
end Go.Proofs.Ytcppibjllaablaa.mem

/-
  A slice of antiphonlaw20.Act that came in.
-/
namespace Go.Proofs.Ytcppibjllaablaa.args
open Go.ChangeShapes Go.WideShapes Go.ChangeAt Go.RowKit Go.Deep

def eactOk (z : Int × Int × Int × Bool × Bool) : Prop := (Lit.int .i64 z.1).wf = true ∧ (Lit.int .i64 z.2.1).wf = true ∧ (Lit.int .i64 z.2.2.1).wf = true ∧ True ∧ True
/-- n elements z 0, z 1, .. -/
def eactRow (w : World) (a : Option Addr) (n c : Nat) (z : Nat → Int × Int × Int × Bool × Bool) : Prop :=
  n ≤ maxLen ∧ (∀ i, i < n → eactOk (z i)) ∧ (n = 0 ∨ ∃ b off, a = some ⟨b, off, none⟩ ∧ b < w.heap.size ∧ ∀ i, i < n → w.cell? ⟨b, off + i * 5, none⟩ = some (.int .i64 (z i).1) ∧ w.cell? ⟨b, off + i * 5 + 1, none⟩ = some (.int .i64 (z i).2.1) ∧ w.cell? ⟨b, off + i * 5 + 2, none⟩ = some (.int .i64 (z i).2.2.1) ∧ w.cell? ⟨b, off + i * 5 + 3, none⟩ = some (.bool (z i).2.2.2.1) ∧ w.cell? ⟨b, off + i * 5 + 4, none⟩ = some (.bool (z i).2.2.2.2))

theorem open_rows_eact {H : Type} {enc : TypeId × Value → H} {w : World} {a : Option Addr} {n c : Nat} {d : DataW H} {ps : List MemPlace}
    (h : DataW.Trod enc Try.prog w 0 (fun _ => true) true 58 (.slice a n c) d ps) : ∃ z, eactRow w a n c z := by
  have lt : ∀ x ∈ ps, x.block < w.heap.size := by obtain ⟨m, hm⟩ := h; exact DataW.trod_lt m _ _ _ hm
  obtain ⟨fuel, hf⟩ := h
  have hC : Try.prog.cellsOf 77 = 5 := by kernel_rfl
  rcases open_slice Try.underlying58 hf with ⟨hcs, _⟩ | ⟨a, len, cap, m, fu, Dd, Pl, hcs, _, hl, hm, hmm, hx, hel⟩
  · simp [Value.cells] at hcs
    obtain ⟨rfl, rfl, rfl⟩ := hcs
    exact ⟨fun _ => (0, 0, 0, false, false), by simp, fun i hi => by omega, .inl rfl⟩
  · simp [Value.cells] at hcs
    obtain ⟨rfl, rfl, rfl⟩ := hcs
    simp only [if_true] at hmm
    have each : ∀ i, i < m → ∃ z : Int × Int × Int × Bool × Bool, eactOk z ∧ w.cell? (a.add (i * 5 + 0)) = some (.int .i64 z.1) ∧ w.cell? (a.add (i * 5 + 1)) = some (.int .i64 z.2.1) ∧ w.cell? (a.add (i * 5 + 2)) = some (.int .i64 z.2.2.1) ∧ w.cell? (a.add (i * 5 + 3)) = some (.bool z.2.2.2.1) ∧ w.cell? (a.add (i * 5 + 4)) = some (.bool z.2.2.2.2) := by
      intro i hi
      obtain ⟨cs', h1, h2⟩ := hel i hi
      rw [hC] at h1
      obtain ⟨_, hlen, hcell⟩ := World.cells?_some h1
      have cellOf : ∀ (j : Nat) (v : Value), cs'[j]? = some v → w.cell? (a.add (i * 5 + j)) = some v := fun j v hj => by
        have hlt : j < 5 := by have := (List.getElem?_eq_some_iff.1 hj).1; omega
        rw [← add_add, hcell j hlt]; exact hj
      obtain ⟨x0, hx0, hw0⟩ := field_int Try.underlying77 h2 0 _ rfl 0 rfl (by kernel_rfl) Try.underlying3
      obtain ⟨x1, hx1, hw1⟩ := field_int Try.underlying77 h2 1 _ rfl 1 rfl (by kernel_rfl) Try.underlying3
      obtain ⟨x2, hx2, hw2⟩ := field_int Try.underlying77 h2 2 _ rfl 2 rfl (by kernel_rfl) Try.underlying3
      obtain ⟨x3, hx3, hw3⟩ := field_bool Try.underlying77 h2 3 _ rfl 3 rfl (by kernel_rfl) Try.underlying4
      obtain ⟨x4, hx4, hw4⟩ := field_bool Try.underlying77 h2 4 _ rfl 4 rfl (by kernel_rfl) Try.underlying4
      exact ⟨(x0, x1, x2, x3, x4), ⟨hw0, hw1, hw2, hw3, hw4⟩, cellOf 0 _ hx0, cellOf 1 _ hx1, cellOf 2 _ hx2, cellOf 3 _ hx3, cellOf 4 _ hx4⟩
    obtain ⟨z, hz⟩ := choose_lt each
    refine ⟨z, by omega, fun i hi => (hz i (by omega)).1, ?_⟩
    by_cases h0 : n = 0
    · exact .inl h0
    · right
      obtain ⟨b, off, spot⟩ := a
      have hspot : spot = none := by have := (hz 0 (by omega)).2.1; simpa [Addr.add] using World.cell?_spot this
      subst hspot
      simp only [Prod.mk.injEq] at hx
      have hb : b < w.heap.size := lt (.cell b off) (by rw [hx.2]; exact List.mem_append_left _ (MemPlace.mem_row.2 ⟨0, by rw [hC]; omega, by simp⟩))
      refine ⟨b, off, rfl, hb, fun i hi => ?_⟩
      have := (hz i (by omega)).2
      simp only [add_plain] at this
      exact this
end Go.Proofs.Ytcppibjllaablaa.args

/-
  drr.Sched in memory; New, Add, Remove, Left, Take, grant.
-/
namespace Go.Proofs.Ytcppibjllaablaa.drr
open Go.RowKit mem Go.Maps
set_option linter.unusedVariables false

abbrev SB : TypeId := 111
abbrev FB : TypeId := 115
abbrev MT : TypeId := 109
abbrev New (w w' : World) : Prop := Turns (fun _ => False) w w'
theorem lawI : Keyed Try.prog 3 := int_keyed Try.underlying3
theorem keyI {n : Int} (n0 : -9223372036854775808 ≤ n) (n1 : n ≤ 9223372036854775807) : keyOf Try.prog 3 (.int .i64 n) = some (.int .i64 n) :=
  keyOf_int_mk Try.underlying3 (by simp [Lit.wf, IntKind.min, IntKind.max, IntKind.bits, IntKind.signed]; omega)
theorem zeroP (w : World) : (zeroValue 112).run Try.prog w = .ok (.pointer none) w := by kernel_rfl

/-- a pointer to a block, as a number -/
def ptrE (v : Value) : Option (DataW Unit × List MemPlace) :=
  match v with
  | .pointer (some ⟨g, 0, none⟩) => some (.lit (.int .i64 (g : Int)), [])
  | .pointer none => some (.lit (.int .i64 (-1)), [])
  | _ => none
theorem ptrE_inv {v : Value} {g : Nat} {ps : List MemPlace} (h : ptrE v = some (.lit (.int .i64 (g : Int)), ps)) : v = .pointer (some ⟨g, 0, none⟩) := by
  unfold ptrE at h
  split at h
  · injection h with h
    injection h with h _
    injection h with h
    injection h with _ h
    have : (_ : Nat) = g := Int.ofNat.inj h
    rw [this]
  · injection h with h
    injection h with h _
    injection h with h
    injection h with _ h
    omega
  · cases h
theorem ptrE_nil {v : Value} {ps : List MemPlace} (h : ptrE v = some (.lit (.int .i64 (-1)), ps)) : v = .pointer none := by
  unfold ptrE at h
  split at h
  · injection h with h
    injection h with h _
    injection h with h
    injection h with _ h
    omega
  · rfl
  · cases h
theorem ptrE_shape {v : Value} {y : DataW Unit × List MemPlace} (h : ptrE v = some y) : ∃ g : Option Nat, v = .pointer (g.map (fun g => ⟨g, 0, none⟩)) := by
  unfold ptrE at h
  split at h
  · exact ⟨some _, rfl⟩
  · exact ⟨none, rfl⟩
  · cases h

section
variable {w : World} {mb c : Nat} {D : DataW Unit} {id : Int}
theorem look_at (h : w.ownsMap Try.prog 3 ptrE mb c D) (n0 : -9223372036854775808 ≤ id) (n1 : id ≤ 9223372036854775807) {b : Nat} (hb : ∀ z, D.atKey (.int .i64 id) z = .lit (.int .i64 b)) :
    (Instr.lookup MT (.map (some mb)) (.int .i64 id) false).run Try.prog w = .ok (.pointer (some ⟨b, 0, none⟩)) w := by
  obtain ⟨v, ps, hrun, hv⟩ := h.lookup lawI Try.underlying109 (zeroP w) (zd := .lit (.int .i64 (-1))) (zp := []) rfl (keyI n0 n1)
  rw [hb] at hv
  rw [ptrE_inv hv] at hrun
  exact hrun
theorem look_ok_at (h : w.ownsMap Try.prog 3 ptrE mb c D) (n0 : -9223372036854775808 ≤ id) (n1 : id ≤ 9223372036854775807) {b : Nat} (hb : ∀ z, D.atKey (.int .i64 id) z = .lit (.int .i64 b)) :
    (Instr.lookup MT (.map (some mb)) (.int .i64 id) true).run Try.prog w = .ok (.tuple #[.pointer (some ⟨b, 0, none⟩), .bool true]) w := by
  obtain ⟨v, ps, hrun, hv⟩ := h.look_ok lawI Try.underlying109 (zeroP w) (zd := .lit (.int .i64 (-1))) (zp := []) rfl (keyI n0 n1)
  rw [hb] at hv
  rw [ptrE_inv hv, has_true_of_atKey hb] at hrun
  exact hrun
theorem look_ok_none (h : w.ownsMap Try.prog 3 ptrE mb c D) (n0 : -9223372036854775808 ≤ id) (n1 : id ≤ 9223372036854775807) (hb : has D (.int .i64 id) = false) :
    (Instr.lookup MT (.map (some mb)) (.int .i64 id) true).run Try.prog w = .ok (.tuple #[.pointer none, .bool false]) w := by
  obtain ⟨v, ps, hrun, hv⟩ := h.look_ok lawI Try.underlying109 (zeroP w) (zd := .lit (.int .i64 (-1))) (zp := []) rfl (keyI n0 n1)
  rw [atKey_of_not_has hb] at hv
  rw [ptrE_nil hv, hb] at hrun
  exact hrun
end

abbrev cells (s : Sc) (mb : Nat) : Array Value := #[.int .i64 s.most, .map (some mb), .int .i64 s.turn, .bool s.g]
abbrev fcells (f : Fl) : Array Value := #[.int .i64 f.share, .int .i64 f.left]
/-- a schedule in block p, its map in mb -/
structure Ss (w : World) (p mb c : Nat) (D : DataW Unit) (s : Sc) : Prop where
  blk : Blk w p (cells s mb) SB
  map : w.ownsMap Try.prog 3 ptrE mb c D
  rd1 : ∀ id, has D (.int .i64 id) = (fnd s.L id).isSome
  rd2 : ∀ f ∈ s.L, ∀ z, D.atKey (.int .i64 f.id) z = .lit (.int .i64 (f.b : Int))
  fb : ∀ f ∈ s.L, Blk w f.b (fcells f) FB
  ap : Ap s.L
  pf : ∀ f ∈ s.L, f.b ≠ p
  rg : ∀ f ∈ s.L, -9223372036854775808 ≤ f.id ∧ f.id ≤ 9223372036854775807
  tr : -9223372036854775808 ≤ s.turn ∧ s.turn ≤ 9223372036854775807
  ok : s.ok
/-- what a call may turn -/
def Foot (p mb : Nat) (s : Sc) (k : Nat) : Prop := k = p ∨ k = mb ∨ ∃ f ∈ s.L, f.b = k
section
variable {w w' : World} {p mb c : Nat} {D : DataW Unit} {s : Sc} (h : Ss w p mb c D s)
include h
theorem Ss.lt : p < w.heap.size := h.blk.lt
theorem Ss.mlt : mb < w.heap.size := h.map.lt
theorem Ss.flt : ∀ f ∈ s.L, f.b < w.heap.size := fun f hf => (h.fb f hf).lt
theorem Ss.mp : mb ≠ p := ownsMap_ne h.map h.blk
theorem Ss.mf : ∀ f ∈ s.L, mb ≠ f.b := fun f hf => ownsMap_ne h.map (h.fb f hf)
theorem Ss.turns {S : Nat → Prop} (t : Turns S w w') (hp : ¬ S p) (hm : ¬ S mb) (hf : ∀ f ∈ s.L, ¬ S f.b) : Ss w' p mb c D s :=
  ⟨t.blk h.blk hp, ownsMap_turns h.map t hm, h.rd1, h.rd2, fun f hf' => t.blk (h.fb f hf') (hf f hf'), h.ap, h.pf, h.rg, h.tr, h.ok⟩
theorem Ss.later (t : New w w') : Ss w' p mb c D s := h.turns t (fun h => h) (fun h => h) (fun _ _ h => h)
theorem Ss.drewN (n : Nat) : Ss (w.drewN n) p mb c D s := ⟨h.blk, h.map, h.rd1, h.rd2, h.fb, h.ap, h.pf, h.rg, h.tr, h.ok⟩
theorem Ss.foot : ∀ k, Foot p mb s k → k < w.heap.size := fun k hk => by
  rcases hk with e | e | ⟨f, hf, e⟩
  · rw [e]; exact h.lt
  · rw [e]; exact h.mlt
  · rw [← e]; exact h.flt f hf
end
theorem two {w : World} {p : Nat} {a b : Value} {T : TypeId} (h : Blk w p #[a, b] T) :
    (w.cell? ⟨p, 0, none⟩ = some a ∧ w.cell? ⟨p, 1, none⟩ = some b) ∧ w.frozen? ⟨p, 0, none⟩ = false ∧ w.frozen? ⟨p, 1, none⟩ = false := ⟨⟨h.cell 0, h.cell 1⟩, h.free 0, h.free 1⟩
theorem four {w : World} {p : Nat} {a b c d : Value} {T : TypeId} (h : Blk w p #[a, b, c, d] T) :
    (w.cell? ⟨p, 0, none⟩ = some a ∧ w.cell? ⟨p, 1, none⟩ = some b ∧ w.cell? ⟨p, 2, none⟩ = some c ∧ w.cell? ⟨p, 3, none⟩ = some d) ∧ w.frozen? ⟨p, 0, none⟩ = false ∧ w.frozen? ⟨p, 1, none⟩ = false ∧ w.frozen? ⟨p, 2, none⟩ = false ∧ w.frozen? ⟨p, 3, none⟩ = false :=
  ⟨⟨h.cell 0, h.cell 1, h.cell 2, h.cell 3⟩, h.free 0, h.free 1, h.free 2, h.free 3⟩
/-- turn and granted anew -/
theorem Ss.turn {w : World} {p mb c : Nat} {D : DataW Unit} {s : Sc} (h : Ss w p mb c D s) {w' : World} (t' : Int) (g' : Bool) (hb : Blk w' p (cells ⟨s.most, s.L, t', g'⟩ mb) SB) (ht : Turns (· = p) w w') (h0 : -9223372036854775808 ≤ t' ∧ t' ≤ 9223372036854775807) (hok : Sc.ok ⟨s.most, s.L, t', g'⟩) : Ss w' p mb c D ⟨s.most, s.L, t', g'⟩ :=
  ⟨hb, ownsMap_turns h.map ht h.mp, h.rd1, h.rd2, fun f hf => ht.blk (h.fb f hf) (h.pf f hf), h.ap, h.pf, h.rg, h0, hok⟩
/-- one flow's balance anew -/
theorem Ss.left {w : World} {p mb c : Nat} {D : DataW Unit} {s : Sc} (h : Ss w p mb c D s) {f : Fl} (hf : f ∈ s.L) (x : Int) (hok : Sc.ok ⟨s.most, upd s.L (fun g => if g.id = f.id then x else g.left), s.turn, s.g⟩) :
    Ss (w.setCell ⟨f.b, 1, none⟩ (.int .i64 x)) p mb c D ⟨s.most, upd s.L (fun g => if g.id = f.id then x else g.left), s.turn, s.g⟩ ∧ Turns (· = f.b) w (w.setCell ⟨f.b, 1, none⟩ (.int .i64 x)) := by
  have t : Turns (· = f.b) w (w.setCell ⟨f.b, 1, none⟩ (.int .i64 x)) := Turns.setCell (S := (· = f.b)) (Turns.refl _ w) (p := ⟨f.b, 1, none⟩) (.inl rfl) _
  refine ⟨⟨t.blk h.blk (fun e => h.pf f hf e.symm), ownsMap_turns h.map t (h.mf f hf), fun id => ?_, fun g hg => ?_, fun g hg => ?_, h.ap.upd _, fun g hg => ?_, fun g hg => ?_, h.tr, hok⟩, t⟩
  · rw [h.rd1 id]
    show _ = (fnd (upd s.L _) id).isSome
    rw [fnd_upd]
    cases fnd s.L id <;> rfl
  · obtain ⟨f', hf', rfl⟩ := upd_mem hg
    exact h.rd2 f' hf'
  · obtain ⟨f', hf', rfl⟩ := upd_mem hg
    show Blk _ f'.b #[.int .i64 f'.share, .int .i64 (if f'.id = f.id then x else f'.left)] FB
    by_cases e : f'.id = f.id
    · have e2 := h.ap.eq hf' hf (.inl e)
      subst e2
      rw [if_pos rfl]
      exact (h.fb f' hf').set 1 _
    · rw [if_neg e]
      have hne : f.b ≠ f'.b := fun e2 => e (by rw [h.ap.eq hf hf' (.inr e2)])
      exact (h.fb f' hf').setOther hne _
  · obtain ⟨f', hf', rfl⟩ := upd_mem hg
    exact h.pf f' hf'
  · obtain ⟨f', hf', rfl⟩ := upd_mem hg
    exact h.rg f' hf'

theorem new_bad (m : Int) (w : World) (h : ¬ (1 ≤ m ∧ m ≤ 16777216)) :
    Calls Try.prog 18 #[.int .i64 m] w fun e w' => e = .returned (.tuple #[.pointer none, .int .i64 5]) ∧ w' = w := by
  go_enter Try.func18, Try.ntmps18
  by_cases h1 : m < 1
  · have d1 : decide (m < 1) = true := decide_eq_true h1
    go_wp2
    go_ret2
    exact ⟨rfl, rfl⟩
  · have d1 : decide (m < 1) = false := decide_eq_false h1
    have d2 : decide (16777216 < m) = true := decide_eq_true (by omega)
    go_wp2
    go_ret2
    exact ⟨rfl, rfl⟩
def fresh (m : Int) : Sc := ⟨m, [], 0, false⟩
theorem fresh_ok (m : Int) (m0 : 1 ≤ m) (m1 : m ≤ 16777216) : (fresh m).ok := ⟨m0, m1, (fun f hf => by cases hf), (fun e => by cases e)⟩
theorem new_ok (m : Int) (w : World) (m0 : 1 ≤ m) (m1 : m ≤ 16777216) :
    Calls Try.prog 18 #[.int .i64 m] w fun e w' => ∃ p, e = .returned (.tuple #[.pointer (some ⟨p, 0, none⟩), .int .i64 0]) ∧ Ss w' p w.heap.size 0 (.map []) (fresh m) ∧ New w w' ∧ w.heap.size ≤ p := by
  have hmm := @run_makeMap Try.prog
  have d1 : decide (m < 1) = false := decide_eq_false (by omega)
  have d2 : decide (16777216 < m) = false := decide_eq_false (by omega)
  have hok := fresh_ok m m0 m1
  clear m0 m1
  go_enter Try.func18, Try.ntmps18
  go_wp2
  go_ret2
  have e1 : (w.alloc (.map #[] 0)).heap.size = w.heap.size + 1 := by unfold World.alloc; exact Array.size_push _
  have hb := Blk.new (w.alloc (.map #[] 0)) (cells (fresh m) w.heap.size) SB
  rw [e1] at hb
  refine ⟨_, rfl, ⟨hb, (World.ownsMap_made _ _ _ _).alloc _, (fun id => rfl), (fun f hf => by cases hf), (fun f hf => by cases hf), List.Pairwise.nil, (fun f hf => by cases hf), (fun f hf => by cases hf), ⟨by show -9223372036854775808 ≤ (0 : Int); omega, by show (0 : Int) ≤ _; omega⟩, hok⟩, ((Turns.refl _ _).alloc _).alloc _, by omega⟩

end Go.Proofs.Ytcppibjllaablaa.drr

/-
  A row of the call's own that grows: what stays. No program.
-/
namespace Go.Proofs.Ytcppibjllaablaa.mem
open Go.RowKit
set_option linter.unusedVariables false

/-- a row that the call owns, in blocks made since w; nothing that was there has turned -/
structure Gr {α : Type} (E : Enc α) (T : TypeId) (w wr : World) (v : Value) (L : List α) : Prop where
  own : Owns E T wr v L
  vb : ∀ g, v.ownBlock = some g → w.heap.size ≤ g
  n : Turns (fun _ => False) w wr
section
variable {α : Type} {E : Enc α} {T : TypeId} {w w1 w2 : World} {v v' : Value} {L : List α}
theorem Gr.nil (E : Enc α) (T : TypeId) (w wr : World) (n : Turns (fun _ => False) w wr) : Gr E T w wr (.slice none 0 0) [] := ⟨Owns.nil _ _, (fun g hg => by simp [Value.ownBlock] at hg), n⟩
theorem Gr.later (h : Gr E T w w1 v L) (n : Turns (fun _ => False) w1 w2) : Gr E T w w2 v L :=
  ⟨h.own.turns n (fun _ _ h => h), h.vb, h.n.trans (n.mono (fun _ _ h => h.elim))⟩
/-- turned: the row's own block alone -/
theorem Gr.turned {o : Obj} (hg : (w1.alloc o).grownBy w2 v.ownBlock) : Turns (fun k => some k = v.ownBlock) w1 w2 := ((Turns.refl _ _).alloc _).trans ((Turns.of_grown hg).mono (fun k _ hk => .inl hk))
theorem Gr.push {l : List α} {o : Obj} (h : Gr E T w w1 v L) (ho : Owns E T w2 v' (L ++ l)) (hg : (w1.alloc o).grownBy w2 v.ownBlock) (ha : v'.ownBlock = v.ownBlock ∨ v'.ownBlock = some (w1.alloc o).heap.size) : Gr E T w w2 v' (L ++ l) := by
  refine ⟨ho, ?_, h.n.trans ((Gr.turned hg).mono (fun k _ hk => .inr (h.vb k hk.symm)))⟩
  intro g hg
  rcases ha with e | e
  · exact h.vb g (by rw [← e]; exact hg)
  · rw [e] at hg; injection hg with hg; have := h.n.size; simp at hg; omega
end
end Go.Proofs.Ytcppibjllaablaa.mem

/-
  drr.Sched: Take, grant, Add, Remove.
-/
namespace Go.Proofs.Ytcppibjllaablaa.drr
open Go.RowKit mem Go.Maps
set_option linter.unusedVariables false

theorem Ss.drew {w : World} {p mb c : Nat} {D : DataW Unit} {s : Sc} (h : Ss w p mb c D s) : Ss w.drew p mb c D s := ⟨h.blk, h.map, h.rd1, h.rd2, h.fb, h.ap, h.pf, h.rg, h.tr, h.ok⟩
theorem Sc.ok.take {s : Sc} (h : s.ok) (ap : Ap s.L) (n : Int) : (takeS n s).ok := by
  unfold takeS
  split
  next hc =>
    obtain ⟨hg, h0, hn⟩ := hc
    refine ⟨h.m0, h.m1, fun g hgm => ?_, fun _ => ?_⟩
    · obtain ⟨f, hf, rfl⟩ := upd_mem hgm
      obtain ⟨h1, h2, h3, h4, h5⟩ := h.f f hf
      have hl : f.id = s.turn → leftOf s s.turn = f.left := fun e => by unfold leftOf; rw [← e, ap.fnd hf]
      refine ⟨h1, h2, ?_, ?_, fun e => ?_⟩
      · show 0 ≤ (if f.id = s.turn then f.left - n else f.left)
        split
        next e => have := hl e; omega
        next => exact h3
      · show (if f.id = s.turn then f.left - n else f.left) < s.most + f.share
        split <;> omega
      · show (if f.id = s.turn then f.left - n else f.left) < s.most
        rcases e with e | e
        · rw [if_neg e]; exact h5 (.inl e)
        · rw [show s.g = false from e] at hg; cases hg
    · obtain ⟨f, hf, e⟩ := h.t hg
      exact ⟨_, upd_mem' hf, e⟩
  next => exact h

abbrev Lf (w w' : World) (p mb c : Nat) (D : DataW Unit) (s s' : Sc) : Prop := Ss w' p mb c D s' ∧ Turns (Foot p mb s) w w'

set_option maxRecDepth 10000 in
theorem take_no (p mb c : Nat) (D : DataW Unit) (s : Sc) (n : Int) (w : World) (h : Ss w p mb c D s) (hn : s.g = false ∨ n < 0) :
    Calls Try.prog 22 #[.pointer (some ⟨p, 0, none⟩), .int .i64 n] w fun e w' => e = .returned (.tuple #[]) ∧ Lf w w' p mb c D s (takeS n s) := by
  have e : takeS n s = s := by
    unfold takeS
    rw [if_neg]
    rintro ⟨h1, h2, _⟩
    rcases hn with e | e
    · rw [e] at h1; cases h1
    · omega
  rw [e]
  have HH := Lib.hid h
  obtain ⟨⟨c0, c1, c2, c3⟩, _⟩ := four h.blk
  clear h e
  go_enter Try.func22, Try.ntmps22
  by_cases hg : s.g = false
  · rw [hg] at c3
    go_wp2
    refine bodyPost_ret (results_none rfl _ _ _) rfl ?_
    exact ⟨rfl, HH.out, Turns.refl _ _⟩
  · have hg' : s.g = true := by simpa using hg
    rw [hg'] at c3
    have d1 : decide (n < 0) = true := decide_eq_true (hn.resolve_left hg)
    go_wp2
    refine bodyPost_ret (results_none rfl _ _ _) rfl ?_
    exact ⟨rfl, HH.out, Turns.refl _ _⟩
set_option maxRecDepth 10000 in
theorem take_go (p mb c : Nat) (D : DataW Unit) (s : Sc) (n : Int) (w : World) (h : Ss w p mb c D s) (hg : s.g = true) (hn : 0 ≤ n) (hn' : n ≤ 9223372036854775807) :
    Calls Try.prog 22 #[.pointer (some ⟨p, 0, none⟩), .int .i64 n] w fun e w' => e = .returned (.tuple #[]) ∧ Lf w w' p mb c D s (takeS n s) := by
  obtain ⟨f, hf, hid⟩ := h.ok.t hg
  obtain ⟨h1, h2, h3, h4, h5⟩ := h.ok.f f hf
  have hm1 := h.ok.m1
  have hlo : leftOf s s.turn = f.left := by unfold leftOf; rw [← hid, h.ap.fnd hf]
  have hr0 := look_at h.map (h.rg f hf).1 (h.rg f hf).2 (h.rd2 f hf)
  have hr1 := look_at h.drew.map (h.rg f hf).1 (h.rg f hf).2 (h.rd2 f hf)
  rw [hid] at hr0 hr1
  obtain ⟨⟨c0, c1, c2, c3⟩, _⟩ := four h.blk
  obtain ⟨⟨f0, f1⟩, f2, f3⟩ := two (h.fb f hf)
  rw [hg] at c3
  have d1 : decide (n < 0) = false := decide_eq_false (by omega)
  have HH := Lib.hid h
  by_cases hle : n ≤ f.left
  · have e : takeS n s = ⟨s.most, upd s.L (fun g => if g.id = f.id then f.left - n else g.left), s.turn, s.g⟩ := by
      unfold takeS
      rw [if_pos ⟨hg, hn, by rw [hlo]; exact hle⟩]
      congr 1
      refine upd_congr (fun g hgm => ?_)
      rw [hid]
      split
      next e => rw [h.ap.eq hgm hf (.inl (by rw [e, hid]))]
      next => rfl
    have hok := h.ok.take h.ap n
    rw [e] at hok ⊢
    have HL := Lib.hid (fun w1 (hw : Ss w1 p mb c D s) => hw.left hf (f.left - n) hok)
    have HF := Lib.hid hf
    have d2 : decide (n ≤ f.left) = true := decide_eq_true hle
    have hw : IntKind.i64.wrap (f.left - n) = f.left - n := IntWalk.i64_in _ (by omega)
    clear h hok e hle hlo
    go_enter Try.func22, Try.ntmps22
    go_upto_region 1 with fail
    go_region
    go_wp2
    go_end0
    have HZ := HL.out _ (HH.out.drew)
    exact ⟨rfl, HZ.1, (Turns.refl _ w).drew.trans (HZ.2.mono (fun i _ hi => .inl (.inr (.inr ⟨f, HF.out, hi.symm⟩))))⟩
  · have e : takeS n s = s := by
      unfold takeS
      rw [if_neg]
      rintro ⟨_, _, h3⟩
      rw [hlo] at h3
      exact hle h3
    rw [e]
    have d2 : decide (n ≤ f.left) = false := decide_eq_false hle
    clear h e hle hlo
    go_enter Try.func22, Try.ntmps22
    go_upto_region 1 with fail
    go_region
    go_wp2
    go_end0
    exact ⟨rfl, HH.out.drew, (Turns.refl _ _).drew⟩
theorem take (p mb c : Nat) (D : DataW Unit) (s : Sc) (n : Int) (w : World) (h : Ss w p mb c D s) (hn' : n ≤ 9223372036854775807) :
    Calls Try.prog 22 #[.pointer (some ⟨p, 0, none⟩), .int .i64 n] w fun e w' => e = .returned (.tuple #[]) ∧ Lf w w' p mb c D s (takeS n s) := by
  by_cases hg : s.g = false
  · exact take_no p mb c D s n w h (.inl hg)
  · by_cases h0 : n < 0
    · exact take_no p mb c D s n w h (.inr h0)
    · exact take_go p mb c D s n w h (by simpa using hg) (by omega) hn'

set_option maxRecDepth 10000 in
theorem grant_yes (p mb c : Nat) (D : DataW Unit) (s : Sc) (w : World) (h : Ss w p mb c D s) (hg : s.g = true) :
    Calls Try.prog 50 #[.pointer (some ⟨p, 0, none⟩)] w fun e w' => e = .returned (.int .i64 (leftOf (grantS s) s.turn)) ∧ Lf w w' p mb c D s (grantS s) := by
  obtain ⟨f, hf, hid⟩ := h.ok.t hg
  have e : grantS s = s := by unfold grantS; rw [hg]; rfl
  rw [e]
  have hlo : leftOf s s.turn = f.left := by unfold leftOf; rw [← hid, h.ap.fnd hf]
  have hr0 := look_at h.map (h.rg f hf).1 (h.rg f hf).2 (h.rd2 f hf)
  have hr1 := look_at h.drew.map (h.rg f hf).1 (h.rg f hf).2 (h.rd2 f hf)
  rw [hid] at hr0 hr1
  rw [hlo]
  obtain ⟨⟨c0, c1, c2, c3⟩, _⟩ := four h.blk
  obtain ⟨⟨f0, f1⟩, f2, f3⟩ := two (h.fb f hf)
  rw [hg] at c3
  have HH := Lib.hid h
  clear h hlo e
  go_enter Try.func50, Try.ntmps50
  go_upto_region 1 with fail
  go_region
  go_wp2
  go_ret
  exact ⟨rfl, HH.out.drew, (Turns.refl _ _).drew⟩
set_option maxRecDepth 10000 in
set_option maxHeartbeats 1000000 in
theorem grant_no (p mb c : Nat) (D : DataW Unit) (s : Sc) (f : Fl) (w : World) (h : Ss w p mb c D s) (hg : s.g = false) (hf : f ∈ s.L) (hid : f.id = s.turn) :
    Calls Try.prog 50 #[.pointer (some ⟨p, 0, none⟩)] w fun e w' => e = .returned (.int .i64 (leftOf (grantS s) s.turn)) ∧ Lf w w' p mb c D s (grantS s) := by
  obtain ⟨h1, h2, h3, h4, h5⟩ := h.ok.f f hf
  have hm1 := h.ok.m1
  have e : grantS s = ⟨s.most, upd s.L (fun g => if g.id = f.id then f.left + f.share else g.left), s.turn, true⟩ := by
    unfold grantS
    rw [hg]
    simp only [Bool.false_eq_true, if_false]
    congr 1
    refine upd_congr (fun g hgm => ?_)
    rw [hid]
    split
    next e => rw [h.ap.eq hgm hf (.inl (by rw [e, hid]))]
    next => rfl
  have hlo : leftOf (grantS s) s.turn = f.left + f.share := by
    unfold leftOf
    rw [e]
    show (match fnd (upd s.L _) s.turn with | some f => f.left | none => 0) = _
    rw [fnd_upd, ← hid, h.ap.fnd hf]
    simp
  have hok := h.ok.grant ⟨f, hf, hid⟩
  rw [hlo]
  rw [e] at hok ⊢
  have hok0 : Sc.ok ⟨s.most, upd s.L (fun g => if g.id = f.id then f.left + f.share else g.left), s.turn, true⟩ := hok
  have hr0 := look_at h.map (h.rg f hf).1 (h.rg f hf).2 (h.rd2 f hf)
  have hr1 := look_at h.drew.map (h.rg f hf).1 (h.rg f hf).2 (h.rd2 f hf)
  rw [hid] at hr0 hr1
  obtain ⟨⟨c0, c1, c2, c3⟩, k0, k1, k2, k3⟩ := four h.blk
  obtain ⟨⟨f0, f1⟩, f2, f3⟩ := two (h.fb f hf)
  rw [hg] at c3
  have HH := Lib.hid h
  have HF := Lib.hid hf
  have hne := h.pf f hf
  have hw : IntKind.i64.wrap (f.left + f.share) = f.left + f.share := IntWalk.i64_in _ (by omega)
  have HE : Hid (∀ w1, Ss w1 p mb c D s → Blk (w1.setCell ⟨f.b, 1, none⟩ (.int .i64 (f.left + f.share))) p (cells s mb) SB → Ss ((w1.setCell ⟨f.b, 1, none⟩ (.int .i64 (f.left + f.share))).setCell ⟨p, 3, none⟩ (.bool true)) p mb c D ⟨s.most, upd s.L (fun g => if g.id = f.id then f.left + f.share else g.left), s.turn, true⟩ ∧ Turns (Foot p mb s) w1 ((w1.setCell ⟨f.b, 1, none⟩ (.int .i64 (f.left + f.share))).setCell ⟨p, 3, none⟩ (.bool true))) := Lib.hid (by
    intro w1 hw1 hb1
    have t1 : Turns (· = f.b) w1 (w1.setCell ⟨f.b, 1, none⟩ (.int .i64 (f.left + f.share))) := Turns.setCell (S := (· = f.b)) (Turns.refl _ w1) (p := ⟨f.b, 1, none⟩) (.inl rfl) _
    have t2 : Turns (· = p) (w1.setCell ⟨f.b, 1, none⟩ (.int .i64 (f.left + f.share))) ((w1.setCell ⟨f.b, 1, none⟩ (.int .i64 (f.left + f.share))).setCell ⟨p, 3, none⟩ (.bool true)) := Turns.setCell (S := (· = p)) (Turns.refl _ _) (p := ⟨p, 3, none⟩) (.inl rfl) _
    have fbs : ∀ g ∈ s.L, Blk (w1.setCell ⟨f.b, 1, none⟩ (.int .i64 (f.left + f.share))) g.b #[.int .i64 g.share, .int .i64 (if g.id = f.id then f.left + f.share else g.left)] FB := fun g hgm => by
      by_cases e : g.id = f.id
      · have e2 := hw1.ap.eq hgm HF.out (.inl e)
        subst e2
        rw [if_pos rfl]
        exact (hw1.fb g hgm).set 1 _
      · rw [if_neg e]
        have hne : f.b ≠ g.b := fun e2 => e (by rw [hw1.ap.eq HF.out hgm (.inr e2)])
        exact (hw1.fb g hgm).setOther hne _
    refine ⟨⟨hb1.set 3 _, ownsMap_turns (ownsMap_turns hw1.map t1 (hw1.mf f HF.out)) t2 hw1.mp, fun id => ?_, fun g hgm => ?_, fun g hgm => ?_, hw1.ap.upd _, fun g hgm => ?_, fun g hgm => ?_, hw1.tr, hok0⟩, (t1.mono (fun i _ hi => .inr (.inr ⟨f, HF.out, hi.symm⟩))).trans (t2.mono (fun i _ hi => .inl (.inl hi)))⟩
    · rw [hw1.rd1 id]
      show _ = (fnd (upd s.L _) id).isSome
      rw [fnd_upd]
      cases fnd s.L id <;> rfl
    · obtain ⟨f', hf', rfl⟩ := upd_mem hgm
      exact hw1.rd2 f' hf'
    · obtain ⟨f', hf', rfl⟩ := upd_mem hgm
      exact t2.blk (fbs f' hf') (hw1.pf f' hf')
    · obtain ⟨f', hf', rfl⟩ := upd_mem hgm
      exact hw1.pf f' hf'
    · obtain ⟨f', hf', rfl⟩ := upd_mem hgm
      exact hw1.rg f' hf')
  clear h hlo e hok hok0 h5
  go_enter Try.func50, Try.ntmps50
  go_upto_region 1 with fail
  go_region
  go_upto_region 3 with fail
  go_region
  have hbp : p ≠ f.b := fun e => hne e.symm
  have HE2 := HE.out w HH.out (HH.out.blk.setOther hne _)
  have HE3 := Lib.hid HE2
  clear HE2
  go_wp2
  go_ret
  exact ⟨rfl, HE3.out.1.drew.drew, HE3.out.2.drew.drew⟩
end Go.Proofs.Ytcppibjllaablaa.drr

/-
  Owned rows cut in place ('slices.Delete(s, 0, n)'), slices that may be nil or lie anywhere. No program.
-/
namespace Go.Proofs.Ytcppibjllaablaa.mem
open Go.RowKit
set_option linter.unusedVariables false

theorem take_set_of_lt' {α : Type} (l : List α) (o : Nat) (v : α) (h : o < l.length) : (l.set o v).take (o + 1) = l.take o ++ [v] := by
  rw [List.take_add_one, List.getElem?_set_self (by omega)]
  simp [List.take_set]
  rw [List.set_eq_of_length_le (by simp; omega)]
theorem Blk.setCells {p : Nat} {t : TypeId} : ∀ (vs : List Value) (o : Nat) (w : World) (l : List Value), Blk w p l.toArray t → o + vs.length ≤ l.length → Blk (w.setCells p o vs) p (l.take o ++ vs ++ l.drop (o + vs.length)).toArray t
  | [], o, w, l, h, _ => by simpa [World.setCells] using h
  | v :: vs, o, w, l, h, hle => by
    have hle' : o + (vs.length + 1) ≤ l.length := by simpa using hle
    have h1 := h.set o v
    rw [List.setIfInBounds_toArray] at h1
    have h2 := Blk.setCells vs (o + 1) _ (l.set o v) h1 (by rw [List.length_set]; omega)
    rw [World.setCells]
    have e : (l.set o v).take (o + 1) ++ vs ++ (l.set o v).drop (o + 1 + vs.length) = l.take o ++ (v :: vs) ++ l.drop (o + (v :: vs).length) := by
      rw [take_set_of_lt' l o v (by omega), List.drop_set_of_lt (by omega), show o + 1 + vs.length = o + (v :: vs).length by simp; omega]
      simp
    rwa [e] at h2
theorem Turns.setCells {S : Nat → Prop} {a : World} {p : Nat} (hp : S p ∨ a.heap.size ≤ p) : ∀ (vs : List Value) (o : Nat) (w : World), Turns S a w → Turns S a (w.setCells p o vs)
  | [], _, _, h => h
  | v :: vs, o, w, h => Turns.setCells hp vs (o + 1) _ (h.setCell (p := ⟨p, o, none⟩) hp v)

/-- what 'clear' writes -/
def zerosOf (z : Value) (n : Nat) : List Value := (Builtin.zeroCells z.cells n).toList
theorem zerosOf_length (z : Value) (n : Nat) : (zerosOf z n).length = n * z.cells.size := by simp [zerosOf, Builtin.zeroCells]
theorem zerosOf_one (z : Value) (n : Nat) (h0 : 0 < z.cells.size) (h1 : ∀ u ∈ z.cells, u.oneCell' = true) : ∀ u ∈ zerosOf z n, u.oneCell' = true := by
  intro u hu
  simp only [zerosOf, Builtin.zeroCells, Array.toList_map, List.mem_map] at hu
  obtain ⟨i, _, rfl⟩ := hu
  have hlt := Nat.mod_lt i h0
  rw [getElem!_pos z.cells _ hlt]
  exact h1 _ (Array.getElem_mem hlt)

section
variable {α : Type} {E : Enc α}
theorem run_clear {P : Program} (w : World) (t e ty : TypeId) (z : Value) (ht : P.underlying t = some (.slice e)) (hv : ∀ w, (zeroValue e).run P w = .ok z w) (hs : z.cells.size = E.n) (h0 : 0 < E.n) (h1 : ∀ u ∈ z.cells, u.oneCell' = true) (b o n c : Nat) (hn : 0 < n)
    (hc : ∀ j, j < n * E.n → (w.cell? ⟨b, o + j, none⟩).isSome = true) (hf : ∀ j, j < n * E.n → w.frozen? ⟨b, o + j, none⟩ = false) :
    (Builtin.clear_ #[t] ty #[.slice (some ⟨b, o, none⟩) n c]).run P w = .ok (.tuple #[]) (w.setCells b o (zerosOf z n)) := by
  have hl := zerosOf_length z n
  rw [hs] at hl
  have hst := run_storeCells_cells (P := P) b o (zerosOf z n) 0 w (by simpa [hl] using hc) (by simpa [hl] using hf) (zerosOf_one z n (by omega) h1)
  simp only [Nat.add_zero] at hst
  unfold zerosOf at *
  obtain ⟨m, rfl⟩ : ∃ m, n = m + 1 := ⟨n - 1, by omega⟩
  simp [Builtin.clear_, run_underlying ht, hv, hst]

theorem Enc.all_drop (l : List α) (n : Nat) : E.all (l.drop n) = (E.all l).drop (n * E.n) := by
  induction n generalizing l with
  | zero => simp
  | succ n ih =>
    cases l with
    | nil => simp [Enc.all]
    | cons x l =>
      rw [List.drop_succ_cons, ih, E.all_cons, Nat.succ_mul, Nat.add_comm (n * E.n), ← List.drop_drop, List.drop_left' (E.len x)]
theorem Enc.all_take (l : List α) (n : Nat) : E.all (l.take n) = (E.all l).take (n * E.n) := by
  induction n generalizing l with
  | zero => simp [Enc.all]
  | succ n ih =>
    cases l with
    | nil => simp [Enc.all]
    | cons x l =>
      rw [List.take_succ_cons, E.all_cons, ih, E.all_cons, Nat.succ_mul, Nat.add_comm (n * E.n), List.take_append, E.len, Nat.add_sub_cancel_left, List.take_of_length_le (i := E.n + n * E.n) (l := E.cs x) (by rw [E.len]; omega)]

/-- the first n elements are cut off in place -/
theorem Owns.cut {T : TypeId} {w : World} {g cap : Nat} {l : List α} (h : Owns E T w (.slice (some ⟨g, 0, none⟩) l.length cap) l) (n : Nat) (hn : n ≤ l.length) (zs : List Value) (hz : zs.length = n * E.n) :
    Owns E T ((w.setCells g 0 (E.all (l.drop n))).setCells g ((l.length - n) * E.n) zs) (.slice (some ⟨g, 0, none⟩) (l.length - n) cap) (l.drop n) := by
  rcases h.2 with ⟨h0, _⟩ | ⟨g', cap', cur, e, hb, hg, hc, hm, hs, ht⟩
  · cases h0
  · injection e with e1 _ e3
    injection e1 with e1
    injection e1 with e1
    subst e1 e3
    have hB : Blk w g cur.toList.toArray T := by simpa [Blk] using hg
    have hla : (E.all (l.drop n)).length = (l.length - n) * E.n := by rw [E.all_length, List.length_drop]
    have hcs : cur.toList.length = cap * E.n := by simpa using hs
    have hml : (l.length - n) * E.n + n * E.n = l.length * E.n := by rw [← Nat.add_mul, Nat.sub_add_cancel hn]
    have hmc : l.length * E.n ≤ cap * E.n := Nat.mul_le_mul_right _ hc
    have h1 := Blk.setCells (E.all (l.drop n)) 0 w cur.toList hB (by rw [hla, hcs]; omega)
    have h2 := Blk.setCells zs ((l.length - n) * E.n) _ _ h1 (by
      simp only [List.length_append, List.length_take, List.length_drop, hla, hcs, hz]; omega)
    refine ⟨by rw [E.all_length, List.length_drop], ?_⟩
    rw [List.length_drop]
    refine .inr ⟨g, cap, _, rfl, Nat.zero_le _, h2, by omega, hm, ?_, ?_⟩
    · simp only [List.size_toArray, List.length_append, List.length_take, List.length_drop, hla, hcs, hz]; omega
    · rw [List.toList_toArray, List.append_assoc, List.take_append_of_le_length (by simp only [List.length_take, List.length_append, List.length_drop, hla, hcs]; omega), List.take_take, Nat.min_self]
      simp only [List.take_zero, List.nil_append]
      rw [List.take_append_of_le_length (by rw [hla]; omega), List.take_of_length_le (by rw [hla]; omega)]

/-- v holds the elements l: nil, or in a block from B on -/
def Sub (E : Enc α) (B : Nat) (w : World) (v : Value) (l : List α) : Prop := (v = .slice none 0 0 ∧ l = []) ∨ Lies E B w v l
theorem Sub.nil (E : Enc α) (B : Nat) (w : World) : Sub E B w (.slice none 0 0) [] := .inl ⟨rfl, rfl⟩
theorem Sub.turns {B : Nat} {S : Nat → Prop} {w w' : World} {v : Value} {l : List α} (h : Sub E B w v l) (ht : Turns S w w') (hn : ∀ g, B ≤ g → ¬ S g) : Sub E B w' v l := by
  rcases h with h | h
  · exact .inl h
  · exact .inr (h.turns ht hn)
theorem Sub.turns' {B : Nat} {S : Nat → Prop} {w w' : World} {v : Value} {l : List α} (h : Sub E B w v l) (ht : Turns S w w') (hn : ∀ g, v.ownBlock = some g → ¬ S g) : Sub E B w' v l := by
  rcases h with h | h
  · exact .inl h
  · exact .inr (h.turns' ht hn)
theorem Sub.lt {B : Nat} {w : World} {v : Value} {l : List α} (h : Sub E B w v l) : ∀ g, v.ownBlock = some g → B ≤ g ∧ g < w.heap.size := by
  rcases h with ⟨rfl, _⟩ | h
  · intro g hg; simp [Value.ownBlock] at hg
  · exact h.lt
theorem Sub.mono {B B' : Nat} {w : World} {v : Value} {l : List α} (h : Sub E B w v l) (hB : B' ≤ B) : Sub E B' w v l := by
  rcases h with h | h
  · exact .inl h
  · exact .inr (h.mono hB)
theorem Sub.form {B : Nat} {w : World} {v : Value} {l : List α} (h : Sub E B w v l) : ∃ ao c, v = .slice ao l.length c ∧ l.length ≤ c ∧ c ≤ maxLen := by
  rcases h with ⟨rfl, rfl⟩ | ⟨g, o, c, e, h1, h2, _⟩
  · exact ⟨none, 0, rfl, Nat.le_refl _, Nat.zero_le _⟩
  · exact ⟨_, c, e, h1, h2⟩
theorem Owns.sub {T : TypeId} {w : World} {v : Value} {l : List α} (h : Owns E T w v l) (B : Nat) (hB : ∀ g, v.ownBlock = some g → B ≤ g) : Sub E B w v l := by
  have hcs := @World.ownsRow.cells _ _ _ _ _ _ _ h
  rcases h.2 with ⟨rfl, h0⟩ | ⟨g, cap, cur, rfl, hb, hg, hc, hm, hs, ht⟩
  · exact .inl ⟨rfl, List.length_eq_zero_iff.1 h0⟩
  · refine .inr ⟨g, 0, cap, rfl, hc, hm, hB g rfl, (Array.getElem?_eq_some_iff.1 hg).1, fun j u hu => ?_⟩
    have := hcs (g := g) rfl j u hu
    rw [Nat.zero_add]
    rwa [show (⟨g, 0, none⟩ : Addr).add j = ⟨g, j, none⟩ by unfold Addr.add; split <;> simp_all] at this
/-- 'l[:n]' -/
theorem Lies.take {B g o c : Nat} {w : World} {l : List α} (h : Lies E B w (.slice (some ⟨g, o, none⟩) l.length c) l) (n : Nat) (hn : n ≤ l.length) : Lies E B w (.slice (some ⟨g, o, none⟩) n c) (l.take n) := by
  obtain ⟨g', o', c', e, h1, h2, h3, h4, h5⟩ := h
  injection e with e1 _ e3
  injection e1 with e1
  injection e1 with e1 e2
  subst e1 e2 e3
  have hl : (l.take n).length = n := by rw [List.length_take]; omega
  refine ⟨g, o, c, by rw [hl], by omega, h2, h3, h4, fun j u hu => h5 j u ?_⟩
  rw [E.all_take] at hu
  rw [List.getElem?_take] at hu
  split at hu
  · exact hu
  · cases hu
/-- 'l[n:]' -/
theorem Lies.drop {B g o c : Nat} {w : World} {l : List α} (h : Lies E B w (.slice (some ⟨g, o, none⟩) l.length c) l) (n : Nat) (hn : n ≤ l.length) : Lies E B w (.slice (if c = n then some ⟨g, o, none⟩ else some ⟨g, o + n * E.n, none⟩) (l.length - n) (c - n)) (l.drop n) := by
  obtain ⟨g', o', c', e, h1, h2, h3, h4, h5⟩ := h
  injection e with e1 _ e3
  injection e1 with e1
  injection e1 with e1 e2
  subst e1 e2 e3
  have hl : (l.drop n).length = l.length - n := by rw [List.length_drop]
  split
  next hc =>
    have : l.drop n = [] := List.drop_eq_nil_of_le (by omega)
    refine ⟨g, o, c - n, by rw [hl], by omega, by omega, h3, h4, fun j u hu => ?_⟩
    rw [this] at hu
    simp [Enc.all] at hu
  next hc =>
    refine ⟨g, o + n * E.n, c - n, by rw [hl], by omega, by omega, h3, h4, fun j u hu => ?_⟩
    rw [E.all_drop, List.getElem?_drop] at hu
    rw [Nat.add_assoc]
    exact h5 _ u hu

theorem Owns.append_sub {P : Program} {T RT ty : TypeId} {z : Value} {bytes B : Nat} (hu : P.underlying RT = some (.slice T)) (hi : (P.info? T).map (fun i => (i.zero, i.size, i.bytes)) = some (some z, E.n, bytes)) (hz : z.cells.size = E.n) (h0 : 0 < E.n) (hb : bytes ≤ 4096)
    {W : World} {v u : Value} {l m : List α} (hr : Owns E T W v l) (hm : Sub E B W u m) (h63 : l.length + m.length ≤ 1048576) :
    ∃ v' w', (Builtin.append_ #[RT, RT] ty #[v, u]).run P W = .ok v' w' ∧ Owns E T w' v' (l ++ m) ∧ W.grownBy w' v.ownBlock ∧ (v'.ownBlock = v.ownBlock ∨ v'.ownBlock = some W.heap.size) := by
  obtain ⟨i0, hi', hz0, hz1, hz2⟩ := infoOf hi
  rcases hm with ⟨rfl, rfl⟩ | ⟨g, of, c, rfl, _, _, _, _, hcell⟩
  · refine ⟨v, W, ?_, by rw [List.append_nil]; exact hr, ⟨rfl, rfl, rfl, Nat.le_refl _, fun _ _ _ => rfl⟩, .inl rfl⟩
    exact run_append_owned_none (P := P) (w := W) 0 RT ty T i0 E.n hu hi' v l.length (E.all l) hr
  · have hby : (l.length + m.length) * bytes ≤ 1048576 * 4096 := Nat.mul_le_mul h63 hb
    obtain ⟨v', w', hrun, h2, h3, _, h5⟩ := run_append_own_at (P := P) W 0 RT ty T i0 _ E.n bytes hu hi' hz0 hz1 hz2 hz h0 v l.length (E.all l) hr ⟨g, of, none⟩ m.length c (E.all m) (E.all_length m)
      (fun j u hj => by have := hcell j u hj; rwa [show (⟨g, of, none⟩ : Addr).add j = ⟨g, of + j, none⟩ by unfold Addr.add; split <;> simp_all])
      (E.all_cell m) (by unfold maxLen; omega) (by omega) (Nat.zero_le _)
    refine ⟨v', w', hrun, ?_, h3, h5⟩
    unfold Owns
    rw [E.all_append, List.length_append]
    exact h2

/-- append of such a slice: a step of a list of operations -/
theorem wpList_append_sub {P : Program} {T RT : TypeId} {z : Value} {bytes : Nat} (hu : P.underlying RT = some (.slice T)) (hi : (P.info? T).map (fun i => (i.zero, i.size, i.bytes)) = some (some z, E.n, bytes)) (hz : z.cells.size = E.n) (h0 : 0 < E.n) (hb : bytes ≤ 4096)
    {ops : Array Oper} {rest : List Oper} {o : Oper} {a : Act} {Q : Exit → Act → World → Prop} {W : World} (hgd : o.guard = none) (sl x : Operand)
    (ho : o.op = .call { callee := .builtin .append, args := #[sl, x], argTypes := #[RT, RT] }) (v : Value) (l m : List α) (hs : a.eval sl = v) (hr : Owns E T W v l) (vm : Value) (hx : a.eval x = vm) (B : Nat) (hm : Sub E B W vm m) (h63 : l.length + m.length ≤ 1048576)
    (h : ∀ v' w', Owns E T w' v' (l ++ m) → W.grownBy w' v.ownBlock → (v'.ownBlock = v.ownBlock ∨ v'.ownBlock = some W.heap.size) → wpList P ops Q rest (a.put o.dst v') w') : wpList P ops Q (o :: rest) a W := by
  refine wpList_plain hgd fun K hK => ?_
  obtain ⟨v', w', hrun, h2, h3, h4⟩ := Owns.append_sub (P := P) (ty := o.type) hu hi hz h0 hb hr hm h63
  unfold Oper.wp execOp
  simp only [ho, resolve, invoke, builtin, Sem.run_bind, Sem.run_pure, Result.andThen_ok, List.map_toArray, List.map_cons, List.map_nil, hs, hx, hrun]
  exact hK _ _ (h v' w' h2 h3 h4)

theorem step_append_sub {P : Program} {T RT : TypeId} {z : Value} {bytes : Nat} (hu : P.underlying RT = some (.slice T)) (hi : (P.info? T).map (fun i => (i.zero, i.size, i.bytes)) = some (some z, E.n, bytes)) (hz : z.cells.size = E.n) (h0 : 0 < E.n) (hb : bytes ≤ 4096)
    {ops : Array Oper} {o : Oper} {a : Act} {K : Act → World → Prop} {Q : Exit → Act → World → Prop} {X : Prop} {W : World} (hgd : o.guard = none) (sl x : Operand)
    (ho : o.op = .call { callee := .builtin .append, args := #[sl, x], argTypes := #[RT, RT] }) (v u : Value) (l m : List α) (hs : a.eval sl = v) (hx : a.eval x = u) (hr : Owns E T W v l) (B : Nat) (hm : Sub E B W u m) (h63 : l.length + m.length ≤ 1048576)
    (h : ∀ v' w', Owns E T w' v' (l ++ m) → W.grownBy w' v.ownBlock → (v'.ownBlock = v.ownBlock ∨ v'.ownBlock = some W.heap.size) → K (a.put o.dst v') w') :
    if Region.wanted o (yielded ops a.tmps) = true then Oper.wp P o a W K Q else X := by
  have hw : Region.wanted o (yielded ops a.tmps) = true := by simp [Region.wanted, hgd]
  rw [if_pos hw]
  obtain ⟨v', w', hrun, h2, h3, h4⟩ := Owns.append_sub (P := P) (ty := o.type) hu hi hz h0 hb hr hm h63
  unfold Oper.wp execOp
  simp only [ho, resolve, invoke, builtin, Sem.run_bind, Sem.run_pure, Result.andThen_ok, List.map_toArray, List.map_cons, List.map_nil, hs, hx, hrun]
  exact h v' w' h2 h3 h4
end
end Go.Proofs.Ytcppibjllaablaa.mem

/-
  A slice that lies in a block of a known type (TS): what the reference holds. No program.
-/
namespace Go.Proofs.Ytcppibjllaablaa.mem
open Go.RowKit
set_option linter.unusedVariables false
section
variable {α : Type} {E : Enc α}
structure TS (E : Enc α) (T : TypeId) (w : World) (v : Value) (l : List α) : Prop where
  sub : Sub E 0 w v l
  ty : ∀ g, v.ownBlock = some g → ∃ cs, Blk w g cs T
variable {T : TypeId} {w w' : World} {v : Value} {l : List α}
theorem TS.nil (E : Enc α) (T : TypeId) (w : World) : TS E T w (.slice none 0 0) [] := ⟨Sub.nil _ _ _, fun g hg => by simp [Value.ownBlock] at hg⟩
theorem TS.lt (h : TS E T w v l) : ∀ g, v.ownBlock = some g → g < w.heap.size := fun g hg => (Sub.lt h.sub g hg).2
theorem TS.turns {S : Nat → Prop} (h : TS E T w v l) (ht : Turns S w w') (hn : ∀ g, v.ownBlock = some g → ¬ S g) : TS E T w' v l :=
  ⟨Sub.turns' h.sub ht hn, fun g hg => by obtain ⟨cs, hb⟩ := h.ty g hg; exact ⟨cs, ht.blk hb (hn g hg)⟩⟩
theorem TS.later (h : TS E T w v l) (n : Turns (fun _ => False) w w') : TS E T w' v l := h.turns n (fun _ _ h => h)
theorem TS.off {p : Nat} {cs : Array Value} {U : TypeId} (h : TS E T w v l) (hb : Blk w p cs U) (hT : T ≠ U) : v.ownBlock ≠ some p := by
  intro e
  obtain ⟨ds, hd⟩ := h.ty p e
  unfold Blk at hb hd
  rw [hb] at hd
  injection hd with hd
  injection hd with _ hd
  exact hT hd.symm
theorem TS.of_owns (h : Owns E T w v l) : TS E T w v l :=
  ⟨h.sub 0 (fun _ _ => Nat.zero_le _), fun g hg => by
    rcases h.2 with ⟨rfl, _⟩ | ⟨g', cap, cur, rfl, _, hb, _⟩
    · simp [Value.ownBlock] at hg
    · have : g' = g := by simpa [Value.ownBlock] using hg
      subst this
      exact ⟨_, hb⟩⟩
theorem TS.form (h : TS E T w v l) : ∃ ao n c, v = .slice ao n c ∧ n = l.length ∧ n ≤ c ∧ c ≤ maxLen := by
  obtain ⟨ao, c, e, h1, h2⟩ := Sub.form h.sub
  exact ⟨ao, _, c, e, rfl, h1, h2⟩
theorem TS.at_ {ao : Option Addr} {n c : Nat} (h : TS E T w (.slice ao n c) l) {k : Nat} {x : α} (hx : l[k]? = some x) : ∃ g o, ao = some ⟨g, o, none⟩ ∧ n = l.length ∧ g < w.heap.size ∧ ∀ (j : Nat) (u : Value), (E.cs x)[j]? = some u → w.cell? ⟨g, o + k * E.n + j, none⟩ = some u := by
  rcases h.sub with ⟨_, h0⟩ | hl
  · rw [h0] at hx; simp at hx
  · obtain ⟨g, o, c', hv, _, _, _, h4, h5⟩ := hl.cell
    injection hv with e1 e2 e3
    exact ⟨g, o, e1, e2, h4, h5 k x hx⟩
end
end Go.Proofs.Ytcppibjllaablaa.mem

/-
  What is read at a place of an owned row. No program.
-/
namespace Go.Proofs.Ytcppibjllaablaa.mem
open Go.RowKit
set_option linter.unusedVariables false

theorem own_at {α : Type} {E : Enc α} {T : TypeId} {w : World} {ao : Option Addr} {n c : Nat} {l : List α} (h : Owns E T w (.slice ao n c) l) {k : Nat} {x : α} (hx : l[k]? = some x) : ∃ g, ao = some ⟨g, 0, none⟩ ∧ g < w.heap.size ∧ ∀ (j : Nat) (u : Value), (E.cs x)[j]? = some u → w.cell? ⟨g, k * E.n + j, none⟩ = some u := by
  obtain ⟨ao', c', hv, _, hr, _⟩ := h.form
  injection hv with e1 _ _
  subst e1
  rcases hr with e | ⟨g, e, hg, hcell⟩
  · rw [e] at hx; simp at hx
  · exact ⟨g, e, hg, fun j u hu => hcell k x hx j u hu⟩
end Go.Proofs.Ytcppibjllaablaa.mem

/-
  queue, as pure functions: items, what is dropped together, Put, Expire. No program.
-/
namespace Go.Proofs.Ytcppibjllaablaa.que
open Go.RowKit mem
set_option linter.unusedVariables false

structure It where
  n : Int
  size : Int
  tick : Int
  key : Bool
def It.cs (x : It) : List Value := [.int .i64 x.n, .int .i64 x.size, .int .i64 x.tick, .bool x.key]
def IE : Enc It := ⟨4, It.cs, fun _ => rfl, fun x u hu => by
  simp [It.cs] at hu
  rcases hu with rfl | rfl | rfl | rfl <;> rfl⟩

def sumL : List It → Int
  | [] => 0
  | x :: l => x.size + sumL l
theorem sumL_append (a b : List It) : sumL (a ++ b) = sumL a + sumL b := by
  induction a with
  | nil => simp [sumL]
  | cons x a ih => rw [List.cons_append, sumL, sumL, ih]; omega
theorem sumL_cut (l : List It) (n : Nat) : sumL l = sumL (l.take n) + sumL (l.drop n) := by rw [← sumL_append, List.take_append_drop]
def pos (l : List It) : Prop := ∀ x ∈ l, 0 ≤ x.size
theorem sumL_pos : ∀ (l : List It), pos l → 0 ≤ sumL l
  | [], _ => Int.le_refl 0
  | x :: l, h => by
    have h1 := h x List.mem_cons_self
    have h2 := sumL_pos l (fun y hy => h y (List.mem_cons_of_mem _ hy))
    rw [sumL]; omega
theorem pos.drop {l : List It} (h : pos l) (n : Nat) : pos (l.drop n) := fun x hx => h x (List.mem_of_mem_drop hx)
theorem pos.take {l : List It} (h : pos l) (n : Nat) : pos (l.take n) := fun x hx => h x (List.mem_of_mem_take hx)
theorem sumL_drop_le (l : List It) (n : Nat) (h : pos l) : sumL (l.drop n) ≤ sumL l := by
  have := sumL_cut l n
  have := sumL_pos _ (h.take n)
  omega
theorem sumL_take_le (l : List It) (n : Nat) (h : pos l) : sumL (l.take n) ≤ sumL l := by
  have := sumL_cut l n
  have := sumL_pos _ (h.drop n)
  omega
theorem sumL_at (l : List It) (n : Nat) (x : It) (h : l[n]? = some x) : sumL (l.take (n + 1)) = sumL (l.take n) + x.size := by
  rw [List.take_add_one, h, sumL_append]
  simp [sumL]

/-- how many of the first ones aren't Key -/
def runL : List It → Nat
  | [] => 0
  | x :: l => if x.key then 0 else 1 + runL l
theorem runL_le : ∀ (l : List It), runL l ≤ l.length
  | [] => Nat.le_refl 0
  | x :: l => by
    have := runL_le l
    rw [runL, List.length_cons]
    split <;> omega
/-- how many are dropped with the first one -/
def dropN (l : List It) : Nat := 1 + runL (l.drop 1)
theorem dropN_pos (l : List It) : 1 ≤ dropN l := Nat.le_add_right 1 _
theorem dropN_le (l : List It) (h : l ≠ []) : dropN l ≤ l.length := by
  have := runL_le (l.drop 1)
  have h0 : l.length ≠ 0 := fun e => h (List.length_eq_zero_iff.1 e)
  rw [List.length_drop] at this
  unfold dropN; omega
theorem runL_at (l : List It) (n : Nat) (x : It) (h : l[n]? = some x) : runL (l.drop n) = if x.key then 0 else 1 + runL (l.drop (n + 1)) := by
  obtain ⟨hlt, hx⟩ := List.getElem?_eq_some_iff.1 h
  rw [List.drop_eq_getElem_cons hlt, runL, hx]
theorem runL_end (l : List It) (n : Nat) (h : l.length ≤ n) : runL (l.drop n) = 0 := by rw [List.drop_eq_nil_of_le h]; rfl

/-- as long as P, the first one is dropped: how many in all -/
def shed (P : List It → Bool) : Nat → List It → Nat
  | 0, _ => 0
  | f + 1, l => if P l then dropN l + shed P f (l.drop (dropN l)) else 0
theorem shed_two (P : List It → Bool) (h0 : P [] = false) : ∀ (f g : Nat) (l : List It), l.length ≤ f → l.length ≤ g → shed P f l = shed P g l
  | 0, g, l, h, _ => by
    have : l = [] := List.length_eq_zero_iff.1 (by omega)
    subst this
    cases g with
    | zero => rfl
    | succ g => rw [shed, shed, h0]; rfl
  | f + 1, 0, l, _, h => by
    have : l = [] := List.length_eq_zero_iff.1 (by omega)
    subst this
    rw [shed, shed, h0]; rfl
  | f + 1, g + 1, l, h1, h2 => by
    have hd := dropN_pos l
    rw [shed, shed]
    split
    next hp => rw [shed_two P h0 f g _ (by rw [List.length_drop]; omega) (by rw [List.length_drop]; omega)]
    next => rfl
theorem shed_fuel (P : List It → Bool) (h0 : P [] = false) (f : Nat) (l : List It) (h : l.length ≤ f) : shed P f l = shed P l.length l := shed_two P h0 f _ l h (Nat.le_refl _)
def sh (P : List It → Bool) (l : List It) : Nat := shed P l.length l
theorem sh_go (P : List It → Bool) (h0 : P [] = false) (l : List It) (h : P l = true) : l ≠ [] ∧ sh P l = dropN l + sh P (l.drop (dropN l)) := by
  have hne : l ≠ [] := fun e => by rw [e, h0] at h; cases h
  refine ⟨hne, ?_⟩
  obtain ⟨x, r, rfl⟩ := List.exists_cons_of_ne_nil hne
  have hd := dropN_pos (x :: r)
  unfold sh
  rw [List.length_cons, shed, h, if_pos rfl, shed_fuel P h0 r.length _ (by rw [List.length_drop, List.length_cons]; omega)]
theorem sh_end (P : List It → Bool) (l : List It) (h : P l = false) : sh P l = 0 := by
  unfold sh
  cases l with
  | nil => rfl
  | cons x l => rw [List.length_cons, shed, h]; rfl
theorem sh_le (P : List It → Bool) : ∀ (f : Nat) (l : List It), P [] = false → shed P f l ≤ l.length
  | 0, l, _ => Nat.zero_le _
  | f + 1, l, h0 => by
    rw [shed]
    split
    next h =>
      have hne : l ≠ [] := fun e => by rw [e, h0] at h; cases h
      have h1 := sh_le P f (l.drop (dropN l)) h0
      have h2 := dropN_le l hne
      rw [List.length_drop] at h1
      omega
    next => exact Nat.zero_le _

/-- is it broken when k of l are gone? -/
def brk (b : Bool) (l : List It) (k : Nat) : Bool := b || (decide (0 < k) && decide (k = l.length))
theorem brk_zero (b : Bool) (l : List It) : brk b l 0 = b := by simp [brk]
theorem brk_step (b : Bool) (l : List It) (k d : Nat) (hk : k < l.length) (hd : 1 ≤ d) : (brk b l k || decide (d = (l.drop k).length)) = brk b l (k + d) := by
  have e1 : decide (k = l.length) = false := decide_eq_false (by omega)
  have e2 : decide (0 < k + d) = true := decide_eq_true (by omega)
  have e3 : decide (d = l.length - k) = decide (k + d = l.length) := by apply decide_eq_decide.2; omega
  simp [brk, e1, e2, e3]

structure Q where
  frames : Int
  most : Int
  L : List It
  broken : Bool
structure Q.ok (q : Q) : Prop where
  f1 : 1 ≤ q.frames
  f2 : q.frames ≤ 1024
  m1 : 1 ≤ q.most
  m2 : q.most ≤ 16777216
  len : (q.L.length : Int) ≤ q.frames
  sum : sumL q.L ≤ q.most
  pos : pos q.L
theorem Q.ok.drop {q : Q} (h : q.ok) (n : Nat) (b : Bool) : Q.ok ⟨q.frames, q.most, q.L.drop n, b⟩ :=
  ⟨h.f1, h.f2, h.m1, h.m2, by have := h.len; rw [List.length_drop]; show ((q.L.length - n : Nat) : Int) ≤ q.frames; omega, Int.le_trans (sumL_drop_le _ _ h.pos) h.sum, h.pos.drop n⟩
theorem Q.ok.bs {q : Q} (h : q.ok) (b : Bool) : Q.ok ⟨q.frames, q.most, q.L, b⟩ := ⟨h.f1, h.f2, h.m1, h.m2, h.len, h.sum, h.pos⟩

def full (q : Q) (x : It) (l : List It) : Bool := decide ((l.length : Int) = q.frames) || decide (q.most < sumL l + x.size)
def late (now age : Int) : List It → Bool
  | [] => false
  | y :: _ => decide (age ≤ now - y.tick)
def bad (q : Q) (x : It) : Bool := decide (x.size < 0) || decide (q.most < x.size) || (q.broken && !x.key)
def putK (q : Q) (x : It) : Nat := sh (full q x) q.L
def putB (q : Q) (x : It) : Bool := brk q.broken q.L (putK q x)
def putOk (q : Q) (x : It) : Bool := !bad q x && !(putB q x && !x.key)
def putD (q : Q) (x : It) : List It := if bad q x then [] else q.L.take (putK q x)
def putQ (q : Q) (x : It) : Q :=
  if bad q x then ⟨q.frames, q.most, q.L, true⟩
  else if putB q x && !x.key then ⟨q.frames, q.most, q.L.drop (putK q x), putB q x⟩
  else ⟨q.frames, q.most, q.L.drop (putK q x) ++ [x], false⟩
def expK (q : Q) (now age : Int) : Nat := sh (late now age) q.L
def expQ (q : Q) (now age : Int) : Q := ⟨q.frames, q.most, q.L.drop (expK q now age), brk q.broken q.L (expK q now age)⟩
def expD (q : Q) (now age : Int) : List It := q.L.take (expK q now age)
theorem full_nil {q : Q} (h : q.ok) {x : It} (hx : x.size ≤ q.most) : full q x [] = false := by
  have := h.f1
  simp [full, sumL]; omega
/-- when the loop has ended, it fits -/
theorem shed_last (P : List It → Bool) (h0 : P [] = false) : ∀ (f : Nat) (l : List It), l.length ≤ f → P (l.drop (shed P f l)) = false
  | 0, l, h => by
    have : l = [] := List.length_eq_zero_iff.1 (by omega)
    subst this; exact h0
  | f + 1, l, h => by
    rw [shed]
    split
    next hp =>
      have hne : l ≠ [] := fun e => by rw [e, h0] at hp; cases hp
      have hd := dropN_pos l
      have hl : 0 < l.length := List.length_pos_iff.2 hne
      rw [← List.drop_drop]
      exact shed_last P h0 f _ (by rw [List.length_drop]; omega)
    next hp => simpa using hp
theorem putQ_ok {q : Q} (h : q.ok) {x : It} : (putQ q x).ok := by
  unfold putQ
  split
  · exact h.bs true
  next hb =>
    simp [bad] at hb
    split
    · exact h.drop _ _
    · have h0 := full_nil h (x := x) (by omega)
      have hl := shed_last (full q x) h0 q.L.length q.L (Nat.le_refl _)
      have hle := sh_le (full q x) q.L.length q.L h0
      change full q x (q.L.drop (putK q x)) = false at hl
      change putK q x ≤ q.L.length at hle
      have hd := h.drop (putK q x) false
      have hlen := hd.len
      simp only [full, Bool.or_eq_false_iff, decide_eq_false_iff_not] at hl
      refine ⟨h.f1, h.f2, h.m1, h.m2, ?_, ?_, ?_⟩
      · simp only [List.length_append, List.length_singleton]
        simp only at hlen
        omega
      · simp only [sumL_append, sumL]
        omega
      · intro y hy
        rcases List.mem_append.1 hy with hy | hy
        · exact hd.pos y hy
        · simp at hy; subst hy; omega
end Go.Proofs.Ytcppibjllaablaa.que

/-
  queue.Queue in memory; slices.Clone and slices.Delete of its items; what is taken out, and dropped.
-/
namespace Go.Proofs.Ytcppibjllaablaa.que
open Go.RowKit mem
set_option linter.unusedVariables false

abbrev PT : TypeId := 37
abbrev ST : TypeId := 97
abbrev QT : TypeId := 108
abbrev New (w w' : World) : Prop := Turns (fun _ => False) w w'
theorem infoP : (Try.prog.info? PT).map (fun i => (i.zero, i.size, i.bytes)) = some (some (.agg #[.int .i64 0, .int .i64 0, .int .i64 0, .bool false]), 4, 32) := by kernel_rfl
abbrev zeroIt : Value := .agg #[.int .i64 0, .int .i64 0, .int .i64 0, .bool false]
theorem zeroV (w : World) : (zeroValue PT).run Try.prog w = .ok zeroIt w := by kernel_rfl

/-- a row that a call made -/
structure Fresh (T : TypeId) (w w' : World) (v : Value) (l : List It) : Prop where
  own : Owns IE T w' v l
  vb : ∀ g, v.ownBlock = some g → w.heap.size ≤ g

theorem vb_of_alloc {n : Nat} {v : Value} (h : v.ownBlock = some n ∨ v.ownBlock = some (n + 1)) {g : Nat} (hg : v.ownBlock = some g) : n ≤ g := by
  rcases h with h | h
  · rw [h] at hg; injection hg with hg; omega
  · rw [h] at hg; injection hg with hg; omega

set_option maxRecDepth 100000 in
theorem clone (v : Value) (l : List It) (w : World) (h : Sub IE 0 w v l) (hl : l.length ≤ 1048576) :
    Calls Try.prog 82 #[v] w fun e w' => ∃ v', e = .returned v' ∧ Fresh PT w w' v' l ∧ New w w' := by
  have q : ∀ (w : World) (a : Option Addr) (n c n' c' : Nat), (binOp .eql ST (.slice a n c) (.slice none n' c')).run Try.prog w = .ok (.bool a.isNone) w := fun w a n c n' c' => Lib.run_eql_slice_nil w _ _ _ _ _ _ _ Try.underlying97
  rcases h with ⟨rfl, rfl⟩ | h
  · go_enter Try.func82, Try.ntmps82
    go_wp2
    go_ret
    exact ⟨_, rfl, ⟨Owns.nil _ _, fun g hg => by simp [Value.ownBlock] at hg⟩, Turns.refl _ _⟩
  · obtain ⟨g, o, c, hv, h1, h2, h3, h4, h5⟩ := id h
    have HL := Lib.hid h
    subst hv
    have HO : Hid (Owns IE PT (w.alloc (.cells #[] PT)) (.slice (some ⟨w.heap.size, 0, none⟩) 0 0) []) := Lib.hid (World.ownsRow_made (size := 4) w #[] 0 (Nat.zero_le _) (Nat.zero_le _) (by simp))
    have HS : Hid (Sub IE 0 (w.alloc (.cells #[] PT)) (.slice (some ⟨g, o, none⟩) l.length c) l) := Lib.hid (Sub.turns (.inr h) ((Turns.refl (fun _ => False) _).alloc _) (fun _ _ h => h))
    have hll := Lib.hid (show ([] : List It).length + l.length ≤ 1048576 by simpa using hl)
    clear h h5
    go_enter Try.func82, Try.ntmps82
    go_wp2_with (at_builtin; refine wpList_append_sub (E := IE) Try.underlying97 infoP rfl (by decide) (by decide) rfl _ _ rfl _ [] l rfl HO.out _ rfl 0 HS.out hll.out ?_)
    intro v' w1 hown hgrow hat
    have N := Lib.hid ((((Turns.refl (fun _ => False) w).alloc (.cells #[] PT)).trans ((Turns.of_grown hgrow).mono (fun k _ hk => .inr (by simp [Value.ownBlock] at hk; omega)))))
    have O := Lib.hid hown
    have V : Hid (∀ g, v'.ownBlock = some g → w.heap.size ≤ g) := Lib.hid (fun g hg => vb_of_alloc hat hg)
    clear hown hgrow hat HL HO HS hll
    go_wp2
    go_ret
    exact ⟨_, rfl, ⟨O.out, V.out⟩, N.out⟩

theorem cells_of {w : World} {g cap : Nat} {T : TypeId} {l : List It} (h : Owns IE T w (.slice (some ⟨g, 0, none⟩) l.length cap) l) :
    (∀ j u, (IE.all l)[j]? = some u → w.cell? ⟨g, j, none⟩ = some u) ∧ (∀ j, w.frozen? ⟨g, j, none⟩ = false) ∧ l.length ≤ cap ∧ cap ≤ maxLen ∧ g < w.heap.size := by
  have hcs := @World.ownsRow.cells _ _ _ _ _ _ _ h
  rcases h.2 with ⟨h0, _⟩ | ⟨g', cap', cur, e, hb, hg, hc, hm, hs, ht⟩
  · cases h0
  · injection e with e1 _ e3
    injection e1 with e1
    injection e1 with e1
    subst e1 e3
    have hB : Blk w g cur T := hg
    refine ⟨fun j u hu => ?_, fun j => hB.free j, hc, hm, hB.lt⟩
    have := hcs (g := g) rfl j u hu
    rwa [show (⟨g, 0, none⟩ : Addr).add j = ⟨g, j, none⟩ by unfold Addr.add; split <;> simp_all] at this

theorem isSome_cells (b : Nat) : ∀ (vs : List Value) (o : Nat) (w : World) (q : Addr), (w.cell? q).isSome = true → ((w.setCells b o vs).cell? q).isSome = true
  | [], _, _, _, h => h
  | v :: vs, o, w, q, h => by
    rw [World.setCells]
    refine isSome_cells b vs (o + 1) _ q ?_
    by_cases e : q = ⟨b, o, none⟩
    · subst e
      obtain ⟨u, hu⟩ := Option.isSome_iff_exists.1 h
      rw [World.cell?_setCell_same' _ _ _ h]; rfl
    · rw [World.cell?_setCell_other _ _ _ _ (fun h => e h.symm)]; exact h

set_option maxRecDepth 100000 in
set_option maxHeartbeats 1000000 in
theorem delete (v : Value) (l : List It) (n : Nat) (w : World) (h : Owns IE PT w v l) (hn : n ≤ l.length) (hl : l.length ≤ 1048576) :
    Calls Try.prog 83 #[v, .int .i64 0, .int .i64 n] w fun e w' => ∃ v', e = .returned v' ∧ Owns IE PT w' v' (l.drop n) ∧ Turns (fun k => v.ownBlock = some k) w w' ∧ v'.ownBlock = v.ownBlock := by
  have hform : (v = .slice none 0 0 ∧ l = []) ∨ ∃ g cap, v = .slice (some ⟨g, 0, none⟩) l.length cap := by
    rcases h.2 with ⟨e, h0⟩ | ⟨g, cap, cur, e, _⟩
    · exact .inl ⟨e, List.length_eq_zero_iff.1 h0⟩
    · exact .inr ⟨g, cap, e⟩
  rcases hform with ⟨rfl, rfl⟩ | ⟨g, cap, rfl⟩
  · have : n = 0 := by simpa using hn
    subst this
    have HO := Lib.hid h
    clear h hl hn
    go_enter Try.func83, Try.ntmps83
    go_wp2
    go_ret
    exact ⟨_, rfl, HO.out, Turns.refl _ _, rfl⟩
  · obtain ⟨hcell, hfree, hc, hm, hg⟩ := cells_of h
    have hlm : l.length ≤ maxLen := by unfold maxLen; omega
    have hm' : cap ≤ 9223372036854775807 := by unfold maxLen at hm; omega
    by_cases h0 : n = 0
    · subst h0
      have HO := Lib.hid h
      clear h hcell hfree hg hl
      go_enter Try.func83, Try.ntmps83
      go_wp2
      all_goals
        go_ret
        exact ⟨_, rfl, HO.out, Turns.refl _ _, rfl⟩
    · have hn0 : 0 < n := by omega
      obtain ⟨news, hnews⟩ : ∃ news, news = IE.all (l.drop n) := ⟨_, rfl⟩
      have hnl : news.length = (l.length - n) * 4 := by rw [hnews, IE.all_length, List.length_drop]; rfl
      obtain ⟨A, hA, hsrc⟩ : ∃ A : Addr, (if cap = n then some (⟨g, 0, none⟩ : Addr) else some ⟨g, n * 4, none⟩) = some A ∧ Hid (∀ t u, news[t]? = some u → w.drew.cell? (A.add t) = some u) := by
        by_cases hcn : cap = n
        · refine ⟨⟨g, 0, none⟩, by simp [hcn], Lib.hid fun t u hu => ?_⟩
          have : news = [] := List.length_eq_zero_iff.1 (by rw [hnl]; omega)
          rw [this] at hu
          simp at hu
        · refine ⟨⟨g, n * 4, none⟩, by simp [hcn], Lib.hid fun t u hu => ?_⟩
          rw [hnews, IE.all_drop, List.getElem?_drop] at hu
          have := hcell _ u hu
          rw [Addr.add_lit]
          exact this
      have s1 : Hid (news.length = (l.length - n) * 4) := Lib.hid hnl
      have s2 : Hid (∀ u ∈ news, u.oneCell' = true) := Lib.hid (by rw [hnews]; exact IE.all_cell _)
      have hall : (IE.all l).length = l.length * 4 := IE.all_length l
      have hsome : ∀ j, j < l.length * 4 → (w.cell? ⟨g, j, none⟩).isSome = true := fun j hj => by
        rw [hcell j _ (List.getElem?_eq_getElem (by rw [hall]; exact hj))]; rfl
      have s3 : Hid (∀ t, t < news.length → (w.drew.cell? ⟨g, 0 + 0 * 4 + t, none⟩).isSome = true ∧ w.drew.frozen? ⟨g, 0 + 0 * 4 + t, none⟩ = false) := Lib.hid (by
        intro t ht
        rw [hnl] at ht
        rw [show 0 + 0 * 4 + t = t by omega]
        exact ⟨hsome t (by omega), hfree t⟩)
      obtain ⟨W1, hW1⟩ : ∃ W1, W1 = w.drew.setCells g (0 + 0 * 4) news := ⟨_, rfl⟩
      have hcl : ∀ ty, (Builtin.clear_ #[ST] ty #[.slice (some ⟨g, (l.length - n) * 4, none⟩) (l.length - (l.length - n)) (cap - (l.length - n))]).run Try.prog W1 = .ok (.tuple #[]) (W1.setCells g ((l.length - n) * 4) (zerosOf zeroIt (l.length - (l.length - n)))) := by
        intro ty
        have e : l.length - (l.length - n) = n := by omega
        refine run_clear (E := IE) W1 ST PT ty zeroIt Try.underlying97 zeroV rfl (by decide) (by decide) g _ _ _ (by omega) (fun j hj => ?_) (fun j hj => ?_)
        · rw [hW1]
          refine isSome_cells g _ _ _ _ (hsome _ ?_)
          change j < (l.length - (l.length - n)) * 4 at hj
          omega
        · rw [hW1, World.frozen?_setCells]
          exact hfree _
      have hcut := Lib.hid (Owns.cut (E := IE) (T := PT) (w := w.drew) (l := l) h n hn (zerosOf zeroIt (l.length - (l.length - n))) (by rw [zerosOf_length]; show (l.length - (l.length - n)) * 4 = n * 4; omega))
      have hW := Lib.hid hW1
      have hN := Lib.hid hnews
      have hnc : n ≤ cap := by omega
      have hdc : l.length - n ≤ cap := by omega
      clear hW1 hnews hnl hcell hfree hall hsome h hg
      go_enter Try.func83, Try.ntmps83
      go_wp2_with fail
      go_region_law (refine step_append_room rfl (.tmp 22) (.tmp 25) ST rfl PT (infoOf infoP).choose 4 Try.underlying97 (infoOf infoP).choose_spec.1 (infoOf infoP).choose_spec.2.2.1 g 0 0 cap (by simp [Act.eval, Act.put]) A (l.length - n) (cap - n) news (by simp [Act.eval, Act.put]) s1.out hsrc.out s2.out (by omega) s3.out ?_; rw [← hW.out])
      go_wp2
      go_ret
      refine ⟨_, rfl, ?_, ?_, rfl⟩
      · have hc2 := hcut.out
        rw [← hN.out] at hc2
        rw [hW.out]
        exact hc2
      · rw [hW.out]
        exact Turns.setCells (S := fun k => (Value.slice (some ⟨g, 0, none⟩) l.length cap).ownBlock = some k) (.inl rfl) _ _ _ (Turns.setCells (S := fun k => (Value.slice (some ⟨g, 0, none⟩) l.length cap).ownBlock = some k) (.inl rfl) _ _ _ (Turns.refl _ _).drew)
end Go.Proofs.Ytcppibjllaablaa.que

/-
  queue.Queue in memory: what is taken out, and dropped; the calls that only read.
-/
namespace Go.Proofs.Ytcppibjllaablaa.que
open Go.RowKit mem
set_option linter.unusedVariables false

abbrev QB : TypeId := 108
abbrev cellsR (f m : Int) (pv : Value) (sz : Int) (b : Bool) : Array Value := #[.int .i64 f, .int .i64 m, pv, .int .i64 sz, .bool b]

/-- a queue in block p, its items in pv -/
structure Qs (w : World) (p : Nat) (pv : Value) (q : Q) : Prop where
  blk : Blk w p (cellsR q.frames q.most pv (sumL q.L) q.broken) QB
  own : Owns IE PT w pv q.L
  ne : pv.ownBlock ≠ some p
  ok : q.ok
/-- what a call may turn -/
def Foot (p : Nat) (pv : Value) (k : Nat) : Prop := k = p ∨ pv.ownBlock = some k
section
variable {w w' : World} {p : Nat} {pv : Value} {q : Q} (h : Qs w p pv q)
include h
theorem Qs.lt : p < w.heap.size := h.blk.lt
theorem Qs.vlt : ∀ g, pv.ownBlock = some g → g < w.heap.size := h.own.lt
theorem Qs.turns {S : Nat → Prop} (ht : Turns S w w') (hp : ¬ S p) (hv : ∀ g, pv.ownBlock = some g → ¬ S g) : Qs w' p pv q := ⟨ht.blk h.blk hp, h.own.turns ht hv, h.ne, h.ok⟩
theorem Qs.later (ht : New w w') : Qs w' p pv q := h.turns ht (fun h => h) (fun _ _ h => h)
theorem Qs.drewN (n : Nat) : Qs (w.drewN n) p pv q := ⟨h.blk, h.own, h.ne, h.ok⟩
theorem Qs.form : ∃ ao c, pv = .slice ao q.L.length c ∧ q.L.length ≤ c := by
  obtain ⟨ao, c, e, hc, _⟩ := h.own.form
  exact ⟨ao, c, e, hc⟩
theorem Qs.small : q.L.length ≤ 1024 := by have := h.ok.len; have := h.ok.f2; omega
end

theorem len (p : Nat) (pv : Value) (q : Q) (w : World) (h : Qs w p pv q) :
    Calls Try.prog 14 #[.pointer (some ⟨p, 0, none⟩)] w fun e w' => e = .returned (.int .i64 q.L.length) ∧ w' = w := by
  obtain ⟨ao, c, rfl, _⟩ := h.form
  have c2 := h.blk.cell 2
  clear h
  go_enter Try.func14, Try.ntmps14
  go_wp2
  go_ret
  exact ⟨rfl, rfl⟩
theorem size (p : Nat) (pv : Value) (q : Q) (w : World) (h : Qs w p pv q) :
    Calls Try.prog 15 #[.pointer (some ⟨p, 0, none⟩)] w fun e w' => e = .returned (.int .i64 (sumL q.L)) ∧ w' = w := by
  have c3 := h.blk.cell 3
  clear h
  go_enter Try.func15, Try.ntmps15
  go_wp2
  go_ret
  exact ⟨rfl, rfl⟩
theorem broken (p : Nat) (pv : Value) (q : Q) (w : World) (h : Qs w p pv q) :
    Calls Try.prog 17 #[.pointer (some ⟨p, 0, none⟩)] w fun e w' => e = .returned (.bool q.broken) ∧ w' = w := by
  have c4 := h.blk.cell 4
  clear h
  go_enter Try.func17, Try.ntmps17
  go_wp2
  go_ret
  exact ⟨rfl, rfl⟩

def fresh (frames most : Int) : Q := ⟨frames, most, [], true⟩
theorem new_bad (frames most : Int) (w : World) (h : frames < 1 ∨ (1 ≤ frames ∧ 1024 < frames) ∨ (1 ≤ frames ∧ frames ≤ 1024 ∧ most < 1) ∨ (1 ≤ frames ∧ frames ≤ 1024 ∧ 1 ≤ most ∧ 16777216 < most)) :
    Calls Try.prog 37 #[.int .i64 frames, .int .i64 most] w fun e w' => e = .returned (.tuple #[.pointer none, .int .i64 5]) ∧ w = w' := by
  rcases h with h1 | ⟨h1, h2⟩ | ⟨h1, h2, h3⟩ | ⟨h1, h2, h3, h4⟩
  all_goals
    go_enter Try.func37, Try.ntmps37
    go_wp2
    go_ret2
    exact ⟨rfl, rfl⟩
theorem new (frames most : Int) (w : World) (f1 : 1 ≤ frames) (f2 : frames ≤ 1024) (m1 : 1 ≤ most) (m2 : most ≤ 16777216) :
    Calls Try.prog 37 #[.int .i64 frames, .int .i64 most] w fun e w' => e = .returned (.tuple #[.pointer (some ⟨w.heap.size, 0, none⟩), .int .i64 0]) ∧ Qs w' w.heap.size (.slice none 0 0) (fresh frames most) ∧ New w w' := by
  have hb : Qs (w.alloc (.cells (cellsR frames most (.slice none 0 0) 0 true) QB)) w.heap.size (.slice none 0 0) (fresh frames most) :=
    ⟨Blk.new _ _ _, Owns.nil _ _, by simp [Value.ownBlock], ⟨f1, f2, m1, m2, by show (0 : Int) ≤ frames; omega, by show (0 : Int) ≤ most; omega, fun x hx => by cases hx⟩⟩
  have hn : New w (w.alloc (.cells (cellsR frames most (.slice none 0 0) 0 true) QB)) := (Turns.refl _ _).alloc _
  have HB := Lib.hid (And.intro hb hn)
  clear hb hn
  have h1 : ¬ frames < 1 := by omega
  have h2 : ¬ 1024 < frames := by omega
  have h3 : ¬ most < 1 := by omega
  have h4 : ¬ 16777216 < most := by omega
  go_enter Try.func37, Try.ntmps37
  go_wp2
  go_ret2
  exact ⟨rfl, HB.out⟩
end Go.Proofs.Ytcppibjllaablaa.que

/-
  queue.Queue in memory: the first items are taken out; the first one is dropped.
-/
namespace Go.Proofs.Ytcppibjllaablaa.que
open Go.RowKit mem
set_option linter.unusedVariables false

/-- items are taken out: v holds them -/
structure Gone (w w' : World) (p : Nat) (pv : Value) (q : Q) (v : Value) (D : List It) : Prop where
  fr : Fresh PT w w' v D
  qs : ∃ pv', Qs w' p pv' q ∧ pv'.ownBlock = pv.ownBlock
  turns : Turns (Foot p pv) w w'

theorem Owns.cases {w : World} {v : Value} {l : List It} (h : Owns IE PT w v l) : (v = .slice none 0 0 ∧ l = []) ∨ ∃ g cap, v = .slice (some ⟨g, 0, none⟩) l.length cap ∧ l.length ≤ cap ∧ cap ≤ maxLen := by
  rcases h.2 with ⟨e, h0⟩ | ⟨g, cap, cur, e, hb, hg, hc, hm, _⟩
  · exact .inl ⟨e, List.length_eq_zero_iff.1 h0⟩
  · exact .inr ⟨g, cap, e, hc, hm⟩
theorem Owns.head {w : World} {g cap : Nat} {l : List It} (h : Owns IE PT w (.slice (some ⟨g, 0, none⟩) l.length cap) l) (n : Nat) (hn : n ≤ l.length) : Sub IE 0 w (.slice (some ⟨g, 0, none⟩) n cap) (l.take n) := by
  rcases h.sub 0 (fun _ _ => Nat.zero_le _) with ⟨h, _⟩ | h
  · cases h
  · exact .inr (h.take n hn)

set_option maxHeartbeats 1000000 in
theorem remove (p : Nat) (pv : Value) (q : Q) (n : Nat) (w : World) (h : Qs w p pv q) (hn : n ≤ q.L.length) :
    Calls Try.prog 64 #[.pointer (some ⟨p, 0, none⟩), .int .i64 n] w fun e w' => ∃ v, e = .returned v ∧ Gone w w' p pv ⟨q.frames, q.most, q.L.drop n, q.broken⟩ v (q.L.take n) := by
  have hsm := h.small
  have hcl : Hid (∀ v w', Sub IE 0 w' v (q.L.take n) → _) := Lib.hid (fun v w' hs => clone v (q.L.take n) w' hs (by rw [List.length_take]; omega))
  have hdl : Hid (∀ w', Owns IE PT w' pv q.L → _) := Lib.hid (fun w' hs => delete pv q.L n w' hs hn (by omega))
  have hform := Owns.cases h.own
  have HS : Hid (∃ ao c, pv = .slice ao q.L.length c ∧ q.L.length ≤ c ∧ Sub IE 0 w (.slice ao n c) (q.L.take n)) := by
    rcases hform with ⟨e, e2⟩ | ⟨g, cap, e, hc, hm⟩
    · have hn0 : n = 0 := by rw [e2] at hn; simpa using hn
      refine Lib.hid ⟨none, 0, by rw [e, e2]; rfl, by rw [e2]; exact Nat.le_refl _, .inl ⟨by rw [hn0], by rw [hn0]; rfl⟩⟩
    · have ho := h.own
      rw [e] at ho
      exact Lib.hid ⟨_, cap, e, hc, Owns.head ho n hn⟩
  clear hform
  obtain ⟨ao, c, hpv, hc, hsub⟩ := HS.out
  have c2 := h.blk.cell 2
  rw [hpv] at c2
  have HQ := Lib.hid h
  have HSB := Lib.hid hsub
  have HPV := Lib.hid hpv
  have hnc : n ≤ c := by omega
  have hnm : n ≤ maxLen := by unfold maxLen; omega
  clear h hsub hpv HS
  go_enter Try.func64, Try.ntmps64
  go_wp2_with fail
  refine (hcl.out _ _ HSB.out).mono ?_
  rintro e w1 ⟨v1, rfl, fr1, n1⟩
  have hq1 := HQ.out.later n1
  have d2 := hq1.blk.cell 2
  rw [HPV.out] at d2
  have H1 := Lib.hid (And.intro fr1 (And.intro n1 hq1))
  clear fr1 n1 hq1 c2
  go_wp2_with fail
  rw [← HPV.out]
  refine (hdl.out _ H1.out.2.2.own).mono ?_
  rintro e w2 ⟨v2, rfl, ho2, t2, hb2⟩
  obtain ⟨fr1, n1, hq1⟩ := H1.out
  have hne2 : v2.ownBlock ≠ some p := by rw [hb2]; exact HQ.out.ne
  have bl2 := t2.blk hq1.blk (fun e => HQ.out.ne e)
  have hv1 : ∀ g, v1.ownBlock = some g → g ≠ p ∧ pv.ownBlock ≠ some g := fun g hg => ⟨fun e => by have := fr1.vb g hg; have := HQ.out.lt; omega, fun e => by have := fr1.vb g hg; have := HQ.out.vlt g e; omega⟩
  have ho1 := fr1.own.turns t2 (fun g hg => (hv1 g hg).2)
  have tt2 : Turns (Foot p pv) w w2 := (n1.mono (fun _ _ h => h.elim)).trans (t2.mono (fun k _ hk => .inl (.inr hk)))
  have H2 := Lib.hid (And.intro ho1 (And.intro ho2 (And.intro hb2 tt2)))
  have HV1 := Lib.hid (And.intro hv1 fr1.vb)
  have e2 := bl2.cell 2
  have f2 := bl2.free 2
  rw [HPV.out] at e2
  have HB2 := Lib.hid bl2
  obtain ⟨a2, cc2, hv2, _⟩ := ho2.form
  rw [List.length_drop] at hv2
  clear H1 fr1 n1 hq1 d2 ho1 ho2 hb2 tt2 t2 hv1 bl2
  subst hv2
  go_upto_region 3 with fail
  refine (show Code.wp _ _ _ _ (w2.setCell ⟨p, 2, none⟩ (.slice a2 (q.L.length - n) cc2)) from ?_)
  generalize Value.slice a2 (q.L.length - n) cc2 = v2 at *
  have HB3 : Hid (Blk (w2.setCell ⟨p, 2, none⟩ v2) p (cellsR q.frames q.most v2 (sumL q.L) q.broken) QB) := Lib.hid (HB2.out.set 2 v2)
  have t3 : Turns (· = p) w2 (w2.setCell ⟨p, 2, none⟩ v2) := (Turns.refl (· = p) _).setCell (.inl rfl) _
  have H3 : Hid (Owns IE PT (w2.setCell ⟨p, 2, none⟩ v2) v1 (q.L.take n) ∧ Owns IE PT (w2.setCell ⟨p, 2, none⟩ v2) v2 (q.L.drop n) ∧ v2.ownBlock = pv.ownBlock ∧ Turns (Foot p pv) w (w2.setCell ⟨p, 2, none⟩ v2)) :=
    Lib.hid ⟨H2.out.1.turns t3 (fun g hg e => (HV1.out.1 g hg).1 e), H2.out.2.1.turns t3 (fun g hg e => hne2 (by rw [hg, e])), H2.out.2.2.1, H2.out.2.2.2.trans (t3.mono (fun k _ hk => .inl (.inl hk)))⟩
  clear H2 HB2 e2 f2 t3
  generalize w2.setCell ⟨p, 2, none⟩ v2 = w3 at *
  have hlT : (q.L.take n).length = n := by rw [List.length_take]; omega
  obtain ⟨ao1, c1, hv1, hc1, hrd1, hbk1⟩ := H3.out.1.form
  rw [hlT] at hv1 hc1
  have hlt3 := HB3.out.lt
  have HRD := Lib.hid hrd1
  have HBK := Lib.hid hbk1
  have HV := Lib.hid hv1
  clear hrd1 hbk1
  subst hv1
  go_wp2_with fail
  go_loopw [26] (fun i wr => ∃ k : Nat, k ≤ n ∧ i = .int .i64 k ∧ Blk wr p (cellsR q.frames q.most v2 (sumL q.L - sumL (q.L.take k)) q.broken) QB ∧ Turns (· = p) w3 wr) (fun i _ => n - (intOf i).toNat)
  case atStart => exact ⟨0, Nat.zero_le _, rfl, by rw [List.take_zero]; show Blk w3 p (cellsR _ _ _ (sumL q.L - 0) _) QB; rw [Int.sub_zero]; exact HB3.out, Turns.refl _ _⟩
  case round =>
    obtain ⟨k, hk, rfl, hblk, hts⟩ := hrel
    by_cases hlt : k < n
    · obtain ⟨x, hx⟩ : ∃ x, q.L[k]? = some x := ⟨_, List.getElem?_eq_getElem (by omega)⟩
      have hxT : (q.L.take n)[k]? = some x := by rw [List.getElem?_take, if_pos hlt]; exact hx
      rcases HRD.out with h0 | ⟨g, hg, hgl, hcell⟩
      · rw [h0] at hxT; simp at hxT
      · subst hg
        have hgp : g ≠ p := (HV1.out.1 g rfl).1
        have hrow := fun (j : Nat) (u : Value) (hu : (IE.cs x)[j]? = some u) => (hts.cell (a := ⟨g, k * 4 + j, none⟩) hgl hgp).trans (hcell k x hxT j u hu)
        have r0 : wr.cell? ⟨g, k * 4, none⟩ = _ := hrow 0 _ rfl
        have r1 := hrow 1 _ rfl
        have r2 := hrow 2 _ rfl
        have r3 := hrow 3 _ rfl
        have hsum := sumL_at q.L k x hx
        have hp0 := HQ.out.ok.pos x (List.mem_of_getElem? hx)
        have hs1 := sumL_take_le q.L (k + 1) HQ.out.ok.pos
        have hs0 := sumL_pos _ (HQ.out.ok.pos.take k)
        have hsS := HQ.out.ok.sum
        have hsM := HQ.out.ok.m2
        rw [hsum] at hs1
        have HSUM := Lib.hid hsum
        obtain ⟨xn, xs, xt, xk⟩ := x
        dsimp only at *
        have e0 : Hid (sumL q.L - sumL (q.L.take k) - xs = sumL q.L - sumL (q.L.take (k + 1))) := Lib.hid (by rw [HSUM.out]; omega)
        have b0 : 0 ≤ sumL q.L - sumL (q.L.take k) - xs := by omega
        have b1 : sumL q.L - sumL (q.L.take k) ≤ 16777216 := by omega
        clear hrow hcell hxT hx hsum hs1 hs0 hsS hsM
        generalize sumL q.L - sumL (q.L.take k) = sz at *
        have HH := Lib.hid (And.intro hblk hts)
        have hpl := hblk.lt
        clear hblk hts
        go_upto_region 6 with fail
        refine (show Code.wp _ _ _ _ (wr.alloc (.cells #[.int .i64 xn, .int .i64 xs, .int .i64 xt, .bool xk] PT)) from ?_)
        have hb4 : Blk (wr.alloc (.cells #[.int .i64 xn, .int .i64 xs, .int .i64 xt, .bool xk] PT)) p (cellsR q.frames q.most v2 sz q.broken) QB := HH.out.1.alloc _
        have hx4 : Blk (wr.alloc (.cells #[.int .i64 xn, .int .i64 xs, .int .i64 xt, .bool xk] PT)) wr.heap.size #[.int .i64 xn, .int .i64 xs, .int .i64 xt, .bool xk] PT := Blk.new _ _ _
        have ht4 : Turns (· = p) w3 (wr.alloc (.cells #[.int .i64 xn, .int .i64 xs, .int .i64 xt, .bool xk] PT)) := HH.out.2.alloc _
        clear HH r0 r1 r2 r3
        generalize wr.alloc (.cells #[.int .i64 xn, .int .i64 xs, .int .i64 xt, .bool xk] PT) = w4 at *
        generalize wr.heap.size = px at *
        have c3 := hb4.cell 3
        have f3 := hb4.free 3
        have x1 := hx4.cell 1
        have H4 := Lib.hid (And.intro hb4 ht4)
        clear hb4 ht4 hx4
        go_region
        go_wp2_with fail
        go_roundw
        case rel => exact ⟨k + 1, by omega, by go_num, by rw [← e0.out]; exact H4.out.1.set 3 _, (H4.out.2.setCell (p := ⟨p, 3, none⟩) (.inl rfl) _).drew⟩
        case measure => simp [intOf]; omega
    · obtain rfl : k = n := by omega
      have hs : sumL q.L - sumL (q.L.take k) = sumL (q.L.drop k) := by have := sumL_cut q.L k; omega
      rw [hs] at hblk
      have HE : Hid (Gone w wr p pv ⟨q.frames, q.most, q.L.drop k, q.broken⟩ (.slice ao1 k c1) (q.L.take k)) := Lib.hid
        ⟨⟨H3.out.1.turns hts (fun g hg e => (HV1.out.1 g hg).1 e), HV1.out.2⟩, ⟨v2, ⟨hblk, H3.out.2.1.turns hts (fun g hg e => hne2 (by rw [hg, e])), hne2, HQ.out.ok.drop k _⟩, H3.out.2.2.1⟩, H3.out.2.2.2.trans (hts.mono (fun i _ hi => .inl (.inl hi)))⟩
      clear hblk hts hs
      go_wp2
      go_ret
      exact ⟨_, rfl, HE.out⟩

theorem Owns.cast {T : TypeId} {w : World} {v : Value} {l m : List It} (h : Owns IE T w v l) (e : l = m) : Owns IE T w v m := e ▸ h

/-- the first one is dropped -/
def dropQ (q : Q) : Q := ⟨q.frames, q.most, q.L.drop (dropN q.L), q.broken || decide (dropN q.L = q.L.length)⟩
set_option maxHeartbeats 1000000 in
theorem drop (p : Nat) (pv : Value) (q : Q) (w : World) (h : Qs w p pv q) (hne : q.L ≠ []) :
    Calls Try.prog 62 #[.pointer (some ⟨p, 0, none⟩)] w fun e w' => ∃ v, e = .returned v ∧ Gone w w' p pv (dropQ q) v (q.L.take (dropN q.L)) := by
  have hsm := h.small
  have hd1 := dropN_pos q.L
  have hdl := dropN_le q.L hne
  obtain ⟨ao, c, hpv, hc, hrd, _⟩ := h.own.form
  have HQ := Lib.hid h
  have HPV := Lib.hid hpv
  have HRD := Lib.hid hrd
  have c2 := h.blk.cell 2
  rw [hpv] at c2
  have hlm : q.L.length ≤ maxLen := by unfold maxLen; omega
  have HNE := Lib.hid hne
  clear h hrd hpv hne
  go_enter Try.func62, Try.ntmps62
  go_wp2_with fail
  go_loopw [3] (fun i wr => ∃ k : Nat, 1 ≤ k ∧ k ≤ q.L.length ∧ i = .int .i64 k ∧ wr = w ∧ k + runL (q.L.drop k) = dropN q.L) (fun i _ => q.L.length - (intOf i).toNat)
  case atStart => exact ⟨1, Nat.le_refl 1, by omega, rfl, rfl, rfl⟩
  case round =>
    obtain ⟨k, hk1, hk, rfl, rfl, hrun⟩ := hrel
    have HRUN := Lib.hid hrun
    clear hrun
    by_cases hlt : k < q.L.length
    · obtain ⟨x, hx⟩ : ∃ x, q.L[k]? = some x := ⟨_, List.getElem?_eq_getElem (by omega)⟩
      rcases HRD.out with h0 | ⟨g, hg, hgl, hcell⟩
      · exact absurd h0 HNE.out
      · subst hg
        have r3 : wr.cell? ⟨g, k * 4 + 3, none⟩ = some (.bool x.key) := hcell k x hx 3 _ rfl
        have HAT := Lib.hid (runL_at q.L k x hx)
        clear hcell hx
        obtain ⟨xn, xs, xt, xk⟩ := x
        dsimp only at *
        cases xk with
        | false =>
          go_wp2_with fail
          go_roundw
          case rel => exact ⟨k + 1, by omega, by omega, by go_num, trivial, by have := HRUN.out; rw [HAT.out] at this; simp at this; omega⟩
          case measure => simp [intOf]; omega
        | true =>
          have hkd : k = dropN q.L := by have := HRUN.out; rw [HAT.out] at this; simpa using this
          have hkl : ((k : Int) == (q.L.length : Int)) = false := by simp; omega
          have e : decide (dropN q.L = q.L.length) = false := decide_eq_false (by omega)
          have hq : dropQ q = ⟨q.frames, q.most, q.L.drop k, q.broken⟩ := by unfold dropQ; rw [e, Bool.or_false, ← hkd]
          have HG := Lib.hid (remove p pv q k wr HQ.out hk)
          have HE := Lib.hid hq
          have HKD := Lib.hid hkd
          clear hkd hq e hd1 hdl
          go_wp2_with fail
          refine HG.out.mono ?_
          rintro e w' ⟨v, rfl, hg⟩
          go_wp2
          go_ret
          exact ⟨_, rfl, by rw [HE.out, ← HKD.out]; exact hg⟩
    · obtain rfl : k = q.L.length := by omega
      have hkd : q.L.length = dropN q.L := by have := HRUN.out; rw [runL_end q.L _ (Nat.le_refl _)] at this; simpa using this
      have e : decide (dropN q.L = q.L.length) = true := decide_eq_true hkd.symm
      have hq : dropQ q = ⟨q.frames, q.most, q.L.drop q.L.length, true⟩ := by unfold dropQ; rw [e, Bool.or_true, ← hkd]
      have c4 := HQ.out.blk.cell 4
      have f4 := HQ.out.blk.free 4
      have tt : Turns (· = p) wr (wr.setCell ⟨p, 4, none⟩ (.bool true)) := (Turns.refl (· = p) _).setCell (.inl rfl) _
      have h2 : Qs (wr.setCell ⟨p, 4, none⟩ (.bool true)) p pv ⟨q.frames, q.most, q.L, true⟩ := ⟨HQ.out.blk.set 4 _, HQ.out.own.turns tt (fun g hg e => HQ.out.ne (by rw [hg, e])), HQ.out.ne, HQ.out.ok.bs true⟩
      have HG := Lib.hid (remove p pv _ q.L.length _ h2 (Nat.le_refl _))
      have HT := Lib.hid tt
      have HE := Lib.hid hq
      have HKD := Lib.hid hkd
      clear hkd hq e hd1 hdl h2 tt
      go_wp2_with fail
      refine HG.out.mono ?_
      rintro e w2 ⟨v, rfl, hg⟩
      have HH : Hid (Gone wr w2 p pv (dropQ q) v (q.L.take (dropN q.L))) := Lib.hid ⟨⟨Owns.cast hg.fr.own (by rw [← HKD.out]), fun g hgv => Nat.le_trans HT.out.size (hg.fr.vb g hgv)⟩, by rw [HE.out]; exact hg.qs, HT.out.mono (fun i _ hi => .inl hi) |>.trans (hg.turns.mono (fun _ _ hk => .inl hk))⟩
      clear hg HT HG
      go_wp2
      go_ret
      exact ⟨_, rfl, HH.out⟩
end Go.Proofs.Ytcppibjllaablaa.que

/-
  queue.Queue in memory: First, Pop, Break, refuses, Expire.
-/
namespace Go.Proofs.Ytcppibjllaablaa.que
open Go.RowKit mem
set_option linter.unusedVariables false

def It.v (x : It) : Value := .agg #[.int .i64 x.n, .int .i64 x.size, .int .i64 x.tick, .bool x.key]
theorem four {w : World} {p : Nat} {a b c d : Value} {T : TypeId} (h : Blk w p #[a, b, c, d] T) :
    (w.cell? ⟨p, 0, none⟩ = some a ∧ w.cell? ⟨p, 1, none⟩ = some b ∧ w.cell? ⟨p, 2, none⟩ = some c ∧ w.cell? ⟨p, 3, none⟩ = some d) ∧ w.frozen? ⟨p, 0, none⟩ = false ∧ w.frozen? ⟨p, 1, none⟩ = false ∧ w.frozen? ⟨p, 2, none⟩ = false ∧ w.frozen? ⟨p, 3, none⟩ = false :=
  ⟨⟨h.cell 0, h.cell 1, h.cell 2, h.cell 3⟩, h.free 0, h.free 1, h.free 2, h.free 3⟩
abbrev zcs : List Value := [.int .i64 0, .int .i64 0, .int .i64 0, .bool false]

/-- an item is stored into the block that holds the answer -/
theorem made4 {S : Nat → Prop} {w w1 : World} {pr : Nat} {T : TypeId} (hb : Blk w1 pr zcs.toArray T) (ht : Turns S w w1) (hp : w.heap.size ≤ pr) (x : List Value) (hx : x.length = 4) : Blk (puts w1 pr 0 x) pr x.toArray T ∧ Turns S w (puts w1 pr 0 x) :=
  ⟨puts_blk zcs x hb hx, puts_turns (.inr hp) _ 0 _ ht⟩

set_option maxHeartbeats 400000 in
theorem first_nil (p : Nat) (pv : Value) (q : Q) (w : World) (h : Qs w p pv q) (hL : q.L = []) :
    Calls Try.prog 13 #[.pointer (some ⟨p, 0, none⟩)] w fun e w' => e = .returned (.tuple #[zeroIt, .bool false]) ∧ New w w' := by
  obtain ⟨ao, c, hpv, hc⟩ := h.form
  have c2 := (h.blk.alloc (.cells #[.int .i64 0, .int .i64 0, .int .i64 0, .bool false] PT)).cell 2
  rw [hpv, hL] at c2
  have hb : Blk (w.alloc (.cells #[.int .i64 0, .int .i64 0, .int .i64 0, .bool false] PT)) w.heap.size zcs.toArray PT := Blk.new _ _ _
  have HM := Lib.hid (made4 (S := fun _ => False) hb ((Turns.refl _ _).alloc _) (Nat.le_refl _) zcs rfl)
  obtain ⟨⟨x0, x1, x2, x3⟩, y0, y1, y2, y3⟩ := four hb
  clear h hpv hc hb
  go_enter Try.func13, Try.ntmps13
  go_upto_region 1 with fail
  refine (show Code.wp _ _ _ _ (w.alloc (.cells #[.int .i64 0, .int .i64 0, .int .i64 0, .bool false] PT)) from ?_)
  generalize w.alloc (.cells #[.int .i64 0, .int .i64 0, .int .i64 0, .bool false] PT) = w1 at *
  generalize w.heap.size = pr at *
  go_wp2_with fail
  refine (show bodyPost _ _ _ _ _ (puts w1 pr 0 zcs) from ?_)
  clear x0 x1 x2 x3 y0 y1 y2 y3 c2
  generalize puts w1 pr 0 zcs = w9 at *
  obtain ⟨g0, g1, g2, g3⟩ := (four HM.out.1).1
  refine bodyPost_ret (v := .tuple #[zeroIt, .bool false]) (by simp [results, Try.results13, go_sem, g0, g1, g2, g3]) rfl ⟨rfl, HM.out.2⟩

set_option maxHeartbeats 400000 in
theorem first_cons (p : Nat) (pv : Value) (q : Q) (x : It) (w : World) (h : Qs w p pv q) (hx : q.L[0]? = some x) :
    Calls Try.prog 13 #[.pointer (some ⟨p, 0, none⟩)] w fun e w' => e = .returned (.tuple #[x.v, .bool true]) ∧ New w w' := by
  obtain ⟨ao, c, hpv, hc, hrd, _⟩ := h.own.form
  have hlt : 0 < q.L.length := (List.getElem?_eq_some_iff.1 hx).1
  have hsm := h.small
  have hlm : q.L.length ≤ maxLen := by unfold maxLen; omega
  rcases hrd with h0 | ⟨g, hg, hgl, hcell⟩
  · rw [h0] at hlt; simp at hlt
  subst hg
  have ht : New w (w.alloc (.cells #[.int .i64 0, .int .i64 0, .int .i64 0, .bool false] PT)) := (Turns.refl _ _).alloc _
  have c2 := (h.blk.alloc (.cells #[.int .i64 0, .int .i64 0, .int .i64 0, .bool false] PT)).cell 2
  rw [hpv] at c2
  have hrow := fun (j : Nat) (u : Value) (hu : (IE.cs x)[j]? = some u) => (ht.cell (a := ⟨g, 0 * 4 + j, none⟩) hgl (fun h => h)).trans (hcell 0 x hx j u hu)
  have r0 : (w.alloc (.cells #[.int .i64 0, .int .i64 0, .int .i64 0, .bool false] PT)).cell? ⟨g, 0, none⟩ = _ := hrow 0 _ rfl
  have r1 : (w.alloc (.cells #[.int .i64 0, .int .i64 0, .int .i64 0, .bool false] PT)).cell? ⟨g, 1, none⟩ = _ := hrow 1 _ rfl
  have r2 : (w.alloc (.cells #[.int .i64 0, .int .i64 0, .int .i64 0, .bool false] PT)).cell? ⟨g, 2, none⟩ = _ := hrow 2 _ rfl
  have r3 : (w.alloc (.cells #[.int .i64 0, .int .i64 0, .int .i64 0, .bool false] PT)).cell? ⟨g, 3, none⟩ = _ := hrow 3 _ rfl
  have hb : Blk (w.alloc (.cells #[.int .i64 0, .int .i64 0, .int .i64 0, .bool false] PT)) w.heap.size zcs.toArray PT := Blk.new _ _ _
  have HM := Lib.hid (made4 (S := fun _ => False) hb ht (Nat.le_refl _) x.cs rfl)
  obtain ⟨⟨x0, x1, x2, x3⟩, y0, y1, y2, y3⟩ := four hb
  have hd : decide ((q.L.length : Int) = 0) = false := decide_eq_false (by omega)
  have hd2 : ((q.L.length : Int) == 0) = false := beq_false_of_ne (by omega)
  clear h hpv hb hcell hrow hx
  obtain ⟨xn, xs, xt, xk⟩ := x
  dsimp only [It.cs, It.v] at *
  go_enter Try.func13, Try.ntmps13
  go_upto_region 1 with fail
  refine (show Code.wp _ _ _ _ (w.alloc (.cells #[.int .i64 0, .int .i64 0, .int .i64 0, .bool false] PT)) from ?_)
  have HG2 : g ≠ w.heap.size := Nat.ne_of_lt hgl
  generalize w.alloc (.cells #[.int .i64 0, .int .i64 0, .int .i64 0, .bool false] PT) = w1 at *
  generalize w.heap.size = pr at *
  go_wp2_with fail
  refine (show bodyPost _ _ _ _ _ (puts w1 pr 0 [.int .i64 xn, .int .i64 xs, .int .i64 xt, .bool xk]) from ?_)
  clear x0 x1 x2 x3 y0 y1 y2 y3 c2 r0 r1 r2 r3
  generalize puts w1 pr 0 [.int .i64 xn, .int .i64 xs, .int .i64 xt, .bool xk] = w9 at *
  obtain ⟨g0, g1, g2, g3⟩ := (four HM.out.1).1
  refine bodyPost_ret (v := .tuple #[.agg #[.int .i64 xn, .int .i64 xs, .int .i64 xt, .bool xk], .bool true]) (by simp [results, Try.results13, go_sem, g0, g1, g2, g3]) rfl ⟨rfl, HM.out.2⟩

theorem refuses (p : Nat) (pv : Value) (q : Q) (x : It) (w : World) (h : Qs w p pv q) :
    Calls Try.prog 61 #[.pointer (some ⟨p, 0, none⟩), x.v] w fun e w' => e = .returned (.bool (q.broken && !x.key)) ∧ New w w' := by
  have HN : Hid (New w (w.alloc (.cells x.cs.toArray PT))) := Lib.hid ((Turns.refl _ _).alloc _)
  have c4 := (h.blk.alloc (.cells x.cs.toArray PT)).cell 4
  have b3 := (Blk.new w x.cs.toArray PT).cell 3
  clear h
  obtain ⟨xn, xs, xt, xk⟩ := x
  dsimp only [It.cs, It.v] at *
  generalize q.broken = b at *
  go_enter Try.func61, Try.ntmps61
  go_upto_region 1 with fail
  refine (show Code.wp _ _ _ _ (w.alloc (.cells #[.int .i64 xn, .int .i64 xs, .int .i64 xt, .bool xk] PT)) from ?_)
  have c4' : (w.alloc (.cells #[.int .i64 xn, .int .i64 xs, .int .i64 xt, .bool xk] PT)).cell? ⟨p, 4, none⟩ = some (.bool b) := c4
  have b3' : (w.alloc (.cells #[.int .i64 xn, .int .i64 xs, .int .i64 xt, .bool xk] PT)).cell? ⟨w.heap.size, 3, none⟩ = some (.bool xk) := b3
  clear c4 b3
  generalize w.heap.size = pr at *
  have HN' : Hid (New w (w.alloc (.cells #[.int .i64 xn, .int .i64 xs, .int .i64 xt, .bool xk] PT))) := HN
  generalize w.alloc (.cells #[.int .i64 xn, .int .i64 xs, .int .i64 xt, .bool xk] PT) = w1 at *
  cases b
  · go_wp2
    go_ret
    exact ⟨rfl, HN'.out⟩
  · go_wp2
    go_ret
    exact ⟨rfl, HN'.out⟩

theorem pop_nil (p : Nat) (pv : Value) (q : Q) (w : World) (h : Qs w p pv q) (hL : q.L = []) :
    Calls Try.prog 41 #[.pointer (some ⟨p, 0, none⟩)] w fun e w' => e = .returned (.tuple #[zeroIt, .bool false]) ∧ New w w' := by
  obtain ⟨ao, c, hpv, hc⟩ := h.form
  have c2 := (h.blk.alloc (.cells #[.int .i64 0, .int .i64 0, .int .i64 0, .bool false] PT)).cell 2
  rw [hpv, hL] at c2
  have hb : Blk (w.alloc (.cells #[.int .i64 0, .int .i64 0, .int .i64 0, .bool false] PT)) w.heap.size zcs.toArray PT := Blk.new _ _ _
  have HM := Lib.hid (made4 (S := fun _ => False) hb ((Turns.refl _ _).alloc _) (Nat.le_refl _) zcs rfl)
  obtain ⟨⟨x0, x1, x2, x3⟩, y0, y1, y2, y3⟩ := four hb
  clear h hpv hc hb
  go_enter Try.func41, Try.ntmps41
  go_upto_region 1 with fail
  refine (show Code.wp _ _ _ _ (w.alloc (.cells #[.int .i64 0, .int .i64 0, .int .i64 0, .bool false] PT)) from ?_)
  generalize w.alloc (.cells #[.int .i64 0, .int .i64 0, .int .i64 0, .bool false] PT) = w1 at *
  generalize w.heap.size = pr at *
  go_wp2_with fail
  refine (show bodyPost _ _ _ _ _ (puts w1 pr 0 zcs) from ?_)
  clear x0 x1 x2 x3 y0 y1 y2 y3 c2
  generalize puts w1 pr 0 zcs = w9 at *
  obtain ⟨g0, g1, g2, g3⟩ := (four HM.out.1).1
  refine bodyPost_ret (v := .tuple #[zeroIt, .bool false]) (by simp [results, Try.results41, go_sem, g0, g1, g2, g3]) rfl ⟨rfl, HM.out.2⟩

/-- what a call leaves of the queue -/
structure Lft (w w' : World) (p : Nat) (pv : Value) (q : Q) : Prop where
  qs : ∃ pv', Qs w' p pv' q ∧ (pv'.ownBlock = pv.ownBlock ∨ ∃ g, pv'.ownBlock = some g ∧ w.heap.size ≤ g)
  turns : Turns (Foot p pv) w w'

set_option maxHeartbeats 400000 in
theorem pop_cons (p : Nat) (pv : Value) (q : Q) (x : It) (w : World) (h : Qs w p pv q) (hx : q.L[0]? = some x) :
    Calls Try.prog 41 #[.pointer (some ⟨p, 0, none⟩)] w fun e w' => e = .returned (.tuple #[x.v, .bool true]) ∧ Lft w w' p pv ⟨q.frames, q.most, q.L.drop 1, q.broken⟩ := by
  obtain ⟨ao, c, hpv, hc⟩ := h.form
  have hlt : 0 < q.L.length := (List.getElem?_eq_some_iff.1 hx).1
  have hsm := h.small
  have hlm : q.L.length ≤ maxLen := by unfold maxLen; omega
  have HQ := Lib.hid h
  have ht : New w (w.alloc (.cells #[.int .i64 0, .int .i64 0, .int .i64 0, .bool false] PT)) := (Turns.refl _ _).alloc _
  have HT := Lib.hid ht
  have HQ1 := Lib.hid (h.later ht)
  have hb : Blk (w.alloc (.cells #[.int .i64 0, .int .i64 0, .int .i64 0, .bool false] PT)) w.heap.size zcs.toArray PT := Blk.new _ _ _
  have HB := Lib.hid hb
  have c2 := HQ1.out.blk.cell 2
  rw [hpv] at c2
  have hd : decide ((q.L.length : Int) = 0) = false := decide_eq_false (by omega)
  have hd2 : ((q.L.length : Int) == 0) = false := beq_false_of_ne (by omega)
  have HP : Hid (w.heap.size ≠ p ∧ ∀ g, pv.ownBlock = some g → w.heap.size ≠ g) := Lib.hid ⟨Nat.ne_of_gt h.lt, fun g hg => Nat.ne_of_gt (h.vlt g hg)⟩
  have HX := Lib.hid hx
  clear h hpv hc hb ht hx
  go_enter Try.func41, Try.ntmps41
  go_upto_region 1 with fail
  refine (show Code.wp _ _ _ _ (w.alloc (.cells #[.int .i64 0, .int .i64 0, .int .i64 0, .bool false] PT)) from ?_)
  generalize w.alloc (.cells #[.int .i64 0, .int .i64 0, .int .i64 0, .bool false] PT) = w1 at *
  have hle : w.heap.size ≤ w.heap.size := Nat.le_refl _
  generalize hpr : w.heap.size = pr at *
  have HLE := Lib.hid hpr
  clear hle hpr
  go_wp2_with fail
  refine (remove p pv q 1 w1 HQ1.out hlt).mono ?_
  rintro e w2 ⟨v2, rfl, hg⟩
  have hb2 := hg.turns.blk HB.out (fun e => by
    rcases e with e | e
    · exact HP.out.1 e
    · exact HP.out.2 _ e rfl)
  obtain ⟨ao2, cc2, hv2, hc2, hrd, _⟩ := hg.fr.own.form
  have hlT : (q.L.take 1).length = 1 := by rw [List.length_take]; omega
  rw [hlT] at hv2 hc2
  have hxT : (q.L.take 1)[0]? = some x := by rw [List.getElem?_take, if_pos (by omega)]; exact HX.out
  rcases hrd with h0 | ⟨g, hg2, hgl, hcell⟩
  · rw [h0] at hlT; simp at hlT
  subst hg2
  have r0 : w2.cell? ⟨g, 0, none⟩ = _ := hcell 0 x hxT 0 _ rfl
  have r1 : w2.cell? ⟨g, 1, none⟩ = _ := hcell 0 x hxT 1 _ rfl
  have r2 : w2.cell? ⟨g, 2, none⟩ = _ := hcell 0 x hxT 2 _ rfl
  have r3 : w2.cell? ⟨g, 3, none⟩ = _ := hcell 0 x hxT 3 _ rfl
  have hgp : g ≠ pr := fun e => by
    have := hg.fr.vb g (by rw [hv2]; rfl)
    have h3 := HB.out.lt
    omega
  obtain ⟨⟨x0, x1, x2, x3⟩, y0, y1, y2, y3⟩ := four hb2
  have HM := Lib.hid (made4 (S := fun k => Foot p pv k) hb2 ((HT.out.mono (fun _ _ h => h.elim)).trans (hg.turns.mono (fun _ _ h => .inl h))) (by rw [HLE.out]; exact Nat.le_refl _) x.cs rfl)
  obtain ⟨pv', hq2, hpe⟩ := hg.qs
  have t9 : Turns (· = pr) w2 (puts w2 pr 0 x.cs) := puts_turns (S := (· = pr)) (.inl rfl) _ 0 _ (Turns.refl _ _)
  have HQ9 := Lib.hid (And.intro (hq2.turns t9 (fun e => HP.out.1 e.symm) (fun g hg e => HP.out.2 g (hpe ▸ hg) e.symm)) hpe)
  clear hg hq2 hpe t9 hcell hxT hlT hb2 c2
  obtain ⟨xn, xs, xt, xk⟩ := x
  dsimp only [It.cs, It.v] at *
  subst hv2
  go_wp2_with fail
  refine (show bodyPost _ _ _ _ _ (puts w2 pr 0 [.int .i64 xn, .int .i64 xs, .int .i64 xt, .bool xk]) from ?_)
  clear x0 x1 x2 x3 y0 y1 y2 y3 r0 r1 r2 r3
  generalize puts w2 pr 0 [.int .i64 xn, .int .i64 xs, .int .i64 xt, .bool xk] = w9 at *
  obtain ⟨g0, g1, g2, g3⟩ := (four HM.out.1).1
  refine bodyPost_ret (v := .tuple #[.agg #[.int .i64 xn, .int .i64 xs, .int .i64 xt, .bool xk], .bool true]) (by simp [results, Try.results41, go_sem, g0, g1, g2, g3]) rfl ⟨rfl, ⟨⟨pv', HQ9.out.1, .inl HQ9.out.2⟩, HM.out.2⟩⟩

/-- all go -/
theorem break_ (p : Nat) (pv : Value) (q : Q) (w : World) (h : Qs w p pv q) :
    Calls Try.prog 44 #[.pointer (some ⟨p, 0, none⟩)] w fun e w' => ∃ v, e = .returned v ∧ Gone w w' p pv ⟨q.frames, q.most, [], true⟩ v q.L := by
  obtain ⟨ao, c, hpv, hc⟩ := h.form
  have hsm := h.small
  have hlm : q.L.length ≤ maxLen := by unfold maxLen; omega
  have c4 := h.blk.cell 4
  have f4 := h.blk.free 4
  have tt : Turns (· = p) w (w.setCell ⟨p, 4, none⟩ (.bool true)) := (Turns.refl (· = p) _).setCell (.inl rfl) _
  have h2 : Qs (w.setCell ⟨p, 4, none⟩ (.bool true)) p pv ⟨q.frames, q.most, q.L, true⟩ := ⟨h.blk.set 4 _, h.own.turns tt (fun g hg e => h.ne (by rw [hg, e])), h.ne, h.ok.bs true⟩
  have HG := Lib.hid (remove p pv _ q.L.length _ h2 (Nat.le_refl _))
  have HT := Lib.hid tt
  have c2 := h2.blk.cell 2
  rw [hpv] at c2
  clear h2 tt h hpv
  go_enter Try.func44, Try.ntmps44
  go_upto_region 2 with fail
  refine (show Code.wp _ _ _ _ (w.setCell ⟨p, 4, none⟩ (.bool true)) from ?_)
  generalize w.setCell ⟨p, 4, none⟩ (.bool true) = w1 at *
  go_wp2_with fail
  refine HG.out.mono ?_
  rintro e w2 ⟨v, rfl, hg⟩
  have hq := hg.qs
  rw [show (⟨q.frames, q.most, q.L.drop q.L.length, true⟩ : Q) = ⟨q.frames, q.most, [], true⟩ by rw [List.drop_length]] at hq
  have HH : Hid (Gone w w2 p pv ⟨q.frames, q.most, [], true⟩ v q.L) := Lib.hid ⟨⟨Owns.cast hg.fr.own (by simp), fun g hgv => Nat.le_trans HT.out.size (hg.fr.vb g hgv)⟩, hq, HT.out.mono (fun i _ hi => .inl hi) |>.trans (hg.turns.mono (fun _ _ hk => .inl hk))⟩
  clear hg HT HG hq
  go_wp2
  go_ret
  exact ⟨_, rfl, HH.out⟩
end Go.Proofs.Ytcppibjllaablaa.que

/-
  queue.Queue in memory: Expire.
-/
namespace Go.Proofs.Ytcppibjllaablaa.que
open Go.RowKit mem
set_option linter.unusedVariables false

/-- the length of a slice -/
def slen : Value → Nat
  | .slice _ n _ => n
  | _ => 0
def qk (q : Q) (k : Nat) : Q := ⟨q.frames, q.most, q.L.drop k, brk q.broken q.L k⟩
theorem qk_zero (q : Q) : qk q 0 = q := by unfold qk; rw [brk_zero, List.drop_zero]
theorem qk_drop (q : Q) (k : Nat) (hk : k < q.L.length) : dropQ (qk q k) = qk q (k + dropN (q.L.drop k)) := by
  have h := brk_step q.broken q.L k (dropN (q.L.drop k)) hk (dropN_pos _)
  unfold dropQ qk
  simp only
  rw [h, List.drop_drop]
theorem take_more (L : List It) (k d : Nat) : L.take k ++ (L.drop k).take d = L.take (k + d) := (List.take_add).symm
theorem Gone.zero {w : World} {p : Nat} {pv : Value} {q : Q} (h : Qs w p pv q) : Gone w w p pv (qk q 0) (.slice none 0 0) (q.L.take 0) :=
  ⟨⟨Owns.nil _ _, fun g hg => by simp [Value.ownBlock] at hg⟩, ⟨pv, by rw [qk_zero]; exact h, rfl⟩, Turns.refl _ _⟩
theorem Gone.apart {w w1 : World} {p : Nat} {pv v : Value} {q : Q} {D : List It} (h : Gone w w1 p pv q v D) (hp : p < w.heap.size) (hpv : ∀ g, pv.ownBlock = some g → g < w.heap.size) : ∀ g, v.ownBlock = some g → g ≠ p ∧ pv.ownBlock ≠ some g := fun g hg =>
  ⟨fun e => by have := h.fr.vb g hg; omega, fun e => by have := h.fr.vb g hg; have := hpv g e; omega⟩
theorem Gone.still {w w1 w2 : World} {p : Nat} {pv pv1 v u : Value} {q q2 : Q} {D D2 : List It} (h : Gone w w1 p pv q v D) (e1 : pv1.ownBlock = pv.ownBlock) (h2 : Gone w1 w2 p pv1 q2 u D2) (hp : p < w.heap.size) (hpv : ∀ g, pv.ownBlock = some g → g < w.heap.size) : Owns IE PT w2 v D := by
  have ha := h.apart hp hpv
  refine h.fr.own.turns h2.turns (fun g hg => ?_)
  rintro (e | e)
  · exact (ha g hg).1 e
  · exact (ha g hg).2 (e1 ▸ e)
theorem Gone.grow {w w1 w2 w3 : World} {p : Nat} {pv pv1 v u v' : Value} {q q2 : Q} {D D2 : List It} (h : Gone w w1 p pv q v D) (e1 : pv1.ownBlock = pv.ownBlock) (h2 : Gone w1 w2 p pv1 q2 u D2) (hp : p < w.heap.size) (hpv : ∀ g, pv.ownBlock = some g → g < w.heap.size)
    (ho : Owns IE PT w3 v' (D ++ D2)) (hg : w2.grownBy w3 v.ownBlock) (ha : v'.ownBlock = v.ownBlock ∨ v'.ownBlock = some w2.heap.size) : Gone w w3 p pv q2 v' (D ++ D2) := by
  have hap := h.apart hp hpv
  have tg := Turns.of_grown hg
  have t2 : Turns (Foot p pv) w w2 := h.turns.trans (h2.turns.mono (fun k _ hk => .inl (by rcases hk with hk | hk; exact .inl hk; exact .inr (e1 ▸ hk))))
  obtain ⟨pv2, hq2, he2⟩ := h2.qs
  refine ⟨⟨ho, fun g hg' => ?_⟩, ⟨pv2, hq2.turns tg (fun e => (hap p e.symm).1 rfl) (fun g hg' e => (hap g e.symm).2 (by rw [← e1, ← he2]; exact hg')), he2.trans e1⟩, t2.trans (tg.mono (fun k _ hk => .inr (h.fr.vb k hk.symm)))⟩
  rcases ha with e | e
  · exact h.fr.vb g (e ▸ hg')
  · rw [e] at hg'; injection hg' with hg'; have := t2.size; omega

set_option maxHeartbeats 1000000 in
theorem expire (p : Nat) (pv : Value) (q : Q) (now age : Int) (w : World) (h : Qs w p pv q) (n0 : 0 ≤ now) (n1 : now ≤ 2199023255552) (ht : ∀ x ∈ q.L, 0 ≤ x.tick ∧ x.tick ≤ 2199023255552) :
    Calls Try.prog 42 #[.pointer (some ⟨p, 0, none⟩), .int .i64 now, .int .i64 age] w fun e w' => ∃ v, e = .returned v ∧ Gone w w' p pv (expQ q now age) v (expD q now age) := by
  have hsm := h.small
  have HG0 := Lib.hid (Gone.zero h)
  have HP := Lib.hid h.lt
  have HPV := Lib.hid h.vlt
  have HT := Lib.hid ht
  have h00 : late now age [] = false := rfl
  have H00 := Lib.hid h00
  clear h ht h00
  go_enter Try.func42, Try.ntmps42
  go_wp2_with fail
  go_loopw [7] (fun v wr => ∃ k : Nat, k ≤ q.L.length ∧ k + sh (late now age) (q.L.drop k) = sh (late now age) q.L ∧ (∃ ao c, v = .slice ao k c) ∧ Gone w wr p pv (qk q k) v (q.L.take k)) (fun v _ => q.L.length - slen v)
  case atStart => exact ⟨0, Nat.zero_le _, by rw [List.drop_zero, Nat.zero_add], ⟨none, 0, rfl⟩, HG0.out⟩
  case round =>
    obtain ⟨k, hk, hsh, ⟨ao7, c7, rfl⟩, hg⟩ := hrel
    obtain ⟨pv1, hq1, he1⟩ := hg.qs
    obtain ⟨ao, c, hpv1, hc, hrd, _⟩ := hq1.own.form
    have hlen : (qk q k).L.length = q.L.length - k := List.length_drop
    rw [hlen] at hpv1 hc
    have c2 := hq1.blk.cell 2
    rw [hpv1] at c2
    have HG := Lib.hid hg
    have HSH := Lib.hid hsh
    have HQ1 := Lib.hid (And.intro hq1 he1)
    have HPV1 := Lib.hid hpv1
    have hlm : q.L.length ≤ maxLen := by unfold maxLen; omega
    by_cases hlt : k < q.L.length
    · obtain ⟨y, hy⟩ : ∃ y, q.L[k]? = some y := ⟨_, List.getElem?_eq_getElem hlt⟩
      have hy0 : (qk q k).L[0]? = some y := by show (q.L.drop k)[0]? = _; rw [List.getElem?_drop]; exact hy
      obtain ⟨r, hr⟩ : ∃ r, q.L.drop k = y :: r := by
        obtain ⟨hlt', e⟩ := List.getElem?_eq_some_iff.1 hy
        exact ⟨_, by rw [List.drop_eq_getElem_cons hlt', e]⟩
      have hty := HT.out y (List.mem_of_getElem? hy)
      rcases hrd with h0 | ⟨g, hg2, hgl, hcell⟩
      · rw [show (qk q k).L = q.L.drop k from rfl, hr] at h0; cases h0
      subst hg2
      have r2 : wr.cell? ⟨g, 2, none⟩ = some (.int .i64 y.tick) := hcell 0 y hy0 2 _ rfl
      obtain ⟨t0, t1⟩ := hty
      have hlate : Hid (late now age (q.L.drop k) = decide (age ≤ now - y.tick)) := Lib.hid (by rw [hr]; rfl)
      have hne : Hid (q.L.drop k ≠ []) := Lib.hid (by rw [hr]; simp)
      generalize y.tick = ty at *
      have hw : IntKind.i64.wrap (now - ty) = now - ty := IntWalk.i64_in _ (by omega)
      have hd : decide ((0 : Int) < ((q.L.length - k : Nat) : Int)) = true := decide_eq_true (by omega)
      clear hg hsh hq1 he1 hpv1 hcell hy hy0 hr
      by_cases hl : age ≤ now - ty
      · have hl2 : decide (age ≤ now - ty) = true := decide_eq_true hl
        have HL : Hid (late now age (q.L.drop k) = true) := Lib.hid (by rw [hlate.out]; exact hl2)
        have HGO := Lib.hid (sh_go (late now age) H00.out (q.L.drop k) HL.out)
        clear hlate
        go_wp2_with fail
        refine (drop p pv1 (qk q k) wr HQ1.out.1 hne.out).mono ?_
        rintro e w2 ⟨u, rfl, hg2⟩
        have hdl := dropN_le (q.L.drop k) hne.out
        have hd1 := dropN_pos (q.L.drop k)
        rw [List.length_drop] at hdl
        have HG2 : Hid (Gone wr w2 p pv1 (qk q (k + dropN (q.L.drop k))) u ((q.L.drop k).take (dropN (q.L.drop k)))) := Lib.hid (by rw [← qk_drop q k hlt]; exact hg2)
        have HA1 := Lib.hid (HG.out.still HQ1.out.2 hg2 HP.out HPV.out)
        have HA2 := Lib.hid (HG2.out.fr.own.sub 0 (fun _ _ => Nat.zero_le _))
        have hll : Hid ((q.L.take k).length + ((q.L.drop k).take (dropN (q.L.drop k))).length ≤ 1048576) := Lib.hid (by simp only [List.length_take, List.length_drop]; omega)
        clear hg2 c2 r2
        go_wp2_with (at_builtin; refine wpList_append_sub (E := IE) Try.underlying97 infoP rfl (by decide) (by decide) rfl _ _ rfl _ (q.L.take k) _ rfl HA1.out _ rfl 0 HA2.out hll.out ?_; intro v3 w3 hown3 hgrow3 hat3)
        have hG3 := HG.out.grow HQ1.out.2 HG2.out HP.out HPV.out hown3 hgrow3 hat3
        rw [take_more] at hG3 hown3
        obtain ⟨a3, c3, hv3, _⟩ := hown3.form
        rw [show (q.L.take (k + dropN (q.L.drop k))).length = k + dropN (q.L.drop k) by rw [List.length_take]; omega] at hv3
        have HE := Lib.hid hG3
        have HGO2 := HGO.out.2
        rw [List.drop_drop] at HGO2
        have HS2 : Hid (k + dropN (q.L.drop k) + sh (late now age) (q.L.drop (k + dropN (q.L.drop k))) = sh (late now age) q.L) := Lib.hid (by have := HSH.out; omega)
        clear hown3 hgrow3 hat3 hG3 HGO2 HA1 HA2 hll HGO HSH
        generalize dropN (q.L.drop k) = d at *
        subst hv3
        go_roundw
        case rel => exact ⟨k + d, by omega, HS2.out, ⟨_, _, rfl⟩, HE.out⟩
        case measure => show q.L.length - (k + d) < q.L.length - k; omega
      · have hl2 : decide (age ≤ now - ty) = false := decide_eq_false hl
        have HL : Hid (late now age (q.L.drop k) = false) := Lib.hid (by rw [hlate.out]; exact hl2)
        have HE : Hid (Gone w wr p pv (expQ q now age) (.slice ao7 k c7) (expD q now age)) := Lib.hid (by
          have e : expK q now age = k := by have := HSH.out; rw [sh_end _ _ HL.out] at this; unfold expK; omega
          unfold expQ expD
          rw [e]
          exact HG.out)
        clear hlate HG HL
        go_wp2
        go_ret
        exact ⟨_, rfl, HE.out⟩
    · obtain rfl : k = q.L.length := by omega
      have HE : Hid (Gone w wr p pv (expQ q now age) (.slice ao7 q.L.length c7) (expD q now age)) := Lib.hid (by
        have e : expK q now age = q.L.length := by
          have := HSH.out
          rw [List.drop_length, sh_end _ _ H00.out] at this
          unfold expK; omega
        unfold expQ expD
        rw [e]
        exact HG.out)
      clear HG hg hq1 hrd hpv1
      have hz : q.L.length - q.L.length = 0 := Nat.sub_self _
      rw [hz] at c2
      go_wp2
      go_ret
      exact ⟨_, rfl, HE.out⟩
end Go.Proofs.Ytcppibjllaablaa.que
