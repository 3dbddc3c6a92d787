/-
  Parts of the proof, one behind the other.
-/
import Derived.Test.YtcppibjllaablaaGreatMem
import Derived.Maps.AppendAt
import Derived.Deep.AppendLies
import Derived.Laws.AppendOwnNone
import Derived.OwnWalk
import Derived.Maps.OwnSet
import Derived.Maps.StringElems
import Derived.Deep.Draws
import Derived.Test.YtcppibjllaablaaGreatRows
import Derived.Handy
import Derived.Lib.Hide
import Derived.Outline
import Derived.WalkLawsBesides
import Derived.IntWalk
import Derived.RegionTactic
import Derived.Maps.RangeWalk
import Derived.BigQuiet
import Derived.Deep.DeepCutAuto
import Derived.Deep.QuietTactic
import Derived.Test.YtcppibjllaablaaGreatShelfI
import Derived.Deep.RegionHeld3
import Derived.ArgAppend
import Derived.Lib.SliceRun
import Derived.Deep.RegionLaw
/-
  drr, as pure functions: flows, whose turn it is, Choose, Take. No program.
-/
namespace Go.Proofs.YtcppibjllaablaaGreat.drr
open Go.RowKit mem
set_option linter.unusedVariables false

/-- a flow: its number, the block that holds it, its share, its balance -/
structure Fl where
  id : Int
  b : Nat
  share : Int
  left : Int
structure Sc where
  most : Int
  L : List Fl
  turn : Int
  g : Bool

def fnd (L : List Fl) (id : Int) : Option Fl := L.find? (fun f => f.id == id)
theorem fnd_some {L : List Fl} {id : Int} {f : Fl} (h : fnd L id = some f) : f ∈ L ∧ f.id = id := by
  refine ⟨List.mem_of_find?_eq_some h, ?_⟩
  have := List.find?_some h
  simpa using this
/-- no two flows have a number, or a block, in common -/
def Ap (L : List Fl) : Prop := L.Pairwise (fun f g => f.id ≠ g.id ∧ f.b ≠ g.b)
theorem Ap.eq {L : List Fl} (h : Ap L) : ∀ {f g : Fl}, f ∈ L → g ∈ L → (f.id = g.id ∨ f.b = g.b) → f = g := by
  induction L with
  | nil => intro f g hf; cases hf
  | cons x l ih =>
    have hp := List.pairwise_cons.1 h
    intro f g hf hg e
    rcases List.mem_cons.1 hf with hf | hf <;> rcases List.mem_cons.1 hg with hg | hg
    · rw [hf, hg]
    · have := hp.1 g hg
      rw [← hf] at this
      rcases e with e | e
      · exact absurd e this.1
      · exact absurd e this.2
    · have := hp.1 f hf
      rw [← hg] at this
      rcases e with e | e
      · exact absurd e.symm this.1
      · exact absurd e.symm this.2
    · exact ih hp.2 hf hg e
theorem Ap.fnd {L : List Fl} (h : Ap L) {f : Fl} (hf : f ∈ L) : fnd L f.id = some f := by
  unfold drr.fnd
  cases hx : L.find? (fun g => g.id == f.id) with
  | none =>
    have := List.find?_eq_none.1 hx f hf
    simp at this
  | some g =>
    obtain ⟨h1, h2⟩ := fnd_some (L := L) (id := f.id) hx
    rw [h.eq h1 hf (.inl h2)]

/-- each flow's balance anew -/
def upd (L : List Fl) (F : Fl → Int) : List Fl := L.map (fun f => ⟨f.id, f.b, f.share, F f⟩)
theorem upd_mem {L : List Fl} {F : Fl → Int} {g : Fl} (h : g ∈ upd L F) : ∃ f ∈ L, g = ⟨f.id, f.b, f.share, F f⟩ := by
  obtain ⟨f, hf, e⟩ := List.mem_map.1 h
  exact ⟨f, hf, e.symm⟩
theorem upd_mem' {L : List Fl} {F : Fl → Int} {f : Fl} (h : f ∈ L) : (⟨f.id, f.b, f.share, F f⟩ : Fl) ∈ upd L F := List.mem_map.2 ⟨f, h, rfl⟩
theorem Ap.upd {L : List Fl} (h : Ap L) (F : Fl → Int) : Ap (upd L F) := by
  unfold Ap drr.upd
  rw [List.pairwise_map]
  exact h
theorem fnd_upd (L : List Fl) (F : Fl → Int) (id : Int) : fnd (upd L F) id = (fnd L id).map (fun f => ⟨f.id, f.b, f.share, F f⟩) := by
  unfold fnd upd
  induction L with
  | nil => rfl
  | cons x l ih =>
    rw [List.map_cons, List.find?_cons, List.find?_cons]
    dsimp only
    split
    · rfl
    · exact ih
theorem upd_same (L : List Fl) (F : Fl → Int) (h : ∀ f ∈ L, F f = f.left) : upd L F = L := by
  unfold upd
  rw [List.map_congr_left (g := id) (fun f hf => by rw [h f hf]; rfl), List.map_id]
theorem upd_upd (L : List Fl) (F G : Fl → Int) : upd (upd L F) G = upd L (fun f => G ⟨f.id, f.b, f.share, F f⟩) := by
  unfold upd
  rw [List.map_map]
  rfl
theorem upd_congr {L : List Fl} {F G : Fl → Int} (h : ∀ f ∈ L, F f = G f) : upd L F = upd L G := by
  unfold upd
  exact List.map_congr_left (fun f hf => by rw [h f hf])
def setL (L : List Fl) (id x : Int) : List Fl := upd L (fun f => if f.id = id then x else f.left)

/-- the heads of flows: number and size -/
abbrev Hs := List (Int × Int)
def ids (l : Hs) : List Int := l.map (·.1)
def sizeOf' (l : Hs) (id : Int) : Int := match l.find? (fun h => h.1 == id) with | some h => h.2 | none => 0
theorem sizeOf_mem {l : Hs} {id : Int} (h : id ∈ ids l) : (id, sizeOf' l id) ∈ l := by
  unfold sizeOf'
  cases hx : l.find? (fun h => h.1 == id) with
  | none =>
    obtain ⟨y, hy, e⟩ := List.mem_map.1 h
    have := List.find?_eq_none.1 hx y hy
    simp [e] at this
  | some y =>
    have h1 := List.mem_of_find?_eq_some hx
    have h2 := List.find?_some hx
    simp at h2
    subst h2
    exact h1
/-- the next number behind t -/
def nextId (l : List Int) (t : Int) : Int := l.getD ((l.countP (fun x => decide (x < t)) + (if t ∈ l then 1 else 0)) % l.length) 0
theorem nextId_mem {l : List Int} (hl : l ≠ []) (t : Int) : nextId l t ∈ l := by
  unfold nextId
  have h0 : 0 < l.length := List.length_pos_iff.2 hl
  have hlt : (l.countP (fun x => decide (x < t)) + (if t ∈ l then 1 else 0)) % l.length < l.length := Nat.mod_lt _ h0
  rw [List.getD_eq_getElem?_getD, List.getElem?_eq_getElem hlt]
  exact List.getElem_mem hlt

def forgetF (l : Hs) (f : Fl) : Int := if f.id ∈ ids l then f.left else 0
def grantS (s : Sc) : Sc := if s.g then s else ⟨s.most, upd s.L (fun f => if f.id = s.turn then f.left + f.share else f.left), s.turn, true⟩
def passS (l : Hs) (s : Sc) : Sc := ⟨s.most, s.L, nextId (ids l) s.turn, false⟩
def leftOf (s : Sc) (id : Int) : Int := match fnd s.L id with | some f => f.left | none => 0
def lowS (l : Hs) (s : Sc) : Bool := decide (leftOf (grantS s) s.turn < sizeOf' l s.turn)
def runS (l : Hs) (s : Sc) : Sc := if lowS l s then grantS (passS l (grantS s)) else grantS s
def begS (l : Hs) (s : Sc) : Sc := ⟨s.most, upd s.L (forgetF l), s.turn, s.g⟩
def firS (l : Hs) (s : Sc) : Sc := if s.turn ∈ ids l then begS l s else passS l (begS l s)
def chooseS (l : Hs) (s : Sc) : Sc := match l with
  | [] => ⟨s.most, upd s.L (forgetF []), s.turn, false⟩
  | _ :: _ => runS l (firS l s)
def takeS (n : Int) (s : Sc) : Sc := if s.g = true ∧ 0 ≤ n ∧ n ≤ leftOf s s.turn then ⟨s.most, upd s.L (fun f => if f.id = s.turn then f.left - n else f.left), s.turn, s.g⟩ else s

structure Sc.ok (s : Sc) : Prop where
  m0 : 1 ≤ s.most
  m1 : s.most ≤ 16777216
  f : ∀ f ∈ s.L, s.most ≤ f.share ∧ f.share ≤ 16777216 ∧ 0 ≤ f.left ∧ f.left < s.most + f.share ∧ (f.id ≠ s.turn ∨ s.g = false → f.left < s.most)
  t : s.g = true → ∃ f ∈ s.L, f.id = s.turn
/-- heads that may be told: rising numbers, of flows that are there -/
structure Ok (s : Sc) (l : Hs) : Prop where
  asc : (ids l).Pairwise (· < ·)
  fl : ∀ h ∈ l, ∃ f ∈ s.L, f.id = h.1
  sz : ∀ h ∈ l, 0 ≤ h.2 ∧ h.2 ≤ s.most

theorem Sc.ok.beg {s : Sc} (h : s.ok) (l : Hs) : (begS l s).ok := by
  refine ⟨h.m0, h.m1, fun g hg => ?_, fun e => ?_⟩
  · obtain ⟨f, hf, rfl⟩ := upd_mem hg
    obtain ⟨h1, h2, h3, h4, h5⟩ := h.f f hf
    have hm := h.m0
    show s.most ≤ f.share ∧ f.share ≤ 16777216 ∧ 0 ≤ forgetF l f ∧ forgetF l f < s.most + f.share ∧ (f.id ≠ s.turn ∨ s.g = false → forgetF l f < s.most)
    unfold forgetF
    split
    · exact ⟨h1, h2, h3, h4, h5⟩
    · exact ⟨h1, h2, Int.le_refl _, by omega, fun _ => by omega⟩
  · obtain ⟨f, hf, e⟩ := h.t e
    exact ⟨_, upd_mem' hf, e⟩
theorem Sc.ok.pass {s : Sc} (h : s.ok) (l : Hs) (hl : ∀ f ∈ s.L, f.id = s.turn → f.left < s.most) : (passS l s).ok :=
  ⟨h.m0, h.m1, fun f hf => by
    obtain ⟨h1, h2, h3, h4, h5⟩ := h.f f hf
    refine ⟨h1, h2, h3, h4, fun _ => ?_⟩
    by_cases e : f.id = s.turn
    · exact hl f hf e
    · exact h5 (.inl e), fun e => by cases e⟩
theorem Sc.ok.grant {s : Sc} (h : s.ok) (ht : ∃ f ∈ s.L, f.id = s.turn) : (grantS s).ok := by
  unfold grantS
  split
  next => exact h
  next hg =>
    refine ⟨h.m0, h.m1, fun g hgm => ?_, fun _ => ?_⟩
    · obtain ⟨f, hf, rfl⟩ := upd_mem hgm
      obtain ⟨h1, h2, h3, h4, h5⟩ := h.f f hf
      have h6 := h5 (.inr (by simpa using hg))
      refine ⟨h1, h2, ?_, ?_, fun e => ?_⟩
      · show 0 ≤ (if f.id = s.turn then f.left + f.share else f.left)
        have := h.m0
        split <;> omega
      · show (if f.id = s.turn then f.left + f.share else f.left) < s.most + f.share
        split <;> omega
      · show (if f.id = s.turn then f.left + f.share else f.left) < s.most
        rcases e with e | e
        · rw [if_neg e]; exact h6
        · cases e
    · obtain ⟨f, hf, e⟩ := ht
      exact ⟨_, upd_mem' hf, e⟩
theorem grant_turn (s : Sc) : (grantS s).turn = s.turn ∧ (grantS s).most = s.most ∧ (grantS s).g = true := by
  unfold grantS
  split
  next h => exact ⟨rfl, rfl, h⟩
  next h => exact ⟨rfl, rfl, rfl⟩
theorem grant_fl {s : Sc} {id : Int} (h : ∃ f ∈ s.L, f.id = id) : ∃ f ∈ (grantS s).L, f.id = id := by
  unfold grantS
  split
  · exact h
  · obtain ⟨f, hf, e⟩ := h
    exact ⟨_, upd_mem' hf, e⟩
/-- one who was not granted has enough, once granted -/
theorem grant_enough {s : Sc} (h : s.ok) (ap : Ap s.L) (ht : ∃ f ∈ s.L, f.id = s.turn) (hg : s.g = false) {n : Int} (hn : n ≤ s.most) : n ≤ leftOf (grantS s) s.turn := by
  obtain ⟨f, hf, e⟩ := ht
  obtain ⟨h1, h2, h3, h4, h5⟩ := h.f f hf
  have hfn := ap.fnd hf
  rw [e] at hfn
  have : leftOf (grantS s) s.turn = f.left + f.share := by
    unfold leftOf grantS
    rw [hg]
    simp only [Bool.false_eq_true, if_false]
    rw [fnd_upd, hfn]
    simp [e]
  omega
theorem Sc.ok.fir {s : Sc} (h : s.ok) {l : Hs} (hl : l ≠ []) (ok : Ok s l) : (firS l s).ok ∧ (firS l s).turn ∈ ids l ∧ (firS l s).most = s.most := by
  unfold firS
  split
  next ht => exact ⟨h.beg l, ht, rfl⟩
  next ht =>
    refine ⟨(h.beg l).pass l (fun f hf e => ?_), nextId_mem (by unfold ids; simpa using hl) _, rfl⟩
    obtain ⟨f', hf', rfl⟩ := upd_mem hf
    have hm := h.m0
    show forgetF l f' < s.most
    unfold forgetF
    rw [if_neg (by intro hx; exact ht (by rw [← (show f'.id = s.turn from e)]; exact hx))]
    omega
end Go.Proofs.YtcppibjllaablaaGreat.drr

/-
  Slices of structs that the call owns, for any struct. No program.
-/
namespace Go.Proofs.YtcppibjllaablaaGreat.mem
open Go.RowKit
set_option linter.unusedVariables false

/-- how an element is stored: in n cells -/
structure Enc (α : Type) where
  n : Nat
  cs : α → List Value
  len : ∀ a, (cs a).length = n
  one : ∀ a, ∀ u ∈ cs a, u.oneCell' = true

section
variable {α : Type} (E : Enc α)
def Enc.all (l : List α) : List Value := l.flatMap E.cs
theorem Enc.all_nil : E.all [] = [] := rfl
theorem Enc.all_cons (u : α) (l : List α) : E.all (u :: l) = E.cs u ++ E.all l := rfl
theorem Enc.all_append (l m : List α) : E.all (l ++ m) = E.all l ++ E.all m := by simp [Enc.all]
theorem Enc.all_one (u : α) : E.all [u] = E.cs u := by simp [Enc.all]
theorem Enc.all_length (l : List α) : (E.all l).length = l.length * E.n := by
  induction l with
  | nil => simp [Enc.all]
  | cons u l ih => rw [E.all_cons, List.length_append, ih, E.len, List.length_cons, Nat.add_mul]; omega
theorem Enc.all_cell (l : List α) : ∀ u ∈ E.all l, u.oneCell' = true := by
  intro u hu
  simp only [Enc.all, List.mem_flatMap] at hu
  obtain ⟨y, _, hy⟩ := hu
  exact E.one y u hy
theorem Enc.all_at (l : List α) (k : Nat) (u : α) (h : l[k]? = some u) (j : Nat) (v : Value) (hj : (E.cs u)[j]? = some v) : (E.all l)[k * E.n + j]? = some v := by
  induction l generalizing k with
  | nil => simp at h
  | cons y l ih =>
    have hyl := E.len y
    have hj7 : j < E.n := by have := (List.getElem?_eq_some_iff.1 hj).1; rwa [E.len] at this
    rw [E.all_cons]
    cases k with
    | zero =>
      simp at h
      subst h
      rw [List.getElem?_append_left (by omega)]
      simpa using hj
    | succ k =>
      have e : (k + 1) * E.n = k * E.n + E.n := Nat.succ_mul _ _
      rw [List.getElem?_append_right (by omega), hyl]
      have := ih k (by simpa using h)
      rw [show (k + 1) * E.n + j - E.n = k * E.n + j by omega]
      exact this

/-- a slice that holds the elements l, in a block of its own (or nil) -/
def Owns (T : TypeId) (w : World) (v : Value) (l : List α) : Prop := w.ownsRow 0 T E.n v l.length (E.all l)
variable {E}
theorem Owns.nil (T : TypeId) (w : World) : Owns E T w (.slice none 0 0) [] := World.ownsRow_nil w 0 _ _
theorem Owns.lt {T : TypeId} {w : World} {v : Value} {l : List α} (h : Owns E T w v l) : ∀ g, v.ownBlock = some g → g < w.heap.size := fun g hg => (World.ownsRow.lt h g hg).2
theorem Owns.turns {T : TypeId} {S : Nat → Prop} {w w' : World} {v : Value} {l : List α} (h : Owns E T w v l) (ht : Turns S w w') (hn : ∀ g, v.ownBlock = some g → ¬ S g) : Owns E T w' v l := by
  have hl := h.lt
  refine ⟨h.1, ?_⟩
  rcases h.2 with h0 | ⟨g, cap, cur, rfl, hb, hg, r⟩
  · exact .inl h0
  · exact .inr ⟨g, cap, cur, rfl, hb, by rw [ht.block g (hl g rfl) (hn g rfl)]; exact hg, r⟩
/-- the elements can be read through the slice: block g, from its beginning -/
def Reads (E : Enc α) (w : World) (ao : Option Addr) (l : List α) : Prop :=
  l = [] ∨ ∃ g, ao = some ⟨g, 0, none⟩ ∧ g < w.heap.size ∧ ∀ (k : Nat) (u : α), l[k]? = some u → ∀ (j : Nat) (x : Value), (E.cs u)[j]? = some x → w.cell? ⟨g, k * E.n + j, none⟩ = some x
theorem Owns.form {T : TypeId} {w : World} {v : Value} {l : List α} (h : Owns E T w v l) :
    ∃ (ao : Option Addr) (c : Nat), v = .slice ao l.length c ∧ l.length ≤ c ∧ Reads E w ao l ∧ ∀ g, ao = some ⟨g, 0, none⟩ → v.ownBlock = some g := by
  have hlt := h.lt
  have hcs := @World.ownsRow.cells _ _ _ _ _ _ _ h
  rcases h.2 with ⟨rfl, h0⟩ | ⟨g, cap, cur, rfl, hb, hg, hc, r⟩
  · have : l = [] := List.length_eq_zero_iff.1 h0
    subst this
    exact ⟨none, 0, rfl, Nat.le_refl _, .inl rfl, fun g hg => by cases hg⟩
  · refine ⟨some ⟨g, 0, none⟩, cap, rfl, hc, .inr ⟨g, rfl, hlt g rfl, fun k u hu j x hj => ?_⟩, fun g' hg' => by cases hg'; rfl⟩
    have := hcs (g := g) rfl (k * E.n + j) x (E.all_at l k u hu j x hj)
    rwa [show (⟨g, 0, none⟩ : Addr).add (k * E.n + j) = ⟨g, k * E.n + j, none⟩ by unfold Addr.add; split <;> simp_all] at this
theorem Reads.turns {S : Nat → Prop} {w w' : World} {ao : Option Addr} {l : List α} (h : Reads E w ao l) (ht : Turns S w w') (hn : ∀ g, ao = some ⟨g, 0, none⟩ → ¬ S g) : Reads E w' ao l := by
  rcases h with h | ⟨g, rfl, hg, hc⟩
  · exact .inl h
  · exact .inr ⟨g, rfl, Nat.lt_of_lt_of_le hg ht.size, fun k u hu j x hj => (ht.cell (a := ⟨g, k * E.n + j, none⟩) hg (hn g rfl)).trans (hc k u hu j x hj)⟩
/-- a row that has just been built: one block that holds just the elements -/
theorem Reads.of_block {w : World} {g : Nat} {l : List α} {t : TypeId} {fr : Nat × Nat} (h : w.heap[g]? = some (.cells (E.all l).toArray t fr)) : Reads E w (some ⟨g, 0, none⟩) l := by
  refine .inr ⟨g, rfl, (Array.getElem?_eq_some_iff.1 h).1, fun k u hu j x hj => ?_⟩
  have := World.news_of_block h (k * E.n + j) x (E.all_at l k u hu j x hj)
  rwa [show (⟨g, 0, none⟩ : Addr).add (k * E.n + j) = ⟨g, k * E.n + j, none⟩ by unfold Addr.add; split <;> simp_all] at this

theorem infoOf {P : Program} {T : TypeId} {z : Value} {size bytes : Nat} (h : (P.info? T).map (fun i => (i.zero, i.size, i.bytes)) = some (some z, size, bytes)) : ∃ i, P.info? T = some i ∧ i.zero = some z ∧ i.size = size ∧ i.bytes = bytes := by
  cases hi : P.info? T with
  | none => rw [hi] at h; cases h
  | some i => rw [hi] at h; simp at h; exact ⟨i, rfl, h.1, h.2.1, h.2.2⟩

/-- append of the elements m, that lie readable at ao -/
theorem Owns.append {P : Program} {T RT ty : TypeId} {z : Value} {bytes : Nat} (hu : P.underlying RT = some (.slice T)) (hi : (P.info? T).map (fun i => (i.zero, i.size, i.bytes)) = some (some z, E.n, bytes)) (hz : z.cells.size = E.n) (h0 : 0 < E.n)
    {W : World} {v : Value} {l m : List α} (hr : Owns E T W v l) (g c : Nat) (hm : ∀ j u, (E.all m)[j]? = some u → W.cell? ((⟨g, 0, none⟩ : Addr).add j) = some u) (h63 : l.length + m.length ≤ 1048576) (hb : bytes ≤ 4096) :
    ∃ v' w', (Builtin.append_ #[RT, RT] ty #[v, .slice (some ⟨g, 0, none⟩) m.length c]).run P W = .ok v' w' ∧ Owns E T w' v' (l ++ m) ∧ W.grownBy w' v.ownBlock ∧ (v'.ownBlock = v.ownBlock ∨ v'.ownBlock = some W.heap.size) := by
  obtain ⟨i0, hi, hz0, hz1, hz2⟩ := infoOf hi
  have hby : (l.length + m.length) * bytes ≤ 1048576 * 4096 := Nat.mul_le_mul h63 hb
  obtain ⟨v', w', h1, h2, h3, _, h5⟩ := run_append_own_at (P := P) W 0 RT ty T i0 _ E.n bytes hu hi hz0 hz1 hz2 hz h0 v l.length (E.all l) hr ⟨g, 0, none⟩ m.length c (E.all m) (E.all_length m) hm (E.all_cell m) (by unfold maxLen; omega) (by omega) (Nat.zero_le _)
  refine ⟨v', w', h1, ?_, h3, h5⟩
  unfold Owns
  rw [E.all_append, List.length_append]
  exact h2

/-- append of one element, in a row that has just been built: a step of a list of operations -/
theorem wpList_append_one {P : Program} {T RT : TypeId} {z : Value} {bytes : Nat} (hu : P.underlying RT = some (.slice T)) (hi : (P.info? T).map (fun i => (i.zero, i.size, i.bytes)) = some (some z, E.n, bytes)) (hz : z.cells.size = E.n) (h0 : 0 < E.n) (hb : bytes ≤ 4096)
    {ops : Array Oper} {rest : List Oper} {o : Oper} {a : Act} {Q : Exit → Act → World → Prop} {W : World} (hgd : o.guard = none) (sl x : Operand)
    (ho : o.op = .call { callee := .builtin .append, args := #[sl, x], argTypes := #[RT, RT] }) (v : Value) (l : List α) (u : α) (hs : a.eval sl = v) (hr : Owns E T W v l) (g : Nat) (hx : a.eval x = .slice (some ⟨g, 0, none⟩) 1 1)
    (hg : W.heap[g]? = some (.cells (E.cs u).toArray T (0, 0))) (h63 : l.length + 1 ≤ 1048576)
    (h : ∀ v' w', Owns E T w' v' (l ++ [u]) → W.grownBy w' v.ownBlock → (v'.ownBlock = v.ownBlock ∨ v'.ownBlock = some W.heap.size) → wpList P ops Q rest (a.put o.dst v') w') : wpList P ops Q (o :: rest) a W := by
  refine wpList_plain hgd fun K hK => ?_
  obtain ⟨v', w', hrun, h2, h3, h4⟩ := Owns.append (P := P) (ty := o.type) hu hi hz h0 hr (m := [u]) g 1 (by rw [E.all_one]; exact World.news_of_block (cs := (E.cs u).toArray) hg) h63 hb
  unfold Oper.wp execOp
  simp only [ho, resolve, invoke, builtin, Sem.run_bind, Sem.run_pure, Result.andThen_ok, List.map_toArray, List.map_cons, List.map_nil, hs, hx]
  rw [show (1 : Nat) = [u].length from rfl] at *
  simp only [hrun]
  exact hK _ _ (h v' w' h2 h3 h4)
end
end Go.Proofs.YtcppibjllaablaaGreat.mem

/-
  append of one owned row onto another: 'append(x, y...)'. No program.
-/
namespace Go.Proofs.YtcppibjllaablaaGreat.mem
open Go.RowKit
set_option linter.unusedVariables false
section
variable {α : Type} {E : Enc α}

theorem Owns.append_owns {P : Program} {T RT ty : TypeId} {z : Value} {bytes : Nat} (hu : P.underlying RT = some (.slice T)) (hi : (P.info? T).map (fun i => (i.zero, i.size, i.bytes)) = some (some z, E.n, bytes)) (hz : z.cells.size = E.n) (h0 : 0 < E.n) (hb : bytes ≤ 4096)
    {W : World} {v u : Value} {l m : List α} (hr : Owns E T W v l) (hm : Owns E T W u m) (h63 : l.length + m.length ≤ 1048576) :
    ∃ v' w', (Builtin.append_ #[RT, RT] ty #[v, u]).run P W = .ok v' w' ∧ Owns E T w' v' (l ++ m) ∧ W.grownBy w' v.ownBlock ∧ (v'.ownBlock = v.ownBlock ∨ v'.ownBlock = some W.heap.size) := by
  obtain ⟨i0, hi', hz0, hz1, hz2⟩ := infoOf hi
  have hcells := @World.ownsRow.cells _ _ _ _ _ _ _ hm
  rcases hm.2 with ⟨rfl, hn⟩ | ⟨g, cap, cur, rfl, hbl, hg, r⟩
  · have : m = [] := List.length_eq_zero_iff.1 hn
    subst this
    refine ⟨v, W, ?_, by rw [List.append_nil]; exact hr, ⟨rfl, rfl, rfl, Nat.le_refl _, fun _ _ _ => rfl⟩, .inl rfl⟩
    exact run_append_owned_none (P := P) (w := W) 0 RT ty T i0 E.n hu hi' v l.length (E.all l) hr
  · exact Owns.append hu hi hz h0 hr (m := m) g cap (fun j x hj => hcells rfl j x hj) h63 hb

theorem step_append_owns {P : Program} {T RT : TypeId} {z : Value} {bytes : Nat} (hu : P.underlying RT = some (.slice T)) (hi : (P.info? T).map (fun i => (i.zero, i.size, i.bytes)) = some (some z, E.n, bytes)) (hz : z.cells.size = E.n) (h0 : 0 < E.n) (hb : bytes ≤ 4096)
    {ops : Array Oper} {o : Oper} {a : Act} {K : Act → World → Prop} {Q : Exit → Act → World → Prop} {X : Prop} {W : World} (hgd : o.guard = none) (sl x : Operand)
    (ho : o.op = .call { callee := .builtin .append, args := #[sl, x], argTypes := #[RT, RT] }) (v u : Value) (l m : List α) (hs : a.eval sl = v) (hx : a.eval x = u) (hr : Owns E T W v l) (hm : Owns E T W u m) (h63 : l.length + m.length ≤ 1048576)
    (h : ∀ v' w', Owns E T w' v' (l ++ m) → W.grownBy w' v.ownBlock → (v'.ownBlock = v.ownBlock ∨ v'.ownBlock = some W.heap.size) → K (a.put o.dst v') w') :
    if Region.wanted o (yielded ops a.tmps) = true then Oper.wp P o a W K Q else X := by
  have hw : Region.wanted o (yielded ops a.tmps) = true := by simp [Region.wanted, hgd]
  rw [if_pos hw]
  obtain ⟨v', w', hrun, h2, h3, h4⟩ := Owns.append_owns (P := P) (ty := o.type) hu hi hz h0 hb hr hm h63
  unfold Oper.wp execOp
  simp only [ho, resolve, invoke, builtin, Sem.run_bind, Sem.run_pure, Result.andThen_ok, List.map_toArray, List.map_cons, List.map_nil, hs, hx, hrun]
  exact h v' w' h2 h3 h4
end
end Go.Proofs.YtcppibjllaablaaGreat.mem

/-
  Maps keyed by whole numbers that the call owns: the look-up with what is known of the entry, the store at a step of a region that draws. No program.
-/
namespace Go.Proofs.YtcppibjllaablaaGreat.mem
open Go.RowKit Go.Maps
set_option linter.unusedVariables false

section
variable {P : Program} {w : World} {ops : Array Oper} {rest : List Oper} {o : Oper} {a : Act} {Q : Exit → Act → World → Prop}

/-- 'm[k]' where the entry is known -/
theorem wpList_look_int (hg : o.guard = none) (m x : Operand) (t : TypeId) (hop : o.op = Op.lookup t m x false)
    (k e : TypeId) (q : IntKind) (K : Keyed P k) (ht : P.underlying t = some (.map k e)) (he : P.underlying e = some (.int q)) (hz : (zeroValue e).run P w = .ok (.int q 0) w) (b n : Nat) (D : DataW Unit)
    (hm : a.eval m = .map (some b)) (hown : w.ownsMap P k (plainElem P e) b n D) (key : Value) (kl : Lit) (hx : a.eval x = key) (hkey : keyOf P k key = some kl)
    (c : Int) (hc : D.atKey kl (.lit (.int q 0)) = .lit (.int q c))
    (hK : wpList P ops Q rest (a.put o.dst (.int q c)) w) :
    wpList P ops Q (o :: rest) a w :=
  wpList_lookup_own_int w hg m x t hop k e q K ht he hz b n D hm hown key kl hx hkey (fun c' hat _ => by
    rw [hat] at hc
    injection hc with h1
    injection h1 with _ h2
    rw [h2]; exact hK)

/-- 'v, ok := m[k]' where the entry is known -/
theorem wpList_look_ok_int (hg : o.guard = none) (m x : Operand) (t : TypeId) (hop : o.op = Op.lookup t m x true)
    (k e : TypeId) (q : IntKind) (K : Keyed P k) (ht : P.underlying t = some (.map k e)) (he : P.underlying e = some (.int q)) (hz : (zeroValue e).run P w = .ok (.int q 0) w) (b n : Nat) (D : DataW Unit)
    (hm : a.eval m = .map (some b)) (hown : w.ownsMap P k (plainElem P e) b n D) (key : Value) (kl : Lit) (hx : a.eval x = key) (hkey : keyOf P k key = some kl)
    (c : Int) (hc : D.atKey kl (.lit (.int q 0)) = .lit (.int q c)) (bb : Bool) (hb : Maps.has D kl = bb)
    (hK : wpList P ops Q rest (a.put o.dst (.tuple #[.int q c, .bool bb])) w) :
    wpList P ops Q (o :: rest) a w :=
  wpList_lookup_own_ok_int w hg m x t hop k e q K ht he hz b n D hm hown key kl hx hkey (fun c' hat _ => by
    rw [hat] at hc
    injection hc with h1
    injection h1 with _ h2
    rw [h2, hb]; exact hK)

/-- 'v, ok := m[k]' in a map of strings, where the entry is known -/
theorem wpList_look_ok_str (hg : o.guard = none) (m x : Operand) (t : TypeId) (hop : o.op = Op.lookup t m x true)
    (k e : TypeId) (K : Keyed P k) (ht : P.underlying t = some (.map k e)) (he : P.underlying e = some .string) (hz : (zeroValue e).run P w = .ok (.string ⟨#[]⟩) w) (b n : Nat) (D : DataW Unit)
    (hm : a.eval m = .map (some b)) (hown : w.ownsMap P k (plainElem P e) b n D) (key : Value) (kl : Lit) (hx : a.eval x = key) (hkey : keyOf P k key = some kl)
    (s : ByteArray) (hc : D.atKey kl (.lit (.string [])) = .lit (.string s.data.toList)) (bb : Bool) (hb : Maps.has D kl = bb)
    (hK : wpList P ops Q rest (a.put o.dst (.tuple #[.string s, .bool bb])) w) :
    wpList P ops Q (o :: rest) a w :=
  wpList_lookup_own_ok w hg m x t hop k e K ht (plainElem P e) hz (.lit (.string [])) [] (plainElem_string he (by decide)) b n D hm hown key kl hx hkey (fun v ps hv => by
    rw [hc] at hv
    obtain ⟨s', rfl, h1, _⟩ := plainElem_string_inv he hv
    injection h1 with h2 _
    injection h2 with h2
    injection h2 with h2
    have : s' = s := by
      apply ByteArray.ext
      exact (Array.toList_inj.1 h2).symm
    subst this
    rw [hb]; exact hK)

/-- 'm[k] = v' at a step of a region that draws its order -/
theorem step_mapUpdate {K : Act → World → Prop} {X : Prop} (hg : o.guard = none) (m x v : Operand) (t : TypeId) (hop : o.op = Op.mapUpdate t m x v)
    (k e : TypeId) (Kk : Keyed P k) (ht : P.underlying t = some (.map k e)) (R : Value → Option (DataW Unit × List MemPlace)) (b n : Nat) (D : DataW Unit)
    (hm : a.eval m = .map (some b)) (hown : w.ownsMap P k R b n D) (hn : n < maxLen) (key val : Value) (kl : Lit) (hx : a.eval x = key) (hv : a.eval v = val) (hkey : keyOf P k key = some kl)
    (d : DataW Unit) (ps : List MemPlace) (hval : R val = some (d, ps))
    (hK : ∀ w', w'.ownsMap P k R b (n + 1) (D.put kl d) → w.grownBy w' (some b) → K (a.put o.dst undef) w') :
    if Region.wanted o (yielded ops a.tmps) = true then Oper.wp P o a w K Q else X := by
  have hw : Region.wanted o (yielded ops a.tmps) = true := by simp [Region.wanted, hg]
  rw [if_pos hw]
  obtain ⟨w', hrun, r1, r2⟩ := hown.update Kk ht hn hkey hval
  unfold Oper.wp
  simp [execOp, hop, hm, hx, hv, hrun, Result.andThen]
  exact hK w' r1 r2
end

section
variable {P : Program} {k : TypeId} {R : Value → Option (DataW Unit × List MemPlace)} {b n : Nat} {D : DataW Unit} {w w' : World}
theorem ownsMap_turns {S : Nat → Prop} (h : w.ownsMap P k R b n D) (ht : Turns S w w') (hb : ¬ S b) : w'.ownsMap P k R b n D := by
  have hlt := h.lt
  obtain ⟨es, clock, hbl, F, hs, hD⟩ := h
  exact ⟨es, clock, (ht.block b hlt hb).trans hbl, F, hs, hD⟩
/-- a map is no row of cells -/
theorem ownsMap_ne {p : Nat} {cs : Array Value} {t : TypeId} (h : w.ownsMap P k R b n D) (hp : Blk w p cs t) : b ≠ p := by
  rintro rfl
  obtain ⟨es, clock, hbl, _⟩ := h
  unfold Blk at hp
  rw [hbl] at hp; cases hp
theorem ownsMap_ne_row {α : Type} {E : Enc α} {T : TypeId} {v : Value} {l : List α} (h : w.ownsMap P k R b n D) (hr : Owns E T w v l) : ∀ g, v.ownBlock = some g → b ≠ g := by
  rintro g hg rfl
  obtain ⟨es, clock, hbl, _⟩ := h
  rcases hr.2 with ⟨rfl, _⟩ | ⟨g', cap, cur, rfl, _, hbg, _⟩
  · simp [Value.ownBlock] at hg
  · simp [Value.ownBlock] at hg
    subst hg
    rw [hbl] at hbg; cases hbg
end
end Go.Proofs.YtcppibjllaablaaGreat.mem

/-
  A struct stored whole: the cells of a block written one behind the other. No program.
-/
namespace Go.Proofs.YtcppibjllaablaaGreat.mem
open Go.RowKit
set_option linter.unusedVariables false

/-- the cells vs are written into block p, from cell i on -/
def puts (w : World) (p : Nat) : Nat → List Value → World
  | _, [] => w
  | i, v :: vs => puts (w.setCell ⟨p, i, none⟩ v) p (i + 1) vs

theorem puts_turns {S : Nat → Prop} {a : World} {p : Nat} (hp : S p ∨ a.heap.size ≤ p) : ∀ (vs : List Value) (i : Nat) (w : World), Turns S a w → Turns S a (puts w p i vs)
  | [], _, _, h => h
  | v :: vs, i, w, h => puts_turns hp vs (i + 1) _ (h.setCell (p := ⟨p, i, none⟩) hp v)

theorem puts_other {p q : Nat} (hne : p ≠ q) {cs : Array Value} {t : TypeId} : ∀ (vs : List Value) (i : Nat) (w : World), Blk w q cs t → Blk (puts w p i vs) q cs t
  | [], _, _, h => h
  | v :: vs, i, w, h => puts_other hne vs (i + 1) _ (h.setOther (a := ⟨p, i, none⟩) hne v)

/-- l with vs written over it from i on -/
def over : List Value → Nat → List Value → List Value
  | l, _, [] => l
  | l, i, v :: vs => over (l.set i v) (i + 1) vs
theorem over_length : ∀ (vs : List Value) (l : List Value) (i : Nat), (over l i vs).length = l.length
  | [], _, _ => rfl
  | v :: vs, l, i => by rw [over, over_length, List.length_set]
theorem over_pre : ∀ (vs a b : List Value), vs.length = b.length → over (a ++ b) a.length vs = a ++ vs
  | [], a, b, h => by
    have : b = [] := List.length_eq_zero_iff.1 h.symm
    subst this; rfl
  | v :: vs, a, [], h => by simp at h
  | v :: vs, a, x :: b, h => by
    have h1 : (a ++ x :: b).set a.length v = (a ++ [v]) ++ b := by simp
    rw [over, h1, show a.length + 1 = (a ++ [v]).length by simp, over_pre vs (a ++ [v]) b (by simpa using h)]
    simp

theorem puts_over {p : Nat} {t : TypeId} : ∀ (vs : List Value) (i : Nat) (w : World) (l : List Value), Blk w p l.toArray t → Blk (puts w p i vs) p (over l i vs).toArray t
  | [], _, _, _, h => h
  | v :: vs, i, w, l, h => by
    have h1 := h.set i v
    rw [List.setIfInBounds_toArray] at h1
    exact puts_over vs (i + 1) _ _ h1
/-- the whole block is written -/
theorem puts_blk {w : World} {p : Nat} {t : TypeId} (l vs : List Value) (h : Blk w p l.toArray t) (hl : vs.length = l.length) : Blk (puts w p 0 vs) p vs.toArray t := by
  have h1 := puts_over vs 0 w l h
  have h2 := over_pre vs [] l hl
  simp only [List.nil_append, List.length_nil] at h2
  rwa [h2] at h1

theorem Blk.drewN {w : World} {p : Nat} {cs : Array Value} {t : TypeId} (h : Blk w p cs t) (n : Nat) : Blk (w.drewN n) p cs t := h
theorem Turns.drewN {S : Nat → Prop} {a w : World} (h : Turns S a w) (n : Nat) : Turns S a (w.drewN n) := ⟨h.os, h.tape, h.output, h.size, h.block⟩
theorem Turns.of_drewN {S : Nat → Prop} {a w : World} {n : Nat} (h : Turns S (a.drewN n) w) : Turns S a w := ⟨h.os, h.tape, h.output, h.size, h.block⟩
end Go.Proofs.YtcppibjllaablaaGreat.mem

/-
  drr.Sched in memory; New, Add, Remove, Left, Take, grant.
-/
namespace Go.Proofs.YtcppibjllaablaaGreat.drr
open Go.RowKit mem Go.Maps
set_option linter.unusedVariables false

abbrev SB : TypeId := 174
abbrev FB : TypeId := 178
abbrev MT : TypeId := 172
abbrev New (w w' : World) : Prop := Turns (fun _ => False) w w'
theorem lawI : Keyed Tryz.prog 3 := int_keyed Tryz.underlying3
theorem keyI {n : Int} (n0 : -9223372036854775808 ≤ n) (n1 : n ≤ 9223372036854775807) : keyOf Tryz.prog 3 (.int .i64 n) = some (.int .i64 n) :=
  keyOf_int_mk Tryz.underlying3 (by simp [Lit.wf, IntKind.min, IntKind.max, IntKind.bits, IntKind.signed]; omega)
theorem zeroP (w : World) : (zeroValue 175).run Tryz.prog w = .ok (.pointer none) w := by kernel_rfl

/-- a pointer to a block, as a number -/
def ptrE (v : Value) : Option (DataW Unit × List MemPlace) :=
  match v with
  | .pointer (some ⟨g, 0, none⟩) => some (.lit (.int .i64 (g : Int)), [])
  | .pointer none => some (.lit (.int .i64 (-1)), [])
  | _ => none
theorem ptrE_inv {v : Value} {g : Nat} {ps : List MemPlace} (h : ptrE v = some (.lit (.int .i64 (g : Int)), ps)) : v = .pointer (some ⟨g, 0, none⟩) := by
  unfold ptrE at h
  split at h
  · injection h with h
    injection h with h _
    injection h with h
    injection h with _ h
    have : (_ : Nat) = g := Int.ofNat.inj h
    rw [this]
  · injection h with h
    injection h with h _
    injection h with h
    injection h with _ h
    omega
  · cases h
theorem ptrE_nil {v : Value} {ps : List MemPlace} (h : ptrE v = some (.lit (.int .i64 (-1)), ps)) : v = .pointer none := by
  unfold ptrE at h
  split at h
  · injection h with h
    injection h with h _
    injection h with h
    injection h with _ h
    omega
  · rfl
  · cases h
theorem ptrE_shape {v : Value} {y : DataW Unit × List MemPlace} (h : ptrE v = some y) : ∃ g : Option Nat, v = .pointer (g.map (fun g => ⟨g, 0, none⟩)) := by
  unfold ptrE at h
  split at h
  · exact ⟨some _, rfl⟩
  · exact ⟨none, rfl⟩
  · cases h

section
variable {w : World} {mb c : Nat} {D : DataW Unit} {id : Int}
theorem look_at (h : w.ownsMap Tryz.prog 3 ptrE mb c D) (n0 : -9223372036854775808 ≤ id) (n1 : id ≤ 9223372036854775807) {b : Nat} (hb : ∀ z, D.atKey (.int .i64 id) z = .lit (.int .i64 b)) :
    (Instr.lookup MT (.map (some mb)) (.int .i64 id) false).run Tryz.prog w = .ok (.pointer (some ⟨b, 0, none⟩)) w := by
  obtain ⟨v, ps, hrun, hv⟩ := h.lookup lawI Tryz.underlying172 (zeroP w) (zd := .lit (.int .i64 (-1))) (zp := []) rfl (keyI n0 n1)
  rw [hb] at hv
  rw [ptrE_inv hv] at hrun
  exact hrun
theorem look_ok_at (h : w.ownsMap Tryz.prog 3 ptrE mb c D) (n0 : -9223372036854775808 ≤ id) (n1 : id ≤ 9223372036854775807) {b : Nat} (hb : ∀ z, D.atKey (.int .i64 id) z = .lit (.int .i64 b)) :
    (Instr.lookup MT (.map (some mb)) (.int .i64 id) true).run Tryz.prog w = .ok (.tuple #[.pointer (some ⟨b, 0, none⟩), .bool true]) w := by
  obtain ⟨v, ps, hrun, hv⟩ := h.look_ok lawI Tryz.underlying172 (zeroP w) (zd := .lit (.int .i64 (-1))) (zp := []) rfl (keyI n0 n1)
  rw [hb] at hv
  rw [ptrE_inv hv, has_true_of_atKey hb] at hrun
  exact hrun
theorem look_ok_none (h : w.ownsMap Tryz.prog 3 ptrE mb c D) (n0 : -9223372036854775808 ≤ id) (n1 : id ≤ 9223372036854775807) (hb : has D (.int .i64 id) = false) :
    (Instr.lookup MT (.map (some mb)) (.int .i64 id) true).run Tryz.prog w = .ok (.tuple #[.pointer none, .bool false]) w := by
  obtain ⟨v, ps, hrun, hv⟩ := h.look_ok lawI Tryz.underlying172 (zeroP w) (zd := .lit (.int .i64 (-1))) (zp := []) rfl (keyI n0 n1)
  rw [atKey_of_not_has hb] at hv
  rw [ptrE_nil hv, hb] at hrun
  exact hrun
end

abbrev cells (s : Sc) (mb : Nat) : Array Value := #[.int .i64 s.most, .map (some mb), .int .i64 s.turn, .bool s.g]
abbrev fcells (f : Fl) : Array Value := #[.int .i64 f.share, .int .i64 f.left]
/-- a schedule in block p, its map in mb -/
structure Ss (w : World) (p mb c : Nat) (D : DataW Unit) (s : Sc) : Prop where
  blk : Blk w p (cells s mb) SB
  map : w.ownsMap Tryz.prog 3 ptrE mb c D
  rd1 : ∀ id, has D (.int .i64 id) = (fnd s.L id).isSome
  rd2 : ∀ f ∈ s.L, ∀ z, D.atKey (.int .i64 f.id) z = .lit (.int .i64 (f.b : Int))
  fb : ∀ f ∈ s.L, Blk w f.b (fcells f) FB
  ap : Ap s.L
  pf : ∀ f ∈ s.L, f.b ≠ p
  rg : ∀ f ∈ s.L, -9223372036854775808 ≤ f.id ∧ f.id ≤ 9223372036854775807
  tr : -9223372036854775808 ≤ s.turn ∧ s.turn ≤ 9223372036854775807
  ok : s.ok
/-- what a call may turn -/
def Foot (p mb : Nat) (s : Sc) (k : Nat) : Prop := k = p ∨ k = mb ∨ ∃ f ∈ s.L, f.b = k
section
variable {w w' : World} {p mb c : Nat} {D : DataW Unit} {s : Sc} (h : Ss w p mb c D s)
include h
theorem Ss.lt : p < w.heap.size := h.blk.lt
theorem Ss.mlt : mb < w.heap.size := h.map.lt
theorem Ss.flt : ∀ f ∈ s.L, f.b < w.heap.size := fun f hf => (h.fb f hf).lt
theorem Ss.mp : mb ≠ p := ownsMap_ne h.map h.blk
theorem Ss.mf : ∀ f ∈ s.L, mb ≠ f.b := fun f hf => ownsMap_ne h.map (h.fb f hf)
theorem Ss.turns {S : Nat → Prop} (t : Turns S w w') (hp : ¬ S p) (hm : ¬ S mb) (hf : ∀ f ∈ s.L, ¬ S f.b) : Ss w' p mb c D s :=
  ⟨t.blk h.blk hp, ownsMap_turns h.map t hm, h.rd1, h.rd2, fun f hf' => t.blk (h.fb f hf') (hf f hf'), h.ap, h.pf, h.rg, h.tr, h.ok⟩
theorem Ss.later (t : New w w') : Ss w' p mb c D s := h.turns t (fun h => h) (fun h => h) (fun _ _ h => h)
theorem Ss.drewN (n : Nat) : Ss (w.drewN n) p mb c D s := ⟨h.blk, h.map, h.rd1, h.rd2, h.fb, h.ap, h.pf, h.rg, h.tr, h.ok⟩
theorem Ss.foot : ∀ k, Foot p mb s k → k < w.heap.size := fun k hk => by
  rcases hk with e | e | ⟨f, hf, e⟩
  · rw [e]; exact h.lt
  · rw [e]; exact h.mlt
  · rw [← e]; exact h.flt f hf
end
theorem two {w : World} {p : Nat} {a b : Value} {T : TypeId} (h : Blk w p #[a, b] T) :
    (w.cell? ⟨p, 0, none⟩ = some a ∧ w.cell? ⟨p, 1, none⟩ = some b) ∧ w.frozen? ⟨p, 0, none⟩ = false ∧ w.frozen? ⟨p, 1, none⟩ = false := ⟨⟨h.cell 0, h.cell 1⟩, h.free 0, h.free 1⟩
theorem four {w : World} {p : Nat} {a b c d : Value} {T : TypeId} (h : Blk w p #[a, b, c, d] T) :
    (w.cell? ⟨p, 0, none⟩ = some a ∧ w.cell? ⟨p, 1, none⟩ = some b ∧ w.cell? ⟨p, 2, none⟩ = some c ∧ w.cell? ⟨p, 3, none⟩ = some d) ∧ w.frozen? ⟨p, 0, none⟩ = false ∧ w.frozen? ⟨p, 1, none⟩ = false ∧ w.frozen? ⟨p, 2, none⟩ = false ∧ w.frozen? ⟨p, 3, none⟩ = false :=
  ⟨⟨h.cell 0, h.cell 1, h.cell 2, h.cell 3⟩, h.free 0, h.free 1, h.free 2, h.free 3⟩
/-- turn and granted anew -/
theorem Ss.turn {w : World} {p mb c : Nat} {D : DataW Unit} {s : Sc} (h : Ss w p mb c D s) {w' : World} (t' : Int) (g' : Bool) (hb : Blk w' p (cells ⟨s.most, s.L, t', g'⟩ mb) SB) (ht : Turns (· = p) w w') (h0 : -9223372036854775808 ≤ t' ∧ t' ≤ 9223372036854775807) (hok : Sc.ok ⟨s.most, s.L, t', g'⟩) : Ss w' p mb c D ⟨s.most, s.L, t', g'⟩ :=
  ⟨hb, ownsMap_turns h.map ht h.mp, h.rd1, h.rd2, fun f hf => ht.blk (h.fb f hf) (h.pf f hf), h.ap, h.pf, h.rg, h0, hok⟩
/-- one flow's balance anew -/
theorem Ss.left {w : World} {p mb c : Nat} {D : DataW Unit} {s : Sc} (h : Ss w p mb c D s) {f : Fl} (hf : f ∈ s.L) (x : Int) (hok : Sc.ok ⟨s.most, upd s.L (fun g => if g.id = f.id then x else g.left), s.turn, s.g⟩) :
    Ss (w.setCell ⟨f.b, 1, none⟩ (.int .i64 x)) p mb c D ⟨s.most, upd s.L (fun g => if g.id = f.id then x else g.left), s.turn, s.g⟩ ∧ Turns (· = f.b) w (w.setCell ⟨f.b, 1, none⟩ (.int .i64 x)) := by
  have t : Turns (· = f.b) w (w.setCell ⟨f.b, 1, none⟩ (.int .i64 x)) := Turns.setCell (S := (· = f.b)) (Turns.refl _ w) (p := ⟨f.b, 1, none⟩) (.inl rfl) _
  refine ⟨⟨t.blk h.blk (fun e => h.pf f hf e.symm), ownsMap_turns h.map t (h.mf f hf), fun id => ?_, fun g hg => ?_, fun g hg => ?_, h.ap.upd _, fun g hg => ?_, fun g hg => ?_, h.tr, hok⟩, t⟩
  · rw [h.rd1 id]
    show _ = (fnd (upd s.L _) id).isSome
    rw [fnd_upd]
    cases fnd s.L id <;> rfl
  · obtain ⟨f', hf', rfl⟩ := upd_mem hg
    exact h.rd2 f' hf'
  · obtain ⟨f', hf', rfl⟩ := upd_mem hg
    show Blk _ f'.b #[.int .i64 f'.share, .int .i64 (if f'.id = f.id then x else f'.left)] FB
    by_cases e : f'.id = f.id
    · have e2 := h.ap.eq hf' hf (.inl e)
      subst e2
      rw [if_pos rfl]
      exact (h.fb f' hf').set 1 _
    · rw [if_neg e]
      have hne : f.b ≠ f'.b := fun e2 => e (by rw [h.ap.eq hf hf' (.inr e2)])
      exact (h.fb f' hf').setOther hne _
  · obtain ⟨f', hf', rfl⟩ := upd_mem hg
    exact h.pf f' hf'
  · obtain ⟨f', hf', rfl⟩ := upd_mem hg
    exact h.rg f' hf'

theorem new_bad (m : Int) (w : World) (h : ¬ (1 ≤ m ∧ m ≤ 16777216)) :
    Calls Tryz.prog 36 #[.int .i64 m] w fun e w' => e = .returned (.tuple #[.pointer none, .int .i64 5]) ∧ w' = w := by
  go_enter Tryz.func36, Tryz.ntmps36
  by_cases h1 : m < 1
  · have d1 : decide (m < 1) = true := decide_eq_true h1
    go_wp2
    go_ret2
    exact ⟨rfl, rfl⟩
  · have d1 : decide (m < 1) = false := decide_eq_false h1
    have d2 : decide (16777216 < m) = true := decide_eq_true (by omega)
    go_wp2
    go_ret2
    exact ⟨rfl, rfl⟩
def fresh (m : Int) : Sc := ⟨m, [], 0, false⟩
theorem fresh_ok (m : Int) (m0 : 1 ≤ m) (m1 : m ≤ 16777216) : (fresh m).ok := ⟨m0, m1, (fun f hf => by cases hf), (fun e => by cases e)⟩
theorem new_ok (m : Int) (w : World) (m0 : 1 ≤ m) (m1 : m ≤ 16777216) :
    Calls Tryz.prog 36 #[.int .i64 m] w fun e w' => ∃ p, e = .returned (.tuple #[.pointer (some ⟨p, 0, none⟩), .int .i64 0]) ∧ Ss w' p w.heap.size 0 (.map []) (fresh m) ∧ New w w' ∧ w.heap.size ≤ p := by
  have hmm := @run_makeMap Tryz.prog
  have d1 : decide (m < 1) = false := decide_eq_false (by omega)
  have d2 : decide (16777216 < m) = false := decide_eq_false (by omega)
  have hok := fresh_ok m m0 m1
  clear m0 m1
  go_enter Tryz.func36, Tryz.ntmps36
  go_wp2
  go_ret2
  have e1 : (w.alloc (.map #[] 0)).heap.size = w.heap.size + 1 := by unfold World.alloc; exact Array.size_push _
  have hb := Blk.new (w.alloc (.map #[] 0)) (cells (fresh m) w.heap.size) SB
  rw [e1] at hb
  refine ⟨_, rfl, ⟨hb, (World.ownsMap_made _ _ _ _).alloc _, (fun id => rfl), (fun f hf => by cases hf), (fun f hf => by cases hf), List.Pairwise.nil, (fun f hf => by cases hf), (fun f hf => by cases hf), ⟨by show -9223372036854775808 ≤ (0 : Int); omega, by show (0 : Int) ≤ _; omega⟩, hok⟩, ((Turns.refl _ _).alloc _).alloc _, by omega⟩

end Go.Proofs.YtcppibjllaablaaGreat.drr

/-
  drr.Sched: Take, grant, Add, Remove.
-/
namespace Go.Proofs.YtcppibjllaablaaGreat.drr
open Go.RowKit mem Go.Maps
set_option linter.unusedVariables false

theorem Ss.drew {w : World} {p mb c : Nat} {D : DataW Unit} {s : Sc} (h : Ss w p mb c D s) : Ss w.drew p mb c D s := ⟨h.blk, h.map, h.rd1, h.rd2, h.fb, h.ap, h.pf, h.rg, h.tr, h.ok⟩
theorem Sc.ok.take {s : Sc} (h : s.ok) (ap : Ap s.L) (n : Int) : (takeS n s).ok := by
  unfold takeS
  split
  next hc =>
    obtain ⟨hg, h0, hn⟩ := hc
    refine ⟨h.m0, h.m1, fun g hgm => ?_, fun _ => ?_⟩
    · obtain ⟨f, hf, rfl⟩ := upd_mem hgm
      obtain ⟨h1, h2, h3, h4, h5⟩ := h.f f hf
      have hl : f.id = s.turn → leftOf s s.turn = f.left := fun e => by unfold leftOf; rw [← e, ap.fnd hf]
      refine ⟨h1, h2, ?_, ?_, fun e => ?_⟩
      · show 0 ≤ (if f.id = s.turn then f.left - n else f.left)
        split
        next e => have := hl e; omega
        next => exact h3
      · show (if f.id = s.turn then f.left - n else f.left) < s.most + f.share
        split <;> omega
      · show (if f.id = s.turn then f.left - n else f.left) < s.most
        rcases e with e | e
        · rw [if_neg e]; exact h5 (.inl e)
        · rw [show s.g = false from e] at hg; cases hg
    · obtain ⟨f, hf, e⟩ := h.t hg
      exact ⟨_, upd_mem' hf, e⟩
  next => exact h

abbrev Lf (w w' : World) (p mb c : Nat) (D : DataW Unit) (s s' : Sc) : Prop := Ss w' p mb c D s' ∧ Turns (Foot p mb s) w w'

set_option maxRecDepth 10000 in
theorem take_no (p mb c : Nat) (D : DataW Unit) (s : Sc) (n : Int) (w : World) (h : Ss w p mb c D s) (hn : s.g = false ∨ n < 0) :
    Calls Tryz.prog 79 #[.pointer (some ⟨p, 0, none⟩), .int .i64 n] w fun e w' => e = .returned (.tuple #[]) ∧ Lf w w' p mb c D s (takeS n s) := by
  have e : takeS n s = s := by
    unfold takeS
    rw [if_neg]
    rintro ⟨h1, h2, _⟩
    rcases hn with e | e
    · rw [e] at h1; cases h1
    · omega
  rw [e]
  have HH := Lib.hid h
  obtain ⟨⟨c0, c1, c2, c3⟩, _⟩ := four h.blk
  clear h e
  go_enter Tryz.func79, Tryz.ntmps79
  by_cases hg : s.g = false
  · rw [hg] at c3
    go_wp2
    refine bodyPost_ret (results_none rfl _ _ _) rfl ?_
    exact ⟨rfl, HH.out, Turns.refl _ _⟩
  · have hg' : s.g = true := by simpa using hg
    rw [hg'] at c3
    have d1 : decide (n < 0) = true := decide_eq_true (hn.resolve_left hg)
    go_wp2
    refine bodyPost_ret (results_none rfl _ _ _) rfl ?_
    exact ⟨rfl, HH.out, Turns.refl _ _⟩
set_option maxRecDepth 10000 in
theorem take_go (p mb c : Nat) (D : DataW Unit) (s : Sc) (n : Int) (w : World) (h : Ss w p mb c D s) (hg : s.g = true) (hn : 0 ≤ n) (hn' : n ≤ 9223372036854775807) :
    Calls Tryz.prog 79 #[.pointer (some ⟨p, 0, none⟩), .int .i64 n] w fun e w' => e = .returned (.tuple #[]) ∧ Lf w w' p mb c D s (takeS n s) := by
  obtain ⟨f, hf, hid⟩ := h.ok.t hg
  obtain ⟨h1, h2, h3, h4, h5⟩ := h.ok.f f hf
  have hm1 := h.ok.m1
  have hlo : leftOf s s.turn = f.left := by unfold leftOf; rw [← hid, h.ap.fnd hf]
  have hr0 := look_at h.map (h.rg f hf).1 (h.rg f hf).2 (h.rd2 f hf)
  have hr1 := look_at h.drew.map (h.rg f hf).1 (h.rg f hf).2 (h.rd2 f hf)
  rw [hid] at hr0 hr1
  obtain ⟨⟨c0, c1, c2, c3⟩, _⟩ := four h.blk
  obtain ⟨⟨f0, f1⟩, f2, f3⟩ := two (h.fb f hf)
  rw [hg] at c3
  have d1 : decide (n < 0) = false := decide_eq_false (by omega)
  have HH := Lib.hid h
  by_cases hle : n ≤ f.left
  · have e : takeS n s = ⟨s.most, upd s.L (fun g => if g.id = f.id then f.left - n else g.left), s.turn, s.g⟩ := by
      unfold takeS
      rw [if_pos ⟨hg, hn, by rw [hlo]; exact hle⟩]
      congr 1
      refine upd_congr (fun g hgm => ?_)
      rw [hid]
      split
      next e => rw [h.ap.eq hgm hf (.inl (by rw [e, hid]))]
      next => rfl
    have hok := h.ok.take h.ap n
    rw [e] at hok ⊢
    have HL := Lib.hid (fun w1 (hw : Ss w1 p mb c D s) => hw.left hf (f.left - n) hok)
    have HF := Lib.hid hf
    have d2 : decide (n ≤ f.left) = true := decide_eq_true hle
    have hw : IntKind.i64.wrap (f.left - n) = f.left - n := IntWalk.i64_in _ (by omega)
    clear h hok e hle hlo
    go_enter Tryz.func79, Tryz.ntmps79
    go_upto_region 1 with fail
    go_region
    go_wp2
    go_end0
    have HZ := HL.out _ (HH.out.drew)
    exact ⟨rfl, HZ.1, (Turns.refl _ w).drew.trans (HZ.2.mono (fun i _ hi => .inl (.inr (.inr ⟨f, HF.out, hi.symm⟩))))⟩
  · have e : takeS n s = s := by
      unfold takeS
      rw [if_neg]
      rintro ⟨_, _, h3⟩
      rw [hlo] at h3
      exact hle h3
    rw [e]
    have d2 : decide (n ≤ f.left) = false := decide_eq_false hle
    clear h e hle hlo
    go_enter Tryz.func79, Tryz.ntmps79
    go_upto_region 1 with fail
    go_region
    go_wp2
    go_end0
    exact ⟨rfl, HH.out.drew, (Turns.refl _ _).drew⟩
theorem take (p mb c : Nat) (D : DataW Unit) (s : Sc) (n : Int) (w : World) (h : Ss w p mb c D s) (hn' : n ≤ 9223372036854775807) :
    Calls Tryz.prog 79 #[.pointer (some ⟨p, 0, none⟩), .int .i64 n] w fun e w' => e = .returned (.tuple #[]) ∧ Lf w w' p mb c D s (takeS n s) := by
  by_cases hg : s.g = false
  · exact take_no p mb c D s n w h (.inl hg)
  · by_cases h0 : n < 0
    · exact take_no p mb c D s n w h (.inr h0)
    · exact take_go p mb c D s n w h (by simpa using hg) (by omega) hn'

set_option maxRecDepth 10000 in
theorem grant_yes (p mb c : Nat) (D : DataW Unit) (s : Sc) (w : World) (h : Ss w p mb c D s) (hg : s.g = true) :
    Calls Tryz.prog 115 #[.pointer (some ⟨p, 0, none⟩)] w fun e w' => e = .returned (.int .i64 (leftOf (grantS s) s.turn)) ∧ Lf w w' p mb c D s (grantS s) := by
  obtain ⟨f, hf, hid⟩ := h.ok.t hg
  have e : grantS s = s := by unfold grantS; rw [hg]; rfl
  rw [e]
  have hlo : leftOf s s.turn = f.left := by unfold leftOf; rw [← hid, h.ap.fnd hf]
  have hr0 := look_at h.map (h.rg f hf).1 (h.rg f hf).2 (h.rd2 f hf)
  have hr1 := look_at h.drew.map (h.rg f hf).1 (h.rg f hf).2 (h.rd2 f hf)
  rw [hid] at hr0 hr1
  rw [hlo]
  obtain ⟨⟨c0, c1, c2, c3⟩, _⟩ := four h.blk
  obtain ⟨⟨f0, f1⟩, f2, f3⟩ := two (h.fb f hf)
  rw [hg] at c3
  have HH := Lib.hid h
  clear h hlo e
  go_enter Tryz.func115, Tryz.ntmps115
  go_upto_region 1 with fail
  go_region
  go_wp2
  go_ret
  exact ⟨rfl, HH.out.drew, (Turns.refl _ _).drew⟩
set_option maxRecDepth 10000 in
set_option maxHeartbeats 1000000 in
theorem grant_no (p mb c : Nat) (D : DataW Unit) (s : Sc) (f : Fl) (w : World) (h : Ss w p mb c D s) (hg : s.g = false) (hf : f ∈ s.L) (hid : f.id = s.turn) :
    Calls Tryz.prog 115 #[.pointer (some ⟨p, 0, none⟩)] w fun e w' => e = .returned (.int .i64 (leftOf (grantS s) s.turn)) ∧ Lf w w' p mb c D s (grantS s) := by
  obtain ⟨h1, h2, h3, h4, h5⟩ := h.ok.f f hf
  have hm1 := h.ok.m1
  have e : grantS s = ⟨s.most, upd s.L (fun g => if g.id = f.id then f.left + f.share else g.left), s.turn, true⟩ := by
    unfold grantS
    rw [hg]
    simp only [Bool.false_eq_true, if_false]
    congr 1
    refine upd_congr (fun g hgm => ?_)
    rw [hid]
    split
    next e => rw [h.ap.eq hgm hf (.inl (by rw [e, hid]))]
    next => rfl
  have hlo : leftOf (grantS s) s.turn = f.left + f.share := by
    unfold leftOf
    rw [e]
    show (match fnd (upd s.L _) s.turn with | some f => f.left | none => 0) = _
    rw [fnd_upd, ← hid, h.ap.fnd hf]
    simp
  have hok := h.ok.grant ⟨f, hf, hid⟩
  rw [hlo]
  rw [e] at hok ⊢
  have hok0 : Sc.ok ⟨s.most, upd s.L (fun g => if g.id = f.id then f.left + f.share else g.left), s.turn, true⟩ := hok
  have hr0 := look_at h.map (h.rg f hf).1 (h.rg f hf).2 (h.rd2 f hf)
  have hr1 := look_at h.drew.map (h.rg f hf).1 (h.rg f hf).2 (h.rd2 f hf)
  rw [hid] at hr0 hr1
  obtain ⟨⟨c0, c1, c2, c3⟩, k0, k1, k2, k3⟩ := four h.blk
  obtain ⟨⟨f0, f1⟩, f2, f3⟩ := two (h.fb f hf)
  rw [hg] at c3
  have HH := Lib.hid h
  have HF := Lib.hid hf
  have hne := h.pf f hf
  have hw : IntKind.i64.wrap (f.left + f.share) = f.left + f.share := IntWalk.i64_in _ (by omega)
  have HE : Hid (∀ w1, Ss w1 p mb c D s → Blk (w1.setCell ⟨f.b, 1, none⟩ (.int .i64 (f.left + f.share))) p (cells s mb) SB → Ss ((w1.setCell ⟨f.b, 1, none⟩ (.int .i64 (f.left + f.share))).setCell ⟨p, 3, none⟩ (.bool true)) p mb c D ⟨s.most, upd s.L (fun g => if g.id = f.id then f.left + f.share else g.left), s.turn, true⟩ ∧ Turns (Foot p mb s) w1 ((w1.setCell ⟨f.b, 1, none⟩ (.int .i64 (f.left + f.share))).setCell ⟨p, 3, none⟩ (.bool true))) := Lib.hid (by
    intro w1 hw1 hb1
    have t1 : Turns (· = f.b) w1 (w1.setCell ⟨f.b, 1, none⟩ (.int .i64 (f.left + f.share))) := Turns.setCell (S := (· = f.b)) (Turns.refl _ w1) (p := ⟨f.b, 1, none⟩) (.inl rfl) _
    have t2 : Turns (· = p) (w1.setCell ⟨f.b, 1, none⟩ (.int .i64 (f.left + f.share))) ((w1.setCell ⟨f.b, 1, none⟩ (.int .i64 (f.left + f.share))).setCell ⟨p, 3, none⟩ (.bool true)) := Turns.setCell (S := (· = p)) (Turns.refl _ _) (p := ⟨p, 3, none⟩) (.inl rfl) _
    have fbs : ∀ g ∈ s.L, Blk (w1.setCell ⟨f.b, 1, none⟩ (.int .i64 (f.left + f.share))) g.b #[.int .i64 g.share, .int .i64 (if g.id = f.id then f.left + f.share else g.left)] FB := fun g hgm => by
      by_cases e : g.id = f.id
      · have e2 := hw1.ap.eq hgm HF.out (.inl e)
        subst e2
        rw [if_pos rfl]
        exact (hw1.fb g hgm).set 1 _
      · rw [if_neg e]
        have hne : f.b ≠ g.b := fun e2 => e (by rw [hw1.ap.eq HF.out hgm (.inr e2)])
        exact (hw1.fb g hgm).setOther hne _
    refine ⟨⟨hb1.set 3 _, ownsMap_turns (ownsMap_turns hw1.map t1 (hw1.mf f HF.out)) t2 hw1.mp, fun id => ?_, fun g hgm => ?_, fun g hgm => ?_, hw1.ap.upd _, fun g hgm => ?_, fun g hgm => ?_, hw1.tr, hok0⟩, (t1.mono (fun i _ hi => .inr (.inr ⟨f, HF.out, hi.symm⟩))).trans (t2.mono (fun i _ hi => .inl (.inl hi)))⟩
    · rw [hw1.rd1 id]
      show _ = (fnd (upd s.L _) id).isSome
      rw [fnd_upd]
      cases fnd s.L id <;> rfl
    · obtain ⟨f', hf', rfl⟩ := upd_mem hgm
      exact hw1.rd2 f' hf'
    · obtain ⟨f', hf', rfl⟩ := upd_mem hgm
      exact t2.blk (fbs f' hf') (hw1.pf f' hf')
    · obtain ⟨f', hf', rfl⟩ := upd_mem hgm
      exact hw1.pf f' hf'
    · obtain ⟨f', hf', rfl⟩ := upd_mem hgm
      exact hw1.rg f' hf')
  clear h hlo e hok hok0 h5
  go_enter Tryz.func115, Tryz.ntmps115
  go_upto_region 1 with fail
  go_region
  go_upto_region 3 with fail
  go_region
  have hbp : p ≠ f.b := fun e => hne e.symm
  have HE2 := HE.out w HH.out (HH.out.blk.setOther hne _)
  have HE3 := Lib.hid HE2
  clear HE2
  go_wp2
  go_ret
  exact ⟨rfl, HE3.out.1.drew.drew, HE3.out.2.drew.drew⟩
end Go.Proofs.YtcppibjllaablaaGreat.drr

/-
  'slices.Sorted(maps.Keys(m))' at whole numbers: the rising keys, as a row of its own. slices.BinarySearch.
-/
namespace Go.Proofs.YtcppibjllaablaaGreat.itr
open Go.RowKit mem Go.Maps Go.Sort Go.Shelf
set_option linter.unusedVariables false

def IntE : Enc Int := ⟨1, fun x => [.int .i64 x], fun _ => rfl, fun x u hu => by
  simp at hu
  subst hu; rfl⟩
theorem intE_all (l : List Int) : IntE.all l = l.map encZ := by
  induction l with
  | nil => rfl
  | cons x l ih => rw [IntE.all_cons, List.map_cons, ih]; rfl

theorem sortsI (m : Nat) : AnyZI.SortsIn Tryz.prog Tryz.sortedI_ren Fence.wide m :=
  ⟨fun blk off cap ss W hH hblk hsz => callsIn_wide.2 (AnyM.slices_Sort_int Tryz.sortI blk off cap ss W hH hblk hsz),
   fun p cap W => callsIn_wide.2 (AnyM.slices_Sort_int_none Tryz.sortI p cap W)⟩
theorem keys_ (mb : Option Nat) (W : World) : Calls Tryz.prog 113 #[.map mb] W fun e w' => e = .returned (.func (.func 131) #[] #[.pointer (some ⟨W.heap.size, 0, none⟩)]) ∧ w' = W.alloc (.cells #[.map mb] 38) :=
  (callsIn_wide (n := 5)).1 (AnyZI.keys_in Tryz.keysII Fence.wide 5 trivial rfl mb W)

theorem asc_le : ∀ {l : List Int}, l.Pairwise (· < ·) → l.Pairwise (· ≤ ·) := fun h => h.imp (fun h => Int.le_of_lt h)
theorem asc_nodup : ∀ {l : List Int}, l.Pairwise (· < ·) → l.Nodup := fun h => h.imp (fun h => Int.ne_of_lt h)
theorem sorted_is {ss l : List Int} (hp : ss.Perm l) (hl : l.Pairwise (· < ·)) : ss.mergeSort (fun x y => decide (x ≤ y)) = l := by
  have h1 : (ss.mergeSort (fun x y => decide (x ≤ y))).Pairwise (fun x y => decide (x ≤ y) = true) := List.pairwise_mergeSort (fun a b c h1 h2 => by simp at *; omega) (fun a b => by simp; omega) ss
  have h2 : (ss.mergeSort (fun x y => decide (x ≤ y))).Perm l := (List.mergeSort_perm ss _).trans hp
  refine h2.eq_of_pairwise (le := fun x y => decide (x ≤ y) = true) (fun a b _ _ h1 h2 => ?_) h1 (hl.imp (fun h => by simp; omega))
  simp at h1 h2; omega

set_option maxHeartbeats 1000000 in
/-- slices.Sorted at what maps.Keys handed back -/
theorem sorted_ (b nn : Nat) (D : DataW Unit) (R : Value → Option (DataW Unit × List MemPlace)) (l : List Int) (w : World) (hown : w.ownsMap Tryz.prog 3 R b nn D) (hmax : Maps.size D ≤ 1048576)
    (hasc : l.Pairwise (· < ·)) (hl : ∀ x, x ∈ l ↔ Maps.has D (.int .i64 x) = true) :
    Calls Tryz.prog 75 #[.func (.func 131) #[] #[.pointer (some ⟨w.heap.size, 0, none⟩)]] (w.alloc (.cells #[.map (some b)] 38)) fun e w' => ∃ v : Value, e = .returned v ∧ Owns IntE 3 w' v l ∧ (∀ g, v.ownBlock = some g → w.heap.size ≤ g) ∧ Turns (fun _ => False) w w' := by
  have hbl := hown.lt
  have hseq : SeqGives Fence.wide 2 Tryz.prog 131 #[.pointer (some ⟨w.heap.size, 0, none⟩)] encZ (fun ss => ss.Perm (intKeys D)) (Maps.size D) (w.alloc (.cells #[.map (some b)] 38)) :=
    AnyZI.keys_gives (ρ := Tryz.keysII_ren) { Tryz.keysII with } Fence.wide _ trivial rfl (by omega) w.heap.size b nn D _ (by simp) (by simp) (by
      obtain ⟨es, clock, hb, Ft, hs, hD⟩ := hown
      exact ⟨es, clock, (Below.heap_alloc _ _ b hbl).trans hb, Ft, hs, hD⟩)
  have hper : l.Perm (intKeys D) := CollectedI.perm (left := fun _ => false) ⟨asc_nodup hasc, fun x => by rw [hl x]; simp⟩ hown (int_keyed Tryz.underlying3) Tryz.underlying3 (fun _ => rfl)
  have cS := AnyZI.sorted_in Tryz.sortedI Fence.wide 5 trivial trivial trivial trivial rfl (by omega) (sortsI _) (enters_of Tryz.func109 (by kernel_rfl) rfl) 131 #[.pointer (some ⟨w.heap.size, 0, none⟩)] trivial (enters_of Tryz.func131 (by kernel_rfl) rfl) _ _ (by unfold maxLen; omega) (by omega) _ hseq
  refine ((callsIn_wide (n := 5)).1 cS).mono ?_
  rintro e w' ⟨v, ss, rfl, hS, hrow, hnil, hb⟩
  have hs := sorted_is (hS.trans hper.symm) hasc
  have hlen : ss.length = l.length := (hS.trans hper.symm).length_eq
  rw [hs, hlen] at hrow
  refine ⟨v, rfl, ?_, fun g hg => ?_, ((Turns.refl _ w).alloc _).trans ((Turns.of_below hb).mono (fun i hi h => .inr (by have : (w.alloc (.cells #[.map (some b)] 38)).heap.size = w.heap.size + 1 := (by unfold World.alloc; exact Array.size_push _); omega)))⟩
  · unfold Owns
    rw [intE_all]
    exact ownsRow_base_a hrow (Nat.zero_le _)
  · have := (World.ownsRow.lt hrow g hg).1
    have e2 : (w.alloc (.cells #[.map (some b)] 38)).heap.size = w.heap.size + 1 := by unfold World.alloc; exact Array.size_push _
    omega
end Go.Proofs.YtcppibjllaablaaGreat.itr

/-
  drr.Sched: Add, Remove, pass.
-/
namespace Go.Proofs.YtcppibjllaablaaGreat.drr
open Go.RowKit mem Go.Maps
set_option linter.unusedVariables false

theorem add_bad (p mb c : Nat) (D : DataW Unit) (s : Sc) (id sh : Int) (w : World) (h : Ss w p mb c D s) (hb : sh < s.most ∨ 16777216 < sh) :
    Calls Tryz.prog 38 #[.pointer (some ⟨p, 0, none⟩), .int .i64 id, .int .i64 sh] w fun e w' => e = .returned (.int .i64 5) ∧ w' = w := by
  obtain ⟨⟨c0, c1, c2, c3⟩, _⟩ := four h.blk
  clear h
  go_enter Tryz.func38, Tryz.ntmps38
  by_cases h1 : sh < s.most
  · have d1 : decide (sh < s.most) = true := decide_eq_true h1
    go_wp2
    go_ret
    exact ⟨rfl, rfl⟩
  · have d1 : decide (sh < s.most) = false := decide_eq_false h1
    have d2 : decide (16777216 < sh) = true := decide_eq_true (hb.resolve_left h1)
    go_wp2
    go_ret
    exact ⟨rfl, rfl⟩
theorem add_there (p mb c : Nat) (D : DataW Unit) (s : Sc) (f : Fl) (sh : Int) (w : World) (h : Ss w p mb c D s) (h1 : s.most ≤ sh) (h2 : sh ≤ 16777216) (hf : f ∈ s.L) :
    Calls Tryz.prog 38 #[.pointer (some ⟨p, 0, none⟩), .int .i64 f.id, .int .i64 sh] w fun e w' => e = .returned (.int .i64 10) ∧ w' = w := by
  have hr0 := look_ok_at h.map (h.rg f hf).1 (h.rg f hf).2 (h.rd2 f hf)
  obtain ⟨⟨c0, c1, c2, c3⟩, _⟩ := four h.blk
  have d1 : decide (sh < s.most) = false := decide_eq_false (by omega)
  have d2 : decide (16777216 < sh) = false := decide_eq_false (by omega)
  clear h h1 h2 hf
  go_enter Tryz.func38, Tryz.ntmps38
  go_wp2
  go_ret
  exact ⟨rfl, rfl⟩
def addS (s : Sc) (id : Int) (b : Nat) (sh : Int) : Sc := ⟨s.most, s.L ++ [⟨id, b, sh, 0⟩], s.turn, s.g⟩
theorem fnd_snoc (L : List Fl) (f : Fl) (id : Int) : fnd (L ++ [f]) id = (fnd L id).or (if f.id = id then some f else none) := by
  unfold fnd
  rw [List.find?_append]
  congr 1
  by_cases e : f.id = id
  · simp [e]
  · have : (f.id == id) = false := by simpa using e
    simp [this, e]
theorem fnd_none {L : List Fl} {id : Int} (h : fnd L id = none) : ∀ f ∈ L, f.id ≠ id := fun f hf e => by
  have := List.find?_eq_none.1 h f hf
  simp [e] at this
set_option maxRecDepth 10000 in
set_option maxHeartbeats 1000000 in
theorem add_ok (p mb c : Nat) (D : DataW Unit) (s : Sc) (id sh : Int) (w : World) (h : Ss w p mb c D s) (h1 : s.most ≤ sh) (h2 : sh ≤ 16777216) (n0 : -9223372036854775808 ≤ id) (n1 : id ≤ 9223372036854775807) (hf : fnd s.L id = none) (hc : c ≤ 1048576) :
    Calls Tryz.prog 38 #[.pointer (some ⟨p, 0, none⟩), .int .i64 id, .int .i64 sh] w fun e w' => e = .returned (.int .i64 0) ∧ Ss w' p mb (c + 1) (D.put (.int .i64 id) (.lit (.int .i64 (w.heap.size : Int)))) (addS s id w.heap.size sh) ∧ Turns (· = mb) w w' := by
  have hr0 := look_ok_none h.map n0 n1 (by rw [h.rd1 id, hf]; rfl)
  obtain ⟨⟨c0, c1, c2, c3⟩, _⟩ := four h.blk
  have d1 : decide (sh < s.most) = false := decide_eq_false (by omega)
  have d2 : decide (16777216 < sh) = false := decide_eq_false (by omega)
  have HF := Lib.hid hf
  have HH := Lib.hid h
  have HN : Hid (s.most ≤ sh ∧ sh ≤ 16777216) := Lib.hid ⟨h1, h2⟩
  have hval : ptrE (.pointer (some ⟨w.heap.size, 0, none⟩)) = some (.lit (.int .i64 (w.heap.size : Int)), []) := rfl
  have hkey := keyI n0 n1
  have hmx : c < maxLen := by unfold maxLen; omega
  have hown := h.map.alloc (.cells #[.int .i64 sh, .int .i64 0] FB)
  have HO := Lib.hid hown
  have HB : Hid (Blk (w.alloc (.cells #[.int .i64 sh, .int .i64 0] FB)) w.heap.size #[.int .i64 sh, .int .i64 0] FB) := Lib.hid (Blk.new _ _ _)
  clear h h1 h2 hf hown
  go_enter Tryz.func38, Tryz.ntmps38
  go_wp2_with (at_mapUpdate; refine wpList_mapUpdate_own _ rfl _ _ _ 172 rfl 3 175 lawI Tryz.underlying172 ptrE mb c D rfl HO.out hmx _ _ _ rfl rfl hkey _ [] hval ?_; intro wm hownm hgrowm; have HM := Lib.hid hownm; have HG := Lib.hid hgrowm; clear hownm hgrowm)
  go_ret
  have h := HH.out
  have t1 : New w (w.alloc (.cells #[.int .i64 sh, .int .i64 0] FB)) := (Turns.refl _ _).alloc _
  have t2 : Turns (· = mb) (w.alloc (.cells #[.int .i64 sh, .int .i64 0] FB)) wm := (Turns.of_grown HG.out).mono (fun k _ hk => by injection hk)
  have tt : Turns (· = mb) w wm := (t1.mono (fun _ _ h => h.elim)).trans (t2.mono (fun i _ hi => .inl hi))
  have hm := h.mlt
  have hD : IsMap D := h.map.isMap
  refine ⟨rfl, ⟨tt.blk h.blk h.mp.symm, HM.out, fun x => ?_, fun f hf z => ?_, fun f hf => ?_, ?_, fun f hf => ?_, fun f hf => ?_, h.tr, ?_⟩, tt⟩
  · show _ = (fnd (s.L ++ [⟨id, w.heap.size, sh, 0⟩]) x).isSome
    rw [fnd_snoc]
    by_cases e : x = id
    · subst e
      rw [has_put_same hD (show WideAt.IsKeyLit (.int .i64 x) from trivial), HF.out]
      simp
    · rw [has_put_other (fun e2 => e (by injection e2)), h.rd1 x]
      have e3 : ¬ id = x := fun e2 => e e2.symm
      simp [e3]
  · rcases List.mem_append.1 hf with hf | hf
    · have := fnd_none HF.out f hf
      rw [atKey_put_other (fun e2 => this (by injection e2))]
      exact h.rd2 f hf z
    · simp at hf; subst hf
      exact atKey_put_same hD (show WideAt.IsKeyLit (.int .i64 id) from trivial) _ _
  · rcases List.mem_append.1 hf with hf | hf
    · exact tt.blk (h.fb f hf) (h.mf f hf).symm
    · simp at hf; subst hf
      exact t2.blk HB.out (by show ¬ w.heap.size = mb; omega)
  · show (s.L ++ [_]).Pairwise _
    rw [List.pairwise_append]
    refine ⟨h.ap, List.pairwise_singleton _ _, fun f hf g hg => ?_⟩
    simp at hg; subst hg
    have := h.flt f hf
    exact ⟨fnd_none HF.out f hf, by show f.b ≠ w.heap.size; omega⟩
  · rcases List.mem_append.1 hf with hf | hf
    · exact h.pf f hf
    · simp at hf; subst hf
      have := h.lt
      show w.heap.size ≠ p; omega
  · rcases List.mem_append.1 hf with hf | hf
    · exact h.rg f hf
    · simp at hf; subst hf
      exact ⟨n0, n1⟩
  · refine ⟨h.ok.m0, h.ok.m1, fun f hf => ?_, fun e => ?_⟩
    · rcases List.mem_append.1 hf with hf | hf
      · exact h.ok.f f hf
      · simp at hf; subst hf
        have := h.ok.m0
        have := HN.out
        exact ⟨this.1, this.2, Int.le_refl _, by show 0 < s.most + sh; omega, fun _ => by show 0 < s.most; omega⟩
    · obtain ⟨f, hf, e⟩ := h.ok.t e
      exact ⟨f, List.mem_append_left _ hf, e⟩

theorem remove_none (p mb c : Nat) (D : DataW Unit) (s : Sc) (id : Int) (w : World) (h : Ss w p mb c D s) (n0 : -9223372036854775808 ≤ id) (n1 : id ≤ 9223372036854775807) (hf : fnd s.L id = none) :
    Calls Tryz.prog 105 #[.pointer (some ⟨p, 0, none⟩), .int .i64 id] w fun e w' => e = .returned (.int .i64 12) ∧ w' = w := by
  have hrun := look_ok_none h.map n0 n1 (by rw [h.rd1 id, hf]; rfl)
  obtain ⟨⟨c0, c1, c2, c3⟩, _⟩ := four h.blk
  clear h hf
  go_enter Tryz.func105, Tryz.ntmps105
  go_wp2
  go_ret
  exact ⟨rfl, rfl⟩
def remS (s : Sc) (id : Int) : Sc := ⟨s.most, s.L.filter (fun f => f.id != id), s.turn, s.g && (id != s.turn)⟩
theorem fnd_filter (L : List Fl) (id x : Int) : fnd (L.filter (fun f => f.id != id)) x = if x = id then none else fnd L x := by
  unfold fnd
  induction L with
  | nil => split <;> rfl
  | cons f l ih =>
    rw [List.filter_cons]
    by_cases e : f.id = id
    · have e1 : (f.id != id) = false := by simp [e]
      rw [e1]
      simp only [Bool.false_eq_true, if_false]
      rw [ih, List.find?_cons]
      split
      next => rfl
      next hx =>
        have : (f.id == x) = false := by simp; omega
        rw [this]
    · have e1 : (f.id != id) = true := by simp [e]
      rw [e1]
      simp only [if_true]
      rw [List.find?_cons, List.find?_cons, ih]
      by_cases e2 : f.id = x
      · have : (f.id == x) = true := by simp [e2]
        rw [this]
        have : ¬ x = id := by omega
        simp [this]
      · have : (f.id == x) = false := by simp [e2]
        rw [this]
theorem Sc.ok.rem {s : Sc} (h : s.ok) (id : Int) : (remS s id).ok := by
  refine ⟨h.m0, h.m1, fun f hf => ?_, fun e => ?_⟩
  · obtain ⟨hf, hne⟩ := List.mem_filter.1 hf
    obtain ⟨h1, h2, h3, h4, h5⟩ := h.f f hf
    refine ⟨h1, h2, h3, h4, fun e => h5 ?_⟩
    rcases e with e | e
    · exact .inl e
    · show f.id ≠ s.turn ∨ s.g = false
      have e' : (s.g && (id != s.turn)) = false := e
      cases hg : s.g
      · exact .inr rfl
      · rw [hg] at e'
        simp at e' hne
        exact .inl (by omega)
  · have e' : (s.g && (id != s.turn)) = true := e
    simp at e'
    obtain ⟨f, hf, e3⟩ := h.t e'.1
    exact ⟨f, List.mem_filter.2 ⟨hf, by simp; rw [e3]; exact fun e => e'.2 e.symm⟩, e3⟩
set_option maxRecDepth 10000 in
set_option maxHeartbeats 1000000 in
theorem remove_ok (p mb c : Nat) (D : DataW Unit) (s : Sc) (f : Fl) (w : World) (h : Ss w p mb c D s) (hf : f ∈ s.L) :
    Calls Tryz.prog 105 #[.pointer (some ⟨p, 0, none⟩), .int .i64 f.id] w fun e w' => e = .returned (.int .i64 0) ∧ Ss w' p mb c (D.del (.int .i64 f.id)) (remS s f.id) ∧ Turns (fun k => k = p ∨ k = mb) w w' := by
  have hr0 := look_ok_at h.map (h.rg f hf).1 (h.rg f hf).2 (h.rd2 f hf)
  obtain ⟨⟨c0, c1, c2, c3⟩, k0, k1, k2, k3⟩ := four h.blk
  have HH := Lib.hid h
  have HF := Lib.hid hf
  have hkey := keyI (h.rg f hf).1 (h.rg f hf).2
  have hown := h.map
  have HO := Lib.hid hown
  have hok := h.ok.rem f.id
  have HK := Lib.hid hok
  have HE : Hid (∀ w1, w1.ownsMap Tryz.prog 3 ptrE mb c (D.del (.int .i64 f.id)) → Turns (fun k => k = p ∨ k = mb) w w1 → Blk w1 p (cells (remS s f.id) mb) SB → Ss w1 p mb c (D.del (.int .i64 f.id)) (remS s f.id)) := Lib.hid (by
    intro w1 hm t hb
    refine ⟨hb, hm, fun x => ?_, fun g hg z => ?_, fun g hg => ?_, List.Pairwise.filter _ h.ap, fun g hg => h.pf g (List.mem_filter.1 hg).1, fun g hg => h.rg g (List.mem_filter.1 hg).1, h.tr, hok⟩
    · show _ = (fnd (s.L.filter _) x).isSome
      rw [fnd_filter]
      by_cases e : x = f.id
      · rw [if_pos e, e, has_del_same]; rfl
      · rw [if_neg e, has_del_other (fun e2 => e (by injection e2)), h.rd1 x]
    · obtain ⟨hg, hne⟩ := List.mem_filter.1 hg
      simp at hne
      rw [atKey_del_other (fun e2 => hne (by injection e2))]
      exact h.rd2 g hg z
    · obtain ⟨hg, hne⟩ := List.mem_filter.1 hg
      refine t.blk (h.fb g hg) (fun e => ?_)
      rcases e with e | e
      · exact h.pf g hg e
      · exact h.mf g hg e.symm)
  have hpm := h.mp
  clear h hf hown hok
  go_enter Tryz.func105, Tryz.ntmps105
  go_upto_region 5 with (at_delete; refine wpList_delete_own _ rfl _ _ 172 3 rfl 175 lawI Tryz.underlying172 ptrE mb c D rfl HO.out _ _ rfl hkey ?_; intro wm hownm hturn; have HM := Lib.hid hownm; have HG := Lib.hid hturn.grown; clear hownm hturn)
  have t2 : Turns (· = mb) w wm := (Turns.of_grown HG.out).mono (fun k _ hk => by injection hk)
  have hb2 := t2.blk HH.out.blk hpm.symm
  have HB2 := Lib.hid hb2
  obtain ⟨⟨m0, m1, m2, m3⟩, q0, q1, q2, q3⟩ := four hb2
  have HT := Lib.hid (t2.mono (S' := fun k => k = p ∨ k = mb) (fun _ _ h => .inr h))
  clear t2 hb2 c0 c1 c2 c3 k0 k1 k2 k3 hr0
  by_cases e : f.id = s.turn
  · have e1 : (f.id == s.turn) = true := by simp [e]
    have e2 : (s.g && (f.id != s.turn)) = false := by simp [e]
    have HZ := HE.out (wm.setCell ⟨p, 3, none⟩ (.bool false)) (ownsMap_turns (S := (· = p)) HM.out (Turns.setCell (S := (· = p)) (Turns.refl _ wm) (p := ⟨p, 3, none⟩) (.inl rfl) _) hpm) (HT.out.setCell (p := ⟨p, 3, none⟩) (.inl (.inl rfl)) _) (by
      have := HB2.out.set 3 (.bool false)
      unfold remS
      rw [e2]
      exact this)
    have HZ2 := Lib.hid HZ
    clear HZ
    clear e
    go_wp2
    go_ret
    exact ⟨rfl, HZ2.out, HT.out.setCell (p := ⟨p, 3, none⟩) (.inl (.inl rfl)) _⟩
  · have e1 : (f.id == s.turn) = false := by simp [e]
    have e2 : (s.g && (f.id != s.turn)) = s.g := by simp [e]
    have HZ := Lib.hid (HE.out wm HM.out HT.out (by unfold remS; rw [e2]; exact HB2.out))
    clear e
    go_wp2
    go_ret
    exact ⟨rfl, HZ.out, HT.out⟩

/-- a row of whole numbers -/
def Row (w : World) (g : Nat) (l : List Int) : Prop := g < w.heap.size ∧ ∀ j, j < l.length → w.cell? ⟨g, j, none⟩ = some (.int .i64 (l.getD j 0))
theorem Row.turns {S : Nat → Prop} {w w' : World} {g : Nat} {l : List Int} (h : Row w g l) (t : Turns S w w') (hn : ¬ S g) : Row w' g l :=
  ⟨Nat.lt_of_lt_of_le h.1 t.size, fun j hj => (t.cell (a := ⟨g, j, none⟩) h.1 hn).trans (h.2 j hj)⟩
theorem row_of_owns {T : TypeId} {w : World} {v : Value} {l : List Int} (h : Owns itr.IntE T w v l) (hl : l ≠ []) : ∃ g c, v = .slice (some ⟨g, 0, none⟩) l.length c ∧ l.length ≤ c ∧ Row w g l ∧ v.ownBlock = some g := by
  obtain ⟨ao, c, rfl, hc, hr, ho⟩ := h.form
  rcases hr with e | ⟨g, rfl, hg, hcell⟩
  · exact absurd e hl
  · refine ⟨g, c, rfl, hc, ⟨hg, fun j hj => ?_⟩, ho g rfl⟩
    have := hcell j (l.getD j 0) (by rw [List.getD_eq_getElem?_getD, List.getElem?_eq_getElem hj]; rfl) 0 _ rfl
    simpa [itr.IntE] using this
set_option maxRecDepth 10000 in
theorem pass (p mb c : Nat) (D : DataW Unit) (s : Sc) (l : List Int) (g cap : Nat) (w : World) (h : Ss w p mb c D s) (hr : Row w g l) (hl : l ≠ []) (hlen : l.length ≤ 1048576) (hcap : l.length ≤ cap) (hasc : l.Pairwise (· < ·)) (hrg : ∀ x ∈ l, -9223372036854775808 ≤ x ∧ x ≤ 9223372036854775807)
    (hok : Sc.ok ⟨s.most, s.L, nextId l s.turn, false⟩) :
    Calls Tryz.prog 114 #[.pointer (some ⟨p, 0, none⟩), .slice (some ⟨g, 0, none⟩) l.length cap] w fun e w' => e = .returned (.tuple #[]) ∧ Ss w' p mb c D ⟨s.most, s.L, nextId l s.turn, false⟩ ∧ Turns (· = p) w w' := by
  have hbs := Any.slices_BinarySearch_int Tryz.searchI g 0 l.length cap l s.turn w (Nat.le_refl _) (by omega) (fun j hj => by rw [Nat.zero_add]; exact hr.2 j hj) (by rw [List.take_length]; exact itr.asc_le hasc)
  rw [List.take_length] at hbs
  have HBS := Lib.hid hbs
  have HH := Lib.hid h
  have hlm : l.length ≤ maxLen := by unfold maxLen; omega
  obtain ⟨⟨c0, c1, c2, c3⟩, k0, k1, k2, k3⟩ := four h.blk
  have h0 : 0 < l.length := List.length_pos_iff.2 hl
  have hcp : l.countP (fun x => decide (x < s.turn)) ≤ l.length := List.countP_le_length
  have HE : Hid (∀ w1, Ss w1 p mb c D s → Ss ((w1.setCell ⟨p, 2, none⟩ (.int .i64 (nextId l s.turn))).setCell ⟨p, 3, none⟩ (.bool false)) p mb c D ⟨s.most, s.L, nextId l s.turn, false⟩ ∧ Turns (· = p) w1 ((w1.setCell ⟨p, 2, none⟩ (.int .i64 (nextId l s.turn))).setCell ⟨p, 3, none⟩ (.bool false))) := Lib.hid (fun w1 h1 => by
    have t : Turns (· = p) w1 ((w1.setCell ⟨p, 2, none⟩ (.int .i64 (nextId l s.turn))).setCell ⟨p, 3, none⟩ (.bool false)) := ((Turns.refl (· = p) w1).setCell (p := ⟨p, 2, none⟩) (.inl rfl) _).setCell (p := ⟨p, 3, none⟩) (.inl rfl) _
    exact ⟨h1.turn _ _ ((h1.blk.set 2 _).set 3 _) t (hrg _ (nextId_mem hl _)) hok, t⟩)
  obtain ⟨K, hK⟩ : ∃ K : Nat, l.countP (fun x => decide (x < s.turn)) + (if s.turn ∈ l then 1 else 0) = K := ⟨_, rfl⟩
  have hlt : K % l.length < l.length := Nat.mod_lt _ h0
  have hne : nextId l s.turn = l.getD (K % l.length) 0 := by unfold nextId; rw [hK]
  have hcell := hr.2 _ hlt
  rw [← hne] at hcell
  obtain ⟨N, hN⟩ : ∃ N : Nat, l.countP (fun x => decide (x < s.turn)) = N := ⟨_, rfl⟩
  rw [hN] at HBS hcp hK
  obtain ⟨M, hM⟩ : ∃ M : Nat, K % l.length = M := ⟨_, rfl⟩
  rw [hM] at hlt hcell
  have hM2 : ((K : Int) % (l.length : Int)) = (M : Int) := by rw [← hM]; exact (Int.natCast_emod K l.length).symm
  have i0 : (0 : Int) ≤ (M : Int) := by omega
  have i1 : (M : Int) < (l.length : Int) := by omega
  have hz : ((l.length : Int) == 0) = false := by simp; omega
  have hw : IntKind.i64.wrap ((N : Int) + 1) = (N : Int) + 1 := IntWalk.i64_in _ (by omega)
  clear h hne hbs hN hM hr
  go_enter Tryz.func114, Tryz.ntmps114
  by_cases hm : s.turn ∈ l
  · have hm1 : l.contains s.turn = true := by simpa using hm
    rw [if_pos hm] at hK
    rw [hm1] at HBS
    have hK2 : (K : Int) = (N : Int) + 1 := by omega
    rw [hK2] at hM2
    clear hK hK2 hm hm1
    generalize nextId l s.turn = t' at *
    go_wp2_with fail
    refine HBS.out.mono ?_
    rintro e w1 ⟨rfl, q, rfl⟩
    go_wp2
    go_end0
    have HZ := HE.out (w.drewN q) (HH.out.drewN q)
    exact ⟨rfl, HZ.1, ((Turns.refl _ w).drewN q).trans (HZ.2.mono (fun _ _ h => .inl h))⟩
  · have hm1 : l.contains s.turn = false := by simpa using hm
    rw [if_neg hm] at hK
    rw [hm1] at HBS
    have hK2 : (K : Int) = (N : Int) := by omega
    rw [hK2] at hM2
    clear hK hK2 hm hm1
    generalize nextId l s.turn = t' at *
    go_wp2_with fail
    refine HBS.out.mono ?_
    rintro e w1 ⟨rfl, q, rfl⟩
    go_wp2
    go_end0
    have HZ := HE.out (w.drewN q) (HH.out.drewN q)
    exact ⟨rfl, HZ.1, ((Turns.refl _ w).drewN q).trans (HZ.2.mono (fun _ _ h => .inl h))⟩
end Go.Proofs.YtcppibjllaablaaGreat.drr

/-
  drr.Sched: sizes, forget.
-/
namespace Go.Proofs.YtcppibjllaablaaGreat.drr
open Go.RowKit mem Go.Maps
set_option linter.unusedVariables false

abbrev HT : TypeId := 167
/-- v holds the heads l -/
def HRow (w : World) (v : Value) (l : Hs) : Prop :=
  ∃ ao c, v = .slice ao l.length c ∧ l.length ≤ c ∧ (l = [] ∨ ∃ g o, ao = some ⟨g, o, none⟩ ∧ g < w.heap.size ∧ ∀ j h, l[j]? = some h → w.cell? ⟨g, o + j * 2, none⟩ = some (.int .i64 h.1) ∧ w.cell? ⟨g, o + j * 2 + 1, none⟩ = some (.int .i64 h.2))
theorem HRow.later {w w' : World} {v : Value} {l : Hs} (h : HRow w v l) (t : New w w') : HRow w' v l := by
  obtain ⟨ao, c, e, hc, hr⟩ := h
  refine ⟨ao, c, e, hc, ?_⟩
  rcases hr with e | ⟨g, o, e, hg, hcell⟩
  · exact .inl e
  · exact .inr ⟨g, o, e, Nat.lt_of_lt_of_le hg t.size, fun j h hj => ⟨(t.cell (a := ⟨g, o + j * 2, none⟩) hg (fun h => h)).trans (hcell j h hj).1, (t.cell (a := ⟨g, o + j * 2 + 1, none⟩) hg (fun h => h)).trans (hcell j h hj).2⟩⟩
theorem zeroI (w : World) : (zeroValue 3).run Tryz.prog w = .ok (.int .i64 0) w := by kernel_rfl
/-- the map reads as the heads -/
structure Mz (D : DataW Unit) (l : Hs) : Prop where
  has : ∀ id, has D (.int .i64 id) = decide (id ∈ ids l)
  at_ : ∀ h ∈ l, ∀ z, D.atKey (.int .i64 h.1) z = .lit (.int .i64 h.2)
theorem ids_snoc (l : Hs) (x : Int × Int) : ids (l ++ [x]) = ids l ++ [x.1] := by unfold ids; exact List.map_append
theorem Mz.snoc {D : DataW Unit} {l : Hs} (h : Mz D l) (hD : IsMap D) (x : Int × Int) (hn : x.1 ∉ ids l) : Mz (D.put (.int .i64 x.1) (.lit (.int .i64 x.2))) (l ++ [x]) := by
  refine ⟨fun id => ?_, fun y hy z => ?_⟩
  · by_cases e : id = x.1
    · subst e
      rw [has_put_same hD (show WideAt.IsKeyLit (.int .i64 x.1) from trivial), ids_snoc]
      simp
    · rw [has_put_other (fun e2 => e (by injection e2)), h.has id, ids_snoc]
      simp [e]
  · rcases List.mem_append.1 hy with hy | hy
    · have : y.1 ≠ x.1 := fun e => hn (by rw [← e]; exact List.mem_map.2 ⟨y, hy, rfl⟩)
      rw [atKey_put_other (fun e2 => this (by injection e2))]
      exact h.at_ y hy z
    · simp at hy; subst hy
      exact atKey_put_same hD (show WideAt.IsKeyLit (.int .i64 y.1) from trivial) _ _
theorem take_succ' {α : Type} {l : List α} {j : Nat} {x : α} (h : l[j]? = some x) : l.take (j + 1) = l.take j ++ [x] := by
  rw [List.take_add_one, h]; rfl
theorem asc_not {l : Hs} (ha : (ids l).Pairwise (· < ·)) {j : Nat} {x : Int × Int} (hx : l[j]? = some x) : x.1 ∉ ids (l.take j) := by
  intro hm
  unfold ids at hm ha
  have h1 : (l.take (j + 1)).map (·.1) = (l.take j).map (·.1) ++ [x.1] := by rw [take_succ' hx]; simp
  have h2 : ((l.take (j + 1)).map (·.1)).Pairwise (· < ·) := by
    rw [List.map_take]; exact ha.sublist (List.take_sublist _ _)
  rw [h1, List.pairwise_append] at h2
  have := h2.2.2 x.1 hm x.1 (by simp)
  omega

set_option maxRecDepth 100000 in
set_option maxHeartbeats 2000000 in
theorem sizes (p mb c : Nat) (D : DataW Unit) (s : Sc) (l : Hs) (v : Value) (w : World) (h : Ss w p mb c D s) (hr : HRow w v l) (ok : Ok s l) (hlen : l.length ≤ 1048576) :
    Calls Tryz.prog 111 #[.pointer (some ⟨p, 0, none⟩), v] w fun e w' => ∃ mz D', e = .returned (.map (some mz)) ∧ w'.ownsMap Tryz.prog 3 (plainElem Tryz.prog 3) mz l.length D' ∧ w.heap.size ≤ mz ∧ New w w' ∧ Mz D' l := by
  obtain ⟨ao, cp, rfl, hcp, hrow⟩ := hr
  have hmm := @run_makeMap Tryz.prog
  have HH := Lib.hid h
  have HOK := Lib.hid ok
  have HROW := Lib.hid hrow
  have hlm : l.length ≤ maxLen := by unfold maxLen; omega
  clear h ok hrow
  go_enter Tryz.func111, Tryz.ntmps111
  have HM0 : Hid ((w.alloc (.map #[] 0)).ownsMap Tryz.prog 3 (plainElem Tryz.prog 3) w.heap.size 0 (.map [] : DataW Unit) ∧ New w (w.alloc (.map #[] 0))) := Lib.hid ⟨World.ownsMap_made _ _ _ _, (Turns.refl _ _).alloc _⟩
  go_upto_region 2 with fail
  refine (show Code.wp _ _ _ _ (w.alloc (.map #[] 0)) from ?_)
  have HS : Hid (w.heap.size ≤ w.heap.size) := Lib.hid (Nat.le_refl _)
  obtain ⟨mz, hmz⟩ : ∃ mz, w.heap.size = mz := ⟨_, rfl⟩
  rw [hmz] at HM0
  have HZ : Hid (w.heap.size ≤ mz) := Lib.hid (by omega)
  simp only [hmz]
  clear hmz HS
  generalize w.alloc (.map #[] 0) = w1 at *
  go_wp2_with fail
  go_loopw [13] (fun i wr => ∃ (j : Nat) (D' : DataW Unit), j ≤ l.length ∧ i = .int .i64 j ∧ wr.ownsMap Tryz.prog 3 (plainElem Tryz.prog 3) mz j D' ∧ New w wr ∧ Mz D' (l.take j)) (fun i _ => l.length - (intOf i).toNat)
  case atStart => exact ⟨0, _, Nat.zero_le _, rfl, HM0.out.1, HM0.out.2, (fun id => by simp [ids]; rfl), (fun x hx => by simp at hx)⟩
  case round =>
    obtain ⟨j, D', hj, rfl, hown, hnw, hmz⟩ := hrel
    have HO := Lib.hid hown
    have HN := Lib.hid hnw
    have HZM := Lib.hid hmz
    clear hown hnw hmz HM0
    by_cases hlt : j < l.length
    · obtain ⟨x, hx⟩ : ∃ x, l[j]? = some x := ⟨_, List.getElem?_eq_getElem hlt⟩
      obtain ⟨g, o, rfl, hg, hcell⟩ := HROW.out.resolve_left (fun e => by rw [e] at hlt; simp at hlt)
      have hc0 := (HN.out.cell (a := ⟨g, o + j * 2, none⟩) hg (fun h => h)).trans (hcell j x hx).1
      have hc1 := (HN.out.cell (a := ⟨g, o + j * 2 + 1, none⟩) hg (fun h => h)).trans (hcell j x hx).2
      have hxm := List.mem_of_getElem? hx
      obtain ⟨f, hf, hid⟩ := HOK.out.fl x hxm
      obtain ⟨hs0, hs1⟩ := HOK.out.sz x hxm
      have HX := Lib.hid hx
      have HZ2 := Lib.hid (HZM.out.snoc HO.out.isMap x (asc_not HOK.out.asc hx))
      rw [← take_succ' hx] at HZ2
      have hrg := HH.out.rg f hf
      have hrd := HH.out.rd2 f hf
      have hmo := HH.out.ok.m1
      rw [hid] at hrg hrd
      obtain ⟨id, sz⟩ := x
      dsimp only at *
      obtain ⟨hr1, hr2⟩ := hrg
      have HS7 := Lib.hid ((HH.out.later HN.out).later ((Turns.refl (fun _ => False) wr).alloc (.cells #[.int .i64 id, .int .i64 sz] HT)))
      have HO7 := Lib.hid (HO.out.alloc (.cells #[.int .i64 id, .int .i64 sz] HT))
      have HN7 : Hid (New w (wr.alloc (.cells #[.int .i64 id, .int .i64 sz] HT))) := Lib.hid (HN.out.alloc _)
      have HB7 : Hid (Blk (wr.alloc (.cells #[.int .i64 id, .int .i64 sz] HT)) wr.heap.size #[.int .i64 id, .int .i64 sz] HT) := Lib.hid (Blk.new _ _ _)
      clear hx hcell hf hid hxm
      go_upto_region 5 with fail
      refine (show Code.wp _ _ _ _ (wr.alloc (.cells #[.int .i64 id, .int .i64 sz] HT)) from ?_)
      clear hc0 hc1
      generalize wr.alloc (.cells #[.int .i64 id, .int .i64 sz] HT) = w7 at *
      generalize wr.heap.size = ph at *
      have hl1 := look_ok_at HS7.out.drew.map hr1 hr2 hrd
      obtain ⟨⟨c0, c1, c2, c3⟩, _⟩ := four HS7.out.blk
      obtain ⟨⟨x0, x1⟩, _⟩ := two HB7.out
      have hkey := keyI hr1 hr2
      have hval : plainElem (H := Unit) Tryz.prog 3 (.int .i64 sz) = some (.lit (.int .i64 sz), []) := plainElem_int Tryz.underlying3 (by simp [Lit.wf, IntKind.min, IntKind.max, IntKind.bits, IntKind.signed]; omega)
      have d0 : decide ((0 : Int) ≤ sz) = true := decide_eq_true hs0
      have d1 : decide (sz ≤ s.most) = true := decide_eq_true hs1
      have hmx : j < maxLen := by unfold maxLen; omega
      go_region
      go_upto_region 6 with fail
      go_region
      go_wp2_with (at_mapUpdate; refine wpList_mapUpdate_own _ rfl _ _ _ 38 rfl 3 3 lawI Tryz.underlying38 (plainElem Tryz.prog 3) mz j D' rfl (show (World.ownsMap _ _ _ _ _ _ _) from HO7.out) hmx _ _ _ rfl rfl hkey _ [] hval ?_; intro wm hownm hgrowm; have HM := Lib.hid hownm; have HG := Lib.hid hgrowm; clear hownm hgrowm)
      go_roundw
      case rel =>
        have t2 : Turns (· = mz) w7 wm := Turns.of_drew (Turns.of_drew ((Turns.of_grown HG.out).mono (fun k _ hk => by injection hk)))
        exact ⟨j + 1, _, by omega, by go_num, HM.out, HN7.out.trans (t2.mono (fun i _ hi => .inr (by rw [hi]; exact HZ.out))), HZ2.out⟩
      case measure => simp [intOf]; omega
    · obtain rfl : j = l.length := by omega
      have HZE := HZM.out
      rw [List.take_length] at HZE
      have HZF := Lib.hid HZE
      clear HZE
      go_wp2
      go_ret
      exact ⟨mz, D', rfl, HO.out, HZ.out, HN.out, HZF.out⟩

/-! ### forget -/
theorem Sc.ok.some {s : Sc} (h : s.ok) (F : Fl → Int) (hF : ∀ f ∈ s.L, F f = f.left ∨ F f = 0) : Sc.ok ⟨s.most, upd s.L F, s.turn, s.g⟩ := by
  refine ⟨h.m0, h.m1, fun g hg => ?_, fun e => ?_⟩
  · obtain ⟨f, hf, rfl⟩ := upd_mem hg
    obtain ⟨h1, h2, h3, h4, h5⟩ := h.f f hf
    have hm := h.m0
    show s.most ≤ f.share ∧ f.share ≤ 16777216 ∧ 0 ≤ F f ∧ F f < s.most + f.share ∧ (f.id ≠ s.turn ∨ s.g = false → F f < s.most)
    rcases hF f hf with e | e <;> rw [e]
    · exact ⟨h1, h2, h3, h4, h5⟩
    · exact ⟨h1, h2, Int.le_refl _, by omega, fun _ => by omega⟩
  · obtain ⟨f, hf, e⟩ := h.t e
    exact ⟨_, upd_mem' hf, e⟩
/-- what is left behind some rounds -/
def part (l : Hs) (left : Lit → Bool) (f : Fl) : Int := bif left (.int .i64 f.id) then f.left else forgetF l f
theorem part_or (l : Hs) (left : Lit → Bool) (f : Fl) : part l left f = f.left ∨ part l left f = 0 := by
  unfold part forgetF
  cases left (.int .i64 f.id)
  · simp only [cond_false]
    split
    · exact .inl rfl
    · exact .inr rfl
  · exact .inl rfl
def mkV (g : Option Nat) : Value := .pointer (g.map (fun g => ⟨g, 0, none⟩))
theorem sameI (a b : Int) : (Lit.int .i64 a).sameKey (.int .i64 b) = decide (a = b) := by
  by_cases e : a = b
  · subst e
    rw [decide_eq_true rfl]
    simp [Lit.sameKey]
  · rw [decide_eq_false e]
    exact sameKey_ne (fun e2 => e (by injection e2))
set_option maxRecDepth 10000 in
/-- 'v, ok := sizes[id]' -/
theorem look_sz {w : World} {mz n : Nat} {D : DataW Unit} {l : Hs} (h : w.ownsMap Tryz.prog 3 (plainElem Tryz.prog 3) mz n D) (hz : Mz D l) {id : Int} (n0 : -9223372036854775808 ≤ id) (n1 : id ≤ 9223372036854775807) :
    (Instr.lookup 38 (.map (some mz)) (.int .i64 id) true).run Tryz.prog w = .ok (.tuple #[.int .i64 (sizeOf' l id), .bool (decide (id ∈ ids l))]) w := by
  obtain ⟨v, ps, hrun, hv⟩ := h.look_ok lawI Tryz.underlying38 (zeroI w) (zd := .lit (.int .i64 0)) (zp := []) (plainElem_int Tryz.underlying3 (by decide)) (keyI n0 n1)
  obtain ⟨a, rfl, hy, _⟩ := plainElem_int_inv Tryz.underlying3 hv
  rw [hz.has id] at hrun
  have ha : a = sizeOf' l id := by
    injection hy with hy _
    by_cases e : id ∈ ids l
    · have := hz.at_ _ (sizeOf_mem e) (.lit (.int .i64 0))
      rw [this] at hy
      injection hy with hy
      injection hy with _ hy
      exact hy.symm
    · have hno := hz.has id
      rw [decide_eq_false e] at hno
      rw [atKey_of_not_has hno] at hy
      injection hy with hy
      injection hy with _ hy
      rw [← hy]
      unfold sizeOf'
      cases hx : l.find? (fun h => h.1 == id) with
      | none => rfl
      | some y =>
        exfalso
        have h1 := List.mem_of_find?_eq_some hx
        have h2 := List.find?_some hx
        simp at h2
        exact e (List.mem_map.2 ⟨y, h1, h2⟩)
  rw [← ha]
  exact hrun
set_option maxRecDepth 10000 in
/-- 'sizes[id]' -/
theorem look_at_sz {w : World} {mz n : Nat} {D : DataW Unit} {l : Hs} (h : w.ownsMap Tryz.prog 3 (plainElem Tryz.prog 3) mz n D) (hz : Mz D l) {id : Int} (n0 : -9223372036854775808 ≤ id) (n1 : id ≤ 9223372036854775807) :
    (Instr.lookup 38 (.map (some mz)) (.int .i64 id) false).run Tryz.prog w = .ok (.int .i64 (sizeOf' l id)) w := by
  obtain ⟨v, ps, hrun, hv⟩ := h.lookup lawI Tryz.underlying38 (zeroI w) (zd := .lit (.int .i64 0)) (zp := []) (plainElem_int Tryz.underlying3 (by decide)) (keyI n0 n1)
  obtain ⟨a, rfl, hy, _⟩ := plainElem_int_inv Tryz.underlying3 hv
  have ha : a = sizeOf' l id := by
    injection hy with hy _
    by_cases e : id ∈ ids l
    · have := hz.at_ _ (sizeOf_mem e) (.lit (.int .i64 0))
      rw [this] at hy
      injection hy with hy
      injection hy with _ hy
      exact hy.symm
    · have hno := hz.has id
      rw [decide_eq_false e] at hno
      rw [atKey_of_not_has hno] at hy
      injection hy with hy
      injection hy with _ hy
      rw [← hy]
      unfold sizeOf'
      cases hx : l.find? (fun h => h.1 == id) with
      | none => rfl
      | some y =>
        exfalso
        have h1 := List.mem_of_find?_eq_some hx
        have h2 := List.find?_some hx
        simp at h2
        exact e (List.mem_map.2 ⟨y, h1, h2⟩)
  rw [← ha]
  exact hrun
end Go.Proofs.YtcppibjllaablaaGreat.drr

/-
  drr.Sched: forget.
-/
namespace Go.Proofs.YtcppibjllaablaaGreat.drr
open Go.RowKit mem Go.Maps
set_option linter.unusedVariables false

/-- a partly forgotten schedule; sizes; the iterator -/
structure Fg (w wr : World) (p mb c mz n : Nat) (D DZ : DataW Unit) (s : Sc) (l : Hs) (left : Lit → Bool) : Prop where
  ss : Ss wr p mb c D ⟨s.most, upd s.L (part l left), s.turn, s.g⟩
  mz : wr.ownsMap Tryz.prog 3 (plainElem Tryz.prog 3) mz n DZ
  t : Turns (Foot p mb s) w wr
theorem Fg.iter {w wr w2 : World} {p mb c mz n r : Nat} {D DZ : DataW Unit} {s : Sc} {l : Hs} {left : Lit → Bool} (h : Fg w wr p mb c mz n D DZ s l left) (hg : wr.grownBy w2 (some r)) (hr : w.heap.size ≤ r) (hs : Ss w p mb c D s) (hm : mz < w.heap.size) : Fg w w2 p mb c mz n D DZ s l left := by
  have t : Turns (· = r) wr w2 := (Turns.of_grown hg).mono (fun k _ hk => by injection hk)
  refine ⟨h.ss.turns t (fun e => ?_) (fun e => ?_) (fun f hf e => ?_), ownsMap_turns h.mz t (fun e => ?_), h.t.trans (t.mono (fun i _ hi => .inr (by rw [hi]; exact hr)))⟩
  · have := hs.lt; omega
  · have := hs.mlt; omega
  · obtain ⟨f', hf', rfl⟩ := upd_mem hf
    have h2 := hs.flt f' hf'
    have h3 : f'.b = r := e
    omega
  · omega
theorem part_miss {s : Sc} {l : Hs} {left : Lit → Bool} {x : Int} (h : x ∈ ids l ∨ left (.int .i64 x) = false) : upd s.L (part l (fun z => left z && !z.sameKey (.int .i64 x))) = upd s.L (part l left) := by
  refine upd_congr (fun f hf => ?_)
  unfold part
  dsimp only
  by_cases e : f.id = x
  · rw [sameI, decide_eq_true e]
    simp only [Bool.not_true, Bool.and_false, cond_false]
    rcases h with h | h
    · have e2 : forgetF l f = f.left := by unfold forgetF; rw [if_pos (by rw [e]; exact h)]
      rw [e2]
      cases left (.int .i64 f.id) <;> rfl
    · rw [e, h]; rfl
  · rw [sameI, decide_eq_false e]
    simp only [Bool.not_false, Bool.and_true]
theorem part_hit {s : Sc} (ap : Ap s.L) {l : Hs} {left : Lit → Bool} {f : Fl} (hf : f ∈ s.L) (h : f.id ∉ ids l) : upd s.L (part l (fun z => left z && !z.sameKey (.int .i64 f.id))) = upd (upd s.L (part l left)) (fun g => if g.id = f.id then 0 else g.left) := by
  rw [upd_upd]
  refine upd_congr (fun g hg => ?_)
  dsimp only
  unfold part
  dsimp only
  by_cases e : g.id = f.id
  · have e2 := ap.eq hg hf (.inl e)
    subst e2
    rw [sameI, decide_eq_true rfl, if_pos rfl]
    simp only [Bool.not_true, Bool.and_false, cond_false]
    unfold forgetF; rw [if_neg h]
  · rw [sameI, decide_eq_false e, if_neg e]
    simp only [Bool.not_false, Bool.and_true]
theorem grown_of_turns {w w' : World} {b : Nat} (t : Turns (· = b) w w') : w.grownBy w' (some b) := ⟨t.os, t.tape, t.output, t.size, fun i hi hne => t.block i hi (fun e => hne (by rw [e]))⟩
set_option maxRecDepth 100000 in
set_option maxHeartbeats 2000000 in
theorem forget (p mb c mz n : Nat) (D DZ : DataW Unit) (s : Sc) (l : Hs) (w : World) (h : Ss w p mb c D s) (hz : w.ownsMap Tryz.prog 3 (plainElem Tryz.prog 3) mz n DZ) (hmz : Mz DZ l) (hne : ∀ f ∈ s.L, mz ≠ f.b) :
    Calls Tryz.prog 112 #[.pointer (some ⟨p, 0, none⟩), .map (some mz)] w fun e w' => e = .returned (.tuple #[]) ∧ Lf w w' p mb c D s (begS l s) ∧ w'.ownsMap Tryz.prog 3 (plainElem Tryz.prog 3) mz n DZ := by
  have HH := Lib.hid h
  have HZ := Lib.hid hz
  have HMZ := Lib.hid hmz
  have HNE := Lib.hid hne
  have hown := h.map
  have HO := Lib.hid hown
  obtain ⟨⟨c0, c1, c2, c3⟩, k0, k1, k2, k3⟩ := four h.blk
  clear h hz hmz hne hown
  go_enter Tryz.func112, Tryz.ntmps112
  go_wp2_with (at_range; refine wpList_range_own _ rfl _ 172 rfl 3 175 lawI Tryz.underlying172 ptrE mb c D rfl HO.out ?_; intro w0 hrg0 hg0 hs0; have HR0 := Lib.hid hrg0; have HG0 := Lib.hid hg0; clear hrg0 hg0 hs0)
  go_frame
  obtain ⟨r, hr⟩ : ∃ r, w.heap.size = r := ⟨_, rfl⟩
  rw [hr] at HR0
  simp only [hr]
  have HR : Hid (w.heap.size ≤ r) := Lib.hid (by omega)
  clear hr
  have HF0 : Hid (Fg w w0 p mb c mz n D DZ s l (has D)) := Lib.hid (by
    have t : New w w0 := (Turns.of_grown HG0.out).mono (fun k _ hk => by cases hk)
    have e : upd s.L (part l (has D)) = s.L := upd_same _ _ (fun f hf => by unfold part; rw [HH.out.rd1, HH.out.ap.fnd hf]; rfl)
    have hs : Ss w0 p mb c D ⟨s.most, upd s.L (part l (has D)), s.turn, s.g⟩ := by rw [e]; exact HH.out.later t
    exact ⟨hs, ownsMap_turns HZ.out t (fun h => h), t.mono (fun _ _ h => h.elim)⟩)
  clear c0 c1 c2 c3 k0 k1 k2 k3 HG0 HO
  go_loopw [4, 5, 6, 7] (fun _ _ _ _ wr => ∃ (left : Lit → Bool) (cnt : Nat), wr.ranges Tryz.prog 3 ptrE mb r c D left cnt ∧ Fg w wr p mb c mz n D DZ s l left) (fun _ _ _ _ wr => wr.rangeLeft mb r)
  case atStart => exact ⟨_, _, HR0.out, HF0.out⟩
  case round =>
    obtain ⟨left, cnt, hrg, hfg⟩ := hrel
    have HRG := Lib.hid hrg
    have HFG := Lib.hid hfg
    clear hrg hfg HR0 HF0
    go_wp2_with (at_next; refine wpList_next_ranges _ rfl _ rfl 3 lawI ptrE (Value.int .i64) mkV (fun key kl hk => by obtain ⟨x, hx, _⟩ := Maps.keyOf_int_inv Tryz.underlying3 hk; exact ⟨x, hx⟩) (fun v y hv => ptrE_shape hv) mb r c _ _ _ rfl HRG.out ?_ ?_)
    · intro _ hl0
      have e : upd s.L (part l left) = upd s.L (forgetF l) := upd_congr (fun f hf => by unfold part; rw [hl0]; rfl)
      have hf := HFG.out
      have hs := hf.ss
      rw [e] at hs
      have HE := Lib.hid (And.intro (And.intro hs hf.t) hf.mz)
      clear hs hf e hl0
      go_wp2
      go_end0
      exact ⟨rfl, HE.out.1, HE.out.2⟩
    · intro x g kl y1 y2 w2 cnt2 hkey hlk hv hat hrg2 hlt hg2 hs2 hen
      obtain ⟨x', ex, rfl, hwf⟩ := Maps.keyOf_int_inv Tryz.underlying3 hkey
      have hxx : x = x' := by injection ex
      subst hxx
      obtain ⟨n0, n1⟩ := bounds_i64 hwf
      have hhas := has_true_of_atKey hat
      rw [HH.out.rd1] at hhas
      obtain ⟨f, hfn⟩ := Option.isSome_iff_exists.1 hhas
      obtain ⟨hf, hid⟩ := fnd_some hfn
      subst hid
      have hy : y1 = .lit (.int .i64 (f.b : Int)) := (hat (.map [])).symm.trans (HH.out.rd2 f hf (.map []))
      have hmk : mkV g = .pointer (some ⟨f.b, 0, none⟩) := ptrE_inv (ps := y2) (by rw [hv, ← hy])
      have HF2 := Lib.hid (HFG.out.iter hg2 HR.out HH.out HZ.out.lt)
      have HR2 := Lib.hid hrg2
      have hlook := look_sz HF2.out.mz HMZ.out n0 n1
      have hfm := upd_mem' (F := part l left) hf
      have HFM := Lib.hid hfm
      obtain ⟨⟨f0, f1⟩, f2, f3⟩ := two (HF2.out.ss.fb _ hfm)
      have hms := HF2.out.ss.mf _ hfm
      have hrb : r ≠ f.b := by have := HH.out.flt f hf; have := HR.out; omega
      have HLT : Hid (cnt2 < cnt) := Lib.hid hlt
      have HFF := Lib.hid hf
      rw [hmk] at hen ⊢
      clear hkey hlk hv hat hrg2 hlt hg2 hs2 hhas hfn hf hy hmk ex hwf hfm
      by_cases hin : f.id ∈ ids l
      · rw [decide_eq_true hin] at hlook
        have HM : Hid (upd s.L (part l (fun z => left z && !z.sameKey (.int .i64 f.id))) = upd s.L (part l left)) := Lib.hid (part_miss (.inl hin))
        clear hin
        go_wp2_with fail
        go_roundw
        case rel =>
          refine ⟨_, cnt2, HR2.out, ?_, HF2.out.mz, HF2.out.t⟩
          rw [HM.out]
          exact HF2.out.ss
        case measure => rw [HR2.out.left_eq, HRG.out.left_eq]; exact HLT.out
      · rw [decide_eq_false hin] at hlook
        have HM := Lib.hid (part_hit HH.out.ap HFF.out (left := left) hin)
        have hok := HH.out.ok.some (part l (fun z => left z && !z.sameKey (.int .i64 f.id))) (fun g _ => part_or _ _ _)
        rw [HM.out] at hok
        have HL := Lib.hid (HF2.out.ss.left HFM.out 0 hok)
        clear hin hok
        go_wp2_with fail
        go_roundw
        case rel =>
          have hl := HL.out
          refine ⟨_, cnt2, HR2.out.kept (grown_of_turns hl.2) (fun e => hms (by injection e)) (fun e => hrb (by injection e)), ?_, ownsMap_turns HF2.out.mz hl.2 (HNE.out f HFF.out), HF2.out.t.trans (hl.2.mono (fun i _ hi => .inl (.inr (.inr ⟨f, HFF.out, hi.symm⟩))))⟩
          rw [HM.out]
          exact hl.1
        case measure => rw [(HR2.out.kept (grown_of_turns HL.out.2) (fun e => hms (by injection e)) (fun e => hrb (by injection e))).left_eq, HRG.out.left_eq]; exact HLT.out
end Go.Proofs.YtcppibjllaablaaGreat.drr

/-
  drr.Sched: Choose.
-/
namespace Go.Proofs.YtcppibjllaablaaGreat.drr
open Go.RowKit mem Go.Maps
set_option linter.unusedVariables false

/-- the same flows, with other balances -/
def Sim (s s' : Sc) : Prop := s'.most = s.most ∧ ∃ F, s'.L = upd s.L F
theorem Sim.refl (s : Sc) : Sim s s := ⟨rfl, fun f => f.left, (upd_same _ _ (fun _ _ => rfl)).symm⟩
theorem Sim.fl {s s' : Sc} (h : Sim s s') {id : Int} (hf : ∃ f ∈ s.L, f.id = id) : ∃ f ∈ s'.L, f.id = id := by
  obtain ⟨_, F, e⟩ := h
  obtain ⟨f, hf, hid⟩ := hf
  rw [e]
  exact ⟨_, upd_mem' hf, hid⟩
theorem Sim.foot {s s' : Sc} (h : Sim s s') {p mb k : Nat} (hk : Foot p mb s' k) : Foot p mb s k := by
  obtain ⟨_, F, e⟩ := h
  rcases hk with hk | hk | ⟨f, hf, hk⟩
  · exact .inl hk
  · exact .inr (.inl hk)
  · rw [e] at hf
    obtain ⟨f', hf', rfl⟩ := upd_mem hf
    exact .inr (.inr ⟨f', hf', hk⟩)
theorem Sim.grant {s s' : Sc} (h : Sim s s') : Sim s (grantS s') := by
  unfold grantS
  split
  · exact h
  · obtain ⟨m, F, e⟩ := h
    refine ⟨m, ?_⟩
    show ∃ G, upd s'.L _ = upd s.L G
    rw [e, upd_upd]
    exact ⟨_, rfl⟩
theorem Sim.pass {s s' : Sc} (h : Sim s s') (l : Hs) : Sim s (passS l s') := h
theorem Sim.beg (s : Sc) (l : Hs) : Sim s (begS l s) := ⟨rfl, _, rfl⟩
theorem grant_any (p mb c : Nat) (D : DataW Unit) (s : Sc) (w : World) (h : Ss w p mb c D s) (ht : ∃ f ∈ s.L, f.id = s.turn) :
    Calls Tryz.prog 115 #[.pointer (some ⟨p, 0, none⟩)] w fun e w' => e = .returned (.int .i64 (leftOf (grantS s) s.turn)) ∧ Lf w w' p mb c D s (grantS s) := by
  cases hg : s.g
  · obtain ⟨f, hf, e⟩ := ht
    exact grant_no p mb c D s f w h hg hf e
  · exact grant_yes p mb c D s w h hg
theorem size_pos {D : DataW Unit} {k : Lit} (h : has D k = true) : Maps.size D ≠ 0 := by
  intro e
  cases D with
  | map es =>
    rw [size_eq] at e
    have : es = [] := List.length_eq_zero_iff.1 e
    subst this
    cases h
  | _ => cases h
theorem lens {w : World} {mz n : Nat} {D : DataW Unit} (h : w.ownsMap Tryz.prog 3 (plainElem Tryz.prog 3) mz n D) (ty : TypeId) : (Builtin.len_ #[38] ty #[.map (some mz)]).run Tryz.prog w = .ok (.int .i64 (Maps.size D)) w := h.len Tryz.underlying38 ty

set_option maxRecDepth 100000 in
set_option maxHeartbeats 2000000 in
theorem choose_nil (p mb c : Nat) (D : DataW Unit) (s : Sc) (v : Value) (w : World) (h : Ss w p mb c D s) (hr : HRow w v []) :
    Calls Tryz.prog 77 #[.pointer (some ⟨p, 0, none⟩), v] w fun e w' => e = .returned (.tuple #[.int .i64 0, .bool false]) ∧ Lf w w' p mb c D s (chooseS [] s) := by
  have HSZ := Lib.hid (sizes p mb c D s [] v w h hr ⟨List.Pairwise.nil, (fun _ h => by cases h), (fun _ h => by cases h)⟩ (Nat.zero_le _))
  have HH := Lib.hid h
  have hvf : ∃ ao cp, v = .slice ao 0 cp := by obtain ⟨ao, cp, e, _⟩ := hr; exact ⟨ao, cp, e⟩
  obtain ⟨ao, cp, rfl⟩ := hvf
  clear h hr
  go_enter Tryz.func77, Tryz.ntmps77
  go_wp2_with fail
  refine HSZ.out.mono ?_
  rintro e w1 ⟨mz, DZ, rfl, hmz, hge, hn1, hM⟩
  have HS1 := Lib.hid (HH.out.later hn1)
  have HFG := Lib.hid (forget p mb c mz 0 D DZ s [] w1 HS1.out hmz hM (fun f hf e => by have := HH.out.flt f hf; omega))
  have HN1 := Lib.hid hn1
  clear hmz hge hn1 hM HSZ
  go_wp2_with fail
  refine HFG.out.mono ?_
  rintro e w2 ⟨rfl, ⟨hs2, ht2⟩, hz2⟩
  have hlen := fun ty => lens hz2 ty
  have h0 : Maps.size DZ = 0 := Nat.le_zero.1 hz2.size_le
  rw [h0] at hlen
  obtain ⟨_, k0, k1, k2, k3⟩ := four hs2.blk
  obtain ⟨⟨c0, c1, c2, c3⟩, _⟩ := four hs2.blk
  have hok : Sc.ok ⟨s.most, upd s.L (forgetF []), s.turn, false⟩ := ⟨hs2.ok.m0, hs2.ok.m1, (fun f hf => by
    obtain ⟨h1, h2, h3, h4, h5⟩ := hs2.ok.f f hf
    refine ⟨h1, h2, h3, h4, fun _ => ?_⟩
    obtain ⟨f', hf', rfl⟩ := upd_mem hf
    have := hs2.ok.m0
    show forgetF [] f' < s.most
    unfold forgetF ids
    simp
    exact this), (fun e => by cases e)⟩
  have HZ : Hid (Lf w (w2.setCell ⟨p, 3, none⟩ (.bool false)) p mb c D s (chooseS [] s)) := Lib.hid (by
    have t : Turns (· = p) w2 (w2.setCell ⟨p, 3, none⟩ (.bool false)) := Turns.setCell (S := (· = p)) (Turns.refl _ w2) (p := ⟨p, 3, none⟩) (.inl rfl) _
    refine ⟨hs2.turn s.turn false (hs2.blk.set 3 _) t hs2.tr hok, ((HN1.out.mono (fun _ _ h => h.elim)).trans (ht2.mono (fun i _ hi => .inl hi))).trans (t.mono (fun i _ hi => .inl (.inl hi)))⟩)
  clear hs2 ht2 hz2 hok HFG
  go_wp2
  go_ret2
  exact ⟨rfl, HZ.out⟩

/-- what the loop keeps -/
structure Cw (w wr : World) (p mb c mz n g : Nat) (D DZ : DataW Unit) (s s' fin : Sc) (l : Hs) : Prop where
  ss : Ss wr p mb c D s'
  zm : wr.ownsMap Tryz.prog 3 (plainElem Tryz.prog 3) mz n DZ
  row : Row wr g (ids l)
  t : Turns (Foot p mb s) w wr
  sim : Sim s s'
  tn : s'.turn ∈ ids l
  run : runS l s' = fin
  z0 : w.heap.size ≤ mz
  g0 : w.heap.size ≤ g
theorem Cw.off {w wr : World} {p mb c mz n g : Nat} {D DZ : DataW Unit} {s s' fin : Sc} {l : Hs} (h : Cw w wr p mb c mz n g D DZ s s' fin l) (hs : Ss w p mb c D s) : ¬ Foot p mb s' mz ∧ ¬ Foot p mb s' g :=
  ⟨fun e => by have := hs.foot _ (h.sim.foot e); have := h.z0; omega, fun e => by have := hs.foot _ (h.sim.foot e); have := h.g0; omega⟩
theorem Cw.fl {w wr : World} {p mb c mz n g : Nat} {D DZ : DataW Unit} {s s' fin : Sc} {l : Hs} (h : Cw w wr p mb c mz n g D DZ s s' fin l) (ok : Ok s l) : ∃ f ∈ s'.L, f.id = s'.turn := by
  obtain ⟨x, hx, e⟩ := List.mem_map.1 h.tn
  obtain ⟨f, hf⟩ := h.sim.fl (ok.fl x hx)
  exact ⟨f, hf.1, by rw [hf.2, e]⟩
theorem run_pass {s : Sc} {l : Hs} (h : (passS l s).ok) (ap : Ap s.L) (ht : ∃ f ∈ s.L, f.id = (passS l s).turn) (hz : sizeOf' l (passS l s).turn ≤ s.most) : runS l (passS l s) = grantS (passS l s) := by
  have h1 := grant_enough (s := passS l s) h ap ht rfl hz
  unfold runS lowS
  rw [decide_eq_false (by omega)]
  simp
theorem Ap.grant {s : Sc} (h : Ap s.L) : Ap (grantS s).L := by
  unfold grantS
  split
  · exact h
  · exact h.upd _
theorem low_facts {s : Sc} {l : Hs} (h : s.ok) (ap : Ap s.L) (ht : ∃ f ∈ s.L, f.id = s.turn) (hid : ids l ≠ []) (hfl : ∀ x ∈ ids l, ∃ f ∈ s.L, f.id = x) (hsz : ∀ x ∈ ids l, sizeOf' l x ≤ s.most) (htn : s.turn ∈ ids l) (hlow : lowS l s = true) :
    s.g = true ∧ (passS l (grantS s)).ok ∧ runS l (passS l (grantS s)) = runS l s ∧ (passS l (grantS s)).turn ∈ ids l := by
  have hl : leftOf (grantS s) s.turn < sizeOf' l s.turn := of_decide_eq_true hlow
  have hm := hsz _ htn
  have hg : s.g = true := by
    cases hg : s.g
    · have := grant_enough h ap ht hg hm
      omega
    · rfl
  have hpt : (passS l (grantS s)).turn ∈ ids l := nextId_mem hid _
  have hok : (passS l (grantS s)).ok := by
    refine (h.grant ht).pass l (fun f hf e => ?_)
    have h1 : leftOf (grantS s) s.turn = f.left := by
      unfold leftOf
      rw [← (grant_turn s).1, ← e, (ap.grant).fnd hf]
    rw [(grant_turn s).2.1]
    omega
  refine ⟨hg, hok, ?_, hpt⟩
  rw [run_pass hok ap.grant (grant_fl (hfl _ hpt)) (by rw [(grant_turn s).2.1]; exact hsz _ hpt)]
  unfold runS
  rw [hlow, if_pos rfl]
theorem size_most {s : Sc} {l : Hs} (ok : Ok s l) {id : Int} (h : id ∈ ids l) : sizeOf' l id ≤ s.most := (ok.sz _ (sizeOf_mem h)).2

set_option maxRecDepth 100000 in
set_option maxHeartbeats 4000000 in
theorem choose_cons (p mb c : Nat) (D : DataW Unit) (s : Sc) (l : Hs) (v : Value) (w : World) (h : Ss w p mb c D s) (hr : HRow w v l) (ok : Ok s l) (hl : l ≠ []) (hlen : l.length ≤ 1048576) (hrg : ∀ x ∈ ids l, -9223372036854775808 ≤ x ∧ x ≤ 9223372036854775807) :
    Calls Tryz.prog 77 #[.pointer (some ⟨p, 0, none⟩), v] w fun e w' => e = .returned (.tuple #[.int .i64 (chooseS l s).turn, .bool true]) ∧ Lf w w' p mb c D s (chooseS l s) := by
  have hfin : chooseS l s = runS l (firS l s) := by cases l with | nil => exact absurd rfl hl | cons _ _ => rfl
  rw [hfin]
  clear hfin
  obtain ⟨fin, hfin⟩ : ∃ fin, runS l (firS l s) = fin := ⟨_, rfl⟩
  rw [hfin]
  have HFN := Lib.hid hfin
  clear hfin
  have hid : ids l ≠ [] := by unfold ids; simpa using hl
  have hidl : (ids l).length = l.length := by unfold ids; exact List.length_map _
  have HSZ := Lib.hid (sizes p mb c D s l v w h hr ok hlen)
  have HH := Lib.hid h
  have HOK := Lib.hid ok
  have hvf : ∃ ao cp, v = .slice ao l.length cp := by obtain ⟨ao, cp, e, _⟩ := hr; exact ⟨ao, cp, e⟩
  obtain ⟨ao, cp, rfl⟩ := hvf
  have HFI := Lib.hid (h.ok.fir hl ok)
  clear h hr ok
  go_enter Tryz.func77, Tryz.ntmps77
  go_wp2_with fail
  refine HSZ.out.mono ?_
  rintro e w1 ⟨mz, DZ, rfl, hmz, hge, hn1, hM⟩
  have HS1 := Lib.hid (HH.out.later hn1)
  have HFG := Lib.hid (forget p mb c mz l.length D DZ s l w1 HS1.out hmz hM (fun f hf e => by have := HH.out.flt f hf; omega))
  have HN1 := Lib.hid hn1
  have HMZ := Lib.hid hM
  have HGE := Lib.hid hge
  clear hmz hge hn1 hM HSZ
  go_wp2_with fail
  refine HFG.out.mono ?_
  rintro e w2 ⟨rfl, ⟨hs2, ht2⟩, hz2⟩
  have hlen2 := fun ty => lens hz2 ty
  have hpos : Maps.size DZ ≠ 0 := by
    obtain ⟨x, r, e⟩ := List.exists_cons_of_ne_nil hid
    exact size_pos (k := .int .i64 x) (by rw [HMZ.out.has x]; exact decide_eq_true (by rw [e]; exact List.mem_cons_self))
  have hz0 : ((Maps.size DZ : Int) == 0) = false := by simp; omega
  have hsz : Maps.size DZ ≤ 1048576 := Nat.le_trans hz2.size_le hlen
  have HS2 := Lib.hid hs2
  have HT2 : Hid (Turns (Foot p mb s) w w2) := Lib.hid ((HN1.out.mono (fun _ _ h => h.elim)).trans (ht2.mono (fun i _ hi => .inl hi)))
  have HZ2 := Lib.hid hz2
  have HKY := Lib.hid (itr.keys_ (some mz) w2)
  have HSO := Lib.hid (itr.sorted_ mz l.length DZ (plainElem Tryz.prog 3) (ids l) w2 hz2 hsz HOK.out.asc (fun x => by rw [HMZ.out.has x]; simp))
  clear hs2 ht2 hz2 HFG HS1 HN1 hsz hpos
  go_wp2_with fail
  refine HKY.out.mono ?_
  rintro e w3 ⟨rfl, rfl⟩
  go_wp2_with fail
  refine HSO.out.mono ?_
  rintro e w4 ⟨vr, rfl, hown, hvg, hn4⟩
  obtain ⟨g, cap, rfl, hcap, hrow, hvo⟩ := row_of_owns hown hid
  have HG0 : Hid (w2.heap.size ≤ g) := Lib.hid (hvg g hvo)
  have HROW := Lib.hid hrow
  have HS4 := Lib.hid (HS2.out.later hn4)
  have HZ4 := Lib.hid (ownsMap_turns HZ2.out hn4 (fun h => h))
  have HT4 : Hid (Turns (Foot p mb s) w w4) := Lib.hid (HT2.out.trans (hn4.mono (fun _ _ h => h.elim)))
  have HGG : Hid (w.heap.size ≤ g) := Lib.hid (Nat.le_trans HT2.out.size HG0.out)
  clear hown hvg hn4 hrow hvo HKY HSO HS2 HZ2 HT2 hlen2 hz0
  have hlk := look_sz (id := s.turn) HZ4.out HMZ.out HS4.out.tr.1 HS4.out.tr.2
  obtain ⟨⟨c0, c1, c2, c3⟩, k0, k1, k2, k3⟩ := four HS4.out.blk
  have hps := pass p mb c D (begS l s) (ids l) g cap w4 HS4.out HROW.out hid (by omega) hcap HOK.out.asc hrg
  have HPS := Lib.hid hps
  have HIL := Lib.hid hidl
  have HID := Lib.hid hid
  clear hps hidl
  have HTL : Hid (∀ x ∈ ids l, ∃ f ∈ s.L, f.id = x) := Lib.hid (fun x hx => by
    obtain ⟨y, hy, e⟩ := List.mem_map.1 hx
    obtain ⟨f, hf, e2⟩ := HOK.out.fl y hy
    exact ⟨f, hf, by rw [e2, e]⟩)
  dsimp only [begS] at c0 c1 c2 c3
  have hgl := HROW.out.1
  have hzl := HZ4.out.lt
  by_cases hin : s.turn ∈ ids l
  · rw [decide_eq_true hin] at hlk
    have hfe : firS l s = begS l s := by unfold firS; rw [if_pos hin]
    have HC : Hid (Cw w w4 p mb c mz l.length g D DZ s (firS l s) fin l) := Lib.hid (by
      rw [hfe] at HFN ⊢
      exact ⟨HS4.out, HZ4.out, HROW.out, HT4.out, Sim.beg s l, hin, HFN.out, HGE.out, HGG.out⟩)
    clear hin hfe HPS HS4 HZ4 HROW HT4 hgl hzl
    go_upto_region 8 with fail
    clear hlk c0 c1 c2 c3 k0 k1 k2 k3
    go_wp2_with fail
    go_loopw [] (fun wr => ∃ s', Cw w wr p mb c mz l.length g D DZ s s' fin l) (fun wr => match wr.cell? ⟨p, 3, none⟩ with | some (.bool true) => 1 | _ => 0)
    case atStart => exact ⟨_, HC.out⟩
    case round =>
      obtain ⟨s', hcw⟩ := hrel
      have HCW := Lib.hid hcw
      obtain ⟨⟨c0, c1, c2, c3⟩, k0, k1, k2, k3⟩ := four hcw.ss.blk
      have hft := hcw.fl HOK.out
      have HFT := Lib.hid hft
      have HGR := Lib.hid (fun W (N : New wr W) => grant_any p mb c D s' W (HCW.out.ss.later N) hft)
      have HOF := Lib.hid (hcw.off HH.out)
      have htr := hcw.ss.tr
      have HLZ : Hid (∀ W (S : Nat → Prop), Turns S wr W → ¬ S mz → (Instr.lookup 38 (.map (some mz)) (.int .i64 s'.turn) false).run Tryz.prog W = .ok (.int .i64 (sizeOf' l s'.turn)) W) := Lib.hid (fun W S t hn => look_at_sz (ownsMap_turns HCW.out.zm t hn) HMZ.out htr.1 htr.2)
      have hq := HLZ.out wr.drew (fun _ => False) ((Turns.refl _ _).drew) (fun h => h)
      clear hcw hft HC
      have HSI := Lib.hid (fun x (hx : x ∈ ids l) => HCW.out.sim.fl (HTL.out x hx))
      have HSM : Hid (∀ x ∈ ids l, sizeOf' l x ≤ s'.most) := Lib.hid (fun x hx => by rw [HCW.out.sim.1]; exact size_most HOK.out hx)
      cases hlow : lowS l s'
      · have d1 : decide (leftOf (grantS s') s'.turn < sizeOf' l s'.turn) = false := hlow
        obtain rfl : fin = grantS s' := by
          rw [← HCW.out.run]
          unfold runS
          rw [hlow]
          rfl
        clear hlow
        go_upto_region 10 with fail
        go_region_with (go_at_call 115; (with_reducible refine Calls.mono (HGR.out _ ?_) ?_); (focus (exact (Turns.refl _ _).drew)); rintro e wq ⟨rfl, hsq, htq⟩; obtain ⟨⟨m0, m1, m2, m3⟩, _⟩ := four hsq.blk; rw [(grant_turn s').1] at m2; have hq2 := HLZ.out wq _ (Turns.of_drew htq) HOF.out.1; have HSQ := Lib.hid hsq; have HTQ := Lib.hid (Turns.of_drew htq); clear hsq htq)
        all_goals
          go_wp2
          go_ret2
          exact ⟨by rw [(grant_turn s').1]; rfl, HSQ.out, HCW.out.t.trans (HTQ.out.mono (fun i _ hi => .inl (HCW.out.sim.foot hi)))⟩
      · have d1 : decide (leftOf (grantS s') s'.turn < sizeOf' l s'.turn) = true := hlow
        have HLF := Lib.hid (low_facts HCW.out.ss.ok HCW.out.ss.ap HFT.out HID.out HSI.out HSM.out HCW.out.tn hlow)
        have HPG := Lib.hid (fun wq (hs : Ss wq p mb c D (grantS s')) (hr : Row wq g (ids l)) => pass p mb c D (grantS s') (ids l) g cap wq hs hr HID.out (by rw [HIL.out]; exact hlen) hcap HOK.out.asc hrg HLF.out.2.1)
        have hw3 : wr.cell? ⟨p, 3, none⟩ = some (.bool true) := by rw [c3, HLF.out.1]
        have HW3 := Lib.hid hw3
        clear hlow hw3
        go_upto_region 10 with fail
        go_region_with (go_at_call 115; (with_reducible refine Calls.mono (HGR.out _ ?_) ?_); (focus (exact (Turns.refl _ _).drew)); rintro e wq ⟨rfl, hsq, htq⟩; obtain ⟨⟨m0, m1, m2, m3⟩, _⟩ := four hsq.blk; rw [(grant_turn s').1] at m2; have hq2 := HLZ.out wq _ (Turns.of_drew htq) HOF.out.1; have HSQ := Lib.hid hsq; have HTQ := Lib.hid (Turns.of_drew htq); clear hsq htq)
        all_goals
          have HPQ := Lib.hid (HPG.out wq HSQ.out (HCW.out.row.turns HTQ.out HOF.out.2))
          clear hq hq2 m0 m1 m2 m3 c0 c1 c2 c3 k0 k1 k2 k3 d1
          go_wp2_with fail
          refine HPQ.out.mono ?_
          rintro e w6 ⟨rfl, hs6, ht6⟩
          have HS6 : Hid (Ss w6 p mb c D (passS l (grantS s'))) := Lib.hid hs6
          have HT6 := Lib.hid ht6
          clear hs6 ht6
          go_wp2_with fail
          go_roundw
          case rel =>
            have hp := HH.out.lt
            have hz := HCW.out.z0
            have hg := HCW.out.g0
            exact ⟨passS l (grantS s'), HS6.out, ownsMap_turns (ownsMap_turns HCW.out.zm HTQ.out HOF.out.1) HT6.out (fun e => by omega), (HCW.out.row.turns HTQ.out HOF.out.2).turns HT6.out (fun e => by omega), (HCW.out.t.trans (HTQ.out.mono (fun i _ hi => .inl (HCW.out.sim.foot hi)))).trans (HT6.out.mono (fun i _ hi => .inl (.inl hi))), HCW.out.sim.grant.pass l, HLF.out.2.2.2, HLF.out.2.2.1.trans HCW.out.run, hz, hg⟩
          case measure =>
            have h6 := HS6.out.blk.cell 3
            have h6' : w6.cell? ⟨p, 3, none⟩ = some (.bool false) := h6
            rw [h6', HW3.out]
            decide
  · rw [decide_eq_false hin] at hlk
    have hfe : firS l s = passS l (begS l s) := by unfold firS; rw [if_neg hin]
    have hok : (passS l (begS l s)).ok := by rw [← hfe]; exact HFI.out.1
    have HP2 := Lib.hid (HPS.out hok)
    clear HPS hok
    go_wp2_with fail
    refine HP2.out.mono ?_
    rintro e w5 ⟨rfl, hs5, ht5⟩
    have HC : Hid (Cw w w5 p mb c mz l.length g D DZ s (firS l s) fin l) := Lib.hid (by
      rw [hfe] at HFN ⊢
      have hp := HH.out.lt
      refine ⟨hs5, ownsMap_turns HZ4.out ht5 (fun e => ?_), HROW.out.turns ht5 (fun e => ?_), HT4.out.trans (ht5.mono (fun i _ hi => .inl (.inl hi))), (Sim.beg s l).pass l, nextId_mem hid _, HFN.out, HGE.out, HGG.out⟩
      · have := HGE.out; omega
      · have := HGG.out; omega)
    clear hin hfe HP2 HS4 HZ4 HROW HT4 hgl hzl hs5 ht5 hlk c0 c1 c2 c3 k0 k1 k2 k3
    go_wp2_with fail
    go_loopw [] (fun wr => ∃ s', Cw w wr p mb c mz l.length g D DZ s s' fin l) (fun wr => match wr.cell? ⟨p, 3, none⟩ with | some (.bool true) => 1 | _ => 0)
    case atStart => exact ⟨_, HC.out⟩
    case round =>
      obtain ⟨s', hcw⟩ := hrel
      have HCW := Lib.hid hcw
      obtain ⟨⟨c0, c1, c2, c3⟩, k0, k1, k2, k3⟩ := four hcw.ss.blk
      have hft := hcw.fl HOK.out
      have HFT := Lib.hid hft
      have HGR := Lib.hid (fun W (N : New wr W) => grant_any p mb c D s' W (HCW.out.ss.later N) hft)
      have HOF := Lib.hid (hcw.off HH.out)
      have htr := hcw.ss.tr
      have HLZ : Hid (∀ W (S : Nat → Prop), Turns S wr W → ¬ S mz → (Instr.lookup 38 (.map (some mz)) (.int .i64 s'.turn) false).run Tryz.prog W = .ok (.int .i64 (sizeOf' l s'.turn)) W) := Lib.hid (fun W S t hn => look_at_sz (ownsMap_turns HCW.out.zm t hn) HMZ.out htr.1 htr.2)
      have hq := HLZ.out wr.drew (fun _ => False) ((Turns.refl _ _).drew) (fun h => h)
      clear hcw hft HC
      have HSI := Lib.hid (fun x (hx : x ∈ ids l) => HCW.out.sim.fl (HTL.out x hx))
      have HSM : Hid (∀ x ∈ ids l, sizeOf' l x ≤ s'.most) := Lib.hid (fun x hx => by rw [HCW.out.sim.1]; exact size_most HOK.out hx)
      cases hlow : lowS l s'
      · have d1 : decide (leftOf (grantS s') s'.turn < sizeOf' l s'.turn) = false := hlow
        obtain rfl : fin = grantS s' := by
          rw [← HCW.out.run]
          unfold runS
          rw [hlow]
          rfl
        clear hlow
        go_upto_region 10 with fail
        go_region_with (go_at_call 115; (with_reducible refine Calls.mono (HGR.out _ ?_) ?_); (focus (exact (Turns.refl _ _).drew)); rintro e wq ⟨rfl, hsq, htq⟩; obtain ⟨⟨m0, m1, m2, m3⟩, _⟩ := four hsq.blk; rw [(grant_turn s').1] at m2; have hq2 := HLZ.out wq _ (Turns.of_drew htq) HOF.out.1; have HSQ := Lib.hid hsq; have HTQ := Lib.hid (Turns.of_drew htq); clear hsq htq)
        all_goals
          go_wp2
          go_ret2
          exact ⟨by rw [(grant_turn s').1]; rfl, HSQ.out, HCW.out.t.trans (HTQ.out.mono (fun i _ hi => .inl (HCW.out.sim.foot hi)))⟩
      · have d1 : decide (leftOf (grantS s') s'.turn < sizeOf' l s'.turn) = true := hlow
        have HLF := Lib.hid (low_facts HCW.out.ss.ok HCW.out.ss.ap HFT.out HID.out HSI.out HSM.out HCW.out.tn hlow)
        have HPG := Lib.hid (fun wq (hs : Ss wq p mb c D (grantS s')) (hr : Row wq g (ids l)) => pass p mb c D (grantS s') (ids l) g cap wq hs hr HID.out (by rw [HIL.out]; exact hlen) hcap HOK.out.asc hrg HLF.out.2.1)
        have hw3 : wr.cell? ⟨p, 3, none⟩ = some (.bool true) := by rw [c3, HLF.out.1]
        have HW3 := Lib.hid hw3
        clear hlow hw3
        go_upto_region 10 with fail
        go_region_with (go_at_call 115; (with_reducible refine Calls.mono (HGR.out _ ?_) ?_); (focus (exact (Turns.refl _ _).drew)); rintro e wq ⟨rfl, hsq, htq⟩; obtain ⟨⟨m0, m1, m2, m3⟩, _⟩ := four hsq.blk; rw [(grant_turn s').1] at m2; have hq2 := HLZ.out wq _ (Turns.of_drew htq) HOF.out.1; have HSQ := Lib.hid hsq; have HTQ := Lib.hid (Turns.of_drew htq); clear hsq htq)
        all_goals
          have HPQ := Lib.hid (HPG.out wq HSQ.out (HCW.out.row.turns HTQ.out HOF.out.2))
          clear hq hq2 m0 m1 m2 m3 c0 c1 c2 c3 k0 k1 k2 k3 d1
          go_wp2_with fail
          refine HPQ.out.mono ?_
          rintro e w6 ⟨rfl, hs6, ht6⟩
          have HS6 : Hid (Ss w6 p mb c D (passS l (grantS s'))) := Lib.hid hs6
          have HT6 := Lib.hid ht6
          clear hs6 ht6
          go_wp2_with fail
          go_roundw
          case rel =>
            have hp := HH.out.lt
            have hz := HCW.out.z0
            have hg := HCW.out.g0
            exact ⟨passS l (grantS s'), HS6.out, ownsMap_turns (ownsMap_turns HCW.out.zm HTQ.out HOF.out.1) HT6.out (fun e => by omega), (HCW.out.row.turns HTQ.out HOF.out.2).turns HT6.out (fun e => by omega), (HCW.out.t.trans (HTQ.out.mono (fun i _ hi => .inl (HCW.out.sim.foot hi)))).trans (HT6.out.mono (fun i _ hi => .inl (.inl hi))), HCW.out.sim.grant.pass l, HLF.out.2.2.2, HLF.out.2.2.1.trans HCW.out.run, hz, hg⟩
          case measure =>
            have h6 := HS6.out.blk.cell 3
            have h6' : w6.cell? ⟨p, 3, none⟩ = some (.bool false) := h6
            rw [h6', HW3.out]
            decide
end Go.Proofs.YtcppibjllaablaaGreat.drr

/-
  Layer 19's laws: awake; what their loops keep.
-/
namespace Go.Proofs.YtcppibjllaablaaGreat.drr
open Go.RowKit mem Go.Maps
set_option linter.unusedVariables false

/-- a schedule made since w -/
structure Rn (w wr : World) (p mb c : Nat) (D : DataW Unit) (s : Sc) : Prop where
  ss : Ss wr p mb c D s
  n : New w wr
  p0 : w.heap.size ≤ p
  m0 : w.heap.size ≤ mb
  f0 : ∀ f ∈ s.L, w.heap.size ≤ f.b
section
variable {w wr w2 : World} {p mb c : Nat} {D : DataW Unit} {s s' : Sc}
theorem Rn.later (h : Rn w wr p mb c D s) (n : New wr w2) : Rn w w2 p mb c D s :=
  ⟨h.ss.later n, h.n.trans (n.mono (fun _ _ h => h.elim)), h.p0, h.m0, h.f0⟩
theorem Rn.foot (h : Rn w wr p mb c D s) : ∀ k, Foot p mb s k → w.heap.size ≤ k := fun k hk => by
  rcases hk with e | e | ⟨f, hf, e⟩
  · rw [e]; exact h.p0
  · rw [e]; exact h.m0
  · rw [← e]; exact h.f0 f hf
theorem Rn.call (h : Rn w wr p mb c D s) (hl : Lf wr w2 p mb c D s s') (sim : Sim s s') : Rn w w2 p mb c D s' :=
  ⟨hl.1, h.n.trans (hl.2.mono (fun i _ hi => .inr (h.foot i hi))), h.p0, h.m0, fun f hf => by
    obtain ⟨_, F, e⟩ := sim
    rw [e] at hf
    obtain ⟨f', hf', rfl⟩ := upd_mem hf
    exact h.f0 f' hf'⟩
theorem Rn.add (h : Rn w wr p mb c D s) {c' : Nat} {D' : DataW Unit} {id sh : Int} (hs : Ss w2 p mb c' D' (addS s id wr.heap.size sh)) (t : Turns (· = mb) wr w2) : Rn w w2 p mb c' D' (addS s id wr.heap.size sh) :=
  ⟨hs, h.n.trans (t.mono (fun i _ hi => .inr (by rw [hi]; exact h.m0))), h.p0, h.m0, fun f hf => by
    rcases List.mem_append.1 hf with hf | hf
    · exact h.f0 f hf
    · simp at hf; subst hf
      exact h.n.size⟩
end
theorem Sim.take (s : Sc) (n : Int) : Sim s (takeS n s) := by
  unfold takeS
  split
  · exact ⟨rfl, _, rfl⟩
  · exact Sim.refl s
theorem Sim.trans {a b c : Sc} (h : Sim a b) (k : Sim b c) : Sim a c := by
  obtain ⟨m, F, e⟩ := h
  obtain ⟨m2, G, e2⟩ := k
  exact ⟨m2.trans m, _, by rw [e2, e, upd_upd]⟩
theorem Sim.choose (l : Hs) (s : Sc) : Sim s (chooseS l s) := by
  cases l with
  | nil => exact ⟨rfl, _, rfl⟩
  | cons x r =>
    show Sim s (runS (x :: r) (firS (x :: r) s))
    have h1 : Sim s (firS (x :: r) s) := by
      unfold firS
      split
      · exact Sim.beg s _
      · exact (Sim.beg s _).pass _
    unfold runS
    split
    · exact (h1.grant.pass _).grant
    · exact h1.grant
/-- a list of heads that has just been built -/
theorem hrow_new (w : World) (l : Hs) (cs : Array Value) (hc : ∀ j h, l[j]? = some h → cs[j * 2]? = some (.int .i64 h.1) ∧ cs[j * 2 + 1]? = some (.int .i64 h.2)) : HRow (w.alloc (.cells cs HT)) (.slice (some ⟨w.heap.size, 0, none⟩) l.length l.length) l := by
  have hb : Blk (w.alloc (.cells cs HT)) w.heap.size cs HT := Blk.new _ _ _
  refine ⟨_, _, rfl, Nat.le_refl _, .inr ⟨w.heap.size, 0, rfl, hb.lt, fun j h hj => ?_⟩⟩
  rw [Nat.zero_add]
  exact ⟨(hb.cell _).trans (hc j h hj).1, (hb.cell _).trans (hc j h hj).2⟩
def hs2 (a b : Int) : Hs := [(1, a), (2, b)]
theorem hrow2 (w : World) (a b : Int) : HRow (w.alloc (.cells #[.int .i64 1, .int .i64 a, .int .i64 2, .int .i64 b] HT)) (.slice (some ⟨w.heap.size, 0, none⟩) 2 2) (hs2 a b) :=
  hrow_new w (hs2 a b) _ (fun j h hj => by
    match j, hj with
    | 0, hj => simp [hs2] at hj; subst hj; exact ⟨rfl, rfl⟩
    | 1, hj => simp [hs2] at hj; subst hj; exact ⟨rfl, rfl⟩
    | j + 2, hj => simp [hs2] at hj)
/-- flows 1 and 2 -/
def two12 (s : Sc) : Prop := (∃ f ∈ s.L, f.id = 1) ∧ ∃ f ∈ s.L, f.id = 2
theorem two12.sim {s s' : Sc} (h : two12 s) (k : Sim s s') : two12 s' := ⟨k.fl h.1, k.fl h.2⟩
theorem ok2 {s : Sc} (h : two12 s) {a b : Int} (a0 : 0 ≤ a) (a1 : a ≤ s.most) (b0 : 0 ≤ b) (b1 : b ≤ s.most) : Ok s (hs2 a b) :=
  ⟨by simp [hs2, ids], (fun x hx => by simp [hs2] at hx; rcases hx with rfl | rfl; exact h.1; exact h.2), (fun x hx => by simp [hs2] at hx; rcases hx with rfl | rfl; exact ⟨a0, a1⟩; exact ⟨b0, b1⟩)⟩
theorem rg2 (a b : Int) : ∀ x ∈ ids (hs2 a b), -9223372036854775808 ≤ x ∧ x ≤ 9223372036854775807 := fun x hx => by
  simp [hs2, ids] at hx
  rcases hx with rfl | rfl <;> omega
/-- Choose of flows 1 and 2 -/
theorem choose2 (p mb c : Nat) (D : DataW Unit) (s : Sc) (a b : Int) (w : World) (h : Ss w p mb c D s) (h2 : two12 s) (a0 : 0 ≤ a) (a1 : a ≤ s.most) (b0 : 0 ≤ b) (b1 : b ≤ s.most) :
    Calls Tryz.prog 77 #[.pointer (some ⟨p, 0, none⟩), .slice (some ⟨w.heap.size, 0, none⟩) 2 2] (w.alloc (.cells #[.int .i64 1, .int .i64 a, .int .i64 2, .int .i64 b] HT)) fun e w' => e = .returned (.tuple #[.int .i64 (chooseS (hs2 a b) s).turn, .bool true]) ∧ Lf w w' p mb c D s (chooseS (hs2 a b) s) := by
  refine (choose_cons p mb c D s (hs2 a b) _ _ (h.later ((Turns.refl _ _).alloc _)) (hrow2 w a b) (ok2 h2 a0 a1 b0 b1) (by simp [hs2]) (by simp [hs2]) (rg2 a b)).mono ?_
  rintro e w' ⟨rfl, h1, h2⟩
  exact ⟨rfl, h1, (((Turns.refl (Foot p mb s) w).alloc (.cells #[.int .i64 1, .int .i64 a, .int .i64 2, .int .i64 b] HT))).trans (h2.mono (fun _ _ h => .inl h))⟩

/-! ### awake -/
def st0 (b1 b2 : Nat) : Sc := addS (addS (fresh 10) 1 b1 10) 2 b2 20
def stA (b1 b2 : Nat) : Nat → Sc
  | 0 => st0 b1 b2
  | n + 1 => takeS 10 (chooseS (hs2 10 10) (stA b1 b2 n))
theorem stA_sim (b1 b2 n : Nat) : Sim (st0 b1 b2) (stA b1 b2 n) := by
  induction n with
  | zero => exact Sim.refl _
  | succ n ih => exact (ih.trans (Sim.choose _ _)).trans (Sim.take _ _)
def wantA (n : Nat) : Int := [1, 2, 2, 1, 2, 2].getD n 0
theorem turn_want (b1 b2 : Nat) : ∀ n, n < 6 → (chooseS (hs2 10 10) (stA b1 b2 n)).turn = wantA n
  | 0, _ => by kernel_rfl
  | 1, _ => by kernel_rfl
  | 2, _ => by kernel_rfl
  | 3, _ => by kernel_rfl
  | 4, _ => by kernel_rfl
  | 5, _ => by kernel_rfl
  | n + 6, h => by omega
abbrev wcs : Array Value := #[.int .i64 1, .int .i64 2, .int .i64 2, .int .i64 1, .int .i64 2, .int .i64 2]
theorem wcs_at : ∀ n, n < 6 → wcs[n]? = some (.int .i64 (wantA n))
  | 0, _ => rfl
  | 1, _ => rfl
  | 2, _ => rfl
  | 3, _ => rfl
  | 4, _ => rfl
  | 5, _ => rfl
  | n + 6, h => by omega
theorem fnd_fresh (m id : Int) : fnd (fresh m).L id = none := rfl
theorem fnd_one (m : Int) (b : Nat) (sh id : Int) (h : id ≠ 1) : fnd (addS (fresh m) 1 b sh).L id = none := by
  show fnd [⟨1, b, sh, 0⟩] id = none
  have : ((1 : Int) == id) = false := by simp; omega
  simp [fnd, this]
end Go.Proofs.YtcppibjllaablaaGreat.drr

/-
  One cell of an element that lies in an owned row is stored. No program.
-/
namespace Go.Proofs.YtcppibjllaablaaGreat.mem
open Go.RowKit
set_option linter.unusedVariables false
section
variable {α : Type} {E : Enc α}
theorem Enc.all_set (l : List α) (j : Nat) (x y : α) (i : Nat) (u : Value) (hx : l[j]? = some x) (hi : i < E.n) (hy : E.cs y = (E.cs x).set i u) : E.all (l.set j y) = (E.all l).set (j * E.n + i) u := by
  induction l generalizing j with
  | nil => simp at hx
  | cons z l ih =>
    have hz := E.len z
    cases j with
    | zero =>
      simp at hx
      subst hx
      rw [List.set_cons_zero, E.all_cons, E.all_cons, hy, Nat.zero_mul, Nat.zero_add, List.set_append_left _ _ (by omega)]
    | succ j =>
      rw [List.set_cons_succ, E.all_cons, E.all_cons, ih j (by simpa using hx), List.set_append_right _ _ (by rw [hz, Nat.succ_mul]; omega), hz]
      congr 2
      rw [Nat.succ_mul]; omega
theorem Owns.setCell {T : TypeId} {w : World} {v : Value} {l : List α} (h : Owns E T w v l) {g j i : Nat} (hv : v.ownBlock = some g) {x y : α} (hx : l[j]? = some x) (u : Value) (hi : i < E.n) (hy : E.cs y = (E.cs x).set i u) :
    Owns E T (w.setCell ⟨g, j * E.n + i, none⟩ u) v (l.set j y) := by
  rcases h.2 with ⟨rfl, h0⟩ | ⟨g', cap, cur, rfl, hb, hg, hc, hm, hs, ht⟩
  · simp [Value.ownBlock] at hv
  · simp [Value.ownBlock] at hv
    subst hv
    have hb2 : Blk w g' cur T := hg
    have hjl : j < l.length := (List.getElem?_eq_some_iff.1 hx).1
    have hlt : j * E.n + i < l.length * E.n := by
      have : (j + 1) * E.n ≤ l.length * E.n := Nat.mul_le_mul_right _ hjl
      rw [Nat.succ_mul] at this; omega
    unfold Owns
    rw [List.length_set]
    refine ⟨by rw [E.all_length, List.length_set], .inr ⟨g', cap, cur.setIfInBounds (j * E.n + i) u, rfl, hb, hb2.set _ u, hc, hm, by simpa using hs, ?_⟩⟩
    rw [E.all_set l j x y i u hx hi hy, ← ht, Array.toList_setIfInBounds, List.take_set]
end
end Go.Proofs.YtcppibjllaablaaGreat.mem

/-
  Slices of structs that can be read from some place in a block on; append of such a slice onto an owned one. No program.
-/
namespace Go.Proofs.YtcppibjllaablaaGreat.mem
open Go.RowKit
set_option linter.unusedVariables false
section
variable {α : Type} {E : Enc α}

/-- v holds the elements l, in a block from B on -/
def Lies (E : Enc α) (B : Nat) (w : World) (v : Value) (l : List α) : Prop :=
  ∃ g o c, v = .slice (some ⟨g, o, none⟩) l.length c ∧ l.length ≤ c ∧ c ≤ maxLen ∧ B ≤ g ∧ g < w.heap.size ∧ ∀ j u, (E.all l)[j]? = some u → w.cell? ⟨g, o + j, none⟩ = some u
theorem Lies.turns {B : Nat} {S : Nat → Prop} {w w' : World} {v : Value} {l : List α} (h : Lies E B w v l) (ht : Turns S w w') (hn : ∀ g, B ≤ g → ¬ S g) : Lies E B w' v l := by
  obtain ⟨g, o, c, rfl, h1, h2, h3, h4, h5⟩ := h
  exact ⟨g, o, c, rfl, h1, h2, h3, Nat.lt_of_lt_of_le h4 ht.size, fun j u hu => (ht.cell (a := ⟨g, o + j, none⟩) h4 (hn g h3)).trans (h5 j u hu)⟩
/-- the block of v is not among what has turned -/
theorem Lies.turns' {B : Nat} {S : Nat → Prop} {w w' : World} {v : Value} {l : List α} (h : Lies E B w v l) (ht : Turns S w w') (hn : ∀ g, v.ownBlock = some g → ¬ S g) : Lies E B w' v l := by
  obtain ⟨g, o, c, rfl, h1, h2, h3, h4, h5⟩ := h
  exact ⟨g, o, c, rfl, h1, h2, h3, Nat.lt_of_lt_of_le h4 ht.size, fun j u hu => (ht.cell (a := ⟨g, o + j, none⟩) h4 (hn g rfl)).trans (h5 j u hu)⟩
theorem Lies.lt {B : Nat} {w : World} {v : Value} {l : List α} (h : Lies E B w v l) : ∀ g, v.ownBlock = some g → B ≤ g ∧ g < w.heap.size := by
  obtain ⟨g, o, c, rfl, h1, h2, h3, h4, h5⟩ := h
  intro g' hg'
  have : g = g' := by simpa [Value.ownBlock] using hg'
  subst this
  exact ⟨h3, h4⟩
theorem Lies.mono {B B' : Nat} {w : World} {v : Value} {l : List α} (h : Lies E B w v l) (hB : B' ≤ B) : Lies E B' w v l := by
  obtain ⟨g, o, c, rfl, h1, h2, h3, h4, h5⟩ := h
  exact ⟨g, o, c, rfl, h1, h2, Nat.le_trans hB h3, h4, h5⟩
theorem Owns.lies {T : TypeId} {w : World} {v : Value} {l : List α} (h : Owns E T w v l) (hl : l ≠ []) (B : Nat) (hB : ∀ g, v.ownBlock = some g → B ≤ g) : Lies E B w v l := by
  have hcs := @World.ownsRow.cells _ _ _ _ _ _ _ h
  rcases h.2 with ⟨_, h0⟩ | ⟨g, cap, cur, rfl, hb, hg, hc, hm, hs, ht⟩
  · exact absurd (List.length_eq_zero_iff.1 h0) hl
  · refine ⟨g, 0, cap, rfl, hc, hm, hB g rfl, (Array.getElem?_eq_some_iff.1 hg).1, fun j u hu => ?_⟩
    have := hcs (g := g) rfl j u hu
    rw [Nat.zero_add]
    rwa [show (⟨g, 0, none⟩ : Addr).add j = ⟨g, j, none⟩ by unfold Addr.add; split <;> simp_all] at this
/-- 'l[1:]' -/
theorem Lies.tail {B g o c : Nat} {w : World} {l : List α} {x : α} (h : Lies E B w (.slice (some ⟨g, o, none⟩) (x :: l).length c) (x :: l)) : Lies E B w (.slice (some ⟨g, o + E.n, none⟩) l.length (c - 1)) l := by
  obtain ⟨g', o', c', e, h1, h2, h3, h4, h5⟩ := h
  injection e with e1 _ e3
  injection e1 with e1
  injection e1 with e1 e2
  subst e1 e2 e3
  refine ⟨g, o + E.n, c - 1, rfl, by simp at h1; omega, by omega, h3, h4, fun j u hu => ?_⟩
  have := h5 (E.n + j) u (by rw [E.all_cons, List.getElem?_append_right (by rw [E.len]; omega), E.len]; rw [show E.n + j - E.n = j by omega]; exact hu)
  rwa [Nat.add_assoc]
theorem Lies.cell {B : Nat} {w : World} {v : Value} {l : List α} (h : Lies E B w v l) : ∃ g o c, v = .slice (some ⟨g, o, none⟩) l.length c ∧ l.length ≤ c ∧ c ≤ maxLen ∧ B ≤ g ∧ g < w.heap.size ∧ ∀ (k : Nat) (u : α), l[k]? = some u → ∀ (j : Nat) (x : Value), (E.cs u)[j]? = some x → w.cell? ⟨g, o + k * E.n + j, none⟩ = some x := by
  obtain ⟨g, o, c, e, h1, h2, h3, h4, h5⟩ := h
  refine ⟨g, o, c, e, h1, h2, h3, h4, fun k u hu j x hj => ?_⟩
  have := h5 (k * E.n + j) x (E.all_at l k u hu j x hj)
  rwa [← Nat.add_assoc] at this
/-- what stands behind '[]T{}' -/
theorem Lies.made (w : World) (T : TypeId) : Lies E w.heap.size (w.alloc (.cells #[] T)) (.slice (some ⟨w.heap.size, 0, none⟩) 0 0) [] :=
  ⟨w.heap.size, 0, 0, rfl, Nat.le_refl _, Nat.zero_le _, Nat.le_refl _, by simp, fun j u hu => by simp [Enc.all] at hu⟩

/-- append of the elements m, that lie somewhere, onto an owned row: a step of a list of operations -/
theorem wpList_append_lying {P : Program} {T RT : TypeId} {z : Value} {bytes : Nat} (hu : P.underlying RT = some (.slice T)) (hi : (P.info? T).map (fun i => (i.zero, i.size, i.bytes)) = some (some z, E.n, bytes)) (hz : z.cells.size = E.n) (h0 : 0 < E.n) (hb : bytes ≤ 4096)
    {ops : Array Oper} {rest : List Oper} {o : Oper} {a : Act} {Q : Exit → Act → World → Prop} {W : World} (hgd : o.guard = none) (sl x : Operand)
    (ho : o.op = .call { callee := .builtin .append, args := #[sl, x], argTypes := #[RT, RT] }) (v : Value) (l m : List α) (hs : a.eval sl = v) (hr : Owns E T W v l) (vm : Value) (hx : a.eval x = vm) (B : Nat) (hm : Lies E B W vm m) (h63 : l.length + m.length ≤ 1048576)
    (h : ∀ v' w', Owns E T w' v' (l ++ m) → W.grownBy w' v.ownBlock → (v'.ownBlock = v.ownBlock ∨ v'.ownBlock = some W.heap.size) → wpList P ops Q rest (a.put o.dst v') w') : wpList P ops Q (o :: rest) a W := by
  refine wpList_plain hgd fun K hK => ?_
  obtain ⟨g, of, c, rfl, _, _, _, _, hcell⟩ := hm
  obtain ⟨i0, hi', hz0, hz1, hz2⟩ := infoOf hi
  have hby : (l.length + m.length) * bytes ≤ 1048576 * 4096 := Nat.mul_le_mul h63 hb
  obtain ⟨v', w', hrun, h2, h3, _, h5⟩ := run_append_own_at (P := P) W 0 RT o.type T i0 _ E.n bytes hu hi' hz0 hz1 hz2 hz h0 v l.length (E.all l) hr ⟨g, of, none⟩ m.length c (E.all m) (E.all_length m)
    (fun j u hj => by have := hcell j u hj; rwa [show (⟨g, of, none⟩ : Addr).add j = ⟨g, of + j, none⟩ by unfold Addr.add; split <;> simp_all])
    (E.all_cell m) (by unfold maxLen; omega) (by omega) (Nat.zero_le _)
  unfold Oper.wp execOp
  simp only [ho, resolve, invoke, builtin, Sem.run_bind, Sem.run_pure, Result.andThen_ok, List.map_toArray, List.map_cons, List.map_nil, hs, hx, hrun]
  refine hK _ _ (h v' w' ?_ h3 h5)
  unfold Owns
  rw [E.all_append, List.length_append]
  exact h2
end
end Go.Proofs.YtcppibjllaablaaGreat.mem

/-
  A row of the call's own that grows: what stays. No program.
-/
namespace Go.Proofs.YtcppibjllaablaaGreat.mem
open Go.RowKit
set_option linter.unusedVariables false

/-- a row that the call owns, in blocks made since w; nothing that was there has turned -/
structure Gr {α : Type} (E : Enc α) (T : TypeId) (w wr : World) (v : Value) (L : List α) : Prop where
  own : Owns E T wr v L
  vb : ∀ g, v.ownBlock = some g → w.heap.size ≤ g
  n : Turns (fun _ => False) w wr
section
variable {α : Type} {E : Enc α} {T : TypeId} {w w1 w2 : World} {v v' : Value} {L : List α}
theorem Gr.nil (E : Enc α) (T : TypeId) (w wr : World) (n : Turns (fun _ => False) w wr) : Gr E T w wr (.slice none 0 0) [] := ⟨Owns.nil _ _, (fun g hg => by simp [Value.ownBlock] at hg), n⟩
theorem Gr.later (h : Gr E T w w1 v L) (n : Turns (fun _ => False) w1 w2) : Gr E T w w2 v L :=
  ⟨h.own.turns n (fun _ _ h => h), h.vb, h.n.trans (n.mono (fun _ _ h => h.elim))⟩
/-- turned: the row's own block alone -/
theorem Gr.turned {o : Obj} (hg : (w1.alloc o).grownBy w2 v.ownBlock) : Turns (fun k => some k = v.ownBlock) w1 w2 := ((Turns.refl _ _).alloc _).trans ((Turns.of_grown hg).mono (fun k _ hk => .inl hk))
theorem Gr.push {l : List α} {o : Obj} (h : Gr E T w w1 v L) (ho : Owns E T w2 v' (L ++ l)) (hg : (w1.alloc o).grownBy w2 v.ownBlock) (ha : v'.ownBlock = v.ownBlock ∨ v'.ownBlock = some (w1.alloc o).heap.size) : Gr E T w w2 v' (L ++ l) := by
  refine ⟨ho, ?_, h.n.trans ((Gr.turned hg).mono (fun k _ hk => .inr (h.vb k hk.symm)))⟩
  intro g hg
  rcases ha with e | e
  · exact h.vb g (by rw [← e]; exact hg)
  · rw [e] at hg; injection hg with hg; have := h.n.size; simp at hg; omega
end
end Go.Proofs.YtcppibjllaablaaGreat.mem

/-
  Owned rows cut in place ('slices.Delete(s, 0, n)'), slices that may be nil or lie anywhere. No program.
-/
namespace Go.Proofs.YtcppibjllaablaaGreat.mem
open Go.RowKit
set_option linter.unusedVariables false

theorem take_set_of_lt' {α : Type} (l : List α) (o : Nat) (v : α) (h : o < l.length) : (l.set o v).take (o + 1) = l.take o ++ [v] := by
  rw [List.take_add_one, List.getElem?_set_self (by omega)]
  simp [List.take_set]
  rw [List.set_eq_of_length_le (by simp; omega)]
theorem Blk.setCells {p : Nat} {t : TypeId} : ∀ (vs : List Value) (o : Nat) (w : World) (l : List Value), Blk w p l.toArray t → o + vs.length ≤ l.length → Blk (w.setCells p o vs) p (l.take o ++ vs ++ l.drop (o + vs.length)).toArray t
  | [], o, w, l, h, _ => by simpa [World.setCells] using h
  | v :: vs, o, w, l, h, hle => by
    have hle' : o + (vs.length + 1) ≤ l.length := by simpa using hle
    have h1 := h.set o v
    rw [List.setIfInBounds_toArray] at h1
    have h2 := Blk.setCells vs (o + 1) _ (l.set o v) h1 (by rw [List.length_set]; omega)
    rw [World.setCells]
    have e : (l.set o v).take (o + 1) ++ vs ++ (l.set o v).drop (o + 1 + vs.length) = l.take o ++ (v :: vs) ++ l.drop (o + (v :: vs).length) := by
      rw [take_set_of_lt' l o v (by omega), List.drop_set_of_lt (by omega), show o + 1 + vs.length = o + (v :: vs).length by simp; omega]
      simp
    rwa [e] at h2
theorem Turns.setCells {S : Nat → Prop} {a : World} {p : Nat} (hp : S p ∨ a.heap.size ≤ p) : ∀ (vs : List Value) (o : Nat) (w : World), Turns S a w → Turns S a (w.setCells p o vs)
  | [], _, _, h => h
  | v :: vs, o, w, h => Turns.setCells hp vs (o + 1) _ (h.setCell (p := ⟨p, o, none⟩) hp v)

/-- what 'clear' writes -/
def zerosOf (z : Value) (n : Nat) : List Value := (Builtin.zeroCells z.cells n).toList
theorem zerosOf_length (z : Value) (n : Nat) : (zerosOf z n).length = n * z.cells.size := by simp [zerosOf, Builtin.zeroCells]
theorem zerosOf_one (z : Value) (n : Nat) (h0 : 0 < z.cells.size) (h1 : ∀ u ∈ z.cells, u.oneCell' = true) : ∀ u ∈ zerosOf z n, u.oneCell' = true := by
  intro u hu
  simp only [zerosOf, Builtin.zeroCells, Array.toList_map, List.mem_map] at hu
  obtain ⟨i, _, rfl⟩ := hu
  have hlt := Nat.mod_lt i h0
  rw [getElem!_pos z.cells _ hlt]
  exact h1 _ (Array.getElem_mem hlt)

section
variable {α : Type} {E : Enc α}
theorem run_clear {P : Program} (w : World) (t e ty : TypeId) (z : Value) (ht : P.underlying t = some (.slice e)) (hv : ∀ w, (zeroValue e).run P w = .ok z w) (hs : z.cells.size = E.n) (h0 : 0 < E.n) (h1 : ∀ u ∈ z.cells, u.oneCell' = true) (b o n c : Nat) (hn : 0 < n)
    (hc : ∀ j, j < n * E.n → (w.cell? ⟨b, o + j, none⟩).isSome = true) (hf : ∀ j, j < n * E.n → w.frozen? ⟨b, o + j, none⟩ = false) :
    (Builtin.clear_ #[t] ty #[.slice (some ⟨b, o, none⟩) n c]).run P w = .ok (.tuple #[]) (w.setCells b o (zerosOf z n)) := by
  have hl := zerosOf_length z n
  rw [hs] at hl
  have hst := run_storeCells_cells (P := P) b o (zerosOf z n) 0 w (by simpa [hl] using hc) (by simpa [hl] using hf) (zerosOf_one z n (by omega) h1)
  simp only [Nat.add_zero] at hst
  unfold zerosOf at *
  obtain ⟨m, rfl⟩ : ∃ m, n = m + 1 := ⟨n - 1, by omega⟩
  simp [Builtin.clear_, run_underlying ht, hv, hst]

theorem Enc.all_drop (l : List α) (n : Nat) : E.all (l.drop n) = (E.all l).drop (n * E.n) := by
  induction n generalizing l with
  | zero => simp
  | succ n ih =>
    cases l with
    | nil => simp [Enc.all]
    | cons x l =>
      rw [List.drop_succ_cons, ih, E.all_cons, Nat.succ_mul, Nat.add_comm (n * E.n), ← List.drop_drop, List.drop_left' (E.len x)]
theorem Enc.all_take (l : List α) (n : Nat) : E.all (l.take n) = (E.all l).take (n * E.n) := by
  induction n generalizing l with
  | zero => simp [Enc.all]
  | succ n ih =>
    cases l with
    | nil => simp [Enc.all]
    | cons x l =>
      rw [List.take_succ_cons, E.all_cons, ih, E.all_cons, Nat.succ_mul, Nat.add_comm (n * E.n), List.take_append, E.len, Nat.add_sub_cancel_left, List.take_of_length_le (i := E.n + n * E.n) (l := E.cs x) (by rw [E.len]; omega)]

/-- the first n elements are cut off in place -/
theorem Owns.cut {T : TypeId} {w : World} {g cap : Nat} {l : List α} (h : Owns E T w (.slice (some ⟨g, 0, none⟩) l.length cap) l) (n : Nat) (hn : n ≤ l.length) (zs : List Value) (hz : zs.length = n * E.n) :
    Owns E T ((w.setCells g 0 (E.all (l.drop n))).setCells g ((l.length - n) * E.n) zs) (.slice (some ⟨g, 0, none⟩) (l.length - n) cap) (l.drop n) := by
  rcases h.2 with ⟨h0, _⟩ | ⟨g', cap', cur, e, hb, hg, hc, hm, hs, ht⟩
  · cases h0
  · injection e with e1 _ e3
    injection e1 with e1
    injection e1 with e1
    subst e1 e3
    have hB : Blk w g cur.toList.toArray T := by simpa [Blk] using hg
    have hla : (E.all (l.drop n)).length = (l.length - n) * E.n := by rw [E.all_length, List.length_drop]
    have hcs : cur.toList.length = cap * E.n := by simpa using hs
    have hml : (l.length - n) * E.n + n * E.n = l.length * E.n := by rw [← Nat.add_mul, Nat.sub_add_cancel hn]
    have hmc : l.length * E.n ≤ cap * E.n := Nat.mul_le_mul_right _ hc
    have h1 := Blk.setCells (E.all (l.drop n)) 0 w cur.toList hB (by rw [hla, hcs]; omega)
    have h2 := Blk.setCells zs ((l.length - n) * E.n) _ _ h1 (by
      simp only [List.length_append, List.length_take, List.length_drop, hla, hcs, hz]; omega)
    refine ⟨by rw [E.all_length, List.length_drop], ?_⟩
    rw [List.length_drop]
    refine .inr ⟨g, cap, _, rfl, Nat.zero_le _, h2, by omega, hm, ?_, ?_⟩
    · simp only [List.size_toArray, List.length_append, List.length_take, List.length_drop, hla, hcs, hz]; omega
    · rw [List.toList_toArray, List.append_assoc, List.take_append_of_le_length (by simp only [List.length_take, List.length_append, List.length_drop, hla, hcs]; omega), List.take_take, Nat.min_self]
      simp only [List.take_zero, List.nil_append]
      rw [List.take_append_of_le_length (by rw [hla]; omega), List.take_of_length_le (by rw [hla]; omega)]

/-- v holds the elements l: nil, or in a block from B on -/
def Sub (E : Enc α) (B : Nat) (w : World) (v : Value) (l : List α) : Prop := (v = .slice none 0 0 ∧ l = []) ∨ Lies E B w v l
theorem Sub.nil (E : Enc α) (B : Nat) (w : World) : Sub E B w (.slice none 0 0) [] := .inl ⟨rfl, rfl⟩
theorem Sub.turns {B : Nat} {S : Nat → Prop} {w w' : World} {v : Value} {l : List α} (h : Sub E B w v l) (ht : Turns S w w') (hn : ∀ g, B ≤ g → ¬ S g) : Sub E B w' v l := by
  rcases h with h | h
  · exact .inl h
  · exact .inr (h.turns ht hn)
theorem Sub.turns' {B : Nat} {S : Nat → Prop} {w w' : World} {v : Value} {l : List α} (h : Sub E B w v l) (ht : Turns S w w') (hn : ∀ g, v.ownBlock = some g → ¬ S g) : Sub E B w' v l := by
  rcases h with h | h
  · exact .inl h
  · exact .inr (h.turns' ht hn)
theorem Sub.lt {B : Nat} {w : World} {v : Value} {l : List α} (h : Sub E B w v l) : ∀ g, v.ownBlock = some g → B ≤ g ∧ g < w.heap.size := by
  rcases h with ⟨rfl, _⟩ | h
  · intro g hg; simp [Value.ownBlock] at hg
  · exact h.lt
theorem Sub.mono {B B' : Nat} {w : World} {v : Value} {l : List α} (h : Sub E B w v l) (hB : B' ≤ B) : Sub E B' w v l := by
  rcases h with h | h
  · exact .inl h
  · exact .inr (h.mono hB)
theorem Sub.form {B : Nat} {w : World} {v : Value} {l : List α} (h : Sub E B w v l) : ∃ ao c, v = .slice ao l.length c ∧ l.length ≤ c ∧ c ≤ maxLen := by
  rcases h with ⟨rfl, rfl⟩ | ⟨g, o, c, e, h1, h2, _⟩
  · exact ⟨none, 0, rfl, Nat.le_refl _, Nat.zero_le _⟩
  · exact ⟨_, c, e, h1, h2⟩
theorem Owns.sub {T : TypeId} {w : World} {v : Value} {l : List α} (h : Owns E T w v l) (B : Nat) (hB : ∀ g, v.ownBlock = some g → B ≤ g) : Sub E B w v l := by
  have hcs := @World.ownsRow.cells _ _ _ _ _ _ _ h
  rcases h.2 with ⟨rfl, h0⟩ | ⟨g, cap, cur, rfl, hb, hg, hc, hm, hs, ht⟩
  · exact .inl ⟨rfl, List.length_eq_zero_iff.1 h0⟩
  · refine .inr ⟨g, 0, cap, rfl, hc, hm, hB g rfl, (Array.getElem?_eq_some_iff.1 hg).1, fun j u hu => ?_⟩
    have := hcs (g := g) rfl j u hu
    rw [Nat.zero_add]
    rwa [show (⟨g, 0, none⟩ : Addr).add j = ⟨g, j, none⟩ by unfold Addr.add; split <;> simp_all] at this
/-- 'l[:n]' -/
theorem Lies.take {B g o c : Nat} {w : World} {l : List α} (h : Lies E B w (.slice (some ⟨g, o, none⟩) l.length c) l) (n : Nat) (hn : n ≤ l.length) : Lies E B w (.slice (some ⟨g, o, none⟩) n c) (l.take n) := by
  obtain ⟨g', o', c', e, h1, h2, h3, h4, h5⟩ := h
  injection e with e1 _ e3
  injection e1 with e1
  injection e1 with e1 e2
  subst e1 e2 e3
  have hl : (l.take n).length = n := by rw [List.length_take]; omega
  refine ⟨g, o, c, by rw [hl], by omega, h2, h3, h4, fun j u hu => h5 j u ?_⟩
  rw [E.all_take] at hu
  rw [List.getElem?_take] at hu
  split at hu
  · exact hu
  · cases hu
/-- 'l[n:]' -/
theorem Lies.drop {B g o c : Nat} {w : World} {l : List α} (h : Lies E B w (.slice (some ⟨g, o, none⟩) l.length c) l) (n : Nat) (hn : n ≤ l.length) : Lies E B w (.slice (if c = n then some ⟨g, o, none⟩ else some ⟨g, o + n * E.n, none⟩) (l.length - n) (c - n)) (l.drop n) := by
  obtain ⟨g', o', c', e, h1, h2, h3, h4, h5⟩ := h
  injection e with e1 _ e3
  injection e1 with e1
  injection e1 with e1 e2
  subst e1 e2 e3
  have hl : (l.drop n).length = l.length - n := by rw [List.length_drop]
  split
  next hc =>
    have : l.drop n = [] := List.drop_eq_nil_of_le (by omega)
    refine ⟨g, o, c - n, by rw [hl], by omega, by omega, h3, h4, fun j u hu => ?_⟩
    rw [this] at hu
    simp [Enc.all] at hu
  next hc =>
    refine ⟨g, o + n * E.n, c - n, by rw [hl], by omega, by omega, h3, h4, fun j u hu => ?_⟩
    rw [E.all_drop, List.getElem?_drop] at hu
    rw [Nat.add_assoc]
    exact h5 _ u hu

theorem Owns.append_sub {P : Program} {T RT ty : TypeId} {z : Value} {bytes B : Nat} (hu : P.underlying RT = some (.slice T)) (hi : (P.info? T).map (fun i => (i.zero, i.size, i.bytes)) = some (some z, E.n, bytes)) (hz : z.cells.size = E.n) (h0 : 0 < E.n) (hb : bytes ≤ 4096)
    {W : World} {v u : Value} {l m : List α} (hr : Owns E T W v l) (hm : Sub E B W u m) (h63 : l.length + m.length ≤ 1048576) :
    ∃ v' w', (Builtin.append_ #[RT, RT] ty #[v, u]).run P W = .ok v' w' ∧ Owns E T w' v' (l ++ m) ∧ W.grownBy w' v.ownBlock ∧ (v'.ownBlock = v.ownBlock ∨ v'.ownBlock = some W.heap.size) := by
  obtain ⟨i0, hi', hz0, hz1, hz2⟩ := infoOf hi
  rcases hm with ⟨rfl, rfl⟩ | ⟨g, of, c, rfl, _, _, _, _, hcell⟩
  · refine ⟨v, W, ?_, by rw [List.append_nil]; exact hr, ⟨rfl, rfl, rfl, Nat.le_refl _, fun _ _ _ => rfl⟩, .inl rfl⟩
    exact run_append_owned_none (P := P) (w := W) 0 RT ty T i0 E.n hu hi' v l.length (E.all l) hr
  · have hby : (l.length + m.length) * bytes ≤ 1048576 * 4096 := Nat.mul_le_mul h63 hb
    obtain ⟨v', w', hrun, h2, h3, _, h5⟩ := run_append_own_at (P := P) W 0 RT ty T i0 _ E.n bytes hu hi' hz0 hz1 hz2 hz h0 v l.length (E.all l) hr ⟨g, of, none⟩ m.length c (E.all m) (E.all_length m)
      (fun j u hj => by have := hcell j u hj; rwa [show (⟨g, of, none⟩ : Addr).add j = ⟨g, of + j, none⟩ by unfold Addr.add; split <;> simp_all])
      (E.all_cell m) (by unfold maxLen; omega) (by omega) (Nat.zero_le _)
    refine ⟨v', w', hrun, ?_, h3, h5⟩
    unfold Owns
    rw [E.all_append, List.length_append]
    exact h2

/-- append of such a slice: a step of a list of operations -/
theorem wpList_append_sub {P : Program} {T RT : TypeId} {z : Value} {bytes : Nat} (hu : P.underlying RT = some (.slice T)) (hi : (P.info? T).map (fun i => (i.zero, i.size, i.bytes)) = some (some z, E.n, bytes)) (hz : z.cells.size = E.n) (h0 : 0 < E.n) (hb : bytes ≤ 4096)
    {ops : Array Oper} {rest : List Oper} {o : Oper} {a : Act} {Q : Exit → Act → World → Prop} {W : World} (hgd : o.guard = none) (sl x : Operand)
    (ho : o.op = .call { callee := .builtin .append, args := #[sl, x], argTypes := #[RT, RT] }) (v : Value) (l m : List α) (hs : a.eval sl = v) (hr : Owns E T W v l) (vm : Value) (hx : a.eval x = vm) (B : Nat) (hm : Sub E B W vm m) (h63 : l.length + m.length ≤ 1048576)
    (h : ∀ v' w', Owns E T w' v' (l ++ m) → W.grownBy w' v.ownBlock → (v'.ownBlock = v.ownBlock ∨ v'.ownBlock = some W.heap.size) → wpList P ops Q rest (a.put o.dst v') w') : wpList P ops Q (o :: rest) a W := by
  refine wpList_plain hgd fun K hK => ?_
  obtain ⟨v', w', hrun, h2, h3, h4⟩ := Owns.append_sub (P := P) (ty := o.type) hu hi hz h0 hb hr hm h63
  unfold Oper.wp execOp
  simp only [ho, resolve, invoke, builtin, Sem.run_bind, Sem.run_pure, Result.andThen_ok, List.map_toArray, List.map_cons, List.map_nil, hs, hx, hrun]
  exact hK _ _ (h v' w' h2 h3 h4)

theorem step_append_sub {P : Program} {T RT : TypeId} {z : Value} {bytes : Nat} (hu : P.underlying RT = some (.slice T)) (hi : (P.info? T).map (fun i => (i.zero, i.size, i.bytes)) = some (some z, E.n, bytes)) (hz : z.cells.size = E.n) (h0 : 0 < E.n) (hb : bytes ≤ 4096)
    {ops : Array Oper} {o : Oper} {a : Act} {K : Act → World → Prop} {Q : Exit → Act → World → Prop} {X : Prop} {W : World} (hgd : o.guard = none) (sl x : Operand)
    (ho : o.op = .call { callee := .builtin .append, args := #[sl, x], argTypes := #[RT, RT] }) (v u : Value) (l m : List α) (hs : a.eval sl = v) (hx : a.eval x = u) (hr : Owns E T W v l) (B : Nat) (hm : Sub E B W u m) (h63 : l.length + m.length ≤ 1048576)
    (h : ∀ v' w', Owns E T w' v' (l ++ m) → W.grownBy w' v.ownBlock → (v'.ownBlock = v.ownBlock ∨ v'.ownBlock = some W.heap.size) → K (a.put o.dst v') w') :
    if Region.wanted o (yielded ops a.tmps) = true then Oper.wp P o a W K Q else X := by
  have hw : Region.wanted o (yielded ops a.tmps) = true := by simp [Region.wanted, hgd]
  rw [if_pos hw]
  obtain ⟨v', w', hrun, h2, h3, h4⟩ := Owns.append_sub (P := P) (ty := o.type) hu hi hz h0 hb hr hm h63
  unfold Oper.wp execOp
  simp only [ho, resolve, invoke, builtin, Sem.run_bind, Sem.run_pure, Result.andThen_ok, List.map_toArray, List.map_cons, List.map_nil, hs, hx, hrun]
  exact h v' w' h2 h3 h4
end
end Go.Proofs.YtcppibjllaablaaGreat.mem

/-
  queue, as pure functions: items, what is dropped together, Put, Expire. No program.
-/
namespace Go.Proofs.YtcppibjllaablaaGreat.que
open Go.RowKit mem
set_option linter.unusedVariables false

structure It where
  n : Int
  size : Int
  tick : Int
  key : Bool
def It.cs (x : It) : List Value := [.int .i64 x.n, .int .i64 x.size, .int .i64 x.tick, .bool x.key]
def IE : Enc It := ⟨4, It.cs, fun _ => rfl, fun x u hu => by
  simp [It.cs] at hu
  rcases hu with rfl | rfl | rfl | rfl <;> rfl⟩

def sumL : List It → Int
  | [] => 0
  | x :: l => x.size + sumL l
theorem sumL_append (a b : List It) : sumL (a ++ b) = sumL a + sumL b := by
  induction a with
  | nil => simp [sumL]
  | cons x a ih => rw [List.cons_append, sumL, sumL, ih]; omega
theorem sumL_cut (l : List It) (n : Nat) : sumL l = sumL (l.take n) + sumL (l.drop n) := by rw [← sumL_append, List.take_append_drop]
def pos (l : List It) : Prop := ∀ x ∈ l, 0 ≤ x.size
theorem sumL_pos : ∀ (l : List It), pos l → 0 ≤ sumL l
  | [], _ => Int.le_refl 0
  | x :: l, h => by
    have h1 := h x List.mem_cons_self
    have h2 := sumL_pos l (fun y hy => h y (List.mem_cons_of_mem _ hy))
    rw [sumL]; omega
theorem pos.drop {l : List It} (h : pos l) (n : Nat) : pos (l.drop n) := fun x hx => h x (List.mem_of_mem_drop hx)
theorem pos.take {l : List It} (h : pos l) (n : Nat) : pos (l.take n) := fun x hx => h x (List.mem_of_mem_take hx)
theorem sumL_drop_le (l : List It) (n : Nat) (h : pos l) : sumL (l.drop n) ≤ sumL l := by
  have := sumL_cut l n
  have := sumL_pos _ (h.take n)
  omega
theorem sumL_take_le (l : List It) (n : Nat) (h : pos l) : sumL (l.take n) ≤ sumL l := by
  have := sumL_cut l n
  have := sumL_pos _ (h.drop n)
  omega
theorem sumL_at (l : List It) (n : Nat) (x : It) (h : l[n]? = some x) : sumL (l.take (n + 1)) = sumL (l.take n) + x.size := by
  rw [List.take_add_one, h, sumL_append]
  simp [sumL]

/-- how many of the first ones aren't Key -/
def runL : List It → Nat
  | [] => 0
  | x :: l => if x.key then 0 else 1 + runL l
theorem runL_le : ∀ (l : List It), runL l ≤ l.length
  | [] => Nat.le_refl 0
  | x :: l => by
    have := runL_le l
    rw [runL, List.length_cons]
    split <;> omega
/-- how many are dropped with the first one -/
def dropN (l : List It) : Nat := 1 + runL (l.drop 1)
theorem dropN_pos (l : List It) : 1 ≤ dropN l := Nat.le_add_right 1 _
theorem dropN_le (l : List It) (h : l ≠ []) : dropN l ≤ l.length := by
  have := runL_le (l.drop 1)
  have h0 : l.length ≠ 0 := fun e => h (List.length_eq_zero_iff.1 e)
  rw [List.length_drop] at this
  unfold dropN; omega
theorem runL_at (l : List It) (n : Nat) (x : It) (h : l[n]? = some x) : runL (l.drop n) = if x.key then 0 else 1 + runL (l.drop (n + 1)) := by
  obtain ⟨hlt, hx⟩ := List.getElem?_eq_some_iff.1 h
  rw [List.drop_eq_getElem_cons hlt, runL, hx]
theorem runL_end (l : List It) (n : Nat) (h : l.length ≤ n) : runL (l.drop n) = 0 := by rw [List.drop_eq_nil_of_le h]; rfl

/-- as long as P, the first one is dropped: how many in all -/
def shed (P : List It → Bool) : Nat → List It → Nat
  | 0, _ => 0
  | f + 1, l => if P l then dropN l + shed P f (l.drop (dropN l)) else 0
theorem shed_two (P : List It → Bool) (h0 : P [] = false) : ∀ (f g : Nat) (l : List It), l.length ≤ f → l.length ≤ g → shed P f l = shed P g l
  | 0, g, l, h, _ => by
    have : l = [] := List.length_eq_zero_iff.1 (by omega)
    subst this
    cases g with
    | zero => rfl
    | succ g => rw [shed, shed, h0]; rfl
  | f + 1, 0, l, _, h => by
    have : l = [] := List.length_eq_zero_iff.1 (by omega)
    subst this
    rw [shed, shed, h0]; rfl
  | f + 1, g + 1, l, h1, h2 => by
    have hd := dropN_pos l
    rw [shed, shed]
    split
    next hp => rw [shed_two P h0 f g _ (by rw [List.length_drop]; omega) (by rw [List.length_drop]; omega)]
    next => rfl
theorem shed_fuel (P : List It → Bool) (h0 : P [] = false) (f : Nat) (l : List It) (h : l.length ≤ f) : shed P f l = shed P l.length l := shed_two P h0 f _ l h (Nat.le_refl _)
def sh (P : List It → Bool) (l : List It) : Nat := shed P l.length l
theorem sh_go (P : List It → Bool) (h0 : P [] = false) (l : List It) (h : P l = true) : l ≠ [] ∧ sh P l = dropN l + sh P (l.drop (dropN l)) := by
  have hne : l ≠ [] := fun e => by rw [e, h0] at h; cases h
  refine ⟨hne, ?_⟩
  obtain ⟨x, r, rfl⟩ := List.exists_cons_of_ne_nil hne
  have hd := dropN_pos (x :: r)
  unfold sh
  rw [List.length_cons, shed, h, if_pos rfl, shed_fuel P h0 r.length _ (by rw [List.length_drop, List.length_cons]; omega)]
theorem sh_end (P : List It → Bool) (l : List It) (h : P l = false) : sh P l = 0 := by
  unfold sh
  cases l with
  | nil => rfl
  | cons x l => rw [List.length_cons, shed, h]; rfl
theorem sh_le (P : List It → Bool) : ∀ (f : Nat) (l : List It), P [] = false → shed P f l ≤ l.length
  | 0, l, _ => Nat.zero_le _
  | f + 1, l, h0 => by
    rw [shed]
    split
    next h =>
      have hne : l ≠ [] := fun e => by rw [e, h0] at h; cases h
      have h1 := sh_le P f (l.drop (dropN l)) h0
      have h2 := dropN_le l hne
      rw [List.length_drop] at h1
      omega
    next => exact Nat.zero_le _

/-- is it broken when k of l are gone? -/
def brk (b : Bool) (l : List It) (k : Nat) : Bool := b || (decide (0 < k) && decide (k = l.length))
theorem brk_zero (b : Bool) (l : List It) : brk b l 0 = b := by simp [brk]
theorem brk_step (b : Bool) (l : List It) (k d : Nat) (hk : k < l.length) (hd : 1 ≤ d) : (brk b l k || decide (d = (l.drop k).length)) = brk b l (k + d) := by
  have e1 : decide (k = l.length) = false := decide_eq_false (by omega)
  have e2 : decide (0 < k + d) = true := decide_eq_true (by omega)
  have e3 : decide (d = l.length - k) = decide (k + d = l.length) := by apply decide_eq_decide.2; omega
  simp [brk, e1, e2, e3]

structure Q where
  frames : Int
  most : Int
  L : List It
  broken : Bool
structure Q.ok (q : Q) : Prop where
  f1 : 1 ≤ q.frames
  f2 : q.frames ≤ 1024
  m1 : 1 ≤ q.most
  m2 : q.most ≤ 16777216
  len : (q.L.length : Int) ≤ q.frames
  sum : sumL q.L ≤ q.most
  pos : pos q.L
theorem Q.ok.drop {q : Q} (h : q.ok) (n : Nat) (b : Bool) : Q.ok ⟨q.frames, q.most, q.L.drop n, b⟩ :=
  ⟨h.f1, h.f2, h.m1, h.m2, by have := h.len; rw [List.length_drop]; show ((q.L.length - n : Nat) : Int) ≤ q.frames; omega, Int.le_trans (sumL_drop_le _ _ h.pos) h.sum, h.pos.drop n⟩
theorem Q.ok.bs {q : Q} (h : q.ok) (b : Bool) : Q.ok ⟨q.frames, q.most, q.L, b⟩ := ⟨h.f1, h.f2, h.m1, h.m2, h.len, h.sum, h.pos⟩

def full (q : Q) (x : It) (l : List It) : Bool := decide ((l.length : Int) = q.frames) || decide (q.most < sumL l + x.size)
def late (now age : Int) : List It → Bool
  | [] => false
  | y :: _ => decide (age ≤ now - y.tick)
def bad (q : Q) (x : It) : Bool := decide (x.size < 0) || decide (q.most < x.size) || (q.broken && !x.key)
def putK (q : Q) (x : It) : Nat := sh (full q x) q.L
def putB (q : Q) (x : It) : Bool := brk q.broken q.L (putK q x)
def putOk (q : Q) (x : It) : Bool := !bad q x && !(putB q x && !x.key)
def putD (q : Q) (x : It) : List It := if bad q x then [] else q.L.take (putK q x)
def putQ (q : Q) (x : It) : Q :=
  if bad q x then ⟨q.frames, q.most, q.L, true⟩
  else if putB q x && !x.key then ⟨q.frames, q.most, q.L.drop (putK q x), putB q x⟩
  else ⟨q.frames, q.most, q.L.drop (putK q x) ++ [x], false⟩
def expK (q : Q) (now age : Int) : Nat := sh (late now age) q.L
def expQ (q : Q) (now age : Int) : Q := ⟨q.frames, q.most, q.L.drop (expK q now age), brk q.broken q.L (expK q now age)⟩
def expD (q : Q) (now age : Int) : List It := q.L.take (expK q now age)
theorem full_nil {q : Q} (h : q.ok) {x : It} (hx : x.size ≤ q.most) : full q x [] = false := by
  have := h.f1
  simp [full, sumL]; omega
/-- when the loop has ended, it fits -/
theorem shed_last (P : List It → Bool) (h0 : P [] = false) : ∀ (f : Nat) (l : List It), l.length ≤ f → P (l.drop (shed P f l)) = false
  | 0, l, h => by
    have : l = [] := List.length_eq_zero_iff.1 (by omega)
    subst this; exact h0
  | f + 1, l, h => by
    rw [shed]
    split
    next hp =>
      have hne : l ≠ [] := fun e => by rw [e, h0] at hp; cases hp
      have hd := dropN_pos l
      have hl : 0 < l.length := List.length_pos_iff.2 hne
      rw [← List.drop_drop]
      exact shed_last P h0 f _ (by rw [List.length_drop]; omega)
    next hp => simpa using hp
theorem putQ_ok {q : Q} (h : q.ok) {x : It} : (putQ q x).ok := by
  unfold putQ
  split
  · exact h.bs true
  next hb =>
    simp [bad] at hb
    split
    · exact h.drop _ _
    · have h0 := full_nil h (x := x) (by omega)
      have hl := shed_last (full q x) h0 q.L.length q.L (Nat.le_refl _)
      have hle := sh_le (full q x) q.L.length q.L h0
      change full q x (q.L.drop (putK q x)) = false at hl
      change putK q x ≤ q.L.length at hle
      have hd := h.drop (putK q x) false
      have hlen := hd.len
      simp only [full, Bool.or_eq_false_iff, decide_eq_false_iff_not] at hl
      refine ⟨h.f1, h.f2, h.m1, h.m2, ?_, ?_, ?_⟩
      · simp only [List.length_append, List.length_singleton]
        simp only at hlen
        omega
      · simp only [sumL_append, sumL]
        omega
      · intro y hy
        rcases List.mem_append.1 hy with hy | hy
        · exact hd.pos y hy
        · simp at hy; subst hy; omega
end Go.Proofs.YtcppibjllaablaaGreat.que

/-
  queue.Queue in memory; slices.Clone and slices.Delete of its items; what is taken out, and dropped.
-/
namespace Go.Proofs.YtcppibjllaablaaGreat.que
open Go.RowKit mem
set_option linter.unusedVariables false

abbrev PT : TypeId := 67
abbrev ST : TypeId := 117
abbrev QT : TypeId := 170
abbrev New (w w' : World) : Prop := Turns (fun _ => False) w w'
theorem infoP : (Tryz.prog.info? PT).map (fun i => (i.zero, i.size, i.bytes)) = some (some (.agg #[.int .i64 0, .int .i64 0, .int .i64 0, .bool false]), 4, 32) := by kernel_rfl
abbrev zeroIt : Value := .agg #[.int .i64 0, .int .i64 0, .int .i64 0, .bool false]
theorem zeroV (w : World) : (zeroValue PT).run Tryz.prog w = .ok zeroIt w := by kernel_rfl

/-- a row that a call made -/
structure Fresh (T : TypeId) (w w' : World) (v : Value) (l : List It) : Prop where
  own : Owns IE T w' v l
  vb : ∀ g, v.ownBlock = some g → w.heap.size ≤ g

theorem vb_of_alloc {n : Nat} {v : Value} (h : v.ownBlock = some n ∨ v.ownBlock = some (n + 1)) {g : Nat} (hg : v.ownBlock = some g) : n ≤ g := by
  rcases h with h | h
  · rw [h] at hg; injection hg with hg; omega
  · rw [h] at hg; injection hg with hg; omega

set_option maxRecDepth 100000 in
theorem clone (v : Value) (l : List It) (w : World) (h : Sub IE 0 w v l) (hl : l.length ≤ 1048576) :
    Calls Tryz.prog 116 #[v] w fun e w' => ∃ v', e = .returned v' ∧ Fresh PT w w' v' l ∧ New w w' := by
  have q : ∀ (w : World) (a : Option Addr) (n c n' c' : Nat), (binOp .eql ST (.slice a n c) (.slice none n' c')).run Tryz.prog w = .ok (.bool a.isNone) w := fun w a n c n' c' => Lib.run_eql_slice_nil w _ _ _ _ _ _ _ Tryz.underlying117
  rcases h with ⟨rfl, rfl⟩ | h
  · go_enter Tryz.func116, Tryz.ntmps116
    go_wp2
    go_ret
    exact ⟨_, rfl, ⟨Owns.nil _ _, fun g hg => by simp [Value.ownBlock] at hg⟩, Turns.refl _ _⟩
  · obtain ⟨g, o, c, hv, h1, h2, h3, h4, h5⟩ := id h
    have HL := Lib.hid h
    subst hv
    have HO : Hid (Owns IE PT (w.alloc (.cells #[] PT)) (.slice (some ⟨w.heap.size, 0, none⟩) 0 0) []) := Lib.hid (World.ownsRow_made (size := 4) w #[] 0 (Nat.zero_le _) (Nat.zero_le _) (by simp))
    have HS : Hid (Sub IE 0 (w.alloc (.cells #[] PT)) (.slice (some ⟨g, o, none⟩) l.length c) l) := Lib.hid (Sub.turns (.inr h) ((Turns.refl (fun _ => False) _).alloc _) (fun _ _ h => h))
    have hll := Lib.hid (show ([] : List It).length + l.length ≤ 1048576 by simpa using hl)
    clear h h5
    go_enter Tryz.func116, Tryz.ntmps116
    go_wp2_with (at_builtin; refine wpList_append_sub (E := IE) Tryz.underlying117 infoP rfl (by decide) (by decide) rfl _ _ rfl _ [] l rfl HO.out _ rfl 0 HS.out hll.out ?_)
    intro v' w1 hown hgrow hat
    have N := Lib.hid ((((Turns.refl (fun _ => False) w).alloc (.cells #[] PT)).trans ((Turns.of_grown hgrow).mono (fun k _ hk => .inr (by simp [Value.ownBlock] at hk; omega)))))
    have O := Lib.hid hown
    have V : Hid (∀ g, v'.ownBlock = some g → w.heap.size ≤ g) := Lib.hid (fun g hg => vb_of_alloc hat hg)
    clear hown hgrow hat HL HO HS hll
    go_wp2
    go_ret
    exact ⟨_, rfl, ⟨O.out, V.out⟩, N.out⟩

theorem cells_of {w : World} {g cap : Nat} {T : TypeId} {l : List It} (h : Owns IE T w (.slice (some ⟨g, 0, none⟩) l.length cap) l) :
    (∀ j u, (IE.all l)[j]? = some u → w.cell? ⟨g, j, none⟩ = some u) ∧ (∀ j, w.frozen? ⟨g, j, none⟩ = false) ∧ l.length ≤ cap ∧ cap ≤ maxLen ∧ g < w.heap.size := by
  have hcs := @World.ownsRow.cells _ _ _ _ _ _ _ h
  rcases h.2 with ⟨h0, _⟩ | ⟨g', cap', cur, e, hb, hg, hc, hm, hs, ht⟩
  · cases h0
  · injection e with e1 _ e3
    injection e1 with e1
    injection e1 with e1
    subst e1 e3
    have hB : Blk w g cur T := hg
    refine ⟨fun j u hu => ?_, fun j => hB.free j, hc, hm, hB.lt⟩
    have := hcs (g := g) rfl j u hu
    rwa [show (⟨g, 0, none⟩ : Addr).add j = ⟨g, j, none⟩ by unfold Addr.add; split <;> simp_all] at this

theorem isSome_cells (b : Nat) : ∀ (vs : List Value) (o : Nat) (w : World) (q : Addr), (w.cell? q).isSome = true → ((w.setCells b o vs).cell? q).isSome = true
  | [], _, _, _, h => h
  | v :: vs, o, w, q, h => by
    rw [World.setCells]
    refine isSome_cells b vs (o + 1) _ q ?_
    by_cases e : q = ⟨b, o, none⟩
    · subst e
      obtain ⟨u, hu⟩ := Option.isSome_iff_exists.1 h
      rw [World.cell?_setCell_same' _ _ _ h]; rfl
    · rw [World.cell?_setCell_other _ _ _ _ (fun h => e h.symm)]; exact h

set_option maxRecDepth 100000 in
set_option maxHeartbeats 1000000 in
theorem delete (v : Value) (l : List It) (n : Nat) (w : World) (h : Owns IE PT w v l) (hn : n ≤ l.length) (hl : l.length ≤ 1048576) :
    Calls Tryz.prog 117 #[v, .int .i64 0, .int .i64 n] w fun e w' => ∃ v', e = .returned v' ∧ Owns IE PT w' v' (l.drop n) ∧ Turns (fun k => v.ownBlock = some k) w w' ∧ v'.ownBlock = v.ownBlock := by
  have hform : (v = .slice none 0 0 ∧ l = []) ∨ ∃ g cap, v = .slice (some ⟨g, 0, none⟩) l.length cap := by
    rcases h.2 with ⟨e, h0⟩ | ⟨g, cap, cur, e, _⟩
    · exact .inl ⟨e, List.length_eq_zero_iff.1 h0⟩
    · exact .inr ⟨g, cap, e⟩
  rcases hform with ⟨rfl, rfl⟩ | ⟨g, cap, rfl⟩
  · have : n = 0 := by simpa using hn
    subst this
    have HO := Lib.hid h
    clear h hl hn
    go_enter Tryz.func117, Tryz.ntmps117
    go_wp2
    go_ret
    exact ⟨_, rfl, HO.out, Turns.refl _ _, rfl⟩
  · obtain ⟨hcell, hfree, hc, hm, hg⟩ := cells_of h
    have hlm : l.length ≤ maxLen := by unfold maxLen; omega
    have hm' : cap ≤ 9223372036854775807 := by unfold maxLen at hm; omega
    by_cases h0 : n = 0
    · subst h0
      have HO := Lib.hid h
      clear h hcell hfree hg hl
      go_enter Tryz.func117, Tryz.ntmps117
      go_wp2
      all_goals
        go_ret
        exact ⟨_, rfl, HO.out, Turns.refl _ _, rfl⟩
    · have hn0 : 0 < n := by omega
      obtain ⟨news, hnews⟩ : ∃ news, news = IE.all (l.drop n) := ⟨_, rfl⟩
      have hnl : news.length = (l.length - n) * 4 := by rw [hnews, IE.all_length, List.length_drop]; rfl
      obtain ⟨A, hA, hsrc⟩ : ∃ A : Addr, (if cap = n then some (⟨g, 0, none⟩ : Addr) else some ⟨g, n * 4, none⟩) = some A ∧ Hid (∀ t u, news[t]? = some u → w.drew.cell? (A.add t) = some u) := by
        by_cases hcn : cap = n
        · refine ⟨⟨g, 0, none⟩, by simp [hcn], Lib.hid fun t u hu => ?_⟩
          have : news = [] := List.length_eq_zero_iff.1 (by rw [hnl]; omega)
          rw [this] at hu
          simp at hu
        · refine ⟨⟨g, n * 4, none⟩, by simp [hcn], Lib.hid fun t u hu => ?_⟩
          rw [hnews, IE.all_drop, List.getElem?_drop] at hu
          have := hcell _ u hu
          rw [Addr.add_lit]
          exact this
      have s1 : Hid (news.length = (l.length - n) * 4) := Lib.hid hnl
      have s2 : Hid (∀ u ∈ news, u.oneCell' = true) := Lib.hid (by rw [hnews]; exact IE.all_cell _)
      have hall : (IE.all l).length = l.length * 4 := IE.all_length l
      have hsome : ∀ j, j < l.length * 4 → (w.cell? ⟨g, j, none⟩).isSome = true := fun j hj => by
        rw [hcell j _ (List.getElem?_eq_getElem (by rw [hall]; exact hj))]; rfl
      have s3 : Hid (∀ t, t < news.length → (w.drew.cell? ⟨g, 0 + 0 * 4 + t, none⟩).isSome = true ∧ w.drew.frozen? ⟨g, 0 + 0 * 4 + t, none⟩ = false) := Lib.hid (by
        intro t ht
        rw [hnl] at ht
        rw [show 0 + 0 * 4 + t = t by omega]
        exact ⟨hsome t (by omega), hfree t⟩)
      obtain ⟨W1, hW1⟩ : ∃ W1, W1 = w.drew.setCells g (0 + 0 * 4) news := ⟨_, rfl⟩
      have hcl : ∀ ty, (Builtin.clear_ #[ST] ty #[.slice (some ⟨g, (l.length - n) * 4, none⟩) (l.length - (l.length - n)) (cap - (l.length - n))]).run Tryz.prog W1 = .ok (.tuple #[]) (W1.setCells g ((l.length - n) * 4) (zerosOf zeroIt (l.length - (l.length - n)))) := by
        intro ty
        have e : l.length - (l.length - n) = n := by omega
        refine run_clear (E := IE) W1 ST PT ty zeroIt Tryz.underlying117 zeroV rfl (by decide) (by decide) g _ _ _ (by omega) (fun j hj => ?_) (fun j hj => ?_)
        · rw [hW1]
          refine isSome_cells g _ _ _ _ (hsome _ ?_)
          change j < (l.length - (l.length - n)) * 4 at hj
          omega
        · rw [hW1, World.frozen?_setCells]
          exact hfree _
      have hcut := Lib.hid (Owns.cut (E := IE) (T := PT) (w := w.drew) (l := l) h n hn (zerosOf zeroIt (l.length - (l.length - n))) (by rw [zerosOf_length]; show (l.length - (l.length - n)) * 4 = n * 4; omega))
      have hW := Lib.hid hW1
      have hN := Lib.hid hnews
      have hnc : n ≤ cap := by omega
      have hdc : l.length - n ≤ cap := by omega
      clear hW1 hnews hnl hcell hfree hall hsome h hg
      go_enter Tryz.func117, Tryz.ntmps117
      go_wp2_with fail
      go_region_law (refine step_append_room rfl (.tmp 22) (.tmp 25) ST rfl PT (infoOf infoP).choose 4 Tryz.underlying117 (infoOf infoP).choose_spec.1 (infoOf infoP).choose_spec.2.2.1 g 0 0 cap (by simp [Act.eval, Act.put]) A (l.length - n) (cap - n) news (by simp [Act.eval, Act.put]) s1.out hsrc.out s2.out (by omega) s3.out ?_; rw [← hW.out])
      go_wp2
      go_ret
      refine ⟨_, rfl, ?_, ?_, rfl⟩
      · have hc2 := hcut.out
        rw [← hN.out] at hc2
        rw [hW.out]
        exact hc2
      · rw [hW.out]
        exact Turns.setCells (S := fun k => (Value.slice (some ⟨g, 0, none⟩) l.length cap).ownBlock = some k) (.inl rfl) _ _ _ (Turns.setCells (S := fun k => (Value.slice (some ⟨g, 0, none⟩) l.length cap).ownBlock = some k) (.inl rfl) _ _ _ (Turns.refl _ _).drew)
end Go.Proofs.YtcppibjllaablaaGreat.que

/-
  queue.Queue in memory: what is taken out, and dropped; the calls that only read.
-/
namespace Go.Proofs.YtcppibjllaablaaGreat.que
open Go.RowKit mem
set_option linter.unusedVariables false

abbrev QB : TypeId := 170
abbrev cellsR (f m : Int) (pv : Value) (sz : Int) (b : Bool) : Array Value := #[.int .i64 f, .int .i64 m, pv, .int .i64 sz, .bool b]

/-- a queue in block p, its items in pv -/
structure Qs (w : World) (p : Nat) (pv : Value) (q : Q) : Prop where
  blk : Blk w p (cellsR q.frames q.most pv (sumL q.L) q.broken) QB
  own : Owns IE PT w pv q.L
  ne : pv.ownBlock ≠ some p
  ok : q.ok
/-- what a call may turn -/
def Foot (p : Nat) (pv : Value) (k : Nat) : Prop := k = p ∨ pv.ownBlock = some k
section
variable {w w' : World} {p : Nat} {pv : Value} {q : Q} (h : Qs w p pv q)
include h
theorem Qs.lt : p < w.heap.size := h.blk.lt
theorem Qs.vlt : ∀ g, pv.ownBlock = some g → g < w.heap.size := h.own.lt
theorem Qs.turns {S : Nat → Prop} (ht : Turns S w w') (hp : ¬ S p) (hv : ∀ g, pv.ownBlock = some g → ¬ S g) : Qs w' p pv q := ⟨ht.blk h.blk hp, h.own.turns ht hv, h.ne, h.ok⟩
theorem Qs.later (ht : New w w') : Qs w' p pv q := h.turns ht (fun h => h) (fun _ _ h => h)
theorem Qs.drewN (n : Nat) : Qs (w.drewN n) p pv q := ⟨h.blk, h.own, h.ne, h.ok⟩
theorem Qs.form : ∃ ao c, pv = .slice ao q.L.length c ∧ q.L.length ≤ c := by
  obtain ⟨ao, c, e, hc, _⟩ := h.own.form
  exact ⟨ao, c, e, hc⟩
theorem Qs.small : q.L.length ≤ 1024 := by have := h.ok.len; have := h.ok.f2; omega
end

theorem len (p : Nat) (pv : Value) (q : Q) (w : World) (h : Qs w p pv q) :
    Calls Tryz.prog 33 #[.pointer (some ⟨p, 0, none⟩)] w fun e w' => e = .returned (.int .i64 q.L.length) ∧ w' = w := by
  obtain ⟨ao, c, rfl, _⟩ := h.form
  have c2 := h.blk.cell 2
  clear h
  go_enter Tryz.func33, Tryz.ntmps33
  go_wp2
  go_ret
  exact ⟨rfl, rfl⟩
theorem size (p : Nat) (pv : Value) (q : Q) (w : World) (h : Qs w p pv q) :
    Calls Tryz.prog 34 #[.pointer (some ⟨p, 0, none⟩)] w fun e w' => e = .returned (.int .i64 (sumL q.L)) ∧ w' = w := by
  have c3 := h.blk.cell 3
  clear h
  go_enter Tryz.func34, Tryz.ntmps34
  go_wp2
  go_ret
  exact ⟨rfl, rfl⟩

def fresh (frames most : Int) : Q := ⟨frames, most, [], true⟩
theorem new_bad (frames most : Int) (w : World) (h : frames < 1 ∨ (1 ≤ frames ∧ 1024 < frames) ∨ (1 ≤ frames ∧ frames ≤ 1024 ∧ most < 1) ∨ (1 ≤ frames ∧ frames ≤ 1024 ∧ 1 ≤ most ∧ 16777216 < most)) :
    Calls Tryz.prog 37 #[.int .i64 frames, .int .i64 most] w fun e w' => e = .returned (.tuple #[.pointer none, .int .i64 5]) ∧ w = w' := by
  rcases h with h1 | ⟨h1, h2⟩ | ⟨h1, h2, h3⟩ | ⟨h1, h2, h3, h4⟩
  all_goals
    go_enter Tryz.func37, Tryz.ntmps37
    go_wp2
    go_ret2
    exact ⟨rfl, rfl⟩
theorem new (frames most : Int) (w : World) (f1 : 1 ≤ frames) (f2 : frames ≤ 1024) (m1 : 1 ≤ most) (m2 : most ≤ 16777216) :
    Calls Tryz.prog 37 #[.int .i64 frames, .int .i64 most] w fun e w' => e = .returned (.tuple #[.pointer (some ⟨w.heap.size, 0, none⟩), .int .i64 0]) ∧ Qs w' w.heap.size (.slice none 0 0) (fresh frames most) ∧ New w w' := by
  have hb : Qs (w.alloc (.cells (cellsR frames most (.slice none 0 0) 0 true) QB)) w.heap.size (.slice none 0 0) (fresh frames most) :=
    ⟨Blk.new _ _ _, Owns.nil _ _, by simp [Value.ownBlock], ⟨f1, f2, m1, m2, by show (0 : Int) ≤ frames; omega, by show (0 : Int) ≤ most; omega, fun x hx => by cases hx⟩⟩
  have hn : New w (w.alloc (.cells (cellsR frames most (.slice none 0 0) 0 true) QB)) := (Turns.refl _ _).alloc _
  have HB := Lib.hid (And.intro hb hn)
  clear hb hn
  have h1 : ¬ frames < 1 := by omega
  have h2 : ¬ 1024 < frames := by omega
  have h3 : ¬ most < 1 := by omega
  have h4 : ¬ 16777216 < most := by omega
  go_enter Tryz.func37, Tryz.ntmps37
  go_wp2
  go_ret2
  exact ⟨rfl, HB.out⟩
end Go.Proofs.YtcppibjllaablaaGreat.que

/-
  queue.Queue in memory: the first items are taken out; the first one is dropped.
-/
namespace Go.Proofs.YtcppibjllaablaaGreat.que
open Go.RowKit mem
set_option linter.unusedVariables false

/-- items are taken out: v holds them -/
structure Gone (w w' : World) (p : Nat) (pv : Value) (q : Q) (v : Value) (D : List It) : Prop where
  fr : Fresh PT w w' v D
  qs : ∃ pv', Qs w' p pv' q ∧ pv'.ownBlock = pv.ownBlock
  turns : Turns (Foot p pv) w w'

theorem Owns.cases {w : World} {v : Value} {l : List It} (h : Owns IE PT w v l) : (v = .slice none 0 0 ∧ l = []) ∨ ∃ g cap, v = .slice (some ⟨g, 0, none⟩) l.length cap ∧ l.length ≤ cap ∧ cap ≤ maxLen := by
  rcases h.2 with ⟨e, h0⟩ | ⟨g, cap, cur, e, hb, hg, hc, hm, _⟩
  · exact .inl ⟨e, List.length_eq_zero_iff.1 h0⟩
  · exact .inr ⟨g, cap, e, hc, hm⟩
theorem Owns.head {w : World} {g cap : Nat} {l : List It} (h : Owns IE PT w (.slice (some ⟨g, 0, none⟩) l.length cap) l) (n : Nat) (hn : n ≤ l.length) : Sub IE 0 w (.slice (some ⟨g, 0, none⟩) n cap) (l.take n) := by
  rcases h.sub 0 (fun _ _ => Nat.zero_le _) with ⟨h, _⟩ | h
  · cases h
  · exact .inr (h.take n hn)

set_option maxHeartbeats 1000000 in
theorem remove (p : Nat) (pv : Value) (q : Q) (n : Nat) (w : World) (h : Qs w p pv q) (hn : n ≤ q.L.length) :
    Calls Tryz.prog 78 #[.pointer (some ⟨p, 0, none⟩), .int .i64 n] w fun e w' => ∃ v, e = .returned v ∧ Gone w w' p pv ⟨q.frames, q.most, q.L.drop n, q.broken⟩ v (q.L.take n) := by
  have hsm := h.small
  have hcl : Hid (∀ v w', Sub IE 0 w' v (q.L.take n) → _) := Lib.hid (fun v w' hs => clone v (q.L.take n) w' hs (by rw [List.length_take]; omega))
  have hdl : Hid (∀ w', Owns IE PT w' pv q.L → _) := Lib.hid (fun w' hs => delete pv q.L n w' hs hn (by omega))
  have hform := Owns.cases h.own
  have HS : Hid (∃ ao c, pv = .slice ao q.L.length c ∧ q.L.length ≤ c ∧ Sub IE 0 w (.slice ao n c) (q.L.take n)) := by
    rcases hform with ⟨e, e2⟩ | ⟨g, cap, e, hc, hm⟩
    · have hn0 : n = 0 := by rw [e2] at hn; simpa using hn
      refine Lib.hid ⟨none, 0, by rw [e, e2]; rfl, by rw [e2]; exact Nat.le_refl _, .inl ⟨by rw [hn0], by rw [hn0]; rfl⟩⟩
    · have ho := h.own
      rw [e] at ho
      exact Lib.hid ⟨_, cap, e, hc, Owns.head ho n hn⟩
  clear hform
  obtain ⟨ao, c, hpv, hc, hsub⟩ := HS.out
  have c2 := h.blk.cell 2
  rw [hpv] at c2
  have HQ := Lib.hid h
  have HSB := Lib.hid hsub
  have HPV := Lib.hid hpv
  have hnc : n ≤ c := by omega
  have hnm : n ≤ maxLen := by unfold maxLen; omega
  clear h hsub hpv HS
  go_enter Tryz.func78, Tryz.ntmps78
  go_wp2_with fail
  refine (hcl.out _ _ HSB.out).mono ?_
  rintro e w1 ⟨v1, rfl, fr1, n1⟩
  have hq1 := HQ.out.later n1
  have d2 := hq1.blk.cell 2
  rw [HPV.out] at d2
  have H1 := Lib.hid (And.intro fr1 (And.intro n1 hq1))
  clear fr1 n1 hq1 c2
  go_wp2_with fail
  rw [← HPV.out]
  refine (hdl.out _ H1.out.2.2.own).mono ?_
  rintro e w2 ⟨v2, rfl, ho2, t2, hb2⟩
  obtain ⟨fr1, n1, hq1⟩ := H1.out
  have hne2 : v2.ownBlock ≠ some p := by rw [hb2]; exact HQ.out.ne
  have bl2 := t2.blk hq1.blk (fun e => HQ.out.ne e)
  have hv1 : ∀ g, v1.ownBlock = some g → g ≠ p ∧ pv.ownBlock ≠ some g := fun g hg => ⟨fun e => by have := fr1.vb g hg; have := HQ.out.lt; omega, fun e => by have := fr1.vb g hg; have := HQ.out.vlt g e; omega⟩
  have ho1 := fr1.own.turns t2 (fun g hg => (hv1 g hg).2)
  have tt2 : Turns (Foot p pv) w w2 := (n1.mono (fun _ _ h => h.elim)).trans (t2.mono (fun k _ hk => .inl (.inr hk)))
  have H2 := Lib.hid (And.intro ho1 (And.intro ho2 (And.intro hb2 tt2)))
  have HV1 := Lib.hid (And.intro hv1 fr1.vb)
  have e2 := bl2.cell 2
  have f2 := bl2.free 2
  rw [HPV.out] at e2
  have HB2 := Lib.hid bl2
  obtain ⟨a2, cc2, hv2, _⟩ := ho2.form
  rw [List.length_drop] at hv2
  clear H1 fr1 n1 hq1 d2 ho1 ho2 hb2 tt2 t2 hv1 bl2
  subst hv2
  go_upto_region 3 with fail
  refine (show Code.wp _ _ _ _ (w2.setCell ⟨p, 2, none⟩ (.slice a2 (q.L.length - n) cc2)) from ?_)
  generalize Value.slice a2 (q.L.length - n) cc2 = v2 at *
  have HB3 : Hid (Blk (w2.setCell ⟨p, 2, none⟩ v2) p (cellsR q.frames q.most v2 (sumL q.L) q.broken) QB) := Lib.hid (HB2.out.set 2 v2)
  have t3 : Turns (· = p) w2 (w2.setCell ⟨p, 2, none⟩ v2) := (Turns.refl (· = p) _).setCell (.inl rfl) _
  have H3 : Hid (Owns IE PT (w2.setCell ⟨p, 2, none⟩ v2) v1 (q.L.take n) ∧ Owns IE PT (w2.setCell ⟨p, 2, none⟩ v2) v2 (q.L.drop n) ∧ v2.ownBlock = pv.ownBlock ∧ Turns (Foot p pv) w (w2.setCell ⟨p, 2, none⟩ v2)) :=
    Lib.hid ⟨H2.out.1.turns t3 (fun g hg e => (HV1.out.1 g hg).1 e), H2.out.2.1.turns t3 (fun g hg e => hne2 (by rw [hg, e])), H2.out.2.2.1, H2.out.2.2.2.trans (t3.mono (fun k _ hk => .inl (.inl hk)))⟩
  clear H2 HB2 e2 f2 t3
  generalize w2.setCell ⟨p, 2, none⟩ v2 = w3 at *
  have hlT : (q.L.take n).length = n := by rw [List.length_take]; omega
  obtain ⟨ao1, c1, hv1, hc1, hrd1, hbk1⟩ := H3.out.1.form
  rw [hlT] at hv1 hc1
  have hlt3 := HB3.out.lt
  have HRD := Lib.hid hrd1
  have HBK := Lib.hid hbk1
  have HV := Lib.hid hv1
  clear hrd1 hbk1
  subst hv1
  go_wp2_with fail
  go_loopw [26] (fun i wr => ∃ k : Nat, k ≤ n ∧ i = .int .i64 k ∧ Blk wr p (cellsR q.frames q.most v2 (sumL q.L - sumL (q.L.take k)) q.broken) QB ∧ Turns (· = p) w3 wr) (fun i _ => n - (intOf i).toNat)
  case atStart => exact ⟨0, Nat.zero_le _, rfl, by rw [List.take_zero]; show Blk w3 p (cellsR _ _ _ (sumL q.L - 0) _) QB; rw [Int.sub_zero]; exact HB3.out, Turns.refl _ _⟩
  case round =>
    obtain ⟨k, hk, rfl, hblk, hts⟩ := hrel
    by_cases hlt : k < n
    · obtain ⟨x, hx⟩ : ∃ x, q.L[k]? = some x := ⟨_, List.getElem?_eq_getElem (by omega)⟩
      have hxT : (q.L.take n)[k]? = some x := by rw [List.getElem?_take, if_pos hlt]; exact hx
      rcases HRD.out with h0 | ⟨g, hg, hgl, hcell⟩
      · rw [h0] at hxT; simp at hxT
      · subst hg
        have hgp : g ≠ p := (HV1.out.1 g rfl).1
        have hrow := fun (j : Nat) (u : Value) (hu : (IE.cs x)[j]? = some u) => (hts.cell (a := ⟨g, k * 4 + j, none⟩) hgl hgp).trans (hcell k x hxT j u hu)
        have r0 : wr.cell? ⟨g, k * 4, none⟩ = _ := hrow 0 _ rfl
        have r1 := hrow 1 _ rfl
        have r2 := hrow 2 _ rfl
        have r3 := hrow 3 _ rfl
        have hsum := sumL_at q.L k x hx
        have hp0 := HQ.out.ok.pos x (List.mem_of_getElem? hx)
        have hs1 := sumL_take_le q.L (k + 1) HQ.out.ok.pos
        have hs0 := sumL_pos _ (HQ.out.ok.pos.take k)
        have hsS := HQ.out.ok.sum
        have hsM := HQ.out.ok.m2
        rw [hsum] at hs1
        have HSUM := Lib.hid hsum
        obtain ⟨xn, xs, xt, xk⟩ := x
        dsimp only at *
        have e0 : Hid (sumL q.L - sumL (q.L.take k) - xs = sumL q.L - sumL (q.L.take (k + 1))) := Lib.hid (by rw [HSUM.out]; omega)
        have b0 : 0 ≤ sumL q.L - sumL (q.L.take k) - xs := by omega
        have b1 : sumL q.L - sumL (q.L.take k) ≤ 16777216 := by omega
        clear hrow hcell hxT hx hsum hs1 hs0 hsS hsM
        generalize sumL q.L - sumL (q.L.take k) = sz at *
        have HH := Lib.hid (And.intro hblk hts)
        have hpl := hblk.lt
        clear hblk hts
        go_upto_region 6 with fail
        refine (show Code.wp _ _ _ _ (wr.alloc (.cells #[.int .i64 xn, .int .i64 xs, .int .i64 xt, .bool xk] PT)) from ?_)
        have hb4 : Blk (wr.alloc (.cells #[.int .i64 xn, .int .i64 xs, .int .i64 xt, .bool xk] PT)) p (cellsR q.frames q.most v2 sz q.broken) QB := HH.out.1.alloc _
        have hx4 : Blk (wr.alloc (.cells #[.int .i64 xn, .int .i64 xs, .int .i64 xt, .bool xk] PT)) wr.heap.size #[.int .i64 xn, .int .i64 xs, .int .i64 xt, .bool xk] PT := Blk.new _ _ _
        have ht4 : Turns (· = p) w3 (wr.alloc (.cells #[.int .i64 xn, .int .i64 xs, .int .i64 xt, .bool xk] PT)) := HH.out.2.alloc _
        clear HH r0 r1 r2 r3
        generalize wr.alloc (.cells #[.int .i64 xn, .int .i64 xs, .int .i64 xt, .bool xk] PT) = w4 at *
        generalize wr.heap.size = px at *
        have c3 := hb4.cell 3
        have f3 := hb4.free 3
        have x1 := hx4.cell 1
        have H4 := Lib.hid (And.intro hb4 ht4)
        clear hb4 ht4 hx4
        go_region
        go_wp2_with fail
        go_roundw
        case rel => exact ⟨k + 1, by omega, by go_num, by rw [← e0.out]; exact H4.out.1.set 3 _, (H4.out.2.setCell (p := ⟨p, 3, none⟩) (.inl rfl) _).drew⟩
        case measure => simp [intOf]; omega
    · obtain rfl : k = n := by omega
      have hs : sumL q.L - sumL (q.L.take k) = sumL (q.L.drop k) := by have := sumL_cut q.L k; omega
      rw [hs] at hblk
      have HE : Hid (Gone w wr p pv ⟨q.frames, q.most, q.L.drop k, q.broken⟩ (.slice ao1 k c1) (q.L.take k)) := Lib.hid
        ⟨⟨H3.out.1.turns hts (fun g hg e => (HV1.out.1 g hg).1 e), HV1.out.2⟩, ⟨v2, ⟨hblk, H3.out.2.1.turns hts (fun g hg e => hne2 (by rw [hg, e])), hne2, HQ.out.ok.drop k _⟩, H3.out.2.2.1⟩, H3.out.2.2.2.trans (hts.mono (fun i _ hi => .inl (.inl hi)))⟩
      clear hblk hts hs
      go_wp2
      go_ret
      exact ⟨_, rfl, HE.out⟩

theorem Owns.cast {T : TypeId} {w : World} {v : Value} {l m : List It} (h : Owns IE T w v l) (e : l = m) : Owns IE T w v m := e ▸ h

/-- the first one is dropped -/
def dropQ (q : Q) : Q := ⟨q.frames, q.most, q.L.drop (dropN q.L), q.broken || decide (dropN q.L = q.L.length)⟩
set_option maxHeartbeats 1000000 in
theorem drop (p : Nat) (pv : Value) (q : Q) (w : World) (h : Qs w p pv q) (hne : q.L ≠ []) :
    Calls Tryz.prog 81 #[.pointer (some ⟨p, 0, none⟩)] w fun e w' => ∃ v, e = .returned v ∧ Gone w w' p pv (dropQ q) v (q.L.take (dropN q.L)) := by
  have hsm := h.small
  have hd1 := dropN_pos q.L
  have hdl := dropN_le q.L hne
  obtain ⟨ao, c, hpv, hc, hrd, _⟩ := h.own.form
  have HQ := Lib.hid h
  have HPV := Lib.hid hpv
  have HRD := Lib.hid hrd
  have c2 := h.blk.cell 2
  rw [hpv] at c2
  have hlm : q.L.length ≤ maxLen := by unfold maxLen; omega
  have HNE := Lib.hid hne
  clear h hrd hpv hne
  go_enter Tryz.func81, Tryz.ntmps81
  go_wp2_with fail
  go_loopw [3] (fun i wr => ∃ k : Nat, 1 ≤ k ∧ k ≤ q.L.length ∧ i = .int .i64 k ∧ wr = w ∧ k + runL (q.L.drop k) = dropN q.L) (fun i _ => q.L.length - (intOf i).toNat)
  case atStart => exact ⟨1, Nat.le_refl 1, by omega, rfl, rfl, rfl⟩
  case round =>
    obtain ⟨k, hk1, hk, rfl, rfl, hrun⟩ := hrel
    have HRUN := Lib.hid hrun
    clear hrun
    by_cases hlt : k < q.L.length
    · obtain ⟨x, hx⟩ : ∃ x, q.L[k]? = some x := ⟨_, List.getElem?_eq_getElem (by omega)⟩
      rcases HRD.out with h0 | ⟨g, hg, hgl, hcell⟩
      · exact absurd h0 HNE.out
      · subst hg
        have r3 : wr.cell? ⟨g, k * 4 + 3, none⟩ = some (.bool x.key) := hcell k x hx 3 _ rfl
        have HAT := Lib.hid (runL_at q.L k x hx)
        clear hcell hx
        obtain ⟨xn, xs, xt, xk⟩ := x
        dsimp only at *
        cases xk with
        | false =>
          go_wp2_with fail
          go_roundw
          case rel => exact ⟨k + 1, by omega, by omega, by go_num, trivial, by have := HRUN.out; rw [HAT.out] at this; simp at this; omega⟩
          case measure => simp [intOf]; omega
        | true =>
          have hkd : k = dropN q.L := by have := HRUN.out; rw [HAT.out] at this; simpa using this
          have hkl : ((k : Int) == (q.L.length : Int)) = false := by simp; omega
          have e : decide (dropN q.L = q.L.length) = false := decide_eq_false (by omega)
          have hq : dropQ q = ⟨q.frames, q.most, q.L.drop k, q.broken⟩ := by unfold dropQ; rw [e, Bool.or_false, ← hkd]
          have HG := Lib.hid (remove p pv q k wr HQ.out hk)
          have HE := Lib.hid hq
          have HKD := Lib.hid hkd
          clear hkd hq e hd1 hdl
          go_wp2_with fail
          refine HG.out.mono ?_
          rintro e w' ⟨v, rfl, hg⟩
          go_wp2
          go_ret
          exact ⟨_, rfl, by rw [HE.out, ← HKD.out]; exact hg⟩
    · obtain rfl : k = q.L.length := by omega
      have hkd : q.L.length = dropN q.L := by have := HRUN.out; rw [runL_end q.L _ (Nat.le_refl _)] at this; simpa using this
      have e : decide (dropN q.L = q.L.length) = true := decide_eq_true hkd.symm
      have hq : dropQ q = ⟨q.frames, q.most, q.L.drop q.L.length, true⟩ := by unfold dropQ; rw [e, Bool.or_true, ← hkd]
      have c4 := HQ.out.blk.cell 4
      have f4 := HQ.out.blk.free 4
      have tt : Turns (· = p) wr (wr.setCell ⟨p, 4, none⟩ (.bool true)) := (Turns.refl (· = p) _).setCell (.inl rfl) _
      have h2 : Qs (wr.setCell ⟨p, 4, none⟩ (.bool true)) p pv ⟨q.frames, q.most, q.L, true⟩ := ⟨HQ.out.blk.set 4 _, HQ.out.own.turns tt (fun g hg e => HQ.out.ne (by rw [hg, e])), HQ.out.ne, HQ.out.ok.bs true⟩
      have HG := Lib.hid (remove p pv _ q.L.length _ h2 (Nat.le_refl _))
      have HT := Lib.hid tt
      have HE := Lib.hid hq
      have HKD := Lib.hid hkd
      clear hkd hq e hd1 hdl h2 tt
      go_wp2_with fail
      refine HG.out.mono ?_
      rintro e w2 ⟨v, rfl, hg⟩
      have HH : Hid (Gone wr w2 p pv (dropQ q) v (q.L.take (dropN q.L))) := Lib.hid ⟨⟨Owns.cast hg.fr.own (by rw [← HKD.out]), fun g hgv => Nat.le_trans HT.out.size (hg.fr.vb g hgv)⟩, by rw [HE.out]; exact hg.qs, HT.out.mono (fun i _ hi => .inl hi) |>.trans (hg.turns.mono (fun _ _ hk => .inl hk))⟩
      clear hg HT HG
      go_wp2
      go_ret
      exact ⟨_, rfl, HH.out⟩
end Go.Proofs.YtcppibjllaablaaGreat.que

/-
  queue.Queue in memory: First, Pop, Break, refuses, Expire.
-/
namespace Go.Proofs.YtcppibjllaablaaGreat.que
open Go.RowKit mem
set_option linter.unusedVariables false

def It.v (x : It) : Value := .agg #[.int .i64 x.n, .int .i64 x.size, .int .i64 x.tick, .bool x.key]
theorem four {w : World} {p : Nat} {a b c d : Value} {T : TypeId} (h : Blk w p #[a, b, c, d] T) :
    (w.cell? ⟨p, 0, none⟩ = some a ∧ w.cell? ⟨p, 1, none⟩ = some b ∧ w.cell? ⟨p, 2, none⟩ = some c ∧ w.cell? ⟨p, 3, none⟩ = some d) ∧ w.frozen? ⟨p, 0, none⟩ = false ∧ w.frozen? ⟨p, 1, none⟩ = false ∧ w.frozen? ⟨p, 2, none⟩ = false ∧ w.frozen? ⟨p, 3, none⟩ = false :=
  ⟨⟨h.cell 0, h.cell 1, h.cell 2, h.cell 3⟩, h.free 0, h.free 1, h.free 2, h.free 3⟩
abbrev zcs : List Value := [.int .i64 0, .int .i64 0, .int .i64 0, .bool false]

/-- an item is stored into the block that holds the answer -/
theorem made4 {S : Nat → Prop} {w w1 : World} {pr : Nat} {T : TypeId} (hb : Blk w1 pr zcs.toArray T) (ht : Turns S w w1) (hp : w.heap.size ≤ pr) (x : List Value) (hx : x.length = 4) : Blk (puts w1 pr 0 x) pr x.toArray T ∧ Turns S w (puts w1 pr 0 x) :=
  ⟨puts_blk zcs x hb hx, puts_turns (.inr hp) _ 0 _ ht⟩

set_option maxHeartbeats 400000 in
theorem first_nil (p : Nat) (pv : Value) (q : Q) (w : World) (h : Qs w p pv q) (hL : q.L = []) :
    Calls Tryz.prog 30 #[.pointer (some ⟨p, 0, none⟩)] w fun e w' => e = .returned (.tuple #[zeroIt, .bool false]) ∧ New w w' := by
  obtain ⟨ao, c, hpv, hc⟩ := h.form
  have c2 := (h.blk.alloc (.cells #[.int .i64 0, .int .i64 0, .int .i64 0, .bool false] PT)).cell 2
  rw [hpv, hL] at c2
  have hb : Blk (w.alloc (.cells #[.int .i64 0, .int .i64 0, .int .i64 0, .bool false] PT)) w.heap.size zcs.toArray PT := Blk.new _ _ _
  have HM := Lib.hid (made4 (S := fun _ => False) hb ((Turns.refl _ _).alloc _) (Nat.le_refl _) zcs rfl)
  obtain ⟨⟨x0, x1, x2, x3⟩, y0, y1, y2, y3⟩ := four hb
  clear h hpv hc hb
  go_enter Tryz.func30, Tryz.ntmps30
  go_upto_region 1 with fail
  refine (show Code.wp _ _ _ _ (w.alloc (.cells #[.int .i64 0, .int .i64 0, .int .i64 0, .bool false] PT)) from ?_)
  generalize w.alloc (.cells #[.int .i64 0, .int .i64 0, .int .i64 0, .bool false] PT) = w1 at *
  generalize w.heap.size = pr at *
  go_wp2_with fail
  refine (show bodyPost _ _ _ _ _ (puts w1 pr 0 zcs) from ?_)
  clear x0 x1 x2 x3 y0 y1 y2 y3 c2
  generalize puts w1 pr 0 zcs = w9 at *
  obtain ⟨g0, g1, g2, g3⟩ := (four HM.out.1).1
  refine bodyPost_ret (v := .tuple #[zeroIt, .bool false]) (by simp [results, Tryz.results30, go_sem, g0, g1, g2, g3]) rfl ⟨rfl, HM.out.2⟩

set_option maxHeartbeats 400000 in
theorem first_cons (p : Nat) (pv : Value) (q : Q) (x : It) (w : World) (h : Qs w p pv q) (hx : q.L[0]? = some x) :
    Calls Tryz.prog 30 #[.pointer (some ⟨p, 0, none⟩)] w fun e w' => e = .returned (.tuple #[x.v, .bool true]) ∧ New w w' := by
  obtain ⟨ao, c, hpv, hc, hrd, _⟩ := h.own.form
  have hlt : 0 < q.L.length := (List.getElem?_eq_some_iff.1 hx).1
  have hsm := h.small
  have hlm : q.L.length ≤ maxLen := by unfold maxLen; omega
  rcases hrd with h0 | ⟨g, hg, hgl, hcell⟩
  · rw [h0] at hlt; simp at hlt
  subst hg
  have ht : New w (w.alloc (.cells #[.int .i64 0, .int .i64 0, .int .i64 0, .bool false] PT)) := (Turns.refl _ _).alloc _
  have c2 := (h.blk.alloc (.cells #[.int .i64 0, .int .i64 0, .int .i64 0, .bool false] PT)).cell 2
  rw [hpv] at c2
  have hrow := fun (j : Nat) (u : Value) (hu : (IE.cs x)[j]? = some u) => (ht.cell (a := ⟨g, 0 * 4 + j, none⟩) hgl (fun h => h)).trans (hcell 0 x hx j u hu)
  have r0 : (w.alloc (.cells #[.int .i64 0, .int .i64 0, .int .i64 0, .bool false] PT)).cell? ⟨g, 0, none⟩ = _ := hrow 0 _ rfl
  have r1 : (w.alloc (.cells #[.int .i64 0, .int .i64 0, .int .i64 0, .bool false] PT)).cell? ⟨g, 1, none⟩ = _ := hrow 1 _ rfl
  have r2 : (w.alloc (.cells #[.int .i64 0, .int .i64 0, .int .i64 0, .bool false] PT)).cell? ⟨g, 2, none⟩ = _ := hrow 2 _ rfl
  have r3 : (w.alloc (.cells #[.int .i64 0, .int .i64 0, .int .i64 0, .bool false] PT)).cell? ⟨g, 3, none⟩ = _ := hrow 3 _ rfl
  have hb : Blk (w.alloc (.cells #[.int .i64 0, .int .i64 0, .int .i64 0, .bool false] PT)) w.heap.size zcs.toArray PT := Blk.new _ _ _
  have HM := Lib.hid (made4 (S := fun _ => False) hb ht (Nat.le_refl _) x.cs rfl)
  obtain ⟨⟨x0, x1, x2, x3⟩, y0, y1, y2, y3⟩ := four hb
  have hd : decide ((q.L.length : Int) = 0) = false := decide_eq_false (by omega)
  have hd2 : ((q.L.length : Int) == 0) = false := beq_false_of_ne (by omega)
  clear h hpv hb hcell hrow hx
  obtain ⟨xn, xs, xt, xk⟩ := x
  dsimp only [It.cs, It.v] at *
  go_enter Tryz.func30, Tryz.ntmps30
  go_upto_region 1 with fail
  refine (show Code.wp _ _ _ _ (w.alloc (.cells #[.int .i64 0, .int .i64 0, .int .i64 0, .bool false] PT)) from ?_)
  have HG2 : g ≠ w.heap.size := Nat.ne_of_lt hgl
  generalize w.alloc (.cells #[.int .i64 0, .int .i64 0, .int .i64 0, .bool false] PT) = w1 at *
  generalize w.heap.size = pr at *
  go_wp2_with fail
  refine (show bodyPost _ _ _ _ _ (puts w1 pr 0 [.int .i64 xn, .int .i64 xs, .int .i64 xt, .bool xk]) from ?_)
  clear x0 x1 x2 x3 y0 y1 y2 y3 c2 r0 r1 r2 r3
  generalize puts w1 pr 0 [.int .i64 xn, .int .i64 xs, .int .i64 xt, .bool xk] = w9 at *
  obtain ⟨g0, g1, g2, g3⟩ := (four HM.out.1).1
  refine bodyPost_ret (v := .tuple #[.agg #[.int .i64 xn, .int .i64 xs, .int .i64 xt, .bool xk], .bool true]) (by simp [results, Tryz.results30, go_sem, g0, g1, g2, g3]) rfl ⟨rfl, HM.out.2⟩

theorem refuses (p : Nat) (pv : Value) (q : Q) (x : It) (w : World) (h : Qs w p pv q) :
    Calls Tryz.prog 80 #[.pointer (some ⟨p, 0, none⟩), x.v] w fun e w' => e = .returned (.bool (q.broken && !x.key)) ∧ New w w' := by
  have HN : Hid (New w (w.alloc (.cells x.cs.toArray PT))) := Lib.hid ((Turns.refl _ _).alloc _)
  have c4 := (h.blk.alloc (.cells x.cs.toArray PT)).cell 4
  have b3 := (Blk.new w x.cs.toArray PT).cell 3
  clear h
  obtain ⟨xn, xs, xt, xk⟩ := x
  dsimp only [It.cs, It.v] at *
  generalize q.broken = b at *
  go_enter Tryz.func80, Tryz.ntmps80
  go_upto_region 1 with fail
  refine (show Code.wp _ _ _ _ (w.alloc (.cells #[.int .i64 xn, .int .i64 xs, .int .i64 xt, .bool xk] PT)) from ?_)
  have c4' : (w.alloc (.cells #[.int .i64 xn, .int .i64 xs, .int .i64 xt, .bool xk] PT)).cell? ⟨p, 4, none⟩ = some (.bool b) := c4
  have b3' : (w.alloc (.cells #[.int .i64 xn, .int .i64 xs, .int .i64 xt, .bool xk] PT)).cell? ⟨w.heap.size, 3, none⟩ = some (.bool xk) := b3
  clear c4 b3
  generalize w.heap.size = pr at *
  have HN' : Hid (New w (w.alloc (.cells #[.int .i64 xn, .int .i64 xs, .int .i64 xt, .bool xk] PT))) := HN
  generalize w.alloc (.cells #[.int .i64 xn, .int .i64 xs, .int .i64 xt, .bool xk] PT) = w1 at *
  cases b
  · go_wp2
    go_ret
    exact ⟨rfl, HN'.out⟩
  · go_wp2
    go_ret
    exact ⟨rfl, HN'.out⟩

theorem pop_nil (p : Nat) (pv : Value) (q : Q) (w : World) (h : Qs w p pv q) (hL : q.L = []) :
    Calls Tryz.prog 31 #[.pointer (some ⟨p, 0, none⟩)] w fun e w' => e = .returned (.tuple #[zeroIt, .bool false]) ∧ New w w' := by
  obtain ⟨ao, c, hpv, hc⟩ := h.form
  have c2 := (h.blk.alloc (.cells #[.int .i64 0, .int .i64 0, .int .i64 0, .bool false] PT)).cell 2
  rw [hpv, hL] at c2
  have hb : Blk (w.alloc (.cells #[.int .i64 0, .int .i64 0, .int .i64 0, .bool false] PT)) w.heap.size zcs.toArray PT := Blk.new _ _ _
  have HM := Lib.hid (made4 (S := fun _ => False) hb ((Turns.refl _ _).alloc _) (Nat.le_refl _) zcs rfl)
  obtain ⟨⟨x0, x1, x2, x3⟩, y0, y1, y2, y3⟩ := four hb
  clear h hpv hc hb
  go_enter Tryz.func31, Tryz.ntmps31
  go_upto_region 1 with fail
  refine (show Code.wp _ _ _ _ (w.alloc (.cells #[.int .i64 0, .int .i64 0, .int .i64 0, .bool false] PT)) from ?_)
  generalize w.alloc (.cells #[.int .i64 0, .int .i64 0, .int .i64 0, .bool false] PT) = w1 at *
  generalize w.heap.size = pr at *
  go_wp2_with fail
  refine (show bodyPost _ _ _ _ _ (puts w1 pr 0 zcs) from ?_)
  clear x0 x1 x2 x3 y0 y1 y2 y3 c2
  generalize puts w1 pr 0 zcs = w9 at *
  obtain ⟨g0, g1, g2, g3⟩ := (four HM.out.1).1
  refine bodyPost_ret (v := .tuple #[zeroIt, .bool false]) (by simp [results, Tryz.results31, go_sem, g0, g1, g2, g3]) rfl ⟨rfl, HM.out.2⟩

/-- what a call leaves of the queue -/
structure Lft (w w' : World) (p : Nat) (pv : Value) (q : Q) : Prop where
  qs : ∃ pv', Qs w' p pv' q ∧ (pv'.ownBlock = pv.ownBlock ∨ ∃ g, pv'.ownBlock = some g ∧ w.heap.size ≤ g)
  turns : Turns (Foot p pv) w w'

set_option maxHeartbeats 400000 in
theorem pop_cons (p : Nat) (pv : Value) (q : Q) (x : It) (w : World) (h : Qs w p pv q) (hx : q.L[0]? = some x) :
    Calls Tryz.prog 31 #[.pointer (some ⟨p, 0, none⟩)] w fun e w' => e = .returned (.tuple #[x.v, .bool true]) ∧ Lft w w' p pv ⟨q.frames, q.most, q.L.drop 1, q.broken⟩ := by
  obtain ⟨ao, c, hpv, hc⟩ := h.form
  have hlt : 0 < q.L.length := (List.getElem?_eq_some_iff.1 hx).1
  have hsm := h.small
  have hlm : q.L.length ≤ maxLen := by unfold maxLen; omega
  have HQ := Lib.hid h
  have ht : New w (w.alloc (.cells #[.int .i64 0, .int .i64 0, .int .i64 0, .bool false] PT)) := (Turns.refl _ _).alloc _
  have HT := Lib.hid ht
  have HQ1 := Lib.hid (h.later ht)
  have hb : Blk (w.alloc (.cells #[.int .i64 0, .int .i64 0, .int .i64 0, .bool false] PT)) w.heap.size zcs.toArray PT := Blk.new _ _ _
  have HB := Lib.hid hb
  have c2 := HQ1.out.blk.cell 2
  rw [hpv] at c2
  have hd : decide ((q.L.length : Int) = 0) = false := decide_eq_false (by omega)
  have hd2 : ((q.L.length : Int) == 0) = false := beq_false_of_ne (by omega)
  have HP : Hid (w.heap.size ≠ p ∧ ∀ g, pv.ownBlock = some g → w.heap.size ≠ g) := Lib.hid ⟨Nat.ne_of_gt h.lt, fun g hg => Nat.ne_of_gt (h.vlt g hg)⟩
  have HX := Lib.hid hx
  clear h hpv hc hb ht hx
  go_enter Tryz.func31, Tryz.ntmps31
  go_upto_region 1 with fail
  refine (show Code.wp _ _ _ _ (w.alloc (.cells #[.int .i64 0, .int .i64 0, .int .i64 0, .bool false] PT)) from ?_)
  generalize w.alloc (.cells #[.int .i64 0, .int .i64 0, .int .i64 0, .bool false] PT) = w1 at *
  have hle : w.heap.size ≤ w.heap.size := Nat.le_refl _
  generalize hpr : w.heap.size = pr at *
  have HLE := Lib.hid hpr
  clear hle hpr
  go_wp2_with fail
  refine (remove p pv q 1 w1 HQ1.out hlt).mono ?_
  rintro e w2 ⟨v2, rfl, hg⟩
  have hb2 := hg.turns.blk HB.out (fun e => by
    rcases e with e | e
    · exact HP.out.1 e
    · exact HP.out.2 _ e rfl)
  obtain ⟨ao2, cc2, hv2, hc2, hrd, _⟩ := hg.fr.own.form
  have hlT : (q.L.take 1).length = 1 := by rw [List.length_take]; omega
  rw [hlT] at hv2 hc2
  have hxT : (q.L.take 1)[0]? = some x := by rw [List.getElem?_take, if_pos (by omega)]; exact HX.out
  rcases hrd with h0 | ⟨g, hg2, hgl, hcell⟩
  · rw [h0] at hlT; simp at hlT
  subst hg2
  have r0 : w2.cell? ⟨g, 0, none⟩ = _ := hcell 0 x hxT 0 _ rfl
  have r1 : w2.cell? ⟨g, 1, none⟩ = _ := hcell 0 x hxT 1 _ rfl
  have r2 : w2.cell? ⟨g, 2, none⟩ = _ := hcell 0 x hxT 2 _ rfl
  have r3 : w2.cell? ⟨g, 3, none⟩ = _ := hcell 0 x hxT 3 _ rfl
  have hgp : g ≠ pr := fun e => by
    have := hg.fr.vb g (by rw [hv2]; rfl)
    have h3 := HB.out.lt
    omega
  obtain ⟨⟨x0, x1, x2, x3⟩, y0, y1, y2, y3⟩ := four hb2
  have HM := Lib.hid (made4 (S := fun k => Foot p pv k) hb2 ((HT.out.mono (fun _ _ h => h.elim)).trans (hg.turns.mono (fun _ _ h => .inl h))) (by rw [HLE.out]; exact Nat.le_refl _) x.cs rfl)
  obtain ⟨pv', hq2, hpe⟩ := hg.qs
  have t9 : Turns (· = pr) w2 (puts w2 pr 0 x.cs) := puts_turns (S := (· = pr)) (.inl rfl) _ 0 _ (Turns.refl _ _)
  have HQ9 := Lib.hid (And.intro (hq2.turns t9 (fun e => HP.out.1 e.symm) (fun g hg e => HP.out.2 g (hpe ▸ hg) e.symm)) hpe)
  clear hg hq2 hpe t9 hcell hxT hlT hb2 c2
  obtain ⟨xn, xs, xt, xk⟩ := x
  dsimp only [It.cs, It.v] at *
  subst hv2
  go_wp2_with fail
  refine (show bodyPost _ _ _ _ _ (puts w2 pr 0 [.int .i64 xn, .int .i64 xs, .int .i64 xt, .bool xk]) from ?_)
  clear x0 x1 x2 x3 y0 y1 y2 y3 r0 r1 r2 r3
  generalize puts w2 pr 0 [.int .i64 xn, .int .i64 xs, .int .i64 xt, .bool xk] = w9 at *
  obtain ⟨g0, g1, g2, g3⟩ := (four HM.out.1).1
  refine bodyPost_ret (v := .tuple #[.agg #[.int .i64 xn, .int .i64 xs, .int .i64 xt, .bool xk], .bool true]) (by simp [results, Tryz.results31, go_sem, g0, g1, g2, g3]) rfl ⟨rfl, ⟨⟨pv', HQ9.out.1, .inl HQ9.out.2⟩, HM.out.2⟩⟩

/-- all go -/
theorem break_ (p : Nat) (pv : Value) (q : Q) (w : World) (h : Qs w p pv q) :
    Calls Tryz.prog 106 #[.pointer (some ⟨p, 0, none⟩)] w fun e w' => ∃ v, e = .returned v ∧ Gone w w' p pv ⟨q.frames, q.most, [], true⟩ v q.L := by
  obtain ⟨ao, c, hpv, hc⟩ := h.form
  have hsm := h.small
  have hlm : q.L.length ≤ maxLen := by unfold maxLen; omega
  have c4 := h.blk.cell 4
  have f4 := h.blk.free 4
  have tt : Turns (· = p) w (w.setCell ⟨p, 4, none⟩ (.bool true)) := (Turns.refl (· = p) _).setCell (.inl rfl) _
  have h2 : Qs (w.setCell ⟨p, 4, none⟩ (.bool true)) p pv ⟨q.frames, q.most, q.L, true⟩ := ⟨h.blk.set 4 _, h.own.turns tt (fun g hg e => h.ne (by rw [hg, e])), h.ne, h.ok.bs true⟩
  have HG := Lib.hid (remove p pv _ q.L.length _ h2 (Nat.le_refl _))
  have HT := Lib.hid tt
  have c2 := h2.blk.cell 2
  rw [hpv] at c2
  clear h2 tt h hpv
  go_enter Tryz.func106, Tryz.ntmps106
  go_upto_region 2 with fail
  refine (show Code.wp _ _ _ _ (w.setCell ⟨p, 4, none⟩ (.bool true)) from ?_)
  generalize w.setCell ⟨p, 4, none⟩ (.bool true) = w1 at *
  go_wp2_with fail
  refine HG.out.mono ?_
  rintro e w2 ⟨v, rfl, hg⟩
  have hq := hg.qs
  rw [show (⟨q.frames, q.most, q.L.drop q.L.length, true⟩ : Q) = ⟨q.frames, q.most, [], true⟩ by rw [List.drop_length]] at hq
  have HH : Hid (Gone w w2 p pv ⟨q.frames, q.most, [], true⟩ v q.L) := Lib.hid ⟨⟨Owns.cast hg.fr.own (by simp), fun g hgv => Nat.le_trans HT.out.size (hg.fr.vb g hgv)⟩, hq, HT.out.mono (fun i _ hi => .inl hi) |>.trans (hg.turns.mono (fun _ _ hk => .inl hk))⟩
  clear hg HT HG hq
  go_wp2
  go_ret
  exact ⟨_, rfl, HH.out⟩
end Go.Proofs.YtcppibjllaablaaGreat.que

/-
  queue.Queue in memory: Expire.
-/
namespace Go.Proofs.YtcppibjllaablaaGreat.que
open Go.RowKit mem
set_option linter.unusedVariables false

/-- the length of a slice -/
def slen : Value → Nat
  | .slice _ n _ => n
  | _ => 0
def qk (q : Q) (k : Nat) : Q := ⟨q.frames, q.most, q.L.drop k, brk q.broken q.L k⟩
theorem qk_zero (q : Q) : qk q 0 = q := by unfold qk; rw [brk_zero, List.drop_zero]
theorem qk_drop (q : Q) (k : Nat) (hk : k < q.L.length) : dropQ (qk q k) = qk q (k + dropN (q.L.drop k)) := by
  have h := brk_step q.broken q.L k (dropN (q.L.drop k)) hk (dropN_pos _)
  unfold dropQ qk
  simp only
  rw [h, List.drop_drop]
theorem take_more (L : List It) (k d : Nat) : L.take k ++ (L.drop k).take d = L.take (k + d) := (List.take_add).symm
theorem Gone.zero {w : World} {p : Nat} {pv : Value} {q : Q} (h : Qs w p pv q) : Gone w w p pv (qk q 0) (.slice none 0 0) (q.L.take 0) :=
  ⟨⟨Owns.nil _ _, fun g hg => by simp [Value.ownBlock] at hg⟩, ⟨pv, by rw [qk_zero]; exact h, rfl⟩, Turns.refl _ _⟩
theorem Gone.apart {w w1 : World} {p : Nat} {pv v : Value} {q : Q} {D : List It} (h : Gone w w1 p pv q v D) (hp : p < w.heap.size) (hpv : ∀ g, pv.ownBlock = some g → g < w.heap.size) : ∀ g, v.ownBlock = some g → g ≠ p ∧ pv.ownBlock ≠ some g := fun g hg =>
  ⟨fun e => by have := h.fr.vb g hg; omega, fun e => by have := h.fr.vb g hg; have := hpv g e; omega⟩
theorem Gone.still {w w1 w2 : World} {p : Nat} {pv pv1 v u : Value} {q q2 : Q} {D D2 : List It} (h : Gone w w1 p pv q v D) (e1 : pv1.ownBlock = pv.ownBlock) (h2 : Gone w1 w2 p pv1 q2 u D2) (hp : p < w.heap.size) (hpv : ∀ g, pv.ownBlock = some g → g < w.heap.size) : Owns IE PT w2 v D := by
  have ha := h.apart hp hpv
  refine h.fr.own.turns h2.turns (fun g hg => ?_)
  rintro (e | e)
  · exact (ha g hg).1 e
  · exact (ha g hg).2 (e1 ▸ e)
theorem Gone.grow {w w1 w2 w3 : World} {p : Nat} {pv pv1 v u v' : Value} {q q2 : Q} {D D2 : List It} (h : Gone w w1 p pv q v D) (e1 : pv1.ownBlock = pv.ownBlock) (h2 : Gone w1 w2 p pv1 q2 u D2) (hp : p < w.heap.size) (hpv : ∀ g, pv.ownBlock = some g → g < w.heap.size)
    (ho : Owns IE PT w3 v' (D ++ D2)) (hg : w2.grownBy w3 v.ownBlock) (ha : v'.ownBlock = v.ownBlock ∨ v'.ownBlock = some w2.heap.size) : Gone w w3 p pv q2 v' (D ++ D2) := by
  have hap := h.apart hp hpv
  have tg := Turns.of_grown hg
  have t2 : Turns (Foot p pv) w w2 := h.turns.trans (h2.turns.mono (fun k _ hk => .inl (by rcases hk with hk | hk; exact .inl hk; exact .inr (e1 ▸ hk))))
  obtain ⟨pv2, hq2, he2⟩ := h2.qs
  refine ⟨⟨ho, fun g hg' => ?_⟩, ⟨pv2, hq2.turns tg (fun e => (hap p e.symm).1 rfl) (fun g hg' e => (hap g e.symm).2 (by rw [← e1, ← he2]; exact hg')), he2.trans e1⟩, t2.trans (tg.mono (fun k _ hk => .inr (h.fr.vb k hk.symm)))⟩
  rcases ha with e | e
  · exact h.fr.vb g (e ▸ hg')
  · rw [e] at hg'; injection hg' with hg'; have := t2.size; omega

set_option maxHeartbeats 1000000 in
theorem expire (p : Nat) (pv : Value) (q : Q) (now age : Int) (w : World) (h : Qs w p pv q) (n0 : 0 ≤ now) (n1 : now ≤ 2199023255552) (ht : ∀ x ∈ q.L, 0 ≤ x.tick ∧ x.tick ≤ 2199023255552) :
    Calls Tryz.prog 68 #[.pointer (some ⟨p, 0, none⟩), .int .i64 now, .int .i64 age] w fun e w' => ∃ v, e = .returned v ∧ Gone w w' p pv (expQ q now age) v (expD q now age) := by
  have hsm := h.small
  have HG0 := Lib.hid (Gone.zero h)
  have HP := Lib.hid h.lt
  have HPV := Lib.hid h.vlt
  have HT := Lib.hid ht
  have h00 : late now age [] = false := rfl
  have H00 := Lib.hid h00
  clear h ht h00
  go_enter Tryz.func68, Tryz.ntmps68
  go_wp2_with fail
  go_loopw [7] (fun v wr => ∃ k : Nat, k ≤ q.L.length ∧ k + sh (late now age) (q.L.drop k) = sh (late now age) q.L ∧ (∃ ao c, v = .slice ao k c) ∧ Gone w wr p pv (qk q k) v (q.L.take k)) (fun v _ => q.L.length - slen v)
  case atStart => exact ⟨0, Nat.zero_le _, by rw [List.drop_zero, Nat.zero_add], ⟨none, 0, rfl⟩, HG0.out⟩
  case round =>
    obtain ⟨k, hk, hsh, ⟨ao7, c7, rfl⟩, hg⟩ := hrel
    obtain ⟨pv1, hq1, he1⟩ := hg.qs
    obtain ⟨ao, c, hpv1, hc, hrd, _⟩ := hq1.own.form
    have hlen : (qk q k).L.length = q.L.length - k := List.length_drop
    rw [hlen] at hpv1 hc
    have c2 := hq1.blk.cell 2
    rw [hpv1] at c2
    have HG := Lib.hid hg
    have HSH := Lib.hid hsh
    have HQ1 := Lib.hid (And.intro hq1 he1)
    have HPV1 := Lib.hid hpv1
    have hlm : q.L.length ≤ maxLen := by unfold maxLen; omega
    by_cases hlt : k < q.L.length
    · obtain ⟨y, hy⟩ : ∃ y, q.L[k]? = some y := ⟨_, List.getElem?_eq_getElem hlt⟩
      have hy0 : (qk q k).L[0]? = some y := by show (q.L.drop k)[0]? = _; rw [List.getElem?_drop]; exact hy
      obtain ⟨r, hr⟩ : ∃ r, q.L.drop k = y :: r := by
        obtain ⟨hlt', e⟩ := List.getElem?_eq_some_iff.1 hy
        exact ⟨_, by rw [List.drop_eq_getElem_cons hlt', e]⟩
      have hty := HT.out y (List.mem_of_getElem? hy)
      rcases hrd with h0 | ⟨g, hg2, hgl, hcell⟩
      · rw [show (qk q k).L = q.L.drop k from rfl, hr] at h0; cases h0
      subst hg2
      have r2 : wr.cell? ⟨g, 2, none⟩ = some (.int .i64 y.tick) := hcell 0 y hy0 2 _ rfl
      obtain ⟨t0, t1⟩ := hty
      have hlate : Hid (late now age (q.L.drop k) = decide (age ≤ now - y.tick)) := Lib.hid (by rw [hr]; rfl)
      have hne : Hid (q.L.drop k ≠ []) := Lib.hid (by rw [hr]; simp)
      generalize y.tick = ty at *
      have hw : IntKind.i64.wrap (now - ty) = now - ty := IntWalk.i64_in _ (by omega)
      have hd : decide ((0 : Int) < ((q.L.length - k : Nat) : Int)) = true := decide_eq_true (by omega)
      clear hg hsh hq1 he1 hpv1 hcell hy hy0 hr
      by_cases hl : age ≤ now - ty
      · have hl2 : decide (age ≤ now - ty) = true := decide_eq_true hl
        have HL : Hid (late now age (q.L.drop k) = true) := Lib.hid (by rw [hlate.out]; exact hl2)
        have HGO := Lib.hid (sh_go (late now age) H00.out (q.L.drop k) HL.out)
        clear hlate
        go_wp2_with fail
        refine (drop p pv1 (qk q k) wr HQ1.out.1 hne.out).mono ?_
        rintro e w2 ⟨u, rfl, hg2⟩
        have hdl := dropN_le (q.L.drop k) hne.out
        have hd1 := dropN_pos (q.L.drop k)
        rw [List.length_drop] at hdl
        have HG2 : Hid (Gone wr w2 p pv1 (qk q (k + dropN (q.L.drop k))) u ((q.L.drop k).take (dropN (q.L.drop k)))) := Lib.hid (by rw [← qk_drop q k hlt]; exact hg2)
        have HA1 := Lib.hid (HG.out.still HQ1.out.2 hg2 HP.out HPV.out)
        have HA2 := Lib.hid (HG2.out.fr.own.sub 0 (fun _ _ => Nat.zero_le _))
        have hll : Hid ((q.L.take k).length + ((q.L.drop k).take (dropN (q.L.drop k))).length ≤ 1048576) := Lib.hid (by simp only [List.length_take, List.length_drop]; omega)
        clear hg2 c2 r2
        go_wp2_with (at_builtin; refine wpList_append_sub (E := IE) Tryz.underlying117 infoP rfl (by decide) (by decide) rfl _ _ rfl _ (q.L.take k) _ rfl HA1.out _ rfl 0 HA2.out hll.out ?_; intro v3 w3 hown3 hgrow3 hat3)
        have hG3 := HG.out.grow HQ1.out.2 HG2.out HP.out HPV.out hown3 hgrow3 hat3
        rw [take_more] at hG3 hown3
        obtain ⟨a3, c3, hv3, _⟩ := hown3.form
        rw [show (q.L.take (k + dropN (q.L.drop k))).length = k + dropN (q.L.drop k) by rw [List.length_take]; omega] at hv3
        have HE := Lib.hid hG3
        have HGO2 := HGO.out.2
        rw [List.drop_drop] at HGO2
        have HS2 : Hid (k + dropN (q.L.drop k) + sh (late now age) (q.L.drop (k + dropN (q.L.drop k))) = sh (late now age) q.L) := Lib.hid (by have := HSH.out; omega)
        clear hown3 hgrow3 hat3 hG3 HGO2 HA1 HA2 hll HGO HSH
        generalize dropN (q.L.drop k) = d at *
        subst hv3
        go_roundw
        case rel => exact ⟨k + d, by omega, HS2.out, ⟨_, _, rfl⟩, HE.out⟩
        case measure => show q.L.length - (k + d) < q.L.length - k; omega
      · have hl2 : decide (age ≤ now - ty) = false := decide_eq_false hl
        have HL : Hid (late now age (q.L.drop k) = false) := Lib.hid (by rw [hlate.out]; exact hl2)
        have HE : Hid (Gone w wr p pv (expQ q now age) (.slice ao7 k c7) (expD q now age)) := Lib.hid (by
          have e : expK q now age = k := by have := HSH.out; rw [sh_end _ _ HL.out] at this; unfold expK; omega
          unfold expQ expD
          rw [e]
          exact HG.out)
        clear hlate HG HL
        go_wp2
        go_ret
        exact ⟨_, rfl, HE.out⟩
    · obtain rfl : k = q.L.length := by omega
      have HE : Hid (Gone w wr p pv (expQ q now age) (.slice ao7 q.L.length c7) (expD q now age)) := Lib.hid (by
        have e : expK q now age = q.L.length := by
          have := HSH.out
          rw [List.drop_length, sh_end _ _ H00.out] at this
          unfold expK; omega
        unfold expQ expD
        rw [e]
        exact HG.out)
      clear HG hg hq1 hrd hpv1
      have hz : q.L.length - q.L.length = 0 := Nat.sub_self _
      rw [hz] at c2
      go_wp2
      go_ret
      exact ⟨_, rfl, HE.out⟩
end Go.Proofs.YtcppibjllaablaaGreat.que

/-
  queue.Queue in memory: Put.
-/
namespace Go.Proofs.YtcppibjllaablaaGreat.que
open Go.RowKit mem
set_option linter.unusedVariables false

/-- what Put leaves -/
structure PutPost (w w' : World) (p : Nat) (pv : Value) (q : Q) (v : Value) (D : List It) : Prop where
  fr : Fresh PT w w' v D
  lft : Lft w w' p pv q

theorem Gone.drewN {w w1 : World} {p : Nat} {pv v : Value} {q : Q} {D : List It} (h : Gone w w1 p pv q v D) (n : Nat) : Gone w (w1.drewN n) p pv q v D := by
  obtain ⟨pv', hq, he⟩ := h.qs
  exact ⟨⟨h.fr.own, h.fr.vb⟩, ⟨pv', hq.drewN n, he⟩, h.turns.drewN n⟩
theorem Gone.later {w w1 w2 : World} {p : Nat} {pv v : Value} {q : Q} {D : List It} (h : Gone w w1 p pv q v D) (n : New w1 w2) : Gone w w2 p pv q v D := by
  obtain ⟨pv', hq, he⟩ := h.qs
  exact ⟨⟨h.fr.own.turns n (fun _ _ h => h), h.fr.vb⟩, ⟨pv', hq.later n, he⟩, h.turns.trans (n.mono (fun _ _ h => h.elim))⟩

/-- the new item has its place -/
structure Plc (w wx : World) (p pb : Nat) (pv1 v : Value) (q1 : Q) (D : List It) (x : It) (g cap : Nat) : Prop where
  blk : Blk wx p (cellsR q1.frames q1.most (.slice (some ⟨g, 0, none⟩) (q1.L.length + 1) cap) (sumL q1.L) q1.broken) QB
  own : Owns IE PT wx (.slice (some ⟨g, 0, none⟩) (q1.L.length + 1) cap) (q1.L ++ [x])
  ne : g ≠ p
  dr : Owns IE PT wx v D
  va : ∀ g, v.ownBlock = some g → g ≠ p
  box : Blk wx pb x.cs.toArray PT
  loc : pv1.ownBlock = some g ∨ w.heap.size ≤ g
  turns : Turns (Foot p pv1) w wx
theorem Qs.placed {w W w1 : World} {p pb g cap : Nat} {pv1 v : Value} {q1 : Q} {D : List It} {x : It} (h : Qs w p pv1 q1) (hbx : Blk w pb x.cs.toArray PT) (hpb : pb ≠ p ∧ ∀ g, pv1.ownBlock = some g → pb ≠ g) (hv : Owns IE PT w v D) (hva : ∀ g, v.ownBlock = some g → g ≠ p ∧ pv1.ownBlock ≠ some g) (hW : New w W)
    (hown : w1.ownsRow 0 PT 4 (.slice (some ⟨g, 0, none⟩) (q1.L.length + 1) cap) (q1.L.length + 1) (IE.all q1.L ++ x.cs)) (hg : W.grownBy w1 pv1.ownBlock) (hat : pv1.ownBlock = some g ∨ w.heap.size ≤ g) :
    Plc w (w1.setCell ⟨p, 2, none⟩ (.slice (some ⟨g, 0, none⟩) (q1.L.length + 1) cap)) p pb pv1 v q1 D x g cap := by
  have t1 : Turns (fun k => some k = pv1.ownBlock) w w1 := (hW.mono (fun _ _ h => h.elim)).trans ((Turns.of_grown hg).mono (fun _ _ h => .inl h))
  have hpc := h.lt
  have hgp : g ≠ p := by
    rcases hat with e | e
    · intro e2; exact h.ne (by rw [e, e2])
    · omega
  have hb1 := t1.blk h.blk (fun e => h.ne e.symm)
  have hx1 := t1.blk hbx (fun e => hpb.2 pb e.symm rfl)
  have hv1 := hv.turns t1 (fun g' hg' e => (hva g' hg').2 e.symm)
  have t2 : Turns (· = p) w1 (w1.setCell ⟨p, 2, none⟩ (.slice (some ⟨g, 0, none⟩) (q1.L.length + 1) cap)) := (Turns.refl (· = p) _).setCell (.inl rfl) _
  have hO : Owns IE PT w1 (.slice (some ⟨g, 0, none⟩) (q1.L.length + 1) cap) (q1.L ++ [x]) := by
    unfold Owns
    rw [IE.all_append, IE.all_one, List.length_append]
    exact hown
  refine ⟨hb1.set 2 _, hO.turns t2 (fun g' hg' e => ?_), hgp, hv1.turns t2 (fun g' hg' e => (hva g' hg').1 e), fun g' hg' => (hva g' hg').1, t2.blk hx1 hpb.1, hat, (t1.mono (S' := Foot p pv1) (fun _ _ hk => .inr hk.symm)).trans (t2.mono (fun _ _ hk => .inl (.inl hk)))⟩
  have hg2 : g = g' := by simpa [Value.ownBlock] using hg'
  exact hgp (hg2.trans e)
theorem Plc.fin {w wx wz : World} {p pb g cap : Nat} {pv1 v : Value} {q1 : Q} {D : List It} {x : It} (h : Plc w wx p pb pv1 v q1 D x g cap) (t : Turns (· = p) wx wz) (hb : Blk wz p (cellsR q1.frames q1.most (.slice (some ⟨g, 0, none⟩) (q1.L.length + 1) cap) (sumL q1.L + x.size) false) QB) (ok : Q.ok ⟨q1.frames, q1.most, q1.L ++ [x], false⟩) :
    Owns IE PT wz v D ∧ Qs wz p (.slice (some ⟨g, 0, none⟩) (q1.L.length + 1) cap) ⟨q1.frames, q1.most, q1.L ++ [x], false⟩ ∧ Turns (Foot p pv1) w wz := by
  refine ⟨h.dr.turns t (fun g' hg' e => h.va g' hg' e), ⟨?_, h.own.turns t (fun g' hg' e => ?_), fun e => ?_, ok⟩, h.turns.trans (t.mono (fun _ _ hk => .inl (.inl hk)))⟩
  · have e : sumL (q1.L ++ [x]) = sumL q1.L + x.size := by rw [sumL_append]; simp [sumL]
    show Blk wz p (cellsR q1.frames q1.most _ (sumL (q1.L ++ [x])) false) QB
    rw [e]
    exact hb
  · have hg2 : g = g' := by simpa [Value.ownBlock] using hg'
    exact h.ne (hg2.trans e)
  · exact h.ne (by simpa [Value.ownBlock] using e)

set_option maxHeartbeats 1000000 in
set_option maxRecDepth 10000 in
theorem put (p : Nat) (pv : Value) (q : Q) (x : It) (w : World) (h : Qs w p pv q) (s0 : -9223372036854775808 ≤ x.size) (s1 : x.size ≤ 9223372036854775807) :
    Calls Tryz.prog 39 #[.pointer (some ⟨p, 0, none⟩), x.v] w fun e w' => ∃ v, e = .returned (.tuple #[v, .bool (putOk q x)]) ∧ PutPost w w' p pv (putQ q x) v (putD q x) := by
  have n1 : New w (w.alloc (.cells x.cs.toArray PT)) := (Turns.refl _ _).alloc _
  have hb : Blk (w.alloc (.cells x.cs.toArray PT)) w.heap.size x.cs.toArray PT := Blk.new _ _ _
  have HQ := Lib.hid h
  have HQ1 : Hid (Qs (w.alloc (.cells x.cs.toArray PT)) p pv q) := Lib.hid (h.later n1)
  have HN1 := Lib.hid n1
  have HB1 := Lib.hid hb
  have HX : Hid (∃ y : It, y = x) := Lib.hid ⟨x, rfl⟩
  obtain ⟨y, hy⟩ := HX.out
  have HY := Lib.hid hy
  have c1 := HQ1.out.blk.cell 1
  have x1 := hb.cell 1
  have x0 := hb.cell 0
  have x2 := hb.cell 2
  have x3 := hb.cell 3
  have m1 := HQ.out.ok.m1
  have m2 := HQ.out.ok.m2
  clear n1 hb h hy
  have HR : Hid (∀ w', Qs w' p pv q → _) := Lib.hid (fun w' hq => refuses p pv q x w' hq)
  obtain ⟨xn, xs, xt, xk⟩ := x
  dsimp only [It.cs, It.v] at *
  go_enter Tryz.func39, Tryz.ntmps39
  go_upto_region 1 with fail
  refine (show Code.wp _ _ _ _ (w.alloc (.cells #[.int .i64 xn, .int .i64 xs, .int .i64 xt, .bool xk] PT)) from ?_)
  have c1' : (w.alloc (.cells #[.int .i64 xn, .int .i64 xs, .int .i64 xt, .bool xk] PT)).cell? ⟨p, 1, none⟩ = some (.int .i64 q.most) := c1
  have x0' : (w.alloc (.cells #[.int .i64 xn, .int .i64 xs, .int .i64 xt, .bool xk] PT)).cell? ⟨w.heap.size, 0, none⟩ = some (.int .i64 xn) := x0
  have x1' : (w.alloc (.cells #[.int .i64 xn, .int .i64 xs, .int .i64 xt, .bool xk] PT)).cell? ⟨w.heap.size, 1, none⟩ = some (.int .i64 xs) := x1
  have x2' : (w.alloc (.cells #[.int .i64 xn, .int .i64 xs, .int .i64 xt, .bool xk] PT)).cell? ⟨w.heap.size, 2, none⟩ = some (.int .i64 xt) := x2
  have x3' : (w.alloc (.cells #[.int .i64 xn, .int .i64 xs, .int .i64 xt, .bool xk] PT)).cell? ⟨w.heap.size, 3, none⟩ = some (.bool xk) := x3
  have HQ1' : Hid (Qs (w.alloc (.cells #[.int .i64 xn, .int .i64 xs, .int .i64 xt, .bool xk] PT)) p pv q) := HQ1
  have HB1' : Hid (Blk (w.alloc (.cells #[.int .i64 xn, .int .i64 xs, .int .i64 xt, .bool xk] PT)) w.heap.size #[.int .i64 xn, .int .i64 xs, .int .i64 xt, .bool xk] PT) := HB1
  have HN1' : Hid (New w (w.alloc (.cells #[.int .i64 xn, .int .i64 xs, .int .i64 xt, .bool xk] PT))) := HN1
  have HPB : Hid (∃ z, z = w.heap.size) := Lib.hid ⟨_, rfl⟩
  obtain ⟨pb, hpb⟩ := HPB.out
  rw [← hpb] at x0' x1' x2' x3' HB1'
  rw [← hpb]
  have HPB2 := Lib.hid hpb
  clear c1 x1 x0 x2 x3 HQ1 HB1 HN1 hpb HPB
  generalize w.alloc (.cells #[.int .i64 xn, .int .i64 xs, .int .i64 xt, .bool xk] PT) = w1 at *
  have hbad : Hid (bad q y = (decide (xs < 0) || decide (q.most < xs) || (q.broken && !xk))) := Lib.hid (by rw [HY.out]; rfl)
  go_cut [23] (fun v wx => v = .bool (bad q y) ∧ New w1 wx)
  case first =>
    by_cases h1 : xs < 0
    · have d1 : decide (xs < 0) = true := decide_eq_true h1
      rw [d1] at hbad
      go_quiet (fail)
      go_wp2_with fail
      go_meet
      case rel => exact ⟨by rw [hbad.out]; rfl, (Turns.refl _ _).drewN _⟩
    · have d1 : decide (xs < 0) = false := decide_eq_false h1
      by_cases h2 : q.most < xs
      · have d2 : decide (q.most < xs) = true := decide_eq_true h2
        rw [d1, d2] at hbad
        go_quiet (fail)
        go_wp2_with fail
        go_meet
        case rel => exact ⟨by rw [hbad.out]; rfl, (Turns.refl _ _).drewN _⟩
      · have d2 : decide (q.most < xs) = false := decide_eq_false h2
        rw [d1, d2] at hbad
        go_region_with (refine (HR.out _ (HQ1'.out.drewN 1)).mono ?_; rintro e w2 ⟨rfl, n2⟩)
        all_goals
          have N2 : Hid (New w1 w2) := Lib.hid ((Turns.drewN (Turns.refl (fun _ => False) w1) 1).trans (n2.mono (fun _ _ h => h.elim)))
          clear n2
          go_wp2_with fail
          go_meet
          case rel => exact ⟨by rw [hbad.out]; rfl, N2.out⟩
  case rest =>
    obtain ⟨rfl, nx⟩ := hcut
    have HQX := Lib.hid (HQ1'.out.later nx)
    have hbx := nx.blk HB1'.out (fun h => h)
    have HBX := Lib.hid hbx
    have HNX : Hid (New w wc) := Lib.hid (HN1'.out.trans (nx.mono (fun _ _ h => h.elim)))
    obtain ⟨⟨x0, x1, x2, x3⟩, _⟩ := four hbx
    clear nx hbx c1' x0' x1' x2' x3' HQ1' HB1' HN1' HR
    have HSM := Lib.hid HQX.out.small
    by_cases hb : bad q y = true
    · have HB := Lib.hid hb
      have c4 := HQX.out.blk.cell 4
      have f4 := HQX.out.blk.free 4
      rw [hb]
      have HE : Hid (PutPost w (wc.setCell ⟨p, 4, none⟩ (.bool true)) p pv (putQ q y) (.slice none 0 0) (putD q y) ∧ putOk q y = false) := Lib.hid (by
        have tt : Turns (· = p) wc (wc.setCell ⟨p, 4, none⟩ (.bool true)) := (Turns.refl (· = p) _).setCell (.inl rfl) _
        have e1 : putQ q y = ⟨q.frames, q.most, q.L, true⟩ := by unfold putQ; rw [hb, if_pos rfl]
        have e2 : putD q y = [] := by unfold putD; rw [hb, if_pos rfl]
        have e3 : putOk q y = false := by unfold putOk; rw [hb]; rfl
        refine ⟨⟨⟨by rw [e2]; exact Owns.nil _ _, fun g hg => by simp [Value.ownBlock] at hg⟩, ⟨pv, ?_, .inl rfl⟩, ?_⟩, e3⟩
        · rw [e1]
          exact ⟨HQX.out.blk.set 4 _, HQX.out.own.turns tt (fun g hg e => HQX.out.ne (by rw [hg, e])), HQX.out.ne, HQX.out.ok.bs true⟩
        · exact (HNX.out.mono (fun _ _ h => h.elim)).trans (tt.mono (fun _ _ h => .inl (.inl h))))
      clear hb HB hbad HQX HBX HNX x0 x1 x2 x3
      go_wp2
      go_ret2
      rw [← HY.out]
      exact ⟨.slice none 0 0, by rw [HE.out.2]; rfl, HE.out.1⟩
    · have hb : bad q y = false := by simpa using hb
      have HB := Lib.hid hb
      rw [hb]
      have hs : 0 ≤ xs ∧ xs ≤ q.most := by
        have := hbad.out
        rw [hb] at this
        have h2 : (decide (xs < 0) || decide (q.most < xs)) = false := by
          cases h3 : (decide (xs < 0) || decide (q.most < xs)) with
          | false => rfl
          | true => rw [h3] at this; simp at this
        simp at h2; omega
      obtain ⟨xs0, xs1⟩ := hs
      have HY1 : Hid (y.size = xs ∧ y.key = xk) := Lib.hid (by rw [HY.out]; exact ⟨rfl, rfl⟩)
      have H00 : Hid (full q y [] = false) := Lib.hid (full_nil HQ.out.ok (by rw [HY1.out.1]; omega))
      have HG0 := Lib.hid (Gone.zero HQX.out)
      have HP := Lib.hid HQX.out.lt
      have HPV := Lib.hid HQX.out.vlt
      have HF1 := Lib.hid HQ.out.ok
      have HPBX : Hid (pb ≠ p ∧ ∀ g, pv.ownBlock = some g → pb ≠ g) := Lib.hid ⟨by rw [HPB2.out]; exact Nat.ne_of_gt HQ.out.lt, fun g hg => by rw [HPB2.out]; exact Nat.ne_of_gt (HQ.out.vlt g hg)⟩
      clear hb hbad
      go_wp2_with fail
      go_loopw [6] (fun v wr => ∃ k : Nat, k ≤ q.L.length ∧ k + sh (full q y) (q.L.drop k) = putK q y ∧ (∃ ao c, v = .slice ao k c) ∧ Gone wc wr p pv (qk q k) v (q.L.take k)) (fun v _ => q.L.length - slen v)
      case atStart => exact ⟨0, Nat.zero_le _, by rw [List.drop_zero, Nat.zero_add]; rfl, ⟨none, 0, rfl⟩, HG0.out⟩
      case round =>
        obtain ⟨k, hk, hsh, ⟨ao7, c7, rfl⟩, hg⟩ := hrel
        have HG9 := Lib.hid (fun n => hg.drewN n)
        obtain ⟨pv1, hq1, he1⟩ := hg.qs
        have HQ9 := Lib.hid (fun n => hq1.drewN n)
        have HE1 := Lib.hid he1
        obtain ⟨ao, c, hpv1, hc⟩ := hq1.form
        have hlen : (qk q k).L.length = q.L.length - k := List.length_drop
        rw [hlen] at hpv1 hc
        have c0 := hq1.blk.cell 0
        have c1 := hq1.blk.cell 1
        have c2 := hq1.blk.cell 2
        have c3 := hq1.blk.cell 3
        have hbr := hg.turns.blk HBX.out (fun e => by
          rcases e with e | e
          · exact HPBX.out.1 e
          · exact HPBX.out.2 _ e rfl)
        have HBR := Lib.hid (fun n => hbr.drewN n)
        have x1 := hbr.cell 1
        rw [hpv1] at c2
        have HPV1 := Lib.hid hpv1
        have HSH := Lib.hid hsh
        have hsm := HSM.out
        have hsum0 := sumL_pos _ hq1.ok.pos
        have hsum1 := hq1.ok.sum
        have hm1 : (qk q k).most = q.most := rfl
        have hf1 : (qk q k).frames = q.frames := rfl
        have hL1 : (qk q k).L = q.L.drop k := rfl
        have HFU : Hid (full q y (q.L.drop k) = (decide (((q.L.length - k : Nat) : Int) = q.frames) || decide (q.most < sumL (q.L.drop k) + xs))) := Lib.hid (by unfold full; rw [HY1.out.1, List.length_drop])
        rw [hm1] at c1 hsum1
        rw [hf1] at c0
        rw [hL1] at c3 hsum0 hsum1
        have hw : IntKind.i64.wrap (sumL (q.L.drop k) + xs) = sumL (q.L.drop k) + xs := IntWalk.i64_in _ (by omega)
        generalize hsd : sumL (q.L.drop k) = sd at *
        have HSD := Lib.hid hsd
        clear hg hsh hq1 he1 hpv1 hbr hlen hm1 hf1 hL1 hsd
        by_cases hf : full q y (q.L.drop k) = true
        · have HF := Lib.hid hf
          have HGO := Lib.hid (sh_go (full q y) H00.out (q.L.drop k) hf)
          have hne := HGO.out.1
          have hkl : k < q.L.length := by
            rcases Nat.lt_or_ge k q.L.length with h | h
            · exact h
            · exact absurd (List.drop_eq_nil_of_le h) hne
          rw [HFU.out] at hf
          have HNE := Lib.hid hne
          clear hne
          by_cases hd : ((q.L.length - k : Nat) : Int) = q.frames
          · have hd1 : decide (((q.L.length - k : Nat) : Int) = q.frames) = true := decide_eq_true hd
            have hd2 : (((q.L.length - k : Nat) : Int) == q.frames) = true := by simpa using hd
            clear hd hf
            go_wp2_with fail
            go_quiet (fail)
            have hg5 := HG9.out nq
            have hq5 := HQ9.out nq
            clear HG9 HQ9 HBR c0 c1 c2 c3 x1 hd1 hd2 
            generalize wr.drewN nq = w5 at *
            go_wp2_with fail
            refine (drop p pv1 (qk q k) w5 hq5 HNE.out).mono ?_
            rintro e w2 ⟨u, rfl, hg2⟩
            have hdl := dropN_le (q.L.drop k) HNE.out
            have hdn := dropN_pos (q.L.drop k)
            rw [List.length_drop] at hdl
            have HG2 : Hid (Gone w5 w2 p pv1 (qk q (k + dropN (q.L.drop k))) u ((q.L.drop k).take (dropN (q.L.drop k)))) := Lib.hid (by rw [← qk_drop q k hkl]; exact hg2)
            have HA1 := Lib.hid (hg5.still HE1.out hg2 HP.out HPV.out)
            have HA2 := Lib.hid (HG2.out.fr.own.sub 0 (fun _ _ => Nat.zero_le _))
            have hll : Hid ((q.L.take k).length + ((q.L.drop k).take (dropN (q.L.drop k))).length ≤ 1048576) := Lib.hid (by simp only [List.length_take, List.length_drop]; omega)
            have HG5 := Lib.hid hg5
            clear hg2 hg5 hq5
            go_wp2_with (at_builtin; refine wpList_append_sub (E := IE) Tryz.underlying117 infoP rfl (by decide) (by decide) rfl _ _ rfl _ (q.L.take k) _ rfl HA1.out _ rfl 0 HA2.out hll.out ?_; intro v3 w3 hown3 hgrow3 hat3)
            have hG3 := HG5.out.grow HE1.out HG2.out HP.out HPV.out hown3 hgrow3 hat3
            rw [take_more] at hG3 hown3
            obtain ⟨a3, c3, hv3, _⟩ := hown3.form
            rw [show (q.L.take (k + dropN (q.L.drop k))).length = k + dropN (q.L.drop k) by rw [List.length_take]; omega] at hv3
            have HE := Lib.hid hG3
            have HGO2 := HGO.out.2
            rw [List.drop_drop] at HGO2
            have HS2 : Hid (k + dropN (q.L.drop k) + sh (full q y) (q.L.drop (k + dropN (q.L.drop k))) = putK q y) := Lib.hid (by have := HSH.out; omega)
            clear hown3 hgrow3 hat3 hG3 HGO2 HA1 HA2 hll HGO HSH HG2 HG5
            generalize dropN (q.L.drop k) = d at *
            subst hv3
            go_roundw
            case rel => exact ⟨k + d, by omega, HS2.out, ⟨_, _, rfl⟩, HE.out⟩
            case measure => show q.L.length - (k + d) < q.L.length - k; omega
          · have hd1 : decide (((q.L.length - k : Nat) : Int) = q.frames) = false := decide_eq_false hd
            have hd2 : (((q.L.length - k : Nat) : Int) == q.frames) = false := beq_false_of_ne hd
            rw [hd1, Bool.false_or] at hf
            clear hd
            go_wp2_with fail
            go_quiet (fail)
            have hg5 := HG9.out nq
            have hq5 := HQ9.out nq
            clear HG9 HQ9 HBR c0 c1 c2 c3 x1 hd1 hd2 hf
            generalize wr.drewN nq = w5 at *
            go_wp2_with fail
            refine (drop p pv1 (qk q k) w5 hq5 HNE.out).mono ?_
            rintro e w2 ⟨u, rfl, hg2⟩
            have hdl := dropN_le (q.L.drop k) HNE.out
            have hdn := dropN_pos (q.L.drop k)
            rw [List.length_drop] at hdl
            have HG2 : Hid (Gone w5 w2 p pv1 (qk q (k + dropN (q.L.drop k))) u ((q.L.drop k).take (dropN (q.L.drop k)))) := Lib.hid (by rw [← qk_drop q k hkl]; exact hg2)
            have HA1 := Lib.hid (hg5.still HE1.out hg2 HP.out HPV.out)
            have HA2 := Lib.hid (HG2.out.fr.own.sub 0 (fun _ _ => Nat.zero_le _))
            have hll : Hid ((q.L.take k).length + ((q.L.drop k).take (dropN (q.L.drop k))).length ≤ 1048576) := Lib.hid (by simp only [List.length_take, List.length_drop]; omega)
            have HG5 := Lib.hid hg5
            clear hg2 hg5 hq5
            go_wp2_with (at_builtin; refine wpList_append_sub (E := IE) Tryz.underlying117 infoP rfl (by decide) (by decide) rfl _ _ rfl _ (q.L.take k) _ rfl HA1.out _ rfl 0 HA2.out hll.out ?_; intro v3 w3 hown3 hgrow3 hat3)
            have hG3 := HG5.out.grow HE1.out HG2.out HP.out HPV.out hown3 hgrow3 hat3
            rw [take_more] at hG3 hown3
            obtain ⟨a3, c3, hv3, _⟩ := hown3.form
            rw [show (q.L.take (k + dropN (q.L.drop k))).length = k + dropN (q.L.drop k) by rw [List.length_take]; omega] at hv3
            have HE := Lib.hid hG3
            have HGO2 := HGO.out.2
            rw [List.drop_drop] at HGO2
            have HS2 : Hid (k + dropN (q.L.drop k) + sh (full q y) (q.L.drop (k + dropN (q.L.drop k))) = putK q y) := Lib.hid (by have := HSH.out; omega)
            clear hown3 hgrow3 hat3 hG3 HGO2 HA1 HA2 hll HGO HSH HG2 HG5
            generalize dropN (q.L.drop k) = d at *
            subst hv3
            go_roundw
            case rel => exact ⟨k + d, by omega, HS2.out, ⟨_, _, rfl⟩, HE.out⟩
            case measure => show q.L.length - (k + d) < q.L.length - k; omega
        · have hf : full q y (q.L.drop k) = false := by simpa using hf
          have HF := Lib.hid hf
          rw [HFU.out] at hf
          simp only [Bool.or_eq_false_iff] at hf
          obtain ⟨hd1, hd3⟩ := hf
          have hd2 : (((q.L.length - k : Nat) : Int) == q.frames) = false := beq_false_of_ne (by simpa using hd1)
          go_wp2_with fail
          go_quiet (fail)
          have hg5 := HG9.out nq
          have hq5 := HQ9.out nq
          have hb5 := HBR.out nq
          have HK : Hid (putK q y = k) := Lib.hid (by have := HSH.out; rw [sh_end _ _ HF.out] at this; omega)
          clear HG9 HQ9 HBR c0 c1 c2 c3 x0 x1 x2 x3 hd1 hd2 hd3 hw HFU
          generalize wr.drewN nq = w5 at *
          obtain ⟨⟨x0, x1, x2, x3⟩, _⟩ := four hb5
          have HG5 := Lib.hid hg5
          have HQ5 := Lib.hid hq5
          have HB5 := Lib.hid hb5
          clear hg5 hq5 hb5
          go_wp2_with fail
          refine (refuses p pv1 (qk q k) ⟨xn, xs, xt, xk⟩ w5 HQ5.out).mono ?_
          rintro e w6 ⟨rfl, n6⟩
          have HG6 := Lib.hid (HG5.out.later n6)
          have HQ6 := Lib.hid (HQ5.out.later n6)
          have hb6 := n6.blk HB5.out (fun h => h)
          have HB6 := Lib.hid hb6
          clear HG5 HQ5 HB5 n6 x0 x1 x2 x3
          obtain ⟨⟨x0, x1, x2, x3⟩, _⟩ := four hb6
          clear hb6
          have HBK : Hid ((putB q y && !y.key) = ((qk q k).broken && !xk)) := Lib.hid (by unfold putB qk; rw [HK.out, HY1.out.2])
          by_cases hB : ((qk q k).broken && !xk) = true
          · dsimp only
            rw [hB]
            have HE : Hid (PutPost w w6 p pv (putQ q y) (.slice ao7 k c7) (putD q y) ∧ putOk q y = false) := Lib.hid (by
              rw [hB] at HBK
              have e1 : putQ q y = qk q k := by
                unfold putQ
                rw [HB.out, if_neg (by simp), HBK.out, if_pos rfl]
                unfold putB qk
                rw [HK.out]
              have e2 : putD q y = q.L.take k := by unfold putD; rw [HB.out, if_neg (by simp), HK.out]
              have e3 : putOk q y = false := by unfold putOk; rw [HBK.out]; simp
              obtain ⟨pv2, hq2, he2⟩ := HG6.out.qs
              rw [e1, e2]
              exact ⟨⟨⟨HG6.out.fr.own, fun g hg => Nat.le_trans HNX.out.size (HG6.out.fr.vb g hg)⟩, ⟨pv2, hq2, .inl he2⟩, (HNX.out.mono (fun _ _ h => h.elim)).trans (HG6.out.turns.mono (fun _ _ h => .inl h))⟩, e3⟩)
            clear hB x0 x1 x2 x3
            go_wp2
            go_ret2
            rw [← HY.out]
            exact ⟨.slice ao7 k c7, by rw [HE.out.2]; rfl, HE.out.1⟩
          · have hB : ((qk q k).broken && !xk) = false := by simpa using hB
            dsimp only
            rw [hB]
            rw [hB] at HBK
            have HVA : Hid (∀ g, (Value.slice ao7 k c7).ownBlock = some g → g ≠ p ∧ pv1.ownBlock ≠ some g) := Lib.hid (fun g hg => by
              have := HG6.out.apart HP.out HPV.out g hg
              exact ⟨this.1, by rw [HE1.out]; exact this.2⟩)
            have HPB1 : Hid (pb ≠ p ∧ ∀ g, pv1.ownBlock = some g → pb ≠ g) := Lib.hid ⟨HPBX.out.1, fun g hg => HPBX.out.2 g (HE1.out ▸ hg)⟩
            have c2 := HQ6.out.blk.cell 2
            have f2 := HQ6.out.blk.free 2
            have hne := HQ6.out.ne
            have hpw := HQ6.out.lt
            have hown : w6.ownsRow 0 PT 4 pv1 (q.L.drop k).length (IE.all (q.L.drop k)) := HQ6.out.own
            rw [List.length_drop] at hown
            obtain ⟨i0, hi, hz0, hz1, hz2⟩ := infoOf infoP
            have hkm : q.L.length - k ≤ 1024 := by omega
            have hpv1 := HPV1.out
            subst hpv1
            clear hB
            go_wp2_with fail
            go_cut [] (fun wx => ∃ g cap, Plc w6 wx p pb (.slice ao (q.L.length - k) c) (.slice ao7 k c7) (qk q k) (q.L.take k) ⟨xn, xs, xt, xk⟩ g cap)
            case first =>
              go_region_law
                ((refine step_append_lies _ (by rfl) _ _ _ (by rfl) 0 PT i0 _ 4 32 Tryz.underlying117 hi hz0 hz1 hz2 rfl (by decide) (.slice ao (q.L.length - k) c) _ _ (by rfl) ((World.ownsRow.alloc hown _).drew)
                        ⟨w6.heap.size, 0, none⟩ 1 1 [.int .i64 xn, .int .i64 xs, .int .i64 xt, .bool xk] (by rfl) (by rfl) (World.news_of_block (cs := #[.int .i64 xn, .int .i64 xs, .int .i64 xt, .bool xk]) (t := PT) (fr := (0, 0)) (heap_alloc_new w6 _)) (by simp [Value.oneCell'])
                        (by omega) (by unfold maxLen; omega) (by omega) (Nat.zero_le _) (w6.heap.size + 1) (by simp) ?_; intro g cap w7 hown7 hgrow hat hlt7; have hc1 : w7.cell? ⟨p, 2, none⟩ = some (.slice ao (q.L.length - k) c) := (hgrow.cell_far ⟨p, 2, none⟩ (by simp; omega) (fun h => hne h.symm)).trans ((World.cell?_alloc_past _ _ _ hpw).trans c2); have hf1 : w7.frozen? ⟨p, 2, none⟩ = false := (hgrow.frozen_far ⟨p, 2, none⟩ (by simp; omega) (fun h => hne h.symm)).trans ((World.frozen?_alloc_past _ _ _ hpw).trans f2)))
              all_goals
                have M5 := Lib.hid (HQ6.out.placed HB6.out HPB1.out HG6.out.fr.own HVA.out (((Turns.refl (fun _ => False) w6).alloc _).drew) (q1 := qk q k) (x := ⟨xn, xs, xt, xk⟩) (g := g) (cap := cap) (by rw [show (qk q k).L.length = q.L.length - k from List.length_drop]; exact hown7) hgrow (by rcases hat with h | h; exact .inl h; exact .inr (by omega)))
                rw [show (qk q k).L.length = q.L.length - k from List.length_drop] at M5
                go_wp2_with fail
                go_meet
                case rel => exact ⟨_, _, M5.out⟩
            case rest =>
              obtain ⟨g, cap, hp⟩ := hcut
              have HPL := Lib.hid hp
              clear c2 f2 hne hpw hown hi hz0 hz1 hz2 x0 x1 x2 x3
              have e1 : putQ q y = ⟨q.frames, q.most, q.L.drop k ++ [y], false⟩ := by
                unfold putQ
                rw [HB.out, if_neg (by simp), HBK.out, if_neg (by simp), HK.out]
              have hok : Q.ok ⟨(qk q k).frames, (qk q k).most, (qk q k).L ++ [⟨xn, xs, xt, xk⟩], false⟩ := by
                have := putQ_ok HQ.out.ok (x := y)
                rw [e1, HY.out] at this
                exact this
              have e2 : putD q y = q.L.take k := by unfold putD; rw [HB.out, if_neg (by simp), HK.out]
              have e3 : putOk q y = true := by unfold putOk; rw [HB.out, HBK.out]; rfl
              have HE := Lib.hid (And.intro e1 (And.intro e2 (And.intro e3 hok)))
              have c3 := hp.blk.cell 3
              have f3 := hp.blk.free 3
              have c4 := hp.blk.cell 4
              have f4 := hp.blk.free 4
              have x1 : wc.cell? ⟨pb, 1, none⟩ = some (.int .i64 xs) := hp.box.cell 1
              have hSD := HSD.out
              rw [show (qk q k).L = q.L.drop k from rfl, hSD] at c3
              have d3 : ¬ q.most < sd + xs := by
                have := HF.out
                unfold full at this
                rw [HY1.out.1, hSD] at this
                simp at this
                omega
              have b1 : sd + xs ≤ 16777216 := by omega
              have hpl := hp.blk.lt
              clear hp e1 e2 e3 hok hSD d3
              go_wp2_with fail
              go_region
              all_goals
                go_wp2
                go_ret2
                have hfin := HPL.out.fin (((Turns.refl (· = p) _).setCell (p := ⟨p, 3, none⟩) (.inl rfl) (.int .i64 (sd + xs))).drew.setCell (p := ⟨p, 4, none⟩) (.inl rfl) (.bool false)) (by
                  have h := (HPL.out.blk.set 3 (.int .i64 (sd + xs))).drew.set 4 (.bool false)
                  rw [show (qk q k).L = q.L.drop k from rfl, HSD.out]
                  exact h) HE.out.2.2.2
                rw [← HY.out]
                refine ⟨.slice ao7 k c7, by rw [HE.out.2.2.1]; rfl, ⟨⟨by rw [HE.out.2.1]; exact hfin.1, fun g hg => Nat.le_trans HNX.out.size (HG6.out.fr.vb g hg)⟩, ⟨_, by rw [HE.out.1, HY.out]; exact hfin.2.1, ?_⟩, ?_⟩⟩
                · rcases HPL.out.loc with e | e
                  · left; show some g = pv.ownBlock; rw [← HE1.out, e]
                  · right; exact ⟨g, rfl, by have := HNX.out.size; have := HG6.out.turns.size; omega⟩
                · exact (HNX.out.mono (fun _ _ h => h.elim)).trans ((HG6.out.turns.trans (hfin.2.2.mono (fun i _ hi => .inl (by rcases hi with hi | hi; exact .inl hi; exact .inr (HE1.out ▸ hi))))).mono (fun _ _ h => .inl h))
end Go.Proofs.YtcppibjllaablaaGreat.que

/-
  egress.Out in memory: flows, each with its queue; the schedule; what a call on a part leaves of the rest.
-/
namespace Go.Proofs.YtcppibjllaablaaGreat.egr
open Go.RowKit mem Go.Maps
set_option linter.unusedVariables false

abbrev OB : TypeId := 98
abbrev GB : TypeId := 107
abbrev MT : TypeId := 95
abbrev New (w w' : World) : Prop := Turns (fun _ => False) w w'
theorem zeroP (w : World) : (zeroValue 102).run Tryz.prog w = .ok (.pointer none) w := by kernel_rfl

/-- a flow: its number, the block that holds it, is it of pictures, its queue -/
structure Ef where
  id : Int
  fb : Nat
  video : Bool
  qb : Nat
  pv : Value
  q : que.Q
structure Eo where
  frames : Int
  bytes : Int
  age : Int
  most : Int
  guard : Int
  credit : Int
  row : Int
  L : List Ef
  s : drr.Sc
/-- where an outlet lies -/
structure Ad where
  o : Nat
  mb : Nat
  sp : Nat
  smb : Nat
def fnd (L : List Ef) (id : Int) : Option Ef := L.find? (fun f => f.id == id)
theorem fnd_some {L : List Ef} {id : Int} {f : Ef} (h : fnd L id = some f) : f ∈ L ∧ f.id = id := by
  refine ⟨List.mem_of_find?_eq_some h, ?_⟩
  have := List.find?_some h
  simpa using this
theorem fnd_none {L : List Ef} {id : Int} (h : fnd L id = none) : ∀ f ∈ L, f.id ≠ id := fun f hf e => by
  have := List.find?_eq_none.1 h f hf
  simp [e] at this
/-- nothing in common -/
def Apart (f g : Ef) : Prop := f.id ≠ g.id ∧ f.fb ≠ g.fb ∧ f.qb ≠ g.qb ∧ ∀ x, f.pv.ownBlock = some x → g.pv.ownBlock ≠ some x
theorem Apart.symm {f g : Ef} (h : Apart f g) : Apart g f := ⟨fun e => h.1 e.symm, fun e => h.2.1 e.symm, fun e => h.2.2.1 e.symm, fun x e1 e2 => h.2.2.2 x e2 e1⟩
def Ap (L : List Ef) : Prop := L.Pairwise Apart
theorem Ap.two {L : List Ef} (h : Ap L) : ∀ {f g : Ef}, f ∈ L → g ∈ L → f = g ∨ Apart f g := by
  induction L with
  | nil => intro f g hf; cases hf
  | cons x l ih =>
    have hp := List.pairwise_cons.1 h
    intro f g hf hg
    rcases List.mem_cons.1 hf with hf | hf <;> rcases List.mem_cons.1 hg with hg | hg
    · exact .inl (by rw [hf, hg])
    · rw [hf]; exact .inr (hp.1 g hg)
    · rw [hg]; exact .inr (hp.1 f hf).symm
    · exact ih hp.2 hf hg
theorem Ap.fnd {L : List Ef} (h : Ap L) {f : Ef} (hf : f ∈ L) : fnd L f.id = some f := by
  unfold egr.fnd
  cases hx : L.find? (fun g => g.id == f.id) with
  | none =>
    have := List.find?_eq_none.1 hx f hf
    simp at this
  | some g =>
    obtain ⟨h1, h2⟩ := fnd_some (L := L) (id := f.id) hx
    rcases h.two h1 hf with e | e
    · rw [e]
    · exact absurd h2 e.1
abbrev cells (e : Eo) (A : Ad) : Array Value := #[.int .i64 e.frames, .int .i64 e.bytes, .int .i64 e.age, .int .i64 e.most, .int .i64 e.guard, .map (some A.mb), .pointer (some ⟨A.sp, 0, none⟩), .int .i64 e.credit, .int .i64 e.row]
abbrev fcells (f : Ef) : Array Value := #[.pointer (some ⟨f.qb, 0, none⟩), .bool f.video]
/-- the map of the flows -/
structure Rd (D : DataW Unit) (L : List Ef) : Prop where
  has : ∀ id, has D (.int .i64 id) = (fnd L id).isSome
  at_ : ∀ f ∈ L, ∀ z, D.atKey (.int .i64 f.id) z = .lit (.int .i64 (f.fb : Int))
structure Cf (e : Eo) : Prop where
  f0 : 1 ≤ e.frames
  f1 : e.frames ≤ 1024
  b0 : 1 ≤ e.bytes
  b1 : e.bytes ≤ 16777216
  a0 : 1 ≤ e.age
  a1 : e.age ≤ 1099511627776
  m0 : 1 ≤ e.most
  m1 : e.most ≤ 16777216
  g0 : 1 ≤ e.guard
  g1 : e.guard ≤ 1024
  c0 : 0 ≤ e.credit
  c1 : e.credit ≤ 1099511627776
/-- what a flow's queue keeps -/
structure Fq (e : Eo) (f : Ef) : Prop where
  fr : f.q.frames = e.frames
  mo : f.q.most = e.bytes
  sz : ∀ x ∈ f.q.L, x.size ≤ e.most
structure Es (w : World) (A : Ad) (k : Nat) (e : Eo) : Prop where
  blk : Blk w A.o (cells e A) OB
  map : ∃ c D, c ≤ k ∧ w.ownsMap Tryz.prog 3 drr.ptrE A.mb c D ∧ Rd D e.L
  fb : ∀ f ∈ e.L, Blk w f.fb (fcells f) GB
  qs : ∀ f ∈ e.L, que.Qs w f.qb f.pv f.q
  sch : ∃ c D, c ≤ k ∧ drr.Ss w A.sp A.smb c D e.s
  ap : Ap e.L
  mm : A.mb ≠ A.smb
  rg : ∀ f ∈ e.L, -9223372036854775808 ≤ f.id ∧ f.id ≤ 9223372036854775807
  cf : Cf e
  fq : ∀ f ∈ e.L, Fq e f
  sm : e.s.most = e.most
  vs : ∀ id, (∃ f ∈ e.s.L, f.id = id) ↔ ∃ f ∈ e.L, f.id = id ∧ f.video = true

/-! ### blocks of other types are other blocks -/
theorem blk_ne {w : World} {p r : Nat} {cs ds : Array Value} {T U : TypeId} (h : Blk w p cs T) (k : Blk w r ds U) (hT : T ≠ U) : p ≠ r := by
  rintro rfl
  unfold Blk at h k
  rw [h] at k
  injection k with k
  injection k with _ k
  exact hT k
theorem own_ne {α : Type} {E : Enc α} {w : World} {r : Nat} {v : Value} {l : List α} {ds : Array Value} {T U : TypeId} (h : Owns E T w v l) (k : Blk w r ds U) (hT : T ≠ U) : v.ownBlock ≠ some r := by
  intro e
  rcases h.2 with ⟨rfl, _⟩ | ⟨g, cap, cur, rfl, _, hb, _⟩
  · simp [Value.ownBlock] at e
  · have : g = r := by simpa [Value.ownBlock] using e
    subst this
    unfold Blk at k
    rw [hb] at k
    injection k with k
    injection k with _ k
    exact hT k
section
variable {w w' : World} {A : Ad} {k : Nat} {e : Eo} (h : Es w A k e)
include h
theorem Es.lt : A.o < w.heap.size := h.blk.lt
theorem Es.later (n : New w w') : Es w' A k e := by
  obtain ⟨c, D, hc, hm, hr⟩ := h.map
  obtain ⟨c2, D2, hc2, hs⟩ := h.sch
  exact ⟨n.blk h.blk (fun h => h), ⟨c, D, hc, ownsMap_turns hm n (fun h => h), hr⟩, fun f hf => n.blk (h.fb f hf) (fun h => h), fun f hf => (h.qs f hf).later n, ⟨c2, D2, hc2, hs.later n⟩, h.ap, h.mm, h.rg, h.cf, h.fq, h.sm, h.vs⟩
theorem Es.more {k' : Nat} (hk : k ≤ k') : Es w A k' e := by
  obtain ⟨c, D, hc, hm, hr⟩ := h.map
  obtain ⟨c2, D2, hc2, hs⟩ := h.sch
  exact ⟨h.blk, ⟨c, D, by omega, hm, hr⟩, h.fb, h.qs, ⟨c2, D2, by omega, hs⟩, h.ap, h.mm, h.rg, h.cf, h.fq, h.sm, h.vs⟩
/-- the outlet's own cells turn -/
theorem Es.self {e' : Eo} (t : Turns (· = A.o) w w') (hb : Blk w' A.o (cells e' A) OB) (hL : e'.L = e.L) (hs : e'.s = e.s) (hm : e'.most = e.most) (hf : e'.frames = e.frames) (hby : e'.bytes = e.bytes) (cf : Cf e') : Es w' A k e' := by
  obtain ⟨c, D, hc, hmp, hr⟩ := h.map
  obtain ⟨c2, D2, hc2, hss⟩ := h.sch
  refine ⟨hb, ⟨c, D, hc, ownsMap_turns hmp t (ownsMap_ne hmp h.blk), by rw [hL]; exact hr⟩, fun f hf => ?_, fun f hf => ?_, ⟨c2, D2, hc2, ?_⟩, by rw [hL]; exact h.ap, h.mm, by rw [hL]; exact h.rg, cf, fun f hf' => ?_, by rw [hs, hm]; exact h.sm, by rw [hs, hL]; exact h.vs⟩
  · rw [hL] at hf
    exact t.blk (h.fb f hf) (fun e2 => blk_ne (h.fb f hf) h.blk (by decide) e2)
  · rw [hL] at hf
    exact (h.qs f hf).turns t (fun e2 => blk_ne (h.qs f hf).blk h.blk (by decide) e2) (fun g hg e2 => own_ne (h.qs f hf).own h.blk (by decide) (by rw [hg, e2]))
  · rw [hs]
    exact hss.turns t (fun e2 => blk_ne hss.blk h.blk (by decide) e2) (ownsMap_ne hss.map h.blk) (fun f hf e2 => blk_ne (hss.fb f hf) h.blk (by decide) e2)
  · rw [hL] at hf'
    have := h.fq f hf'
    exact ⟨this.fr.trans hf.symm, this.mo.trans hby.symm, by rw [hm]; exact this.sz⟩
/-- the schedule turns -/
theorem Es.sched {s' : drr.Sc} (hl : ∀ c D, drr.Ss w A.sp A.smb c D e.s → drr.Ss w' A.sp A.smb c D s' ∧ Turns (drr.Foot A.sp A.smb e.s) w w') (sim : drr.Sim e.s s') : Es w' A k ⟨e.frames, e.bytes, e.age, e.most, e.guard, e.credit, e.row, e.L, s'⟩ := by
  obtain ⟨c, D, hc, hmp, hr⟩ := h.map
  obtain ⟨c2, D2, hc2, hss⟩ := h.sch
  obtain ⟨hs', t⟩ := hl c2 D2 hss
  have off : ∀ {r : Nat} {cs : Array Value} {T : TypeId}, Blk w r cs T → T ≠ 174 → T ≠ 178 → ¬ drr.Foot A.sp A.smb e.s r := fun hb h1 h2 hk => by
    rcases hk with e2 | e2 | ⟨f, hf, e2⟩
    · exact blk_ne hb hss.blk h1 e2
    · exact ownsMap_ne hss.map hb e2.symm
    · exact blk_ne hb (hss.fb f hf) h2 e2.symm
  refine ⟨t.blk h.blk (off h.blk (by decide) (by decide)), ⟨c, D, hc, ownsMap_turns hmp t (fun hk => ?_), hr⟩, fun f hf => t.blk (h.fb f hf) (off (h.fb f hf) (by decide) (by decide)), fun f hf => (h.qs f hf).turns t (off (h.qs f hf).blk (by decide) (by decide)) (fun g hg hk => ?_), ⟨c2, D2, hc2, hs'⟩, h.ap, h.mm, h.rg, ⟨h.cf.f0, h.cf.f1, h.cf.b0, h.cf.b1, h.cf.a0, h.cf.a1, h.cf.m0, h.cf.m1, h.cf.g0, h.cf.g1, h.cf.c0, h.cf.c1⟩, fun f hf => ⟨(h.fq f hf).fr, (h.fq f hf).mo, (h.fq f hf).sz⟩, sim.1.trans h.sm, fun id => ?_⟩
  · rcases hk with e2 | e2 | ⟨f, hf, e2⟩
    · exact ownsMap_ne hmp hss.blk e2
    · exact h.mm e2
    · exact ownsMap_ne hmp (hss.fb f hf) e2.symm
  · rcases hk with e2 | e2 | ⟨f', hf', e2⟩
    · exact own_ne (h.qs f hf).own hss.blk (by decide) (by rw [hg, e2])
    · exact ownsMap_ne_row hss.map (h.qs f hf).own g hg e2.symm
    · exact own_ne (h.qs f hf).own (hss.fb f' hf') (by decide) (by rw [hg, e2])
  · rw [← h.vs id]
    obtain ⟨_, F, e2⟩ := sim
    constructor
    · rintro ⟨f, hf, hid⟩
      rw [show (Eo.s ⟨e.frames, e.bytes, e.age, e.most, e.guard, e.credit, e.row, e.L, s'⟩) = s' from rfl, e2] at hf
      obtain ⟨f', hf', rfl⟩ := drr.upd_mem hf
      exact ⟨f', hf', hid⟩
    · rintro ⟨f, hf, hid⟩
      show ∃ f ∈ s'.L, _
      rw [e2]
      exact ⟨_, drr.upd_mem' hf, hid⟩
end
/-- a flow's queue anew -/
def setQ (L : List Ef) (id : Int) (pv : Value) (q : que.Q) : List Ef := L.map (fun g => if g.id = id then ⟨g.id, g.fb, g.video, g.qb, pv, q⟩ else g)
theorem setQ_mem {L : List Ef} {id : Int} {pv : Value} {q : que.Q} {g : Ef} (h : g ∈ setQ L id pv q) : ∃ f ∈ L, g = if f.id = id then ⟨f.id, f.fb, f.video, f.qb, pv, q⟩ else f := by
  obtain ⟨f, hf, e⟩ := List.mem_map.1 h
  exact ⟨f, hf, e.symm⟩
theorem fnd_setQ (L : List Ef) (id x : Int) (pv : Value) (q : que.Q) : (fnd (setQ L id pv q) x).isSome = (fnd L x).isSome := by
  unfold fnd setQ
  induction L with
  | nil => rfl
  | cons f l ih =>
    rw [List.map_cons, List.find?_cons, List.find?_cons]
    have e : ((if f.id = id then (⟨f.id, f.fb, f.video, f.qb, pv, q⟩ : Ef) else f).id == x) = (f.id == x) := by split <;> rfl
    rw [e]
    split
    · rfl
    · exact ih
/-- a call on a flow's queue -/
theorem Es.queue {w w' : World} {A : Ad} {k : Nat} {e : Eo} (h : Es w A k e) {f : Ef} (hf : f ∈ e.L) {q' : que.Q} (hl : que.Lft w w' f.qb f.pv q') (hfr : q'.frames = f.q.frames) (hmo : q'.most = f.q.most) (hsz : ∀ x ∈ q'.L, x.size ≤ e.most) :
    ∃ pv', (pv'.ownBlock = f.pv.ownBlock ∨ ∃ g, pv'.ownBlock = some g ∧ w.heap.size ≤ g) ∧ Es w' A k ⟨e.frames, e.bytes, e.age, e.most, e.guard, e.credit, e.row, setQ e.L f.id pv' q', e.s⟩ := by
  obtain ⟨c, D, hc, hmp, hr⟩ := h.map
  obtain ⟨c2, D2, hc2, hss⟩ := h.sch
  obtain ⟨⟨pv', hq', hloc⟩, t⟩ := hl
  have hqf := h.qs f hf
  have off : ∀ {r : Nat} {cs : Array Value} {T : TypeId}, Blk w r cs T → T ≠ 170 → T ≠ 67 → ¬ que.Foot f.qb f.pv r := fun hb h1 h2 hk => by
    rcases hk with e2 | e2
    · exact blk_ne hb hqf.blk h1 e2
    · exact own_ne hqf.own hb (fun e3 => h2 e3.symm) e2
  have same : ∀ g ∈ e.L, g.id = f.id → g = f := fun g hg e2 => by
    rcases h.ap.two hg hf with e3 | e3
    · exact e3
    · exact absurd e2 e3.1
  have part : ∀ g ∈ e.L, g.id ≠ f.id → Apart g f := fun g hg e2 => by
    rcases h.ap.two hg hf with e3 | e3
    · exact absurd (by rw [e3]) e2
    · exact e3
  refine ⟨pv', hloc, t.blk h.blk (off h.blk (by decide) (by decide)), ⟨c, D, hc, ownsMap_turns hmp t (fun hk => ?_), ⟨fun id => by rw [hr.has id]; exact (fnd_setQ _ _ _ _ _).symm, fun g hg z => ?_⟩⟩, fun g hg => ?_, fun g hg => ?_, ⟨c2, D2, hc2, hss.turns t (off hss.blk (by decide) (by decide)) (fun hk => ?_) (fun g hg => off (hss.fb g hg) (by decide) (by decide))⟩, ?_, h.mm, fun g hg => ?_, ⟨h.cf.f0, h.cf.f1, h.cf.b0, h.cf.b1, h.cf.a0, h.cf.a1, h.cf.m0, h.cf.m1, h.cf.g0, h.cf.g1, h.cf.c0, h.cf.c1⟩, fun g hg => ?_, h.sm, fun id => ?_⟩
  · rcases hk with e2 | e2
    · exact ownsMap_ne hmp hqf.blk e2
    · exact ownsMap_ne_row hmp hqf.own _ e2 rfl
  · obtain ⟨g', hg', rfl⟩ := setQ_mem hg
    by_cases e2 : g'.id = f.id
    · rw [if_pos e2]; exact hr.at_ g' hg' z
    · rw [if_neg e2]; exact hr.at_ g' hg' z
  · obtain ⟨g', hg', rfl⟩ := setQ_mem hg
    have := t.blk (h.fb g' hg') (off (h.fb g' hg') (by decide) (by decide))
    by_cases e2 : g'.id = f.id
    · rw [if_pos e2]; exact this
    · rw [if_neg e2]; exact this
  · obtain ⟨g', hg', rfl⟩ := setQ_mem hg
    by_cases e2 : g'.id = f.id
    · rw [if_pos e2]
      have := same g' hg' e2
      subst this
      exact hq'
    · rw [if_neg e2]
      have hp := part g' hg' e2
      refine (h.qs g' hg').turns t (fun hk => ?_) (fun x hx hk => ?_)
      · rcases hk with e3 | e3
        · exact hp.2.2.1 e3
        · exact own_ne hqf.own (h.qs g' hg').blk (by decide) e3
      · rcases hk with e3 | e3
        · exact own_ne (h.qs g' hg').own hqf.blk (by decide) (by rw [hx, e3])
        · exact hp.2.2.2 x hx e3
  · rcases hk with e2 | e2
    · exact ownsMap_ne hss.map hqf.blk e2
    · exact ownsMap_ne_row hss.map hqf.own _ e2 rfl
  · show (e.L.map _).Pairwise _
    rw [List.pairwise_map]
    have hmem : e.L.Pairwise (fun a b => (a ∈ e.L ∧ b ∈ e.L) ∧ Apart a b) := by
      have := List.Pairwise.and_mem.1 h.ap
      exact this.imp (fun hx => ⟨⟨hx.1, hx.2.1⟩, hx.2.2⟩)
    refine hmem.imp (fun {a b} hab => ?_)
    obtain ⟨⟨ha, hb⟩, hp⟩ := hab
    have fresh : ∀ g ∈ e.L, g.id ≠ f.id → ∀ x, g.pv.ownBlock = some x → pv'.ownBlock ≠ some x := fun g hg hne x hx hx' => by
      rcases hloc with e3 | ⟨y, e3, hy⟩
      · exact (part g hg hne).2.2.2 x hx (by rw [← e3]; exact hx')
      · rw [e3] at hx'; injection hx' with hx'
        have := (h.qs g hg).own.lt x hx
        omega
    by_cases e1 : a.id = f.id
    · have e2 : ¬ b.id = f.id := fun e2 => hp.1 (by rw [e1, e2])
      rw [if_pos e1, if_neg e2]
      exact ⟨hp.1, hp.2.1, hp.2.2.1, fun x hx hx' => fresh b hb e2 x hx' hx⟩
    · by_cases e2 : b.id = f.id
      · rw [if_neg e1, if_pos e2]
        exact ⟨hp.1, hp.2.1, hp.2.2.1, fun x hx hx' => fresh a ha e1 x hx hx'⟩
      · rw [if_neg e1, if_neg e2]; exact hp
  · obtain ⟨g', hg', rfl⟩ := setQ_mem hg
    by_cases e2 : g'.id = f.id
    · rw [if_pos e2]; exact h.rg g' hg'
    · rw [if_neg e2]; exact h.rg g' hg'
  · obtain ⟨g', hg', rfl⟩ := setQ_mem hg
    by_cases e2 : g'.id = f.id
    · rw [if_pos e2]
      have := h.fq f hf
      exact ⟨hfr.trans this.fr, hmo.trans this.mo, hsz⟩
    · rw [if_neg e2]
      have := h.fq g' hg'
      exact ⟨this.fr, this.mo, this.sz⟩
  · rw [h.vs id]
    constructor
    · rintro ⟨g, hg, hid, hv⟩
      refine ⟨_, List.mem_map.2 ⟨g, hg, rfl⟩, ?_, ?_⟩
      · split <;> exact hid
      · split <;> exact hv
    · rintro ⟨g, hg, hid, hv⟩
      obtain ⟨g', hg', rfl⟩ := setQ_mem hg
      refine ⟨g', hg', ?_, ?_⟩
      · split at hid <;> exact hid
      · split at hv <;> exact hv
end Go.Proofs.YtcppibjllaablaaGreat.egr

/-
  egress.Out: Check, New, Credit, Broken, Spend.
-/
namespace Go.Proofs.YtcppibjllaablaaGreat.egr
open Go.RowKit mem Go.Maps
set_option linter.unusedVariables false

abbrev CT : TypeId := 36
def Va (a b c d g : Int) : Prop := (1 ≤ a ∧ a ≤ 1024) ∧ (1 ≤ b ∧ b ≤ 16777216) ∧ (1 ≤ c ∧ c ≤ 1099511627776) ∧ (1 ≤ d ∧ d ≤ 16777216) ∧ (1 ≤ g ∧ g ≤ 1024)
theorem five {w : World} {p : Nat} {a b c d e : Value} {T : TypeId} (h : Blk w p #[a, b, c, d, e] T) :
    w.cell? ⟨p, 0, none⟩ = some a ∧ w.cell? ⟨p, 1, none⟩ = some b ∧ w.cell? ⟨p, 2, none⟩ = some c ∧ w.cell? ⟨p, 3, none⟩ = some d ∧ w.cell? ⟨p, 4, none⟩ = some e := ⟨h.cell 0, h.cell 1, h.cell 2, h.cell 3, h.cell 4⟩
theorem nine {w : World} {p : Nat} {a b c d e f g h i : Value} {T : TypeId} (k : Blk w p #[a, b, c, d, e, f, g, h, i] T) :
    (w.cell? ⟨p, 0, none⟩ = some a ∧ w.cell? ⟨p, 1, none⟩ = some b ∧ w.cell? ⟨p, 2, none⟩ = some c ∧ w.cell? ⟨p, 3, none⟩ = some d ∧ w.cell? ⟨p, 4, none⟩ = some e ∧ w.cell? ⟨p, 5, none⟩ = some f ∧ w.cell? ⟨p, 6, none⟩ = some g ∧ w.cell? ⟨p, 7, none⟩ = some h ∧ w.cell? ⟨p, 8, none⟩ = some i)
    ∧ w.frozen? ⟨p, 7, none⟩ = false ∧ w.frozen? ⟨p, 8, none⟩ = false :=
  ⟨⟨k.cell 0, k.cell 1, k.cell 2, k.cell 3, k.cell 4, k.cell 5, k.cell 6, k.cell 7, k.cell 8⟩, k.free 7, k.free 8⟩
abbrev cfg (a b c d g : Int) : Array Value := #[.int .i64 a, .int .i64 b, .int .i64 c, .int .i64 d, .int .i64 g]
set_option maxRecDepth 10000 in
set_option maxHeartbeats 2000000 in
theorem check_bad (a b c d g : Int) (w : World) (h : ¬ Va a b c d g) :
    Calls Tryz.prog 35 #[.agg (cfg a b c d g)] w fun e w' => e = .returned (.int .i64 5) ∧ New w w' := by
  have hb : Blk (w.alloc (.cells (cfg a b c d g) CT)) w.heap.size (cfg a b c d g) CT := Blk.new _ _ _
  obtain ⟨c0, c1, c2, c3, c4⟩ := five hb
  have HN : Hid (New w (w.alloc (.cells (cfg a b c d g) CT))) := Lib.hid ((Turns.refl _ _).alloc _)
  clear hb
  go_enter Tryz.func35, Tryz.ntmps35
  by_cases l0 : a < 1
  · have dl0 : decide (a < 1) = true := decide_eq_true l0
    clear h l0
    go_wp2
    go_ret
    exact ⟨rfl, HN.out⟩
  · have dl0 : decide (a < 1) = false := decide_eq_false l0
    by_cases u0 : 1024 < a
    · have du0 : decide (1024 < a) = true := decide_eq_true u0
      clear h u0
      go_wp2
      go_ret
      exact ⟨rfl, HN.out⟩
    · have du0 : decide (1024 < a) = false := decide_eq_false u0
      by_cases l1 : b < 1
      · have dl1 : decide (b < 1) = true := decide_eq_true l1
        clear h l1
        go_wp2
        go_ret
        exact ⟨rfl, HN.out⟩
      · have dl1 : decide (b < 1) = false := decide_eq_false l1
        by_cases u1 : 16777216 < b
        · have du1 : decide (16777216 < b) = true := decide_eq_true u1
          clear h u1
          go_wp2
          go_ret
          exact ⟨rfl, HN.out⟩
        · have du1 : decide (16777216 < b) = false := decide_eq_false u1
          by_cases l2 : c < 1
          · have dl2 : decide (c < 1) = true := decide_eq_true l2
            clear h l2
            go_wp2
            go_ret
            exact ⟨rfl, HN.out⟩
          · have dl2 : decide (c < 1) = false := decide_eq_false l2
            by_cases u2 : 1099511627776 < c
            · have du2 : decide (1099511627776 < c) = true := decide_eq_true u2
              clear h u2
              go_wp2
              go_ret
              exact ⟨rfl, HN.out⟩
            · have du2 : decide (1099511627776 < c) = false := decide_eq_false u2
              by_cases l3 : d < 1
              · have dl3 : decide (d < 1) = true := decide_eq_true l3
                clear h l3
                go_wp2
                go_ret
                exact ⟨rfl, HN.out⟩
              · have dl3 : decide (d < 1) = false := decide_eq_false l3
                by_cases u3 : 16777216 < d
                · have du3 : decide (16777216 < d) = true := decide_eq_true u3
                  clear h u3
                  go_wp2
                  go_ret
                  exact ⟨rfl, HN.out⟩
                · have du3 : decide (16777216 < d) = false := decide_eq_false u3
                  by_cases l4 : g < 1
                  · have dl4 : decide (g < 1) = true := decide_eq_true l4
                    clear h l4
                    go_wp2
                    go_ret
                    exact ⟨rfl, HN.out⟩
                  · have dl4 : decide (g < 1) = false := decide_eq_false l4
                    by_cases u4 : 1024 < g
                    · have du4 : decide (1024 < g) = true := decide_eq_true u4
                      clear h u4
                      go_wp2
                      go_ret
                      exact ⟨rfl, HN.out⟩
                    · have du4 : decide (1024 < g) = false := decide_eq_false u4
                      exact absurd ⟨⟨by omega, by omega⟩, ⟨by omega, by omega⟩, ⟨by omega, by omega⟩, ⟨by omega, by omega⟩, by omega, by omega⟩ h
set_option maxRecDepth 10000 in
set_option maxHeartbeats 1000000 in
theorem check_ok (a b c d g : Int) (w : World) (h : Va a b c d g) :
    Calls Tryz.prog 35 #[.agg (cfg a b c d g)] w fun e w' => e = .returned (.int .i64 0) ∧ New w w' := by
  have hb : Blk (w.alloc (.cells (cfg a b c d g) CT)) w.heap.size (cfg a b c d g) CT := Blk.new _ _ _
  obtain ⟨c0, c1, c2, c3, c4⟩ := five hb
  have HN : Hid (New w (w.alloc (.cells (cfg a b c d g) CT))) := Lib.hid ((Turns.refl _ _).alloc _)
  obtain ⟨⟨a0, a1⟩, ⟨b0, b1⟩, ⟨x0, x1⟩, ⟨d0, d1⟩, g0, g1⟩ := h
  have dl0 : decide (a < 1) = false := decide_eq_false (by omega)
  have du0 : decide (1024 < a) = false := decide_eq_false (by omega)
  have dl1 : decide (b < 1) = false := decide_eq_false (by omega)
  have du1 : decide (16777216 < b) = false := decide_eq_false (by omega)
  have dl2 : decide (c < 1) = false := decide_eq_false (by omega)
  have du2 : decide (1099511627776 < c) = false := decide_eq_false (by omega)
  have dl3 : decide (d < 1) = false := decide_eq_false (by omega)
  have du3 : decide (16777216 < d) = false := decide_eq_false (by omega)
  have dl4 : decide (g < 1) = false := decide_eq_false (by omega)
  have du4 : decide (1024 < g) = false := decide_eq_false (by omega)
  clear hb a0 a1 b0 b1 x0 x1 d0 d1 g0 g1
  go_enter Tryz.func35, Tryz.ntmps35
  go_wp2
  go_ret
  exact ⟨rfl, HN.out⟩

def fresh (a b c d g : Int) : Eo := ⟨a, b, c, d, g, 0, 0, [], drr.fresh d⟩
structure Made (w w' : World) (A : Ad) (k : Nat) (e : Eo) : Prop where
  es : Es w' A k e
  n : New w w'
  o0 : w.heap.size ≤ A.o
  m0 : w.heap.size ≤ A.mb
  s0 : w.heap.size ≤ A.sp
  t0 : w.heap.size ≤ A.smb
  f0 : ∀ f ∈ e.L, w.heap.size ≤ f.fb ∧ w.heap.size ≤ f.qb ∧ ∀ x, f.pv.ownBlock = some x → w.heap.size ≤ x
  g0 : ∀ f ∈ e.s.L, w.heap.size ≤ f.b
theorem Made.later {w w1 w2 : World} {A : Ad} {k : Nat} {e : Eo} (h : Made w w1 A k e) (n : New w1 w2) : Made w w2 A k e :=
  ⟨h.es.later n, h.n.trans (n.mono (fun _ _ h => h.elim)), h.o0, h.m0, h.s0, h.t0, h.f0, h.g0⟩
set_option maxRecDepth 10000 in
theorem new_bad (a b c d g : Int) (w : World) (h : ¬ Va a b c d g) :
    Calls Tryz.prog 13 #[.agg (cfg a b c d g)] w fun e w' => e = .returned (.tuple #[.pointer none, .int .i64 5]) ∧ New w w' := by
  have hb : Blk (w.alloc (.cells (cfg a b c d g) CT)) w.heap.size (cfg a b c d g) CT := Blk.new _ _ _
  obtain ⟨c0, c1, c2, c3, c4⟩ := five hb
  have HC := Lib.hid (check_bad a b c d g (w.alloc (.cells (cfg a b c d g) CT)) h)
  have HN : Hid (New w (w.alloc (.cells (cfg a b c d g) CT))) := Lib.hid ((Turns.refl _ _).alloc _)
  clear hb h
  go_enter Tryz.func13, Tryz.ntmps13
  go_wp2_with fail
  refine HC.out.mono ?_
  rintro e w1 ⟨rfl, n1⟩
  have HN1 : Hid (New w w1) := Lib.hid (HN.out.trans (n1.mono (fun _ _ h => h.elim)))
  clear n1
  go_wp2
  go_ret2
  exact ⟨rfl, HN1.out⟩
set_option maxRecDepth 10000 in
set_option maxHeartbeats 1000000 in
theorem new_ok (a b c d g : Int) (w : World) (h : Va a b c d g) :
    Calls Tryz.prog 13 #[.agg (cfg a b c d g)] w fun e w' => ∃ A : Ad, e = .returned (.tuple #[.pointer (some ⟨A.o, 0, none⟩), .int .i64 0]) ∧ Made w w' A 0 (fresh a b c d g) := by
  have hmm := @run_makeMap Tryz.prog
  have hb : Blk (w.alloc (.cells (cfg a b c d g) CT)) w.heap.size (cfg a b c d g) CT := Blk.new _ _ _
  obtain ⟨c0, c1, c2, c3, c4⟩ := five hb
  have HB := Lib.hid hb
  have HC := Lib.hid (check_ok a b c d g (w.alloc (.cells (cfg a b c d g) CT)) h)
  have HN : Hid (New w (w.alloc (.cells (cfg a b c d g) CT))) := Lib.hid ((Turns.refl _ _).alloc _)
  have HV := Lib.hid h
  have HD := Lib.hid (fun W => drr.new_ok d W h.2.2.2.1.1 h.2.2.2.1.2)
  clear hb h
  go_enter Tryz.func13, Tryz.ntmps13
  go_wp2_with fail
  refine HC.out.mono ?_
  rintro e w1 ⟨rfl, n1⟩
  have HN1 : Hid (New w w1) := Lib.hid (HN.out.trans (n1.mono (fun _ _ h => h.elim)))
  have hb1 := n1.blk HB.out (fun h => h)
  have HB1 := Lib.hid hb1
  clear c0 c1 c2 c3 c4 n1 HC
  obtain ⟨c0, c1, c2, c3, c4⟩ := five hb1
  clear hb1 HB
  go_wp2_with fail
  refine (HD.out _).mono ?_
  rintro e w2 ⟨sp, rfl, hs, n2, hsp⟩
  have hb2 := n2.blk HB1.out (fun h => h)
  have HS := Lib.hid hs
  have HN2 : Hid (New w w2) := Lib.hid (HN1.out.trans (n2.mono (fun _ _ h => h.elim)))
  have HW1 : Hid (w.heap.size ≤ w1.heap.size ∧ w1.heap.size ≤ sp) := Lib.hid ⟨HN1.out.size, hsp⟩
  clear c0 c1 c2 c3 c4 n2 hs hsp
  obtain ⟨c0, c1, c2, c3, c4⟩ := five hb2
  clear hb2 HB1 HD
  generalize w1.heap.size = smb at *
  go_wp2
  go_ret2
  have e1 : (w2.alloc (.map #[] 0)).heap.size = w2.heap.size + 1 := by unfold World.alloc; exact Array.size_push _
  have hbo := Blk.new (w2.alloc (.map #[] 0)) (cells (fresh a b c d g) ⟨w2.heap.size + 1, w2.heap.size, sp, smb⟩) OB
  rw [e1] at hbo
  have k1 : New w2 ((w2.alloc (.map #[] 0)).alloc (.cells (cells (fresh a b c d g) ⟨w2.heap.size + 1, w2.heap.size, sp, smb⟩) OB)) := ((Turns.refl _ _).alloc _).alloc _
  have hml := HS.out.mlt
  have hn2 := HN2.out.size
  have hv := HV.out
  refine ⟨⟨w2.heap.size + 1, w2.heap.size, sp, smb⟩, rfl, ⟨hbo, ⟨0, .map [], Nat.le_refl _, (World.ownsMap_made _ _ _ _).alloc _, ⟨(fun id => rfl), (fun f hf => by cases hf)⟩⟩, (fun f hf => by cases hf), (fun f hf => by cases hf), ⟨0, .map [], Nat.le_refl _, HS.out.later k1⟩, List.Pairwise.nil, (by show w2.heap.size ≠ smb; omega), (fun f hf => by cases hf), ⟨hv.1.1, hv.1.2, hv.2.1.1, hv.2.1.2, hv.2.2.1.1, hv.2.2.1.2, hv.2.2.2.1.1, hv.2.2.2.1.2, hv.2.2.2.2.1, hv.2.2.2.2.2, Int.le_refl _, (by show (0 : Int) ≤ _; omega)⟩, (fun f hf => by cases hf), rfl, (fun id => ⟨(fun ⟨f, hf, _⟩ => by cases hf), (fun ⟨f, hf, _⟩ => by cases hf)⟩)⟩, HN2.out.trans (k1.mono (fun _ _ h => h.elim)), (by show w.heap.size ≤ w2.heap.size + 1; omega), hn2, (by have := HW1.out; show w.heap.size ≤ sp; omega), HW1.out.1, (fun f hf => by cases hf), (fun f hf => by cases hf)⟩

section
variable {w : World} {mb c : Nat} {D : DataW Unit} {id : Int}
theorem look_ok_at (h : w.ownsMap Tryz.prog 3 drr.ptrE mb c D) (n0 : -9223372036854775808 ≤ id) (n1 : id ≤ 9223372036854775807) {b : Nat} (hb : ∀ z, D.atKey (.int .i64 id) z = .lit (.int .i64 b)) :
    (Instr.lookup MT (.map (some mb)) (.int .i64 id) true).run Tryz.prog w = .ok (.tuple #[.pointer (some ⟨b, 0, none⟩), .bool true]) w := by
  obtain ⟨v, ps, hrun, hv⟩ := h.look_ok drr.lawI Tryz.underlying95 (zeroP w) (zd := .lit (.int .i64 (-1))) (zp := []) rfl (drr.keyI n0 n1)
  rw [hb] at hv
  rw [drr.ptrE_inv hv, has_true_of_atKey hb] at hrun
  exact hrun
theorem look_ok_none (h : w.ownsMap Tryz.prog 3 drr.ptrE mb c D) (n0 : -9223372036854775808 ≤ id) (n1 : id ≤ 9223372036854775807) (hb : has D (.int .i64 id) = false) :
    (Instr.lookup MT (.map (some mb)) (.int .i64 id) true).run Tryz.prog w = .ok (.tuple #[.pointer none, .bool false]) w := by
  obtain ⟨v, ps, hrun, hv⟩ := h.look_ok drr.lawI Tryz.underlying95 (zeroP w) (zd := .lit (.int .i64 (-1))) (zp := []) rfl (drr.keyI n0 n1)
  rw [atKey_of_not_has hb] at hv
  rw [drr.ptrE_nil hv, hb] at hrun
  exact hrun
end
theorem Es.look {w : World} {A : Ad} {k : Nat} {e : Eo} (h : Es w A k e) {f : Ef} (hf : f ∈ e.L) : (Instr.lookup MT (.map (some A.mb)) (.int .i64 f.id) true).run Tryz.prog w = .ok (.tuple #[.pointer (some ⟨f.fb, 0, none⟩), .bool true]) w := by
  obtain ⟨c, D, _, hm, hr⟩ := h.map
  exact look_ok_at hm (h.rg f hf).1 (h.rg f hf).2 (hr.at_ f hf)
theorem Es.look_none {w : World} {A : Ad} {k : Nat} {e : Eo} (h : Es w A k e) {id : Int} (hf : fnd e.L id = none) (n0 : -9223372036854775808 ≤ id) (n1 : id ≤ 9223372036854775807) : (Instr.lookup MT (.map (some A.mb)) (.int .i64 id) true).run Tryz.prog w = .ok (.tuple #[.pointer none, .bool false]) w := by
  obtain ⟨c, D, _, hm, hr⟩ := h.map
  exact look_ok_none hm n0 n1 (by rw [hr.has id, hf]; rfl)
end Go.Proofs.YtcppibjllaablaaGreat.egr
