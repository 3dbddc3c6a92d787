/-
  drr, as pure functions: flows, whose turn it is, Choose, Take. No program.
-/
import Derived.Test.YtcaloeolmoodbaaMem
namespace Go.Proofs.Ytcaloeolmoodbaa.drr
open Go.RowKit mem
set_option linter.unusedVariables false

/-- a flow: its number, the block that holds it, its share, its balance -/
structure Fl where
  id : Int
  b : Nat
  share : Int
  left : Int
structure Sc where
  most : Int
  L : List Fl
  turn : Int
  g : Bool

def fnd (L : List Fl) (id : Int) : Option Fl := L.find? (fun f => f.id == id)
theorem fnd_some {L : List Fl} {id : Int} {f : Fl} (h : fnd L id = some f) : f ∈ L ∧ f.id = id := by
  refine ⟨List.mem_of_find?_eq_some h, ?_⟩
  have := List.find?_some h
  simpa using this
/-- no two flows have a number, or a block, in common -/
def Ap (L : List Fl) : Prop := L.Pairwise (fun f g => f.id ≠ g.id ∧ f.b ≠ g.b)
theorem Ap.eq {L : List Fl} (h : Ap L) : ∀ {f g : Fl}, f ∈ L → g ∈ L → (f.id = g.id ∨ f.b = g.b) → f = g := by
  induction L with
  | nil => intro f g hf; cases hf
  | cons x l ih =>
    have hp := List.pairwise_cons.1 h
    intro f g hf hg e
    rcases List.mem_cons.1 hf with hf | hf <;> rcases List.mem_cons.1 hg with hg | hg
    · rw [hf, hg]
    · have := hp.1 g hg
      rw [← hf] at this
      rcases e with e | e
      · exact absurd e this.1
      · exact absurd e this.2
    · have := hp.1 f hf
      rw [← hg] at this
      rcases e with e | e
      · exact absurd e.symm this.1
      · exact absurd e.symm this.2
    · exact ih hp.2 hf hg e
theorem Ap.fnd {L : List Fl} (h : Ap L) {f : Fl} (hf : f ∈ L) : fnd L f.id = some f := by
  unfold drr.fnd
  cases hx : L.find? (fun g => g.id == f.id) with
  | none =>
    have := List.find?_eq_none.1 hx f hf
    simp at this
  | some g =>
    obtain ⟨h1, h2⟩ := fnd_some (L := L) (id := f.id) hx
    rw [h.eq h1 hf (.inl h2)]

/-- each flow's balance anew -/
def upd (L : List Fl) (F : Fl → Int) : List Fl := L.map (fun f => ⟨f.id, f.b, f.share, F f⟩)
theorem upd_mem {L : List Fl} {F : Fl → Int} {g : Fl} (h : g ∈ upd L F) : ∃ f ∈ L, g = ⟨f.id, f.b, f.share, F f⟩ := by
  obtain ⟨f, hf, e⟩ := List.mem_map.1 h
  exact ⟨f, hf, e.symm⟩
theorem upd_mem' {L : List Fl} {F : Fl → Int} {f : Fl} (h : f ∈ L) : (⟨f.id, f.b, f.share, F f⟩ : Fl) ∈ upd L F := List.mem_map.2 ⟨f, h, rfl⟩
theorem Ap.upd {L : List Fl} (h : Ap L) (F : Fl → Int) : Ap (upd L F) := by
  unfold Ap drr.upd
  rw [List.pairwise_map]
  exact h
theorem fnd_upd (L : List Fl) (F : Fl → Int) (id : Int) : fnd (upd L F) id = (fnd L id).map (fun f => ⟨f.id, f.b, f.share, F f⟩) := by
  unfold fnd upd
  induction L with
  | nil => rfl
  | cons x l ih =>
    rw [List.map_cons, List.find?_cons, List.find?_cons]
    dsimp only
    split
    · rfl
    · exact ih
theorem upd_same (L : List Fl) (F : Fl → Int) (h : ∀ f ∈ L, F f = f.left) : upd L F = L := by
  unfold upd
  rw [List.map_congr_left (g := id) (fun f hf => by rw [h f hf]; rfl), List.map_id]
theorem upd_upd (L : List Fl) (F G : Fl → Int) : upd (upd L F) G = upd L (fun f => G ⟨f.id, f.b, f.share, F f⟩) := by
  unfold upd
  rw [List.map_map]
  rfl
theorem upd_congr {L : List Fl} {F G : Fl → Int} (h : ∀ f ∈ L, F f = G f) : upd L F = upd L G := by
  unfold upd
  exact List.map_congr_left (fun f hf => by rw [h f hf])
def setL (L : List Fl) (id x : Int) : List Fl := upd L (fun f => if f.id = id then x else f.left)

/-- the heads of flows: number and size -/
abbrev Hs := List (Int × Int)
def ids (l : Hs) : List Int := l.map (·.1)
def sizeOf' (l : Hs) (id : Int) : Int := match l.find? (fun h => h.1 == id) with | some h => h.2 | none => 0
theorem sizeOf_mem {l : Hs} {id : Int} (h : id ∈ ids l) : (id, sizeOf' l id) ∈ l := by
  unfold sizeOf'
  cases hx : l.find? (fun h => h.1 == id) with
  | none =>
    obtain ⟨y, hy, e⟩ := List.mem_map.1 h
    have := List.find?_eq_none.1 hx y hy
    simp [e] at this
  | some y =>
    have h1 := List.mem_of_find?_eq_some hx
    have h2 := List.find?_some hx
    simp at h2
    subst h2
    exact h1
/-- the next number behind t -/
def nextId (l : List Int) (t : Int) : Int := l.getD ((l.countP (fun x => decide (x < t)) + (if t ∈ l then 1 else 0)) % l.length) 0
theorem nextId_mem {l : List Int} (hl : l ≠ []) (t : Int) : nextId l t ∈ l := by
  unfold nextId
  have h0 : 0 < l.length := List.length_pos_iff.2 hl
  have hlt : (l.countP (fun x => decide (x < t)) + (if t ∈ l then 1 else 0)) % l.length < l.length := Nat.mod_lt _ h0
  rw [List.getD_eq_getElem?_getD, List.getElem?_eq_getElem hlt]
  exact List.getElem_mem hlt

def forgetF (l : Hs) (f : Fl) : Int := if f.id ∈ ids l then f.left else 0
def grantS (s : Sc) : Sc := if s.g then s else ⟨s.most, upd s.L (fun f => if f.id = s.turn then f.left + f.share else f.left), s.turn, true⟩
def passS (l : Hs) (s : Sc) : Sc := ⟨s.most, s.L, nextId (ids l) s.turn, false⟩
def leftOf (s : Sc) (id : Int) : Int := match fnd s.L id with | some f => f.left | none => 0
def lowS (l : Hs) (s : Sc) : Bool := decide (leftOf (grantS s) s.turn < sizeOf' l s.turn)
def runS (l : Hs) (s : Sc) : Sc := if lowS l s then grantS (passS l (grantS s)) else grantS s
def begS (l : Hs) (s : Sc) : Sc := ⟨s.most, upd s.L (forgetF l), s.turn, s.g⟩
def firS (l : Hs) (s : Sc) : Sc := if s.turn ∈ ids l then begS l s else passS l (begS l s)
def chooseS (l : Hs) (s : Sc) : Sc := match l with
  | [] => ⟨s.most, upd s.L (forgetF []), s.turn, false⟩
  | _ :: _ => runS l (firS l s)
def takeS (n : Int) (s : Sc) : Sc := if s.g = true ∧ 0 ≤ n ∧ n ≤ leftOf s s.turn then ⟨s.most, upd s.L (fun f => if f.id = s.turn then f.left - n else f.left), s.turn, s.g⟩ else s

structure Sc.ok (s : Sc) : Prop where
  m0 : 1 ≤ s.most
  m1 : s.most ≤ 16777216
  f : ∀ f ∈ s.L, s.most ≤ f.share ∧ f.share ≤ 16777216 ∧ 0 ≤ f.left ∧ f.left < s.most + f.share ∧ (f.id ≠ s.turn ∨ s.g = false → f.left < s.most)
  t : s.g = true → ∃ f ∈ s.L, f.id = s.turn
/-- heads that may be told: rising numbers, of flows that are there -/
structure Ok (s : Sc) (l : Hs) : Prop where
  asc : (ids l).Pairwise (· < ·)
  fl : ∀ h ∈ l, ∃ f ∈ s.L, f.id = h.1
  sz : ∀ h ∈ l, 0 ≤ h.2 ∧ h.2 ≤ s.most

theorem Sc.ok.beg {s : Sc} (h : s.ok) (l : Hs) : (begS l s).ok := by
  refine ⟨h.m0, h.m1, fun g hg => ?_, fun e => ?_⟩
  · obtain ⟨f, hf, rfl⟩ := upd_mem hg
    obtain ⟨h1, h2, h3, h4, h5⟩ := h.f f hf
    have hm := h.m0
    show s.most ≤ f.share ∧ f.share ≤ 16777216 ∧ 0 ≤ forgetF l f ∧ forgetF l f < s.most + f.share ∧ (f.id ≠ s.turn ∨ s.g = false → forgetF l f < s.most)
    unfold forgetF
    split
    · exact ⟨h1, h2, h3, h4, h5⟩
    · exact ⟨h1, h2, Int.le_refl _, by omega, fun _ => by omega⟩
  · obtain ⟨f, hf, e⟩ := h.t e
    exact ⟨_, upd_mem' hf, e⟩
theorem Sc.ok.pass {s : Sc} (h : s.ok) (l : Hs) (hl : ∀ f ∈ s.L, f.id = s.turn → f.left < s.most) : (passS l s).ok :=
  ⟨h.m0, h.m1, fun f hf => by
    obtain ⟨h1, h2, h3, h4, h5⟩ := h.f f hf
    refine ⟨h1, h2, h3, h4, fun _ => ?_⟩
    by_cases e : f.id = s.turn
    · exact hl f hf e
    · exact h5 (.inl e), fun e => by cases e⟩
theorem Sc.ok.grant {s : Sc} (h : s.ok) (ht : ∃ f ∈ s.L, f.id = s.turn) : (grantS s).ok := by
  unfold grantS
  split
  next => exact h
  next hg =>
    refine ⟨h.m0, h.m1, fun g hgm => ?_, fun _ => ?_⟩
    · obtain ⟨f, hf, rfl⟩ := upd_mem hgm
      obtain ⟨h1, h2, h3, h4, h5⟩ := h.f f hf
      have h6 := h5 (.inr (by simpa using hg))
      refine ⟨h1, h2, ?_, ?_, fun e => ?_⟩
      · show 0 ≤ (if f.id = s.turn then f.left + f.share else f.left)
        have := h.m0
        split <;> omega
      · show (if f.id = s.turn then f.left + f.share else f.left) < s.most + f.share
        split <;> omega
      · show (if f.id = s.turn then f.left + f.share else f.left) < s.most
        rcases e with e | e
        · rw [if_neg e]; exact h6
        · cases e
    · obtain ⟨f, hf, e⟩ := ht
      exact ⟨_, upd_mem' hf, e⟩
theorem grant_turn (s : Sc) : (grantS s).turn = s.turn ∧ (grantS s).most = s.most ∧ (grantS s).g = true := by
  unfold grantS
  split
  next h => exact ⟨rfl, rfl, h⟩
  next h => exact ⟨rfl, rfl, rfl⟩
theorem grant_fl {s : Sc} {id : Int} (h : ∃ f ∈ s.L, f.id = id) : ∃ f ∈ (grantS s).L, f.id = id := by
  unfold grantS
  split
  · exact h
  · obtain ⟨f, hf, e⟩ := h
    exact ⟨_, upd_mem' hf, e⟩
/-- one who was not granted has enough, once granted -/
theorem grant_enough {s : Sc} (h : s.ok) (ap : Ap s.L) (ht : ∃ f ∈ s.L, f.id = s.turn) (hg : s.g = false) {n : Int} (hn : n ≤ s.most) : n ≤ leftOf (grantS s) s.turn := by
  obtain ⟨f, hf, e⟩ := ht
  obtain ⟨h1, h2, h3, h4, h5⟩ := h.f f hf
  have hfn := ap.fnd hf
  rw [e] at hfn
  have : leftOf (grantS s) s.turn = f.left + f.share := by
    unfold leftOf grantS
    rw [hg]
    simp only [Bool.false_eq_true, if_false]
    rw [fnd_upd, hfn]
    simp [e]
  omega
theorem Sc.ok.fir {s : Sc} (h : s.ok) {l : Hs} (hl : l ≠ []) (ok : Ok s l) : (firS l s).ok ∧ (firS l s).turn ∈ ids l ∧ (firS l s).most = s.most := by
  unfold firS
  split
  next ht => exact ⟨h.beg l, ht, rfl⟩
  next ht =>
    refine ⟨(h.beg l).pass l (fun f hf e => ?_), nextId_mem (by unfold ids; simpa using hl) _, rfl⟩
    obtain ⟨f', hf', rfl⟩ := upd_mem hf
    have hm := h.m0
    show forgetF l f' < s.most
    unfold forgetF
    rw [if_neg (by intro hx; exact ht (by rw [← (show f'.id = s.turn from e)]; exact hx))]
    omega
end Go.Proofs.Ytcaloeolmoodbaa.drr
