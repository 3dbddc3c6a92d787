/-
  The reference of layer 14, and 'does': a call on both.
-/
import Derived.Test.YtmnaldfknhnacaaGatSeq
import Derived.Test.YtmnaldfknhnacaaMask
import Derived.Test.YtmnaldfknhnacaaPuts
import Derived.RegionTactic
import Derived.ChangeAlike
namespace Go.Proofs.Ytmnaldfknhnacaa.gat
open Go.RowKit mem
set_option linter.unusedVariables false

def atV : Bool → Int → Int
  | true, a => a
  | false, _ => -1
abbrev rx (g : G) : Array Value := #[.bool g.v, .bool g.p, .int .i64 (atV g.o g.a), .int .i64 g.m, .int .i64 g.s, .int .i64 g.t]

theorem rclose (g : G) (w : World) (ho : g.ok) :
    Calls Try.prog 20 #[.agg (rx g)] w fun e w' => e = .returned (.agg (rx (shutG g))) ∧ New w w' := by
  obtain ⟨m0, a0, s0, s1, t0, t1⟩ := ho
  obtain ⟨v, m, o, a, b, s, t⟩ := g
  cases o
  all_goals
    unfold rx
    simp only [atV]
    dsimp only at *
    go_enter Try.func20, Try.ntmps20
    go_wp2
    go_returns
    exact ⟨rfl, by (repeat (first | (refine Turns.setCell ?_ (.inr (by simp; try omega)) _) | (refine Turns.alloc ?_ _) | (refine Turns.drew ?_))); exact Turns.refl _ _⟩

set_option maxHeartbeats 1000000 in
theorem rpass (g : G) (l : Int) (k : Bool) (w : World) (ho : g.ok) (hl : 0 ≤ l) :
    Calls Try.prog 18 #[.agg (rx g), .int .i64 l, .bool k] w fun e w' => e = .returned (.tuple #[.agg (rx (passG g l k)), .bool (passB g l k)]) ∧ New w w' := by
  obtain ⟨m0, a0, s0, s1, t0, t1⟩ := ho
  obtain ⟨v, m, o, a, b, s, t⟩ := g
  dsimp only at *
  unfold rx
  cases b
  · cases v
    · cases o
      all_goals
        simp only [atV]
        go_enter Try.func18, Try.ntmps18
        go_wp2
        go_returns
        exact ⟨rfl, by (repeat (first | (refine Turns.setCell ?_ (.inr (by simp; try omega)) _) | (refine Turns.alloc ?_ _) | (refine Turns.drew ?_))); exact Turns.refl _ _⟩
    · by_cases hk : (k && (l == m)) = true
      · have hkt : k = true ∧ l = m := by simpa using hk
        obtain ⟨rfl, rfl⟩ := hkt
        have e1 : passB ⟨true, l, o, a, false, s, t⟩ l true = true := by simp [passB, goesB]
        have e2 : passG ⟨true, l, o, a, false, s, t⟩ l true = turnG ⟨true, l, o, a, false, s, t⟩ l := by simp [passG, goesB]
        rw [e1, e2]
        clear hk e1 e2
        cases o
        · simp only [atV]
          go_enter Try.func18, Try.ntmps18
          go_wp2
          go_returns
          exact ⟨rfl, by (repeat (first | (refine Turns.setCell ?_ (.inr (by simp; try omega)) _) | (refine Turns.alloc ?_ _) | (refine Turns.drew ?_))); exact Turns.refl _ _⟩
        · by_cases ha : a = l
          · subst ha
            have e3 : turnG ⟨true, a, true, a, false, s, t⟩ a = ⟨true, a, true, a, false, s, t⟩ := by simp [turnG]
            rw [e3]
            simp only [atV]
            go_enter Try.func18, Try.ntmps18
            go_wp2
            go_returns
            exact ⟨rfl, by (repeat (first | (refine Turns.setCell ?_ (.inr (by simp; try omega)) _) | (refine Turns.alloc ?_ _) | (refine Turns.drew ?_))); exact Turns.refl _ _⟩
          · have e3 : turnG ⟨true, l, true, a, false, s, t⟩ l = ⟨true, l, true, l, false, s, t + 1⟩ := by simp [turnG, ha]
            have hab : (a != l) = true := by simpa using ha
            rw [e3]
            simp only [atV]
            clear e3
            go_enter Try.func18, Try.ntmps18
            go_wp2
            go_returns
            exact ⟨rfl, by (repeat (first | (refine Turns.setCell ?_ (.inr (by simp; try omega)) _) | (refine Turns.alloc ?_ _) | (refine Turns.drew ?_))); exact Turns.refl _ _⟩
      · have hkf : (k && (l == m)) = false := by simpa using hk
        have e1 : passB ⟨true, m, o, a, false, s, t⟩ l k = isAtB ⟨true, m, o, a, false, s, t⟩ l := by simp only [passB, goesB, hkf]; simp
        have e2 : passG ⟨true, m, o, a, false, s, t⟩ l k = ⟨true, m, o, a, false, s, t⟩ := by simp only [passG, goesB, hkf]; simp
        rw [e1, e2]
        clear e1 e2 hk
        cases k
        · clear hkf
          by_cases hlm : l = m
          · subst hlm
            cases o
            all_goals
              simp only [atV]
              go_enter Try.func18, Try.ntmps18
              go_wp2
              go_region
              all_goals
                go_wp2
                go_returns
                exact ⟨rfl, by (repeat (first | (refine Turns.setCell ?_ (.inr (by simp; try omega)) _) | (refine Turns.alloc ?_ _) | (refine Turns.drew ?_))); exact Turns.refl _ _⟩
          · have hlm2 : (l == m) = false := by simpa using hlm
            cases o
            all_goals
              simp only [atV]
              go_enter Try.func18, Try.ntmps18
              go_wp2
              go_region
              all_goals
                go_wp2
                go_returns
                exact ⟨rfl, by (repeat (first | (refine Turns.setCell ?_ (.inr (by simp; try omega)) _) | (refine Turns.alloc ?_ _) | (refine Turns.drew ?_))); exact Turns.refl _ _⟩
        · have hlm : (l == m) = false := by simpa using hkf
          clear hkf
          cases o
          all_goals
            simp only [atV]
            go_enter Try.func18, Try.ntmps18
            go_wp2
            go_region
            all_goals
              go_wp2
              go_returns
              exact ⟨rfl, by (repeat (first | (refine Turns.setCell ?_ (.inr (by simp; try omega)) _) | (refine Turns.alloc ?_ _) | (refine Turns.drew ?_))); exact Turns.refl _ _⟩
  · go_enter Try.func18, Try.ntmps18
    go_wp2
    go_returns
    exact ⟨rfl, by (repeat (first | (refine Turns.setCell ?_ (.inr (by simp; try omega)) _) | (refine Turns.alloc ?_ _) | (refine Turns.drew ?_))); exact Turns.refl _ _⟩

theorem Gt.alloc {w : World} {p : Nat} {g : G} (h : Gt w p g) (o : Obj) : Gt (w.alloc o) p g := Blk.alloc h o
theorem at_pre {w w1 w2 : World} {p : Nat} {t : G} (h1 : New w w1) (h2 : At w1 w2 p t) : At w w2 p t :=
  ⟨h2.1, (h1.mono (fun _ _ h => h.elim)).trans (h2.2.mono (fun _ _ h => .inl h))⟩
theorem at_fin {w w1 w2 : World} {p : Nat} {t : G} (hp : p < w.heap.size) (h1 : At w w1 p t) (h2 : Turns (fun k => w.heap.size ≤ k) w1 w2) : At w w2 p t :=
  ⟨h1.1.turns h2 (by omega), h1.2.trans (h2.mono (fun _ _ h => .inr h))⟩
abbrev XG := 27
theorem made3 {w w1 : World} {A B C : Array Value} {tA tB tC : TypeId} {p : Nat} {t : G} (hp : p < w.heap.size)
    (h1 : At (((w.alloc (.cells A tA)).alloc (.cells B tB)).alloc (.cells C tC)) w1 p t) :
    Blk w1 w.heap.size A tA ∧ Blk w1 (w.heap.size + 1) B tB ∧ Blk w1 (w.heap.size + 1 + 1) C tC ∧ At w w1 p t := by
  have a1 : Blk (((w.alloc (.cells A tA)).alloc (.cells B tB)).alloc (.cells C tC)) w.heap.size A tA := ((Blk.new w _ _).alloc _).alloc _
  have b1 := Blk.new (w.alloc (.cells A tA)) B tB
  rw [World.size_alloc] at b1
  have c1 := Blk.new ((w.alloc (.cells A tA)).alloc (.cells B tB)) C tC
  rw [World.size_alloc, World.size_alloc] at c1
  exact ⟨h1.2.blk a1 (by omega), h1.2.blk (b1.alloc _) (by omega), h1.2.blk c1 (by omega), at_pre (((Turns.refl _ _).alloc _).alloc _ |>.alloc _) h1⟩
/-- six cells, all of which may be written -/
theorem six {w : World} {p : Nat} {c0 c1 c2 c3 c4 c5 : Value} {t : TypeId} (h : Blk w p #[c0, c1, c2, c3, c4, c5] t) :
    (w.cell? ⟨p, 0, none⟩ = some c0 ∧ w.cell? ⟨p, 1, none⟩ = some c1 ∧ w.cell? ⟨p, 2, none⟩ = some c2 ∧ w.cell? ⟨p, 3, none⟩ = some c3 ∧ w.cell? ⟨p, 4, none⟩ = some c4 ∧ w.cell? ⟨p, 5, none⟩ = some c5)
    ∧ w.frozen? ⟨p, 0, none⟩ = false ∧ w.frozen? ⟨p, 1, none⟩ = false ∧ w.frozen? ⟨p, 2, none⟩ = false ∧ w.frozen? ⟨p, 3, none⟩ = false ∧ w.frozen? ⟨p, 4, none⟩ = false ∧ w.frozen? ⟨p, 5, none⟩ = false :=
  ⟨⟨h.cell 0, h.cell 1, h.cell 2, h.cell 3, h.cell 4, h.cell 5⟩, h.free 0, h.free 1, h.free 2, h.free 3, h.free 4, h.free 5⟩
theorem four {w : World} {p : Nat} {c0 c1 c2 c3 : Value} {t : TypeId} (h : Blk w p #[c0, c1, c2, c3] t) :
    w.cell? ⟨p, 0, none⟩ = some c0 ∧ w.cell? ⟨p, 1, none⟩ = some c1 ∧ w.cell? ⟨p, 2, none⟩ = some c2 ∧ w.cell? ⟨p, 3, none⟩ = some c3 :=
  ⟨h.cell 0, h.cell 1, h.cell 2, h.cell 3⟩

def stepG (g : G) (k l : Int) (key on : Bool) : G :=
  if k = 1 then passG g (l % 4) key else if k = 2 then wantG g l else if k = 3 then shutG g else if k = 4 then pauseG g on else g
def goesK (g : G) (k l : Int) (key : Bool) : Bool := if k = 1 then passB g (l % 4) key else false

theorem at_new {w w1 w2 : World} {p : Nat} {t : G} (h1 : At w w1 p t) (h2 : New w1 w2) : At w w2 p t :=
  ⟨h1.1.turns h2 (fun h => h), h1.2.trans (h2.mono (fun _ _ h => h.elim))⟩

abbrev Does (g : G) (k l : Int) (key on : Bool) (p : Nat) (w : World) (e : Ending) (w' : World) : Prop :=
  e = .returned (.tuple #[.agg (rx (stepG g k l key on)), .bool (goesK g k l key), .bool true]) ∧ At w w' p (stepG g k l key on)
end Go.Proofs.Ytmnaldfknhnacaa.gat
