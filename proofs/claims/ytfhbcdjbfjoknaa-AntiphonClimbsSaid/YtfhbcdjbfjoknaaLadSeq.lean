/-
  ladder.Ladder: what each call answers, and what it leaves.
-/
import Derived.Test.YtfhbcdjbfjoknaaRows
import Derived.Test.YtfhbcdjbfjoknaaIntRows
import Derived.Test.YtfhbcdjbfjoknaaPuts
import Derived.Handy
import Derived.Outline
import Derived.Lib.Hide
import Derived.RegionTactic
import Derived.Deep.RegionHeld3
import Derived.Deep.QuietTactic
import Derived.BigQuiet
import Derived.Deep.DeepCutAuto
namespace Go.Proofs.Ytfhbcdjbfjoknaa.lad
open Go.RowKit mem
open ints (IE IT ST infoI)
set_option linter.unusedVariables false

structure Q where
  down : Int
  up : Int
  spare : Int
  N : List Int
  aim : Nat
  at' : Nat
  bad : Int
  good : Int
  moves : Int

abbrev New (w w' : World) : Prop := Turns (fun _ => False) w w'
abbrev LT : TypeId := 64
abbrev cells (s : Q) (g c : Nat) : Array Value := #[.int .i64 s.down, .int .i64 s.up, .int .i64 s.spare, .slice (some ⟨g, 0, none⟩) s.N.length c, .int .i64 s.aim, .int .i64 s.at', .int .i64 s.bad, .int .i64 s.good, .int .i64 s.moves]
def nd (s : Q) (i : Nat) : Int := s.N.getD i 0
/-- the values that come about -/
structure Q.ok (s : Q) : Prop where
  n1 : 1 ≤ s.N.length
  n3 : s.N.length ≤ 3
  nb : ∀ x ∈ s.N, 0 ≤ x ∧ x ≤ 1099511627776
  al : s.at' < s.N.length
  il : s.aim < s.N.length
  d0 : 1 ≤ s.down
  d1 : s.down ≤ 1048576
  u0 : 1 ≤ s.up
  u1 : s.up ≤ 1048576
  p0 : 0 ≤ s.spare
  p1 : s.spare ≤ 100
  b0 : 0 ≤ s.bad
  b1 : s.bad ≤ 1048576
  g0 : 0 ≤ s.good
  g1 : s.good ≤ 1048576
  m0 : 0 ≤ s.moves
  m1 : s.moves ≤ 1048576
theorem nd_eq (s : Q) (i : Nat) (h : i < s.N.length) : nd s i = s.N[i] := by simp [nd, h]
theorem Q.ok.nd {s : Q} (h : s.ok) (i : Nat) : 0 ≤ nd s i ∧ nd s i ≤ 1099511627776 := by
  by_cases hi : i < s.N.length
  · rw [nd_eq s i hi]; exact h.nb _ (List.getElem_mem hi)
  · have : lad.nd s i = 0 := by simp [lad.nd]; rw [List.getElem?_eq_none (by omega)]; rfl
    rw [this]; omega

structure Ls (w : World) (p g c : Nat) (s : Q) : Prop where
  blk : Blk w p (cells s g c) LT
  row : ∀ k, k < s.N.length → w.cell? ⟨g, k, none⟩ = some (.int .i64 (nd s k))
  gl : g < w.heap.size
  ne : g ≠ p
theorem nine {w : World} {p : Nat} {a b c d e f g h i : Value} {T : TypeId} (k : Blk w p #[a, b, c, d, e, f, g, h, i] T) :
    w.cell? ⟨p, 0, none⟩ = some a ∧ w.cell? ⟨p, 1, none⟩ = some b ∧ w.cell? ⟨p, 2, none⟩ = some c ∧ w.cell? ⟨p, 3, none⟩ = some d ∧ w.cell? ⟨p, 4, none⟩ = some e ∧ w.cell? ⟨p, 5, none⟩ = some f ∧ w.cell? ⟨p, 6, none⟩ = some g ∧ w.cell? ⟨p, 7, none⟩ = some h ∧ w.cell? ⟨p, 8, none⟩ = some i :=
  ⟨k.cell 0, k.cell 1, k.cell 2, k.cell 3, k.cell 4, k.cell 5, k.cell 6, k.cell 7, k.cell 8⟩
theorem frees {w : World} {p : Nat} {cs : Array Value} {T : TypeId} (k : Blk w p cs T) :
    w.frozen? ⟨p, 4, none⟩ = false ∧ w.frozen? ⟨p, 5, none⟩ = false ∧ w.frozen? ⟨p, 6, none⟩ = false ∧ w.frozen? ⟨p, 7, none⟩ = false ∧ w.frozen? ⟨p, 8, none⟩ = false := ⟨k.free 4, k.free 5, k.free 6, k.free 7, k.free 8⟩

section
variable {w w1 w2 : World} {p g c : Nat} {s t : Q}
theorem Ls.later (h : Ls w p g c s) (n : New w w1) : Ls w1 p g c s :=
  ⟨n.blk h.blk (fun h => h), fun k hk => (n.cell (a := ⟨g, k, none⟩) h.gl (fun h => h)).trans (h.row k hk), Nat.lt_of_lt_of_le h.gl n.size, h.ne⟩
abbrev At (w w' : World) (p g c : Nat) (s : Q) : Prop := Ls w' p g c s ∧ Turns (· = p) w w'
theorem At.same (h : Ls w p g c s) : At w w p g c s := ⟨h, Turns.refl _ _⟩
theorem At.drew (h : At w w1 p g c s) : At w w1.drew p g c s := ⟨h.1.later ((Turns.refl _ _).drew), h.2.drew⟩
theorem At.of_drew (h : At w.drew w1 p g c s) : At w w1 p g c s := ⟨h.1, h.2.of_drew⟩
theorem At.trans (h1 : At w w1 p g c s) (h2 : At w1 w2 p g c t) : At w w2 p g c t := ⟨h2.1, h1.2.trans (h2.2.mono (fun _ _ h => .inl h))⟩
theorem At.of_new (n : New w w1) (h : At w1 w2 p g c t) : At w w2 p g c t := ⟨h.1, (n.mono (fun _ _ h => h.elim)).trans (h.2.mono (fun _ _ h => .inl h))⟩
/-- a cell of the ladder is stored -/
theorem Ls.set (h : Ls w p g c s) (i : Nat) (u : Value) (hc : (cells s g c).setIfInBounds i u = cells t g c) (hn : t.N = s.N) : At w (w.setCell ⟨p, i, none⟩ u) p g c t := by
  have ht : Turns (· = p) w (w.setCell ⟨p, i, none⟩ u) := (Turns.refl (· = p) _).setCell (.inl rfl) _
  refine ⟨⟨by rw [← hc]; exact h.blk.set i u, fun k hk => ?_, Nat.lt_of_lt_of_le h.gl ht.size, h.ne⟩, ht⟩
  rw [hn] at hk
  have := (ht.cell (a := ⟨g, k, none⟩) h.gl h.ne).trans (h.row k hk)
  rw [this]
  simp [nd, hn]
end

theorem at_ (p g c : Nat) (s : Q) (w : World) (h : Ls w p g c s) :
    Calls Try.prog 14 #[.pointer (some ⟨p, 0, none⟩)] w fun e w' => e = .returned (.int .i64 s.at') ∧ w' = w := by
  have h0 := h.blk.cell 5
  clear h
  go_enter Try.func14, Try.ntmps14
  go_wp2
  go_ret
  exact ⟨rfl, rfl⟩
theorem moves (p g c : Nat) (s : Q) (w : World) (h : Ls w p g c s) :
    Calls Try.prog 15 #[.pointer (some ⟨p, 0, none⟩)] w fun e w' => e = .returned (.int .i64 s.moves) ∧ w' = w := by
  have h0 := h.blk.cell 8
  clear h
  go_enter Try.func15, Try.ntmps15
  go_wp2
  go_ret
  exact ⟨rfl, rfl⟩

def limF (n : Nat) (x : Int) : Nat := (min (max x 0) ((n : Int) - 1)).toNat
theorem limF_eq {n : Nat} (h : 1 ≤ n) (x : Int) : (limF n x : Int) = min (max x 0) ((n : Int) - 1) := by unfold limF; omega
theorem limF_lt {n : Nat} (h : 1 ≤ n) (x : Int) : limF n x < n := by unfold limF; omega
theorem limited (p g c : Nat) (s : Q) (x : Int) (w : World) (h : Ls w p g c s) (h1 : 1 ≤ s.N.length) (h3 : s.N.length ≤ 3) :
    Calls Try.prog 32 #[.pointer (some ⟨p, 0, none⟩), .int .i64 x] w fun e w' => e = .returned (.int .i64 (limF s.N.length x)) ∧ w' = w := by
  have h0 := h.blk.cell 3
  have HL := Lib.hid (limF_eq h1 x)
  have e3 : (cells s g c)[3]? = some (.slice (some ⟨g, 0, none⟩) s.N.length c) := rfl
  rw [e3] at h0
  clear h e3
  obtain ⟨m, hm⟩ : ∃ m, s.N.length = m + 1 := ⟨s.N.length - 1, by omega⟩
  rw [hm] at h0 HL h3
  rw [hm]
  clear hm h1
  obtain ⟨mx, hmx, hmx2⟩ : ∃ mx, (if x < 0 then 0 else x) = mx ∧ max x 0 = mx := ⟨_, rfl, by split <;> omega⟩
  rw [hmx2] at HL
  clear hmx2
  have HLL := Lib.hid HL.out
  have hmn : (if (m : Int) < mx then (m : Int) else mx) = ((limF (m + 1) x : Nat) : Int) := by rw [HL.out]; split <;> omega
  generalize ((limF (m + 1) x : Nat) : Int) = r at *
  clear HL HLL
  go_enter Try.func32, Try.ntmps32
  go_wp2
  go_ret
  exact ⟨rfl, rfl⟩

def stepQ (s : Q) (tt : Nat) : Q := { s with at' := tt, bad := 0, good := 0, moves := s.moves + 1 }
theorem step (p g c : Nat) (s : Q) (tt : Nat) (w : World) (h : Ls w p g c s) (m0 : 0 ≤ s.moves) (m1 : s.moves ≤ 1048576) :
    Calls Try.prog 33 #[.pointer (some ⟨p, 0, none⟩), .int .i64 tt] w fun e w' => e = .returned (.tuple #[]) ∧ At w w' p g c (stepQ s tt) := by
  obtain ⟨c0, c1, c2, c3, c4, c5, c6, c7, c8⟩ := nine h.blk
  obtain ⟨f4, f5, f6, f7, f8⟩ := frees h.blk
  have HB : Hid (At w ((((w.setCell ⟨p, 5, none⟩ (.int .i64 tt)).setCell ⟨p, 6, none⟩ (.int .i64 0)).setCell ⟨p, 7, none⟩ (.int .i64 0)).setCell ⟨p, 8, none⟩ (.int .i64 (s.moves + 1))) p g c (stepQ s tt)) := Lib.hid (by
    have h1 := h.set (t := { s with at' := tt }) 5 (.int .i64 tt) rfl rfl
    have h2 := h1.1.set (t := { s with at' := tt, bad := 0 }) 6 (.int .i64 0) rfl rfl
    have h3 := h2.1.set (t := { s with at' := tt, bad := 0, good := 0 }) 7 (.int .i64 0) rfl rfl
    have h4 := h3.1.set (t := stepQ s tt) 8 (.int .i64 (s.moves + 1)) rfl rfl
    exact ((h1.trans h2).trans h3).trans h4)
  clear h
  generalize s.moves = mv at *
  go_enter Try.func33, Try.ntmps33
  go_wp2
  go_end0
  exact ⟨rfl, HB.out⟩

def ampleF (s : Q) (i : Nat) : Int := nd s i + s.spare * (nd s i / 10)
theorem ample (p g c : Nat) (s : Q) (i : Nat) (w : World) (h : Ls w p g c s) (ho : s.ok) (hi : i < s.N.length) :
    Calls Try.prog 34 #[.pointer (some ⟨p, 0, none⟩), .int .i64 i] w fun e w' => e = .returned (.int .i64 (ampleF s i)) ∧ w' = w := by
  obtain ⟨c0, c1, c2, c3, c4, c5, c6, c7, c8⟩ := nine h.blk
  have hr := h.row i hi
  obtain ⟨n0, n1⟩ := ho.nd i
  have p0 := ho.p0
  have p1 := ho.p1
  have HE : Hid (ampleF s i = nd s i + s.spare * (nd s i / 10)) := Lib.hid rfl
  rw [HE.out]
  have hl : (i : Int) < (s.N.length : Int) := by omega
  have h3 : s.N.length ≤ 3 := ho.n3
  have hmul : 0 ≤ s.spare * (nd s i / 10) ∧ s.spare * (nd s i / 10) ≤ 100 * 109951162777 := by
    have hq : 0 ≤ nd s i / 10 ∧ nd s i / 10 ≤ 109951162777 := by omega
    exact ⟨Int.mul_nonneg p0 hq.1, Int.mul_le_mul p1 hq.2 hq.1 (by omega)⟩
  clear h ho hi HE
  generalize nd s i = x at *
  generalize s.spare = sp at *
  generalize s.N.length = ln at *
  obtain ⟨hm0, hm1⟩ := hmul
  generalize hmm : sp * (x / 10) = mm at *
  go_enter Try.func34, Try.ntmps34
  go_wp2
  go_ret
  exact ⟨rfl, rfl⟩
end Go.Proofs.Ytfhbcdjbfjoknaa.lad
