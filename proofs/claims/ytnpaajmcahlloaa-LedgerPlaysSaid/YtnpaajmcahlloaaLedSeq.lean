/-
  ledger.Book in memory, and the calls that only read: Len, has, Count, waited, Fate.
-/
import Derived.Test.YtnpaajmcahlloaaRows
import Derived.Test.YtnpaajmcahlloaaRowsG5
import Derived.Handy
import Derived.Outline
import Derived.Lib.Hide
import Derived.RegionTactic
import Derived.Deep.RegionHeld3
import Derived.Deep.QuietTactic
import Derived.BigQuiet
import Derived.Deep.DeepCutAuto
namespace Go.Proofs.Ytnpaajmcahlloaa.led
open Go.RowKit mem
set_option linter.unusedVariables false

/-- a frame: the tick at which it came, its fate, the tick at which it ended -/
structure Fr where
  acc : Int
  fate : Int
  en : Int
deriving DecidableEq

structure Fr.ok (x : Fr) : Prop where
  a0 : 0 ≤ x.acc
  a1 : x.acc ≤ 1048576
  f0 : 0 ≤ x.fate
  f1 : x.fate ≤ 3
  e0 : 0 ≤ x.en
  e1 : x.en ≤ 1048576
def FE : Enc Fr := ⟨3, fun x => [.int .i64 x.acc, .int .i64 x.fate, .int .i64 x.en], fun _ => rfl, fun x u hu => by
  simp at hu
  rcases hu with rfl | rfl | rfl <;> rfl⟩
abbrev BT : TypeId := 27
abbrev FT : TypeId := 55
theorem infoF : (Try.prog.info? FT).map (fun i => (i.zero, i.size, i.bytes)) = some (some (.agg #[.int .i64 0, .int .i64 0, .int .i64 0]), 3, 24) := by kernel_rfl
abbrev New (w w' : World) : Prop := Turns (fun _ => False) w w'

/-- how many frames have the fate f -/
def cnt (f : Int) (L : List Fr) : Nat := L.countP (fun x => x.fate == f)
theorem cnt_le (f : Int) (L : List Fr) : cnt f L ≤ L.length := List.countP_le_length
def bcells (v : Value) (L : List Fr) (i : Nat) : List Value := [v, .int .i64 (cnt 0 L), .int .i64 (cnt 1 L), .int .i64 (cnt 2 L), .int .i64 (cnt 3 L), .int .i64 i]

/-- the book at p holds the frames L; below the i-th none is pending -/
structure Bk (w : World) (p : Nat) (v : Value) (L : List Fr) (i : Nat) : Prop where
  blk : Blk w p (bcells v L i).toArray BT
  own : Owns FE FT w v L
  len : L.length ≤ 1000
  ok : ∀ x ∈ L, x.ok
  il : i ≤ L.length
  past : ∀ k x, k < i → L[k]? = some x → x.fate ≠ 0

theorem blk_ne {w : World} {p r : Nat} {cs ds : Array Value} {T U : TypeId} (h : Blk w p cs T) (k : Blk w r ds U) (hT : T ≠ U) : p ≠ r := by
  rintro rfl
  unfold Blk at h k
  rw [h] at k
  injection k with k
  injection k with _ k
  exact hT k
theorem own_ne {α : Type} {E : Enc α} {w : World} {r : Nat} {v : Value} {l : List α} {ds : Array Value} {T U : TypeId} (h : Owns E T w v l) (k : Blk w r ds U) (hT : T ≠ U) : v.ownBlock ≠ some r := by
  intro e
  rcases h.2 with ⟨rfl, _⟩ | ⟨g, cap, cur, rfl, _, hb, _⟩
  · simp [Value.ownBlock] at e
  · have : g = r := by simpa [Value.ownBlock] using e
    subst this
    unfold Blk at k
    rw [hb] at k
    injection k with k
    injection k with _ k
    exact hT k

section
variable {w : World} {p : Nat} {v : Value} {L : List Fr} {i : Nat} (h : Bk w p v L i)
include h
theorem Bk.c0 : w.cell? ⟨p, 0, none⟩ = some v := h.blk.cell 0
theorem Bk.c1 : w.cell? ⟨p, 1, none⟩ = some (.int .i64 (cnt 0 L)) := h.blk.cell 1
theorem Bk.c2 : w.cell? ⟨p, 2, none⟩ = some (.int .i64 (cnt 1 L)) := h.blk.cell 2
theorem Bk.c3 : w.cell? ⟨p, 3, none⟩ = some (.int .i64 (cnt 2 L)) := h.blk.cell 3
theorem Bk.c4 : w.cell? ⟨p, 4, none⟩ = some (.int .i64 (cnt 3 L)) := h.blk.cell 4
theorem Bk.c5 : w.cell? ⟨p, 5, none⟩ = some (.int .i64 i) := h.blk.cell 5
theorem Bk.free (k : Nat) : w.frozen? ⟨p, k, none⟩ = false := h.blk.free k
theorem Bk.off : ∀ g, v.ownBlock = some g → g ≠ p := fun g hg e => own_ne h.own h.blk (by decide) (by rw [hg, e])
theorem Bk.turns {S : Nat → Prop} {w' : World} (ht : Turns S w w') (hp : ¬ S p) (hv : ∀ g, v.ownBlock = some g → ¬ S g) : Bk w' p v L i :=
  ⟨ht.blk h.blk hp, h.own.turns ht hv, h.len, h.ok, h.il, h.past⟩
theorem Bk.later {w' : World} (n : New w w') : Bk w' p v L i := h.turns n (fun h => h) (fun _ _ h => h)
/-- what is read at a place -/
theorem Bk.at_ : ∃ (ao : Option Addr) (c : Nat), v = .slice ao L.length c ∧ L.length ≤ c ∧ (∀ (k : Nat) (x : Fr), L[k]? = some x → ∃ g, ao = some ⟨g, 0, none⟩ ∧ g ≠ p ∧ g < w.heap.size ∧ w.cell? ⟨g, k * 3, none⟩ = some (.int .i64 x.acc) ∧ w.cell? ⟨g, k * 3 + 1, none⟩ = some (.int .i64 x.fate) ∧ w.cell? ⟨g, k * 3 + 2, none⟩ = some (.int .i64 x.en)) := by
  obtain ⟨ao, c, hv, hc, hr, ho⟩ := h.own.form
  refine ⟨ao, c, hv, hc, fun k x hx => ?_⟩
  rcases hr with e | ⟨g, e, hg, hcell⟩
  · rw [e] at hx; simp at hx
  · exact ⟨g, e, h.off g (ho g e), hg, hcell k x hx 0 _ rfl, hcell k x hx 1 _ rfl, hcell k x hx 2 _ rfl⟩
end

theorem len_ (p : Nat) (v : Value) (L : List Fr) (i : Nat) (w : World) (h : Bk w p v L i) :
    Calls Try.prog 15 #[.pointer (some ⟨p, 0, none⟩)] w fun e w' => e = .returned (.int .i64 L.length) ∧ w' = w := by
  obtain ⟨ao, c, rfl, hc, _⟩ := h.at_
  have h0 := h.c0
  clear h
  go_enter Try.func15, Try.ntmps15
  go_wp2
  go_ret
  exact ⟨rfl, rfl⟩

def hasB (L : List Fr) (n : Int) : Bool := decide (0 ≤ n) && decide (n < L.length)
theorem has (p : Nat) (v : Value) (L : List Fr) (i : Nat) (n : Int) (w : World) (h : Bk w p v L i) :
    Calls Try.prog 18 #[.pointer (some ⟨p, 0, none⟩), .int .i64 n] w fun e w' => e = .returned (.bool (hasB L n)) ∧ w' = w := by
  obtain ⟨ao, c, rfl, hc, _⟩ := h.at_
  have h0 := h.c0
  clear h
  have HB : Hid (hasB L n = (decide (0 ≤ n) && decide (n < L.length))) := Lib.hid rfl
  generalize L.length = len at *
  by_cases h1 : 0 ≤ n
  · have d1 : decide (0 ≤ n) = true := decide_eq_true h1
    by_cases h2 : n < len
    · have d2 : decide (n < (len : Int)) = true := decide_eq_true h2
      clear h1 h2
      go_enter Try.func18, Try.ntmps18
      go_wp2
      go_ret
      exact ⟨by rw [HB.out, d1, d2]; rfl, rfl⟩
    · have d2 : decide (n < (len : Int)) = false := decide_eq_false h2
      clear h1 h2
      go_enter Try.func18, Try.ntmps18
      go_wp2
      go_ret
      exact ⟨by rw [HB.out, d1, d2]; rfl, rfl⟩
  · have d1 : decide (0 ≤ n) = false := decide_eq_false h1
    clear h1
    go_enter Try.func18, Try.ntmps18
    go_wp2
    go_ret
    exact ⟨by rw [HB.out, d1]; rfl, rfl⟩

/-- Count: 0 for what is no fate -/
def cntF (f : Int) (L : List Fr) : Nat := if 0 ≤ f ∧ f ≤ 3 then cnt f L else 0
theorem count (p : Nat) (v : Value) (L : List Fr) (i : Nat) (f : Int) (w : World) (h : Bk w p v L i) :
    Calls Try.prog 11 #[.pointer (some ⟨p, 0, none⟩), .int .i64 f] w fun e w' => e = .returned (.int .i64 (cntF f L)) ∧ w' = w := by
  have c1 := h.c1
  have c2 := h.c2
  have c3 := h.c3
  have c4 := h.c4
  clear h
  by_cases h1 : f < 0
  · have d1 : decide (f < 0) = true := decide_eq_true h1
    have HE : Hid (cntF f L = 0) := Lib.hid (by unfold cntF; rw [if_neg (by omega)])
    rw [HE.out]
    clear h1
    go_enter Try.func11, Try.ntmps11
    go_wp2
    go_ret
    exact ⟨rfl, rfl⟩
  · have d1 : decide (f < 0) = false := decide_eq_false h1
    by_cases h2 : 3 < f
    · have d2 : decide (3 < f) = true := decide_eq_true h2
      have HE : Hid (cntF f L = 0) := Lib.hid (by unfold cntF; rw [if_neg (by omega)])
      rw [HE.out]
      clear h1 h2
      go_enter Try.func11, Try.ntmps11
      go_wp2
      go_ret
      exact ⟨rfl, rfl⟩
    · have HE : Hid (cntF f L = cnt f L) := Lib.hid (by unfold cntF; rw [if_pos (by omega)])
      rw [HE.out]
      have hf : f = 0 ∨ f = 1 ∨ f = 2 ∨ f = 3 := by omega
      clear h1 h2 d1 HE
      rcases hf with rfl | rfl | rfl | rfl
      all_goals
        go_enter Try.func11, Try.ntmps11
        go_wp2
        go_ret
        exact ⟨rfl, rfl⟩

def waitedF (x : Fr) (now : Int) : Int := if x.fate = 0 then now - x.acc else x.en - x.acc
theorem waited (x : Fr) (now : Int) (w : World) (h : x.ok) (n0 : 0 ≤ now) (n1 : now ≤ 1048576) :
    Calls Try.prog 20 #[.agg #[.int .i64 x.acc, .int .i64 x.fate, .int .i64 x.en], .int .i64 now] w fun e w' => e = .returned (.int .i64 (waitedF x now)) ∧ New w w' := by
  obtain ⟨a0, a1, f0, f1, e0, e1⟩ := h
  have HE : Hid (waitedF x now = if x.fate = 0 then now - x.acc else x.en - x.acc) := Lib.hid rfl
  obtain ⟨acc, fate, en⟩ := x
  dsimp only at *
  have hb : Blk (w.alloc (.cells #[.int .i64 acc, .int .i64 fate, .int .i64 en] FT)) w.heap.size #[.int .i64 acc, .int .i64 fate, .int .i64 en] FT := Blk.new _ _ _
  have c0 : (w.alloc (.cells #[.int .i64 acc, .int .i64 fate, .int .i64 en] FT)).cell? ⟨w.heap.size, 0, none⟩ = some (.int .i64 acc) := hb.cell 0
  have c1 : (w.alloc (.cells #[.int .i64 acc, .int .i64 fate, .int .i64 en] FT)).cell? ⟨w.heap.size, 1, none⟩ = some (.int .i64 fate) := hb.cell 1
  have c2 : (w.alloc (.cells #[.int .i64 acc, .int .i64 fate, .int .i64 en] FT)).cell? ⟨w.heap.size, 2, none⟩ = some (.int .i64 en) := hb.cell 2
  have HN : Hid (New w (w.alloc (.cells #[.int .i64 acc, .int .i64 fate, .int .i64 en] FT))) := Lib.hid ((Turns.refl _ _).alloc _)
  clear hb
  have s1 : IntKind.i64.wrap (now - acc) = now - acc := IntWalk.i64_in _ (by omega)
  have s2 : IntKind.i64.wrap (en - acc) = en - acc := IntWalk.i64_in _ (by omega)
  by_cases hf : fate = 0
  · rw [if_pos hf] at HE
    rw [HE.out]
    have hb1 : (fate == 0) = true := by simp [hf]
    clear hf f0 f1 HE
    go_enter Try.func20, Try.ntmps20
    go_wp2
    go_ret
    exact ⟨rfl, HN.out⟩
  · rw [if_neg hf] at HE
    rw [HE.out]
    have hb1 : (fate == 0) = false := by simp [hf]
    clear hf f0 f1 HE
    go_enter Try.func20, Try.ntmps20
    go_wp2
    go_ret
    exact ⟨rfl, HN.out⟩

/-- Fate: of a frame that is there, for how long it was pending -/
def fateF (L : List Fr) (n now : Int) : Int × Int := match L[n.toNat]? with
  | some x => if 0 ≤ n then (x.fate, waitedF x now) else (0, 0)
  | none => (0, 0)
theorem fate_ (p : Nat) (v : Value) (L : List Fr) (i : Nat) (n now : Int) (w : World) (h : Bk w p v L i) (n0 : 0 ≤ now) (n1 : now ≤ 1048576) :
    Calls Try.prog 16 #[.pointer (some ⟨p, 0, none⟩), .int .i64 n, .int .i64 now] w fun e w' => e = .returned (.tuple #[.int .i64 (fateF L n now).1, .int .i64 (fateF L n now).2]) ∧ New w w' := by
  have HH := Lib.hid (has p v L i n w h)
  cases hb : hasB L n
  · have HE : Hid (fateF L n now = (0, 0)) := Lib.hid (by
      unfold fateF
      split
      · rename_i x hx
        have h1 := (List.getElem?_eq_some_iff.1 hx).1
        unfold hasB at hb
        rw [if_neg (by intro h0; simp [h0] at hb; omega)]
      · rfl)
    rw [HE.out]
    rw [hb] at HH
    clear hb h
    go_enter Try.func16, Try.ntmps16
    go_wp2_with fail
    refine HH.out.mono ?_
    rintro e w1 ⟨rfl, rfl⟩
    go_wp2
    go_ret2
    exact ⟨rfl, Turns.refl _ _⟩
  · have hn : 0 ≤ n ∧ n < L.length := by unfold hasB at hb; simpa using hb
    obtain ⟨k, rfl⟩ : ∃ k : Nat, n = k := ⟨n.toNat, by omega⟩
    have hk : k < L.length := by omega
    have hx : L[k]? = some L[k] := List.getElem?_eq_getElem hk
    have HE : Hid (fateF L k now = (L[k].fate, waitedF L[k] now)) := Lib.hid (by
      unfold fateF
      rw [show (k : Int).toNat = k by omega, hx]
      simp)
    rw [HE.out]
    rw [hb] at HH
    have hxo := h.ok _ (List.getElem_mem hk)
    obtain ⟨ao, c, hv, hc, hat⟩ := h.at_
    obtain ⟨g, rfl, hgp, hg, z0, z1, z2⟩ := hat k _ hx
    have h0 := h.c0
    have hlen := h.len
    clear hb hat HE hx
    generalize L[k] = x at *
    have HW := Lib.hid (fun W => waited x now W hxo n0 n1)
    obtain ⟨acc, fate, en⟩ := x
    subst hv
    dsimp only at *
    clear hxo h
    generalize L.length = len at *
    have HB : Hid (Blk (w.alloc (.cells #[.int .i64 acc, .int .i64 fate, .int .i64 en] FT)) w.heap.size #[.int .i64 acc, .int .i64 fate, .int .i64 en] FT) := Lib.hid (Blk.new _ _ _)
    have HN : Hid (New w (w.alloc (.cells #[.int .i64 acc, .int .i64 fate, .int .i64 en] FT))) := Lib.hid ((Turns.refl _ _).alloc _)
    have hknI : (k : Int) < (len : Int) := by omega
    go_enter Try.func16, Try.ntmps16
    go_wp2_with fail
    refine HH.out.mono ?_
    rintro e w1 ⟨rfl, rfl⟩
    go_upto_region 4 with fail
    refine (show Code.wp _ _ _ _ (w1.alloc (.cells #[.int .i64 acc, .int .i64 fate, .int .i64 en] FT)) from ?_)
    generalize w1.alloc (.cells #[.int .i64 acc, .int .i64 fate, .int .i64 en] FT) = w2 at *
    generalize w1.heap.size = pb at *
    have b0 := HB.out.cell 0
    have b1 := HB.out.cell 1
    have b2 := HB.out.cell 2
    have hpb := HB.out.lt
    clear h0 z0 z1 z2 hg
    go_region_with (go_at_call 20; (with_reducible refine Calls.mono (HW.out _) ?_); rintro e w3 ⟨rfl, n3⟩; have x1 := (n3.cell (a := ⟨pb, 1, none⟩) hpb (fun h => h)).trans b1; have N3 := Lib.hid (Turns.of_drew n3); clear n3)
    all_goals
      go_wp2
      go_ret2
      exact ⟨rfl, HN.out.trans (N3.out.mono (fun _ _ h => h.elim))⟩
end Go.Proofs.Ytnpaajmcahlloaa.led
