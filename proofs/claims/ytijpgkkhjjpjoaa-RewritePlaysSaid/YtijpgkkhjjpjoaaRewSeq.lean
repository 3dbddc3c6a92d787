/-
  rewrite.Out as a state; its small calls.
-/
import Derived.Test.YtijpgkkhjjpjoaaRows
import Derived.Test.YtijpgkkhjjpjoaaVpCheck
import Derived.Test.YtijpgkkhjjpjoaaVpText
import Derived.Handy
import Derived.Lib.Hide
import Derived.Outline
import Derived.RegionTactic
import Derived.Deep.RegionHeld3
import Derived.Deep.DeepCutAuto
namespace Go.Proofs.Ytijpgkkhjjpjoaa.rew
open Go.RowKit mem
set_option linter.unusedVariables false

structure O where
  v : Bool
  ssrc : Int
  kind : Int
  seq : Int
  pic : Int
  lev : Int
  src : Int
  lat : Int
  sh : Int
  fr : Int
  pk : Int
  by_ : Int
/-- the values that come about -/
structure O.ok (o : O) : Prop where
  q0 : 0 ≤ o.seq
  q1 : o.seq ≤ 65535
  p0 : -1 ≤ o.pic
  p1 : o.pic ≤ 32767
  l0 : -1 ≤ o.lev
  l1 : o.lev ≤ 255
  f0 : 0 ≤ o.fr
  f1 : o.fr ≤ 1048576
  k0 : 0 ≤ o.pk
  k1 : o.pk ≤ 1073741824
  b0 : 0 ≤ o.by_
  b1 : o.by_ ≤ 1152921504606846976
abbrev O.cells (o : O) : Array Value := #[.bool o.v, .int .u32 o.ssrc, .int .u8 o.kind, .int .u16 o.seq, .int .i64 o.pic, .int .i64 o.lev, .int .i64 o.src, .int .i64 o.lat, .int .u32 o.sh, .int .i64 o.fr, .int .i64 o.pk, .int .i64 o.by_]
def Ot (w : World) (p : Nat) (o : O) : Prop := Blk w p o.cells 72
section
variable {w : World} {p : Nat} {o : O} (h : Ot w p o)
include h
theorem Ot.c0 : w.cell? ⟨p, 0, none⟩ = some (.bool o.v) := h.cell 0
theorem Ot.c1 : w.cell? ⟨p, 1, none⟩ = some (.int .u32 o.ssrc) := h.cell 1
theorem Ot.c2 : w.cell? ⟨p, 2, none⟩ = some (.int .u8 o.kind) := h.cell 2
theorem Ot.c3 : w.cell? ⟨p, 3, none⟩ = some (.int .u16 o.seq) := h.cell 3
theorem Ot.c4 : w.cell? ⟨p, 4, none⟩ = some (.int .i64 o.pic) := h.cell 4
theorem Ot.c5 : w.cell? ⟨p, 5, none⟩ = some (.int .i64 o.lev) := h.cell 5
theorem Ot.c6 : w.cell? ⟨p, 6, none⟩ = some (.int .i64 o.src) := h.cell 6
theorem Ot.c7 : w.cell? ⟨p, 7, none⟩ = some (.int .i64 o.lat) := h.cell 7
theorem Ot.c8 : w.cell? ⟨p, 8, none⟩ = some (.int .u32 o.sh) := h.cell 8
theorem Ot.c9 : w.cell? ⟨p, 9, none⟩ = some (.int .i64 o.fr) := h.cell 9
theorem Ot.c10 : w.cell? ⟨p, 10, none⟩ = some (.int .i64 o.pk) := h.cell 10
theorem Ot.c11 : w.cell? ⟨p, 11, none⟩ = some (.int .i64 o.by_) := h.cell 11
theorem Ot.f (i : Nat) : w.frozen? ⟨p, i, none⟩ = false := h.free i
theorem Ot.s3 (x : Int) : Ot (w.setCell ⟨p, 3, none⟩ (.int .u16 x)) p { o with seq := x } := h.set 3 _
theorem Ot.s4 (x : Int) : Ot (w.setCell ⟨p, 4, none⟩ (.int .i64 x)) p { o with pic := x } := h.set 4 _
theorem Ot.s5 (x : Int) : Ot (w.setCell ⟨p, 5, none⟩ (.int .i64 x)) p { o with lev := x } := h.set 5 _
theorem Ot.s6 (x : Int) : Ot (w.setCell ⟨p, 6, none⟩ (.int .i64 x)) p { o with src := x } := h.set 6 _
theorem Ot.s7 (x : Int) : Ot (w.setCell ⟨p, 7, none⟩ (.int .i64 x)) p { o with lat := x } := h.set 7 _
theorem Ot.s8 (x : Int) : Ot (w.setCell ⟨p, 8, none⟩ (.int .u32 x)) p { o with sh := x } := h.set 8 _
theorem Ot.s9 (x : Int) : Ot (w.setCell ⟨p, 9, none⟩ (.int .i64 x)) p { o with fr := x } := h.set 9 _
theorem Ot.s10 (x : Int) : Ot (w.setCell ⟨p, 10, none⟩ (.int .i64 x)) p { o with pk := x } := h.set 10 _
theorem Ot.s11 (x : Int) : Ot (w.setCell ⟨p, 11, none⟩ (.int .i64 x)) p { o with by_ := x } := h.set 11 _
theorem Ot.lt : p < w.heap.size := Blk.lt h
theorem Ot.turns {S : Nat → Prop} {w' : World} (ht : Turns S w w') (hp : ¬ S p) : Ot w' p o := ht.blk h hp
theorem Ot.drew : Ot w.drew p o := h
theorem Ot.alloc (x : Obj) : Ot (w.alloc x) p o := Blk.alloc h x
end
abbrev At (w w' : World) (p : Nat) (o : O) : Prop := Ot w' p o ∧ Turns (· = p) w w'
abbrev New (w w' : World) : Prop := Turns (fun _ => False) w w'
theorem at_trans {w w1 w2 : World} {p : Nat} {s t : O} (h1 : At w w1 p s) (h2 : At w1 w2 p t) : At w w2 p t :=
  ⟨h2.1, h1.2.trans (h2.2.mono (fun _ _ h => .inl h))⟩
theorem new_at {w w1 w2 : World} {p : Nat} {t : O} (h1 : New w w1) (h2 : At w1 w2 p t) (hp : w.heap.size ≤ p) : New w w2 :=
  h1.trans (h2.2.mono (fun k _ h => .inr (by omega)))
theorem at_pre {w w1 w2 : World} {p : Nat} {t : O} (h1 : New w w1) (h2 : At w1 w2 p t) : At w w2 p t :=
  ⟨h2.1, (h1.mono (fun _ _ h => h.elim)).trans (h2.2.mono (fun _ _ h => .inl h))⟩
theorem at_new {w w1 w2 : World} {p : Nat} {t : O} (h1 : At w w1 p t) (h2 : New w1 w2) : At w w2 p t :=
  ⟨h1.1.turns h2 (fun h => h), h1.2.trans (h2.mono (fun _ _ h => h.elim))⟩

/-! ### what the calls do, as functions -/
def lastB (o : O) (s : Int) : Bool := decide (0 < o.fr) && (o.src == s)
def shV (o : O) (a : Int) : Int := (a % 4294967296 + o.sh) % 4294967296
def timeO (o : O) (s a : Int) : O :=
  if lastB o s = true then { o with lat := max o.lat a }
  else if 0 < o.fr then { o with sh := (shV o o.lat + 3000 - a) % 4294967296, src := s, lat := a }
  else { o with src := s, lat := a }
def timeV (o : O) (s a : Int) : Int := if lastB o s = true then shV o (max o.lat a) else shV (timeO o s a) a

/-! ### the calls -/
theorem isLast (p : Nat) (o : O) (s : Int) (w : World) (h : Ot w p o) :
    Calls Try.prog 31 #[.pointer (some ⟨p, 0, none⟩), .int .i64 s] w fun e w' => e = .returned (.bool (lastB o s)) ∧ w = w' := by
  have c6 := h.c6
  have c9 := h.c9
  unfold lastB
  by_cases hf : 0 < o.fr
  · rw [decide_eq_true hf, Bool.true_and]
    go_enter Try.func31, Try.ntmps31
    go_wp2
    go_ret
    exact ⟨rfl, rfl⟩
  · rw [decide_eq_false hf, Bool.false_and]
    go_enter Try.func31, Try.ntmps31
    go_wp2
    go_ret
    exact ⟨rfl, rfl⟩

theorem shifted (p : Nat) (o : O) (a : Int) (w : World) (h : Ot w p o) :
    Calls Try.prog 32 #[.pointer (some ⟨p, 0, none⟩), .int .i64 a] w fun e w' => e = .returned (.int .u32 (shV o a)) ∧ w = w' := by
  have c8 := h.c8
  unfold shV
  go_enter Try.func32, Try.ntmps32
  go_wp2
  go_ret
  exact ⟨rfl, rfl⟩

theorem time_ (p : Nat) (o : O) (s a : Int) (w : World) (h : Ot w p o) :
    Calls Try.prog 23 #[.pointer (some ⟨p, 0, none⟩), .int .i64 s, .int .i64 a] w fun e w' => e = .returned (.int .u32 (timeV o s a)) ∧ At w w' p (timeO o s a) := by
  have c6 := h.c6
  have c7 := h.c7
  have c8 := h.c8
  have c9 := h.c9
  have f6 := h.f 6
  have f7 := h.f 7
  have f8 := h.f 8
  have HL := Lib.hid (isLast p o s w h)
  by_cases hl : lastB o s = true
  · rw [hl] at HL
    have e1 : timeO o s a = { o with lat := max o.lat a } := by unfold timeO; rw [if_pos hl]
    have e2 : timeV o s a = shV o (max o.lat a) := by unfold timeV; rw [if_pos hl]
    rw [e1, e2]
    have hn : At w (w.setCell ⟨p, 7, none⟩ (.int .i64 (max o.lat a))) p { o with lat := max o.lat a } := ⟨h.s7 _, (Turns.refl (· = p) w).setCell (.inl rfl) _⟩
    have HS : Hid (∀ w1, Ot w1 p { o with lat := max o.lat a } → _) := Lib.hid (fun w1 h1 => shifted p { o with lat := max o.lat a } (max o.lat a) w1 h1)
    have hsv : shV { o with lat := max o.lat a } (max o.lat a) = shV o (max o.lat a) := rfl
    rw [hsv] at HS
    have HN := Lib.hid hn
    obtain ⟨m, hm⟩ : ∃ m, max o.lat a = m := ⟨_, rfl⟩
    rw [hm] at HS HN ⊢
    have c7n := hn.1.c7
    rw [hm] at c7n
    clear e1 e2 hsv hn hl h
    generalize o.lat = la at *
    by_cases hc : la ≤ a
    · by_cases hc2 : la = a
      · have hma : m = a := by omega
        subst hma hc2
        go_enter Try.func23, Try.ntmps23
        go_wp2_with fail
        refine HL.out.mono ?_
        rintro e w' ⟨rfl, rfl⟩
        go_wp2_with fail
        refine (HS.out _ HN.out.1).mono ?_
        rintro e w' ⟨rfl, rfl⟩
        go_wp2
        go_ret
        exact ⟨rfl, HN.out⟩
      · have hma : m = a := by omega
        subst hma
        have hlt : la < m := by omega
        go_enter Try.func23, Try.ntmps23
        go_wp2_with fail
        refine HL.out.mono ?_
        rintro e w' ⟨rfl, rfl⟩
        go_wp2_with fail
        refine (HS.out _ HN.out.1).mono ?_
        rintro e w' ⟨rfl, rfl⟩
        go_wp2
        go_ret
        exact ⟨rfl, HN.out⟩
    · have hma : m = la := by omega
      subst hma
      have hlt : ¬ m < a := by omega
      go_enter Try.func23, Try.ntmps23
      go_wp2_with fail
      refine HL.out.mono ?_
      rintro e w' ⟨rfl, rfl⟩
      go_wp2_with fail
      refine (HS.out _ HN.out.1).mono ?_
      rintro e w' ⟨rfl, rfl⟩
      go_wp2
      go_ret
      exact ⟨rfl, HN.out⟩
  · have hl' : lastB o s = false := by simpa using hl
    rw [hl'] at HL
    by_cases hf : 0 < o.fr
    · have e1 : timeO o s a = { o with sh := (shV o o.lat + 3000 - a) % 4294967296, src := s, lat := a } := by unfold timeO; rw [if_neg hl, if_pos hf]
      have e2 : timeV o s a = shV (timeO o s a) a := by unfold timeV; rw [if_neg hl]
      rw [e2]
      have hn : At w (((w.setCell ⟨p, 8, none⟩ (.int .u32 ((shV o o.lat + 3000 - a) % 4294967296))).setCell ⟨p, 6, none⟩ (.int .i64 s)).setCell ⟨p, 7, none⟩ (.int .i64 a)) p (timeO o s a) := by
        rw [e1]
        exact ⟨((h.s8 _).s6 _).s7 _, (((Turns.refl (· = p) w).setCell (.inl rfl) _).setCell (.inl rfl) _).setCell (.inl rfl) _⟩
      have HSa := Lib.hid (shifted p o o.lat w h)
      have HSb := Lib.hid (fun w1 h1 => shifted p (timeO o s a) a w1 h1)
      have HN := Lib.hid hn
      clear e1 e2 hn h hl hl'
      generalize shV o o.lat = A at *
      generalize timeO o s a = t at *
      generalize o.lat = la at *
      generalize o.fr = fr at *
      go_enter Try.func23, Try.ntmps23
      go_wp2_with fail
      refine HL.out.mono ?_
      rintro e w' ⟨rfl, rfl⟩
      go_wp2_with fail
      refine HSa.out.mono ?_
      rintro e w' ⟨rfl, rfl⟩
      go_wp2_with fail
      refine (HSb.out _ HN.out.1).mono ?_
      rintro e w' ⟨rfl, rfl⟩
      go_wp2
      go_ret
      exact ⟨rfl, HN.out⟩
    · have e1 : timeO o s a = { o with src := s, lat := a } := by unfold timeO; rw [if_neg hl, if_neg hf]
      have e2 : timeV o s a = shV (timeO o s a) a := by unfold timeV; rw [if_neg hl]
      rw [e2]
      have hn : At w ((w.setCell ⟨p, 6, none⟩ (.int .i64 s)).setCell ⟨p, 7, none⟩ (.int .i64 a)) p (timeO o s a) := by
        rw [e1]
        exact ⟨(h.s6 _).s7 _, ((Turns.refl (· = p) w).setCell (.inl rfl) _).setCell (.inl rfl) _⟩
      have HSb := Lib.hid (fun w1 h1 => shifted p (timeO o s a) a w1 h1)
      have HN := Lib.hid hn
      clear e1 e2 hn h hl hl'
      generalize timeO o s a = t at *
      generalize o.lat = la at *
      generalize o.fr = fr at *
      go_enter Try.func23, Try.ntmps23
      go_wp2_with fail
      refine HL.out.mono ?_
      rintro e w' ⟨rfl, rfl⟩
      go_wp2_with fail
      refine (HSb.out _ HN.out.1).mono ?_
      rintro e w' ⟨rfl, rfl⟩
      go_wp2
      go_ret
      exact ⟨rfl, HN.out⟩
end Go.Proofs.Ytijpgkkhjjpjoaa.rew
