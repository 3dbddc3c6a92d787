/-
  rewrite.Out: New, what is told; frames of one unit; 'awake' of layer 15.
-/
import Derived.Test.YtijpgkkhjjpjoaaRewFrame
namespace Go.Proofs.Ytijpgkkhjjpjoaa.rew
open Go.RowKit mem
set_option linter.unusedVariables false

def fresh (v : Bool) (ss ki sq : Int) : O := ⟨v, ss, ki % 128, sq, -1, -1, 0, 0, 0, 0, 0, 0⟩
theorem fresh_bd (v : Bool) (ss ki sq : Int) (h0 : 0 ≤ sq) (h1 : sq ≤ 65535) : Bd (fresh v ss ki sq) 0 0 := ⟨h0, h1, Int.le_refl (-1), (by decide : (-1 : Int) ≤ 32767), Int.le_refl (-1), (by decide : (-1 : Int) ≤ 255), Int.le_refl 0, Int.le_refl 0, Int.le_refl 0, Int.le_refl 0, Int.le_refl 0, (by decide : (0 : Int) ≤ ((0 : Nat) : Int) * 2097152)⟩
theorem new (v : Bool) (ss ki sq : Int) (w : World) (hk : 0 ≤ ki) :
    Calls Try.prog 8 #[.bool v, .int .u32 ss, .int .u8 ki, .int .u16 sq] w fun e w' => e = .returned (.pointer (some ⟨w.heap.size, 0, none⟩)) ∧ Ot w' w.heap.size (fresh v ss ki sq) ∧ New w w' := by
  have t1 : Int.tmod ki 128 = ki % 128 := Int.tmod_eq_emod_of_nonneg hk
  have h0 : Ot (w.alloc (.cells (fresh v ss ki sq).cells 72)) w.heap.size (fresh v ss ki sq) := Blk.new w _ _
  have HN := Lib.hid (And.intro h0 ((Turns.refl (fun _ => False) w).alloc (.cells (fresh v ss ki sq).cells 72)))
  clear h0
  go_enter Try.func8, Try.ntmps8
  go_wp2
  go_ret
  exact ⟨rfl, HN.out⟩

theorem next (p : Nat) (o : O) (w : World) (h : Ot w p o) :
    Calls Try.prog 17 #[.pointer (some ⟨p, 0, none⟩)] w fun e w' => e = .returned (.int .u16 o.seq) ∧ w = w' := by
  have c := h.c3
  go_enter Try.func17, Try.ntmps17
  go_wp2
  go_ret
  exact ⟨rfl, rfl⟩
theorem ssrc (p : Nat) (o : O) (w : World) (h : Ot w p o) :
    Calls Try.prog 18 #[.pointer (some ⟨p, 0, none⟩)] w fun e w' => e = .returned (.int .u32 o.ssrc) ∧ w = w' := by
  have c := h.c1
  go_enter Try.func18, Try.ntmps18
  go_wp2
  go_ret
  exact ⟨rfl, rfl⟩
theorem counts (p : Nat) (o : O) (w : World) (h : Ot w p o) :
    Calls Try.prog 15 #[.pointer (some ⟨p, 0, none⟩)] w fun e w' => e = .returned (.tuple #[.int .i64 o.fr, .int .i64 o.pk, .int .i64 o.by_]) ∧ New w w' := by
  have c9 := h.c9
  have c10 := h.c10
  have c11 := h.c11
  clear h
  go_enter Try.func15, Try.ntmps15
  go_wp2
  go_region
  all_goals
    go_wp2
    go_returns
    exact ⟨rfl, (Turns.refl _ _).drew⟩
theorem told (p : Nat) (o : O) (s a : Int) (w : World) (h : Ot w p o) :
    Calls Try.prog 16 #[.pointer (some ⟨p, 0, none⟩), .int .i64 s, .int .i64 a] w fun e w' => e = .returned (.tuple #[.int .u32 (if lastB o s = true then shV o a else 0), .bool (lastB o s)]) ∧ w = w' := by
  have HL := Lib.hid (isLast p o s w h)
  have HS := Lib.hid (shifted p o a w h)
  clear h
  generalize shV o a = x at *
  generalize lastB o s = b at *
  cases b
  all_goals
    go_enter Try.func16, Try.ntmps16
    go_wp2_with (first
      | (go_at_call 31; (with_reducible refine (HL.out).mono ?_); rintro e w' ⟨rfl, rfl⟩)
      | (go_at_call 32; (with_reducible refine (HS.out).mono ?_); rintro e w' ⟨rfl, rfl⟩))
    go_ret2
    exact ⟨rfl, rfl⟩

/-- a frame of one unit: what comes -/
structure One (w w' : World) (p : Nat) (o : O) (k : K) (g : Nat) : Prop where
  a : At w w' p o
  le : w.heap.size ≤ g
  lt : g < w'.heap.size
  ne : g ≠ p
  c : ∀ (j : Nat) (x : Value), k.cs[j]? = some x → w'.cell? ⟨g, j, none⟩ = some x
theorem frame1 (p : Nat) (o : O) (s : Int) (B : Nat) (u : U) (o' : O) (k : K) (f n : Nat) (ho' : frameO o s [u] = o') (hk : frameK o s [u] = [k]) (hb : Bd o f n) (hf : f ≤ 1000) (hn : n ≤ 1000000) (hx : u.x.size ≤ 1048576) (w : World) (h : Ot w p o)
    (hB : Blk w B u.cs.toArray UT) (hBp : B ≠ p) :
    Calls Try.prog 11 #[.pointer (some ⟨p, 0, none⟩), .int .i64 s, .agg #[.slice (some ⟨B, 0, none⟩) 1 1]] w fun e w' => ∃ g c, e = .returned (.slice (some ⟨g, 0, none⟩) 1 c) ∧ One w w' p o' k g := by
  subst ho'
  have hr : Reads UE w (some ⟨B, 0, none⟩) [u] := Reads.of_block (t := UT) (fr := (0, 0)) (by rw [UE.all_one]; exact hB)
  refine (frame p o s (some ⟨B, 0, none⟩) 1 [u] f n w h hb hf hn (by simp) (fun v hv => by simp at hv; subst hv; exact hx) hr (fun g hg => by injection hg with hg; injection hg with hg; subst hg; exact hBp)).mono ?_
  rintro e w' ⟨v, rfl, ho, hbk, ha⟩
  rw [hk] at ho
  obtain ⟨ao, c, rfl, _, hrd, hob⟩ := ho.form
  rcases hrd with hx | ⟨g, rfl, hg, hc⟩
  · cases hx
  · exact ⟨g, c, rfl, ha, hbk g (hob g rfl), hg, by have := hbk g (hob g rfl); have := h.lt; omega, fun j x hj => by have := hc 0 k rfl j x hj; simpa using this⟩

def xs : ByteArray := ⟨#[120]⟩
def ys : ByteArray := ⟨#[121]⟩
def a0 : O := fresh false 7 96 5
def a1 : O := ⟨false, 7, 96, 6, -1, -1, 1, 100, 0, 1, 1, 1⟩
def a2 : O := ⟨false, 7, 96, 7, -1, -1, 2, 5000, 4294965396, 2, 2, 2⟩
theorem a1_is : frameO a0 1 [⟨0, 100, false, false, false, xs, 0⟩] = a1 ∧ frameK a0 1 [⟨0, 100, false, false, false, xs, 0⟩] = [⟨false, 96, 5, 100, 7, xs⟩] := ⟨by kernel_rfl, by kernel_rfl⟩
theorem a2_is : frameO a1 2 [⟨0, 5000, false, false, false, ys, 0⟩] = a2 ∧ frameK a1 2 [⟨0, 5000, false, false, false, ys, 0⟩] = [⟨false, 96, 6, 3100, 7, ys⟩] := ⟨by kernel_rfl, by kernel_rfl⟩
theorem a1_bd : Bd a1 1 1 := ⟨by decide, by decide, by decide, by decide, by decide, by decide, by decide, by decide, by decide, by decide, by decide, by decide⟩

set_option maxHeartbeats 1000000 in
theorem awake (w : World) :
    Calls Try.prog 7 #[] w fun e w' => e = .returned (.bool true) ∧ New w w' := by
  have HN := Lib.hid (new false 7 96 5 w (by decide))
  have H1 := Lib.hid (fun p B w => frame1 p a0 1 B _ _ _ 0 0 a1_is.1 a1_is.2 (fresh_bd _ _ _ _ (by decide) (by decide)) (by decide) (by decide) (by decide +kernel) w)
  have H2 := Lib.hid (fun p B w => frame1 p a1 2 B _ _ _ 1 1 a2_is.1 a2_is.2 a1_bd (by decide) (by decide) (by decide +kernel) w)
  go_enter Try.func7, Try.ntmps7
  go_wp2_with fail
  refine HN.out.mono ?_
  rintro e w1 ⟨rfl, h1, n1⟩
  have N1 := Lib.hid n1
  generalize hp : w.heap.size = p at *
  have hle : w.heap.size ≤ p := by omega
  have HP := Lib.hid hle
  have O1 := Lib.hid h1
  clear h1 n1 HN hp
  have hp1 := O1.out.lt
  clear hle
  go_wp2_with fail
  refine (H1.out _ _ _ (O1.out.alloc _) (Blk.new w1 _ _) (by omega)).mono ?_
  rintro e w2 ⟨g1, c1, rfl, r1⟩
  have N2 := Lib.hid (new_at (N1.out.alloc _) r1.a HP.out)
  have hp2 := r1.a.1.lt
  have R1 := Lib.hid r1
  clear r1 hp1 N1 O1
  go_wp2_with fail
  refine (H2.out _ _ _ (R1.out.a.1.alloc _) (Blk.new w2 _ _) (by omega)).mono ?_
  rintro e w3 ⟨g2, c2, rfl, r2⟩
  have N3 := Lib.hid (new_at (N2.out.alloc _) r2.a HP.out)
  have hg : g1 < w2.heap.size := R1.out.lt
  have hgp : g1 ≠ p := R1.out.ne
  have k1 : w3.cell? ⟨g1, 3, none⟩ = some (.int .u32 100) := (r2.a.2.cell (a := ⟨g1, 3, none⟩) (by rw [World.size_alloc]; show g1 < _; omega) hgp).trans (((Turns.refl (fun _ => False) w2).alloc _ |>.cell (a := ⟨g1, 3, none⟩) hg (fun h => h)).trans (R1.out.c 3 _ rfl))
  have k2 : w3.cell? ⟨g2, 2, none⟩ = some (.int .u16 6) := r2.c 2 _ rfl
  have k3 : w3.cell? ⟨g2, 3, none⟩ = some (.int .u32 3100) := r2.c 3 _ rfl
  have k4 : w3.cell? ⟨g2, 4, none⟩ = some (.int .u32 7) := r2.c 4 _ rfl
  have k9 : w3.cell? ⟨g2, 9, none⟩ = some (.string ys) := r2.c 9 _ rfl
  clear R1 r2 N2 H1 H2 hg hgp
  unfold ys at k9
  go_wp2
  go_ret
  exact ⟨rfl, N3.out⟩
end Go.Proofs.Ytijpgkkhjjpjoaa.rew
