/-
  The reference's Parse of layer 4.
-/
import Derived.Test.YtijpgkkhjjpjoaaVpMath
import Derived.BigRegion
namespace Go.Proofs.Ytijpgkkhjjpjoaa.vp
open Go.RowKit mem rd wr oref sq
set_option linter.unusedVariables false

abbrev DR : TypeId := 80
abbrev RR : TypeId := 96

section
variable {w : World} {p : Nat} {d : D} {t : TypeId} (h : Blk w p (cells d) t)
include h
theorem es3 (v : Int) : Blk (w.setCell ⟨p, 3, none⟩ (.int .i64 v)) p (cells { d with pic := v }) t := h.set 3 _
theorem es4 (v : Bool) : Blk (w.setCell ⟨p, 4, none⟩ (.bool v)) p (cells { d with wide := v }) t := h.set 4 _
theorem es5 (v : Int) : Blk (w.setCell ⟨p, 5, none⟩ (.int .i64 v)) p (cells { d with lev := v }) t := h.set 5 _
theorem es6 (v : Int) : Blk (w.setCell ⟨p, 6, none⟩ (.int .i64 v)) p (cells { d with lay := v }) t := h.set 6 _
theorem es7 (v : Bool) : Blk (w.setCell ⟨p, 7, none⟩ (.bool v)) p (cells { d with sync := v }) t := h.set 7 _
theorem es8 (v : Int) : Blk (w.setCell ⟨p, 8, none⟩ (.int .i64 v)) p (cells { d with key := v }) t := h.set 8 _
end
theorem cells2 {w : World} {p : Nat} {a0 a1 : Value} {t : TypeId} (h : Blk w p #[a0, a1] t) : w.cell? ⟨p, 0, none⟩ = some a0 ∧ w.cell? ⟨p, 1, none⟩ = some a1 ∧ w.frozen? ⟨p, 0, none⟩ = false ∧ w.frozen? ⟨p, 1, none⟩ = false :=
  ⟨h.cell 0, h.cell 1, h.free 0, h.free 1⟩
def rc (s : St) : Array Value := #[.string ⟨s.1.toArray⟩, .int .i64 s.2]
def put2r (w : World) (p : Nat) (s : St) : World := (w.setCell ⟨p, 0, none⟩ (.string ⟨s.1.toArray⟩)).setCell ⟨p, 1, none⟩ (.int .i64 s.2)
theorem put2r_blk {w : World} {p : Nat} {s0 : St} {t : TypeId} (h : Blk w p (rc s0) t) (s : St) : Blk (put2r w p s) p (rc s) t := by
  have h1 : Blk (w.setCell ⟨p, 0, none⟩ (.string ⟨s.1.toArray⟩)) p #[.string ⟨s.1.toArray⟩, .int .i64 s0.2] t := h.set 0 _
  exact h1.set 1 _

/-- a reader at pr, a descriptor at pd, the results' blocks; nothing old has turned -/
structure RD (w W : World) (pr pd qr qd : Nat) (s : St) (d : D) : Prop where
  br : Blk W pr (rc s) RR
  bd : Blk W pd (cells d) DR
  bqr : Blk W qr (rc ([], 0)) RR
  bqd : Blk W qd (cells zero) DR
  n : New w W
  hr : w.heap.size ≤ pr
  hd : w.heap.size ≤ pd
  h1 : pr ≠ pd
  h2 : pr ≠ qr
  h3 : pr ≠ qd
  h4 : pd ≠ qr
  h5 : pd ≠ qd
  h6 : qr ≠ qd
  h7 : w.heap.size ≤ qr
  h8 : w.heap.size ≤ qd

theorem RD.new {w W W' : World} {pr pd qr qd : Nat} {s : St} {d : D} (h : RD w W pr pd qr qd s d) (k : New W W') : RD w W' pr pd qr qd s d :=
  ⟨k.blk h.br (fun h => h), k.blk h.bd (fun h => h), k.blk h.bqr (fun h => h), k.blk h.bqd (fun h => h), h.n.trans (k.mono (fun _ _ h => h.elim)), h.hr, h.hd, h.h1, h.h2, h.h3, h.h4, h.h5, h.h6, h.h7, h.h8⟩
theorem RD.alloc {w W : World} {pr pd qr qd : Nat} {s : St} {d : D} (h : RD w W pr pd qr qd s d) (o : Obj) : RD w (W.alloc o) pr pd qr qd s d := h.new ((Turns.refl _ _).alloc o)
theorem RD.read {w W : World} {pr pd qr qd : Nat} {s : St} {d : D} (h : RD w W pr pd qr qd s d) (s' : St) : RD w (put2r W pr s') pr pd qr qd s' d :=
  ⟨put2r_blk h.br s', (h.bd.setOther (a := ⟨pr, 0, none⟩) h.h1 _).setOther (a := ⟨pr, 1, none⟩) h.h1 _, (h.bqr.setOther (a := ⟨pr, 0, none⟩) h.h2 _).setOther (a := ⟨pr, 1, none⟩) h.h2 _, (h.bqd.setOther (a := ⟨pr, 0, none⟩) h.h3 _).setOther (a := ⟨pr, 1, none⟩) h.h3 _,
   (h.n.setCell (p := ⟨pr, 0, none⟩) (.inr h.hr) _).setCell (p := ⟨pr, 1, none⟩) (.inr h.hr) _, h.hr, h.hd, h.h1, h.h2, h.h3, h.h4, h.h5, h.h6, h.h7, h.h8⟩
theorem RD.desc {w W : World} {pr pd qr qd : Nat} {s : St} {d d' : D} (h : RD w W pr pd qr qd s d) (i : Nat) (v : Value) (k : Blk (W.setCell ⟨pd, i, none⟩ v) pd (cells d') DR) : RD w (W.setCell ⟨pd, i, none⟩ v) pr pd qr qd s d' :=
  ⟨h.br.setOther (a := ⟨pd, i, none⟩) (fun e => h.h1 e.symm) v, k, h.bqr.setOther (a := ⟨pd, i, none⟩) h.h4 v, h.bqd.setOther (a := ⟨pd, i, none⟩) h.h5 v, h.n.setCell (p := ⟨pd, i, none⟩) (.inr h.hd) v, h.hr, h.hd, h.h1, h.h2, h.h3, h.h4, h.h5, h.h6, h.h7, h.h8⟩

theorem put9_other {w : World} {p q : Nat} {cs : Array Value} {t : TypeId} (h : Blk w q cs t) (hne : p ≠ q) (v0 v1 v2 v3 v4 v5 v6 v7 v8 : Value) : Blk (put9 w p v0 v1 v2 v3 v4 v5 v6 v7 v8) q cs t :=
  ((((((((h.setOther (a := ⟨p, 0, none⟩) hne v0).setOther (a := ⟨p, 1, none⟩) hne v1).setOther (a := ⟨p, 2, none⟩) hne v2).setOther (a := ⟨p, 3, none⟩) hne v3).setOther (a := ⟨p, 4, none⟩) hne v4).setOther (a := ⟨p, 5, none⟩) hne v5).setOther (a := ⟨p, 6, none⟩) hne v6).setOther (a := ⟨p, 7, none⟩) hne v7).setOther (a := ⟨p, 8, none⟩) hne v8

set_option maxHeartbeats 2000000 in
theorem numbers (s : St) (d : D) (f : Int) (w : World) (hf0 : 0 ≤ f) (hf1 : f ≤ 255) (hok : Ok s) (hs : s.1.length ≤ 4611686018427387904) (hwd : d.wide = false) :
    Calls Try.prog 54 #[.agg #[.string ⟨s.1.toArray⟩, .int .i64 s.2], .agg (cells d), .int .i64 f] w fun e w' =>
      e = .returned (.tuple #[.agg (rc (tk2S f (tk1S f s))), .agg (cells (tk2D f (tk1D f d s) (tk1S f s)))]) ∧ New w w' := by
  have HTake := Lib.hid (fun st w hok hs => rtake_st st 1 w (by omega) (by omega) hok hs)
  have H0 : Hid (RD w ((((w.alloc (.cells (rc s) RR)).alloc (.cells (cells d) DR)).alloc (.cells (rc ([], 0)) RR)).alloc (.cells (cells zero) DR)) w.heap.size (w.heap.size + 1) (w.heap.size + 1 + 1) (w.heap.size + 1 + 1 + 1) s d) := by
    refine Lib.hid ⟨(((Blk.new w _ _).alloc _).alloc _).alloc _, ?_, ?_, ?_, ((((Turns.refl _ _).alloc _).alloc _).alloc _).alloc _, by omega, by omega, by omega, by omega, by omega, by omega, by omega, by omega, by omega, by omega⟩
    · have := ((Blk.new (w.alloc (.cells (rc s) RR)) (cells d) DR).alloc (.cells (rc ([], 0)) RR)).alloc (.cells (cells zero) DR)
      rwa [World.size_alloc] at this
    · have := (Blk.new ((w.alloc (.cells (rc s) RR)).alloc (.cells (cells d) DR)) (rc ([], 0)) RR).alloc (.cells (cells zero) DR)
      rwa [World.size_alloc, World.size_alloc] at this
    · have := Blk.new (((w.alloc (.cells (rc s) RR)).alloc (.cells (cells d) DR)).alloc (.cells (rc ([], 0)) RR)) (cells zero) DR
      rwa [World.size_alloc, World.size_alloc, World.size_alloc] at this
  go_enter Try.func54, Try.ntmps54
  go_upto_if 16 with fail
  obtain ⟨W0, hW0⟩ : ∃ W, W = ((((w.alloc (.cells #[.string ⟨s.1.toArray⟩, .int .i64 s.2] RR)).alloc (.cells (cells d) DR)).alloc (.cells #[.string ⟨#[]⟩, .int .i64 0] RR)).alloc (.cells #[.bool false, .bool false, .int .i64 0, .int .i64 0, .bool false, .int .i64 0, .int .i64 0, .bool false, .int .i64 0] DR)) := ⟨_, rfl⟩
  rw [← hW0]
  have H1 : Hid (RD w W0 w.heap.size (w.heap.size + 1) (w.heap.size + 1 + 1) (w.heap.size + 1 + 1 + 1) s d) := by rw [hW0]; exact H0
  clear H0 hW0
  generalize w.heap.size + 1 + 1 + 1 = qd at *
  generalize w.heap.size + 1 + 1 = qr at *
  generalize w.heap.size + 1 = pd at *
  obtain ⟨pr, hpr⟩ : ∃ p, p = w.heap.size := ⟨_, rfl⟩
  rw [← hpr] at H1 ⊢
  clear hpr
  have HD1 : Hid (tk1D f d s = if 128 ≤ f then { d with pic := picV s, wide := picW s } else d) := Lib.hid rfl
  have HS1 : Hid (tk1S f s = if 128 ≤ f then picS s else s) := Lib.hid rfl
  go_cut [] (fun wx => RD w wx pr pd qr qd (tk1S f s) (tk1D f d s))
  case first =>
    by_cases hf : 128 ≤ f
    · have hfb : (f / 128 == 1) = true := by simp; omega
      rw [if_pos hf] at HD1 HS1
      obtain ⟨c0, c1, c2, c3⟩ := cells2 H1.out.br
      have hv := vn_bd1 s
      have HT := Lib.hid (HTake.out s W0 hok hs)
      have HPV : Hid (picV s = if 128 ≤ vn 1 s then (vn 1 s - 128) * 256 + vn 1 (nx 1 s) else vn 1 s) := Lib.hid rfl
      have HPW : Hid (picW s = decide (128 ≤ vn 1 s)) := Lib.hid (b128_is _ hv.1 hv.2)
      have HPS : Hid (picS s = if 128 ≤ vn 1 s then nx 1 (nx 1 s) else nx 1 s) := Lib.hid rfl
      clear hf
      go_wp2_with fail
      refine (HT.out).mono ?_
      rintro e w1 ⟨rfl, hn1⟩
      have H2 := Lib.hid (H1.out.new hn1)
      have hlt := H2.out.br.lt
      have hlt2 := H2.out.bd.lt
      have hne := H2.out.h1
      have hne2 := H2.out.h1.symm
      clear hn1 HT c0 c1 c2 c3
      obtain ⟨c0, c1, c2, c3⟩ := cells2 H2.out.br
      obtain ⟨d3, g3⟩ := And.intro (H2.out.bd.cell 3) (H2.out.bd.free 3)
      change _ = some (Value.int .i64 d.pic) at d3
      generalize vn 1 s = v at *
      go_upto_if 27 with fail
      obtain ⟨W3, hW3⟩ : ∃ W, W = ((((w1.setCell ⟨pr, 0, none⟩ (.string ⟨(nx 1 s).1.toArray⟩)).setCell ⟨pr, 1, none⟩ (.int .i64 (nx 1 s).2)).setCell ⟨pd, 3, none⟩ (.int .i64 v)).alloc (.cells #[.string ⟨(nx 1 s).1.toArray⟩, .int .i64 (nx 1 s).2] RR)) := ⟨_, rfl⟩
      rw [← hW3]
      have H3 : Hid (RD w W3 pr pd qr qd (nx 1 s) { d with pic := v }) := by
        rw [hW3]
        have a := H2.out.read (nx 1 s)
        exact Lib.hid ((a.desc 3 _ (es3 a.bd v)).alloc _)
      clear hW3 H2 c0 c1 c2 c3 d3 g3
      obtain ⟨c0, c1, c2, c3⟩ := cells2 H3.out.br
      have hlt3 := H3.out.br.lt
      have hlt4 := H3.out.bd.lt
      obtain ⟨d3, g3⟩ := And.intro (H3.out.bd.cell 3) (H3.out.bd.free 3)
      obtain ⟨d4, g4⟩ := And.intro (H3.out.bd.cell 4) (H3.out.bd.free 4)
      change _ = some (Value.int .i64 v) at d3
      change _ = some (Value.bool d.wide) at d4
      by_cases h2 : 127 < v
      · have h2' : decide (127 < v) = true := decide_eq_true h2
        rw [if_pos (by omega)] at HPV HPS
        rw [decide_eq_true (by omega)] at HPW
        have hv2 := vn_bd1 (nx 1 s)
        have HT := Lib.hid (HTake.out (nx 1 s) W3 (nx_ok 1 hok) (Nat.le_trans (nx_len 1 s) hs))
        generalize vn 1 (nx 1 s) = u at *
        go_wp2_with fail
        refine (HT.out).mono ?_
        rintro e w4 ⟨rfl, hn4⟩
        have H4 := Lib.hid (H3.out.new hn4)
        clear hn4 HT c0 c1 c2 c3 d3 g3 d4 g4 H3
        obtain ⟨c0, c1, c2, c3⟩ := cells2 H4.out.br
        have hlt5 := H4.out.br.lt
        have hlt6 := H4.out.bd.lt
        obtain ⟨d3, g3⟩ := And.intro (H4.out.bd.cell 3) (H4.out.bd.free 3)
        obtain ⟨d4, g4⟩ := And.intro (H4.out.bd.cell 4) (H4.out.bd.free 4)
        change _ = some (Value.int .i64 v) at d3
        change _ = some (Value.bool d.wide) at d4
        go_wp2_with fail
        go_meet
        case rel =>
          rw [HD1.out, HS1.out, HPV.out, HPW.out, HPS.out]
          have a := H4.out.read (nx 1 (nx 1 s))
          have b := a.desc 3 _ (es3 a.bd ((v - 128) * 256 + u))
          have c := b.desc 4 _ (es4 b.bd true)
          exact c.alloc _
      · have h2' : decide (127 < v) = false := decide_eq_false h2
        rw [if_neg (by omega)] at HPV HPS
        rw [decide_eq_false (by omega)] at HPW
        go_wp2_with fail
        go_meet
        case rel =>
          rw [HD1.out, HS1.out, HPV.out, HPW.out, HPS.out, ← hwd]
          exact H3.out
    · have hfb : (f / 128 == 1) = false := by simp; omega
      rw [if_neg hf] at HD1 HS1
      clear hf
      go_wp2_with fail
      go_meet
      case rel =>
        rw [HD1.out, HS1.out]
        exact H1.out
  case rest =>
    have H2 := Lib.hid hcut
    have hok2 : Ok (tk1S f s) := by unfold tk1S picS; repeat (first | exact hok | split | apply nx_ok)
    have hs2 : (tk1S f s).1.length ≤ 4611686018427387904 := by
      unfold tk1S picS
      split
      · split
        · exact Nat.le_trans (nx_len _ _) (Nat.le_trans (nx_len _ _) hs)
        · exact Nat.le_trans (nx_len _ _) hs
      · exact hs
    have HD2 : Hid (tk2D f (tk1D f d s) (tk1S f s) = if f / 64 % 2 = 1 then { (tk1D f d s) with lev := vn 1 (tk1S f s) } else tk1D f d s) := Lib.hid rfl
    have HS2 : Hid (tk2S f (tk1S f s) = if f / 64 % 2 = 1 then nx 1 (tk1S f s) else tk1S f s) := Lib.hid rfl
    clear HD1 HS1 H1 hcut hok hs hwd
    obtain ⟨d9, hd9⟩ : ∃ x, x = tk2D f (tk1D f d s) (tk1S f s) := ⟨_, rfl⟩
    obtain ⟨s9, hs9⟩ : ∃ x, x = tk2S f (tk1S f s) := ⟨_, rfl⟩
    rw [← hd9] at HD2
    rw [← hs9] at HS2
    have HE := Lib.hid (And.intro hd9 hs9)
    clear hd9 hs9
    generalize tk1D f d s = d2 at HD2 H2
    generalize tk1S f s = s2 at HD2 HS2 H2 hok2 hs2
    go_upto_if 46 with fail
    go_cut [] (fun wx => RD w wx pr pd qr qd s9 d9)
    case first =>
      by_cases hf : f / 64 % 2 = 1
      · have hfb : (f / 64 % 2 == 1) = true := by simp; omega
        rw [if_pos hf] at HD2 HS2
        obtain ⟨c0, c1, c2, c3⟩ := cells2 H2.out.br
        have hv := vn_bd1 s2
        have HT := Lib.hid (HTake.out s2 wc hok2 hs2)
        clear hf
        generalize vn 1 s2 = v at *
        go_wp2_with fail
        refine (HT.out).mono ?_
        rintro e w1 ⟨rfl, hn1⟩
        have H3 := Lib.hid (H2.out.new hn1)
        have hlt := H3.out.br.lt
        have hlt2 := H3.out.bd.lt
        have hne := H3.out.h1
        have hne2 := H3.out.h1.symm
        clear hn1 HT c0 c1 c2 c3
        obtain ⟨c0, c1, c2, c3⟩ := cells2 H3.out.br
        obtain ⟨d5, g5⟩ := And.intro (H3.out.bd.cell 5) (H3.out.bd.free 5)
        change _ = some (Value.int .i64 d2.lev) at d5
        go_wp2_with fail
        go_meet
        case rel =>
          rw [HD2.out, HS2.out]
          have a := H3.out.read (nx 1 s2)
          exact (a.desc 5 _ (es5 a.bd v)).alloc _
      · have hfb : (f / 64 % 2 == 1) = false := by simp; omega
        rw [if_neg hf] at HD2 HS2
        clear hf
        go_wp2_with fail
        go_meet
        case rel =>
          rw [HD2.out, HS2.out]
          exact H2.out
    case rest =>
      clear H2 HD2 HS2
      obtain ⟨c0, c1, c2, c3⟩ := cells2 hcut.br
      obtain ⟨q0, q1, q2, q3⟩ := cells2 hcut.bqr
      obtain ⟨z0, z1, z2, z3, z4, z5, z6, z7, z8⟩ := cells9 hcut.bqd
      obtain ⟨y0, y1, y2, y3, y4, y5, y6, y7, y8⟩ := frees9 hcut.bqd
      obtain ⟨nr, st, part, pic, wide, lev, lay, sync, key⟩ := d9
      obtain ⟨d0, d1, d2, d3, d4, d5, d6, d7, d8⟩ := cells9 hcut.bd
      have hne := hcut.h6
      have hne2 := hcut.h6.symm
      have hne3 := hcut.h4
      have hne4 := hcut.h4.symm
      have hne5 := hcut.h2
      have hne6 := hcut.h2.symm
      have hne7 := hcut.h3
      have hne8 := hcut.h3.symm
      have hne9 := hcut.h5
      have hne10 := hcut.h5.symm
      have H9 := Lib.hid hcut
      clear hcut
      simp only at d0 d1 d2 d3 d4 d5 d6 d7 d8
      go_wp2_with fail
      go_region
      all_goals
        go_wp2
        refine (show bodyPost _ _ _ _ _ (World.drew (put9 (put2r wc qr s9) qd (.bool nr) (.bool st) (.int .i64 part) (.int .i64 pic) (.bool wide) (.int .i64 lev) (.int .i64 lay) (.bool sync) (.int .i64 key))) from ?_)
        have hqr := put2r_blk H9.out.bqr s9
        have hqd : Blk (put2r wc qr s9) qd (cells zero) DR := (H9.out.bqd.setOther (a := ⟨qr, 0, none⟩) hne _).setOther (a := ⟨qr, 1, none⟩) hne _
        have hnn : New w (put2r wc qr s9) := (H9.out.n.setCell (p := ⟨qr, 0, none⟩) (.inr H9.out.h7) _).setCell (p := ⟨qr, 1, none⟩) (.inr H9.out.h7) _
        have hqd2 := put9_blk (show Blk (put2r wc qr s9) qd #[.bool false, .bool false, .int .i64 0, .int .i64 0, .bool false, .int .i64 0, .int .i64 0, .bool false, .int .i64 0] DR from hqd) (.bool nr) (.bool st) (.int .i64 part) (.int .i64 pic) (.bool wide) (.int .i64 lev) (.int .i64 lay) (.bool sync) (.int .i64 key)
        have hqr2 := put9_other hqr hne2 (.bool nr) (.bool st) (.int .i64 part) (.int .i64 pic) (.bool wide) (.int .i64 lev) (.int .i64 lay) (.bool sync) (.int .i64 key)
        have hn2 := put9_turns hnn (.inr H9.out.h8) (.bool nr) (.bool st) (.int .i64 part) (.int .i64 pic) (.bool wide) (.int .i64 lev) (.int .i64 lay) (.bool sync) (.int .i64 key)
        generalize put9 (put2r wc qr s9) qd (.bool nr) (.bool st) (.int .i64 part) (.int .i64 pic) (.bool wide) (.int .i64 lev) (.int .i64 lay) (.bool sync) (.int .i64 key) = W9 at *
        clear c0 c1 c2 c3 q0 q1 q2 q3 z0 z1 z2 z3 z4 z5 z6 z7 z8 y0 y1 y2 y3 y4 y5 y6 y7 y8 d0 d1 d2 d3 d4 d5 d6 d7 d8
        obtain ⟨z0, z1, z2, z3, z4, z5, z6, z7, z8⟩ := cells9 hqd2.drew
        obtain ⟨q0, q1, _, _⟩ := cells2 hqr2.drew
        refine bodyPost_ret (v := .tuple #[.agg #[.string ⟨s9.1.toArray⟩, .int .i64 s9.2], .agg #[.bool nr, .bool st, .int .i64 part, .int .i64 pic, .bool wide, .int .i64 lev, .int .i64 lay, .bool sync, .int .i64 key]]) (by simp [results, Try.results54, go_sem, z0, z1, z2, z3, z4, z5, z6, z7, z8, q0, q1]) rfl ?_
        refine ⟨?_, hn2.drew⟩
        rw [← HE.out.1, ← HE.out.2]
        rfl

theorem tkc (f : Int) (d : D) (s : St) : tkD f d s = tkLD f (tk2D f (tk1D f d s) (tk1S f s)) (tk2S f (tk1S f s)) ∧ tkS f s = tkLS f (tk2S f (tk1S f s)) := ⟨rfl, rfl⟩
theorem two_len (f : Int) (s : St) : (tk2S f (tk1S f s)).1.length ≤ s.1.length := by
  unfold tk2S tk1S picS
  have a := nx_len 1 s
  have b := nx_len 1 (nx 1 s)
  have c := nx_len 1 (nx 1 (nx 1 s))
  repeat (first | omega | split)
theorem two_ok (f : Int) {s : St} (h : Ok s) : Ok (tk2S f (tk1S f s)) := by
  unfold tk2S tk1S picS
  repeat (first | exact h | split | apply nx_ok)

set_option maxHeartbeats 2000000 in
theorem last (s : St) (d : D) (f : Int) (w : World) (hf0 : 0 ≤ f) (hf1 : f ≤ 255) (hok : Ok s) (hs : s.1.length ≤ 4611686018427387904) (hwd : d.wide = false) :
    Calls Try.prog 43 #[.agg #[.string ⟨s.1.toArray⟩, .int .i64 s.2], .agg (cells d), .int .i64 f] w fun e w' =>
      e = .returned (.tuple #[.agg (rc (tkS f s)), .agg (cells (tkD f d s))]) ∧ New w w' := by
  have HTake := Lib.hid (fun st w hok hs => rtake_st st 1 w (by omega) (by omega) hok hs)
  have HN := Lib.hid (fun w => numbers s d f w hf0 hf1 hok hs hwd)
  have hok2 := two_ok f hok
  have hs2 := Nat.le_trans (two_len f s) hs
  obtain ⟨htD, htS⟩ := tkc f d s
  obtain ⟨d2, hd2⟩ : ∃ x, x = tk2D f (tk1D f d s) (tk1S f s) := ⟨_, rfl⟩
  obtain ⟨s2, hs2e⟩ : ∃ x, x = tk2S f (tk1S f s) := ⟨_, rfl⟩
  rw [← hs2e] at hok2 hs2 htD htS HN
  rw [← hd2] at htD HN
  clear hd2 hs2e hok hs hwd
  have HTD := Lib.hid htD
  have HTS := Lib.hid htS
  clear htD htS
  have H0 : Hid (∀ w1, New ((((w.alloc (.cells (rc s) RR)).alloc (.cells (cells d) DR)).alloc (.cells (rc ([], 0)) RR)).alloc (.cells (cells zero) DR)) w1 →
      RD w ((w1.alloc (.cells (rc s2) RR)).alloc (.cells (cells d2) DR)) w1.heap.size (w1.heap.size + 1) (w.heap.size + 1 + 1) (w.heap.size + 1 + 1 + 1) s2 d2) := by
    refine Lib.hid (fun w1 hn => ?_)
    have hz := hn.size
    rw [World.size_alloc, World.size_alloc, World.size_alloc, World.size_alloc] at hz
    refine ⟨(Blk.new w1 _ _).alloc _, ?_, ?_, ?_, ((((((Turns.refl _ _).alloc _).alloc _).alloc _).alloc _).trans (hn.mono (fun _ _ h => h.elim)) |>.alloc _).alloc _, by omega, by omega, by omega, by omega, by omega, by omega, by omega, by omega, by omega, by omega⟩
    · have := Blk.new (w1.alloc (.cells (rc s2) RR)) (cells d2) DR
      rwa [World.size_alloc] at this
    · have := (Blk.new ((w.alloc (.cells (rc s) RR)).alloc (.cells (cells d) DR)) (rc ([], 0)) RR).alloc (.cells (cells zero) DR)
      rw [World.size_alloc, World.size_alloc] at this
      exact ((hn.blk this (fun h => h)).alloc _).alloc _
    · have := Blk.new (((w.alloc (.cells (rc s) RR)).alloc (.cells (cells d) DR)).alloc (.cells (rc ([], 0)) RR)) (cells zero) DR
      rw [World.size_alloc, World.size_alloc, World.size_alloc] at this
      exact ((hn.blk this (fun h => h)).alloc _).alloc _
  obtain ⟨x0, x1, x2, x3, x4, x5, x6, x7, x8⟩ := d
  obtain ⟨y0, y1, y2, y3, y4, y5, y6, y7, y8⟩ := d2
  simp only [rc, cells] at HN
  simp only [cells]
  go_enter Try.func43, Try.ntmps43
  go_wp2_with fail
  refine (HN.out _).mono ?_
  rintro e w1 ⟨rfl, hn1⟩
  have H1 := Lib.hid (H0.out w1 hn1)
  clear H0 hn1 HN
  go_upto_if 22 with fail
  obtain ⟨W0, hW0⟩ : ∃ W, W = (w1.alloc (.cells #[.string ⟨s2.1.toArray⟩, .int .i64 s2.2] RR)).alloc (.cells #[.bool y0, .bool y1, .int .i64 y2, .int .i64 y3, .bool y4, .int .i64 y5, .int .i64 y6, .bool y7, .int .i64 y8] DR) := ⟨_, rfl⟩
  rw [← hW0]
  have H2 : Hid (RD w W0 w1.heap.size (w1.heap.size + 1) (w.heap.size + 1 + 1) (w.heap.size + 1 + 1 + 1) s2 ⟨y0, y1, y2, y3, y4, y5, y6, y7, y8⟩) := by rw [hW0]; exact H1
  clear H1 hW0
  generalize w.heap.size + 1 + 1 + 1 = qd at *
  generalize w.heap.size + 1 + 1 = qr at *
  generalize w1.heap.size + 1 = pd at *
  generalize w1.heap.size = pr at *
  obtain ⟨dN, hdN⟩ : ∃ x, x = tkLD f ⟨y0, y1, y2, y3, y4, y5, y6, y7, y8⟩ s2 := ⟨_, rfl⟩
  obtain ⟨sN, hsN⟩ : ∃ x, x = tkLS f s2 := ⟨_, rfl⟩
  rw [← hdN] at HTD
  rw [← hsN] at HTS
  have HDN := Lib.hid hdN
  have HSN := Lib.hid hsN
  clear hdN hsN
  go_cut [] (fun wx => RD w wx pr pd qr qd sN dN)
  case first =>
    by_cases h0 : f / 16 % 4 = 0
    · have h0' : decide (0 < f / 16 % 4) = false := decide_eq_false (by omega)
      unfold tkLD at HDN
      unfold tkLS at HSN
      rw [if_pos h0] at HDN HSN
      clear h0
      rw [h0']
      go_wp2_with fail
      go_meet
      case rel => rw [HDN.out, HSN.out]; exact H2.out
    · have h0' : decide (0 < f / 16 % 4) = true := decide_eq_true (by omega)
      unfold tkLD at HDN
      unfold tkLS at HSN
      rw [if_neg h0] at HDN HSN
      clear h0
      rw [h0']
      obtain ⟨c0, c1, c2, c3⟩ := cells2 H2.out.br
      have hv := vn_bd1 s2
      have HT := Lib.hid (HTake.out s2 W0 hok2 hs2)
      have hb32 := b32_is (vn 1 s2) hv.1 hv.2
      unfold tk4D tk3D at HDN
      generalize vn 1 s2 = v at *
      go_wp2_with fail
      refine (HT.out).mono ?_
      rintro e w4 ⟨rfl, hn4⟩
      have H3 := Lib.hid (H2.out.new hn4)
      clear hn4 HT c0 c1 c2 c3 H2
      have HB := Lib.hid hb32
      clear hb32
      obtain ⟨c0, c1, c2, c3⟩ := cells2 H3.out.br
      have hlt := H3.out.br.lt
      have hlt2 := H3.out.bd.lt
      have hne := H3.out.h1
      have hne2 := H3.out.h1.symm
      obtain ⟨d6, g6⟩ := And.intro (H3.out.bd.cell 6) (H3.out.bd.free 6)
      obtain ⟨d7, g7⟩ := And.intro (H3.out.bd.cell 7) (H3.out.bd.free 7)
      obtain ⟨d8, g8⟩ := And.intro (H3.out.bd.cell 8) (H3.out.bd.free 8)
      change _ = some (Value.int .i64 y6) at d6
      change _ = some (Value.bool y7) at d7
      change _ = some (Value.int .i64 y8) at d8
      have a := H3.out.read (nx 1 s2)
      by_cases h1 : f / 32 % 2 = 1
      · have h1' : (f / 32 % 2 == 1) = true := by simp; omega
        rw [if_pos h1] at HDN
        have b := a.desc 6 _ (es6 a.bd (v / 64))
        have b2 := b.desc 7 _ (es7 b.bd (v / 32 % 2 == 1))
        have hbb : b32 v = (v / 32 % 2 == 1) := by rw [HB.out]; rfl
        rw [hbb] at HDN
        clear hbb
        by_cases h2 : f / 16 % 2 = 1
        · have h2' : (f / 16 % 2 == 1) = true := by simp; omega
          rw [if_pos h2] at HDN
          have b3 := b2.desc 8 _ (es8 b2.bd (v % 32))
          have HX := Lib.hid (fun o => b3.alloc o)
          clear a b b2 b3 h1 h2 H3
          go_wp2_with fail
          go_meet
          case rel => rw [HDN.out, HSN.out]; exact HX.out _
        · have h2' : (f / 16 % 2 == 1) = false := by simp; omega
          rw [if_neg h2] at HDN
          have HX := Lib.hid (fun o => b2.alloc o)
          clear a b b2 h1 h2 H3
          go_wp2_with fail
          go_meet
          case rel => rw [HDN.out, HSN.out]; exact HX.out _
      · have h1' : (f / 32 % 2 == 1) = false := by simp; omega
        rw [if_neg h1] at HDN
        by_cases h2 : f / 16 % 2 = 1
        · have h2' : (f / 16 % 2 == 1) = true := by simp; omega
          rw [if_pos h2] at HDN
          have b3 := a.desc 8 _ (es8 a.bd (v % 32))
          have HX := Lib.hid (fun o => b3.alloc o)
          clear a b3 h1 h2 H3
          go_wp2_with fail
          go_meet
          case rel => rw [HDN.out, HSN.out]; exact HX.out _
        · have h2' : (f / 16 % 2 == 1) = false := by simp; omega
          rw [if_neg h2] at HDN
          have HX := Lib.hid (fun o => a.alloc o)
          clear a h1 h2 H3
          go_wp2_with fail
          go_meet
          case rel => rw [HDN.out, HSN.out]; exact HX.out _
  case rest =>
    clear H2 HDN HSN HTake
    obtain ⟨c0, c1, c2, c3⟩ := cells2 hcut.br
    obtain ⟨q0, q1, q2, q3⟩ := cells2 hcut.bqr
    obtain ⟨z0, z1, z2, z3, z4, z5, z6, z7, z8⟩ := cells9 hcut.bqd
    obtain ⟨y0, y1, y2, y3, y4, y5, y6, y7, y8⟩ := frees9 hcut.bqd
    obtain ⟨nr, st, part, pic, wide, lev, lay, sync, key⟩ := dN
    obtain ⟨d0, d1, d2, d3, d4, d5, d6, d7, d8⟩ := cells9 hcut.bd
    have hne := hcut.h6
    have hne2 := hcut.h6.symm
    have hne3 := hcut.h4
    have hne4 := hcut.h4.symm
    have hne5 := hcut.h2
    have hne6 := hcut.h2.symm
    have hne7 := hcut.h3
    have hne8 := hcut.h3.symm
    have hne9 := hcut.h5
    have hne10 := hcut.h5.symm
    have H9 := Lib.hid hcut
    clear hcut
    simp only at d0 d1 d2 d3 d4 d5 d6 d7 d8
    go_wp2_with fail
    go_region
    all_goals
      go_wp2
      refine (show bodyPost _ _ _ _ _ (World.drew (put9 (put2r wc qr sN) qd (.bool nr) (.bool st) (.int .i64 part) (.int .i64 pic) (.bool wide) (.int .i64 lev) (.int .i64 lay) (.bool sync) (.int .i64 key))) from ?_)
      have hqr := put2r_blk H9.out.bqr sN
      have hqd : Blk (put2r wc qr sN) qd (cells zero) DR := (H9.out.bqd.setOther (a := ⟨qr, 0, none⟩) hne _).setOther (a := ⟨qr, 1, none⟩) hne _
      have hnn : New w (put2r wc qr sN) := (H9.out.n.setCell (p := ⟨qr, 0, none⟩) (.inr H9.out.h7) _).setCell (p := ⟨qr, 1, none⟩) (.inr H9.out.h7) _
      have hqd2 := put9_blk (show Blk (put2r wc qr sN) qd #[.bool false, .bool false, .int .i64 0, .int .i64 0, .bool false, .int .i64 0, .int .i64 0, .bool false, .int .i64 0] DR from hqd) (.bool nr) (.bool st) (.int .i64 part) (.int .i64 pic) (.bool wide) (.int .i64 lev) (.int .i64 lay) (.bool sync) (.int .i64 key)
      have hqr2 := put9_other hqr hne2 (.bool nr) (.bool st) (.int .i64 part) (.int .i64 pic) (.bool wide) (.int .i64 lev) (.int .i64 lay) (.bool sync) (.int .i64 key)
      have hn2 := put9_turns hnn (.inr H9.out.h8) (.bool nr) (.bool st) (.int .i64 part) (.int .i64 pic) (.bool wide) (.int .i64 lev) (.int .i64 lay) (.bool sync) (.int .i64 key)
      generalize put9 (put2r wc qr sN) qd (.bool nr) (.bool st) (.int .i64 part) (.int .i64 pic) (.bool wide) (.int .i64 lev) (.int .i64 lay) (.bool sync) (.int .i64 key) = W9 at *
      clear c0 c1 c2 c3 q0 q1 q2 q3 z0 z1 z2 z3 z4 z5 z6 z7 z8 y0 y1 y2 y3 y4 y5 y6 y7 y8 d0 d1 d2 d3 d4 d5 d6 d7 d8
      obtain ⟨z0, z1, z2, z3, z4, z5, z6, z7, z8⟩ := cells9 hqd2.drew
      obtain ⟨q0, q1, _, _⟩ := cells2 hqr2.drew
      refine bodyPost_ret (v := .tuple #[.agg #[.string ⟨sN.1.toArray⟩, .int .i64 sN.2], .agg #[.bool nr, .bool st, .int .i64 part, .int .i64 pic, .bool wide, .int .i64 lev, .int .i64 lay, .bool sync, .int .i64 key]]) (by simp [results, Try.results43, go_sem, z0, z1, z2, z3, z4, z5, z6, z7, z8, q0, q1]) rfl ?_
      refine ⟨?_, hn2.drew⟩
      have e1 := HTD.out
      have e2 := HTS.out
      rw [e1, e2]
      rfl

theorem rp_D (s : St) : pD s = if 127 < vn 1 s then tkD (vn 1 (nx 1 s)) (d0 (vn 1 s)) (nx 1 (nx 1 s)) else tkD 0 (d0 (vn 1 s)) (nx 1 s) := by
  unfold pD
  by_cases h : 128 ≤ vn 1 s
  · rw [if_pos h, if_pos (by omega)]
  · rw [if_neg h, if_neg (by omega)]
    try rfl
theorem rp_S (s : St) : pS s = if 127 < vn 1 s then tkS (vn 1 (nx 1 s)) (nx 1 (nx 1 s)) else tkS 0 (nx 1 s) := by
  unfold pS
  by_cases h : 128 ≤ vn 1 s
  · rw [if_pos h, if_pos (by omega)]
  · rw [if_neg h, if_neg (by omega)]
    try rfl

set_option maxHeartbeats 2000000 in
theorem rparse (s0 : ByteArray) (w : World) (hs : s0.size ≤ 4611686018427387904) :
    Calls Try.prog 28 #[.string s0] w fun en w' => en = .returned (.tuple #[.agg (cells (outD (s0.data.toList, 0))), .string ⟨(outL (s0.data.toList, 0)).toArray⟩, .int .i64 (pS (s0.data.toList, 0)).2]) ∧ New w w' := by
  have HTake := Lib.hid (fun st w hok hs => rtake_st st 1 w (by omega) (by omega) hok hs)
  have HLast := Lib.hid (fun s d f w a b c e h => last s d f w a b c e h)
  have hlen : s0.data.toList.length ≤ 4611686018427387904 := by rw [Array.length_toList]; exact hs
  obtain ⟨s, hse⟩ : ∃ x : St, x = (s0.data.toList, (0 : Int)) := ⟨_, rfl⟩
  have e1 : (⟨s.1.toArray⟩ : ByteArray) = s0 := by rw [hse]
  have e2 : s.2 = 0 := by rw [hse]
  have hok : Ok s := by rw [hse]; simp [Ok]
  have hl : s.1.length ≤ 4611686018427387904 := by rw [hse]; exact hlen
  rw [← hse]
  clear hse hlen
  have HT1 := Lib.hid (fun w => HTake.out s w hok hl)
  simp only [e1, e2] at HT1
  have hb := vn_bd1 s
  have hok1 := nx_ok 1 hok
  have hl1 := Nat.le_trans (nx_len 1 s) hl
  have HPD := Lib.hid (rp_D s)
  have HPS := Lib.hid (rp_S s)
  have HO : Hid (outD s = if (pS s).2 = 0 then pD s else zero) := Lib.hid rfl
  have HL : Hid (outL s = if (pS s).2 = 0 then (pS s).1 else []) := Lib.hid rfl
  have HD0 : Hid (d0 (vn 1 s) = ⟨b32 (vn 1 s), b16 (vn 1 s), vn 1 s % 8, -1, false, -1, -1, false, -1⟩) := Lib.hid rfl
  rw [b32_is _ hb.1 hb.2, b16_is _ hb.1 hb.2] at HD0
  clear e1 e2 hok hl hs
  go_enter Try.func28, Try.ntmps28
  go_wp2_with fail
  refine (HT1.out _).mono ?_
  rintro e w1 ⟨rfl, hn1⟩
  have hz1 := hn1.blk (Blk.new w #[.bool false, .bool false, .int .i64 0, .int .i64 0, .bool false, .int .i64 0, .int .i64 0, .bool false, .int .i64 0] DR) (fun h => h)
  have hn1' : New w w1 := ((Turns.refl _ w).alloc (.cells #[.bool false, .bool false, .int .i64 0, .int .i64 0, .bool false, .int .i64 0, .int .i64 0, .bool false, .int .i64 0] DR)).trans (hn1.mono (fun _ _ h => h.elim))
  have hlt1 := hz1.lt
  generalize vn 1 s = a at *
  clear hn1 HT1
  go_upto_if 32 with fail
  have hr5 := (Blk.new w1 #[.string ⟨(nx 1 s).1.toArray⟩, .int .i64 (nx 1 s).2] RR).alloc (.cells #[.bool (a / 32 % 2 == 1), .bool (a / 16 % 2 == 1), .int .i64 (a % 8), .int .i64 (-1), .bool false, .int .i64 (-1), .int .i64 (-1), .bool false, .int .i64 (-1)] DR)
  have hd5 := Blk.new (w1.alloc (.cells #[.string ⟨(nx 1 s).1.toArray⟩, .int .i64 (nx 1 s).2] RR)) #[.bool (a / 32 % 2 == 1), .bool (a / 16 % 2 == 1), .int .i64 (a % 8), .int .i64 (-1), .bool false, .int .i64 (-1), .int .i64 (-1), .bool false, .int .i64 (-1)] DR
  rw [World.size_alloc] at hd5
  have hz5 := (hz1.alloc (.cells #[.string ⟨(nx 1 s).1.toArray⟩, .int .i64 (nx 1 s).2] RR)).alloc (.cells #[.bool (a / 32 % 2 == 1), .bool (a / 16 % 2 == 1), .int .i64 (a % 8), .int .i64 (-1), .bool false, .int .i64 (-1), .int .i64 (-1), .bool false, .int .i64 (-1)] DR)
  have hn5 := (hn1'.alloc (.cells #[.string ⟨(nx 1 s).1.toArray⟩, .int .i64 (nx 1 s).2] RR)).alloc (.cells #[.bool (a / 32 % 2 == 1), .bool (a / 16 % 2 == 1), .int .i64 (a % 8), .int .i64 (-1), .bool false, .int .i64 (-1), .int .i64 (-1), .bool false, .int .i64 (-1)] DR)
  have H5 := Lib.hid (And.intro hr5 (And.intro hd5 (And.intro hz5 hn5)))
  generalize (w1.alloc (.cells #[.string ⟨(nx 1 s).1.toArray⟩, .int .i64 (nx 1 s).2] RR)).alloc (.cells #[.bool (a / 32 % 2 == 1), .bool (a / 16 % 2 == 1), .int .i64 (a % 8), .int .i64 (-1), .bool false, .int .i64 (-1), .int .i64 (-1), .bool false, .int .i64 (-1)] DR) = w5 at *
  have hpd : w1.heap.size + 1 ≠ w1.heap.size := by omega
  clear hr5 hd5 hz5 hn5 hz1 hn1'
  generalize w1.heap.size + 1 = pd at *
  generalize w1.heap.size = pr at *
  obtain ⟨F, hF⟩ : ∃ x, x = (if 127 < a then vn 1 (nx 1 s) else 0) := ⟨_, rfl⟩
  obtain ⟨S5, hS5⟩ : ∃ x, x = (if 127 < a then nx 1 (nx 1 s) else nx 1 s) := ⟨_, rfl⟩
  have HF := Lib.hid hF
  have HS5 := Lib.hid hS5
  have hFb : 0 ≤ F ∧ F ≤ 255 := by rw [hF]; have := vn_bd1 (nx 1 s); split <;> omega
  have hok5 : Ok S5 := by rw [hS5]; split; exact nx_ok 1 hok1; exact hok1
  have hl5 : S5.1.length ≤ 4611686018427387904 := by rw [hS5]; split; exact Nat.le_trans (nx_len 1 _) hl1; exact hl1
  have HPD' : Hid (pD s = tkD F (d0 a) S5) := by rw [HPD.out, hF, hS5]; split <;> exact Lib.hid rfl
  have HPS' : Hid (pS s = tkS F S5) := by rw [HPS.out, hF, hS5]; split <;> exact Lib.hid rfl
  clear hF hS5 HPD HPS
  have HT2 := Lib.hid (fun w => HTake.out (nx 1 s) w hok1 hl1)
  go_cut [8] (fun v wx => v = .int .i64 F ∧ Blk wx pr #[.string ⟨S5.1.toArray⟩, .int .i64 S5.2] RR ∧ Blk wx pd #[.bool (a / 32 % 2 == 1), .bool (a / 16 % 2 == 1), .int .i64 (a % 8), .int .i64 (-1), .bool false, .int .i64 (-1), .int .i64 (-1), .bool false, .int .i64 (-1)] DR ∧ Blk wx w.heap.size #[.bool false, .bool false, .int .i64 0, .int .i64 0, .bool false, .int .i64 0, .int .i64 0, .bool false, .int .i64 0] DR ∧ New w wx)
  case first =>
    by_cases h : 127 < a
    · have h' : decide (127 < a) = true := decide_eq_true h
      rw [if_pos h] at HF HS5
      rw [h']
      clear h
      have hv := vn_bd1 (nx 1 s)
      obtain ⟨c0, c1, c2, c3⟩ := cells2 H5.out.1
      have HT3 := Lib.hid (HT2.out w5)
      generalize vn 1 (nx 1 s) = v at *
      go_wp2_with fail
      refine (HT3.out).mono ?_
      rintro e w6 ⟨rfl, hn6⟩
      have hr6 := hn6.blk H5.out.1 (fun h => h)
      have hd6 := hn6.blk H5.out.2.1 (fun h => h)
      have hz6 := hn6.blk H5.out.2.2.1 (fun h => h)
      have hn6' := H5.out.2.2.2.trans (hn6.mono (fun _ _ h => h.elim))
      have H6 := Lib.hid (And.intro hr6 (And.intro hd6 (And.intro hz6 hn6')))
      have hlt6 := hr6.lt
      clear c0 c1 c2 c3
      obtain ⟨c0, c1, c2, c3⟩ := cells2 hr6
      clear hr6 hd6 hz6 hn6 hn6' H5 HT3
      go_wp2_with fail
      go_meet
      case rel =>
        refine ⟨by rw [HF.out], ?_, ?_, ?_, ?_⟩
        · rw [HS5.out]; exact (put2r_blk (s0 := nx 1 s) H6.out.1 (nx 1 (nx 1 s))).alloc _
        · exact ((H6.out.2.1.setOther (a := ⟨pr, 0, none⟩) hpd.symm _).setOther (a := ⟨pr, 1, none⟩) hpd.symm _).alloc _
        · exact ((H6.out.2.2.1.setOther (a := ⟨pr, 0, none⟩) (by simp; omega) _).setOther (a := ⟨pr, 1, none⟩) (by simp; omega) _).alloc _
        · exact ((H6.out.2.2.2.setCell (p := ⟨pr, 0, none⟩) (.inr (by simp; omega)) _).setCell (p := ⟨pr, 1, none⟩) (.inr (by simp; omega)) _).alloc _
    · have h' : decide (127 < a) = false := decide_eq_false h
      rw [if_neg h] at HF HS5
      rw [h']
      clear h
      go_wp2_with fail
      go_meet
      case rel =>
        refine ⟨by rw [HF.out], ?_⟩
        rw [HS5.out]; exact H5.out
  case rest =>
    obtain ⟨rfl, hr7, hd7, hz7, hn7⟩ := hcut
    obtain ⟨c0, c1, c2, c3⟩ := cells2 hr7
    obtain ⟨d0', d1', d2', d3', d4', d5', d6', d7', d8'⟩ := cells9 hd7
    have HL9 := Lib.hid (HLast.out S5 (d0 a) F wc hFb.1 hFb.2 hok5 hl5 (by rw [HD0.out]))
    obtain ⟨dN, hdN⟩ : ∃ x, x = tkD F (d0 a) S5 := ⟨_, rfl⟩
    obtain ⟨sN, hsN⟩ : ∃ x, x = tkS F S5 := ⟨_, rfl⟩
    rw [← hdN] at HPD' HL9
    rw [← hsN] at HPS' HL9
    rw [HD0.out] at HL9
    obtain ⟨y0, y1, y2, y3, y4, y5, y6, y7, y8⟩ := dN
    simp only [cells, rc] at HL9
    have HZ7 := Lib.hid hz7
    have HN7 := Lib.hid hn7
    clear H5 HF HS5 hdN hsN HLast HTake HT2 hr7 hd7 hz7 hn7
    have hdd : (decide (a / 32 % 2 = 1), decide (a / 16 % 2 = 1)) = ((a / 32 % 2 == 1), (a / 16 % 2 == 1)) := rfl
    simp only [Prod.mk.injEq] at hdd
    rw [hdd.1, hdd.2] at HL9
    clear hdd
    go_wp2_with fail
    refine (HL9.out).mono ?_
    rintro e w8 ⟨rfl, hn8⟩
    have hz8 := hn8.blk HZ7.out (fun h => h)
    have hlt8 := hz8.lt
    have hn8' : New w w8 := HN7.out.trans (hn8.mono (fun _ _ h => h.elim))
    clear hn8 HL9 c0 c1 c2 c3 d0' d1' d2' d3' d4' d5' d6' d7' d8'
    have HZ8 := Lib.hid hz8
    have HN8 := Lib.hid hn8'
    clear hz8 hn8'
    obtain ⟨l, e⟩ := sN
    by_cases he : e = 0
    · subst he
      go_wp2_with fail
      have hr9 := (Blk.new w8 #[.string ⟨l.toArray⟩, .int .i64 0] RR).alloc (.cells #[.bool y0, .bool y1, .int .i64 y2, .int .i64 y3, .bool y4, .int .i64 y5, .int .i64 y6, .bool y7, .int .i64 y8] DR)
      have hd9 := Blk.new (w8.alloc (.cells #[.string ⟨l.toArray⟩, .int .i64 0] RR)) #[.bool y0, .bool y1, .int .i64 y2, .int .i64 y3, .bool y4, .int .i64 y5, .int .i64 y6, .bool y7, .int .i64 y8] DR
      rw [World.size_alloc] at hd9
      have hz9 := (HZ8.out.alloc (.cells #[.string ⟨l.toArray⟩, .int .i64 0] RR)).alloc (.cells #[.bool y0, .bool y1, .int .i64 y2, .int .i64 y3, .bool y4, .int .i64 y5, .int .i64 y6, .bool y7, .int .i64 y8] DR)
      have hn9 := (HN8.out.alloc (.cells #[.string ⟨l.toArray⟩, .int .i64 0] RR)).alloc (.cells #[.bool y0, .bool y1, .int .i64 y2, .int .i64 y3, .bool y4, .int .i64 y5, .int .i64 y6, .bool y7, .int .i64 y8] DR)
      have hq1 : w8.heap.size ≠ w.heap.size := by omega
      have hq2 : w8.heap.size + 1 ≠ w.heap.size := by omega
      generalize (w8.alloc (.cells #[.string ⟨l.toArray⟩, .int .i64 0] RR)).alloc (.cells #[.bool y0, .bool y1, .int .i64 y2, .int .i64 y3, .bool y4, .int .i64 y5, .int .i64 y6, .bool y7, .int .i64 y8] DR) = w9 at *
      generalize w8.heap.size + 1 = p12 at *
      generalize w8.heap.size = p11 at *
      have hq3 := hq1.symm
      have hq4 := hq2.symm
      obtain ⟨c0, c1, c2, c3⟩ := cells2 hr9
      obtain ⟨e0, e1, e2, e3, e4, e5, e6, e7, e8⟩ := cells9 hd9
      obtain ⟨z0, z1, z2, z3, z4, z5, z6, z7, z8⟩ := cells9 hz9
      obtain ⟨f0, f1, f2, f3, f4, f5, f6, f7, f8⟩ := frees9 hz9
      have HF := Lib.hid (put9_blk hz9 (.bool y0) (.bool y1) (.int .i64 y2) (.int .i64 y3) (.bool y4) (.int .i64 y5) (.int .i64 y6) (.bool y7) (.int .i64 y8))
      have HNN := Lib.hid (put9_turns hn9 (.inr (Nat.le_refl _)) (.bool y0) (.bool y1) (.int .i64 y2) (.int .i64 y3) (.bool y4) (.int .i64 y5) (.int .i64 y6) (.bool y7) (.int .i64 y8))
      clear hz9 hn9 hr9 hd9
      go_region
      all_goals
        go_wp2
        refine (show bodyPost _ _ _ _ _ (World.drew (put9 w9 w.heap.size (.bool y0) (.bool y1) (.int .i64 y2) (.int .i64 y3) (.bool y4) (.int .i64 y5) (.int .i64 y6) (.bool y7) (.int .i64 y8))) from ?_)
        generalize put9 w9 w.heap.size (.bool y0) (.bool y1) (.int .i64 y2) (.int .i64 y3) (.bool y4) (.int .i64 y5) (.int .i64 y6) (.bool y7) (.int .i64 y8) = w10 at *
        clear z0 z1 z2 z3 z4 z5 z6 z7 z8
        obtain ⟨z0, z1, z2, z3, z4, z5, z6, z7, z8⟩ := cells9 HF.out.drew
        refine bodyPost_ret (v := .tuple #[.agg #[.bool y0, .bool y1, .int .i64 y2, .int .i64 y3, .bool y4, .int .i64 y5, .int .i64 y6, .bool y7, .int .i64 y8], .string ⟨l.toArray⟩, .int .i64 0]) (by simp [results, Try.results28, go_sem, z0, z1, z2, z3, z4, z5, z6, z7, z8]) rfl ?_
        refine ⟨?_, HNN.out.drew⟩
        rw [HO.out, HL.out, HPD'.out, HPS'.out]
        rfl
    · have heb : (e != 0) = true := by simp [he]
      have hif : ∀ (α : Type) (x y : α), (if e = 0 then x else y) = y := fun α x y => if_neg he
      have HIF := Lib.hid hif
      clear hif he
      go_wp2_with fail
      have hr9 := (Blk.new w8 #[.string ⟨l.toArray⟩, .int .i64 e] RR).alloc (.cells #[.bool y0, .bool y1, .int .i64 y2, .int .i64 y3, .bool y4, .int .i64 y5, .int .i64 y6, .bool y7, .int .i64 y8] DR)
      have hd9 := Blk.new (w8.alloc (.cells #[.string ⟨l.toArray⟩, .int .i64 e] RR)) #[.bool y0, .bool y1, .int .i64 y2, .int .i64 y3, .bool y4, .int .i64 y5, .int .i64 y6, .bool y7, .int .i64 y8] DR
      rw [World.size_alloc] at hd9
      have hz9 := (HZ8.out.alloc (.cells #[.string ⟨l.toArray⟩, .int .i64 e] RR)).alloc (.cells #[.bool y0, .bool y1, .int .i64 y2, .int .i64 y3, .bool y4, .int .i64 y5, .int .i64 y6, .bool y7, .int .i64 y8] DR)
      have hn9 := (HN8.out.alloc (.cells #[.string ⟨l.toArray⟩, .int .i64 e] RR)).alloc (.cells #[.bool y0, .bool y1, .int .i64 y2, .int .i64 y3, .bool y4, .int .i64 y5, .int .i64 y6, .bool y7, .int .i64 y8] DR)
      have hq1 : w8.heap.size ≠ w.heap.size := by omega
      have hq2 : w8.heap.size + 1 ≠ w.heap.size := by omega
      generalize (w8.alloc (.cells #[.string ⟨l.toArray⟩, .int .i64 e] RR)).alloc (.cells #[.bool y0, .bool y1, .int .i64 y2, .int .i64 y3, .bool y4, .int .i64 y5, .int .i64 y6, .bool y7, .int .i64 y8] DR) = w9 at *
      generalize w8.heap.size + 1 = p12 at *
      generalize w8.heap.size = p11 at *
      have hq3 := hq1.symm
      have hq4 := hq2.symm
      obtain ⟨c0, c1, c2, c3⟩ := cells2 hr9
      obtain ⟨e0, e1, e2, e3, e4, e5, e6, e7, e8⟩ := cells9 hd9
      obtain ⟨z0, z1, z2, z3, z4, z5, z6, z7, z8⟩ := cells9 hz9
      obtain ⟨f0, f1, f2, f3, f4, f5, f6, f7, f8⟩ := frees9 hz9
      have HF := Lib.hid (put9_blk hz9 (.bool false) (.bool false) (.int .i64 0) (.int .i64 0) (.bool false) (.int .i64 0) (.int .i64 0) (.bool false) (.int .i64 0))
      have HNN := Lib.hid (put9_turns hn9 (.inr (Nat.le_refl _)) (.bool false) (.bool false) (.int .i64 0) (.int .i64 0) (.bool false) (.int .i64 0) (.int .i64 0) (.bool false) (.int .i64 0))
      clear hz9 hn9 hr9 hd9
      go_region
      all_goals
        go_wp2
        refine (show bodyPost _ _ _ _ _ (World.drew (put9 w9 w.heap.size (.bool false) (.bool false) (.int .i64 0) (.int .i64 0) (.bool false) (.int .i64 0) (.int .i64 0) (.bool false) (.int .i64 0))) from ?_)
        generalize put9 w9 w.heap.size (.bool false) (.bool false) (.int .i64 0) (.int .i64 0) (.bool false) (.int .i64 0) (.int .i64 0) (.bool false) (.int .i64 0) = w10 at *
        clear z0 z1 z2 z3 z4 z5 z6 z7 z8
        obtain ⟨z0, z1, z2, z3, z4, z5, z6, z7, z8⟩ := cells9 HF.out.drew
        refine bodyPost_ret (v := .tuple #[.agg #[.bool false, .bool false, .int .i64 0, .int .i64 0, .bool false, .int .i64 0, .int .i64 0, .bool false, .int .i64 0], .string ⟨#[]⟩, .int .i64 e]) (by simp [results, Try.results28, go_sem, z0, z1, z2, z3, z4, z5, z6, z7, z8]) rfl ?_
        refine ⟨?_, HNN.out.drew⟩
        rw [HO.out, HL.out, HPD'.out, HPS'.out]
        simp only [HIF.out]
        rfl
end Go.Proofs.Ytijpgkkhjjpjoaa.vp
