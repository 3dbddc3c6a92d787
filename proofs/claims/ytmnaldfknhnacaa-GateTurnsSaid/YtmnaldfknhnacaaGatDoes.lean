/-
  'does' of layer 14: a call on both.
-/
import Derived.Test.YtmnaldfknhnacaaGatRef
import Derived.Deep.RegionHeld3
import Derived.Deep.QuietTactic
import Derived.BigQuiet
import Derived.Deep.DeepCutAuto
import Derived.Outline
namespace Go.Proofs.Ytmnaldfknhnacaa.gat
open Go.RowKit mem
set_option linter.unusedVariables false

/-- behind the stores of a result -/
theorem stored {w w5 : World} {p px py : Nat} {t : G} {l l0 : List Value} (hpl : p < w.heap.size) (hpy : w.heap.size ≤ py) (h : At w w5 p t) (hb : Blk w5 py l0.toArray XG) (hl : l.length = l0.length) :
    Blk (puts w5 py 0 l) py l.toArray XG ∧ At w (puts w5 py 0 l) p t :=
  ⟨puts_blk _ _ hb hl, at_fin hpl h (puts_turns (S := fun k => w.heap.size ≤ k) (p := py) (.inl hpy) l 0 w5 (Turns.refl _ _))⟩

set_option maxHeartbeats 1000000 in
theorem does1 (p : Nat) (g : G) (l : Int) (key on : Bool) (w : World) (h : Gt w p g) (ho : g.ok) :
    Calls Try.prog 9 #[.pointer (some ⟨p, 0, none⟩), .agg (rx g), .agg #[.int .i64 1, .int .i64 l, .bool key, .bool on]] w (Does g 1 l key on p w) := by
  have hm := mask.mask2 l
  have hl0 : 0 ≤ l % 4 := by omega
  have H0 := Lib.hid h
  have hpl := h.lt
  have HE : Hid (stepG g 1 l key on = passG g (l % 4) key ∧ goesK g 1 l key = passB g (l % 4) key) := Lib.hid ⟨rfl, rfl⟩
  unfold Does
  rw [HE.out.1, HE.out.2]
  have HP := Lib.hid (fun w h => pass p g (l % 4) key w h ho)
  have HR := Lib.hid (fun w => rpass g (l % 4) key w ho hl0)
  unfold rx at HR ⊢
  generalize l % 4 = q at *
  generalize passG g q key = t at *
  generalize passB g q key = B at *
  generalize atV g.o g.a = av at *
  generalize atV t.o t.a = tv at *
  clear h ho hl0 HE
  go_enter Try.func9, Try.ntmps9
  go_wp2_with fail
  refine (HP.out _ (((H0.out.alloc _).alloc _).alloc _)).mono ?_
  rintro e w1 ⟨rfl, h1⟩
  obtain ⟨bx, ba, by_, h1'⟩ := made3 hpl h1
  clear h1
  generalize hpy : w.heap.size + 1 + 1 = py at *
  generalize hpa : w.heap.size + 1 = pa at *
  generalize hpx : w.heap.size = px at *
  have ha1 : px < pa := by omega
  have ha2 : pa < py := by omega
  have n1 : px ≠ py := by omega
  have n2 : py ≠ px := by omega
  have HPX := Lib.hid hpx
  clear hpx hpa hpy H0 HP
  obtain ⟨⟨x0, x1, x2, x3, x4, x5⟩, fx0, fx1, fx2, fx3, fx4, fx5⟩ := six bx
  obtain ⟨k0, k1, k2, k3⟩ := four ba
  obtain ⟨⟨y0, y1, y2, y3, y4, y5⟩, fy0, fy1, fy2, fy3, fy4, fy5⟩ := six by_
  have BX := Lib.hid bx
  have BA := Lib.hid ba
  have BY := Lib.hid by_
  have H1 := Lib.hid h1'
  clear bx ba by_ h1'
  go_wp2_with fail
  refine (HR.out _).mono ?_
  rintro e w2 ⟨rfl, h2⟩
  have bx : Blk w2 px _ XG := h2.blk BX.out (fun h => h)
  have ba : Blk w2 pa _ 29 := h2.blk BA.out (fun h => h)
  have by_ : Blk w2 py _ XG := h2.blk BY.out (fun h => h)
  have h1' := at_new H1.out h2
  clear BX BA BY H1 x0 x1 x2 x3 x4 x5 fx0 fx1 fx2 fx3 fx4 fx5 k0 k1 k2 k3 y0 y1 y2 y3 y4 y5 fy0 fy1 fy2 fy3 fy4 fy5 h2 HR
  obtain ⟨⟨x0, x1, x2, x3, x4, x5⟩, fx0, fx1, fx2, fx3, fx4, fx5⟩ := six bx
  obtain ⟨k0, k1, k2, k3⟩ := four ba
  obtain ⟨⟨y0, y1, y2, y3, y4, y5⟩, fy0, fy1, fy2, fy3, fy4, fy5⟩ := six by_
  have hyl := by_.lt
  have hxl := bx.lt
  have BX := Lib.hid bx
  have BA := Lib.hid ba
  have BY := Lib.hid by_
  have H1 := Lib.hid h1'
  clear bx ba by_ h1'
  go_upto_region 6 with fail
  have hw5 : Blk (w2.alloc (.cells #[.bool t.v, .bool t.p, .int .i64 tv, .int .i64 t.m, .int .i64 t.s, .int .i64 t.t] XG)) w2.heap.size #[.bool t.v, .bool t.p, .int .i64 tv, .int .i64 t.m, .int .i64 t.s, .int .i64 t.t] XG := Blk.new _ _ _
  have hy5 := BY.out.alloc (.cells #[.bool t.v, .bool t.p, .int .i64 tv, .int .i64 t.m, .int .i64 t.s, .int .i64 t.t] XG)
  have hA5 := at_new H1.out ((Turns.refl (fun _ => False) w2).alloc (.cells #[.bool t.v, .bool t.p, .int .i64 tv, .int .i64 t.m, .int .i64 t.s, .int .i64 t.t] XG))
  generalize w2.alloc (.cells #[.bool t.v, .bool t.p, .int .i64 tv, .int .i64 t.m, .int .i64 t.s, .int .i64 t.t] XG) = w5 at *
  generalize w2.heap.size = pz at *
  clear x0 x1 x2 x3 x4 x5 fx0 fx1 fx2 fx3 fx4 fx5 k0 k1 k2 k3 y0 y1 y2 y3 y4 y5 fy0 fy1 fy2 fy3 fy4 fy5 BX BA BY H1
  obtain ⟨⟨x0, x1, x2, x3, x4, x5⟩, _⟩ := six hw5
  obtain ⟨⟨y0, y1, y2, y3, y4, y5⟩, fy0, fy1, fy2, fy3, fy4, fy5⟩ := six hy5
  have H6 := Lib.hid (stored (px := px) (l := [.bool t.v, .bool t.p, .int .i64 tv, .int .i64 t.m, .int .i64 t.s, .int .i64 t.t]) (by rw [HPX.out]; exact hpl) (by rw [HPX.out]; first | exact Nat.le_refl _ | (show px ≤ _; omega)) hA5 hy5 rfl)
  have nz : pz ≠ py := by omega
  clear hw5 hy5 hA5
  go_wp2_with fail
  refine (show bodyPost _ _ _ _ _ (puts w5 py 0 [.bool t.v, .bool t.p, .int .i64 tv, .int .i64 t.m, .int .i64 t.s, .int .i64 t.t]) from ?_)
  generalize puts w5 py 0 [.bool t.v, .bool t.p, .int .i64 tv, .int .i64 t.m, .int .i64 t.s, .int .i64 t.t] = w9 at *
  have h6 := H6.out
  obtain ⟨⟨g0, g1, g2, g3, g4, g5⟩, _⟩ := six h6.1
  refine bodyPost_ret (v := .tuple #[.agg #[.bool t.v, .bool t.p, .int .i64 tv, .int .i64 t.m, .int .i64 t.s, .int .i64 t.t], .bool B, .bool true]) (by simp [results, Try.results9, go_sem, g0, g1, g2, g3, g4, g5]) rfl ?_
  exact ⟨rfl, h6.2⟩

set_option maxHeartbeats 1000000 in
theorem does2a (p : Nat) (g : G) (l : Int) (key on : Bool) (w : World) (h : Gt w p g) (ho : g.ok) (hl : l < 0) :
    Calls Try.prog 9 #[.pointer (some ⟨p, 0, none⟩), .agg (rx g), .agg #[.int .i64 2, .int .i64 l, .bool key, .bool on]] w (Does g 2 l key on p w) := by
  have hm := mask.mask2 l
  have hl0 : 0 ≤ l % 4 := by omega
  have H0 := Lib.hid h
  have hpl := h.lt
  have HE : Hid (stepG g 2 l key on = wantG g l ∧ goesK g 2 l key = false) := Lib.hid ⟨rfl, rfl⟩
  have HX : Hid (rx (wantG g l) = #[.bool g.v, .bool g.p, .int .i64 (atV g.o g.a), .int .i64 0, .int .i64 g.s, .int .i64 g.t]) := Lib.hid (by
    have : max l 0 = 0 := by omega
    unfold rx wantG
    simp only [this])
  unfold Does
  rw [HE.out.1, HE.out.2, HX.out]
  have HP := Lib.hid (fun w h => want p g l w h)
  unfold rx
  generalize atV g.o g.a = av at *
  clear h ho hl0 HE HX
  go_enter Try.func9, Try.ntmps9
  go_wp2_with fail
  refine (HP.out _ (((H0.out.alloc _).alloc _).alloc _)).mono ?_
  rintro e w1 ⟨rfl, h1⟩
  obtain ⟨bx, ba, by_, h1'⟩ := made3 hpl h1
  clear h1
  generalize hpy : w.heap.size + 1 + 1 = py at *
  generalize hpa : w.heap.size + 1 = pa at *
  generalize hpx : w.heap.size = px at *
  have ha1 : px < pa := by omega
  have ha2 : pa < py := by omega
  have n1 : px ≠ py := by omega
  have n2 : py ≠ px := by omega
  have HPX := Lib.hid hpx
  clear hpx hpa hpy H0 HP
  obtain ⟨⟨x0, x1, x2, x3, x4, x5⟩, fx0, fx1, fx2, fx3, fx4, fx5⟩ := six bx
  obtain ⟨k0, k1, k2, k3⟩ := four ba
  obtain ⟨⟨y0, y1, y2, y3, y4, y5⟩, fy0, fy1, fy2, fy3, fy4, fy5⟩ := six by_
  have BX := Lib.hid bx
  have BA := Lib.hid ba
  have BY := Lib.hid by_
  have H1 := Lib.hid h1'
  clear bx ba by_ h1'
  have hw5 : Blk (w1.setCell ⟨px, 3, none⟩ (.int .i64 0)) px ([.bool g.v, .bool g.p, .int .i64 av, .int .i64 0, .int .i64 g.s, .int .i64 g.t] : List Value).toArray XG ∧ Blk (w1.setCell ⟨px, 3, none⟩ (.int .i64 0)) py ([.bool false, .bool false, .int .i64 0, .int .i64 0, .int .i64 0, .int .i64 0] : List Value).toArray XG ∧ At w (w1.setCell ⟨px, 3, none⟩ (.int .i64 0)) p _ := ⟨BX.out.set 3 _, BY.out.setOther (a := ⟨px, 3, none⟩) n1 _, at_fin (by rw [HPX.out]; exact hpl) H1.out ((Turns.refl _ w1).setCell (.inl (by rw [HPX.out]; first | exact Nat.le_refl _ | (show px ≤ _; omega))) _)⟩
  have HW := Lib.hid hw5
  clear hw5
  go_upto_region 18 with fail
  refine (show Code.wp _ _ _ _ (w1.setCell ⟨px, 3, none⟩ (.int .i64 0)) from ?_)
  clear x0 x1 x2 x3 x4 x5 fx0 fx1 fx2 fx3 fx4 fx5 k0 k1 k2 k3 y0 y1 y2 y3 y4 y5 fy0 fy1 fy2 fy3 fy4 fy5 BX BA BY H1
  generalize (w1.setCell ⟨px, 3, none⟩ (.int .i64 0)) = w5 at *
  obtain ⟨bx, by_, h5⟩ := HW.out
  obtain ⟨⟨x0, x1, x2, x3, x4, x5⟩, _⟩ := six bx
  obtain ⟨⟨y0, y1, y2, y3, y4, y5⟩, fy0, fy1, fy2, fy3, fy4, fy5⟩ := six by_
  have H6 := Lib.hid (stored (px := px) (l := [.bool g.v, .bool g.p, .int .i64 av, .int .i64 0, .int .i64 g.s, .int .i64 g.t]) (by rw [HPX.out]; exact hpl) (by rw [HPX.out]; first | exact Nat.le_refl _ | (show px ≤ _; omega)) h5 by_ rfl)
  clear HW bx by_ h5
  go_wp2_with fail
  refine (show bodyPost _ _ _ _ _ (puts w5 py 0 [.bool g.v, .bool g.p, .int .i64 av, .int .i64 0, .int .i64 g.s, .int .i64 g.t]) from ?_)
  generalize puts w5 py 0 [.bool g.v, .bool g.p, .int .i64 av, .int .i64 0, .int .i64 g.s, .int .i64 g.t] = w9 at *
  have h6 := H6.out
  obtain ⟨⟨g0, g1, g2, g3, g4, g5⟩, _⟩ := six h6.1
  refine bodyPost_ret (v := .tuple #[.agg ([.bool g.v, .bool g.p, .int .i64 av, .int .i64 0, .int .i64 g.s, .int .i64 g.t] : List Value).toArray, .bool (false), .bool true]) (by simp [results, Try.results9, go_sem, g0, g1, g2, g3, g4, g5]) rfl ?_
  exact ⟨rfl, h6.2⟩

set_option maxHeartbeats 1000000 in
theorem does2b (p : Nat) (g : G) (l : Int) (key on : Bool) (w : World) (h : Gt w p g) (ho : g.ok) (hl : ¬ l < 0) :
    Calls Try.prog 9 #[.pointer (some ⟨p, 0, none⟩), .agg (rx g), .agg #[.int .i64 2, .int .i64 l, .bool key, .bool on]] w (Does g 2 l key on p w) := by
  have hm := mask.mask2 l
  have hl0 : 0 ≤ l % 4 := by omega
  have H0 := Lib.hid h
  have hpl := h.lt
  have HE : Hid (stepG g 2 l key on = wantG g l ∧ goesK g 2 l key = false) := Lib.hid ⟨rfl, rfl⟩
  have HX : Hid (rx (wantG g l) = #[.bool g.v, .bool g.p, .int .i64 (atV g.o g.a), .int .i64 l, .int .i64 g.s, .int .i64 g.t]) := Lib.hid (by
    have : max l 0 = l := by omega
    unfold rx wantG
    simp only [this])
  unfold Does
  rw [HE.out.1, HE.out.2, HX.out]
  have HP := Lib.hid (fun w h => want p g l w h)
  unfold rx
  generalize atV g.o g.a = av at *
  clear h ho hl0 HE HX
  go_enter Try.func9, Try.ntmps9
  go_wp2_with fail
  refine (HP.out _ (((H0.out.alloc _).alloc _).alloc _)).mono ?_
  rintro e w1 ⟨rfl, h1⟩
  obtain ⟨bx, ba, by_, h1'⟩ := made3 hpl h1
  clear h1
  generalize hpy : w.heap.size + 1 + 1 = py at *
  generalize hpa : w.heap.size + 1 = pa at *
  generalize hpx : w.heap.size = px at *
  have ha1 : px < pa := by omega
  have ha2 : pa < py := by omega
  have n1 : px ≠ py := by omega
  have n2 : py ≠ px := by omega
  have HPX := Lib.hid hpx
  clear hpx hpa hpy H0 HP
  obtain ⟨⟨x0, x1, x2, x3, x4, x5⟩, fx0, fx1, fx2, fx3, fx4, fx5⟩ := six bx
  obtain ⟨k0, k1, k2, k3⟩ := four ba
  obtain ⟨⟨y0, y1, y2, y3, y4, y5⟩, fy0, fy1, fy2, fy3, fy4, fy5⟩ := six by_
  have BX := Lib.hid bx
  have BA := Lib.hid ba
  have BY := Lib.hid by_
  have H1 := Lib.hid h1'
  clear bx ba by_ h1'
  have hw5 : Blk (w1.setCell ⟨px, 3, none⟩ (.int .i64 l)) px ([.bool g.v, .bool g.p, .int .i64 av, .int .i64 l, .int .i64 g.s, .int .i64 g.t] : List Value).toArray XG ∧ Blk (w1.setCell ⟨px, 3, none⟩ (.int .i64 l)) py ([.bool false, .bool false, .int .i64 0, .int .i64 0, .int .i64 0, .int .i64 0] : List Value).toArray XG ∧ At w (w1.setCell ⟨px, 3, none⟩ (.int .i64 l)) p _ := ⟨BX.out.set 3 _, BY.out.setOther (a := ⟨px, 3, none⟩) n1 _, at_fin (by rw [HPX.out]; exact hpl) H1.out ((Turns.refl _ w1).setCell (.inl (by rw [HPX.out]; first | exact Nat.le_refl _ | (show px ≤ _; omega))) _)⟩
  have HW := Lib.hid hw5
  clear hw5
  go_upto_region 18 with fail
  refine (show Code.wp _ _ _ _ (w1.setCell ⟨px, 3, none⟩ (.int .i64 l)) from ?_)
  clear x0 x1 x2 x3 x4 x5 fx0 fx1 fx2 fx3 fx4 fx5 k0 k1 k2 k3 y0 y1 y2 y3 y4 y5 fy0 fy1 fy2 fy3 fy4 fy5 BX BA BY H1
  generalize (w1.setCell ⟨px, 3, none⟩ (.int .i64 l)) = w5 at *
  obtain ⟨bx, by_, h5⟩ := HW.out
  obtain ⟨⟨x0, x1, x2, x3, x4, x5⟩, _⟩ := six bx
  obtain ⟨⟨y0, y1, y2, y3, y4, y5⟩, fy0, fy1, fy2, fy3, fy4, fy5⟩ := six by_
  have H6 := Lib.hid (stored (px := px) (l := [.bool g.v, .bool g.p, .int .i64 av, .int .i64 l, .int .i64 g.s, .int .i64 g.t]) (by rw [HPX.out]; exact hpl) (by rw [HPX.out]; first | exact Nat.le_refl _ | (show px ≤ _; omega)) h5 by_ rfl)
  clear HW bx by_ h5
  go_wp2_with fail
  refine (show bodyPost _ _ _ _ _ (puts w5 py 0 [.bool g.v, .bool g.p, .int .i64 av, .int .i64 l, .int .i64 g.s, .int .i64 g.t]) from ?_)
  generalize puts w5 py 0 [.bool g.v, .bool g.p, .int .i64 av, .int .i64 l, .int .i64 g.s, .int .i64 g.t] = w9 at *
  have h6 := H6.out
  obtain ⟨⟨g0, g1, g2, g3, g4, g5⟩, _⟩ := six h6.1
  refine bodyPost_ret (v := .tuple #[.agg ([.bool g.v, .bool g.p, .int .i64 av, .int .i64 l, .int .i64 g.s, .int .i64 g.t] : List Value).toArray, .bool (false), .bool true]) (by simp [results, Try.results9, go_sem, g0, g1, g2, g3, g4, g5]) rfl ?_
  exact ⟨rfl, h6.2⟩

theorem does2 (p : Nat) (g : G) (l : Int) (key on : Bool) (w : World) (h : Gt w p g) (ho : g.ok) :
    Calls Try.prog 9 #[.pointer (some ⟨p, 0, none⟩), .agg (rx g), .agg #[.int .i64 2, .int .i64 l, .bool key, .bool on]] w (Does g 2 l key on p w) := by
  by_cases hl : l < 0
  · exact does2a p g l key on w h ho hl
  · exact does2b p g l key on w h ho hl

set_option maxHeartbeats 1000000 in
theorem does3 (p : Nat) (g : G) (l : Int) (key on : Bool) (w : World) (h : Gt w p g) (ho : g.ok) :
    Calls Try.prog 9 #[.pointer (some ⟨p, 0, none⟩), .agg (rx g), .agg #[.int .i64 3, .int .i64 l, .bool key, .bool on]] w (Does g 3 l key on p w) := by
  have hm := mask.mask2 l
  have hl0 : 0 ≤ l % 4 := by omega
  have H0 := Lib.hid h
  have hpl := h.lt
  have HE : Hid (stepG g 3 l key on = shutG g ∧ goesK g 3 l key = false) := Lib.hid ⟨rfl, rfl⟩
  unfold Does
  rw [HE.out.1, HE.out.2]
  have HP := Lib.hid (fun w h => shut p g w h ho)
  have HR := Lib.hid (fun w => rclose g w ho)
  clear h ho hl0 HE
  unfold rx at HR ⊢
  generalize shutG g = s at *
  generalize atV g.o g.a = av at *
  generalize atV s.o s.a = sv at *
  go_enter Try.func9, Try.ntmps9
  go_wp2_with fail
  refine (HP.out _ (((H0.out.alloc _).alloc _).alloc _)).mono ?_
  rintro e w1 ⟨rfl, h1⟩
  obtain ⟨bx, ba, by_, h1'⟩ := made3 hpl h1
  clear h1
  generalize hpy : w.heap.size + 1 + 1 = py at *
  generalize hpa : w.heap.size + 1 = pa at *
  generalize hpx : w.heap.size = px at *
  have ha1 : px < pa := by omega
  have ha2 : pa < py := by omega
  have n1 : px ≠ py := by omega
  have n2 : py ≠ px := by omega
  have HPX := Lib.hid hpx
  clear hpx hpa hpy H0 HP
  obtain ⟨⟨x0, x1, x2, x3, x4, x5⟩, fx0, fx1, fx2, fx3, fx4, fx5⟩ := six bx
  obtain ⟨k0, k1, k2, k3⟩ := four ba
  obtain ⟨⟨y0, y1, y2, y3, y4, y5⟩, fy0, fy1, fy2, fy3, fy4, fy5⟩ := six by_
  have BX := Lib.hid bx
  have BA := Lib.hid ba
  have BY := Lib.hid by_
  have H1 := Lib.hid h1'
  clear bx ba by_ h1'
  go_wp2_with fail
  refine (HR.out _).mono ?_
  rintro e w2 ⟨rfl, h2⟩
  have bx : Blk w2 px _ XG := h2.blk BX.out (fun h => h)
  have ba : Blk w2 pa _ 29 := h2.blk BA.out (fun h => h)
  have by_ : Blk w2 py _ XG := h2.blk BY.out (fun h => h)
  have h1' := at_new H1.out h2
  clear BX BA BY H1 x0 x1 x2 x3 x4 x5 fx0 fx1 fx2 fx3 fx4 fx5 k0 k1 k2 k3 y0 y1 y2 y3 y4 y5 fy0 fy1 fy2 fy3 fy4 fy5 h2 HR
  obtain ⟨⟨x0, x1, x2, x3, x4, x5⟩, fx0, fx1, fx2, fx3, fx4, fx5⟩ := six bx
  obtain ⟨k0, k1, k2, k3⟩ := four ba
  obtain ⟨⟨y0, y1, y2, y3, y4, y5⟩, fy0, fy1, fy2, fy3, fy4, fy5⟩ := six by_
  have BX := Lib.hid bx
  have BA := Lib.hid ba
  have BY := Lib.hid by_
  have H1 := Lib.hid h1'
  clear bx ba by_ h1'
  have hw5 : Blk (puts w2 px 0 [.bool s.v, .bool s.p, .int .i64 sv, .int .i64 s.m, .int .i64 s.s, .int .i64 s.t]) px ([.bool s.v, .bool s.p, .int .i64 sv, .int .i64 s.m, .int .i64 s.s, .int .i64 s.t] : List Value).toArray XG ∧ Blk (puts w2 px 0 [.bool s.v, .bool s.p, .int .i64 sv, .int .i64 s.m, .int .i64 s.s, .int .i64 s.t]) py ([.bool false, .bool false, .int .i64 0, .int .i64 0, .int .i64 0, .int .i64 0] : List Value).toArray XG ∧ At w (puts w2 px 0 [.bool s.v, .bool s.p, .int .i64 sv, .int .i64 s.m, .int .i64 s.s, .int .i64 s.t]) p _ := ⟨puts_blk [.bool g.v, .bool g.p, .int .i64 av, .int .i64 g.m, .int .i64 g.s, .int .i64 g.t] [.bool s.v, .bool s.p, .int .i64 sv, .int .i64 s.m, .int .i64 s.s, .int .i64 s.t] BX.out rfl, puts_other n1 _ _ _ BY.out, at_fin (by rw [HPX.out]; exact hpl) H1.out (puts_turns (S := fun k => w.heap.size ≤ k) (p := px) (.inl (by rw [HPX.out]; first | exact Nat.le_refl _ | (show px ≤ _; omega))) _ 0 _ (Turns.refl _ w2))⟩
  have HW := Lib.hid hw5
  clear hw5
  go_upto_region 18 with fail
  refine (show Code.wp _ _ _ _ (puts w2 px 0 [.bool s.v, .bool s.p, .int .i64 sv, .int .i64 s.m, .int .i64 s.s, .int .i64 s.t]) from ?_)
  clear x0 x1 x2 x3 x4 x5 fx0 fx1 fx2 fx3 fx4 fx5 k0 k1 k2 k3 y0 y1 y2 y3 y4 y5 fy0 fy1 fy2 fy3 fy4 fy5 BX BA BY H1
  generalize (puts w2 px 0 [.bool s.v, .bool s.p, .int .i64 sv, .int .i64 s.m, .int .i64 s.s, .int .i64 s.t]) = w5 at *
  obtain ⟨bx, by_, h5⟩ := HW.out
  obtain ⟨⟨x0, x1, x2, x3, x4, x5⟩, _⟩ := six bx
  obtain ⟨⟨y0, y1, y2, y3, y4, y5⟩, fy0, fy1, fy2, fy3, fy4, fy5⟩ := six by_
  have H6 := Lib.hid (stored (px := px) (l := [.bool s.v, .bool s.p, .int .i64 sv, .int .i64 s.m, .int .i64 s.s, .int .i64 s.t]) (by rw [HPX.out]; exact hpl) (by rw [HPX.out]; first | exact Nat.le_refl _ | (show px ≤ _; omega)) h5 by_ rfl)
  clear HW bx by_ h5
  go_wp2_with fail
  refine (show bodyPost _ _ _ _ _ (puts w5 py 0 [.bool s.v, .bool s.p, .int .i64 sv, .int .i64 s.m, .int .i64 s.s, .int .i64 s.t]) from ?_)
  generalize puts w5 py 0 [.bool s.v, .bool s.p, .int .i64 sv, .int .i64 s.m, .int .i64 s.s, .int .i64 s.t] = w9 at *
  have h6 := H6.out
  obtain ⟨⟨g0, g1, g2, g3, g4, g5⟩, _⟩ := six h6.1
  refine bodyPost_ret (v := .tuple #[.agg ([.bool s.v, .bool s.p, .int .i64 sv, .int .i64 s.m, .int .i64 s.s, .int .i64 s.t] : List Value).toArray, .bool (false), .bool true]) (by simp [results, Try.results9, go_sem, g0, g1, g2, g3, g4, g5]) rfl ?_
  exact ⟨rfl, h6.2⟩

set_option maxHeartbeats 1000000 in
theorem does4a (p : Nat) (g : G) (l : Int) (key : Bool) (w : World) (h : Gt w p g) (ho : g.ok) :
    Calls Try.prog 9 #[.pointer (some ⟨p, 0, none⟩), .agg (rx g), .agg #[.int .i64 4, .int .i64 l, .bool key, .bool false]] w (Does g 4 l key false p w) := by
  have hm := mask.mask2 l
  have hl0 : 0 ≤ l % 4 := by omega
  have H0 := Lib.hid h
  have hpl := h.lt
  have HE : Hid (stepG g 4 l key false = pauseG g false ∧ goesK g 4 l key = false) := Lib.hid ⟨rfl, rfl⟩
  have HX : Hid (rx (pauseG g false) = #[.bool g.v, .bool false, .int .i64 (atV g.o g.a), .int .i64 g.m, .int .i64 g.s, .int .i64 g.t]) := Lib.hid rfl
  unfold Does
  rw [HE.out.1, HE.out.2, HX.out]
  have HP := Lib.hid (fun w h => pause p g false w h ho)
  unfold rx
  generalize atV g.o g.a = av at *
  clear h ho hl0 HE HX
  go_enter Try.func9, Try.ntmps9
  go_wp2_with fail
  refine (HP.out _ (((H0.out.alloc _).alloc _).alloc _)).mono ?_
  rintro e w1 ⟨rfl, h1⟩
  obtain ⟨bx, ba, by_, h1'⟩ := made3 hpl h1
  clear h1
  generalize hpy : w.heap.size + 1 + 1 = py at *
  generalize hpa : w.heap.size + 1 = pa at *
  generalize hpx : w.heap.size = px at *
  have ha1 : px < pa := by omega
  have ha2 : pa < py := by omega
  have n1 : px ≠ py := by omega
  have n2 : py ≠ px := by omega
  have HPX := Lib.hid hpx
  clear hpx hpa hpy H0 HP
  obtain ⟨⟨x0, x1, x2, x3, x4, x5⟩, fx0, fx1, fx2, fx3, fx4, fx5⟩ := six bx
  obtain ⟨k0, k1, k2, k3⟩ := four ba
  obtain ⟨⟨y0, y1, y2, y3, y4, y5⟩, fy0, fy1, fy2, fy3, fy4, fy5⟩ := six by_
  have BX := Lib.hid bx
  have BA := Lib.hid ba
  have BY := Lib.hid by_
  have H1 := Lib.hid h1'
  clear bx ba by_ h1'
  have hw5 : Blk (w1.setCell ⟨px, 1, none⟩ (.bool false)) px ([.bool g.v, .bool false, .int .i64 av, .int .i64 g.m, .int .i64 g.s, .int .i64 g.t] : List Value).toArray XG ∧ Blk (w1.setCell ⟨px, 1, none⟩ (.bool false)) py ([.bool false, .bool false, .int .i64 0, .int .i64 0, .int .i64 0, .int .i64 0] : List Value).toArray XG ∧ At w (w1.setCell ⟨px, 1, none⟩ (.bool false)) p _ := ⟨BX.out.set 1 _, BY.out.setOther (a := ⟨px, 1, none⟩) n1 _, at_fin (by rw [HPX.out]; exact hpl) H1.out ((Turns.refl _ w1).setCell (.inl (by rw [HPX.out]; first | exact Nat.le_refl _ | (show px ≤ _; omega))) _)⟩
  have HW := Lib.hid hw5
  clear hw5
  go_upto_region 18 with fail
  refine (show Code.wp _ _ _ _ (w1.setCell ⟨px, 1, none⟩ (.bool false)) from ?_)
  clear x0 x1 x2 x3 x4 x5 fx0 fx1 fx2 fx3 fx4 fx5 k0 k1 k2 k3 y0 y1 y2 y3 y4 y5 fy0 fy1 fy2 fy3 fy4 fy5 BX BA BY H1
  generalize (w1.setCell ⟨px, 1, none⟩ (.bool false)) = w5 at *
  obtain ⟨bx, by_, h5⟩ := HW.out
  obtain ⟨⟨x0, x1, x2, x3, x4, x5⟩, _⟩ := six bx
  obtain ⟨⟨y0, y1, y2, y3, y4, y5⟩, fy0, fy1, fy2, fy3, fy4, fy5⟩ := six by_
  have H6 := Lib.hid (stored (px := px) (l := [.bool g.v, .bool false, .int .i64 av, .int .i64 g.m, .int .i64 g.s, .int .i64 g.t]) (by rw [HPX.out]; exact hpl) (by rw [HPX.out]; first | exact Nat.le_refl _ | (show px ≤ _; omega)) h5 by_ rfl)
  clear HW bx by_ h5
  go_wp2_with fail
  refine (show bodyPost _ _ _ _ _ (puts w5 py 0 [.bool g.v, .bool false, .int .i64 av, .int .i64 g.m, .int .i64 g.s, .int .i64 g.t]) from ?_)
  generalize puts w5 py 0 [.bool g.v, .bool false, .int .i64 av, .int .i64 g.m, .int .i64 g.s, .int .i64 g.t] = w9 at *
  have h6 := H6.out
  obtain ⟨⟨g0, g1, g2, g3, g4, g5⟩, _⟩ := six h6.1
  refine bodyPost_ret (v := .tuple #[.agg ([.bool g.v, .bool false, .int .i64 av, .int .i64 g.m, .int .i64 g.s, .int .i64 g.t] : List Value).toArray, .bool (false), .bool true]) (by simp [results, Try.results9, go_sem, g0, g1, g2, g3, g4, g5]) rfl ?_
  exact ⟨rfl, h6.2⟩

set_option maxHeartbeats 1000000 in
theorem does4b (p : Nat) (g : G) (l : Int) (key : Bool) (w : World) (h : Gt w p g) (ho : g.ok) :
    Calls Try.prog 9 #[.pointer (some ⟨p, 0, none⟩), .agg (rx g), .agg #[.int .i64 4, .int .i64 l, .bool key, .bool true]] w (Does g 4 l key true p w) := by
  have hm := mask.mask2 l
  have hl0 : 0 ≤ l % 4 := by omega
  have H0 := Lib.hid h
  have hpl := h.lt
  have HE : Hid (stepG g 4 l key true = pauseG g true ∧ goesK g 4 l key = false) := Lib.hid ⟨rfl, rfl⟩
  have HX : Hid (rx (pauseG g true) = #[.bool (shutG g).v, .bool true, .int .i64 (atV (shutG g).o (shutG g).a), .int .i64 (shutG g).m, .int .i64 (shutG g).s, .int .i64 (shutG g).t]) := Lib.hid rfl
  unfold Does
  rw [HE.out.1, HE.out.2, HX.out]
  have HP := Lib.hid (fun w h => pause p g true w h ho)
  have HR := Lib.hid (fun w => rclose g w ho)
  clear h ho hl0 HE HX
  unfold rx at HR ⊢
  generalize shutG g = s at *
  generalize atV g.o g.a = av at *
  generalize atV s.o s.a = sv at *
  go_enter Try.func9, Try.ntmps9
  go_wp2_with fail
  refine (HP.out _ (((H0.out.alloc _).alloc _).alloc _)).mono ?_
  rintro e w1 ⟨rfl, h1⟩
  obtain ⟨bx, ba, by_, h1'⟩ := made3 hpl h1
  clear h1
  generalize hpy : w.heap.size + 1 + 1 = py at *
  generalize hpa : w.heap.size + 1 = pa at *
  generalize hpx : w.heap.size = px at *
  have ha1 : px < pa := by omega
  have ha2 : pa < py := by omega
  have n1 : px ≠ py := by omega
  have n2 : py ≠ px := by omega
  have HPX := Lib.hid hpx
  clear hpx hpa hpy H0 HP
  obtain ⟨⟨x0, x1, x2, x3, x4, x5⟩, fx0, fx1, fx2, fx3, fx4, fx5⟩ := six bx
  obtain ⟨k0, k1, k2, k3⟩ := four ba
  obtain ⟨⟨y0, y1, y2, y3, y4, y5⟩, fy0, fy1, fy2, fy3, fy4, fy5⟩ := six by_
  have BX := Lib.hid bx
  have BA := Lib.hid ba
  have BY := Lib.hid by_
  have H1 := Lib.hid h1'
  clear bx ba by_ h1'
  go_wp2_with fail
  refine (HR.out _).mono ?_
  rintro e w2 ⟨rfl, h2⟩
  have bx : Blk w2 px _ XG := h2.blk BX.out (fun h => h)
  have ba : Blk w2 pa _ 29 := h2.blk BA.out (fun h => h)
  have by_ : Blk w2 py _ XG := h2.blk BY.out (fun h => h)
  have h1' := at_new H1.out h2
  clear BX BA BY H1 x0 x1 x2 x3 x4 x5 fx0 fx1 fx2 fx3 fx4 fx5 k0 k1 k2 k3 y0 y1 y2 y3 y4 y5 fy0 fy1 fy2 fy3 fy4 fy5 h2 HR
  obtain ⟨⟨x0, x1, x2, x3, x4, x5⟩, fx0, fx1, fx2, fx3, fx4, fx5⟩ := six bx
  obtain ⟨k0, k1, k2, k3⟩ := four ba
  obtain ⟨⟨y0, y1, y2, y3, y4, y5⟩, fy0, fy1, fy2, fy3, fy4, fy5⟩ := six by_
  have BX := Lib.hid bx
  have BA := Lib.hid ba
  have BY := Lib.hid by_
  have H1 := Lib.hid h1'
  clear bx ba by_ h1'
  have hw4 : Blk (puts w2 px 0 [.bool s.v, .bool s.p, .int .i64 sv, .int .i64 s.m, .int .i64 s.s, .int .i64 s.t]) px ([.bool s.v, .bool s.p, .int .i64 sv, .int .i64 s.m, .int .i64 s.s, .int .i64 s.t] : List Value).toArray XG ∧ Blk (puts w2 px 0 [.bool s.v, .bool s.p, .int .i64 sv, .int .i64 s.m, .int .i64 s.s, .int .i64 s.t]) py ([.bool false, .bool false, .int .i64 0, .int .i64 0, .int .i64 0, .int .i64 0] : List Value).toArray XG ∧ At w (puts w2 px 0 [.bool s.v, .bool s.p, .int .i64 sv, .int .i64 s.m, .int .i64 s.s, .int .i64 s.t]) p _ := ⟨puts_blk [.bool g.v, .bool g.p, .int .i64 av, .int .i64 g.m, .int .i64 g.s, .int .i64 g.t] [.bool s.v, .bool s.p, .int .i64 sv, .int .i64 s.m, .int .i64 s.s, .int .i64 s.t] BX.out rfl, puts_other n1 _ _ _ BY.out, at_fin (by rw [HPX.out]; exact hpl) H1.out (puts_turns (S := fun k => w.heap.size ≤ k) (p := px) (.inl (by rw [HPX.out]; first | exact Nat.le_refl _ | (show px ≤ _; omega))) _ 0 _ (Turns.refl _ w2))⟩
  have ha : Blk (puts w2 px 0 [.bool s.v, .bool s.p, .int .i64 sv, .int .i64 s.m, .int .i64 s.s, .int .i64 s.t]) pa _ 29 := puts_other (by omega) _ _ _ BA.out
  have HW := Lib.hid (And.intro hw4 ha)
  clear hw4 ha
  go_upto_region 17 with fail
  refine (show Code.wp _ _ _ _ (puts w2 px 0 [.bool s.v, .bool s.p, .int .i64 sv, .int .i64 s.m, .int .i64 s.s, .int .i64 s.t]) from ?_)
  clear x0 x1 x2 x3 x4 x5 fx0 fx1 fx2 fx3 fx4 fx5 k0 k1 k2 k3 y0 y1 y2 y3 y4 y5 fy0 fy1 fy2 fy3 fy4 fy5 BX BA BY H1
  generalize puts w2 px 0 [.bool s.v, .bool s.p, .int .i64 sv, .int .i64 s.m, .int .i64 s.s, .int .i64 s.t] = w4 at *
  obtain ⟨⟨bx, by_, h1'⟩, ba⟩ := HW.out
  clear HW
  obtain ⟨⟨x0, x1, x2, x3, x4, x5⟩, fx0, fx1, fx2, fx3, fx4, fx5⟩ := six bx
  obtain ⟨k0, k1, k2, k3⟩ := four ba
  obtain ⟨⟨y0, y1, y2, y3, y4, y5⟩, fy0, fy1, fy2, fy3, fy4, fy5⟩ := six by_
  have BX := Lib.hid bx
  have BA := Lib.hid ba
  have BY := Lib.hid by_
  have H1 := Lib.hid h1'
  clear bx ba by_ h1'
  have hw5 : Blk (w4.setCell ⟨px, 1, none⟩ (.bool true)) px ([.bool s.v, .bool true, .int .i64 sv, .int .i64 s.m, .int .i64 s.s, .int .i64 s.t] : List Value).toArray XG ∧ Blk (w4.setCell ⟨px, 1, none⟩ (.bool true)) py ([.bool false, .bool false, .int .i64 0, .int .i64 0, .int .i64 0, .int .i64 0] : List Value).toArray XG ∧ At w (w4.setCell ⟨px, 1, none⟩ (.bool true)) p _ := ⟨BX.out.set 1 _, BY.out.setOther (a := ⟨px, 1, none⟩) n1 _, at_fin (by rw [HPX.out]; exact hpl) H1.out ((Turns.refl _ w4).setCell (.inl (by rw [HPX.out]; first | exact Nat.le_refl _ | (show px ≤ _; omega))) _)⟩
  have HW := Lib.hid hw5
  clear hw5
  go_upto_region 18 with fail
  refine (show Code.wp _ _ _ _ (w4.setCell ⟨px, 1, none⟩ (.bool true)) from ?_)
  clear x0 x1 x2 x3 x4 x5 fx0 fx1 fx2 fx3 fx4 fx5 k0 k1 k2 k3 y0 y1 y2 y3 y4 y5 fy0 fy1 fy2 fy3 fy4 fy5 BX BA BY H1
  generalize (w4.setCell ⟨px, 1, none⟩ (.bool true)) = w5 at *
  obtain ⟨bx, by_, h5⟩ := HW.out
  obtain ⟨⟨x0, x1, x2, x3, x4, x5⟩, _⟩ := six bx
  obtain ⟨⟨y0, y1, y2, y3, y4, y5⟩, fy0, fy1, fy2, fy3, fy4, fy5⟩ := six by_
  have H6 := Lib.hid (stored (px := px) (l := [.bool s.v, .bool true, .int .i64 sv, .int .i64 s.m, .int .i64 s.s, .int .i64 s.t]) (by rw [HPX.out]; exact hpl) (by rw [HPX.out]; first | exact Nat.le_refl _ | (show px ≤ _; omega)) h5 by_ rfl)
  clear HW bx by_ h5
  go_wp2_with fail
  refine (show bodyPost _ _ _ _ _ (puts w5 py 0 [.bool s.v, .bool true, .int .i64 sv, .int .i64 s.m, .int .i64 s.s, .int .i64 s.t]) from ?_)
  generalize puts w5 py 0 [.bool s.v, .bool true, .int .i64 sv, .int .i64 s.m, .int .i64 s.s, .int .i64 s.t] = w9 at *
  have h6 := H6.out
  obtain ⟨⟨g0, g1, g2, g3, g4, g5⟩, _⟩ := six h6.1
  refine bodyPost_ret (v := .tuple #[.agg ([.bool s.v, .bool true, .int .i64 sv, .int .i64 s.m, .int .i64 s.s, .int .i64 s.t] : List Value).toArray, .bool (false), .bool true]) (by simp [results, Try.results9, go_sem, g0, g1, g2, g3, g4, g5]) rfl ?_
  exact ⟨rfl, h6.2⟩

set_option maxHeartbeats 1000000 in
theorem does0 (p : Nat) (g : G) (k : Int) (l : Int) (key on : Bool) (w : World) (h : Gt w p g) (ho : g.ok) (h1 : ¬ k = 1) (h2 : ¬ k = 2) (h3 : ¬ k = 3) (h4 : ¬ k = 4) :
    Calls Try.prog 9 #[.pointer (some ⟨p, 0, none⟩), .agg (rx g), .agg #[.int .i64 k, .int .i64 l, .bool key, .bool on]] w (Does g k l key on p w) := by
  have hm := mask.mask2 l
  have hl0 : 0 ≤ l % 4 := by omega
  have H0 := Lib.hid h
  have hpl := h.lt
  have HE : Hid (stepG g k l key on = g ∧ goesK g k l key = false) := Lib.hid ⟨by simp [stepG, h1, h2, h3, h4], by simp [goesK, h1]⟩
  unfold Does
  rw [HE.out.1, HE.out.2]
  clear h ho hl0 HE
  unfold rx
  generalize atV g.o g.a = av at *
  have b1 : (k == 1) = false := by simpa using h1
  have b2 : (k == 2) = false := by simpa using h2
  have b3 : (k == 3) = false := by simpa using h3
  have b4 : (k == 4) = false := by simpa using h4
  go_enter Try.func9, Try.ntmps9
  go_upto_region 1 with fail
  have hA0 : At (((w.alloc (.cells #[.bool g.v, .bool g.p, .int .i64 av, .int .i64 g.m, .int .i64 g.s, .int .i64 g.t] XG)).alloc (.cells #[.int .i64 k, .int .i64 l, .bool key, .bool on] 29)).alloc (.cells #[.bool false, .bool false, .int .i64 0, .int .i64 0, .int .i64 0, .int .i64 0] XG)) (((w.alloc (.cells #[.bool g.v, .bool g.p, .int .i64 av, .int .i64 g.m, .int .i64 g.s, .int .i64 g.t] XG)).alloc (.cells #[.int .i64 k, .int .i64 l, .bool key, .bool on] 29)).alloc (.cells #[.bool false, .bool false, .int .i64 0, .int .i64 0, .int .i64 0, .int .i64 0] XG)) p g := ⟨((H0.out.alloc _).alloc _).alloc _, Turns.refl _ _⟩
  obtain ⟨bx, ba, by_, h1'⟩ := made3 hpl hA0
  clear hA0
  generalize (((w.alloc (.cells #[.bool g.v, .bool g.p, .int .i64 av, .int .i64 g.m, .int .i64 g.s, .int .i64 g.t] XG)).alloc (.cells #[.int .i64 k, .int .i64 l, .bool key, .bool on] 29)).alloc (.cells #[.bool false, .bool false, .int .i64 0, .int .i64 0, .int .i64 0, .int .i64 0] XG)) = w1 at *
  generalize hpy : w.heap.size + 1 + 1 = py at *
  generalize hpa : w.heap.size + 1 = pa at *
  generalize hpx : w.heap.size = px at *
  have ha1 : px < pa := by omega
  have ha2 : pa < py := by omega
  have n1 : px ≠ py := by omega
  have n2 : py ≠ px := by omega
  have HPX := Lib.hid hpx
  clear hpx hpa hpy H0
  obtain ⟨⟨x0, x1, x2, x3, x4, x5⟩, fx0, fx1, fx2, fx3, fx4, fx5⟩ := six bx
  obtain ⟨k0, k1, k2, k3⟩ := four ba
  obtain ⟨⟨y0, y1, y2, y3, y4, y5⟩, fy0, fy1, fy2, fy3, fy4, fy5⟩ := six by_
  have BX := Lib.hid bx
  have BA := Lib.hid ba
  have BY := Lib.hid by_
  have H1 := Lib.hid h1'
  clear bx ba by_ h1'
  have hw5 : Blk w1 px ([.bool g.v, .bool g.p, .int .i64 av, .int .i64 g.m, .int .i64 g.s, .int .i64 g.t] : List Value).toArray XG ∧ Blk w1 py ([.bool false, .bool false, .int .i64 0, .int .i64 0, .int .i64 0, .int .i64 0] : List Value).toArray XG ∧ At w w1 p _ := ⟨BX.out, BY.out, at_fin (by rw [HPX.out]; exact hpl) H1.out (Turns.refl _ w1)⟩
  have HW := Lib.hid hw5
  clear hw5
  go_upto_region 18 with fail
  refine (show Code.wp _ _ _ _ w1 from ?_)
  clear x0 x1 x2 x3 x4 x5 fx0 fx1 fx2 fx3 fx4 fx5 k0 k1 k2 k3 y0 y1 y2 y3 y4 y5 fy0 fy1 fy2 fy3 fy4 fy5 BX BA BY H1
  generalize w1 = w5 at *
  obtain ⟨bx, by_, h5⟩ := HW.out
  obtain ⟨⟨x0, x1, x2, x3, x4, x5⟩, _⟩ := six bx
  obtain ⟨⟨y0, y1, y2, y3, y4, y5⟩, fy0, fy1, fy2, fy3, fy4, fy5⟩ := six by_
  have H6 := Lib.hid (stored (px := px) (l := [.bool g.v, .bool g.p, .int .i64 av, .int .i64 g.m, .int .i64 g.s, .int .i64 g.t]) (by rw [HPX.out]; exact hpl) (by rw [HPX.out]; first | exact Nat.le_refl _ | (show px ≤ _; omega)) h5 by_ rfl)
  clear HW bx by_ h5
  go_wp2_with fail
  refine (show bodyPost _ _ _ _ _ (puts w5 py 0 [.bool g.v, .bool g.p, .int .i64 av, .int .i64 g.m, .int .i64 g.s, .int .i64 g.t]) from ?_)
  generalize puts w5 py 0 [.bool g.v, .bool g.p, .int .i64 av, .int .i64 g.m, .int .i64 g.s, .int .i64 g.t] = w9 at *
  have h6 := H6.out
  obtain ⟨⟨g0, g1, g2, g3, g4, g5⟩, _⟩ := six h6.1
  refine bodyPost_ret (v := .tuple #[.agg ([.bool g.v, .bool g.p, .int .i64 av, .int .i64 g.m, .int .i64 g.s, .int .i64 g.t] : List Value).toArray, .bool (false), .bool true]) (by simp [results, Try.results9, go_sem, g0, g1, g2, g3, g4, g5]) rfl ?_
  exact ⟨rfl, h6.2⟩

theorem does_any (p : Nat) (g : G) (k l : Int) (key on : Bool) (w : World) (h : Gt w p g) (ho : g.ok) :
    Calls Try.prog 9 #[.pointer (some ⟨p, 0, none⟩), .agg (rx g), .agg #[.int .i64 k, .int .i64 l, .bool key, .bool on]] w (Does g k l key on p w) := by
  by_cases h1 : k = 1
  · subst h1; exact does1 p g l key on w h ho
  · by_cases h2 : k = 2
    · subst h2; exact does2 p g l key on w h ho
    · by_cases h3 : k = 3
      · subst h3; exact does3 p g l key on w h ho
      · by_cases h4 : k = 4
        · subst h4
          cases on
          · exact does4a p g l key w h ho
          · exact does4b p g l key w h ho
        · exact does0 p g k l key on w h ho h1 h2 h3 h4
end Go.Proofs.Ytmnaldfknhnacaa.gat
