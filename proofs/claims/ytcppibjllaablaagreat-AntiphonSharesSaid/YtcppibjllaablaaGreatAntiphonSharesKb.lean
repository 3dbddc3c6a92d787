/-
  Parts of the proof, one behind the other.
-/
import Derived.Deep.AppendLies
import Derived.Deep.DeepCutAuto
import Derived.Deep.RegionHeld3
import Derived.BigQuiet
import Derived.Test.YtcppibjllaablaaGreatAntiphonSharesKa
/-
  queue.Queue in memory: First, Pop, Break, refuses, Expire.
-/
namespace Go.Proofs.YtcppibjllaablaaGreat.que
open Go.RowKit mem
set_option linter.unusedVariables false

def It.v (x : It) : Value := .agg #[.int .i64 x.n, .int .i64 x.size, .int .i64 x.tick, .bool x.key]
theorem four {w : World} {p : Nat} {a b c d : Value} {T : TypeId} (h : Blk w p #[a, b, c, d] T) :
    (w.cell? ⟨p, 0, none⟩ = some a ∧ w.cell? ⟨p, 1, none⟩ = some b ∧ w.cell? ⟨p, 2, none⟩ = some c ∧ w.cell? ⟨p, 3, none⟩ = some d) ∧ w.frozen? ⟨p, 0, none⟩ = false ∧ w.frozen? ⟨p, 1, none⟩ = false ∧ w.frozen? ⟨p, 2, none⟩ = false ∧ w.frozen? ⟨p, 3, none⟩ = false :=
  ⟨⟨h.cell 0, h.cell 1, h.cell 2, h.cell 3⟩, h.free 0, h.free 1, h.free 2, h.free 3⟩
abbrev zcs : List Value := [.int .i64 0, .int .i64 0, .int .i64 0, .bool false]

/-- an item is stored into the block that holds the answer -/
theorem made4 {S : Nat → Prop} {w w1 : World} {pr : Nat} {T : TypeId} (hb : Blk w1 pr zcs.toArray T) (ht : Turns S w w1) (hp : w.heap.size ≤ pr) (x : List Value) (hx : x.length = 4) : Blk (puts w1 pr 0 x) pr x.toArray T ∧ Turns S w (puts w1 pr 0 x) :=
  ⟨puts_blk zcs x hb hx, puts_turns (.inr hp) _ 0 _ ht⟩

set_option maxHeartbeats 400000 in
theorem first_nil (p : Nat) (pv : Value) (q : Q) (w : World) (h : Qs w p pv q) (hL : q.L = []) :
    Calls Tryz.prog 30 #[.pointer (some ⟨p, 0, none⟩)] w fun e w' => e = .returned (.tuple #[zeroIt, .bool false]) ∧ New w w' := by
  obtain ⟨ao, c, hpv, hc⟩ := h.form
  have c2 := (h.blk.alloc (.cells #[.int .i64 0, .int .i64 0, .int .i64 0, .bool false] PT)).cell 2
  rw [hpv, hL] at c2
  have hb : Blk (w.alloc (.cells #[.int .i64 0, .int .i64 0, .int .i64 0, .bool false] PT)) w.heap.size zcs.toArray PT := Blk.new _ _ _
  have HM := Lib.hid (made4 (S := fun _ => False) hb ((Turns.refl _ _).alloc _) (Nat.le_refl _) zcs rfl)
  obtain ⟨⟨x0, x1, x2, x3⟩, y0, y1, y2, y3⟩ := four hb
  clear h hpv hc hb
  go_enter Tryz.func30, Tryz.ntmps30
  go_upto_region 1 with fail
  refine (show Code.wp _ _ _ _ (w.alloc (.cells #[.int .i64 0, .int .i64 0, .int .i64 0, .bool false] PT)) from ?_)
  generalize w.alloc (.cells #[.int .i64 0, .int .i64 0, .int .i64 0, .bool false] PT) = w1 at *
  generalize w.heap.size = pr at *
  go_wp2_with fail
  refine (show bodyPost _ _ _ _ _ (puts w1 pr 0 zcs) from ?_)
  clear x0 x1 x2 x3 y0 y1 y2 y3 c2
  generalize puts w1 pr 0 zcs = w9 at *
  obtain ⟨g0, g1, g2, g3⟩ := (four HM.out.1).1
  refine bodyPost_ret (v := .tuple #[zeroIt, .bool false]) (by simp [results, Tryz.results30, go_sem, g0, g1, g2, g3]) rfl ⟨rfl, HM.out.2⟩

set_option maxHeartbeats 400000 in
theorem first_cons (p : Nat) (pv : Value) (q : Q) (x : It) (w : World) (h : Qs w p pv q) (hx : q.L[0]? = some x) :
    Calls Tryz.prog 30 #[.pointer (some ⟨p, 0, none⟩)] w fun e w' => e = .returned (.tuple #[x.v, .bool true]) ∧ New w w' := by
  obtain ⟨ao, c, hpv, hc, hrd, _⟩ := h.own.form
  have hlt : 0 < q.L.length := (List.getElem?_eq_some_iff.1 hx).1
  have hsm := h.small
  have hlm : q.L.length ≤ maxLen := by unfold maxLen; omega
  rcases hrd with h0 | ⟨g, hg, hgl, hcell⟩
  · rw [h0] at hlt; simp at hlt
  subst hg
  have ht : New w (w.alloc (.cells #[.int .i64 0, .int .i64 0, .int .i64 0, .bool false] PT)) := (Turns.refl _ _).alloc _
  have c2 := (h.blk.alloc (.cells #[.int .i64 0, .int .i64 0, .int .i64 0, .bool false] PT)).cell 2
  rw [hpv] at c2
  have hrow := fun (j : Nat) (u : Value) (hu : (IE.cs x)[j]? = some u) => (ht.cell (a := ⟨g, 0 * 4 + j, none⟩) hgl (fun h => h)).trans (hcell 0 x hx j u hu)
  have r0 : (w.alloc (.cells #[.int .i64 0, .int .i64 0, .int .i64 0, .bool false] PT)).cell? ⟨g, 0, none⟩ = _ := hrow 0 _ rfl
  have r1 : (w.alloc (.cells #[.int .i64 0, .int .i64 0, .int .i64 0, .bool false] PT)).cell? ⟨g, 1, none⟩ = _ := hrow 1 _ rfl
  have r2 : (w.alloc (.cells #[.int .i64 0, .int .i64 0, .int .i64 0, .bool false] PT)).cell? ⟨g, 2, none⟩ = _ := hrow 2 _ rfl
  have r3 : (w.alloc (.cells #[.int .i64 0, .int .i64 0, .int .i64 0, .bool false] PT)).cell? ⟨g, 3, none⟩ = _ := hrow 3 _ rfl
  have hb : Blk (w.alloc (.cells #[.int .i64 0, .int .i64 0, .int .i64 0, .bool false] PT)) w.heap.size zcs.toArray PT := Blk.new _ _ _
  have HM := Lib.hid (made4 (S := fun _ => False) hb ht (Nat.le_refl _) x.cs rfl)
  obtain ⟨⟨x0, x1, x2, x3⟩, y0, y1, y2, y3⟩ := four hb
  have hd : decide ((q.L.length : Int) = 0) = false := decide_eq_false (by omega)
  have hd2 : ((q.L.length : Int) == 0) = false := beq_false_of_ne (by omega)
  clear h hpv hb hcell hrow hx
  obtain ⟨xn, xs, xt, xk⟩ := x
  dsimp only [It.cs, It.v] at *
  go_enter Tryz.func30, Tryz.ntmps30
  go_upto_region 1 with fail
  refine (show Code.wp _ _ _ _ (w.alloc (.cells #[.int .i64 0, .int .i64 0, .int .i64 0, .bool false] PT)) from ?_)
  have HG2 : g ≠ w.heap.size := Nat.ne_of_lt hgl
  generalize w.alloc (.cells #[.int .i64 0, .int .i64 0, .int .i64 0, .bool false] PT) = w1 at *
  generalize w.heap.size = pr at *
  go_wp2_with fail
  refine (show bodyPost _ _ _ _ _ (puts w1 pr 0 [.int .i64 xn, .int .i64 xs, .int .i64 xt, .bool xk]) from ?_)
  clear x0 x1 x2 x3 y0 y1 y2 y3 c2 r0 r1 r2 r3
  generalize puts w1 pr 0 [.int .i64 xn, .int .i64 xs, .int .i64 xt, .bool xk] = w9 at *
  obtain ⟨g0, g1, g2, g3⟩ := (four HM.out.1).1
  refine bodyPost_ret (v := .tuple #[.agg #[.int .i64 xn, .int .i64 xs, .int .i64 xt, .bool xk], .bool true]) (by simp [results, Tryz.results30, go_sem, g0, g1, g2, g3]) rfl ⟨rfl, HM.out.2⟩

theorem refuses (p : Nat) (pv : Value) (q : Q) (x : It) (w : World) (h : Qs w p pv q) :
    Calls Tryz.prog 80 #[.pointer (some ⟨p, 0, none⟩), x.v] w fun e w' => e = .returned (.bool (q.broken && !x.key)) ∧ New w w' := by
  have HN : Hid (New w (w.alloc (.cells x.cs.toArray PT))) := Lib.hid ((Turns.refl _ _).alloc _)
  have c4 := (h.blk.alloc (.cells x.cs.toArray PT)).cell 4
  have b3 := (Blk.new w x.cs.toArray PT).cell 3
  clear h
  obtain ⟨xn, xs, xt, xk⟩ := x
  dsimp only [It.cs, It.v] at *
  generalize q.broken = b at *
  go_enter Tryz.func80, Tryz.ntmps80
  go_upto_region 1 with fail
  refine (show Code.wp _ _ _ _ (w.alloc (.cells #[.int .i64 xn, .int .i64 xs, .int .i64 xt, .bool xk] PT)) from ?_)
  have c4' : (w.alloc (.cells #[.int .i64 xn, .int .i64 xs, .int .i64 xt, .bool xk] PT)).cell? ⟨p, 4, none⟩ = some (.bool b) := c4
  have b3' : (w.alloc (.cells #[.int .i64 xn, .int .i64 xs, .int .i64 xt, .bool xk] PT)).cell? ⟨w.heap.size, 3, none⟩ = some (.bool xk) := b3
  clear c4 b3
  generalize w.heap.size = pr at *
  have HN' : Hid (New w (w.alloc (.cells #[.int .i64 xn, .int .i64 xs, .int .i64 xt, .bool xk] PT))) := HN
  generalize w.alloc (.cells #[.int .i64 xn, .int .i64 xs, .int .i64 xt, .bool xk] PT) = w1 at *
  cases b
  · go_wp2
    go_ret
    exact ⟨rfl, HN'.out⟩
  · go_wp2
    go_ret
    exact ⟨rfl, HN'.out⟩

theorem pop_nil (p : Nat) (pv : Value) (q : Q) (w : World) (h : Qs w p pv q) (hL : q.L = []) :
    Calls Tryz.prog 31 #[.pointer (some ⟨p, 0, none⟩)] w fun e w' => e = .returned (.tuple #[zeroIt, .bool false]) ∧ New w w' := by
  obtain ⟨ao, c, hpv, hc⟩ := h.form
  have c2 := (h.blk.alloc (.cells #[.int .i64 0, .int .i64 0, .int .i64 0, .bool false] PT)).cell 2
  rw [hpv, hL] at c2
  have hb : Blk (w.alloc (.cells #[.int .i64 0, .int .i64 0, .int .i64 0, .bool false] PT)) w.heap.size zcs.toArray PT := Blk.new _ _ _
  have HM := Lib.hid (made4 (S := fun _ => False) hb ((Turns.refl _ _).alloc _) (Nat.le_refl _) zcs rfl)
  obtain ⟨⟨x0, x1, x2, x3⟩, y0, y1, y2, y3⟩ := four hb
  clear h hpv hc hb
  go_enter Tryz.func31, Tryz.ntmps31
  go_upto_region 1 with fail
  refine (show Code.wp _ _ _ _ (w.alloc (.cells #[.int .i64 0, .int .i64 0, .int .i64 0, .bool false] PT)) from ?_)
  generalize w.alloc (.cells #[.int .i64 0, .int .i64 0, .int .i64 0, .bool false] PT) = w1 at *
  generalize w.heap.size = pr at *
  go_wp2_with fail
  refine (show bodyPost _ _ _ _ _ (puts w1 pr 0 zcs) from ?_)
  clear x0 x1 x2 x3 y0 y1 y2 y3 c2
  generalize puts w1 pr 0 zcs = w9 at *
  obtain ⟨g0, g1, g2, g3⟩ := (four HM.out.1).1
  refine bodyPost_ret (v := .tuple #[zeroIt, .bool false]) (by simp [results, Tryz.results31, go_sem, g0, g1, g2, g3]) rfl ⟨rfl, HM.out.2⟩

/-- what a call leaves of the queue -/
structure Lft (w w' : World) (p : Nat) (pv : Value) (q : Q) : Prop where
  qs : ∃ pv', Qs w' p pv' q ∧ (pv'.ownBlock = pv.ownBlock ∨ ∃ g, pv'.ownBlock = some g ∧ w.heap.size ≤ g)
  turns : Turns (Foot p pv) w w'

set_option maxHeartbeats 400000 in
theorem pop_cons (p : Nat) (pv : Value) (q : Q) (x : It) (w : World) (h : Qs w p pv q) (hx : q.L[0]? = some x) :
    Calls Tryz.prog 31 #[.pointer (some ⟨p, 0, none⟩)] w fun e w' => e = .returned (.tuple #[x.v, .bool true]) ∧ Lft w w' p pv ⟨q.frames, q.most, q.L.drop 1, q.broken⟩ := by
  obtain ⟨ao, c, hpv, hc⟩ := h.form
  have hlt : 0 < q.L.length := (List.getElem?_eq_some_iff.1 hx).1
  have hsm := h.small
  have hlm : q.L.length ≤ maxLen := by unfold maxLen; omega
  have HQ := Lib.hid h
  have ht : New w (w.alloc (.cells #[.int .i64 0, .int .i64 0, .int .i64 0, .bool false] PT)) := (Turns.refl _ _).alloc _
  have HT := Lib.hid ht
  have HQ1 := Lib.hid (h.later ht)
  have hb : Blk (w.alloc (.cells #[.int .i64 0, .int .i64 0, .int .i64 0, .bool false] PT)) w.heap.size zcs.toArray PT := Blk.new _ _ _
  have HB := Lib.hid hb
  have c2 := HQ1.out.blk.cell 2
  rw [hpv] at c2
  have hd : decide ((q.L.length : Int) = 0) = false := decide_eq_false (by omega)
  have hd2 : ((q.L.length : Int) == 0) = false := beq_false_of_ne (by omega)
  have HP : Hid (w.heap.size ≠ p ∧ ∀ g, pv.ownBlock = some g → w.heap.size ≠ g) := Lib.hid ⟨Nat.ne_of_gt h.lt, fun g hg => Nat.ne_of_gt (h.vlt g hg)⟩
  have HX := Lib.hid hx
  clear h hpv hc hb ht hx
  go_enter Tryz.func31, Tryz.ntmps31
  go_upto_region 1 with fail
  refine (show Code.wp _ _ _ _ (w.alloc (.cells #[.int .i64 0, .int .i64 0, .int .i64 0, .bool false] PT)) from ?_)
  generalize w.alloc (.cells #[.int .i64 0, .int .i64 0, .int .i64 0, .bool false] PT) = w1 at *
  have hle : w.heap.size ≤ w.heap.size := Nat.le_refl _
  generalize hpr : w.heap.size = pr at *
  have HLE := Lib.hid hpr
  clear hle hpr
  go_wp2_with fail
  refine (remove p pv q 1 w1 HQ1.out hlt).mono ?_
  rintro e w2 ⟨v2, rfl, hg⟩
  have hb2 := hg.turns.blk HB.out (fun e => by
    rcases e with e | e
    · exact HP.out.1 e
    · exact HP.out.2 _ e rfl)
  obtain ⟨ao2, cc2, hv2, hc2, hrd, _⟩ := hg.fr.own.form
  have hlT : (q.L.take 1).length = 1 := by rw [List.length_take]; omega
  rw [hlT] at hv2 hc2
  have hxT : (q.L.take 1)[0]? = some x := by rw [List.getElem?_take, if_pos (by omega)]; exact HX.out
  rcases hrd with h0 | ⟨g, hg2, hgl, hcell⟩
  · rw [h0] at hlT; simp at hlT
  subst hg2
  have r0 : w2.cell? ⟨g, 0, none⟩ = _ := hcell 0 x hxT 0 _ rfl
  have r1 : w2.cell? ⟨g, 1, none⟩ = _ := hcell 0 x hxT 1 _ rfl
  have r2 : w2.cell? ⟨g, 2, none⟩ = _ := hcell 0 x hxT 2 _ rfl
  have r3 : w2.cell? ⟨g, 3, none⟩ = _ := hcell 0 x hxT 3 _ rfl
  have hgp : g ≠ pr := fun e => by
    have := hg.fr.vb g (by rw [hv2]; rfl)
    have h3 := HB.out.lt
    omega
  obtain ⟨⟨x0, x1, x2, x3⟩, y0, y1, y2, y3⟩ := four hb2
  have HM := Lib.hid (made4 (S := fun k => Foot p pv k) hb2 ((HT.out.mono (fun _ _ h => h.elim)).trans (hg.turns.mono (fun _ _ h => .inl h))) (by rw [HLE.out]; exact Nat.le_refl _) x.cs rfl)
  obtain ⟨pv', hq2, hpe⟩ := hg.qs
  have t9 : Turns (· = pr) w2 (puts w2 pr 0 x.cs) := puts_turns (S := (· = pr)) (.inl rfl) _ 0 _ (Turns.refl _ _)
  have HQ9 := Lib.hid (And.intro (hq2.turns t9 (fun e => HP.out.1 e.symm) (fun g hg e => HP.out.2 g (hpe ▸ hg) e.symm)) hpe)
  clear hg hq2 hpe t9 hcell hxT hlT hb2 c2
  obtain ⟨xn, xs, xt, xk⟩ := x
  dsimp only [It.cs, It.v] at *
  subst hv2
  go_wp2_with fail
  refine (show bodyPost _ _ _ _ _ (puts w2 pr 0 [.int .i64 xn, .int .i64 xs, .int .i64 xt, .bool xk]) from ?_)
  clear x0 x1 x2 x3 y0 y1 y2 y3 r0 r1 r2 r3
  generalize puts w2 pr 0 [.int .i64 xn, .int .i64 xs, .int .i64 xt, .bool xk] = w9 at *
  obtain ⟨g0, g1, g2, g3⟩ := (four HM.out.1).1
  refine bodyPost_ret (v := .tuple #[.agg #[.int .i64 xn, .int .i64 xs, .int .i64 xt, .bool xk], .bool true]) (by simp [results, Tryz.results31, go_sem, g0, g1, g2, g3]) rfl ⟨rfl, ⟨⟨pv', HQ9.out.1, .inl HQ9.out.2⟩, HM.out.2⟩⟩

/-- all go -/
theorem break_ (p : Nat) (pv : Value) (q : Q) (w : World) (h : Qs w p pv q) :
    Calls Tryz.prog 106 #[.pointer (some ⟨p, 0, none⟩)] w fun e w' => ∃ v, e = .returned v ∧ Gone w w' p pv ⟨q.frames, q.most, [], true⟩ v q.L := by
  obtain ⟨ao, c, hpv, hc⟩ := h.form
  have hsm := h.small
  have hlm : q.L.length ≤ maxLen := by unfold maxLen; omega
  have c4 := h.blk.cell 4
  have f4 := h.blk.free 4
  have tt : Turns (· = p) w (w.setCell ⟨p, 4, none⟩ (.bool true)) := (Turns.refl (· = p) _).setCell (.inl rfl) _
  have h2 : Qs (w.setCell ⟨p, 4, none⟩ (.bool true)) p pv ⟨q.frames, q.most, q.L, true⟩ := ⟨h.blk.set 4 _, h.own.turns tt (fun g hg e => h.ne (by rw [hg, e])), h.ne, h.ok.bs true⟩
  have HG := Lib.hid (remove p pv _ q.L.length _ h2 (Nat.le_refl _))
  have HT := Lib.hid tt
  have c2 := h2.blk.cell 2
  rw [hpv] at c2
  clear h2 tt h hpv
  go_enter Tryz.func106, Tryz.ntmps106
  go_upto_region 2 with fail
  refine (show Code.wp _ _ _ _ (w.setCell ⟨p, 4, none⟩ (.bool true)) from ?_)
  generalize w.setCell ⟨p, 4, none⟩ (.bool true) = w1 at *
  go_wp2_with fail
  refine HG.out.mono ?_
  rintro e w2 ⟨v, rfl, hg⟩
  have hq := hg.qs
  rw [show (⟨q.frames, q.most, q.L.drop q.L.length, true⟩ : Q) = ⟨q.frames, q.most, [], true⟩ by rw [List.drop_length]] at hq
  have HH : Hid (Gone w w2 p pv ⟨q.frames, q.most, [], true⟩ v q.L) := Lib.hid ⟨⟨Owns.cast hg.fr.own (by simp), fun g hgv => Nat.le_trans HT.out.size (hg.fr.vb g hgv)⟩, hq, HT.out.mono (fun i _ hi => .inl hi) |>.trans (hg.turns.mono (fun _ _ hk => .inl hk))⟩
  clear hg HT HG hq
  go_wp2
  go_ret
  exact ⟨_, rfl, HH.out⟩
end Go.Proofs.YtcppibjllaablaaGreat.que

/-
  queue.Queue in memory: Expire.
-/
namespace Go.Proofs.YtcppibjllaablaaGreat.que
open Go.RowKit mem
set_option linter.unusedVariables false

/-- the length of a slice -/
def slen : Value → Nat
  | .slice _ n _ => n
  | _ => 0
def qk (q : Q) (k : Nat) : Q := ⟨q.frames, q.most, q.L.drop k, brk q.broken q.L k⟩
theorem qk_zero (q : Q) : qk q 0 = q := by unfold qk; rw [brk_zero, List.drop_zero]
theorem qk_drop (q : Q) (k : Nat) (hk : k < q.L.length) : dropQ (qk q k) = qk q (k + dropN (q.L.drop k)) := by
  have h := brk_step q.broken q.L k (dropN (q.L.drop k)) hk (dropN_pos _)
  unfold dropQ qk
  simp only
  rw [h, List.drop_drop]
theorem take_more (L : List It) (k d : Nat) : L.take k ++ (L.drop k).take d = L.take (k + d) := (List.take_add).symm
theorem Gone.zero {w : World} {p : Nat} {pv : Value} {q : Q} (h : Qs w p pv q) : Gone w w p pv (qk q 0) (.slice none 0 0) (q.L.take 0) :=
  ⟨⟨Owns.nil _ _, fun g hg => by simp [Value.ownBlock] at hg⟩, ⟨pv, by rw [qk_zero]; exact h, rfl⟩, Turns.refl _ _⟩
theorem Gone.apart {w w1 : World} {p : Nat} {pv v : Value} {q : Q} {D : List It} (h : Gone w w1 p pv q v D) (hp : p < w.heap.size) (hpv : ∀ g, pv.ownBlock = some g → g < w.heap.size) : ∀ g, v.ownBlock = some g → g ≠ p ∧ pv.ownBlock ≠ some g := fun g hg =>
  ⟨fun e => by have := h.fr.vb g hg; omega, fun e => by have := h.fr.vb g hg; have := hpv g e; omega⟩
theorem Gone.still {w w1 w2 : World} {p : Nat} {pv pv1 v u : Value} {q q2 : Q} {D D2 : List It} (h : Gone w w1 p pv q v D) (e1 : pv1.ownBlock = pv.ownBlock) (h2 : Gone w1 w2 p pv1 q2 u D2) (hp : p < w.heap.size) (hpv : ∀ g, pv.ownBlock = some g → g < w.heap.size) : Owns IE PT w2 v D := by
  have ha := h.apart hp hpv
  refine h.fr.own.turns h2.turns (fun g hg => ?_)
  rintro (e | e)
  · exact (ha g hg).1 e
  · exact (ha g hg).2 (e1 ▸ e)
theorem Gone.grow {w w1 w2 w3 : World} {p : Nat} {pv pv1 v u v' : Value} {q q2 : Q} {D D2 : List It} (h : Gone w w1 p pv q v D) (e1 : pv1.ownBlock = pv.ownBlock) (h2 : Gone w1 w2 p pv1 q2 u D2) (hp : p < w.heap.size) (hpv : ∀ g, pv.ownBlock = some g → g < w.heap.size)
    (ho : Owns IE PT w3 v' (D ++ D2)) (hg : w2.grownBy w3 v.ownBlock) (ha : v'.ownBlock = v.ownBlock ∨ v'.ownBlock = some w2.heap.size) : Gone w w3 p pv q2 v' (D ++ D2) := by
  have hap := h.apart hp hpv
  have tg := Turns.of_grown hg
  have t2 : Turns (Foot p pv) w w2 := h.turns.trans (h2.turns.mono (fun k _ hk => .inl (by rcases hk with hk | hk; exact .inl hk; exact .inr (e1 ▸ hk))))
  obtain ⟨pv2, hq2, he2⟩ := h2.qs
  refine ⟨⟨ho, fun g hg' => ?_⟩, ⟨pv2, hq2.turns tg (fun e => (hap p e.symm).1 rfl) (fun g hg' e => (hap g e.symm).2 (by rw [← e1, ← he2]; exact hg')), he2.trans e1⟩, t2.trans (tg.mono (fun k _ hk => .inr (h.fr.vb k hk.symm)))⟩
  rcases ha with e | e
  · exact h.fr.vb g (e ▸ hg')
  · rw [e] at hg'; injection hg' with hg'; have := t2.size; omega

set_option maxHeartbeats 1000000 in
theorem expire (p : Nat) (pv : Value) (q : Q) (now age : Int) (w : World) (h : Qs w p pv q) (n0 : 0 ≤ now) (n1 : now ≤ 2199023255552) (ht : ∀ x ∈ q.L, 0 ≤ x.tick ∧ x.tick ≤ 2199023255552) :
    Calls Tryz.prog 68 #[.pointer (some ⟨p, 0, none⟩), .int .i64 now, .int .i64 age] w fun e w' => ∃ v, e = .returned v ∧ Gone w w' p pv (expQ q now age) v (expD q now age) := by
  have hsm := h.small
  have HG0 := Lib.hid (Gone.zero h)
  have HP := Lib.hid h.lt
  have HPV := Lib.hid h.vlt
  have HT := Lib.hid ht
  have h00 : late now age [] = false := rfl
  have H00 := Lib.hid h00
  clear h ht h00
  go_enter Tryz.func68, Tryz.ntmps68
  go_wp2_with fail
  go_loopw [7] (fun v wr => ∃ k : Nat, k ≤ q.L.length ∧ k + sh (late now age) (q.L.drop k) = sh (late now age) q.L ∧ (∃ ao c, v = .slice ao k c) ∧ Gone w wr p pv (qk q k) v (q.L.take k)) (fun v _ => q.L.length - slen v)
  case atStart => exact ⟨0, Nat.zero_le _, by rw [List.drop_zero, Nat.zero_add], ⟨none, 0, rfl⟩, HG0.out⟩
  case round =>
    obtain ⟨k, hk, hsh, ⟨ao7, c7, rfl⟩, hg⟩ := hrel
    obtain ⟨pv1, hq1, he1⟩ := hg.qs
    obtain ⟨ao, c, hpv1, hc, hrd, _⟩ := hq1.own.form
    have hlen : (qk q k).L.length = q.L.length - k := List.length_drop
    rw [hlen] at hpv1 hc
    have c2 := hq1.blk.cell 2
    rw [hpv1] at c2
    have HG := Lib.hid hg
    have HSH := Lib.hid hsh
    have HQ1 := Lib.hid (And.intro hq1 he1)
    have HPV1 := Lib.hid hpv1
    have hlm : q.L.length ≤ maxLen := by unfold maxLen; omega
    by_cases hlt : k < q.L.length
    · obtain ⟨y, hy⟩ : ∃ y, q.L[k]? = some y := ⟨_, List.getElem?_eq_getElem hlt⟩
      have hy0 : (qk q k).L[0]? = some y := by show (q.L.drop k)[0]? = _; rw [List.getElem?_drop]; exact hy
      obtain ⟨r, hr⟩ : ∃ r, q.L.drop k = y :: r := by
        obtain ⟨hlt', e⟩ := List.getElem?_eq_some_iff.1 hy
        exact ⟨_, by rw [List.drop_eq_getElem_cons hlt', e]⟩
      have hty := HT.out y (List.mem_of_getElem? hy)
      rcases hrd with h0 | ⟨g, hg2, hgl, hcell⟩
      · rw [show (qk q k).L = q.L.drop k from rfl, hr] at h0; cases h0
      subst hg2
      have r2 : wr.cell? ⟨g, 2, none⟩ = some (.int .i64 y.tick) := hcell 0 y hy0 2 _ rfl
      obtain ⟨t0, t1⟩ := hty
      have hlate : Hid (late now age (q.L.drop k) = decide (age ≤ now - y.tick)) := Lib.hid (by rw [hr]; rfl)
      have hne : Hid (q.L.drop k ≠ []) := Lib.hid (by rw [hr]; simp)
      generalize y.tick = ty at *
      have hw : IntKind.i64.wrap (now - ty) = now - ty := IntWalk.i64_in _ (by omega)
      have hd : decide ((0 : Int) < ((q.L.length - k : Nat) : Int)) = true := decide_eq_true (by omega)
      clear hg hsh hq1 he1 hpv1 hcell hy hy0 hr
      by_cases hl : age ≤ now - ty
      · have hl2 : decide (age ≤ now - ty) = true := decide_eq_true hl
        have HL : Hid (late now age (q.L.drop k) = true) := Lib.hid (by rw [hlate.out]; exact hl2)
        have HGO := Lib.hid (sh_go (late now age) H00.out (q.L.drop k) HL.out)
        clear hlate
        go_wp2_with fail
        refine (drop p pv1 (qk q k) wr HQ1.out.1 hne.out).mono ?_
        rintro e w2 ⟨u, rfl, hg2⟩
        have hdl := dropN_le (q.L.drop k) hne.out
        have hd1 := dropN_pos (q.L.drop k)
        rw [List.length_drop] at hdl
        have HG2 : Hid (Gone wr w2 p pv1 (qk q (k + dropN (q.L.drop k))) u ((q.L.drop k).take (dropN (q.L.drop k)))) := Lib.hid (by rw [← qk_drop q k hlt]; exact hg2)
        have HA1 := Lib.hid (HG.out.still HQ1.out.2 hg2 HP.out HPV.out)
        have HA2 := Lib.hid (HG2.out.fr.own.sub 0 (fun _ _ => Nat.zero_le _))
        have hll : Hid ((q.L.take k).length + ((q.L.drop k).take (dropN (q.L.drop k))).length ≤ 1048576) := Lib.hid (by simp only [List.length_take, List.length_drop]; omega)
        clear hg2 c2 r2
        go_wp2_with (at_builtin; refine wpList_append_sub (E := IE) Tryz.underlying117 infoP rfl (by decide) (by decide) rfl _ _ rfl _ (q.L.take k) _ rfl HA1.out _ rfl 0 HA2.out hll.out ?_; intro v3 w3 hown3 hgrow3 hat3)
        have hG3 := HG.out.grow HQ1.out.2 HG2.out HP.out HPV.out hown3 hgrow3 hat3
        rw [take_more] at hG3 hown3
        obtain ⟨a3, c3, hv3, _⟩ := hown3.form
        rw [show (q.L.take (k + dropN (q.L.drop k))).length = k + dropN (q.L.drop k) by rw [List.length_take]; omega] at hv3
        have HE := Lib.hid hG3
        have HGO2 := HGO.out.2
        rw [List.drop_drop] at HGO2
        have HS2 : Hid (k + dropN (q.L.drop k) + sh (late now age) (q.L.drop (k + dropN (q.L.drop k))) = sh (late now age) q.L) := Lib.hid (by have := HSH.out; omega)
        clear hown3 hgrow3 hat3 hG3 HGO2 HA1 HA2 hll HGO HSH
        generalize dropN (q.L.drop k) = d at *
        subst hv3
        go_roundw
        case rel => exact ⟨k + d, by omega, HS2.out, ⟨_, _, rfl⟩, HE.out⟩
        case measure => show q.L.length - (k + d) < q.L.length - k; omega
      · have hl2 : decide (age ≤ now - ty) = false := decide_eq_false hl
        have HL : Hid (late now age (q.L.drop k) = false) := Lib.hid (by rw [hlate.out]; exact hl2)
        have HE : Hid (Gone w wr p pv (expQ q now age) (.slice ao7 k c7) (expD q now age)) := Lib.hid (by
          have e : expK q now age = k := by have := HSH.out; rw [sh_end _ _ HL.out] at this; unfold expK; omega
          unfold expQ expD
          rw [e]
          exact HG.out)
        clear hlate HG HL
        go_wp2
        go_ret
        exact ⟨_, rfl, HE.out⟩
    · obtain rfl : k = q.L.length := by omega
      have HE : Hid (Gone w wr p pv (expQ q now age) (.slice ao7 q.L.length c7) (expD q now age)) := Lib.hid (by
        have e : expK q now age = q.L.length := by
          have := HSH.out
          rw [List.drop_length, sh_end _ _ H00.out] at this
          unfold expK; omega
        unfold expQ expD
        rw [e]
        exact HG.out)
      clear HG hg hq1 hrd hpv1
      have hz : q.L.length - q.L.length = 0 := Nat.sub_self _
      rw [hz] at c2
      go_wp2
      go_ret
      exact ⟨_, rfl, HE.out⟩
end Go.Proofs.YtcppibjllaablaaGreat.que

/-
  queue.Queue in memory: Put.
-/
namespace Go.Proofs.YtcppibjllaablaaGreat.que
open Go.RowKit mem
set_option linter.unusedVariables false

/-- what Put leaves -/
structure PutPost (w w' : World) (p : Nat) (pv : Value) (q : Q) (v : Value) (D : List It) : Prop where
  fr : Fresh PT w w' v D
  lft : Lft w w' p pv q

theorem Gone.drewN {w w1 : World} {p : Nat} {pv v : Value} {q : Q} {D : List It} (h : Gone w w1 p pv q v D) (n : Nat) : Gone w (w1.drewN n) p pv q v D := by
  obtain ⟨pv', hq, he⟩ := h.qs
  exact ⟨⟨h.fr.own, h.fr.vb⟩, ⟨pv', hq.drewN n, he⟩, h.turns.drewN n⟩
theorem Gone.later {w w1 w2 : World} {p : Nat} {pv v : Value} {q : Q} {D : List It} (h : Gone w w1 p pv q v D) (n : New w1 w2) : Gone w w2 p pv q v D := by
  obtain ⟨pv', hq, he⟩ := h.qs
  exact ⟨⟨h.fr.own.turns n (fun _ _ h => h), h.fr.vb⟩, ⟨pv', hq.later n, he⟩, h.turns.trans (n.mono (fun _ _ h => h.elim))⟩

/-- the new item has its place -/
structure Plc (w wx : World) (p pb : Nat) (pv1 v : Value) (q1 : Q) (D : List It) (x : It) (g cap : Nat) : Prop where
  blk : Blk wx p (cellsR q1.frames q1.most (.slice (some ⟨g, 0, none⟩) (q1.L.length + 1) cap) (sumL q1.L) q1.broken) QB
  own : Owns IE PT wx (.slice (some ⟨g, 0, none⟩) (q1.L.length + 1) cap) (q1.L ++ [x])
  ne : g ≠ p
  dr : Owns IE PT wx v D
  va : ∀ g, v.ownBlock = some g → g ≠ p
  box : Blk wx pb x.cs.toArray PT
  loc : pv1.ownBlock = some g ∨ w.heap.size ≤ g
  turns : Turns (Foot p pv1) w wx
theorem Qs.placed {w W w1 : World} {p pb g cap : Nat} {pv1 v : Value} {q1 : Q} {D : List It} {x : It} (h : Qs w p pv1 q1) (hbx : Blk w pb x.cs.toArray PT) (hpb : pb ≠ p ∧ ∀ g, pv1.ownBlock = some g → pb ≠ g) (hv : Owns IE PT w v D) (hva : ∀ g, v.ownBlock = some g → g ≠ p ∧ pv1.ownBlock ≠ some g) (hW : New w W)
    (hown : w1.ownsRow 0 PT 4 (.slice (some ⟨g, 0, none⟩) (q1.L.length + 1) cap) (q1.L.length + 1) (IE.all q1.L ++ x.cs)) (hg : W.grownBy w1 pv1.ownBlock) (hat : pv1.ownBlock = some g ∨ w.heap.size ≤ g) :
    Plc w (w1.setCell ⟨p, 2, none⟩ (.slice (some ⟨g, 0, none⟩) (q1.L.length + 1) cap)) p pb pv1 v q1 D x g cap := by
  have t1 : Turns (fun k => some k = pv1.ownBlock) w w1 := (hW.mono (fun _ _ h => h.elim)).trans ((Turns.of_grown hg).mono (fun _ _ h => .inl h))
  have hpc := h.lt
  have hgp : g ≠ p := by
    rcases hat with e | e
    · intro e2; exact h.ne (by rw [e, e2])
    · omega
  have hb1 := t1.blk h.blk (fun e => h.ne e.symm)
  have hx1 := t1.blk hbx (fun e => hpb.2 pb e.symm rfl)
  have hv1 := hv.turns t1 (fun g' hg' e => (hva g' hg').2 e.symm)
  have t2 : Turns (· = p) w1 (w1.setCell ⟨p, 2, none⟩ (.slice (some ⟨g, 0, none⟩) (q1.L.length + 1) cap)) := (Turns.refl (· = p) _).setCell (.inl rfl) _
  have hO : Owns IE PT w1 (.slice (some ⟨g, 0, none⟩) (q1.L.length + 1) cap) (q1.L ++ [x]) := by
    unfold Owns
    rw [IE.all_append, IE.all_one, List.length_append]
    exact hown
  refine ⟨hb1.set 2 _, hO.turns t2 (fun g' hg' e => ?_), hgp, hv1.turns t2 (fun g' hg' e => (hva g' hg').1 e), fun g' hg' => (hva g' hg').1, t2.blk hx1 hpb.1, hat, (t1.mono (S' := Foot p pv1) (fun _ _ hk => .inr hk.symm)).trans (t2.mono (fun _ _ hk => .inl (.inl hk)))⟩
  have hg2 : g = g' := by simpa [Value.ownBlock] using hg'
  exact hgp (hg2.trans e)
theorem Plc.fin {w wx wz : World} {p pb g cap : Nat} {pv1 v : Value} {q1 : Q} {D : List It} {x : It} (h : Plc w wx p pb pv1 v q1 D x g cap) (t : Turns (· = p) wx wz) (hb : Blk wz p (cellsR q1.frames q1.most (.slice (some ⟨g, 0, none⟩) (q1.L.length + 1) cap) (sumL q1.L + x.size) false) QB) (ok : Q.ok ⟨q1.frames, q1.most, q1.L ++ [x], false⟩) :
    Owns IE PT wz v D ∧ Qs wz p (.slice (some ⟨g, 0, none⟩) (q1.L.length + 1) cap) ⟨q1.frames, q1.most, q1.L ++ [x], false⟩ ∧ Turns (Foot p pv1) w wz := by
  refine ⟨h.dr.turns t (fun g' hg' e => h.va g' hg' e), ⟨?_, h.own.turns t (fun g' hg' e => ?_), fun e => ?_, ok⟩, h.turns.trans (t.mono (fun _ _ hk => .inl (.inl hk)))⟩
  · have e : sumL (q1.L ++ [x]) = sumL q1.L + x.size := by rw [sumL_append]; simp [sumL]
    show Blk wz p (cellsR q1.frames q1.most _ (sumL (q1.L ++ [x])) false) QB
    rw [e]
    exact hb
  · have hg2 : g = g' := by simpa [Value.ownBlock] using hg'
    exact h.ne (hg2.trans e)
  · exact h.ne (by simpa [Value.ownBlock] using e)

set_option maxHeartbeats 1000000 in
set_option maxRecDepth 10000 in
theorem put (p : Nat) (pv : Value) (q : Q) (x : It) (w : World) (h : Qs w p pv q) (s0 : -9223372036854775808 ≤ x.size) (s1 : x.size ≤ 9223372036854775807) :
    Calls Tryz.prog 39 #[.pointer (some ⟨p, 0, none⟩), x.v] w fun e w' => ∃ v, e = .returned (.tuple #[v, .bool (putOk q x)]) ∧ PutPost w w' p pv (putQ q x) v (putD q x) := by
  have n1 : New w (w.alloc (.cells x.cs.toArray PT)) := (Turns.refl _ _).alloc _
  have hb : Blk (w.alloc (.cells x.cs.toArray PT)) w.heap.size x.cs.toArray PT := Blk.new _ _ _
  have HQ := Lib.hid h
  have HQ1 : Hid (Qs (w.alloc (.cells x.cs.toArray PT)) p pv q) := Lib.hid (h.later n1)
  have HN1 := Lib.hid n1
  have HB1 := Lib.hid hb
  have HX : Hid (∃ y : It, y = x) := Lib.hid ⟨x, rfl⟩
  obtain ⟨y, hy⟩ := HX.out
  have HY := Lib.hid hy
  have c1 := HQ1.out.blk.cell 1
  have x1 := hb.cell 1
  have x0 := hb.cell 0
  have x2 := hb.cell 2
  have x3 := hb.cell 3
  have m1 := HQ.out.ok.m1
  have m2 := HQ.out.ok.m2
  clear n1 hb h hy
  have HR : Hid (∀ w', Qs w' p pv q → _) := Lib.hid (fun w' hq => refuses p pv q x w' hq)
  obtain ⟨xn, xs, xt, xk⟩ := x
  dsimp only [It.cs, It.v] at *
  go_enter Tryz.func39, Tryz.ntmps39
  go_upto_region 1 with fail
  refine (show Code.wp _ _ _ _ (w.alloc (.cells #[.int .i64 xn, .int .i64 xs, .int .i64 xt, .bool xk] PT)) from ?_)
  have c1' : (w.alloc (.cells #[.int .i64 xn, .int .i64 xs, .int .i64 xt, .bool xk] PT)).cell? ⟨p, 1, none⟩ = some (.int .i64 q.most) := c1
  have x0' : (w.alloc (.cells #[.int .i64 xn, .int .i64 xs, .int .i64 xt, .bool xk] PT)).cell? ⟨w.heap.size, 0, none⟩ = some (.int .i64 xn) := x0
  have x1' : (w.alloc (.cells #[.int .i64 xn, .int .i64 xs, .int .i64 xt, .bool xk] PT)).cell? ⟨w.heap.size, 1, none⟩ = some (.int .i64 xs) := x1
  have x2' : (w.alloc (.cells #[.int .i64 xn, .int .i64 xs, .int .i64 xt, .bool xk] PT)).cell? ⟨w.heap.size, 2, none⟩ = some (.int .i64 xt) := x2
  have x3' : (w.alloc (.cells #[.int .i64 xn, .int .i64 xs, .int .i64 xt, .bool xk] PT)).cell? ⟨w.heap.size, 3, none⟩ = some (.bool xk) := x3
  have HQ1' : Hid (Qs (w.alloc (.cells #[.int .i64 xn, .int .i64 xs, .int .i64 xt, .bool xk] PT)) p pv q) := HQ1
  have HB1' : Hid (Blk (w.alloc (.cells #[.int .i64 xn, .int .i64 xs, .int .i64 xt, .bool xk] PT)) w.heap.size #[.int .i64 xn, .int .i64 xs, .int .i64 xt, .bool xk] PT) := HB1
  have HN1' : Hid (New w (w.alloc (.cells #[.int .i64 xn, .int .i64 xs, .int .i64 xt, .bool xk] PT))) := HN1
  have HPB : Hid (∃ z, z = w.heap.size) := Lib.hid ⟨_, rfl⟩
  obtain ⟨pb, hpb⟩ := HPB.out
  rw [← hpb] at x0' x1' x2' x3' HB1'
  rw [← hpb]
  have HPB2 := Lib.hid hpb
  clear c1 x1 x0 x2 x3 HQ1 HB1 HN1 hpb HPB
  generalize w.alloc (.cells #[.int .i64 xn, .int .i64 xs, .int .i64 xt, .bool xk] PT) = w1 at *
  have hbad : Hid (bad q y = (decide (xs < 0) || decide (q.most < xs) || (q.broken && !xk))) := Lib.hid (by rw [HY.out]; rfl)
  go_cut [23] (fun v wx => v = .bool (bad q y) ∧ New w1 wx)
  case first =>
    by_cases h1 : xs < 0
    · have d1 : decide (xs < 0) = true := decide_eq_true h1
      rw [d1] at hbad
      go_quiet (fail)
      go_wp2_with fail
      go_meet
      case rel => exact ⟨by rw [hbad.out]; rfl, (Turns.refl _ _).drewN _⟩
    · have d1 : decide (xs < 0) = false := decide_eq_false h1
      by_cases h2 : q.most < xs
      · have d2 : decide (q.most < xs) = true := decide_eq_true h2
        rw [d1, d2] at hbad
        go_quiet (fail)
        go_wp2_with fail
        go_meet
        case rel => exact ⟨by rw [hbad.out]; rfl, (Turns.refl _ _).drewN _⟩
      · have d2 : decide (q.most < xs) = false := decide_eq_false h2
        rw [d1, d2] at hbad
        go_region_with (refine (HR.out _ (HQ1'.out.drewN 1)).mono ?_; rintro e w2 ⟨rfl, n2⟩)
        all_goals
          have N2 : Hid (New w1 w2) := Lib.hid ((Turns.drewN (Turns.refl (fun _ => False) w1) 1).trans (n2.mono (fun _ _ h => h.elim)))
          clear n2
          go_wp2_with fail
          go_meet
          case rel => exact ⟨by rw [hbad.out]; rfl, N2.out⟩
  case rest =>
    obtain ⟨rfl, nx⟩ := hcut
    have HQX := Lib.hid (HQ1'.out.later nx)
    have hbx := nx.blk HB1'.out (fun h => h)
    have HBX := Lib.hid hbx
    have HNX : Hid (New w wc) := Lib.hid (HN1'.out.trans (nx.mono (fun _ _ h => h.elim)))
    obtain ⟨⟨x0, x1, x2, x3⟩, _⟩ := four hbx
    clear nx hbx c1' x0' x1' x2' x3' HQ1' HB1' HN1' HR
    have HSM := Lib.hid HQX.out.small
    by_cases hb : bad q y = true
    · have HB := Lib.hid hb
      have c4 := HQX.out.blk.cell 4
      have f4 := HQX.out.blk.free 4
      rw [hb]
      have HE : Hid (PutPost w (wc.setCell ⟨p, 4, none⟩ (.bool true)) p pv (putQ q y) (.slice none 0 0) (putD q y) ∧ putOk q y = false) := Lib.hid (by
        have tt : Turns (· = p) wc (wc.setCell ⟨p, 4, none⟩ (.bool true)) := (Turns.refl (· = p) _).setCell (.inl rfl) _
        have e1 : putQ q y = ⟨q.frames, q.most, q.L, true⟩ := by unfold putQ; rw [hb, if_pos rfl]
        have e2 : putD q y = [] := by unfold putD; rw [hb, if_pos rfl]
        have e3 : putOk q y = false := by unfold putOk; rw [hb]; rfl
        refine ⟨⟨⟨by rw [e2]; exact Owns.nil _ _, fun g hg => by simp [Value.ownBlock] at hg⟩, ⟨pv, ?_, .inl rfl⟩, ?_⟩, e3⟩
        · rw [e1]
          exact ⟨HQX.out.blk.set 4 _, HQX.out.own.turns tt (fun g hg e => HQX.out.ne (by rw [hg, e])), HQX.out.ne, HQX.out.ok.bs true⟩
        · exact (HNX.out.mono (fun _ _ h => h.elim)).trans (tt.mono (fun _ _ h => .inl (.inl h))))
      clear hb HB hbad HQX HBX HNX x0 x1 x2 x3
      go_wp2
      go_ret2
      rw [← HY.out]
      exact ⟨.slice none 0 0, by rw [HE.out.2]; rfl, HE.out.1⟩
    · have hb : bad q y = false := by simpa using hb
      have HB := Lib.hid hb
      rw [hb]
      have hs : 0 ≤ xs ∧ xs ≤ q.most := by
        have := hbad.out
        rw [hb] at this
        have h2 : (decide (xs < 0) || decide (q.most < xs)) = false := by
          cases h3 : (decide (xs < 0) || decide (q.most < xs)) with
          | false => rfl
          | true => rw [h3] at this; simp at this
        simp at h2; omega
      obtain ⟨xs0, xs1⟩ := hs
      have HY1 : Hid (y.size = xs ∧ y.key = xk) := Lib.hid (by rw [HY.out]; exact ⟨rfl, rfl⟩)
      have H00 : Hid (full q y [] = false) := Lib.hid (full_nil HQ.out.ok (by rw [HY1.out.1]; omega))
      have HG0 := Lib.hid (Gone.zero HQX.out)
      have HP := Lib.hid HQX.out.lt
      have HPV := Lib.hid HQX.out.vlt
      have HF1 := Lib.hid HQ.out.ok
      have HPBX : Hid (pb ≠ p ∧ ∀ g, pv.ownBlock = some g → pb ≠ g) := Lib.hid ⟨by rw [HPB2.out]; exact Nat.ne_of_gt HQ.out.lt, fun g hg => by rw [HPB2.out]; exact Nat.ne_of_gt (HQ.out.vlt g hg)⟩
      clear hb hbad
      go_wp2_with fail
      go_loopw [6] (fun v wr => ∃ k : Nat, k ≤ q.L.length ∧ k + sh (full q y) (q.L.drop k) = putK q y ∧ (∃ ao c, v = .slice ao k c) ∧ Gone wc wr p pv (qk q k) v (q.L.take k)) (fun v _ => q.L.length - slen v)
      case atStart => exact ⟨0, Nat.zero_le _, by rw [List.drop_zero, Nat.zero_add]; rfl, ⟨none, 0, rfl⟩, HG0.out⟩
      case round =>
        obtain ⟨k, hk, hsh, ⟨ao7, c7, rfl⟩, hg⟩ := hrel
        have HG9 := Lib.hid (fun n => hg.drewN n)
        obtain ⟨pv1, hq1, he1⟩ := hg.qs
        have HQ9 := Lib.hid (fun n => hq1.drewN n)
        have HE1 := Lib.hid he1
        obtain ⟨ao, c, hpv1, hc⟩ := hq1.form
        have hlen : (qk q k).L.length = q.L.length - k := List.length_drop
        rw [hlen] at hpv1 hc
        have c0 := hq1.blk.cell 0
        have c1 := hq1.blk.cell 1
        have c2 := hq1.blk.cell 2
        have c3 := hq1.blk.cell 3
        have hbr := hg.turns.blk HBX.out (fun e => by
          rcases e with e | e
          · exact HPBX.out.1 e
          · exact HPBX.out.2 _ e rfl)
        have HBR := Lib.hid (fun n => hbr.drewN n)
        have x1 := hbr.cell 1
        rw [hpv1] at c2
        have HPV1 := Lib.hid hpv1
        have HSH := Lib.hid hsh
        have hsm := HSM.out
        have hsum0 := sumL_pos _ hq1.ok.pos
        have hsum1 := hq1.ok.sum
        have hm1 : (qk q k).most = q.most := rfl
        have hf1 : (qk q k).frames = q.frames := rfl
        have hL1 : (qk q k).L = q.L.drop k := rfl
        have HFU : Hid (full q y (q.L.drop k) = (decide (((q.L.length - k : Nat) : Int) = q.frames) || decide (q.most < sumL (q.L.drop k) + xs))) := Lib.hid (by unfold full; rw [HY1.out.1, List.length_drop])
        rw [hm1] at c1 hsum1
        rw [hf1] at c0
        rw [hL1] at c3 hsum0 hsum1
        have hw : IntKind.i64.wrap (sumL (q.L.drop k) + xs) = sumL (q.L.drop k) + xs := IntWalk.i64_in _ (by omega)
        generalize hsd : sumL (q.L.drop k) = sd at *
        have HSD := Lib.hid hsd
        clear hg hsh hq1 he1 hpv1 hbr hlen hm1 hf1 hL1 hsd
        by_cases hf : full q y (q.L.drop k) = true
        · have HF := Lib.hid hf
          have HGO := Lib.hid (sh_go (full q y) H00.out (q.L.drop k) hf)
          have hne := HGO.out.1
          have hkl : k < q.L.length := by
            rcases Nat.lt_or_ge k q.L.length with h | h
            · exact h
            · exact absurd (List.drop_eq_nil_of_le h) hne
          rw [HFU.out] at hf
          have HNE := Lib.hid hne
          clear hne
          by_cases hd : ((q.L.length - k : Nat) : Int) = q.frames
          · have hd1 : decide (((q.L.length - k : Nat) : Int) = q.frames) = true := decide_eq_true hd
            have hd2 : (((q.L.length - k : Nat) : Int) == q.frames) = true := by simpa using hd
            clear hd hf
            go_wp2_with fail
            go_quiet (fail)
            have hg5 := HG9.out nq
            have hq5 := HQ9.out nq
            clear HG9 HQ9 HBR c0 c1 c2 c3 x1 hd1 hd2 
            generalize wr.drewN nq = w5 at *
            go_wp2_with fail
            refine (drop p pv1 (qk q k) w5 hq5 HNE.out).mono ?_
            rintro e w2 ⟨u, rfl, hg2⟩
            have hdl := dropN_le (q.L.drop k) HNE.out
            have hdn := dropN_pos (q.L.drop k)
            rw [List.length_drop] at hdl
            have HG2 : Hid (Gone w5 w2 p pv1 (qk q (k + dropN (q.L.drop k))) u ((q.L.drop k).take (dropN (q.L.drop k)))) := Lib.hid (by rw [← qk_drop q k hkl]; exact hg2)
            have HA1 := Lib.hid (hg5.still HE1.out hg2 HP.out HPV.out)
            have HA2 := Lib.hid (HG2.out.fr.own.sub 0 (fun _ _ => Nat.zero_le _))
            have hll : Hid ((q.L.take k).length + ((q.L.drop k).take (dropN (q.L.drop k))).length ≤ 1048576) := Lib.hid (by simp only [List.length_take, List.length_drop]; omega)
            have HG5 := Lib.hid hg5
            clear hg2 hg5 hq5
            go_wp2_with (at_builtin; refine wpList_append_sub (E := IE) Tryz.underlying117 infoP rfl (by decide) (by decide) rfl _ _ rfl _ (q.L.take k) _ rfl HA1.out _ rfl 0 HA2.out hll.out ?_; intro v3 w3 hown3 hgrow3 hat3)
            have hG3 := HG5.out.grow HE1.out HG2.out HP.out HPV.out hown3 hgrow3 hat3
            rw [take_more] at hG3 hown3
            obtain ⟨a3, c3, hv3, _⟩ := hown3.form
            rw [show (q.L.take (k + dropN (q.L.drop k))).length = k + dropN (q.L.drop k) by rw [List.length_take]; omega] at hv3
            have HE := Lib.hid hG3
            have HGO2 := HGO.out.2
            rw [List.drop_drop] at HGO2
            have HS2 : Hid (k + dropN (q.L.drop k) + sh (full q y) (q.L.drop (k + dropN (q.L.drop k))) = putK q y) := Lib.hid (by have := HSH.out; omega)
            clear hown3 hgrow3 hat3 hG3 HGO2 HA1 HA2 hll HGO HSH HG2 HG5
            generalize dropN (q.L.drop k) = d at *
            subst hv3
            go_roundw
            case rel => exact ⟨k + d, by omega, HS2.out, ⟨_, _, rfl⟩, HE.out⟩
            case measure => show q.L.length - (k + d) < q.L.length - k; omega
          · have hd1 : decide (((q.L.length - k : Nat) : Int) = q.frames) = false := decide_eq_false hd
            have hd2 : (((q.L.length - k : Nat) : Int) == q.frames) = false := beq_false_of_ne hd
            rw [hd1, Bool.false_or] at hf
            clear hd
            go_wp2_with fail
            go_quiet (fail)
            have hg5 := HG9.out nq
            have hq5 := HQ9.out nq
            clear HG9 HQ9 HBR c0 c1 c2 c3 x1 hd1 hd2 hf
            generalize wr.drewN nq = w5 at *
            go_wp2_with fail
            refine (drop p pv1 (qk q k) w5 hq5 HNE.out).mono ?_
            rintro e w2 ⟨u, rfl, hg2⟩
            have hdl := dropN_le (q.L.drop k) HNE.out
            have hdn := dropN_pos (q.L.drop k)
            rw [List.length_drop] at hdl
            have HG2 : Hid (Gone w5 w2 p pv1 (qk q (k + dropN (q.L.drop k))) u ((q.L.drop k).take (dropN (q.L.drop k)))) := Lib.hid (by rw [← qk_drop q k hkl]; exact hg2)
            have HA1 := Lib.hid (hg5.still HE1.out hg2 HP.out HPV.out)
            have HA2 := Lib.hid (HG2.out.fr.own.sub 0 (fun _ _ => Nat.zero_le _))
            have hll : Hid ((q.L.take k).length + ((q.L.drop k).take (dropN (q.L.drop k))).length ≤ 1048576) := Lib.hid (by simp only [List.length_take, List.length_drop]; omega)
            have HG5 := Lib.hid hg5
            clear hg2 hg5 hq5
            go_wp2_with (at_builtin; refine wpList_append_sub (E := IE) Tryz.underlying117 infoP rfl (by decide) (by decide) rfl _ _ rfl _ (q.L.take k) _ rfl HA1.out _ rfl 0 HA2.out hll.out ?_; intro v3 w3 hown3 hgrow3 hat3)
            have hG3 := HG5.out.grow HE1.out HG2.out HP.out HPV.out hown3 hgrow3 hat3
            rw [take_more] at hG3 hown3
            obtain ⟨a3, c3, hv3, _⟩ := hown3.form
            rw [show (q.L.take (k + dropN (q.L.drop k))).length = k + dropN (q.L.drop k) by rw [List.length_take]; omega] at hv3
            have HE := Lib.hid hG3
            have HGO2 := HGO.out.2
            rw [List.drop_drop] at HGO2
            have HS2 : Hid (k + dropN (q.L.drop k) + sh (full q y) (q.L.drop (k + dropN (q.L.drop k))) = putK q y) := Lib.hid (by have := HSH.out; omega)
            clear hown3 hgrow3 hat3 hG3 HGO2 HA1 HA2 hll HGO HSH HG2 HG5
            generalize dropN (q.L.drop k) = d at *
            subst hv3
            go_roundw
            case rel => exact ⟨k + d, by omega, HS2.out, ⟨_, _, rfl⟩, HE.out⟩
            case measure => show q.L.length - (k + d) < q.L.length - k; omega
        · have hf : full q y (q.L.drop k) = false := by simpa using hf
          have HF := Lib.hid hf
          rw [HFU.out] at hf
          simp only [Bool.or_eq_false_iff] at hf
          obtain ⟨hd1, hd3⟩ := hf
          have hd2 : (((q.L.length - k : Nat) : Int) == q.frames) = false := beq_false_of_ne (by simpa using hd1)
          go_wp2_with fail
          go_quiet (fail)
          have hg5 := HG9.out nq
          have hq5 := HQ9.out nq
          have hb5 := HBR.out nq
          have HK : Hid (putK q y = k) := Lib.hid (by have := HSH.out; rw [sh_end _ _ HF.out] at this; omega)
          clear HG9 HQ9 HBR c0 c1 c2 c3 x0 x1 x2 x3 hd1 hd2 hd3 hw HFU
          generalize wr.drewN nq = w5 at *
          obtain ⟨⟨x0, x1, x2, x3⟩, _⟩ := four hb5
          have HG5 := Lib.hid hg5
          have HQ5 := Lib.hid hq5
          have HB5 := Lib.hid hb5
          clear hg5 hq5 hb5
          go_wp2_with fail
          refine (refuses p pv1 (qk q k) ⟨xn, xs, xt, xk⟩ w5 HQ5.out).mono ?_
          rintro e w6 ⟨rfl, n6⟩
          have HG6 := Lib.hid (HG5.out.later n6)
          have HQ6 := Lib.hid (HQ5.out.later n6)
          have hb6 := n6.blk HB5.out (fun h => h)
          have HB6 := Lib.hid hb6
          clear HG5 HQ5 HB5 n6 x0 x1 x2 x3
          obtain ⟨⟨x0, x1, x2, x3⟩, _⟩ := four hb6
          clear hb6
          have HBK : Hid ((putB q y && !y.key) = ((qk q k).broken && !xk)) := Lib.hid (by unfold putB qk; rw [HK.out, HY1.out.2])
          by_cases hB : ((qk q k).broken && !xk) = true
          · dsimp only
            rw [hB]
            have HE : Hid (PutPost w w6 p pv (putQ q y) (.slice ao7 k c7) (putD q y) ∧ putOk q y = false) := Lib.hid (by
              rw [hB] at HBK
              have e1 : putQ q y = qk q k := by
                unfold putQ
                rw [HB.out, if_neg (by simp), HBK.out, if_pos rfl]
                unfold putB qk
                rw [HK.out]
              have e2 : putD q y = q.L.take k := by unfold putD; rw [HB.out, if_neg (by simp), HK.out]
              have e3 : putOk q y = false := by unfold putOk; rw [HBK.out]; simp
              obtain ⟨pv2, hq2, he2⟩ := HG6.out.qs
              rw [e1, e2]
              exact ⟨⟨⟨HG6.out.fr.own, fun g hg => Nat.le_trans HNX.out.size (HG6.out.fr.vb g hg)⟩, ⟨pv2, hq2, .inl he2⟩, (HNX.out.mono (fun _ _ h => h.elim)).trans (HG6.out.turns.mono (fun _ _ h => .inl h))⟩, e3⟩)
            clear hB x0 x1 x2 x3
            go_wp2
            go_ret2
            rw [← HY.out]
            exact ⟨.slice ao7 k c7, by rw [HE.out.2]; rfl, HE.out.1⟩
          · have hB : ((qk q k).broken && !xk) = false := by simpa using hB
            dsimp only
            rw [hB]
            rw [hB] at HBK
            have HVA : Hid (∀ g, (Value.slice ao7 k c7).ownBlock = some g → g ≠ p ∧ pv1.ownBlock ≠ some g) := Lib.hid (fun g hg => by
              have := HG6.out.apart HP.out HPV.out g hg
              exact ⟨this.1, by rw [HE1.out]; exact this.2⟩)
            have HPB1 : Hid (pb ≠ p ∧ ∀ g, pv1.ownBlock = some g → pb ≠ g) := Lib.hid ⟨HPBX.out.1, fun g hg => HPBX.out.2 g (HE1.out ▸ hg)⟩
            have c2 := HQ6.out.blk.cell 2
            have f2 := HQ6.out.blk.free 2
            have hne := HQ6.out.ne
            have hpw := HQ6.out.lt
            have hown : w6.ownsRow 0 PT 4 pv1 (q.L.drop k).length (IE.all (q.L.drop k)) := HQ6.out.own
            rw [List.length_drop] at hown
            obtain ⟨i0, hi, hz0, hz1, hz2⟩ := infoOf infoP
            have hkm : q.L.length - k ≤ 1024 := by omega
            have hpv1 := HPV1.out
            subst hpv1
            clear hB
            go_wp2_with fail
            go_cut [] (fun wx => ∃ g cap, Plc w6 wx p pb (.slice ao (q.L.length - k) c) (.slice ao7 k c7) (qk q k) (q.L.take k) ⟨xn, xs, xt, xk⟩ g cap)
            case first =>
              go_region_law
                ((refine step_append_lies _ (by rfl) _ _ _ (by rfl) 0 PT i0 _ 4 32 Tryz.underlying117 hi hz0 hz1 hz2 rfl (by decide) (.slice ao (q.L.length - k) c) _ _ (by rfl) ((World.ownsRow.alloc hown _).drew)
                        ⟨w6.heap.size, 0, none⟩ 1 1 [.int .i64 xn, .int .i64 xs, .int .i64 xt, .bool xk] (by rfl) (by rfl) (World.news_of_block (cs := #[.int .i64 xn, .int .i64 xs, .int .i64 xt, .bool xk]) (t := PT) (fr := (0, 0)) (heap_alloc_new w6 _)) (by simp [Value.oneCell'])
                        (by omega) (by unfold maxLen; omega) (by omega) (Nat.zero_le _) (w6.heap.size + 1) (by simp) ?_; intro g cap w7 hown7 hgrow hat hlt7; have hc1 : w7.cell? ⟨p, 2, none⟩ = some (.slice ao (q.L.length - k) c) := (hgrow.cell_far ⟨p, 2, none⟩ (by simp; omega) (fun h => hne h.symm)).trans ((World.cell?_alloc_past _ _ _ hpw).trans c2); have hf1 : w7.frozen? ⟨p, 2, none⟩ = false := (hgrow.frozen_far ⟨p, 2, none⟩ (by simp; omega) (fun h => hne h.symm)).trans ((World.frozen?_alloc_past _ _ _ hpw).trans f2)))
              all_goals
                have M5 := Lib.hid (HQ6.out.placed HB6.out HPB1.out HG6.out.fr.own HVA.out (((Turns.refl (fun _ => False) w6).alloc _).drew) (q1 := qk q k) (x := ⟨xn, xs, xt, xk⟩) (g := g) (cap := cap) (by rw [show (qk q k).L.length = q.L.length - k from List.length_drop]; exact hown7) hgrow (by rcases hat with h | h; exact .inl h; exact .inr (by omega)))
                rw [show (qk q k).L.length = q.L.length - k from List.length_drop] at M5
                go_wp2_with fail
                go_meet
                case rel => exact ⟨_, _, M5.out⟩
            case rest =>
              obtain ⟨g, cap, hp⟩ := hcut
              have HPL := Lib.hid hp
              clear c2 f2 hne hpw hown hi hz0 hz1 hz2 x0 x1 x2 x3
              have e1 : putQ q y = ⟨q.frames, q.most, q.L.drop k ++ [y], false⟩ := by
                unfold putQ
                rw [HB.out, if_neg (by simp), HBK.out, if_neg (by simp), HK.out]
              have hok : Q.ok ⟨(qk q k).frames, (qk q k).most, (qk q k).L ++ [⟨xn, xs, xt, xk⟩], false⟩ := by
                have := putQ_ok HQ.out.ok (x := y)
                rw [e1, HY.out] at this
                exact this
              have e2 : putD q y = q.L.take k := by unfold putD; rw [HB.out, if_neg (by simp), HK.out]
              have e3 : putOk q y = true := by unfold putOk; rw [HB.out, HBK.out]; rfl
              have HE := Lib.hid (And.intro e1 (And.intro e2 (And.intro e3 hok)))
              have c3 := hp.blk.cell 3
              have f3 := hp.blk.free 3
              have c4 := hp.blk.cell 4
              have f4 := hp.blk.free 4
              have x1 : wc.cell? ⟨pb, 1, none⟩ = some (.int .i64 xs) := hp.box.cell 1
              have hSD := HSD.out
              rw [show (qk q k).L = q.L.drop k from rfl, hSD] at c3
              have d3 : ¬ q.most < sd + xs := by
                have := HF.out
                unfold full at this
                rw [HY1.out.1, hSD] at this
                simp at this
                omega
              have b1 : sd + xs ≤ 16777216 := by omega
              have hpl := hp.blk.lt
              clear hp e1 e2 e3 hok hSD d3
              go_wp2_with fail
              go_region
              all_goals
                go_wp2
                go_ret2
                have hfin := HPL.out.fin (((Turns.refl (· = p) _).setCell (p := ⟨p, 3, none⟩) (.inl rfl) (.int .i64 (sd + xs))).drew.setCell (p := ⟨p, 4, none⟩) (.inl rfl) (.bool false)) (by
                  have h := (HPL.out.blk.set 3 (.int .i64 (sd + xs))).drew.set 4 (.bool false)
                  rw [show (qk q k).L = q.L.drop k from rfl, HSD.out]
                  exact h) HE.out.2.2.2
                rw [← HY.out]
                refine ⟨.slice ao7 k c7, by rw [HE.out.2.2.1]; rfl, ⟨⟨by rw [HE.out.2.1]; exact hfin.1, fun g hg => Nat.le_trans HNX.out.size (HG6.out.fr.vb g hg)⟩, ⟨_, by rw [HE.out.1, HY.out]; exact hfin.2.1, ?_⟩, ?_⟩⟩
                · rcases HPL.out.loc with e | e
                  · left; show some g = pv.ownBlock; rw [← HE1.out, e]
                  · right; exact ⟨g, rfl, by have := HNX.out.size; have := HG6.out.turns.size; omega⟩
                · exact (HNX.out.mono (fun _ _ h => h.elim)).trans ((HG6.out.turns.trans (hfin.2.2.mono (fun i _ hi => .inl (by rcases hi with hi | hi; exact .inl hi; exact .inr (HE1.out ▸ hi))))).mono (fun _ _ h => .inl h))
end Go.Proofs.YtcppibjllaablaaGreat.que

/-
  egress.Out in memory: flows, each with its queue; the schedule; what a call on a part leaves of the rest.
-/
namespace Go.Proofs.YtcppibjllaablaaGreat.egr
open Go.RowKit mem Go.Maps
set_option linter.unusedVariables false

abbrev OB : TypeId := 98
abbrev GB : TypeId := 107
abbrev MT : TypeId := 95
abbrev New (w w' : World) : Prop := Turns (fun _ => False) w w'
theorem zeroP (w : World) : (zeroValue 102).run Tryz.prog w = .ok (.pointer none) w := by kernel_rfl

/-- a flow: its number, the block that holds it, is it of pictures, its queue -/
structure Ef where
  id : Int
  fb : Nat
  video : Bool
  qb : Nat
  pv : Value
  q : que.Q
structure Eo where
  frames : Int
  bytes : Int
  age : Int
  most : Int
  guard : Int
  credit : Int
  row : Int
  L : List Ef
  s : drr.Sc
/-- where an outlet lies -/
structure Ad where
  o : Nat
  mb : Nat
  sp : Nat
  smb : Nat
def fnd (L : List Ef) (id : Int) : Option Ef := L.find? (fun f => f.id == id)
theorem fnd_some {L : List Ef} {id : Int} {f : Ef} (h : fnd L id = some f) : f ∈ L ∧ f.id = id := by
  refine ⟨List.mem_of_find?_eq_some h, ?_⟩
  have := List.find?_some h
  simpa using this
theorem fnd_none {L : List Ef} {id : Int} (h : fnd L id = none) : ∀ f ∈ L, f.id ≠ id := fun f hf e => by
  have := List.find?_eq_none.1 h f hf
  simp [e] at this
/-- nothing in common -/
def Apart (f g : Ef) : Prop := f.id ≠ g.id ∧ f.fb ≠ g.fb ∧ f.qb ≠ g.qb ∧ ∀ x, f.pv.ownBlock = some x → g.pv.ownBlock ≠ some x
theorem Apart.symm {f g : Ef} (h : Apart f g) : Apart g f := ⟨fun e => h.1 e.symm, fun e => h.2.1 e.symm, fun e => h.2.2.1 e.symm, fun x e1 e2 => h.2.2.2 x e2 e1⟩
def Ap (L : List Ef) : Prop := L.Pairwise Apart
theorem Ap.two {L : List Ef} (h : Ap L) : ∀ {f g : Ef}, f ∈ L → g ∈ L → f = g ∨ Apart f g := by
  induction L with
  | nil => intro f g hf; cases hf
  | cons x l ih =>
    have hp := List.pairwise_cons.1 h
    intro f g hf hg
    rcases List.mem_cons.1 hf with hf | hf <;> rcases List.mem_cons.1 hg with hg | hg
    · exact .inl (by rw [hf, hg])
    · rw [hf]; exact .inr (hp.1 g hg)
    · rw [hg]; exact .inr (hp.1 f hf).symm
    · exact ih hp.2 hf hg
theorem Ap.fnd {L : List Ef} (h : Ap L) {f : Ef} (hf : f ∈ L) : fnd L f.id = some f := by
  unfold egr.fnd
  cases hx : L.find? (fun g => g.id == f.id) with
  | none =>
    have := List.find?_eq_none.1 hx f hf
    simp at this
  | some g =>
    obtain ⟨h1, h2⟩ := fnd_some (L := L) (id := f.id) hx
    rcases h.two h1 hf with e | e
    · rw [e]
    · exact absurd h2 e.1
abbrev cells (e : Eo) (A : Ad) : Array Value := #[.int .i64 e.frames, .int .i64 e.bytes, .int .i64 e.age, .int .i64 e.most, .int .i64 e.guard, .map (some A.mb), .pointer (some ⟨A.sp, 0, none⟩), .int .i64 e.credit, .int .i64 e.row]
abbrev fcells (f : Ef) : Array Value := #[.pointer (some ⟨f.qb, 0, none⟩), .bool f.video]
/-- the map of the flows -/
structure Rd (D : DataW Unit) (L : List Ef) : Prop where
  has : ∀ id, has D (.int .i64 id) = (fnd L id).isSome
  at_ : ∀ f ∈ L, ∀ z, D.atKey (.int .i64 f.id) z = .lit (.int .i64 (f.fb : Int))
structure Cf (e : Eo) : Prop where
  f0 : 1 ≤ e.frames
  f1 : e.frames ≤ 1024
  b0 : 1 ≤ e.bytes
  b1 : e.bytes ≤ 16777216
  a0 : 1 ≤ e.age
  a1 : e.age ≤ 1099511627776
  m0 : 1 ≤ e.most
  m1 : e.most ≤ 16777216
  g0 : 1 ≤ e.guard
  g1 : e.guard ≤ 1024
  c0 : 0 ≤ e.credit
  c1 : e.credit ≤ 1099511627776
/-- what a flow's queue keeps -/
structure Fq (e : Eo) (f : Ef) : Prop where
  fr : f.q.frames = e.frames
  mo : f.q.most = e.bytes
  sz : ∀ x ∈ f.q.L, x.size ≤ e.most
structure Es (w : World) (A : Ad) (k : Nat) (e : Eo) : Prop where
  blk : Blk w A.o (cells e A) OB
  map : ∃ c D, c ≤ k ∧ w.ownsMap Tryz.prog 3 drr.ptrE A.mb c D ∧ Rd D e.L
  fb : ∀ f ∈ e.L, Blk w f.fb (fcells f) GB
  qs : ∀ f ∈ e.L, que.Qs w f.qb f.pv f.q
  sch : ∃ c D, c ≤ k ∧ drr.Ss w A.sp A.smb c D e.s
  ap : Ap e.L
  mm : A.mb ≠ A.smb
  rg : ∀ f ∈ e.L, -9223372036854775808 ≤ f.id ∧ f.id ≤ 9223372036854775807
  cf : Cf e
  fq : ∀ f ∈ e.L, Fq e f
  sm : e.s.most = e.most
  vs : ∀ id, (∃ f ∈ e.s.L, f.id = id) ↔ ∃ f ∈ e.L, f.id = id ∧ f.video = true

/-! ### blocks of other types are other blocks -/
theorem blk_ne {w : World} {p r : Nat} {cs ds : Array Value} {T U : TypeId} (h : Blk w p cs T) (k : Blk w r ds U) (hT : T ≠ U) : p ≠ r := by
  rintro rfl
  unfold Blk at h k
  rw [h] at k
  injection k with k
  injection k with _ k
  exact hT k
theorem own_ne {α : Type} {E : Enc α} {w : World} {r : Nat} {v : Value} {l : List α} {ds : Array Value} {T U : TypeId} (h : Owns E T w v l) (k : Blk w r ds U) (hT : T ≠ U) : v.ownBlock ≠ some r := by
  intro e
  rcases h.2 with ⟨rfl, _⟩ | ⟨g, cap, cur, rfl, _, hb, _⟩
  · simp [Value.ownBlock] at e
  · have : g = r := by simpa [Value.ownBlock] using e
    subst this
    unfold Blk at k
    rw [hb] at k
    injection k with k
    injection k with _ k
    exact hT k
section
variable {w w' : World} {A : Ad} {k : Nat} {e : Eo} (h : Es w A k e)
include h
theorem Es.lt : A.o < w.heap.size := h.blk.lt
theorem Es.later (n : New w w') : Es w' A k e := by
  obtain ⟨c, D, hc, hm, hr⟩ := h.map
  obtain ⟨c2, D2, hc2, hs⟩ := h.sch
  exact ⟨n.blk h.blk (fun h => h), ⟨c, D, hc, ownsMap_turns hm n (fun h => h), hr⟩, fun f hf => n.blk (h.fb f hf) (fun h => h), fun f hf => (h.qs f hf).later n, ⟨c2, D2, hc2, hs.later n⟩, h.ap, h.mm, h.rg, h.cf, h.fq, h.sm, h.vs⟩
theorem Es.more {k' : Nat} (hk : k ≤ k') : Es w A k' e := by
  obtain ⟨c, D, hc, hm, hr⟩ := h.map
  obtain ⟨c2, D2, hc2, hs⟩ := h.sch
  exact ⟨h.blk, ⟨c, D, by omega, hm, hr⟩, h.fb, h.qs, ⟨c2, D2, by omega, hs⟩, h.ap, h.mm, h.rg, h.cf, h.fq, h.sm, h.vs⟩
/-- the outlet's own cells turn -/
theorem Es.self {e' : Eo} (t : Turns (· = A.o) w w') (hb : Blk w' A.o (cells e' A) OB) (hL : e'.L = e.L) (hs : e'.s = e.s) (hm : e'.most = e.most) (hf : e'.frames = e.frames) (hby : e'.bytes = e.bytes) (cf : Cf e') : Es w' A k e' := by
  obtain ⟨c, D, hc, hmp, hr⟩ := h.map
  obtain ⟨c2, D2, hc2, hss⟩ := h.sch
  refine ⟨hb, ⟨c, D, hc, ownsMap_turns hmp t (ownsMap_ne hmp h.blk), by rw [hL]; exact hr⟩, fun f hf => ?_, fun f hf => ?_, ⟨c2, D2, hc2, ?_⟩, by rw [hL]; exact h.ap, h.mm, by rw [hL]; exact h.rg, cf, fun f hf' => ?_, by rw [hs, hm]; exact h.sm, by rw [hs, hL]; exact h.vs⟩
  · rw [hL] at hf
    exact t.blk (h.fb f hf) (fun e2 => blk_ne (h.fb f hf) h.blk (by decide) e2)
  · rw [hL] at hf
    exact (h.qs f hf).turns t (fun e2 => blk_ne (h.qs f hf).blk h.blk (by decide) e2) (fun g hg e2 => own_ne (h.qs f hf).own h.blk (by decide) (by rw [hg, e2]))
  · rw [hs]
    exact hss.turns t (fun e2 => blk_ne hss.blk h.blk (by decide) e2) (ownsMap_ne hss.map h.blk) (fun f hf e2 => blk_ne (hss.fb f hf) h.blk (by decide) e2)
  · rw [hL] at hf'
    have := h.fq f hf'
    exact ⟨this.fr.trans hf.symm, this.mo.trans hby.symm, by rw [hm]; exact this.sz⟩
/-- the schedule turns -/
theorem Es.sched {s' : drr.Sc} (hl : ∀ c D, drr.Ss w A.sp A.smb c D e.s → drr.Ss w' A.sp A.smb c D s' ∧ Turns (drr.Foot A.sp A.smb e.s) w w') (sim : drr.Sim e.s s') : Es w' A k ⟨e.frames, e.bytes, e.age, e.most, e.guard, e.credit, e.row, e.L, s'⟩ := by
  obtain ⟨c, D, hc, hmp, hr⟩ := h.map
  obtain ⟨c2, D2, hc2, hss⟩ := h.sch
  obtain ⟨hs', t⟩ := hl c2 D2 hss
  have off : ∀ {r : Nat} {cs : Array Value} {T : TypeId}, Blk w r cs T → T ≠ 174 → T ≠ 178 → ¬ drr.Foot A.sp A.smb e.s r := fun hb h1 h2 hk => by
    rcases hk with e2 | e2 | ⟨f, hf, e2⟩
    · exact blk_ne hb hss.blk h1 e2
    · exact ownsMap_ne hss.map hb e2.symm
    · exact blk_ne hb (hss.fb f hf) h2 e2.symm
  refine ⟨t.blk h.blk (off h.blk (by decide) (by decide)), ⟨c, D, hc, ownsMap_turns hmp t (fun hk => ?_), hr⟩, fun f hf => t.blk (h.fb f hf) (off (h.fb f hf) (by decide) (by decide)), fun f hf => (h.qs f hf).turns t (off (h.qs f hf).blk (by decide) (by decide)) (fun g hg hk => ?_), ⟨c2, D2, hc2, hs'⟩, h.ap, h.mm, h.rg, ⟨h.cf.f0, h.cf.f1, h.cf.b0, h.cf.b1, h.cf.a0, h.cf.a1, h.cf.m0, h.cf.m1, h.cf.g0, h.cf.g1, h.cf.c0, h.cf.c1⟩, fun f hf => ⟨(h.fq f hf).fr, (h.fq f hf).mo, (h.fq f hf).sz⟩, sim.1.trans h.sm, fun id => ?_⟩
  · rcases hk with e2 | e2 | ⟨f, hf, e2⟩
    · exact ownsMap_ne hmp hss.blk e2
    · exact h.mm e2
    · exact ownsMap_ne hmp (hss.fb f hf) e2.symm
  · rcases hk with e2 | e2 | ⟨f', hf', e2⟩
    · exact own_ne (h.qs f hf).own hss.blk (by decide) (by rw [hg, e2])
    · exact ownsMap_ne_row hss.map (h.qs f hf).own g hg e2.symm
    · exact own_ne (h.qs f hf).own (hss.fb f' hf') (by decide) (by rw [hg, e2])
  · rw [← h.vs id]
    obtain ⟨_, F, e2⟩ := sim
    constructor
    · rintro ⟨f, hf, hid⟩
      rw [show (Eo.s ⟨e.frames, e.bytes, e.age, e.most, e.guard, e.credit, e.row, e.L, s'⟩) = s' from rfl, e2] at hf
      obtain ⟨f', hf', rfl⟩ := drr.upd_mem hf
      exact ⟨f', hf', hid⟩
    · rintro ⟨f, hf, hid⟩
      show ∃ f ∈ s'.L, _
      rw [e2]
      exact ⟨_, drr.upd_mem' hf, hid⟩
end
/-- a flow's queue anew -/
def setQ (L : List Ef) (id : Int) (pv : Value) (q : que.Q) : List Ef := L.map (fun g => if g.id = id then ⟨g.id, g.fb, g.video, g.qb, pv, q⟩ else g)
theorem setQ_mem {L : List Ef} {id : Int} {pv : Value} {q : que.Q} {g : Ef} (h : g ∈ setQ L id pv q) : ∃ f ∈ L, g = if f.id = id then ⟨f.id, f.fb, f.video, f.qb, pv, q⟩ else f := by
  obtain ⟨f, hf, e⟩ := List.mem_map.1 h
  exact ⟨f, hf, e.symm⟩
theorem fnd_setQ (L : List Ef) (id x : Int) (pv : Value) (q : que.Q) : (fnd (setQ L id pv q) x).isSome = (fnd L x).isSome := by
  unfold fnd setQ
  induction L with
  | nil => rfl
  | cons f l ih =>
    rw [List.map_cons, List.find?_cons, List.find?_cons]
    have e : ((if f.id = id then (⟨f.id, f.fb, f.video, f.qb, pv, q⟩ : Ef) else f).id == x) = (f.id == x) := by split <;> rfl
    rw [e]
    split
    · rfl
    · exact ih
/-- a call on a flow's queue -/
theorem Es.queue {w w' : World} {A : Ad} {k : Nat} {e : Eo} (h : Es w A k e) {f : Ef} (hf : f ∈ e.L) {q' : que.Q} (hl : que.Lft w w' f.qb f.pv q') (hfr : q'.frames = f.q.frames) (hmo : q'.most = f.q.most) (hsz : ∀ x ∈ q'.L, x.size ≤ e.most) :
    ∃ pv', (pv'.ownBlock = f.pv.ownBlock ∨ ∃ g, pv'.ownBlock = some g ∧ w.heap.size ≤ g) ∧ Es w' A k ⟨e.frames, e.bytes, e.age, e.most, e.guard, e.credit, e.row, setQ e.L f.id pv' q', e.s⟩ := by
  obtain ⟨c, D, hc, hmp, hr⟩ := h.map
  obtain ⟨c2, D2, hc2, hss⟩ := h.sch
  obtain ⟨⟨pv', hq', hloc⟩, t⟩ := hl
  have hqf := h.qs f hf
  have off : ∀ {r : Nat} {cs : Array Value} {T : TypeId}, Blk w r cs T → T ≠ 170 → T ≠ 67 → ¬ que.Foot f.qb f.pv r := fun hb h1 h2 hk => by
    rcases hk with e2 | e2
    · exact blk_ne hb hqf.blk h1 e2
    · exact own_ne hqf.own hb (fun e3 => h2 e3.symm) e2
  have same : ∀ g ∈ e.L, g.id = f.id → g = f := fun g hg e2 => by
    rcases h.ap.two hg hf with e3 | e3
    · exact e3
    · exact absurd e2 e3.1
  have part : ∀ g ∈ e.L, g.id ≠ f.id → Apart g f := fun g hg e2 => by
    rcases h.ap.two hg hf with e3 | e3
    · exact absurd (by rw [e3]) e2
    · exact e3
  refine ⟨pv', hloc, t.blk h.blk (off h.blk (by decide) (by decide)), ⟨c, D, hc, ownsMap_turns hmp t (fun hk => ?_), ⟨fun id => by rw [hr.has id]; exact (fnd_setQ _ _ _ _ _).symm, fun g hg z => ?_⟩⟩, fun g hg => ?_, fun g hg => ?_, ⟨c2, D2, hc2, hss.turns t (off hss.blk (by decide) (by decide)) (fun hk => ?_) (fun g hg => off (hss.fb g hg) (by decide) (by decide))⟩, ?_, h.mm, fun g hg => ?_, ⟨h.cf.f0, h.cf.f1, h.cf.b0, h.cf.b1, h.cf.a0, h.cf.a1, h.cf.m0, h.cf.m1, h.cf.g0, h.cf.g1, h.cf.c0, h.cf.c1⟩, fun g hg => ?_, h.sm, fun id => ?_⟩
  · rcases hk with e2 | e2
    · exact ownsMap_ne hmp hqf.blk e2
    · exact ownsMap_ne_row hmp hqf.own _ e2 rfl
  · obtain ⟨g', hg', rfl⟩ := setQ_mem hg
    by_cases e2 : g'.id = f.id
    · rw [if_pos e2]; exact hr.at_ g' hg' z
    · rw [if_neg e2]; exact hr.at_ g' hg' z
  · obtain ⟨g', hg', rfl⟩ := setQ_mem hg
    have := t.blk (h.fb g' hg') (off (h.fb g' hg') (by decide) (by decide))
    by_cases e2 : g'.id = f.id
    · rw [if_pos e2]; exact this
    · rw [if_neg e2]; exact this
  · obtain ⟨g', hg', rfl⟩ := setQ_mem hg
    by_cases e2 : g'.id = f.id
    · rw [if_pos e2]
      have := same g' hg' e2
      subst this
      exact hq'
    · rw [if_neg e2]
      have hp := part g' hg' e2
      refine (h.qs g' hg').turns t (fun hk => ?_) (fun x hx hk => ?_)
      · rcases hk with e3 | e3
        · exact hp.2.2.1 e3
        · exact own_ne hqf.own (h.qs g' hg').blk (by decide) e3
      · rcases hk with e3 | e3
        · exact own_ne (h.qs g' hg').own hqf.blk (by decide) (by rw [hx, e3])
        · exact hp.2.2.2 x hx e3
  · rcases hk with e2 | e2
    · exact ownsMap_ne hss.map hqf.blk e2
    · exact ownsMap_ne_row hss.map hqf.own _ e2 rfl
  · show (e.L.map _).Pairwise _
    rw [List.pairwise_map]
    have hmem : e.L.Pairwise (fun a b => (a ∈ e.L ∧ b ∈ e.L) ∧ Apart a b) := by
      have := List.Pairwise.and_mem.1 h.ap
      exact this.imp (fun hx => ⟨⟨hx.1, hx.2.1⟩, hx.2.2⟩)
    refine hmem.imp (fun {a b} hab => ?_)
    obtain ⟨⟨ha, hb⟩, hp⟩ := hab
    have fresh : ∀ g ∈ e.L, g.id ≠ f.id → ∀ x, g.pv.ownBlock = some x → pv'.ownBlock ≠ some x := fun g hg hne x hx hx' => by
      rcases hloc with e3 | ⟨y, e3, hy⟩
      · exact (part g hg hne).2.2.2 x hx (by rw [← e3]; exact hx')
      · rw [e3] at hx'; injection hx' with hx'
        have := (h.qs g hg).own.lt x hx
        omega
    by_cases e1 : a.id = f.id
    · have e2 : ¬ b.id = f.id := fun e2 => hp.1 (by rw [e1, e2])
      rw [if_pos e1, if_neg e2]
      exact ⟨hp.1, hp.2.1, hp.2.2.1, fun x hx hx' => fresh b hb e2 x hx' hx⟩
    · by_cases e2 : b.id = f.id
      · rw [if_neg e1, if_pos e2]
        exact ⟨hp.1, hp.2.1, hp.2.2.1, fun x hx hx' => fresh a ha e1 x hx hx'⟩
      · rw [if_neg e1, if_neg e2]; exact hp
  · obtain ⟨g', hg', rfl⟩ := setQ_mem hg
    by_cases e2 : g'.id = f.id
    · rw [if_pos e2]; exact h.rg g' hg'
    · rw [if_neg e2]; exact h.rg g' hg'
  · obtain ⟨g', hg', rfl⟩ := setQ_mem hg
    by_cases e2 : g'.id = f.id
    · rw [if_pos e2]
      have := h.fq f hf
      exact ⟨hfr.trans this.fr, hmo.trans this.mo, hsz⟩
    · rw [if_neg e2]
      have := h.fq g' hg'
      exact ⟨this.fr, this.mo, this.sz⟩
  · rw [h.vs id]
    constructor
    · rintro ⟨g, hg, hid, hv⟩
      refine ⟨_, List.mem_map.2 ⟨g, hg, rfl⟩, ?_, ?_⟩
      · split <;> exact hid
      · split <;> exact hv
    · rintro ⟨g, hg, hid, hv⟩
      obtain ⟨g', hg', rfl⟩ := setQ_mem hg
      refine ⟨g', hg', ?_, ?_⟩
      · split at hid <;> exact hid
      · split at hv <;> exact hv
end Go.Proofs.YtcppibjllaablaaGreat.egr

/-
  egress.Out: Check, New, Credit, Broken, Spend.
-/
namespace Go.Proofs.YtcppibjllaablaaGreat.egr
open Go.RowKit mem Go.Maps
set_option linter.unusedVariables false

abbrev CT : TypeId := 36
def Va (a b c d g : Int) : Prop := (1 ≤ a ∧ a ≤ 1024) ∧ (1 ≤ b ∧ b ≤ 16777216) ∧ (1 ≤ c ∧ c ≤ 1099511627776) ∧ (1 ≤ d ∧ d ≤ 16777216) ∧ (1 ≤ g ∧ g ≤ 1024)
theorem five {w : World} {p : Nat} {a b c d e : Value} {T : TypeId} (h : Blk w p #[a, b, c, d, e] T) :
    w.cell? ⟨p, 0, none⟩ = some a ∧ w.cell? ⟨p, 1, none⟩ = some b ∧ w.cell? ⟨p, 2, none⟩ = some c ∧ w.cell? ⟨p, 3, none⟩ = some d ∧ w.cell? ⟨p, 4, none⟩ = some e := ⟨h.cell 0, h.cell 1, h.cell 2, h.cell 3, h.cell 4⟩
theorem nine {w : World} {p : Nat} {a b c d e f g h i : Value} {T : TypeId} (k : Blk w p #[a, b, c, d, e, f, g, h, i] T) :
    (w.cell? ⟨p, 0, none⟩ = some a ∧ w.cell? ⟨p, 1, none⟩ = some b ∧ w.cell? ⟨p, 2, none⟩ = some c ∧ w.cell? ⟨p, 3, none⟩ = some d ∧ w.cell? ⟨p, 4, none⟩ = some e ∧ w.cell? ⟨p, 5, none⟩ = some f ∧ w.cell? ⟨p, 6, none⟩ = some g ∧ w.cell? ⟨p, 7, none⟩ = some h ∧ w.cell? ⟨p, 8, none⟩ = some i)
    ∧ w.frozen? ⟨p, 7, none⟩ = false ∧ w.frozen? ⟨p, 8, none⟩ = false :=
  ⟨⟨k.cell 0, k.cell 1, k.cell 2, k.cell 3, k.cell 4, k.cell 5, k.cell 6, k.cell 7, k.cell 8⟩, k.free 7, k.free 8⟩
abbrev cfg (a b c d g : Int) : Array Value := #[.int .i64 a, .int .i64 b, .int .i64 c, .int .i64 d, .int .i64 g]
set_option maxRecDepth 10000 in
set_option maxHeartbeats 2000000 in
theorem check_bad (a b c d g : Int) (w : World) (h : ¬ Va a b c d g) :
    Calls Tryz.prog 35 #[.agg (cfg a b c d g)] w fun e w' => e = .returned (.int .i64 5) ∧ New w w' := by
  have hb : Blk (w.alloc (.cells (cfg a b c d g) CT)) w.heap.size (cfg a b c d g) CT := Blk.new _ _ _
  obtain ⟨c0, c1, c2, c3, c4⟩ := five hb
  have HN : Hid (New w (w.alloc (.cells (cfg a b c d g) CT))) := Lib.hid ((Turns.refl _ _).alloc _)
  clear hb
  go_enter Tryz.func35, Tryz.ntmps35
  by_cases l0 : a < 1
  · have dl0 : decide (a < 1) = true := decide_eq_true l0
    clear h l0
    go_wp2
    go_ret
    exact ⟨rfl, HN.out⟩
  · have dl0 : decide (a < 1) = false := decide_eq_false l0
    by_cases u0 : 1024 < a
    · have du0 : decide (1024 < a) = true := decide_eq_true u0
      clear h u0
      go_wp2
      go_ret
      exact ⟨rfl, HN.out⟩
    · have du0 : decide (1024 < a) = false := decide_eq_false u0
      by_cases l1 : b < 1
      · have dl1 : decide (b < 1) = true := decide_eq_true l1
        clear h l1
        go_wp2
        go_ret
        exact ⟨rfl, HN.out⟩
      · have dl1 : decide (b < 1) = false := decide_eq_false l1
        by_cases u1 : 16777216 < b
        · have du1 : decide (16777216 < b) = true := decide_eq_true u1
          clear h u1
          go_wp2
          go_ret
          exact ⟨rfl, HN.out⟩
        · have du1 : decide (16777216 < b) = false := decide_eq_false u1
          by_cases l2 : c < 1
          · have dl2 : decide (c < 1) = true := decide_eq_true l2
            clear h l2
            go_wp2
            go_ret
            exact ⟨rfl, HN.out⟩
          · have dl2 : decide (c < 1) = false := decide_eq_false l2
            by_cases u2 : 1099511627776 < c
            · have du2 : decide (1099511627776 < c) = true := decide_eq_true u2
              clear h u2
              go_wp2
              go_ret
              exact ⟨rfl, HN.out⟩
            · have du2 : decide (1099511627776 < c) = false := decide_eq_false u2
              by_cases l3 : d < 1
              · have dl3 : decide (d < 1) = true := decide_eq_true l3
                clear h l3
                go_wp2
                go_ret
                exact ⟨rfl, HN.out⟩
              · have dl3 : decide (d < 1) = false := decide_eq_false l3
                by_cases u3 : 16777216 < d
                · have du3 : decide (16777216 < d) = true := decide_eq_true u3
                  clear h u3
                  go_wp2
                  go_ret
                  exact ⟨rfl, HN.out⟩
                · have du3 : decide (16777216 < d) = false := decide_eq_false u3
                  by_cases l4 : g < 1
                  · have dl4 : decide (g < 1) = true := decide_eq_true l4
                    clear h l4
                    go_wp2
                    go_ret
                    exact ⟨rfl, HN.out⟩
                  · have dl4 : decide (g < 1) = false := decide_eq_false l4
                    by_cases u4 : 1024 < g
                    · have du4 : decide (1024 < g) = true := decide_eq_true u4
                      clear h u4
                      go_wp2
                      go_ret
                      exact ⟨rfl, HN.out⟩
                    · have du4 : decide (1024 < g) = false := decide_eq_false u4
                      exact absurd ⟨⟨by omega, by omega⟩, ⟨by omega, by omega⟩, ⟨by omega, by omega⟩, ⟨by omega, by omega⟩, by omega, by omega⟩ h
set_option maxRecDepth 10000 in
set_option maxHeartbeats 1000000 in
theorem check_ok (a b c d g : Int) (w : World) (h : Va a b c d g) :
    Calls Tryz.prog 35 #[.agg (cfg a b c d g)] w fun e w' => e = .returned (.int .i64 0) ∧ New w w' := by
  have hb : Blk (w.alloc (.cells (cfg a b c d g) CT)) w.heap.size (cfg a b c d g) CT := Blk.new _ _ _
  obtain ⟨c0, c1, c2, c3, c4⟩ := five hb
  have HN : Hid (New w (w.alloc (.cells (cfg a b c d g) CT))) := Lib.hid ((Turns.refl _ _).alloc _)
  obtain ⟨⟨a0, a1⟩, ⟨b0, b1⟩, ⟨x0, x1⟩, ⟨d0, d1⟩, g0, g1⟩ := h
  have dl0 : decide (a < 1) = false := decide_eq_false (by omega)
  have du0 : decide (1024 < a) = false := decide_eq_false (by omega)
  have dl1 : decide (b < 1) = false := decide_eq_false (by omega)
  have du1 : decide (16777216 < b) = false := decide_eq_false (by omega)
  have dl2 : decide (c < 1) = false := decide_eq_false (by omega)
  have du2 : decide (1099511627776 < c) = false := decide_eq_false (by omega)
  have dl3 : decide (d < 1) = false := decide_eq_false (by omega)
  have du3 : decide (16777216 < d) = false := decide_eq_false (by omega)
  have dl4 : decide (g < 1) = false := decide_eq_false (by omega)
  have du4 : decide (1024 < g) = false := decide_eq_false (by omega)
  clear hb a0 a1 b0 b1 x0 x1 d0 d1 g0 g1
  go_enter Tryz.func35, Tryz.ntmps35
  go_wp2
  go_ret
  exact ⟨rfl, HN.out⟩

def fresh (a b c d g : Int) : Eo := ⟨a, b, c, d, g, 0, 0, [], drr.fresh d⟩
structure Made (w w' : World) (A : Ad) (k : Nat) (e : Eo) : Prop where
  es : Es w' A k e
  n : New w w'
  o0 : w.heap.size ≤ A.o
  m0 : w.heap.size ≤ A.mb
  s0 : w.heap.size ≤ A.sp
  t0 : w.heap.size ≤ A.smb
  f0 : ∀ f ∈ e.L, w.heap.size ≤ f.fb ∧ w.heap.size ≤ f.qb ∧ ∀ x, f.pv.ownBlock = some x → w.heap.size ≤ x
  g0 : ∀ f ∈ e.s.L, w.heap.size ≤ f.b
theorem Made.later {w w1 w2 : World} {A : Ad} {k : Nat} {e : Eo} (h : Made w w1 A k e) (n : New w1 w2) : Made w w2 A k e :=
  ⟨h.es.later n, h.n.trans (n.mono (fun _ _ h => h.elim)), h.o0, h.m0, h.s0, h.t0, h.f0, h.g0⟩
set_option maxRecDepth 10000 in
theorem new_bad (a b c d g : Int) (w : World) (h : ¬ Va a b c d g) :
    Calls Tryz.prog 13 #[.agg (cfg a b c d g)] w fun e w' => e = .returned (.tuple #[.pointer none, .int .i64 5]) ∧ New w w' := by
  have hb : Blk (w.alloc (.cells (cfg a b c d g) CT)) w.heap.size (cfg a b c d g) CT := Blk.new _ _ _
  obtain ⟨c0, c1, c2, c3, c4⟩ := five hb
  have HC := Lib.hid (check_bad a b c d g (w.alloc (.cells (cfg a b c d g) CT)) h)
  have HN : Hid (New w (w.alloc (.cells (cfg a b c d g) CT))) := Lib.hid ((Turns.refl _ _).alloc _)
  clear hb h
  go_enter Tryz.func13, Tryz.ntmps13
  go_wp2_with fail
  refine HC.out.mono ?_
  rintro e w1 ⟨rfl, n1⟩
  have HN1 : Hid (New w w1) := Lib.hid (HN.out.trans (n1.mono (fun _ _ h => h.elim)))
  clear n1
  go_wp2
  go_ret2
  exact ⟨rfl, HN1.out⟩
set_option maxRecDepth 10000 in
set_option maxHeartbeats 1000000 in
theorem new_ok (a b c d g : Int) (w : World) (h : Va a b c d g) :
    Calls Tryz.prog 13 #[.agg (cfg a b c d g)] w fun e w' => ∃ A : Ad, e = .returned (.tuple #[.pointer (some ⟨A.o, 0, none⟩), .int .i64 0]) ∧ Made w w' A 0 (fresh a b c d g) := by
  have hmm := @run_makeMap Tryz.prog
  have hb : Blk (w.alloc (.cells (cfg a b c d g) CT)) w.heap.size (cfg a b c d g) CT := Blk.new _ _ _
  obtain ⟨c0, c1, c2, c3, c4⟩ := five hb
  have HB := Lib.hid hb
  have HC := Lib.hid (check_ok a b c d g (w.alloc (.cells (cfg a b c d g) CT)) h)
  have HN : Hid (New w (w.alloc (.cells (cfg a b c d g) CT))) := Lib.hid ((Turns.refl _ _).alloc _)
  have HV := Lib.hid h
  have HD := Lib.hid (fun W => drr.new_ok d W h.2.2.2.1.1 h.2.2.2.1.2)
  clear hb h
  go_enter Tryz.func13, Tryz.ntmps13
  go_wp2_with fail
  refine HC.out.mono ?_
  rintro e w1 ⟨rfl, n1⟩
  have HN1 : Hid (New w w1) := Lib.hid (HN.out.trans (n1.mono (fun _ _ h => h.elim)))
  have hb1 := n1.blk HB.out (fun h => h)
  have HB1 := Lib.hid hb1
  clear c0 c1 c2 c3 c4 n1 HC
  obtain ⟨c0, c1, c2, c3, c4⟩ := five hb1
  clear hb1 HB
  go_wp2_with fail
  refine (HD.out _).mono ?_
  rintro e w2 ⟨sp, rfl, hs, n2, hsp⟩
  have hb2 := n2.blk HB1.out (fun h => h)
  have HS := Lib.hid hs
  have HN2 : Hid (New w w2) := Lib.hid (HN1.out.trans (n2.mono (fun _ _ h => h.elim)))
  have HW1 : Hid (w.heap.size ≤ w1.heap.size ∧ w1.heap.size ≤ sp) := Lib.hid ⟨HN1.out.size, hsp⟩
  clear c0 c1 c2 c3 c4 n2 hs hsp
  obtain ⟨c0, c1, c2, c3, c4⟩ := five hb2
  clear hb2 HB1 HD
  generalize w1.heap.size = smb at *
  go_wp2
  go_ret2
  have e1 : (w2.alloc (.map #[] 0)).heap.size = w2.heap.size + 1 := by unfold World.alloc; exact Array.size_push _
  have hbo := Blk.new (w2.alloc (.map #[] 0)) (cells (fresh a b c d g) ⟨w2.heap.size + 1, w2.heap.size, sp, smb⟩) OB
  rw [e1] at hbo
  have k1 : New w2 ((w2.alloc (.map #[] 0)).alloc (.cells (cells (fresh a b c d g) ⟨w2.heap.size + 1, w2.heap.size, sp, smb⟩) OB)) := ((Turns.refl _ _).alloc _).alloc _
  have hml := HS.out.mlt
  have hn2 := HN2.out.size
  have hv := HV.out
  refine ⟨⟨w2.heap.size + 1, w2.heap.size, sp, smb⟩, rfl, ⟨hbo, ⟨0, .map [], Nat.le_refl _, (World.ownsMap_made _ _ _ _).alloc _, ⟨(fun id => rfl), (fun f hf => by cases hf)⟩⟩, (fun f hf => by cases hf), (fun f hf => by cases hf), ⟨0, .map [], Nat.le_refl _, HS.out.later k1⟩, List.Pairwise.nil, (by show w2.heap.size ≠ smb; omega), (fun f hf => by cases hf), ⟨hv.1.1, hv.1.2, hv.2.1.1, hv.2.1.2, hv.2.2.1.1, hv.2.2.1.2, hv.2.2.2.1.1, hv.2.2.2.1.2, hv.2.2.2.2.1, hv.2.2.2.2.2, Int.le_refl _, (by show (0 : Int) ≤ _; omega)⟩, (fun f hf => by cases hf), rfl, (fun id => ⟨(fun ⟨f, hf, _⟩ => by cases hf), (fun ⟨f, hf, _⟩ => by cases hf)⟩)⟩, HN2.out.trans (k1.mono (fun _ _ h => h.elim)), (by show w.heap.size ≤ w2.heap.size + 1; omega), hn2, (by have := HW1.out; show w.heap.size ≤ sp; omega), HW1.out.1, (fun f hf => by cases hf), (fun f hf => by cases hf)⟩

section
variable {w : World} {mb c : Nat} {D : DataW Unit} {id : Int}
theorem look_ok_at (h : w.ownsMap Tryz.prog 3 drr.ptrE mb c D) (n0 : -9223372036854775808 ≤ id) (n1 : id ≤ 9223372036854775807) {b : Nat} (hb : ∀ z, D.atKey (.int .i64 id) z = .lit (.int .i64 b)) :
    (Instr.lookup MT (.map (some mb)) (.int .i64 id) true).run Tryz.prog w = .ok (.tuple #[.pointer (some ⟨b, 0, none⟩), .bool true]) w := by
  obtain ⟨v, ps, hrun, hv⟩ := h.look_ok drr.lawI Tryz.underlying95 (zeroP w) (zd := .lit (.int .i64 (-1))) (zp := []) rfl (drr.keyI n0 n1)
  rw [hb] at hv
  rw [drr.ptrE_inv hv, has_true_of_atKey hb] at hrun
  exact hrun
theorem look_ok_none (h : w.ownsMap Tryz.prog 3 drr.ptrE mb c D) (n0 : -9223372036854775808 ≤ id) (n1 : id ≤ 9223372036854775807) (hb : has D (.int .i64 id) = false) :
    (Instr.lookup MT (.map (some mb)) (.int .i64 id) true).run Tryz.prog w = .ok (.tuple #[.pointer none, .bool false]) w := by
  obtain ⟨v, ps, hrun, hv⟩ := h.look_ok drr.lawI Tryz.underlying95 (zeroP w) (zd := .lit (.int .i64 (-1))) (zp := []) rfl (drr.keyI n0 n1)
  rw [atKey_of_not_has hb] at hv
  rw [drr.ptrE_nil hv, hb] at hrun
  exact hrun
end
theorem Es.look {w : World} {A : Ad} {k : Nat} {e : Eo} (h : Es w A k e) {f : Ef} (hf : f ∈ e.L) : (Instr.lookup MT (.map (some A.mb)) (.int .i64 f.id) true).run Tryz.prog w = .ok (.tuple #[.pointer (some ⟨f.fb, 0, none⟩), .bool true]) w := by
  obtain ⟨c, D, _, hm, hr⟩ := h.map
  exact look_ok_at hm (h.rg f hf).1 (h.rg f hf).2 (hr.at_ f hf)
theorem Es.look_none {w : World} {A : Ad} {k : Nat} {e : Eo} (h : Es w A k e) {id : Int} (hf : fnd e.L id = none) (n0 : -9223372036854775808 ≤ id) (n1 : id ≤ 9223372036854775807) : (Instr.lookup MT (.map (some A.mb)) (.int .i64 id) true).run Tryz.prog w = .ok (.tuple #[.pointer none, .bool false]) w := by
  obtain ⟨c, D, _, hm, hr⟩ := h.map
  exact look_ok_none hm n0 n1 (by rw [hr.has id, hf]; rfl)
end Go.Proofs.YtcppibjllaablaaGreat.egr

/-
  egress.named: items of a flow. Grant, Spend.
-/
namespace Go.Proofs.YtcppibjllaablaaGreat.egr
open Go.RowKit mem Go.Maps
set_option linter.unusedVariables false

/-- an item that goes out -/
structure Snt where
  id : Int
  x : que.It
def Snt.cs (s : Snt) : List Value := [.int .i64 s.id, .int .i64 s.x.n, .int .i64 s.x.size, .int .i64 s.x.tick, .bool s.x.key]
def SE : Enc Snt := ⟨5, Snt.cs, fun _ => rfl, fun x u hu => by
  simp [Snt.cs] at hu
  rcases hu with rfl | rfl | rfl | rfl | rfl <;> rfl⟩
abbrev SeT : TypeId := 69
abbrev SlT : TypeId := 55
theorem infoSe : (Tryz.prog.info? SeT).map (fun i => (i.zero, i.size, i.bytes)) = some (some (.agg #[.int .i64 0, .int .i64 0, .int .i64 0, .int .i64 0, .bool false]), 5, 40) := by kernel_rfl
def nam (id : Int) (l : List que.It) : List Snt := l.map (fun x => ⟨id, x⟩)

set_option maxRecDepth 100000 in
set_option maxHeartbeats 2000000 in
theorem named (id : Int) (v : Value) (l : List que.It) (w : World) (h : Owns que.IE que.PT w v l) (hl : l.length ≤ 1048576) :
    Calls Tryz.prog 40 #[.int .i64 id, v] w fun e w' => ∃ u, e = .returned u ∧ Gr SE SeT w w' u (nam id l) := by
  obtain ⟨ao, c, rfl, hlc, hrd, _⟩ := h.form
  have HR := Lib.hid hrd
  have hlm : l.length ≤ maxLen := by unfold maxLen; omega
  clear h hrd
  go_enter Tryz.func40, Tryz.ntmps40
  go_wp2_with fail
  go_loopw [5, 10] (fun v i wr => ∃ k : Nat, k ≤ l.length ∧ i = .int .i64 k ∧ Gr SE SeT w wr v (nam id (l.take k))) (fun _ i _ => l.length - (intOf i).toNat)
  case atStart => exact ⟨0, Nat.zero_le _, rfl, Gr.nil _ _ _ _ (Turns.refl _ _)⟩
  case round =>
    obtain ⟨k, hk, rfl, hgr⟩ := hrel
    have HG := Lib.hid hgr
    clear hgr
    by_cases hlt : k < l.length
    · obtain ⟨x, hx⟩ : ∃ x, l[k]? = some x := ⟨_, List.getElem?_eq_getElem hlt⟩
      obtain ⟨g, rfl, hb, hc⟩ := HR.out.resolve_left (fun e => by rw [e] at hlt; exact absurd hlt (Nat.not_lt_zero _))
      have hcc : ∀ (j : Nat) (y : Value), x.cs[j]? = some y → wr.cell? ⟨g, k * 4 + j, none⟩ = some y := fun j y hy => (HG.out.n.cell (a := ⟨g, k * 4 + j, none⟩) hb (fun h => h)).trans (hc k x hx j y hy)
      have d0 : wr.cell? ⟨g, k * 4, none⟩ = _ := hcc 0 _ rfl
      have d1 := hcc 1 _ rfl
      have d2 := hcc 2 _ rfl
      have d3 := hcc 3 _ rfl
      have HTK : Hid (nam id (l.take (k + 1)) = nam id (l.take k) ++ [⟨id, x⟩]) := Lib.hid (by rw [List.take_add_one, hx]; simp [nam])
      have hlen : (nam id (l.take k)).length ≤ 1048575 := by unfold nam; rw [List.length_map, List.length_take]; omega
      clear hc hx hb hcc
      generalize nam id (l.take k) = S at *
      obtain ⟨xn, xs, xt, xk⟩ := x
      dsimp only at *
      have BP : Hid (Blk (wr.alloc (.cells #[.int .i64 xn, .int .i64 xs, .int .i64 xt, .bool xk] que.PT)) wr.heap.size #[.int .i64 xn, .int .i64 xs, .int .i64 xt, .bool xk] que.PT) := Lib.hid (Blk.new _ _ _)
      have HG2 : Hid (Gr SE SeT w (wr.alloc (.cells #[.int .i64 xn, .int .i64 xs, .int .i64 xt, .bool xk] que.PT)) u5 S) := Lib.hid (HG.out.later ((Turns.refl _ _).alloc _))
      clear HG
      go_upto_region 5 with fail
      refine (show Code.wp _ _ _ _ (wr.alloc (.cells #[.int .i64 xn, .int .i64 xs, .int .i64 xt, .bool xk] que.PT)) from ?_)
      generalize wr.alloc (.cells #[.int .i64 xn, .int .i64 xs, .int .i64 xt, .bool xk] que.PT) = w2 at *
      generalize wr.heap.size = pp at *
      clear d0 d1 d2 d3
      obtain ⟨⟨x0, x1, x2, x3⟩, _⟩ := que.four BP.out
      go_wp2_with (at_builtin; refine wpList_append_one (E := SE) Tryz.underlying55 infoSe rfl (by decide) (by decide) rfl _ _ rfl _ S ⟨id, ⟨xn, xs, xt, xk⟩⟩ rfl (HG2.out.own.turns (S := fun _ => False) ((Turns.refl _ _).alloc _) (fun _ _ h => h)) w2.heap.size rfl (heap_alloc_new w2 _) (by omega) ?_; intro v4 w4 hown4 hgrow4 hat4)
      have HG4 := Lib.hid (HG2.out.push hown4 hgrow4 hat4)
      clear hown4 hgrow4 hat4 HG2 BP x0 x1 x2 x3
      go_roundw
      case rel => exact ⟨k + 1, by omega, by go_num, by rw [HTK.out]; exact HG4.out⟩
      case measure => simp [intOf]; omega
    · obtain rfl : k = l.length := by omega
      rw [List.take_length] at HG
      go_wp2
      go_ret
      exact ⟨u5, rfl, HG.out⟩

set_option maxRecDepth 100000 in
set_option maxHeartbeats 2000000 in
theorem spend (A : Ad) (k : Nat) (e : Eo) (n : Int) (w : World) (h : Es w A k e) (h0 : 0 ≤ n) (h1 : n ≤ e.credit) :
    Calls Tryz.prog 23 #[.pointer (some ⟨A.o, 0, none⟩), .int .i64 n] w fun x w' => x = .returned (.bool true) ∧ Es w' A k ⟨e.frames, e.bytes, e.age, e.most, e.guard, e.credit - n, e.row, e.L, e.s⟩ ∧ Turns (· = A.o) w w' := by
  obtain ⟨⟨c0, c1, c2, c3, c4, c5, c6, c7, c8⟩, f7, f8⟩ := nine h.blk
  have d1 : decide (n < 0) = false := decide_eq_false (by omega)
  have d2 : decide (e.credit < n) = false := decide_eq_false (by omega)
  have k0 := h.cf.c0
  have k1 := h.cf.c1
  have HH := Lib.hid h
  have hb : Blk (w.setCell ⟨A.o, 7, none⟩ (.int .i64 (e.credit - n))) A.o (cells ⟨e.frames, e.bytes, e.age, e.most, e.guard, e.credit - n, e.row, e.L, e.s⟩ A) OB := h.blk.set 7 _
  have HB := Lib.hid hb
  clear h hb
  go_enter Tryz.func23, Tryz.ntmps23
  go_wp2
  go_ret
  have t : Turns (· = A.o) w (w.setCell ⟨A.o, 7, none⟩ (.int .i64 (e.credit - n))) := Turns.setCell (S := (· = A.o)) (Turns.refl _ w) (p := ⟨A.o, 7, none⟩) (.inl rfl) _
  have hc := HH.out.cf
  refine ⟨rfl, HH.out.self t HB.out rfl rfl rfl rfl rfl ⟨hc.f0, hc.f1, hc.b0, hc.b1, hc.a0, hc.a1, hc.m0, hc.m1, hc.g0, hc.g1, ?_, ?_⟩, t⟩
  · show 0 ≤ e.credit - n; omega
  · show e.credit - n ≤ _; omega
theorem spend_no (A : Ad) (k : Nat) (e : Eo) (n : Int) (w : World) (h : Es w A k e) (h0 : n < 0 ∨ e.credit < n) :
    Calls Tryz.prog 23 #[.pointer (some ⟨A.o, 0, none⟩), .int .i64 n] w fun x w' => x = .returned (.bool false) ∧ w' = w := by
  obtain ⟨⟨c0, c1, c2, c3, c4, c5, c6, c7, c8⟩, f7, f8⟩ := nine h.blk
  clear h
  by_cases hn : n < 0
  · have d1 : decide (n < 0) = true := decide_eq_true hn
    clear h0 hn
    go_enter Tryz.func23, Tryz.ntmps23
    go_wp2
    go_ret
    exact ⟨rfl, rfl⟩
  · have d1 : decide (n < 0) = false := decide_eq_false hn
    have d2 : decide (e.credit < n) = true := decide_eq_true (h0.resolve_left hn)
    clear h0 hn
    go_enter Tryz.func23, Tryz.ntmps23
    go_wp2
    go_ret
    exact ⟨rfl, rfl⟩
/-- the credit behind Grant -/
def grantI (c n : Int) : Int := c + min (max n 0) (1099511627776 - c)
set_option maxRecDepth 100000 in
set_option maxHeartbeats 2000000 in
theorem grant (A : Ad) (k : Nat) (e : Eo) (n : Int) (w : World) (h : Es w A k e) (n0 : -9223372036854775808 ≤ n) (n1 : n ≤ 9223372036854775807) :
    Calls Tryz.prog 10 #[.pointer (some ⟨A.o, 0, none⟩), .int .i64 n] w fun x w' => x = .returned (.tuple #[]) ∧ Es w' A k ⟨e.frames, e.bytes, e.age, e.most, e.guard, grantI e.credit n, e.row, e.L, e.s⟩ ∧ Turns (· = A.o) w w' := by
  obtain ⟨⟨c0, c1, c2, c3, c4, c5, c6, c7, c8⟩, f7, f8⟩ := nine h.blk
  have k0 := h.cf.c0
  have k1 := h.cf.c1
  have HH := Lib.hid h
  have s1 : IntKind.i64.wrap (1099511627776 - e.credit) = 1099511627776 - e.credit := IntWalk.i64_in _ (by omega)
  have s2 : IntKind.i64.wrap (e.credit + min (max n 0) (1099511627776 - e.credit)) = grantI e.credit n := IntWalk.i64_in _ (by omega)
  clear h
  go_enter Tryz.func10, Tryz.ntmps10
  go_region
  go_end0
  have hb : Blk ((w.setCell ⟨A.o, 7, none⟩ (.int .i64 (grantI e.credit n))).drew) A.o (cells ⟨e.frames, e.bytes, e.age, e.most, e.guard, grantI e.credit n, e.row, e.L, e.s⟩ A) OB := HH.out.blk.set 7 _
  have t : Turns (· = A.o) w ((w.setCell ⟨A.o, 7, none⟩ (.int .i64 (grantI e.credit n))).drew) := (Turns.setCell (S := (· = A.o)) (Turns.refl _ w) (p := ⟨A.o, 7, none⟩) (.inl rfl) _).drew
  have hc := HH.out.cf
  refine ⟨rfl, HH.out.self t hb rfl rfl rfl rfl rfl ⟨hc.f0, hc.f1, hc.b0, hc.b1, hc.a0, hc.a1, hc.m0, hc.m1, hc.g0, hc.g1, ?_, ?_⟩, t⟩
  · show 0 ≤ grantI e.credit n; unfold grantI; omega
  · show grantI e.credit n ≤ _; unfold grantI; omega
end Go.Proofs.YtcppibjllaablaaGreat.egr

/-
  egress.Out: Put.
-/
namespace Go.Proofs.YtcppibjllaablaaGreat.egr
open Go.RowKit mem Go.Maps
set_option linter.unusedVariables false

abbrev ics (x : que.It) : Array Value := #[.int .i64 x.n, .int .i64 x.size, .int .i64 x.tick, .bool x.key]
/-- the item as a flow takes it -/
def keyed (f : Ef) (x : que.It) : que.It := ⟨x.n, x.size, x.tick, x.key || !f.video⟩
set_option maxRecDepth 100000 in
set_option maxHeartbeats 2000000 in
theorem put_none (A : Ad) (k : Nat) (e : Eo) (id : Int) (x : que.It) (w : World) (h : Es w A k e) (hf : fnd e.L id = none) (n0 : -9223372036854775808 ≤ id) (n1 : id ≤ 9223372036854775807) :
    Calls Tryz.prog 15 #[.pointer (some ⟨A.o, 0, none⟩), .int .i64 id, x.v] w fun e w' => e = .returned (.tuple #[.slice none 0 0, .bool false]) ∧ New w w' := by
  obtain ⟨xn, xs, xt, xk⟩ := x
  dsimp only [que.It.v]
  have HN : Hid (New w (w.alloc (.cells #[.int .i64 xn, .int .i64 xs, .int .i64 xt, .bool xk] que.PT))) := Lib.hid ((Turns.refl _ _).alloc _)
  have h1 := h.later HN.out
  have c5 := h1.blk.cell 5
  have hr := h1.look_none hf n0 n1
  clear h h1 hf
  go_enter Tryz.func15, Tryz.ntmps15
  go_upto_region 2 with fail
  go_quiet (fail)
  go_wp2
  go_ret2
  exact ⟨rfl, HN.out.drewN _⟩
set_option maxRecDepth 100000 in
set_option maxHeartbeats 2000000 in
theorem put_great (A : Ad) (k : Nat) (e : Eo) (f : Ef) (x : que.It) (w : World) (h : Es w A k e) (hf : f ∈ e.L) (hx : e.most < x.size) :
    Calls Tryz.prog 15 #[.pointer (some ⟨A.o, 0, none⟩), .int .i64 f.id, x.v] w fun e w' => e = .returned (.tuple #[.slice none 0 0, .bool false]) ∧ New w w' := by
  obtain ⟨xn, xs, xt, xk⟩ := x
  dsimp only [que.It.v]
  have HN : Hid (New w (w.alloc (.cells #[.int .i64 xn, .int .i64 xs, .int .i64 xt, .bool xk] que.PT))) := Lib.hid ((Turns.refl _ _).alloc _)
  have HB : Hid (Blk (w.alloc (.cells #[.int .i64 xn, .int .i64 xs, .int .i64 xt, .bool xk] que.PT)) w.heap.size #[.int .i64 xn, .int .i64 xs, .int .i64 xt, .bool xk] que.PT) := Lib.hid (Blk.new _ _ _)
  have h1 := h.later HN.out
  have c5 := h1.blk.cell 5
  have c3 := h1.blk.cell 3
  have x1 := HB.out.cell 1
  have hr := h1.look hf
  have d1 : decide (e.most < xs) = true := decide_eq_true hx
  clear h h1 hf hx
  go_enter Tryz.func15, Tryz.ntmps15
  go_upto_region 2 with fail
  go_quiet (fail)
  go_wp2
  go_ret2
  exact ⟨rfl, HN.out.drewN _⟩
theorem putQ_frames (q : que.Q) (x : que.It) : (que.putQ q x).frames = q.frames ∧ (que.putQ q x).most = q.most := by
  unfold que.putQ
  constructor <;> (repeat' split) <;> rfl
theorem putD_len (q : que.Q) (x : que.It) (h : q.L.length ≤ 1024) : (que.putD q x).length ≤ 1048576 := by
  unfold que.putD
  split
  · exact Nat.zero_le _
  · rw [List.length_take]; omega
theorem putQ_mem {q : que.Q} {x z : que.It} (h : z ∈ (que.putQ q x).L) : z ∈ q.L ∨ z = x := by
  unfold que.putQ at h
  (repeat' split at h) <;> simp at h
  all_goals first | exact .inl h | exact .inl (List.mem_of_mem_drop h) | (rcases h with h | h; exact .inl (List.mem_of_mem_drop h); exact .inr h) | (rcases h with h | h; exact .inl h; exact .inr h)
set_option maxRecDepth 100000 in
set_option maxHeartbeats 2000000 in
theorem put_some (A : Ad) (k : Nat) (e : Eo) (f : Ef) (x : que.It) (w : World) (h : Es w A k e) (hf : f ∈ e.L) (hx : x.size ≤ e.most) (s0 : -9223372036854775808 ≤ x.size) :
    Calls Tryz.prog 15 #[.pointer (some ⟨A.o, 0, none⟩), .int .i64 f.id, x.v] w fun z w' => ∃ u pv', z = .returned (.tuple #[u, .bool (que.putOk f.q (keyed f x))]) ∧ Es w' A k ⟨e.frames, e.bytes, e.age, e.most, e.guard, e.credit, e.row, setQ e.L f.id pv' (que.putQ f.q (keyed f x)), e.s⟩ ∧ Turns (que.Foot f.qb f.pv) w w' ∧ Owns SE SeT w' u (nam f.id (que.putD f.q (keyed f x))) ∧ (∀ g, u.ownBlock = some g → w.heap.size ≤ g) ∧ (pv'.ownBlock = f.pv.ownBlock ∨ ∃ g, pv'.ownBlock = some g ∧ w.heap.size ≤ g) := by
  have hs1 : x.size ≤ 9223372036854775807 := by have := h.cf.m1; omega
  have HW := Lib.hid h
  have HPD : Hid ((que.putD f.q (keyed f x)).length ≤ 1048576) := Lib.hid (putD_len _ _ (h.qs f hf).small)
  have HPS : Hid (∀ z ∈ (que.putQ f.q (keyed f x)).L, z.size ≤ e.most) := Lib.hid (fun z hz => (putQ_mem hz).elim ((h.fq f hf).sz z) (fun e2 => by rw [e2]; exact hx))
  have HKD : Hid (keyed f x = ⟨x.n, x.size, x.tick, x.key || !f.video⟩ ∧ x.size ≤ e.most) := Lib.hid ⟨rfl, hx⟩
  have HP := Lib.hid (fun W hq => que.put f.qb f.pv f.q (keyed f x) W hq s0 hs1)
  rw [HKD.out.1] at HP
  dsimp only [que.It.v] at HP
  generalize keyed f x = y at *
  obtain ⟨xn, xs, xt, xk⟩ := x
  dsimp only [que.It.v] at *
  have HN : Hid (New w (w.alloc (.cells #[.int .i64 xn, .int .i64 xs, .int .i64 xt, .bool xk] que.PT))) := Lib.hid ((Turns.refl _ _).alloc _)
  have hb : Blk (w.alloc (.cells #[.int .i64 xn, .int .i64 xs, .int .i64 xt, .bool xk] que.PT)) w.heap.size #[.int .i64 xn, .int .i64 xs, .int .i64 xt, .bool xk] que.PT := Blk.new _ _ _
  have HB := Lib.hid hb
  have h1 := h.later HN.out
  have HH := Lib.hid h1
  have HF := Lib.hid hf
  have c5 := h1.blk.cell 5
  have c3 := h1.blk.cell 3
  obtain ⟨⟨x0, x1, x2, x3⟩, g0, g1, g2, g3⟩ := que.four hb
  obtain ⟨⟨f0, f1⟩, _⟩ := drr.two (h1.fb f hf)
  have hr := h1.look hf
  have d1 : decide (e.most < xs) = false := decide_eq_false (by omega)
  clear h h1 hf hx hb hs1 s0
  go_enter Tryz.func15, Tryz.ntmps15
  go_upto_region 2 with fail
  go_quiet (fail)
  have HH2 : Hid (Es ((w.alloc (.cells #[.int .i64 xn, .int .i64 xs, .int .i64 xt, .bool xk] que.PT)).drewN nq) A k e) := Lib.hid (HH.out.later ((Turns.refl _ _).drewN _))
  have HB2 : Hid (Blk ((w.alloc (.cells #[.int .i64 xn, .int .i64 xs, .int .i64 xt, .bool xk] que.PT)).drewN nq) w.heap.size #[.int .i64 xn, .int .i64 xs, .int .i64 xt, .bool xk] que.PT) := Lib.hid HB.out
  have HN2 : Hid (New w ((w.alloc (.cells #[.int .i64 xn, .int .i64 xs, .int .i64 xt, .bool xk] que.PT)).drewN nq)) := Lib.hid (HN.out.drewN _)
  have HPB : Hid (∃ pb, pb = w.heap.size) := Lib.hid ⟨_, rfl⟩
  obtain ⟨pb, hpb⟩ := HPB.out
  rw [← hpb] at HB2 ⊢
  have HPL := Lib.hid hpb
  clear HH HN HB c5 c3 x0 x1 x2 x3 g0 g1 g2 g3 f0 f1 hr hpb HPB
  generalize (w.alloc (.cells #[.int .i64 xn, .int .i64 xs, .int .i64 xt, .bool xk] que.PT)).drewN nq = w1 at *
  obtain ⟨⟨x0, x1, x2, x3⟩, g0, g1, g2, g3⟩ := que.four HB2.out
  obtain ⟨⟨f0, f1⟩, _⟩ := drr.two (HH2.out.fb f HF.out)
  generalize f.video = fv at *
  cases xk <;> cases fv
  all_goals
    simp only [Bool.not_false, Bool.not_true, Bool.or_true, Bool.or_false, Bool.true_or, Bool.false_or] at HP HKD
  all_goals
    rw [← HKD.out.1] at HP
    go_upto_region 5 with fail
    have HN3 := Lib.hid (HN2.out.setCell (p := ⟨pb, 3, none⟩) (.inr (by rw [HPL.out]; exact Nat.le_refl _)) (.bool (y.key)))
    have HB3 := Lib.hid (HB2.out.set 3 (.bool (y.key)))
    rw [HKD.out.1] at HN3 HB3
    dsimp only at HN3 HB3
    clear HN2 HB2 x0 x1 x2 x3 g0 g1 g2 g3 f0 f1 HH2
    generalize w1.setCell ⟨pb, 3, none⟩ _ = w3 at *
    have HH3 := Lib.hid (HW.out.later HN3.out)
    obtain ⟨⟨x0, x1, x2, x3⟩, _⟩ := que.four HB3.out
    obtain ⟨⟨f0, f1⟩, _⟩ := drr.two (HH3.out.fb f HF.out)
    have HQ3 := Lib.hid (HH3.out.qs f HF.out)
    go_region_with (go_at_call 39; (with_reducible refine Calls.mono (HP.out _ ?_) ?_); (focus (exact HQ3.out.later ((Turns.refl _ _).drew))); rintro z w4 ⟨v, rfl, hpp⟩; have HPP := Lib.hid hpp; clear hpp)
  all_goals
    obtain ⟨ao, c, hv, _, _, _⟩ := HPP.out.fr.own.form
    subst hv
    have HNM := Lib.hid (named f.id _ _ w4 HPP.out.fr.own HPD.out)
    clear x0 x1 x2 x3 f0 f1
    go_wp2_with fail
    refine HNM.out.mono ?_
    rintro z w5 ⟨u, rfl, hg⟩
    have HG := Lib.hid hg
    clear hg HNM
    go_wp2
    go_ret2
    obtain ⟨pv', hloc, hes⟩ := HH3.out.queue HF.out (q' := que.putQ f.q y) ⟨HPP.out.lft.qs, Turns.of_drew HPP.out.lft.turns⟩ (putQ_frames _ _).1 (putQ_frames _ _).2 HPS.out
    have t : Turns (que.Foot f.qb f.pv) w w4 := (HN3.out.mono (fun _ _ h => h.elim)).trans ((Turns.of_drew HPP.out.lft.turns).mono (fun i _ hi => .inl hi))
    exact ⟨u, pv', rfl, hes.later HG.out.n, t.trans (HG.out.n.mono (fun _ _ h => h.elim)), HG.out.own, (fun g hg => Nat.le_trans t.size (HG.out.vb g hg)), hloc.elim .inl (fun ⟨g, h1, h2⟩ => .inr ⟨g, h1, Nat.le_trans HN3.out.size h2⟩)⟩
end Go.Proofs.YtcppibjllaablaaGreat.egr

/-
  egress.Out: the rising numbers of the flows.
-/
namespace Go.Proofs.YtcppibjllaablaaGreat.egr
open Go.RowKit mem Go.Maps Go.Sort Go.Shelf
open Go.Proofs.YtcppibjllaablaaGreat.itr
set_option linter.unusedVariables false

theorem keysF (mb : Option Nat) (W : World) : Calls Tryz.prog 76 #[.map mb] W fun e w' => e = .returned (.func (.func 110) #[] #[.pointer (some ⟨W.heap.size, 0, none⟩)]) ∧ w' = W.alloc (.cells #[.map mb] MT) :=
  (callsIn_wide (n := 5)).1 (AnyZI.keys_in Tryz.keysIF Fence.wide 5 trivial rfl mb W)
set_option maxHeartbeats 1000000 in
theorem sortedF (b nn : Nat) (D : DataW Unit) (R : Value → Option (DataW Unit × List MemPlace)) (l : List Int) (w : World) (hown : w.ownsMap Tryz.prog 3 R b nn D) (hmax : Maps.size D ≤ 1048576)
    (hasc : l.Pairwise (· < ·)) (hl : ∀ x, x ∈ l ↔ Maps.has D (.int .i64 x) = true) :
    Calls Tryz.prog 75 #[.func (.func 110) #[] #[.pointer (some ⟨w.heap.size, 0, none⟩)]] (w.alloc (.cells #[.map (some b)] MT)) fun e w' => ∃ v : Value, e = .returned v ∧ Owns IntE 3 w' v l ∧ (∀ g, v.ownBlock = some g → w.heap.size ≤ g) ∧ Turns (fun _ => False) w w' := by
  have hbl := hown.lt
  have hseq : SeqGives Fence.wide 2 Tryz.prog 110 #[.pointer (some ⟨w.heap.size, 0, none⟩)] encZ (fun ss => ss.Perm (intKeys D)) (Maps.size D) (w.alloc (.cells #[.map (some b)] MT)) :=
    AnyZI.keys_gives (ρ := Tryz.keysIF_ren) { Tryz.keysIF with } Fence.wide _ trivial rfl (by omega) w.heap.size b nn D _ (by simp) (by simp) (by
      obtain ⟨es, clock, hb, Ft, hs, hD⟩ := hown
      exact ⟨es, clock, (Below.heap_alloc _ _ b hbl).trans hb, Ft, hs, hD⟩)
  have hper : l.Perm (intKeys D) := CollectedI.perm (left := fun _ => false) ⟨asc_nodup hasc, fun x => by rw [hl x]; simp⟩ hown (int_keyed Tryz.underlying3) Tryz.underlying3 (fun _ => rfl)
  have cS := AnyZI.sorted_in Tryz.sortedI Fence.wide 5 trivial trivial trivial trivial rfl (by omega) (sortsI _) (enters_of Tryz.func109 (by kernel_rfl) rfl) 110 #[.pointer (some ⟨w.heap.size, 0, none⟩)] trivial (enters_of Tryz.func110 (by kernel_rfl) rfl) _ _ (by unfold maxLen; omega) (by omega) _ hseq
  refine ((callsIn_wide (n := 5)).1 cS).mono ?_
  rintro e w' ⟨v, ss, rfl, hS, hrow, hnil, hb⟩
  have hs := sorted_is (hS.trans hper.symm) hasc
  have hlen : ss.length = l.length := (hS.trans hper.symm).length_eq
  rw [hs, hlen] at hrow
  have e2 : (w.alloc (.cells #[.map (some b)] MT)).heap.size = w.heap.size + 1 := by unfold World.alloc; exact Array.size_push _
  refine ⟨v, rfl, ?_, fun g hg => ?_, ((Turns.refl _ w).alloc _).trans ((Turns.of_below hb).mono (fun i hi h => .inr (by omega)))⟩
  · unfold Owns
    rw [intE_all]
    exact ownsRow_base_a hrow (Nat.zero_le _)
  · have := (World.ownsRow.lt hrow g hg).1
    omega
/-- the numbers, rising -/
def idS (L : List Ef) : List Int := (L.map (·.id)).mergeSort (fun x y => decide (x ≤ y))
theorem idS_perm (L : List Ef) : (idS L).Perm (L.map (·.id)) := List.mergeSort_perm _ _
theorem idS_mem (L : List Ef) (x : Int) : x ∈ idS L ↔ ∃ f ∈ L, f.id = x := by
  rw [(idS_perm L).mem_iff, List.mem_map]
theorem idS_asc {L : List Ef} (h : Ap L) : (idS L).Pairwise (· < ·) := by
  have h1 : (idS L).Pairwise (fun x y => decide (x ≤ y) = true) := List.pairwise_mergeSort (fun a b c h1 h2 => by simp at *; omega) (fun a b => by simp; omega) _
  have h2 : (idS L).Nodup := by
    rw [(idS_perm L).nodup_iff]
    exact List.pairwise_map.2 (h.imp (fun h => h.1))
  have h3 := List.pairwise_and_iff.2 ⟨h1, h2⟩
  exact h3.imp (fun ⟨h4, h5⟩ => by simp at h4; omega)
theorem fnd_isSome (L : List Ef) (x : Int) : (fnd L x).isSome = true ↔ ∃ f ∈ L, f.id = x := by
  constructor
  · intro h
    obtain ⟨f, hf⟩ := Option.isSome_iff_exists.1 h
    obtain ⟨h1, h2⟩ := fnd_some hf
    exact ⟨f, h1, h2⟩
  · rintro ⟨f, hf, rfl⟩
    cases hx : fnd L f.id with
    | none => exact absurd rfl (fnd_none hx f hf)
    | some g => rfl
set_option maxRecDepth 100000 in
theorem ids (A : Ad) (k : Nat) (e : Eo) (w : World) (h : Es w A k e) (hk : k ≤ 1048576) :
    Calls Tryz.prog 28 #[.pointer (some ⟨A.o, 0, none⟩)] w fun x w' => ∃ v, x = .returned v ∧ Gr IntE 3 w w' v (idS e.L) := by
  obtain ⟨c, D, hc, hmp, hrd⟩ := h.map
  have hsz : Maps.size D ≤ 1048576 := Nat.le_trans hmp.size_le (by omega)
  have c5 := h.blk.cell 5
  have HKY := Lib.hid (keysF (some A.mb) w)
  have HSO := Lib.hid (sortedF A.mb c D drr.ptrE (idS e.L) w hmp hsz (idS_asc h.ap) (fun x => by rw [hrd.has x, idS_mem, fnd_isSome]))
  clear h hmp hrd hsz
  go_enter Tryz.func28, Tryz.ntmps28
  go_wp2_with fail
  refine HKY.out.mono ?_
  rintro x w1 ⟨rfl, rfl⟩
  go_wp2_with fail
  refine HSO.out.mono ?_
  rintro x w2 ⟨v, rfl, ho, hv, hn⟩
  have HO : Hid (Gr IntE 3 w w2 v (idS e.L)) := Lib.hid ⟨ho, hv, hn⟩
  clear ho hv hn
  go_wp2
  go_ret
  exact ⟨v, rfl, HO.out⟩
end Go.Proofs.YtcppibjllaablaaGreat.egr

/-
  drr: flows 0 .. n-1, each of which has a head: Choose stays, or goes to the next one. Pure; the rows that the laws build.
-/
namespace Go.Proofs.YtcppibjllaablaaGreat.drr
open Go.RowKit mem Go.Maps
set_option linter.unusedVariables false

def natL (n : Nat) : List Int := (List.range n).map Int.ofNat
theorem natL_len (n : Nat) : (natL n).length = n := by simp [natL]
theorem natL_mem {n : Nat} {x : Int} : x ∈ natL n ↔ ∃ i : Nat, i < n ∧ (i : Int) = x := by
  unfold natL
  rw [List.mem_map]
  constructor
  · rintro ⟨i, hi, e⟩
    exact ⟨i, List.mem_range.1 hi, e⟩
  · rintro ⟨i, hi, e⟩
    exact ⟨i, List.mem_range.2 hi, e⟩
theorem natL_succ (n : Nat) : natL (n + 1) = natL n ++ [(n : Int)] := by
  unfold natL
  rw [List.range_succ, List.map_append]; rfl
theorem natL_asc (n : Nat) : (natL n).Pairwise (· < ·) := by
  induction n with
  | zero => exact List.Pairwise.nil
  | succ n ih =>
    rw [natL_succ, List.pairwise_append]
    refine ⟨ih, List.pairwise_singleton _ _, fun x hx y hy => ?_⟩
    obtain ⟨i, hi, rfl⟩ := natL_mem.1 hx
    simp at hy; subst hy
    omega
theorem natL_get (n j : Nat) (h : j < n) : (natL n).getD j 0 = (j : Int) := by
  unfold natL
  rw [List.getD_eq_getElem?_getD, List.getElem?_map, List.getElem?_range h]; rfl
theorem natL_count (n j : Nat) (h : j ≤ n) : (natL n).countP (fun x => decide (x < (j : Int))) = j := by
  induction n with
  | zero =>
    have : j = 0 := by omega
    subst this; rfl
  | succ n ih =>
    rw [natL_succ, List.countP_append]
    by_cases e : j ≤ n
    · rw [ih e, List.countP_cons, decide_eq_false (by omega)]
      simp
    · have hj : j = n + 1 := by omega
      subst hj
      have h1 : ∀ m : Nat, m ≤ n + 1 → (natL m).countP (fun x => decide (x < ((n + 1 : Nat) : Int))) = m := by
        intro m hm
        induction m with
        | zero => rfl
        | succ m ihm =>
          rw [natL_succ, List.countP_append, ihm (by omega), List.countP_cons, decide_eq_true (by push_cast; omega)]
          simp
      rw [h1 n (by omega), List.countP_cons, decide_eq_true (by push_cast; omega)]
      simp
theorem next_full (n j : Nat) (h : j < n) : nextId (natL n) (j : Int) = (((j + 1) % n : Nat) : Int) := by
  unfold nextId
  have hm : (j : Int) ∈ natL n := natL_mem.2 ⟨j, h, rfl⟩
  rw [natL_count n j (by omega), if_pos hm, natL_len]
  exact natL_get n _ (Nat.mod_lt _ (by omega))

/-- a head for each of the flows 0 .. n-1 -/
def hsN (n : Nat) (z : Nat → Int) : Hs := (List.range n).map (fun (i : Nat) => ((i : Int), z i))
theorem hsN_ids (n : Nat) (z : Nat → Int) : ids (hsN n z) = natL n := by
  unfold ids hsN natL
  rw [List.map_map]; rfl
theorem hsN_len (n : Nat) (z : Nat → Int) : (hsN n z).length = n := by
  unfold hsN
  rw [List.length_map, List.length_range]
theorem hsN_succ (n : Nat) (z : Nat → Int) : hsN (n + 1) z = hsN n z ++ [((n : Int), z n)] := by
  unfold hsN
  rw [List.range_succ, List.map_append]; rfl
theorem hsN_get {n : Nat} {z : Nat → Int} {j : Nat} (h : j < n) : (hsN n z)[j]? = some ((j : Int), z j) := by
  unfold hsN
  rw [List.getElem?_map, List.getElem?_range h]; rfl
theorem hsN_mem {n : Nat} {z : Nat → Int} {x : Int × Int} (h : x ∈ hsN n z) : ∃ i : Nat, i < n ∧ x = ((i : Int), z i) := by
  obtain ⟨i, hi, e⟩ := List.mem_map.1 h
  exact ⟨i, List.mem_range.1 hi, e.symm⟩
theorem hsN_size {n : Nat} {z : Nat → Int} {j : Nat} (h : j < n) : sizeOf' (hsN n z) (j : Int) = z j := by
  have h1 : (j : Int) ∈ ids (hsN n z) := by rw [hsN_ids]; exact natL_mem.2 ⟨j, h, rfl⟩
  obtain ⟨i, hi, e⟩ := hsN_mem (sizeOf_mem h1)
  injection e with e1 e2
  have : i = j := by omega
  subst this
  exact e2

/-- flows 0 .. n-1, and no other one; whose turn it is -/
structure Fu (n : Nat) (m : Int) (s : Sc) (t : Nat) : Prop where
  mo : s.most = m
  id : s.L.map (·.id) = natL n
  tu : s.turn = (t : Int)
theorem Fu.fl {n : Nat} {m : Int} {s : Sc} {t : Nat} (h : Fu n m s t) {i : Nat} (hi : i < n) : ∃ f ∈ s.L, f.id = (i : Int) := by
  have : (i : Int) ∈ s.L.map (·.id) := by rw [h.id]; exact natL_mem.2 ⟨i, hi, rfl⟩
  obtain ⟨f, hf, e⟩ := List.mem_map.1 this
  exact ⟨f, hf, e⟩
theorem Fu.ok {n : Nat} {m : Int} {s : Sc} {t : Nat} (h : Fu n m s t) {z : Nat → Int} (hz : ∀ i, i < n → 0 ≤ z i ∧ z i ≤ m) : Ok s (hsN n z) :=
  ⟨by rw [hsN_ids]; exact natL_asc n, (fun x hx => by obtain ⟨i, hi, rfl⟩ := hsN_mem hx; exact h.fl hi), (fun x hx => by obtain ⟨i, hi, rfl⟩ := hsN_mem hx; rw [h.mo]; exact hz i hi)⟩
theorem Fu.none {n : Nat} {m : Int} {s : Sc} {t : Nat} (h : Fu n m s t) : fnd s.L (n : Int) = none := by
  cases hx : fnd s.L (n : Int) with
  | none => rfl
  | some f =>
    obtain ⟨h1, h2⟩ := fnd_some hx
    have : f.id ∈ s.L.map (·.id) := List.mem_map.2 ⟨f, h1, rfl⟩
    rw [h.id, h2] at this
    obtain ⟨i, hi, e⟩ := natL_mem.1 this
    omega
theorem Fu.add {n : Nat} {m : Int} {s : Sc} {t : Nat} (h : Fu n m s t) (b : Nat) (sh : Int) : Fu (n + 1) m (addS s (n : Int) b sh) t :=
  ⟨h.mo, by show (s.L ++ [_]).map _ = _; rw [List.map_append, h.id, natL_succ]; rfl, h.tu⟩
theorem Fu.sim {n : Nat} {m : Int} {s s' : Sc} {t t' : Nat} (h : Fu n m s t) (k : Sim s s') (ht : s'.turn = (t' : Int)) : Fu n m s' t' := by
  obtain ⟨e, F, e2⟩ := k
  refine ⟨e.trans h.mo, ?_, ht⟩
  rw [e2]
  show (s.L.map _).map _ = _
  rw [List.map_map]
  exact h.id
theorem beg_full {n : Nat} {m : Int} {s : Sc} {t : Nat} (h : Fu n m s t) (z : Nat → Int) : begS (hsN n z) s = s := by
  unfold begS
  have : upd s.L (forgetF (hsN n z)) = s.L := upd_same _ _ (fun f hf => by
    unfold forgetF
    rw [if_pos]
    rw [hsN_ids, ← h.id]
    exact List.mem_map.2 ⟨f, hf, rfl⟩)
  rw [this]
theorem hs_ne {n : Nat} {z : Nat → Int} (hn : 0 < n) : hsN n z ≠ [] := fun e => by
  have := hsN_len n z
  rw [e] at this; simp at this; omega
/-- Choose, told by whether the flow whose turn it is has enough -/
theorem choose_full {n : Nat} {m : Int} {s : Sc} {t : Nat} (h : Fu n m s t) (z : Nat → Int) (ht : t < n) :
    chooseS (hsN n z) s = if leftOf (grantS s) (t : Int) < z t then grantS ⟨s.most, (grantS s).L, (((t + 1) % n : Nat) : Int), false⟩ else grantS s := by
  have e1 : chooseS (hsN n z) s = runS (hsN n z) (firS (hsN n z) s) := by
    have := hs_ne (z := z) (show 0 < n by omega)
    cases hx : hsN n z with
    | nil => exact absurd hx this
    | cons _ _ => rfl
  have e2 : firS (hsN n z) s = s := by
    unfold firS
    rw [if_pos (by rw [hsN_ids, h.tu]; exact natL_mem.2 ⟨t, ht, rfl⟩)]
    exact beg_full h z
  rw [e1, e2]
  unfold runS lowS
  rw [h.tu, hsN_size ht]
  by_cases hlow : leftOf (grantS s) (t : Int) < z t
  · rw [decide_eq_true hlow, if_pos rfl, if_pos hlow]
    unfold passS
    rw [(grant_turn s).1, (grant_turn s).2.1, h.tu, hsN_ids, next_full n t ht]
  · rw [decide_eq_false hlow, if_neg (by decide), if_neg hlow]
theorem choose_turn {n : Nat} {m : Int} {s : Sc} {t : Nat} (h : Fu n m s t) (z : Nat → Int) (ht : t < n) :
    ∃ t' : Nat, (t' = t ∨ t' = (t + 1) % n) ∧ (chooseS (hsN n z) s).turn = (t' : Int) := by
  rw [choose_full h z ht]
  split
  · exact ⟨_, .inr rfl, (grant_turn _).1⟩
  · exact ⟨t, .inl rfl, (grant_turn _).1.trans h.tu⟩

/-! ### rows -/
def HE : Enc (Int × Int) := ⟨2, fun x => [.int .i64 x.1, .int .i64 x.2], fun _ => rfl, fun x u hu => by
  simp at hu
  rcases hu with rfl | rfl <;> rfl⟩
theorem infoH : (Tryz.prog.info? HT).map (fun i => (i.zero, i.size, i.bytes)) = some (some (.agg #[.int .i64 0, .int .i64 0]), 2, 16) := by kernel_rfl
theorem infoI : (Tryz.prog.info? 3).map (fun i => (i.zero, i.size, i.bytes)) = some (some (.int .i64 0), 1, 8) := by kernel_rfl
theorem hrow_owns {w : World} {v : Value} {l : Hs} (h : Owns HE HT w v l) : HRow w v l := by
  obtain ⟨ao, c, rfl, hc, hr, _⟩ := h.form
  refine ⟨ao, c, rfl, hc, ?_⟩
  rcases hr with e | ⟨g, e, hg, hcell⟩
  · exact .inl e
  · refine .inr ⟨g, 0, e, hg, fun j x hj => ?_⟩
    have h0 := hcell j x hj 0 _ rfl
    have h1 := hcell j x hj 1 _ rfl
    rw [Nat.zero_add]
    exact ⟨h0, h1⟩
/-- a schedule, and a row beside it -/
structure Wr {α : Type} (E : Enc α) (T : TypeId) (w wr : World) (p mb : Nat) (s : Sc) (v : Value) (l : List α) : Prop where
  own : Owns E T wr v l
  vb : ∀ g, v.ownBlock = some g → w.heap.size ≤ g
  off : ∀ g, v.ownBlock = some g → ¬ Foot p mb s g
section
variable {α : Type} {E : Enc α} {T : TypeId} {w wr w2 : World} {p mb : Nat} {s s' : Sc} {v v' : Value} {l : List α}
theorem Wr.later (h : Wr E T w wr p mb s v l) (n : New wr w2) : Wr E T w w2 p mb s v l := ⟨h.own.turns n (fun _ _ h => h), h.vb, h.off⟩
theorem Wr.call (h : Wr E T w wr p mb s v l) (t : Turns (Foot p mb s) wr w2) (sim : Sim s s') : Wr E T w w2 p mb s' v l :=
  ⟨h.own.turns t h.off, h.vb, fun g hg e => h.off g hg (sim.foot e)⟩
theorem Wr.add (h : Wr E T w wr p mb s v l) (t : Turns (· = mb) wr w2) (id sh : Int) : Wr E T w w2 p mb (addS s id wr.heap.size sh) v l :=
  ⟨h.own.turns t (fun g hg e => h.off g hg (.inr (.inl e))), h.vb, fun g hg e => by
    rcases e with e | e | ⟨f, hf, e⟩
    · exact h.off g hg (.inl e)
    · exact h.off g hg (.inr (.inl e))
    · rcases List.mem_append.1 hf with hf | hf
      · exact h.off g hg (.inr (.inr ⟨f, hf, e⟩))
      · simp at hf; subst hf
        have := h.own.lt g hg
        have e2 : wr.heap.size = g := e
        omega⟩
/-- something is appended -/
theorem Wr.push {u : List α} {o : Obj} {c : Nat} {D : DataW Unit} (h : Wr E T w wr p mb s v l) (hn : New w wr) (hs : Ss wr p mb c D s) (ho : Owns E T w2 v' (l ++ u)) (hg : (wr.alloc o).grownBy w2 v.ownBlock) (ha : v'.ownBlock = v.ownBlock ∨ v'.ownBlock = some (wr.alloc o).heap.size) : Wr E T w w2 p mb s v' (l ++ u) := by
  have hsz : (wr.alloc o).heap.size = wr.heap.size + 1 := by unfold World.alloc; exact Array.size_push _
  refine ⟨ho, fun g hg => ?_, fun g hg e => ?_⟩
  · rcases ha with e | e
    · exact h.vb g (by rw [← e]; exact hg)
    · rw [e] at hg; injection hg with hg
      have := hn.size; omega
  · rcases ha with e2 | e2
    · exact h.off g (by rw [← e2]; exact hg) e
    · rw [e2] at hg; injection hg with hg
      have := hs.foot g e; omega
end
/-- the schedule behind an append -/
theorem Rn.push {α : Type} {E : Enc α} {T : TypeId} {w wr w2 : World} {p mb c : Nat} {D : DataW Unit} {s : Sc} {v : Value} {l : List α} {o : Obj} (h : Rn w wr p mb c D s) (hw : Wr E T w wr p mb s v l) (hg : (wr.alloc o).grownBy w2 v.ownBlock) : Rn w w2 p mb c D s ∧ Turns (fun k => some k = v.ownBlock) wr w2 := by
  have t := Gr.turned hg
  exact ⟨⟨h.ss.turns t (fun e => hw.off p e.symm (.inl rfl)) (fun e => hw.off mb e.symm (.inr (.inl rfl))) (fun f hf e => hw.off f.b e.symm (.inr (.inr ⟨f, hf, rfl⟩))), h.n.trans (t.mono (fun i _ hi => .inr (hw.vb i hi.symm))), h.p0, h.m0, h.f0⟩, t⟩
end Go.Proofs.YtcppibjllaablaaGreat.drr

/-
  egress.Out: whose turn it is, as a pure function of the flows.
-/
namespace Go.Proofs.YtcppibjllaablaaGreat.egr
open Go.RowKit mem Go.Maps
open Go.Proofs.YtcppibjllaablaaGreat.itr
set_option linter.unusedVariables false

/-- the heads of pictures, the oldest sound -/
structure Nx where
  H : drr.Hs
  b : Option Snt
def stepN (L : List Ef) (s : Nx) (id : Int) : Nx :=
  match fnd L id with
  | none => s
  | some f => match f.q.L with
    | [] => s
    | x :: _ => if f.video = true then ⟨s.H ++ [(id, x.size)], s.b⟩ else
      match s.b with
      | none => ⟨s.H, some ⟨id, x⟩⟩
      | some y => if x.tick < y.x.tick then ⟨s.H, some ⟨id, x⟩⟩ else s
def nx (L : List Ef) (l : List Int) : Nx := l.foldl (stepN L) ⟨[], none⟩
theorem nx_take {L : List Ef} {l : List Int} {k : Nat} {id : Int} (h : l[k]? = some id) : nx L (l.take (k + 1)) = stepN L (nx L (l.take k)) id := by
  rw [drr.take_succ' h]
  unfold nx
  rw [List.foldl_append]; rfl
theorem step_ids (L : List Ef) (s : Nx) (id : Int) : drr.ids (stepN L s id).H = drr.ids s.H ∨ drr.ids (stepN L s id).H = drr.ids s.H ++ [id] := by
  unfold stepN
  split
  · exact .inl rfl
  · split
    · exact .inl rfl
    · split
      · exact .inr (drr.ids_snoc _ _)
      · split
        · exact .inl rfl
        · split
          · exact .inl rfl
          · exact .inl rfl
theorem fold_sub (L : List Ef) : ∀ (l : List Int) (s : Nx), (drr.ids (l.foldl (stepN L) s).H).Sublist (drr.ids s.H ++ l)
  | [], s => by simp
  | x :: l, s => by
    have ih := fold_sub L l (stepN L s x)
    rw [List.foldl_cons]
    rcases step_ids L s x with e | e
    · rw [e] at ih
      exact ih.trans (List.Sublist.append_left (List.sublist_cons_self x l) _)
    · rw [e, List.append_assoc] at ih
      exact ih
theorem nx_sub (L : List Ef) (l : List Int) : (drr.ids (nx L l).H).Sublist l := fold_sub L l ⟨[], none⟩
theorem nx_len (L : List Ef) (l : List Int) : (nx L l).H.length ≤ l.length := by
  have := (nx_sub L l).length_le
  unfold drr.ids at this
  rwa [List.length_map] at this
/-- whence the heads come -/
structure Nok (L : List Ef) (s : Nx) : Prop where
  h : ∀ h ∈ s.H, ∃ f ∈ L, f.id = h.1 ∧ f.video = true ∧ ∃ x, f.q.L[0]? = some x ∧ h.2 = x.size
  b : ∀ y, s.b = some y → ∃ f ∈ L, f.id = y.id ∧ f.video = false ∧ f.q.L[0]? = some y.x
theorem Nok.step {L : List Ef} {s : Nx} (k : Nok L s) (id : Int) : Nok L (stepN L s id) := by
  unfold stepN
  split
  · exact k
  next f hf =>
    obtain ⟨h1, h2⟩ := fnd_some hf
    split
    · exact k
    next x l hl =>
      split
      next hv =>
        refine ⟨fun h hh => ?_, k.b⟩
        rcases List.mem_append.1 hh with hh | hh
        · exact k.h h hh
        · simp at hh; subst hh
          exact ⟨f, h1, h2, hv, x, by rw [hl]; rfl, rfl⟩
      next hv =>
        have hn : ∀ y, some (⟨id, x⟩ : Snt) = some y → ∃ f ∈ L, f.id = y.id ∧ f.video = false ∧ f.q.L[0]? = some y.x := fun y hy => by
          injection hy with hy; subst hy
          exact ⟨f, h1, h2, by simpa using hv, by rw [hl]; rfl⟩
        split
        · exact ⟨k.h, hn⟩
        · split
          · exact ⟨k.h, hn⟩
          · exact k
theorem fold_ok (L : List Ef) : ∀ (l : List Int) (s : Nx), Nok L s → Nok L (l.foldl (stepN L) s)
  | [], _, k => k
  | x :: l, s, k => fold_ok L l _ (k.step x)
theorem nx_ok (L : List Ef) (l : List Int) : Nok L (nx L l) := fold_ok L l _ ⟨fun h hh => (by cases hh), fun y hy => (by cases hy)⟩
def sdef : Option Snt → Snt
  | none => ⟨0, ⟨0, 0, 0, false⟩⟩
  | some y => y
/-- whose turn it is; false: nothing waits; the schedule then -/
def nextS (e : Eo) : Int × Bool × drr.Sc :=
  if (nx e.L (idS e.L)).b.isSome = true ∧ (e.row < e.guard ∨ (nx e.L (idS e.L)).H = []) then ((sdef (nx e.L (idS e.L)).b).id, true, e.s)
  else if (nx e.L (idS e.L)).H = [] then (0, false, drr.chooseS [] e.s)
  else ((drr.chooseS (nx e.L (idS e.L)).H e.s).turn, true, drr.chooseS (nx e.L (idS e.L)).H e.s)
theorem Es.ok_heads {w : World} {A : Ad} {k : Nat} {e : Eo} (h : Es w A k e) : drr.Ok e.s (nx e.L (idS e.L)).H := by
  have hk := nx_ok e.L (idS e.L)
  refine ⟨(idS_asc h.ap).sublist (nx_sub _ _), fun x hx => ?_, fun x hx => ?_⟩
  · obtain ⟨f, hf, h1, h2, _⟩ := hk.h x hx
    exact (h.vs x.1).2 ⟨f, hf, h1, h2⟩
  · obtain ⟨f, hf, h1, h2, y, hy, h3⟩ := hk.h x hx
    have hm := List.mem_of_getElem? hy
    rw [h3, h.sm]
    exact ⟨(h.qs f hf).ok.pos y hm, (h.fq f hf).sz y hm⟩
theorem Es.rg_heads {w : World} {A : Ad} {k : Nat} {e : Eo} (h : Es w A k e) : ∀ x ∈ drr.ids (nx e.L (idS e.L)).H, -9223372036854775808 ≤ x ∧ x ≤ 9223372036854775807 := fun x hx => by
  obtain ⟨f, hf, rfl⟩ := (idS_mem _ _).1 ((nx_sub _ _).subset hx)
  exact h.rg f hf
theorem Es.look1 {w : World} {A : Ad} {k : Nat} {e : Eo} (h : Es w A k e) {f : Ef} (hf : f ∈ e.L) : (Instr.lookup MT (.map (some A.mb)) (.int .i64 f.id) false).run Tryz.prog w = .ok (.pointer (some ⟨f.fb, 0, none⟩)) w := by
  obtain ⟨c, D, _, hm, hr⟩ := h.map
  obtain ⟨v, ps, hrun, hv⟩ := hm.lookup drr.lawI Tryz.underlying95 (zeroP w) (zd := .lit (.int .i64 (-1))) (zp := []) rfl (drr.keyI (h.rg f hf).1 (h.rg f hf).2)
  rw [hr.at_ f hf] at hv
  rw [drr.ptrE_inv hv] at hrun
  exact hrun
theorem fives {w : World} {p : Nat} {a b c d e : Value} {T : TypeId} (k : Blk w p #[a, b, c, d, e] T) :
    (w.cell? ⟨p, 0, none⟩ = some a ∧ w.cell? ⟨p, 1, none⟩ = some b ∧ w.cell? ⟨p, 2, none⟩ = some c ∧ w.cell? ⟨p, 3, none⟩ = some d ∧ w.cell? ⟨p, 4, none⟩ = some e) ∧ w.frozen? ⟨p, 0, none⟩ = false ∧ w.frozen? ⟨p, 1, none⟩ = false ∧ w.frozen? ⟨p, 2, none⟩ = false ∧ w.frozen? ⟨p, 3, none⟩ = false ∧ w.frozen? ⟨p, 4, none⟩ = false :=
  ⟨⟨k.cell 0, k.cell 1, k.cell 2, k.cell 3, k.cell 4⟩, k.free 0, k.free 1, k.free 2, k.free 3, k.free 4⟩
/-- the schedule turns: the call's own map -/
theorem Es.call {w w' : World} {A : Ad} {k : Nat} {e : Eo} (h : Es w A k e) {s' : drr.Sc} {c2 : Nat} {D2 : DataW Unit} (hc2 : c2 ≤ k) (hss : drr.Ss w A.sp A.smb c2 D2 e.s) (hs' : drr.Ss w' A.sp A.smb c2 D2 s') (t : Turns (drr.Foot A.sp A.smb e.s) w w') (sim : drr.Sim e.s s') : Es w' A k ⟨e.frames, e.bytes, e.age, e.most, e.guard, e.credit, e.row, e.L, s'⟩ := by
  obtain ⟨c, D, hc, hmp, hr⟩ := h.map
  have off : ∀ {r : Nat} {cs : Array Value} {T : TypeId}, Blk w r cs T → T ≠ 174 → T ≠ 178 → ¬ drr.Foot A.sp A.smb e.s r := fun hb h1 h2 hk => by
    rcases hk with e2 | e2 | ⟨f, hf, e2⟩
    · exact blk_ne hb hss.blk h1 e2
    · exact ownsMap_ne hss.map hb e2.symm
    · exact blk_ne hb (hss.fb f hf) h2 e2.symm
  refine ⟨t.blk h.blk (off h.blk (by decide) (by decide)), ⟨c, D, hc, ownsMap_turns hmp t (fun hk => ?_), hr⟩, fun f hf => t.blk (h.fb f hf) (off (h.fb f hf) (by decide) (by decide)), fun f hf => (h.qs f hf).turns t (off (h.qs f hf).blk (by decide) (by decide)) (fun g hg hk => ?_), ⟨c2, D2, hc2, hs'⟩, h.ap, h.mm, h.rg, ⟨h.cf.f0, h.cf.f1, h.cf.b0, h.cf.b1, h.cf.a0, h.cf.a1, h.cf.m0, h.cf.m1, h.cf.g0, h.cf.g1, h.cf.c0, h.cf.c1⟩, fun f hf => ⟨(h.fq f hf).fr, (h.fq f hf).mo, (h.fq f hf).sz⟩, sim.1.trans h.sm, fun id => ?_⟩
  · rcases hk with e2 | e2 | ⟨f, hf, e2⟩
    · exact ownsMap_ne hmp hss.blk e2
    · exact h.mm e2
    · exact ownsMap_ne hmp (hss.fb f hf) e2.symm
  · rcases hk with e2 | e2 | ⟨f', hf', e2⟩
    · exact own_ne (h.qs f hf).own hss.blk (by decide) (by rw [hg, e2])
    · exact ownsMap_ne_row hss.map (h.qs f hf).own g hg e2.symm
    · exact own_ne (h.qs f hf).own (hss.fb f' hf') (by decide) (by rw [hg, e2])
  · rw [← h.vs id]
    obtain ⟨_, F, e2⟩ := sim
    constructor
    · rintro ⟨f, hf, hid⟩
      rw [show (Eo.s ⟨e.frames, e.bytes, e.age, e.most, e.guard, e.credit, e.row, e.L, s'⟩) = s' from rfl, e2] at hf
      obtain ⟨f', hf', rfl⟩ := drr.upd_mem hf
      exact ⟨f', hf', hid⟩
    · rintro ⟨f, hf, hid⟩
      show ∃ f ∈ s'.L, _
      rw [e2]
      exact ⟨_, drr.upd_mem' hf, hid⟩
end Go.Proofs.YtcppibjllaablaaGreat.egr

/-
  egress.Out: next.
-/
namespace Go.Proofs.YtcppibjllaablaaGreat.egr
open Go.RowKit mem Go.Maps
open Go.Proofs.YtcppibjllaablaaGreat.itr
set_option linter.unusedVariables false

abbrev scs (y : Snt) : Array Value := #[.int .i64 y.id, .int .i64 y.x.n, .int .i64 y.x.size, .int .i64 y.x.tick, .bool y.x.key]
/-- in the loop: the heads' row, the block of the oldest sound -/
structure Lx (w wr : World) (ps : Nat) (v : Value) (s : Nx) : Prop where
  gr : Gr drr.HE drr.HT w wr v s.H
  bl : Blk wr ps (scs (sdef s.b)) SeT
  off : ∀ g, v.ownBlock = some g → g ≠ ps
theorem Lx.later {w wr w2 : World} {ps : Nat} {v : Value} {s : Nx} (h : Lx w wr ps v s) (n : New wr w2) : Lx w w2 ps v s := ⟨h.gr.later n, n.blk h.bl (fun h => h), h.off⟩
theorem Lx.push {w wr w2 : World} {ps : Nat} {v v' : Value} {s : Nx} {x : Int × Int} {o : Obj} (h : Lx w wr ps v s) (ho : Owns drr.HE drr.HT w2 v' (s.H ++ [x])) (hg : (wr.alloc o).grownBy w2 v.ownBlock) (ha : v'.ownBlock = v.ownBlock ∨ v'.ownBlock = some (wr.alloc o).heap.size) : Lx w w2 ps v' ⟨s.H ++ [x], s.b⟩ := by
  have hl := h.bl.lt
  refine ⟨h.gr.push ho hg ha, (Gr.turned hg).blk h.bl (fun e => h.off ps e.symm rfl), fun g hg2 e => ?_⟩
  rcases ha with e2 | e2
  · exact h.off g (by rw [← e2]; exact hg2) e
  · rw [e2] at hg2
    injection hg2 with hg2
    simp at hg2; omega
theorem Lx.store {w wr : World} {ps : Nat} {v : Value} {s : Nx} (h : Lx w wr ps v s) (y : Snt) (hp : w.heap.size = ps) : Lx w (puts wr ps 0 [.int .i64 y.id, .int .i64 y.x.n, .int .i64 y.x.size, .int .i64 y.x.tick, .bool y.x.key]) ps v ⟨s.H, some y⟩ := by
  have t : Turns (· = ps) wr (puts wr ps 0 [.int .i64 y.id, .int .i64 y.x.n, .int .i64 y.x.size, .int .i64 y.x.tick, .bool y.x.key]) := puts_turns (S := (· = ps)) (.inl rfl) _ _ _ (Turns.refl _ _)
  exact ⟨⟨h.gr.own.turns t (fun g hg e => h.off g hg e), h.gr.vb, h.gr.n.trans (t.mono (fun i _ hi => .inr (by rw [hi, ← hp]; exact Nat.le_refl _)))⟩, puts_blk (scs (sdef s.b)).toList _ h.bl rfl, h.off⟩
set_option maxRecDepth 100000 in
set_option maxHeartbeats 4000000 in
theorem next (A : Ad) (k : Nat) (e : Eo) (v : Value) (w : World) (h : Es w A k e) (hv : Owns IntE 3 w v (idS e.L)) (hlen : (idS e.L).length ≤ 1048576) :
    Calls Tryz.prog 29 #[.pointer (some ⟨A.o, 0, none⟩), v] w fun x w' => x = .returned (.tuple #[.int .i64 (nextS e).1, .bool (nextS e).2.1]) ∧ Es w' A k ⟨e.frames, e.bytes, e.age, e.most, e.guard, e.credit, e.row, e.L, (nextS e).2.2⟩ ∧ Turns (drr.Foot A.sp A.smb e.s) w w' := by
  obtain ⟨ao, c, rfl, hlc, hrd, _⟩ := hv.form
  have HR := Lib.hid hrd
  have HH := Lib.hid h
  have HMEM : Hid (∀ x ∈ idS e.L, ∃ f ∈ e.L, f.id = x ∧ fnd e.L x = some f) := Lib.hid (fun x hx => by
    obtain ⟨f, hf, rfl⟩ := (idS_mem _ _).1 hx
    exact ⟨f, hf, rfl, HH.out.ap.fnd hf⟩)
  have hlm : (idS e.L).length ≤ maxLen := by unfold maxLen; omega
  have hb0 : Blk (w.alloc (.cells (scs (sdef none)) SeT)) w.heap.size (scs (sdef none)) SeT := Blk.new _ _ _
  have n0 : New w (w.alloc (.cells (scs (sdef none)) SeT)) := (Turns.refl _ _).alloc _
  have HPS : Hid (∃ ps, w.heap.size = ps) := Lib.hid ⟨_, rfl⟩
  obtain ⟨ps, hps⟩ := HPS.out
  have HPL := Lib.hid hps
  rw [hps] at hb0
  have HL0 : Hid (Lx w (w.alloc (.cells (scs (sdef none)) SeT)) ps (.slice none 0 0) (nx e.L ((idS e.L).take 0))) := Lib.hid ⟨Gr.nil _ _ _ _ n0, hb0, (fun g hg => by simp [Value.ownBlock] at hg)⟩
  clear h hrd hv hb0 n0 HPS
  go_enter Tryz.func29, Tryz.ntmps29
  go_upto_region 4 with fail
  clear hps
  refine (show Code.wp _ _ _ _ (w.alloc (.cells (scs (sdef none)) SeT)) from ?_)
  generalize w.alloc (.cells (scs (sdef none)) SeT) = w0 at *
  generalize hl : idS e.L = l at *
  have HLL := Lib.hid hl
  clear hl
  go_wp2_with fail
  go_loopw [6, 8, 16] (fun v s i wr => ∃ j : Nat, j ≤ l.length ∧ i = .int .i64 j ∧ s = .bool ((nx e.L (l.take j)).b.isSome) ∧ Lx w wr ps v (nx e.L (l.take j))) (fun _ _ i _ => l.length - (intOf i).toNat)
  case atStart => exact ⟨0, Nat.zero_le _, rfl, rfl, HL0.out⟩
  case round =>
    obtain ⟨j, hj, rfl, rfl, hlx⟩ := hrel
    have HX := Lib.hid hlx
    clear hlx HL0
    by_cases hlt : j < l.length
    · obtain ⟨id, hid⟩ : ∃ x, l[j]? = some x := ⟨_, List.getElem?_eq_getElem hlt⟩
      obtain ⟨g, rfl, hb, hc⟩ := HR.out.resolve_left (fun e => by rw [e] at hlt; exact absurd hlt (Nat.not_lt_zero _))
      have d0 : wr.cell? ⟨g, j * 1 + 0, none⟩ = _ := (HX.out.gr.n.cell (a := ⟨g, j * 1 + 0, none⟩) hb (fun h => h)).trans (hc j id hid 0 _ rfl)
      rw [Nat.mul_one, Nat.add_zero] at d0
      have HTK := Lib.hid (nx_take (L := e.L) hid)
      have hlen2 := nx_len e.L (l.take j)
      rw [List.length_take, Nat.min_eq_left hj] at hlen2
      obtain ⟨f, hf, rfl, hfnd⟩ := HMEM.out id (List.mem_of_getElem? hid)
      have HF := Lib.hid (And.intro hf hfnd)
      have hes := HH.out.later HX.out.gr.n
      have HES := Lib.hid hes
      have c5 := hes.blk.cell 5
      have hr := hes.look1 hf
      obtain ⟨⟨f0, f1⟩, _⟩ := drr.two (hes.fb f hf)
      clear hc hid hb hf hfnd hes
      generalize nx e.L (l.take j) = s at *
      generalize hb8 : s.b.isSome = bs at *
      have HB8 := Lib.hid hb8
      clear hb8
      cases hq : f.q.L with
      | nil =>
        have HFI := Lib.hid (que.first_nil f.qb f.pv f.q wr (HES.out.qs f HF.out.1) hq)
        have HST : Hid (stepN e.L s f.id = s) := Lib.hid (by unfold stepN; rw [HF.out.2]; dsimp only; rw [hq])
        go_wp2_with fail
        refine HFI.out.mono ?_
        rintro x w1 ⟨rfl, n1⟩
        have HX1 := Lib.hid (HX.out.later (n1.trans ((Turns.refl _ w1).alloc (.cells #[.int .i64 0, .int .i64 0, .int .i64 0, .bool false] que.PT))))
        clear n1 hr c5 d0 f0 f1 HFI
        go_wp2_with fail
        go_roundw
        case rel => exact ⟨j + 1, by omega, by go_num, by rw [HTK.out, HST.out, HB8.out], by rw [HTK.out, HST.out]; exact HX1.out⟩
        case measure => simp [intOf]; omega
      | cons x t =>
        have HFI := Lib.hid (que.first_cons f.qb f.pv f.q x wr (HES.out.qs f HF.out.1) (by rw [hq]; rfl))
        have HST : Hid (stepN e.L s f.id = if f.video = true then ⟨s.H ++ [(f.id, x.size)], s.b⟩ else match s.b with | none => ⟨s.H, some ⟨f.id, x⟩⟩ | some y => if x.tick < y.x.tick then ⟨s.H, some ⟨f.id, x⟩⟩ else s) := Lib.hid (by
          unfold stepN
          rw [HF.out.2]
          dsimp only
          rw [hq]
          rfl)
        clear hq
        obtain ⟨xn, xs, xt, xk⟩ := x
        dsimp only [que.It.v] at HFI HST
        go_wp2_with fail
        refine HFI.out.mono ?_
        rintro x w1 ⟨rfl, n1⟩
        have n2 : New wr (w1.alloc (.cells #[.int .i64 xn, .int .i64 xs, .int .i64 xt, .bool xk] que.PT)) := n1.trans ((Turns.refl _ w1).alloc _)
        have HX2 := Lib.hid (HX.out.later n2)
        have HB2 : Hid (Blk (w1.alloc (.cells #[.int .i64 xn, .int .i64 xs, .int .i64 xt, .bool xk] que.PT)) w1.heap.size #[.int .i64 xn, .int .i64 xs, .int .i64 xt, .bool xk] que.PT) := Lib.hid (Blk.new _ _ _)
        have HE2 := Lib.hid (HES.out.later n2)
        clear n1 n2 hr c5 d0 f0 f1 HFI HES
        go_upto_region 9 with fail
        refine (show Code.wp _ _ _ _ (w1.alloc (.cells #[.int .i64 xn, .int .i64 xs, .int .i64 xt, .bool xk] que.PT)) from ?_)
        generalize w1.alloc (.cells #[.int .i64 xn, .int .i64 xs, .int .i64 xt, .bool xk] que.PT) = w2 at *
        generalize w1.heap.size = px at *
        obtain ⟨⟨x0, x1, x2, x3⟩, _⟩ := que.four HB2.out
        obtain ⟨⟨y0, y1, y2, y3, y4⟩, g0, g1, g2, g3, g4⟩ := fives HX2.out.bl
        obtain ⟨⟨f0, f1⟩, _⟩ := drr.two (HE2.out.fb f HF.out.1)
        clear HE2 HB2
        cases hvv : f.video with
        | true =>
          rw [hvv] at f1
          rw [if_pos hvv] at HST
          clear hvv y0 y1 y2 y3 y4 g0 g1 g2 g3 g4
          go_wp2_with (at_builtin; refine wpList_append_one (E := drr.HE) Tryz.underlying165 drr.infoH rfl (by decide) (by decide) rfl _ _ rfl _ s.H (f.id, xs) rfl (HX2.out.gr.own.turns (S := fun _ => False) ((Turns.refl _ _).alloc _) (fun _ _ h => h)) w2.heap.size rfl (heap_alloc_new w2 _) (by omega) ?_; intro v4 w4 hown4 hgrow4 hat4; have HX4 := Lib.hid (HX2.out.push hown4 hgrow4 hat4); clear hown4 hgrow4 hat4)
          go_roundw
          case rel => exact ⟨j + 1, by omega, by go_num, by rw [HTK.out, HST.out, ← HB8.out], by rw [HTK.out, HST.out]; exact HX4.out⟩
          case measure => simp [intOf]; omega
        | false =>
          rw [hvv] at f1
          rw [if_neg (by rw [hvv]; decide)] at HST
          clear hvv
          cases hsb : s.b with
          | none =>
            obtain rfl : bs = false := by rw [← HB8.out, hsb]; rfl
            rw [hsb] at HST
            dsimp only at HST
            clear hsb
            go_upto_region 14 with fail
            refine (show Code.wp _ _ _ _ (puts w2 ps 0 [.int .i64 f.id, .int .i64 xn, .int .i64 xs, .int .i64 xt, .bool xk]) from ?_)
            have HX3 := Lib.hid (HX2.out.store ⟨f.id, ⟨xn, xs, xt, xk⟩⟩ HPL.out)
            clear HX2 x0 x1 x2 x3 y0 y1 y2 y3 y4 g0 g1 g2 g3 g4
            dsimp only at HX3
            generalize puts w2 ps 0 [.int .i64 f.id, .int .i64 xn, .int .i64 xs, .int .i64 xt, .bool xk] = w3 at *
            go_wp2_with fail
            go_roundw
            case rel => exact ⟨j + 1, by omega, by go_num, by rw [HTK.out, HST.out]; rfl, by rw [HTK.out, HST.out]; exact HX3.out⟩
            case measure => simp [intOf]; omega
          | some y =>
            obtain rfl : bs = true := by rw [← HB8.out, hsb]; rfl
            rw [hsb] at HST y3
            dsimp only [sdef] at HST y3
            by_cases hlt2 : xt < y.x.tick
            · have d1 : decide (xt < y.x.tick) = true := decide_eq_true hlt2
              rw [if_pos hlt2] at HST
              clear hsb hlt2
              go_upto_region 14 with fail
              refine (show Code.wp _ _ _ _ (puts w2 ps 0 [.int .i64 f.id, .int .i64 xn, .int .i64 xs, .int .i64 xt, .bool xk]) from ?_)
              have HX3 := Lib.hid (HX2.out.store ⟨f.id, ⟨xn, xs, xt, xk⟩⟩ HPL.out)
              clear HX2 x0 x1 x2 x3 y0 y1 y2 y3 y4 g0 g1 g2 g3 g4
              dsimp only at HX3
              generalize puts w2 ps 0 [.int .i64 f.id, .int .i64 xn, .int .i64 xs, .int .i64 xt, .bool xk] = w3 at *
              go_wp2_with fail
              go_roundw
              case rel => exact ⟨j + 1, by omega, by go_num, by rw [HTK.out, HST.out]; rfl, by rw [HTK.out, HST.out]; exact HX3.out⟩
              case measure => simp [intOf]; omega
            · have d1 : decide (xt < y.x.tick) = false := decide_eq_false hlt2
              rw [if_neg hlt2] at HST
              clear hsb hlt2
              go_wp2_with fail
              go_roundw
              case rel => exact ⟨j + 1, by omega, by go_num, by rw [HTK.out, HST.out, HB8.out], by rw [HTK.out, HST.out]; exact HX2.out⟩
              case measure => simp [intOf]; omega
    · obtain rfl : j = l.length := by omega
      rw [List.take_length] at HX ⊢
      obtain ⟨ao2, c2, hv2, hlc2, _, _⟩ := HX.out.gr.own.form
      have hes := HH.out.later HX.out.gr.n
      have HES := Lib.hid hes
      obtain ⟨⟨b0, b1, b2, b3, b4, b5, b6, b7, b8⟩, _⟩ := nine hes.blk
      have z0 := HX.out.bl.cell 0
      have hlenH := nx_len e.L l
      have HNS : Hid (nextS e = if (nx e.L l).b.isSome = true ∧ (e.row < e.guard ∨ (nx e.L l).H = []) then ((sdef (nx e.L l).b).id, true, e.s) else if (nx e.L l).H = [] then (0, false, drr.chooseS [] e.s) else ((drr.chooseS (nx e.L l).H e.s).turn, true, drr.chooseS (nx e.L l).H e.s)) := Lib.hid (by unfold nextS; rw [HLL.out])
      have HOKH : Hid (drr.Ok e.s (nx e.L l).H) := Lib.hid (by rw [← HLL.out]; exact HH.out.ok_heads)
      have HRGH : Hid (∀ x ∈ drr.ids (nx e.L l).H, -9223372036854775808 ≤ x ∧ x ≤ 9223372036854775807) := Lib.hid (by rw [← HLL.out]; exact HH.out.rg_heads)
      have hhr : drr.HRow wr u6 (nx e.L l).H := drr.hrow_owns HX.out.gr.own
      subst hv2
      have HHR := Lib.hid hhr
      have HN := Lib.hid HX.out.gr.n
      clear hes hhr HX hlt hj HMEM HR
      generalize nx e.L l = s at *
      obtain ⟨c3, D3, hc3, hss⟩ := HES.out.sch
      have HSS := Lib.hid (And.intro hc3 hss)
      clear hss hc3
      generalize hb8 : s.b.isSome = bs at *
      have HB8 := Lib.hid hb8
      clear hb8
      cases bs with
      | false =>
        have HIF : Hid (¬ (false = true ∧ (e.row < e.guard ∨ s.H = []))) := Lib.hid (fun h => by cases h.1)
        by_cases hH : s.H = []
        · have HRS : Hid (nextS e = (0, false, drr.chooseS [] e.s)) := Lib.hid (by rw [HNS.out, if_neg HIF.out, if_pos hH])
          have HCH := Lib.hid (fun n => drr.choose_nil A.sp A.smb c3 D3 e.s (.slice ao2 s.H.length c2) (wr.drewN n) (HSS.out.2.drewN n) (by have hq := HHR.out.later ((Turns.refl _ wr).drewN n); rw [hH] at hq ⊢; exact hq))
          clear hH
          go_upto_region 15 with fail
          go_quiet (fail)
          go_wp2_with fail
          refine (HCH.out _).mono ?_
          rintro x w5 ⟨rfl, hl⟩
          have HL5 := Lib.hid hl
          clear hl HCH
          go_wp2
          go_ret2
          rw [HRS.out]
          exact ⟨rfl, HES.out.call HSS.out.1 HSS.out.2 HL5.out.1 (Turns.of_drewN HL5.out.2) (drr.Sim.choose _ _), (HN.out.mono (fun _ _ h => h.elim)).trans ((Turns.of_drewN HL5.out.2).mono (fun i _ hi => .inl hi))⟩
        · have HRS : Hid (nextS e = ((drr.chooseS s.H e.s).turn, true, drr.chooseS s.H e.s)) := Lib.hid (by rw [HNS.out, if_neg HIF.out, if_neg hH])
          have HCH := Lib.hid (fun n => drr.choose_cons A.sp A.smb c3 D3 e.s s.H (.slice ao2 s.H.length c2) (wr.drewN n) (HSS.out.2.drewN n) (HHR.out.later ((Turns.refl _ wr).drewN n)) HOKH.out hH (by omega) HRGH.out)
          clear hH
          go_upto_region 15 with fail
          go_quiet (fail)
          go_wp2_with fail
          refine (HCH.out _).mono ?_
          rintro x w5 ⟨rfl, hl⟩
          have HL5 := Lib.hid hl
          clear hl HCH
          go_wp2
          go_ret2
          rw [HRS.out]
          exact ⟨rfl, HES.out.call HSS.out.1 HSS.out.2 HL5.out.1 (Turns.of_drewN HL5.out.2) (drr.Sim.choose _ _), (HN.out.mono (fun _ _ h => h.elim)).trans ((Turns.of_drewN HL5.out.2).mono (fun i _ hi => .inl hi))⟩
      | true =>
        by_cases hg : e.row < e.guard
        · have d1 : decide (e.row < e.guard) = true := decide_eq_true hg
          have HRS : Hid (nextS e = ((sdef s.b).id, true, e.s)) := Lib.hid (by rw [HNS.out, if_pos ⟨rfl, .inl hg⟩])
          clear hg
          go_upto_region 15 with fail
          go_quiet (fail)
          go_wp2
          go_ret2
          rw [HRS.out]
          exact ⟨rfl, HES.out.later ((Turns.refl _ _).drewN _), (HN.out.drewN _).mono (fun _ _ h => h.elim)⟩
        · have d1 : decide (e.row < e.guard) = false := decide_eq_false hg
          by_cases hH : s.H = []
          · have d2 : ((s.H.length : Int) == 0) = true := by rw [hH]; rfl
            have HRS : Hid (nextS e = ((sdef s.b).id, true, e.s)) := Lib.hid (by rw [HNS.out, if_pos ⟨rfl, .inr hH⟩])
            clear hg hH
            go_upto_region 15 with fail
            go_quiet (fail)
            go_wp2
            go_ret2
            rw [HRS.out]
            exact ⟨rfl, HES.out.later ((Turns.refl _ _).drewN _), (HN.out.drewN _).mono (fun _ _ h => h.elim)⟩
          · have d2 : ((s.H.length : Int) == 0) = false := by
              have : 0 < s.H.length := List.length_pos_iff.2 hH
              simp; omega
            have HIF : Hid (¬ (true = true ∧ (e.row < e.guard ∨ s.H = []))) := Lib.hid (fun h => h.2.elim hg hH)
            clear hg
            have HRS : Hid (nextS e = ((drr.chooseS s.H e.s).turn, true, drr.chooseS s.H e.s)) := Lib.hid (by rw [HNS.out, if_neg HIF.out, if_neg hH])
            have HCH := Lib.hid (fun n => drr.choose_cons A.sp A.smb c3 D3 e.s s.H (.slice ao2 s.H.length c2) (wr.drewN n) (HSS.out.2.drewN n) (HHR.out.later ((Turns.refl _ wr).drewN n)) HOKH.out hH (by omega) HRGH.out)
            clear hH
            go_upto_region 15 with fail
            go_quiet (fail)
            go_wp2_with fail
            refine (HCH.out _).mono ?_
            rintro x w5 ⟨rfl, hl⟩
            have HL5 := Lib.hid hl
            clear hl HCH
            go_wp2
            go_ret2
            rw [HRS.out]
            exact ⟨rfl, HES.out.call HSS.out.1 HSS.out.2 HL5.out.1 (Turns.of_drewN HL5.out.2) (drr.Sim.choose _ _), (HN.out.mono (fun _ _ h => h.elim)).trans ((Turns.of_drewN HL5.out.2).mono (fun i _ hi => .inl hi))⟩
end Go.Proofs.YtcppibjllaablaaGreat.egr

/-
  egress.Out: count.
-/
namespace Go.Proofs.YtcppibjllaablaaGreat.egr
open Go.RowKit mem Go.Maps
open Go.Proofs.YtcppibjllaablaaGreat.itr
set_option linter.unusedVariables false

theorem Es.cr {w : World} {A : Ad} {k : Nat} {e : Eo} (h : Es w A k e) {n r : Int} (n0 : 0 ≤ n) (n1 : n ≤ 1099511627776) {w' : World} (t : Turns (· = A.o) w w') (hb : Blk w' A.o (cells ⟨e.frames, e.bytes, e.age, e.most, e.guard, n, r, e.L, e.s⟩ A) OB) : Es w' A k ⟨e.frames, e.bytes, e.age, e.most, e.guard, n, r, e.L, e.s⟩ := by
  have hc := h.cf
  exact h.self t hb rfl rfl rfl rfl rfl ⟨hc.f0, hc.f1, hc.b0, hc.b1, hc.a0, hc.a1, hc.m0, hc.m1, hc.g0, hc.g1, n0, n1⟩
/-- a sound, a picture has gone -/
def countE (e : Eo) (n : Int) (v : Bool) : Eo := if v = true then ⟨e.frames, e.bytes, e.age, e.most, e.guard, e.credit - n, 0, e.L, drr.takeS n e.s⟩ else ⟨e.frames, e.bytes, e.age, e.most, e.guard, e.credit - n, e.row + 1, e.L, e.s⟩
def FootO (A : Ad) (e : Eo) (k : Nat) : Prop := k = A.o ∨ drr.Foot A.sp A.smb e.s k
set_option maxRecDepth 100000 in
set_option maxHeartbeats 2000000 in
theorem count (A : Ad) (k : Nat) (e : Eo) (n : Int) (v : Bool) (w : World) (h : Es w A k e) (n0 : 0 ≤ n) (n1 : n ≤ e.credit) (r0 : 0 ≤ e.row) (r1 : e.row < 9223372036854775807) :
    Calls Tryz.prog 32 #[.pointer (some ⟨A.o, 0, none⟩), .int .i64 n, .bool v] w fun x w' => x = .returned (.tuple #[]) ∧ Es w' A k (countE e n v) ∧ Turns (FootO A e) w w' := by
  obtain ⟨⟨c0, c1, c2, c3, c4, c5, c6, c7, c8⟩, f7, f8⟩ := nine h.blk
  have k0 := h.cf.c0
  have k1 := h.cf.c1
  have s1 : IntKind.i64.wrap (e.credit - n) = e.credit - n := IntWalk.i64_in _ (by omega)
  have s2 : IntKind.i64.wrap (e.row + 1) = e.row + 1 := IntWalk.i64_in _ (by omega)
  have t1 : Turns (· = A.o) w (w.setCell ⟨A.o, 7, none⟩ (.int .i64 (e.credit - n))) := Turns.setCell (S := (· = A.o)) (Turns.refl _ w) (p := ⟨A.o, 7, none⟩) (.inl rfl) _
  have hb1 : Blk (w.setCell ⟨A.o, 7, none⟩ (.int .i64 (e.credit - n))) A.o (cells ⟨e.frames, e.bytes, e.age, e.most, e.guard, e.credit - n, e.row, e.L, e.s⟩ A) OB := h.blk.set 7 _
  have h1 := h.cr (n := e.credit - n) (r := e.row) (by omega) (by omega) t1 hb1
  have HT1 := Lib.hid t1
  have H1 := Lib.hid h1
  clear h h1 t1 hb1
  cases v with
  | false =>
    have HE : Hid (countE e n false = ⟨e.frames, e.bytes, e.age, e.most, e.guard, e.credit - n, e.row + 1, e.L, e.s⟩) := Lib.hid rfl
    go_enter Tryz.func32, Tryz.ntmps32
    go_upto_region 1 with fail
    clear c0 c1 c2 c3 c4 c5 c6 c7 c8 f7 f8
    generalize w.setCell ⟨A.o, 7, none⟩ (.int .i64 (e.credit - n)) = w1 at *
    obtain ⟨⟨c0, c1, c2, c3, c4, c5, c6, c7, c8⟩, f7, f8⟩ := nine H1.out.blk
    go_wp2
    refine bodyPost_ret (results_none rfl _ _ _) rfl ?_
    have t2 : Turns (· = A.o) w1 (w1.setCell ⟨A.o, 8, none⟩ (.int .i64 (e.row + 1))) := Turns.setCell (S := (· = A.o)) (Turns.refl _ w1) (p := ⟨A.o, 8, none⟩) (.inl rfl) _
    have hb2 : Blk (w1.setCell ⟨A.o, 8, none⟩ (.int .i64 (e.row + 1))) A.o (cells ⟨e.frames, e.bytes, e.age, e.most, e.guard, e.credit - n, e.row + 1, e.L, e.s⟩ A) OB := H1.out.blk.set 8 _
    refine ⟨rfl, by rw [HE.out]; exact H1.out.cr (by omega) (by omega) t2 hb2, ?_⟩
    exact (HT1.out.mono (fun i _ hi => .inl hi)).trans (t2.mono (fun i _ hi => .inl (.inl hi)))
  | true =>
    have HE : Hid (countE e n true = ⟨e.frames, e.bytes, e.age, e.most, e.guard, e.credit - n, 0, e.L, drr.takeS n e.s⟩) := Lib.hid rfl
    go_enter Tryz.func32, Tryz.ntmps32
    go_upto_region 1 with fail
    clear c0 c1 c2 c3 c4 c5 c6 c7 c8 f7 f8
    generalize w.setCell ⟨A.o, 7, none⟩ (.int .i64 (e.credit - n)) = w1 at *
    obtain ⟨⟨c0, c1, c2, c3, c4, c5, c6, c7, c8⟩, f7, f8⟩ := nine H1.out.blk
    obtain ⟨c, D, hc, hss⟩ := H1.out.sch
    have HSS := Lib.hid (And.intro hc hss)
    have HTK := Lib.hid (drr.take A.sp A.smb c D e.s n w1 hss (by omega))
    clear hss hc
    go_wp2_with fail
    refine HTK.out.mono ?_
    rintro x w2 ⟨rfl, hl⟩
    have HL := Lib.hid hl
    have H2 := Lib.hid (H1.out.call HSS.out.1 HSS.out.2 hl.1 hl.2 (drr.Sim.take _ _))
    clear hl HTK c0 c1 c2 c3 c4 c5 c6 c7 c8 f7 f8
    obtain ⟨⟨c0, c1, c2, c3, c4, c5, c6, c7, c8⟩, f7, f8⟩ := nine H2.out.blk
    go_wp2
    go_end0
    have t2 : Turns (· = A.o) w2 (w2.setCell ⟨A.o, 8, none⟩ (.int .i64 0)) := Turns.setCell (S := (· = A.o)) (Turns.refl _ w2) (p := ⟨A.o, 8, none⟩) (.inl rfl) _
    have hb2 : Blk (w2.setCell ⟨A.o, 8, none⟩ (.int .i64 0)) A.o (cells ⟨e.frames, e.bytes, e.age, e.most, e.guard, e.credit - n, 0, e.L, drr.takeS n e.s⟩ A) OB := H2.out.blk.set 8 _
    refine ⟨rfl, by rw [HE.out]; exact H2.out.cr (by omega) (by omega) t2 hb2, ?_⟩
    exact ((HT1.out.mono (fun i _ hi => .inl hi)).trans (HL.out.2.mono (fun i _ hi => .inl (.inr hi)))).trans (t2.mono (fun i _ hi => .inl (.inl hi)))
end Go.Proofs.YtcppibjllaablaaGreat.egr

/-
  egress.Out: what its calls leave of everything else.
-/
namespace Go.Proofs.YtcppibjllaablaaGreat.egr
open Go.RowKit mem Go.Maps
open Go.Proofs.YtcppibjllaablaaGreat.itr
set_option linter.unusedVariables false

/-- all of an outlet lies at b or behind it -/
structure Lo (b : Nat) (A : Ad) (e : Eo) : Prop where
  o : b ≤ A.o
  m : b ≤ A.mb
  s : b ≤ A.sp
  t : b ≤ A.smb
  q : ∀ f ∈ e.L, b ≤ f.qb ∧ ∀ x, f.pv.ownBlock = some x → b ≤ x
  g : ∀ f ∈ e.s.L, b ≤ f.b
theorem Made.lo {w w' : World} {A : Ad} {k : Nat} {e : Eo} (h : Made w w' A k e) : Lo w.heap.size A e := ⟨h.o0, h.m0, h.s0, h.t0, fun f hf => (h.f0 f hf).2, h.g0⟩
theorem Lo.setQ {b : Nat} {A : Ad} {e : Eo} {f : Ef} {w : World} (h : Lo b A e) (hf : f ∈ e.L) (hw : b ≤ w.heap.size) {pv' : Value} {q' : que.Q} (hl : pv'.ownBlock = f.pv.ownBlock ∨ ∃ g, pv'.ownBlock = some g ∧ w.heap.size ≤ g) {c r : Int} : Lo b A ⟨e.frames, e.bytes, e.age, e.most, e.guard, c, r, setQ e.L f.id pv' q', e.s⟩ := by
  refine ⟨h.o, h.m, h.s, h.t, fun g hg => ?_, h.g⟩
  obtain ⟨g', hg', rfl⟩ := setQ_mem hg
  split
  · refine ⟨(h.q g' hg').1, fun x hx => ?_⟩
    rcases hl with e2 | ⟨y, e2, hy⟩
    · exact (h.q f hf).2 x (by rw [← e2]; exact hx)
    · have hx' : some y = some x := by rw [← e2]; exact hx
      injection hx' with hx'
      omega
  · exact h.q g' hg'
theorem Lo.sim {b : Nat} {A : Ad} {e : Eo} (h : Lo b A e) {s' : drr.Sc} (k : drr.Sim e.s s') {c r : Int} : Lo b A ⟨e.frames, e.bytes, e.age, e.most, e.guard, c, r, e.L, s'⟩ := by
  refine ⟨h.o, h.m, h.s, h.t, h.q, fun g hg => ?_⟩
  obtain ⟨_, F, e2⟩ := k
  have hg2 : g ∈ s'.L := hg
  rw [e2] at hg2
  obtain ⟨g', hg', rfl⟩ := drr.upd_mem hg2
  exact h.g g' hg'
/-- what is of another type stays; so do other maps; nothing ahead of b turns -/
structure Sf (b : Nat) (A : Ad) (w w' : World) : Prop where
  t : Turns (fun i => b ≤ i) w w'
  c : ∀ (r : Nat) (cs : Array Value) (T : TypeId), Blk w r cs T → T ≠ OB → T ≠ 170 → T ≠ 67 → T ≠ 174 → T ≠ 178 → w'.heap[r]? = w.heap[r]?
section
variable {b : Nat} {A : Ad} {w w1 w2 w' : World} {k : Nat} {e : Eo}
theorem Sf.refl (b : Nat) (A : Ad) (w : World) : Sf b A w w := ⟨Turns.refl _ _, fun _ _ _ _ _ _ _ _ _ => rfl⟩
theorem Sf.trans (h : Sf b A w w1) (h2 : Sf b A w1 w2) : Sf b A w w2 :=
  ⟨h.t.trans (h2.t.mono (fun _ _ hi => .inl hi)), fun r cs T hb a1 a2 a3 a4 a5 => by
    have e1 := h.c r cs T hb a1 a2 a3 a4 a5
    have hb1 : Blk w1 r cs T := by unfold Blk at hb ⊢; rw [e1]; exact hb
    rw [h2.c r cs T hb1 a1 a2 a3 a4 a5, e1]⟩
theorem Sf.new (n : New w w') : Sf b A w w' := ⟨n.mono (fun _ _ h => h.elim), fun r cs T hb _ _ _ _ _ => n.block r hb.lt (fun h => h)⟩
theorem Sf.of (t : Turns (fun i => b ≤ i) w w') {S : Nat → Prop} (t2 : Turns S w w') (hS : ∀ (r : Nat) (cs : Array Value) (T : TypeId), Blk w r cs T → T ≠ OB → T ≠ 170 → T ≠ 67 → T ≠ 174 → T ≠ 178 → ¬ S r) : Sf b A w w' :=
  ⟨t, fun r cs T hb a1 a2 a3 a4 a5 => t2.block r hb.lt (hS r cs T hb a1 a2 a3 a4 a5)⟩
theorem Sf.out (h : Es w A k e) (l : Lo b A e) (t : Turns (· = A.o) w w') : Sf b A w w' :=
  Sf.of (t.mono (fun i _ hi => by rw [hi]; exact l.o)) t (fun r cs T hb a1 _ _ _ _ hi => blk_ne hb h.blk a1 hi)
theorem Sf.que (h : Es w A k e) (l : Lo b A e) {f : Ef} (hf : f ∈ e.L) (t : Turns (que.Foot f.qb f.pv) w w') : Sf b A w w' :=
  Sf.of (t.mono (fun i _ hi => by rcases hi with hi | hi; rw [hi]; exact (l.q f hf).1; exact (l.q f hf).2 i hi)) t (fun r cs T hb _ a2 a3 _ _ hi => by
    rcases hi with hi | hi
    · exact blk_ne hb (h.qs f hf).blk a2 hi
    · exact own_ne (h.qs f hf).own hb (fun e3 => a3 e3.symm) hi)
theorem drr_lo (l : Lo b A e) : ∀ i, drr.Foot A.sp A.smb e.s i → b ≤ i := fun i hi => by
  rcases hi with hi | hi | ⟨f, hf, hi⟩
  · rw [hi]; exact l.s
  · rw [hi]; exact l.t
  · rw [← hi]; exact l.g f hf
theorem drr_off (h : Es w A k e) {r : Nat} {cs : Array Value} {T : TypeId} (hb : Blk w r cs T) (a4 : T ≠ 174) (a5 : T ≠ 178) : ¬ drr.Foot A.sp A.smb e.s r := fun hi => by
  obtain ⟨c, D, _, hss⟩ := h.sch
  rcases hi with hi | hi | ⟨f, hf, hi⟩
  · exact blk_ne hb hss.blk a4 hi
  · exact ownsMap_ne hss.map hb hi.symm
  · exact blk_ne hb (hss.fb f hf) a5 hi.symm
theorem Sf.drr (h : Es w A k e) (l : Lo b A e) (t : Turns (drr.Foot A.sp A.smb e.s) w w') : Sf b A w w' :=
  Sf.of (t.mono (fun i _ hi => drr_lo l i hi)) t (fun r cs T hb _ _ _ a4 a5 => drr_off h hb a4 a5)
theorem Sf.outdrr (h : Es w A k e) (l : Lo b A e) (t : Turns (FootO A e) w w') : Sf b A w w' :=
  Sf.of (t.mono (fun i _ hi => by rcases hi with hi | hi; rw [hi]; exact l.o; exact drr_lo l i hi)) t (fun r cs T hb a1 _ _ a4 a5 hi => by
    rcases hi with hi | hi
    · exact blk_ne hb h.blk a1 hi
    · exact drr_off h hb a4 a5 hi)
theorem Sf.maps (h : Es w A k e) (l : Lo b A e) (t : Turns (fun i => i = A.mb ∨ i = A.smb) w w') : Sf b A w w' := by
  obtain ⟨c, D, _, hm, _⟩ := h.map
  obtain ⟨c2, D2, _, hss⟩ := h.sch
  exact Sf.of (t.mono (fun i _ hi => by rcases hi with hi | hi; rw [hi]; exact l.m; rw [hi]; exact l.t)) t (fun r cs T hb _ _ _ _ _ hi => by
    rcases hi with hi | hi
    · exact ownsMap_ne hm hb hi.symm
    · exact ownsMap_ne hss.map hb hi.symm)
/-- a row of another type -/
theorem Sf.row (h : Sf b A w w') {α : Type} {E : Enc α} {T : TypeId} {v : Value} {l : List α} (ho : Owns E T w v l) (a1 : T ≠ OB) (a2 : T ≠ 170) (a3 : T ≠ 67) (a4 : T ≠ 174) (a5 : T ≠ 178) : Owns E T w' v l := by
  refine ⟨ho.1, ?_⟩
  rcases ho.2 with h0 | ⟨g, cap, cur, rfl, hb, hg, r⟩
  · exact .inl h0
  · exact .inr ⟨g, cap, cur, rfl, hb, by rw [h.c g cur T hg a1 a2 a3 a4 a5]; exact hg, r⟩
theorem Sf.blk (h : Sf b A w w') {r : Nat} {cs : Array Value} {T : TypeId} (hb : Blk w r cs T) (a1 : T ≠ OB) (a2 : T ≠ 170) (a3 : T ≠ 67) (a4 : T ≠ 174) (a5 : T ≠ 178) : Blk w' r cs T := by
  have e := h.c r cs T hb a1 a2 a3 a4 a5
  unfold Blk at hb ⊢
  rw [e]; exact hb
end
end Go.Proofs.YtcppibjllaablaaGreat.egr

/-
  egress.Out: what a Run does, item by item. Pure.
-/
namespace Go.Proofs.YtcppibjllaablaaGreat.egr
open Go.RowKit mem Go.Maps
open Go.Proofs.YtcppibjllaablaaGreat.itr
set_option linter.unusedVariables false

theorem choose_mem {s : drr.Sc} {l : drr.Hs} (hl : l ≠ []) (h : s.ok) (ok : drr.Ok s l) : (drr.chooseS l s).turn ∈ drr.ids l := by
  obtain ⟨h1, h2, h3⟩ := h.fir hl ok
  have hid : drr.ids l ≠ [] := fun e => hl (by unfold drr.ids at e; exact List.map_eq_nil_iff.1 e)
  cases l with
  | nil => exact absurd rfl hl
  | cons x t =>
    show (drr.runS (x :: t) (drr.firS (x :: t) s)).turn ∈ _
    unfold drr.runS
    split
    · rw [(drr.grant_turn _).1]
      exact drr.nextId_mem hid _
    · rw [(drr.grant_turn _).1]
      exact h2
/-- the flow whose turn it is has an item -/
theorem Es.next_flow {w : World} {A : Ad} {k : Nat} {e : Eo} (h : Es w A k e) (hn : (nextS e).2.1 = true) : ∃ f ∈ e.L, f.id = (nextS e).1 ∧ ∃ x, f.q.L[0]? = some x := by
  have hk := nx_ok e.L (idS e.L)
  obtain ⟨c, D, _, hss⟩ := h.sch
  have hok := h.ok_heads
  unfold nextS at hn ⊢
  generalize nx e.L (idS e.L) = s at *
  split
  next h1 =>
    obtain ⟨y, hy⟩ := Option.isSome_iff_exists.1 h1.1
    obtain ⟨f, hf, h2, _, h3⟩ := hk.b y hy
    exact ⟨f, hf, by rw [hy]; exact h2, _, h3⟩
  next h1 =>
    rw [if_neg h1] at hn
    split
    next h2 => rw [if_pos h2] at hn; cases hn
    next h2 =>
      have hm := choose_mem h2 hss.ok hok
      obtain ⟨y, hy, he⟩ := List.mem_map.1 hm
      obtain ⟨f, hf, h3, _, x, h4, _⟩ := hk.h y hy
      exact ⟨f, hf, h3.trans he, x, h4⟩
theorem next_sim (e : Eo) : drr.Sim e.s (nextS e).2.2 := by
  unfold nextS
  split
  · exact drr.Sim.refl _
  · split
    · exact drr.Sim.choose _ _
    · exact drr.Sim.choose _ _
def afterN (e : Eo) : Eo := ⟨e.frames, e.bytes, e.age, e.most, e.guard, e.credit, e.row, e.L, (nextS e).2.2⟩
def goneE (e : Eo) (f : Ef) (x : que.It) (pv : Value) : Eo := countE ⟨e.frames, e.bytes, e.age, e.most, e.guard, e.credit, e.row, setQ e.L f.id pv ⟨f.q.frames, f.q.most, f.q.L.drop 1, f.q.broken⟩, (nextS e).2.2⟩ x.size f.video
inductive Steps : Eo → List Snt → Eo → Prop
  | nil (e : Eo) : Steps e [] e
  | snoc {e : Eo} {l : List Snt} {e1 : Eo} {f : Ef} {x : que.It} (pv : Value) : Steps e l e1 → (nextS e1).2.1 = true → f ∈ e1.L → f.id = (nextS e1).1 → f.q.L[0]? = some x → x.size ≤ e1.credit → Steps e (l ++ [⟨f.id, x⟩]) (goneE e1 f x pv)
/-- a Run: it ends where nothing waits, or where there is no credit for what is next -/
def Ran (e : Eo) (l : List Snt) (e' : Eo) : Prop := ∃ e1, Steps e l e1 ∧ e' = afterN e1 ∧ ((nextS e1).2.1 = false ∨ ∃ f x, (nextS e1).2.1 = true ∧ f ∈ e1.L ∧ f.id = (nextS e1).1 ∧ f.q.L[0]? = some x ∧ e1.credit < x.size)
/-- how many items wait -/
def Tot (L : List Ef) : Nat := (L.map (fun f => f.q.L.length)).sum
theorem tot_same {L : List Ef} {id : Int} {pv : Value} {q : que.Q} (h : ∀ f ∈ L, f.id ≠ id) : setQ L id pv q = L := by
  unfold setQ
  have : ∀ f ∈ L, (if f.id = id then (⟨f.id, f.fb, f.video, f.qb, pv, q⟩ : Ef) else f) = f := fun f hf => if_neg (h f hf)
  rw [List.map_congr_left this, List.map_id']
theorem tot_set {L : List Ef} (h : Ap L) {f : Ef} (hf : f ∈ L) (pv : Value) (q : que.Q) : Tot (setQ L f.id pv q) + f.q.L.length = Tot L + q.L.length := by
  induction L with
  | nil => cases hf
  | cons g l ih =>
    obtain ⟨h1, h2⟩ := List.pairwise_cons.1 h
    have hs : setQ (g :: l) f.id pv q = (if g.id = f.id then (⟨g.id, g.fb, g.video, g.qb, pv, q⟩ : Ef) else g) :: setQ l f.id pv q := rfl
    rcases List.mem_cons.1 hf with e | hf
    · subst e
      have hl : setQ l f.id pv q = l := tot_same (fun y hy e2 => (h1 y hy).1 e2.symm)
      rw [hs, if_pos rfl, hl]
      unfold Tot
      rw [List.map_cons, List.map_cons, List.sum_cons, List.sum_cons]
      show q.L.length + _ + f.q.L.length = f.q.L.length + _ + q.L.length
      omega
    · have hne : ¬ g.id = f.id := fun e2 => (h1 f hf).1 e2
      have := ih h2 hf
      rw [hs, if_neg hne]
      unfold Tot at this ⊢
      rw [List.map_cons, List.map_cons, List.sum_cons, List.sum_cons]
      omega
theorem setQ_idm (L : List Ef) (id : Int) (pv : Value) (q : que.Q) : (setQ L id pv q).map (·.id) = L.map (·.id) := by
  unfold setQ
  rw [List.map_map]
  refine List.map_congr_left (fun f hf => ?_)
  show (if f.id = id then (⟨f.id, f.fb, f.video, f.qb, pv, q⟩ : Ef) else f).id = f.id
  split <;> rfl
theorem setQ_idS (L : List Ef) (id : Int) (pv : Value) (q : que.Q) : idS (setQ L id pv q) = idS L := by unfold idS; rw [setQ_idm]
theorem count_L (e : Eo) (n : Int) (v : Bool) : (countE e n v).L = e.L := by unfold countE; split <;> rfl
theorem count_row (e : Eo) (n : Int) (v : Bool) (h : 0 ≤ e.row) : 0 ≤ (countE e n v).row ∧ (countE e n v).row ≤ e.row + 1 := by
  unfold countE
  split
  · exact ⟨Int.le_refl _, by show (0 : Int) ≤ _; omega⟩
  · exact ⟨by show 0 ≤ e.row + 1; omega, Int.le_refl _⟩
theorem gone_L (e : Eo) (f : Ef) (x : que.It) (pv : Value) : (goneE e f x pv).L = setQ e.L f.id pv ⟨f.q.frames, f.q.most, f.q.L.drop 1, f.q.broken⟩ := count_L _ _ _
theorem gone_row (e : Eo) (f : Ef) (x : que.It) (pv : Value) (h : 0 ≤ e.row) : 0 ≤ (goneE e f x pv).row ∧ (goneE e f x pv).row ≤ e.row + 1 := count_row _ _ _ h
theorem Lo.count {b : Nat} {A : Ad} {e : Eo} (h : Lo b A e) (n : Int) (v : Bool) : Lo b A (countE e n v) := by
  unfold countE
  split
  · exact h.sim (drr.Sim.take _ _)
  · exact ⟨h.o, h.m, h.s, h.t, h.q, h.g⟩
end Go.Proofs.YtcppibjllaablaaGreat.egr

/-
  egress.Out: a Run as a function, of what an outlet is without its places in memory. Pure.
-/
namespace Go.Proofs.YtcppibjllaablaaGreat.egr
open Go.RowKit mem Go.Maps
open Go.Proofs.YtcppibjllaablaaGreat.itr
set_option linter.unusedVariables false

def eB (f : drr.Fl) : drr.Fl := ⟨f.id, 0, f.share, f.left⟩
def eS (s : drr.Sc) : drr.Sc := ⟨s.most, s.L.map eB, s.turn, s.g⟩
theorem eB_upd (L : List drr.Fl) (F G : drr.Fl → Int) (h : ∀ f, F f = G (eB f)) : (drr.upd L F).map eB = drr.upd (L.map eB) G := by
  unfold drr.upd
  rw [List.map_map, List.map_map]
  refine List.map_congr_left (fun f _ => ?_)
  show eB ⟨f.id, f.b, f.share, F f⟩ = ⟨(eB f).id, (eB f).b, (eB f).share, G (eB f)⟩
  rw [h f]; rfl
theorem eB_fnd (L : List drr.Fl) (id : Int) : drr.fnd (L.map eB) id = (drr.fnd L id).map eB := by
  unfold drr.fnd
  rw [List.find?_map]
  rfl
theorem eS_left (s : drr.Sc) (id : Int) : drr.leftOf (eS s) id = drr.leftOf s id := by
  show (match drr.fnd (s.L.map eB) id with | some f => f.left | none => 0) = drr.leftOf s id
  unfold drr.leftOf
  rw [eB_fnd]
  cases drr.fnd s.L id <;> rfl
theorem eS_grant (s : drr.Sc) : eS (drr.grantS s) = drr.grantS (eS s) := by
  unfold drr.grantS
  show eS (if s.g = true then s else _) = if s.g = true then eS s else _
  split
  · rfl
  · show (⟨s.most, (drr.upd s.L _).map eB, s.turn, true⟩ : drr.Sc) = ⟨s.most, drr.upd (s.L.map eB) _, s.turn, true⟩
    exact congrArg (fun L => (⟨s.most, L, s.turn, true⟩ : drr.Sc)) (eB_upd s.L (fun f => if f.id = s.turn then f.left + f.share else f.left) (fun f => if f.id = s.turn then f.left + f.share else f.left) (fun f => rfl))
theorem eS_pass (l : drr.Hs) (s : drr.Sc) : eS (drr.passS l s) = drr.passS l (eS s) := rfl
theorem eS_beg (l : drr.Hs) (s : drr.Sc) : eS (drr.begS l s) = drr.begS l (eS s) := by
  show (⟨s.most, (drr.upd s.L _).map eB, s.turn, s.g⟩ : drr.Sc) = ⟨s.most, drr.upd (s.L.map eB) _, s.turn, s.g⟩
  exact congrArg (fun L => (⟨s.most, L, s.turn, s.g⟩ : drr.Sc)) (eB_upd s.L (drr.forgetF l) (drr.forgetF l) (fun f => rfl))
theorem eS_low (l : drr.Hs) (s : drr.Sc) : drr.lowS l (eS s) = drr.lowS l s := by
  unfold drr.lowS
  rw [← eS_grant, eS_left]
  rfl
theorem eS_run (l : drr.Hs) (s : drr.Sc) : eS (drr.runS l s) = drr.runS l (eS s) := by
  unfold drr.runS
  rw [eS_low]
  split
  · rw [eS_grant, eS_pass, eS_grant]
  · rw [eS_grant]
theorem eS_fir (l : drr.Hs) (s : drr.Sc) : eS (drr.firS l s) = drr.firS l (eS s) := by
  unfold drr.firS
  show eS (if s.turn ∈ drr.ids l then _ else _) = if s.turn ∈ drr.ids l then _ else _
  split
  · exact eS_beg _ _
  · rw [eS_pass, eS_beg]
theorem eS_choose (l : drr.Hs) (s : drr.Sc) : eS (drr.chooseS l s) = drr.chooseS l (eS s) := by
  cases l with
  | nil =>
    show (⟨s.most, (drr.upd s.L _).map eB, s.turn, false⟩ : drr.Sc) = ⟨s.most, drr.upd (s.L.map eB) _, s.turn, false⟩
    exact congrArg (fun L => (⟨s.most, L, s.turn, false⟩ : drr.Sc)) (eB_upd s.L (drr.forgetF []) (drr.forgetF []) (fun f => rfl))
  | cons x t =>
    show eS (drr.runS (x :: t) (drr.firS (x :: t) s)) = drr.runS (x :: t) (drr.firS (x :: t) (eS s))
    rw [eS_run, eS_fir]
theorem eS_take (n : Int) (s : drr.Sc) : eS (drr.takeS n s) = drr.takeS n (eS s) := by
  unfold drr.takeS
  rw [eS_left]
  show eS (if s.g = true ∧ 0 ≤ n ∧ n ≤ drr.leftOf s s.turn then _ else s) = if s.g = true ∧ 0 ≤ n ∧ n ≤ drr.leftOf s s.turn then _ else _
  split
  · show (⟨s.most, (drr.upd s.L _).map eB, s.turn, s.g⟩ : drr.Sc) = ⟨s.most, drr.upd (s.L.map eB) _, s.turn, s.g⟩
    exact congrArg (fun L => (⟨s.most, L, s.turn, s.g⟩ : drr.Sc)) (eB_upd s.L (fun f => if f.id = s.turn then f.left - n else f.left) (fun f => if f.id = s.turn then f.left - n else f.left) (fun f => rfl))
  · rfl

def eF (f : Ef) : Ef := ⟨f.id, 0, f.video, 0, .slice none 0 0, f.q⟩
def eE (e : Eo) : Eo := ⟨e.frames, e.bytes, e.age, e.most, e.guard, e.credit, e.row, e.L.map eF, eS e.s⟩
theorem eF_fnd (L : List Ef) (id : Int) : fnd (L.map eF) id = (fnd L id).map eF := by
  unfold fnd
  rw [List.find?_map]
  rfl
theorem eF_nx (L : List Ef) (l : List Int) : nx (L.map eF) l = nx L l := by
  have h : stepN (L.map eF) = stepN L := by
    funext s id
    unfold stepN
    rw [eF_fnd]
    cases fnd L id <;> rfl
  unfold nx
  rw [h]
theorem eF_setQ (L : List Ef) (id : Int) (pv pv' : Value) (q : que.Q) : (setQ L id pv q).map eF = (setQ (L.map eF) id pv' q).map eF := by
  unfold setQ
  rw [List.map_map, List.map_map, List.map_map]
  refine List.map_congr_left (fun f _ => ?_)
  show eF (if f.id = id then _ else f) = eF (if f.id = id then _ else eF f)
  split <;> rfl
def nextI (ids : List Int) (e : Eo) : Int × Bool × drr.Sc :=
  if (nx e.L ids).b.isSome = true ∧ (e.row < e.guard ∨ (nx e.L ids).H = []) then ((sdef (nx e.L ids).b).id, true, e.s)
  else if (nx e.L ids).H = [] then (0, false, drr.chooseS [] e.s)
  else ((drr.chooseS (nx e.L ids).H e.s).turn, true, drr.chooseS (nx e.L ids).H e.s)
theorem nextI_er (ids : List Int) (e : Eo) : nextI ids (eE e) = ((nextI ids e).1, (nextI ids e).2.1, eS (nextI ids e).2.2) := by
  unfold nextI
  show (if (nx (e.L.map eF) ids).b.isSome = true ∧ (e.row < e.guard ∨ (nx (e.L.map eF) ids).H = []) then ((sdef (nx (e.L.map eF) ids).b).id, true, eS e.s)
  else if (nx (e.L.map eF) ids).H = [] then (0, false, drr.chooseS [] (eS e.s))
  else ((drr.chooseS (nx (e.L.map eF) ids).H (eS e.s)).turn, true, drr.chooseS (nx (e.L.map eF) ids).H (eS e.s))) = _
  rw [eF_nx, ← eS_choose, ← eS_choose]
  split
  · rfl
  · split <;> rfl
def afterI (ids : List Int) (e : Eo) : Eo := ⟨e.frames, e.bytes, e.age, e.most, e.guard, e.credit, e.row, e.L, (nextI ids e).2.2⟩
theorem after_er (ids : List Int) (e : Eo) : afterI ids (eE e) = eE (afterI ids e) := by
  unfold afterI
  rw [nextI_er]; rfl
def goneI (ids : List Int) (e : Eo) (f : Ef) (x : que.It) : Eo := countE ⟨e.frames, e.bytes, e.age, e.most, e.guard, e.credit, e.row, setQ e.L f.id (.slice none 0 0) ⟨f.q.frames, f.q.most, f.q.L.drop 1, f.q.broken⟩, (nextI ids e).2.2⟩ x.size f.video
theorem gone_er (e : Eo) (f : Ef) (x : que.It) (pv : Value) : eE (goneE e f x pv) = eE (goneI (idS e.L) (eE e) (eF f) x) := by
  unfold goneE goneI countE
  rw [nextI_er]
  show eE (if f.video = true then _ else _) = eE (if f.video = true then _ else _)
  have h1 := eF_setQ e.L f.id pv (.slice none 0 0) ⟨f.q.frames, f.q.most, f.q.L.drop 1, f.q.broken⟩
  split
  · unfold eE
    dsimp only
    rw [h1, eS_take, eS_take]
    congr 1
    unfold eS
    dsimp only
    rw [List.map_map]
    congr 1
  · unfold eE
    dsimp only
    rw [h1]
    congr 1
    unfold eS
    dsimp only
    rw [List.map_map]
    congr 1
/-- one item goes -/
def stepR (ids : List Int) (e : Eo) : Option (Snt × Eo) :=
  if (nextI ids e).2.1 = true then
    match fnd e.L (nextI ids e).1 with
    | none => none
    | some f => match f.q.L with
      | [] => none
      | x :: _ => if e.credit < x.size then none else some (⟨f.id, x⟩, eE (goneI ids e f x))
  else none
def runR (ids : List Int) : Nat → Eo → List Snt × Eo
  | 0, e => ([], afterI ids e)
  | n + 1, e => match stepR ids e with
    | none => ([], afterI ids e)
    | some (s, e') => (s :: (runR ids n e').1, (runR ids n e').2)
def Nd (L : List Ef) : Prop := (L.map (·.id)).Pairwise (· ≠ ·)
theorem Ap.nd {L : List Ef} (h : Ap L) : Nd L := List.pairwise_map.2 (h.imp (fun h => h.1))
theorem Nd.fnd {L : List Ef} (h : Nd L) {f : Ef} (hf : f ∈ L) : egr.fnd L f.id = some f := by
  have h2 := List.pairwise_map.1 h
  clear h
  induction L with
  | nil => cases hf
  | cons g l ih =>
    obtain ⟨h3, h4⟩ := List.pairwise_cons.1 h2
    unfold egr.fnd at ih ⊢
    rw [List.find?_cons]
    rcases List.mem_cons.1 hf with e | hf
    · subst e; simp
    · have : (g.id == f.id) = false := by simpa using h3 f hf
      rw [this]
      exact ih hf h4
theorem Steps.nd {e e1 : Eo} {l : List Snt} (h : Steps e l e1) (hn : Nd e.L) : Nd e1.L ∧ idS e1.L = idS e.L := by
  induction h with
  | nil => exact ⟨hn, rfl⟩
  | snoc pv h1 h2 h3 h4 h5 h6 ih =>
    obtain ⟨i1, i2⟩ := ih
    refine ⟨?_, by rw [gone_L, setQ_idS]; exact i2⟩
    unfold Nd at i1 ⊢
    rw [gone_L, setQ_idm]
    exact i1
theorem eE_id (e : Eo) : idS (eE e).L = idS e.L := by
  show idS (e.L.map eF) = _
  unfold idS
  rw [List.map_map]; rfl
theorem stepR_some {e1 : Eo} (hn : Nd e1.L) {f : Ef} {x : que.It} (pv : Value) (h2 : (nextS e1).2.1 = true) (h3 : f ∈ e1.L) (h4 : f.id = (nextS e1).1) (h5 : f.q.L[0]? = some x) (h6 : x.size ≤ e1.credit) : stepR (idS e1.L) (eE e1) = some (⟨f.id, x⟩, eE (goneE e1 f x pv)) := by
  have hs : nextS e1 = nextI (idS e1.L) e1 := rfl
  unfold stepR
  rw [nextI_er, ← hs]
  dsimp only
  rw [if_pos h2, ← h4]
  show (match egr.fnd (e1.L.map eF) f.id with | none => none | some f' => _) = _
  rw [eF_fnd, hn.fnd h3, gone_er e1 f x pv]
  show (match f.q.L with | [] => none | y :: _ => _) = _
  cases hq : f.q.L with
  | nil => rw [hq] at h5; cases h5
  | cons y t =>
    rw [hq] at h5
    obtain rfl : y = x := by simpa using h5
    show (if e1.credit < y.size then none else _) = _
    rw [if_neg (by omega)]
    rfl
theorem stepR_none {e1 : Eo} (hn : Nd e1.L) (h : (nextS e1).2.1 = false ∨ ∃ f x, (nextS e1).2.1 = true ∧ f ∈ e1.L ∧ f.id = (nextS e1).1 ∧ f.q.L[0]? = some x ∧ e1.credit < x.size) : stepR (idS e1.L) (eE e1) = none := by
  have hs : nextS e1 = nextI (idS e1.L) e1 := rfl
  unfold stepR
  rw [nextI_er, ← hs]
  dsimp only
  rcases h with h | ⟨f, x, h2, h3, h4, h5, h6⟩
  · rw [if_neg (by rw [h]; decide)]
  · rw [if_pos h2, ← h4]
    show (match egr.fnd (e1.L.map eF) f.id with | none => none | some f' => _) = _
    rw [eF_fnd, hn.fnd h3]
    show (match f.q.L with | [] => none | y :: _ => _) = _
    cases hq : f.q.L with
    | nil => rfl
    | cons y t =>
      rw [hq] at h5
      obtain rfl : y = x := by simpa using h5
      show (if e1.credit < y.size then none else _) = _
      rw [if_pos h6]
theorem Steps.run {e e1 : Eo} {l : List Snt} (h : Steps e l e1) (hn : Nd e.L) : ∀ m, runR (idS e.L) (l.length + m) (eE e) = (l ++ (runR (idS e.L) m (eE e1)).1, (runR (idS e.L) m (eE e1)).2) := by
  induction h with
  | nil => intro m; simp
  | snoc pv h1 h2 h3 h4 h5 h6 ih =>
    intro m
    obtain ⟨i1, i2⟩ := h1.nd hn
    have hst := stepR_some i1 pv h2 h3 h4 h5 h6
    rw [i2] at hst
    rw [List.length_append, List.length_singleton, Nat.add_assoc, ih (1 + m), Nat.add_comm 1 m]
    show (_ ++ (match stepR _ _ with | none => _ | some (s, e') => _ : List Snt × Eo).1, (match stepR _ _ with | none => _ | some (s, e') => _ : List Snt × Eo).2) = _
    rw [hst]
    simp
/-- a Run is what the function says -/
theorem Ran.run {e e' : Eo} {l : List Snt} (h : Ran e l e') (hn : Nd e.L) (m : Nat) : runR (idS e.L) (l.length + m) (eE e) = (l, eE e') := by
  obtain ⟨e1, h1, rfl, h2⟩ := h
  obtain ⟨i1, i2⟩ := h1.nd hn
  have hst := stepR_none i1 h2
  rw [i2] at hst
  have hs : afterI (idS e.L) (eE e1) = eE (afterN e1) := by rw [after_er, ← i2]; rfl
  rw [h1.run hn]
  cases m with
  | zero =>
    show (l ++ [], afterI (idS e.L) (eE e1)) = _
    rw [List.append_nil, hs]
  | succ m =>
    show (l ++ (match stepR _ _ with | none => _ | some (s, e') => _ : List Snt × Eo).1, (match stepR _ _ with | none => _ | some (s, e') => _ : List Snt × Eo).2) = _
    rw [hst]
    show (l ++ [], afterI (idS e.L) (eE e1)) = _
    rw [List.append_nil, hs]
end Go.Proofs.YtcppibjllaablaaGreat.egr

/-
  AntiphonShares: two flows of pictures that always have something. Pure: the schedule (Dr), what a Run takes.
-/
namespace Go.Proofs.YtcppibjllaablaaGreat.egr
open Go.RowKit mem
open Go.Proofs.YtcppibjllaablaaGreat.itr
set_option linter.unusedVariables false

/-- the schedule of the flows 1 and 2, that have sent u1 and u2 -/
structure Dr (p q : Int) (s : drr.Sc) (u1 u2 : Int) : Prop where
  L : ∃ b1 b2 l1 l2, s.L = [⟨1, b1, p, l1⟩, ⟨2, b2, q, l2⟩] ∧ 0 ≤ l1 ∧ 0 ≤ l2 ∧
    ((s.turn = 0 ∧ s.g = false ∧ l1 = 0 ∧ l2 = 0 ∧ u1 = 0 ∧ u2 = 0) ∨
     (∃ c : Int, s.turn = 1 ∧ s.g = true ∧ u1 + l1 = (c + 1) * p ∧ u2 + l2 = c * q ∧ l1 < 40 + p ∧ l2 < 40) ∨
     (∃ c : Int, s.turn = 2 ∧ s.g = true ∧ u1 + l1 = (c + 1) * p ∧ u2 + l2 = (c + 1) * q ∧ l1 < 40 ∧ l2 < 40 + q))
theorem Dr.bound {p q u1 u2 : Int} {s : drr.Sc} (h : Dr p q s u1 u2) (hp : 40 ≤ p) (hq : 40 ≤ q) : u1 * q - u2 * p ≤ p * q + 40 * p + 40 * q ∧ -(u1 * q - u2 * p) ≤ p * q + 40 * p + 40 * q := by
  obtain ⟨b1, b2, l1, l2, _, h1, h2, h3⟩ := h.L
  have hpq : 0 ≤ p * q := Int.mul_nonneg (by omega) (by omega)
  rcases h3 with ⟨_, _, _, _, rfl, rfl⟩ | ⟨c, _, _, e1, e2, k1, k2⟩ | ⟨c, _, _, e1, e2, k1, k2⟩
  · simp only [Int.zero_mul]; omega
  · obtain rfl : u1 = (c + 1) * p - l1 := by omega
    obtain rfl : u2 = c * q - l2 := by omega
    have hd : ((c + 1) * p - l1) * q - (c * q - l2) * p = p * q - l1 * q + l2 * p := by
      rw [Int.sub_mul, Int.sub_mul, Int.add_mul, Int.add_mul, Int.one_mul, Int.mul_assoc, Int.mul_assoc, Int.mul_comm q p]
      omega
    rw [hd]
    have m1 : 0 ≤ l1 * q := Int.mul_nonneg h1 (by omega)
    have m2 : 0 ≤ l2 * p := Int.mul_nonneg h2 (by omega)
    have m3 : l1 * q ≤ (40 + p) * q := Int.mul_le_mul_of_nonneg_right (by omega) (by omega)
    have m4 : l2 * p ≤ 40 * p := Int.mul_le_mul_of_nonneg_right (by omega) (by omega)
    rw [Int.add_mul] at m3
    omega
  · obtain rfl : u1 = (c + 1) * p - l1 := by omega
    obtain rfl : u2 = (c + 1) * q - l2 := by omega
    have hd : ((c + 1) * p - l1) * q - ((c + 1) * q - l2) * p = l2 * p - l1 * q := by
      rw [Int.sub_mul, Int.sub_mul, Int.mul_assoc, Int.mul_assoc, Int.mul_comm q p]
      omega
    rw [hd]
    have m1 : 0 ≤ l1 * q := Int.mul_nonneg h1 (by omega)
    have m2 : 0 ≤ l2 * p := Int.mul_nonneg h2 (by omega)
    have m3 : l1 * q ≤ 40 * q := Int.mul_le_mul_of_nonneg_right (by omega) (by omega)
    have m4 : l2 * p ≤ (40 + q) * p := Int.mul_le_mul_of_nonneg_right (by omega) (by omega)
    rw [Int.add_mul, Int.mul_comm q p] at m4
    omega
abbrev H2 (z : Int) : drr.Hs := [(1, z), (2, z)]
theorem ids2 (z : Int) : drr.ids (H2 z) = [1, 2] := rfl
theorem next1 : drr.nextId [1, 2] 1 = 2 := by decide
theorem next2 : drr.nextId [1, 2] 2 = 1 := by decide
theorem next0 : drr.nextId [1, 2] 0 = 1 := by decide
theorem Dr.choose {p q u1 u2 z : Int} {s : drr.Sc} (h : Dr p q s u1 u2) (hp : 40 ≤ p) (hq : 40 ≤ q) (z1 : 1 ≤ z) (z2 : z ≤ 40) :
    Dr p q (drr.chooseS (H2 z) s) u1 u2 ∧ (((drr.chooseS (H2 z) s).turn = 1 ∧ Dr p q (drr.takeS z (drr.chooseS (H2 z) s)) (u1 + z) u2) ∨ ((drr.chooseS (H2 z) s).turn = 2 ∧ Dr p q (drr.takeS z (drr.chooseS (H2 z) s)) u1 (u2 + z))) := by
  obtain ⟨most, L, turn, g⟩ := s
  obtain ⟨b1, b2, l1, l2, hL, h1, h2, h3⟩ := h.L
  dsimp only at hL h3
  subst hL
  clear h
  have C : drr.chooseS (H2 z) ⟨most, [⟨1, b1, p, l1⟩, ⟨2, b2, q, l2⟩], turn, g⟩ = drr.runS (H2 z) (drr.firS (H2 z) ⟨most, [⟨1, b1, p, l1⟩, ⟨2, b2, q, l2⟩], turn, g⟩) := rfl
  have B : drr.begS (H2 z) ⟨most, [⟨1, b1, p, l1⟩, ⟨2, b2, q, l2⟩], turn, g⟩ = ⟨most, [⟨1, b1, p, l1⟩, ⟨2, b2, q, l2⟩], turn, g⟩ := by
    unfold drr.begS
    dsimp only
    rw [drr.upd_same]
    intro f hf
    unfold drr.forgetF
    rw [ids2]
    simp at hf
    rcases hf with rfl | rfl <;> rfl
  rw [C]
  rcases h3 with ⟨rfl, rfl, rfl, rfl, rfl, rfl⟩ | ⟨c, rfl, rfl, e1, e2, k1, k2⟩ | ⟨c, rfl, rfl, e1, e2, k1, k2⟩
  · have F : drr.firS (H2 z) ⟨most, [⟨1, b1, p, 0⟩, ⟨2, b2, q, 0⟩], 0, false⟩ = ⟨most, [⟨1, b1, p, 0⟩, ⟨2, b2, q, 0⟩], 1, false⟩ := by
      unfold drr.firS
      rw [B, ids2]
      dsimp only
      rw [if_neg (show ¬ ((0 : Int) ∈ ([1, 2] : List Int)) by decide)]
      rfl
    have G : drr.grantS ⟨most, [⟨1, b1, p, 0⟩, ⟨2, b2, q, 0⟩], 1, false⟩ = ⟨most, [⟨1, b1, p, 0 + p⟩, ⟨2, b2, q, 0⟩], 1, true⟩ := rfl
    have R : drr.runS (H2 z) ⟨most, [⟨1, b1, p, 0⟩, ⟨2, b2, q, 0⟩], 1, false⟩ = ⟨most, [⟨1, b1, p, 0 + p⟩, ⟨2, b2, q, 0⟩], 1, true⟩ := by
      unfold drr.runS drr.lowS
      rw [G, if_neg]
      show ¬ decide (0 + p < z) = true
      simp; omega
    rw [F, R]
    have T : drr.takeS z ⟨most, [⟨1, b1, p, 0 + p⟩, ⟨2, b2, q, 0⟩], 1, true⟩ = ⟨most, [⟨1, b1, p, 0 + p - z⟩, ⟨2, b2, q, 0⟩], 1, true⟩ := by
      unfold drr.takeS
      rw [if_pos ⟨rfl, by omega, by show z ≤ 0 + p; omega⟩]
      rfl
    rw [T]
    refine ⟨⟨_, _, _, _, rfl, by omega, by omega, .inr (.inl ⟨0, rfl, rfl, by simp, by simp, by omega, by omega⟩)⟩, .inl ⟨rfl, ⟨_, _, _, _, rfl, by omega, by omega, .inr (.inl ⟨0, rfl, rfl, by simp; omega, by simp, by omega, by omega⟩)⟩⟩⟩
  · have F : drr.firS (H2 z) ⟨most, [⟨1, b1, p, l1⟩, ⟨2, b2, q, l2⟩], 1, true⟩ = ⟨most, [⟨1, b1, p, l1⟩, ⟨2, b2, q, l2⟩], 1, true⟩ := by
      unfold drr.firS
      rw [ids2]
      dsimp only
      rw [if_pos (show (1 : Int) ∈ ([1, 2] : List Int) by decide), B]
    rw [F]
    by_cases hl : l1 < z
    · have R : drr.runS (H2 z) ⟨most, [⟨1, b1, p, l1⟩, ⟨2, b2, q, l2⟩], 1, true⟩ = ⟨most, [⟨1, b1, p, l1⟩, ⟨2, b2, q, l2 + q⟩], 2, true⟩ := by
        unfold drr.runS drr.lowS
        rw [if_pos]
        · rfl
        · show decide (l1 < z) = true
          simp; omega
      have T : drr.takeS z ⟨most, [⟨1, b1, p, l1⟩, ⟨2, b2, q, l2 + q⟩], 2, true⟩ = ⟨most, [⟨1, b1, p, l1⟩, ⟨2, b2, q, l2 + q - z⟩], 2, true⟩ := by
        unfold drr.takeS
        rw [if_pos ⟨rfl, by omega, by show z ≤ l2 + q; omega⟩]
        rfl
      rw [R, T]
      have e3 : (c + 1) * q = c * q + q := by rw [Int.add_mul, Int.one_mul]
      refine ⟨⟨_, _, _, _, rfl, by omega, by omega, .inr (.inr ⟨c, rfl, rfl, e1, by omega, by omega, by omega⟩)⟩, .inr ⟨rfl, ⟨_, _, _, _, rfl, by omega, by omega, .inr (.inr ⟨c, rfl, rfl, e1, by omega, by omega, by omega⟩)⟩⟩⟩
    · have R : drr.runS (H2 z) ⟨most, [⟨1, b1, p, l1⟩, ⟨2, b2, q, l2⟩], 1, true⟩ = ⟨most, [⟨1, b1, p, l1⟩, ⟨2, b2, q, l2⟩], 1, true⟩ := by
        unfold drr.runS drr.lowS
        rw [if_neg]
        · rfl
        · show ¬ decide (l1 < z) = true
          simp; omega
      have T : drr.takeS z ⟨most, [⟨1, b1, p, l1⟩, ⟨2, b2, q, l2⟩], 1, true⟩ = ⟨most, [⟨1, b1, p, l1 - z⟩, ⟨2, b2, q, l2⟩], 1, true⟩ := by
        unfold drr.takeS
        rw [if_pos ⟨rfl, by omega, by show z ≤ l1; omega⟩]
        rfl
      rw [R, T]
      refine ⟨⟨_, _, _, _, rfl, by omega, by omega, .inr (.inl ⟨c, rfl, rfl, e1, e2, by omega, by omega⟩)⟩, .inl ⟨rfl, ⟨_, _, _, _, rfl, by omega, by omega, .inr (.inl ⟨c, rfl, rfl, by omega, e2, by omega, by omega⟩)⟩⟩⟩
  · have F : drr.firS (H2 z) ⟨most, [⟨1, b1, p, l1⟩, ⟨2, b2, q, l2⟩], 2, true⟩ = ⟨most, [⟨1, b1, p, l1⟩, ⟨2, b2, q, l2⟩], 2, true⟩ := by
      unfold drr.firS
      rw [ids2]
      dsimp only
      rw [if_pos (show (2 : Int) ∈ ([1, 2] : List Int) by decide), B]
    rw [F]
    by_cases hl : l2 < z
    · have R : drr.runS (H2 z) ⟨most, [⟨1, b1, p, l1⟩, ⟨2, b2, q, l2⟩], 2, true⟩ = ⟨most, [⟨1, b1, p, l1 + p⟩, ⟨2, b2, q, l2⟩], 1, true⟩ := by
        have P : drr.passS (H2 z) ⟨most, [⟨1, b1, p, l1⟩, ⟨2, b2, q, l2⟩], 2, true⟩ = ⟨most, [⟨1, b1, p, l1⟩, ⟨2, b2, q, l2⟩], 1, false⟩ := by
          unfold drr.passS
          rw [ids2]
          dsimp only
          rw [next2]
        unfold drr.runS drr.lowS
        rw [if_pos]
        · show drr.grantS (drr.passS (H2 z) ⟨most, [⟨1, b1, p, l1⟩, ⟨2, b2, q, l2⟩], 2, true⟩) = _
          rw [P]
          rfl
        · show decide (l2 < z) = true
          simp; omega
      have T : drr.takeS z ⟨most, [⟨1, b1, p, l1 + p⟩, ⟨2, b2, q, l2⟩], 1, true⟩ = ⟨most, [⟨1, b1, p, l1 + p - z⟩, ⟨2, b2, q, l2⟩], 1, true⟩ := by
        unfold drr.takeS
        rw [if_pos ⟨rfl, by omega, by show z ≤ l1 + p; omega⟩]
        rfl
      rw [R, T]
      have e3 : (c + 1 + 1) * p = (c + 1) * p + p := by rw [Int.add_mul (c + 1), Int.one_mul]
      refine ⟨⟨_, _, _, _, rfl, by omega, by omega, .inr (.inl ⟨c + 1, rfl, rfl, by omega, e2, by omega, by omega⟩)⟩, .inl ⟨rfl, ⟨_, _, _, _, rfl, by omega, by omega, .inr (.inl ⟨c + 1, rfl, rfl, by omega, e2, by omega, by omega⟩)⟩⟩⟩
    · have R : drr.runS (H2 z) ⟨most, [⟨1, b1, p, l1⟩, ⟨2, b2, q, l2⟩], 2, true⟩ = ⟨most, [⟨1, b1, p, l1⟩, ⟨2, b2, q, l2⟩], 2, true⟩ := by
        unfold drr.runS drr.lowS
        rw [if_neg]
        · rfl
        · show ¬ decide (l2 < z) = true
          simp; omega
      have T : drr.takeS z ⟨most, [⟨1, b1, p, l1⟩, ⟨2, b2, q, l2⟩], 2, true⟩ = ⟨most, [⟨1, b1, p, l1⟩, ⟨2, b2, q, l2 - z⟩], 2, true⟩ := by
        unfold drr.takeS
        rw [if_pos ⟨rfl, by omega, by show z ≤ l2; omega⟩]
        rfl
      rw [R, T]
      refine ⟨⟨_, _, _, _, rfl, by omega, by omega, .inr (.inr ⟨c, rfl, rfl, e1, e2, by omega, by omega⟩)⟩, .inr ⟨rfl, ⟨_, _, _, _, rfl, by omega, by omega, .inr (.inr ⟨c, rfl, rfl, e1, by omega, by omega, by omega⟩)⟩⟩⟩

/-- n items of size z -/
def Al (z : Int) (l : List que.It) (n : Nat) : Prop := l.length = n ∧ ∀ x ∈ l, x.size = z
theorem Al.drop {z : Int} {l : List que.It} {n : Nat} (h : Al z l (n + 1)) : Al z (l.drop 1) n := ⟨by rw [List.length_drop, h.1]; rfl, fun x hx => h.2 x (List.mem_of_mem_drop hx)⟩
theorem Al.push {z : Int} {l : List que.It} {n : Nat} (h : Al z l n) (x : que.It) (hx : x.size = z) : Al z (l ++ [x]) (n + 1) := ⟨by rw [List.length_append, h.1]; rfl, fun y hy => by
  rcases List.mem_append.1 hy with hy | hy
  · exact h.2 y hy
  · simp at hy; rw [hy]; exact hx⟩
/-- an outlet of the two flows, with a and b items, that have sent u1 and u2 -/
structure Sh (z p q : Int) (e : Eo) (a b : Nat) (u1 u2 : Int) : Prop where
  mo : e.most = 40
  L : ∃ fb1 qb1 pv1 L1 br1 fb2 qb2 pv2 L2 br2, e.L = [⟨1, fb1, true, qb1, pv1, ⟨5, 1000, L1, br1⟩⟩, ⟨2, fb2, true, qb2, pv2, ⟨5, 1000, L2, br2⟩⟩] ∧ Al z L1 a ∧ Al z L2 b
  d : Dr p q e.s u1 u2
theorem Sh.ids {z p q u1 u2 : Int} {e : Eo} {a b : Nat} (h : Sh z p q e a b u1 u2) : idS e.L = [1, 2] := by
  obtain ⟨fb1, qb1, pv1, L1, br1, fb2, qb2, pv2, L2, br2, hL, _⟩ := h.L
  rw [hL]
  show ([1, 2] : List Int).mergeSort (fun x y => decide (x ≤ y)) = [1, 2]
  exact sorted_is (List.Perm.refl _) (by decide)
theorem Sh.next {z p q u1 u2 : Int} {e : Eo} {a b : Nat} (h : Sh z p q e (a + 1) (b + 1) u1 u2) : nextS e = ((drr.chooseS (H2 z) e.s).turn, true, drr.chooseS (H2 z) e.s) := by
  have hi := h.ids
  obtain ⟨fb1, qb1, pv1, L1, br1, fb2, qb2, pv2, L2, br2, hL, h1, h2⟩ := h.L
  have hn : nx e.L (idS e.L) = ⟨H2 z, none⟩ := by
    rw [hi, hL]
    cases L1 with
    | nil => have := h1.1; simp at this
    | cons x l =>
      cases L2 with
      | nil => have := h2.1; simp at this
      | cons y m =>
        have e1 := h1.2 x (by simp)
        have e2 := h2.2 y (by simp)
        show (⟨[(1, x.size), (2, y.size)], none⟩ : Nx) = _
        rw [e1, e2]
  unfold nextS
  rw [hn]
  rfl
def cnt (i : Int) (l : List Snt) : Nat := l.countP (fun x => x.id == i)
theorem cnt_snoc (i : Int) (l : List Snt) (x : Snt) : cnt i (l ++ [x]) = cnt i l + (if x.id = i then 1 else 0) := by
  unfold cnt
  rw [List.countP_append, List.countP_cons, List.countP_nil]
  by_cases h : x.id = i <;> simp [h]
/-- what a Run has sent so far -/
structure St (z p q : Int) (e : Eo) (l : List Snt) (e1 : Eo) (u1 u2 : Int) : Prop where
  sh : ∃ a b, a + cnt 1 l = 5 ∧ b + cnt 2 l = 5 ∧ Sh z p q e1 a b (u1 + z * cnt 1 l) (u2 + z * cnt 2 l)
  len : cnt 1 l + cnt 2 l = l.length
  c : e1.credit = e.credit - z * l.length
  c0 : 0 ≤ e1.credit
  id : ∀ x ∈ l, x.id = 1 ∨ x.id = 2
theorem St.few {z p q u1 u2 : Int} {e e1 : Eo} {l : List Snt} (h : St z p q e l e1 u1 u2) (z1 : 1 ≤ z) (hc : e.credit < 4 * z) : l.length ≤ 3 := by
  have h1 := h.c
  have h2 := h.c0
  by_cases hl : l.length ≤ 3
  · exact hl
  · exfalso
    have : z * 4 ≤ z * (l.length : Int) := Int.mul_le_mul_of_nonneg_left (by omega) (by omega)
    omega
theorem Sh.step {z p q u1 u2 : Int} {e : Eo} {a b : Nat} (h : Sh z p q e (a + 1) (b + 1) u1 u2) (hp : 40 ≤ p) (hq : 40 ≤ q) (z1 : 1 ≤ z) (z2 : z ≤ 40) {f : Ef} {x : que.It} (pv : Value) (hf : f ∈ e.L) (hid : f.id = (nextS e).1) (hx : f.q.L[0]? = some x) :
    x.size = z ∧ (goneE e f x pv).credit = e.credit - z ∧ ((f.id = 1 ∧ Sh z p q (goneE e f x pv) a (b + 1) (u1 + z) u2) ∨ (f.id = 2 ∧ Sh z p q (goneE e f x pv) (a + 1) b u1 (u2 + z))) := by
  have hn := h.next
  have hmo := h.mo
  obtain ⟨d1, d2⟩ := h.d.choose hp hq z1 z2
  obtain ⟨fb1, qb1, pv1, L1, br1, fb2, qb2, pv2, L2, br2, hL, h1, h2⟩ := h.L
  rw [hn] at hid
  have hg : goneE e f x pv = countE ⟨e.frames, e.bytes, e.age, e.most, e.guard, e.credit, e.row, setQ e.L f.id pv ⟨f.q.frames, f.q.most, f.q.L.drop 1, f.q.broken⟩, drr.chooseS (H2 z) e.s⟩ x.size f.video := by
    unfold goneE
    rw [hn]
  rw [hL] at hf
  simp only [List.mem_cons, List.mem_nil_iff, or_false] at hf
  rcases d2 with ⟨t1, t2⟩ | ⟨t1, t2⟩
  · rw [t1] at hid
    rcases hf with rfl | rfl
    · have hxm := List.mem_of_getElem? hx
      have hxz := h1.2 x hxm
      refine ⟨hxz, ?_, .inl ⟨rfl, ?_⟩⟩
      · rw [hg, hxz]; rfl
      · rw [hg, hxz, hL]
        exact ⟨hmo, ⟨fb1, qb1, pv, L1.drop 1, br1, fb2, qb2, pv2, L2, br2, rfl, h1.drop, h2⟩, t2⟩
    · exact absurd hid (show ¬ (2 : Int) = 1 by decide)
  · rw [t1] at hid
    rcases hf with rfl | rfl
    · exact absurd hid (show ¬ (1 : Int) = 2 by decide)
    · have hxm := List.mem_of_getElem? hx
      have hxz := h2.2 x hxm
      refine ⟨hxz, ?_, .inr ⟨rfl, ?_⟩⟩
      · rw [hg, hxz]; rfl
      · rw [hg, hxz, hL]
        exact ⟨hmo, ⟨fb1, qb1, pv1, L1, br1, fb2, qb2, pv, L2.drop 1, br2, rfl, h1, h2.drop⟩, t2⟩
theorem Sh.steps {z p q u1 u2 : Int} {e e1 : Eo} {l : List Snt} (hs : Steps e l e1) (h : Sh z p q e 5 5 u1 u2) (hp : 40 ≤ p) (hq : 40 ≤ q) (z1 : 1 ≤ z) (z2 : z ≤ 40) (c0 : 0 ≤ e.credit) (hc : e.credit < 4 * z) : St z p q e l e1 u1 u2 := by
  induction hs with
  | nil => exact ⟨⟨5, 5, rfl, rfl, by simpa [cnt] using h⟩, rfl, by simp, c0, fun x hx => by cases hx⟩
  | @snoc l e1 f x pv h1 h2 h3 h4 h5 h6 ih =>
    have hfew := ih.few z1 hc
    obtain ⟨a, b, ha, hb, hsh⟩ := ih.sh
    have hlen := ih.len
    have hcr := ih.c
    have hxs : x.size = z := by
      obtain ⟨fb1, qb1, pv1, L1, br1, fb2, qb2, pv2, L2, br2, hL, k1, k2⟩ := hsh.L
      rw [hL] at h3
      simp only [List.mem_cons, List.mem_nil_iff, or_false] at h3
      rcases h3 with rfl | rfl
      · exact k1.2 x (List.mem_of_getElem? h5)
      · exact k2.2 x (List.mem_of_getElem? h5)
    have hl3 : l.length ≤ 2 := by
      by_cases hl : l.length ≤ 2
      · exact hl
      · exfalso
        have h33 : l.length = 3 := by omega
        rw [h33] at hcr
        push_cast at hcr
        omega
    obtain ⟨a', rfl⟩ : ∃ a', a = a' + 1 := ⟨a - 1, by omega⟩
    obtain ⟨b', rfl⟩ : ∃ b', b = b' + 1 := ⟨b - 1, by omega⟩
    obtain ⟨k1, k2, k3⟩ := hsh.step hp hq z1 z2 pv h3 h4 h5
    have hll : ((l ++ [(⟨f.id, x⟩ : Snt)]).length : Int) = (l.length : Int) + 1 := by simp
    have hz1 : z * ((l.length : Int) + 1) = z * l.length + z := by rw [Int.mul_add, Int.mul_one]
    rcases k3 with ⟨k3, k4⟩ | ⟨k3, k4⟩
    · have c1 : cnt 1 (l ++ [(⟨f.id, x⟩ : Snt)]) = cnt 1 l + 1 := by rw [cnt_snoc, if_pos k3]
      have c2 : cnt 2 (l ++ [(⟨f.id, x⟩ : Snt)]) = cnt 2 l := by rw [cnt_snoc, if_neg (by show ¬ f.id = 2; rw [k3]; decide)]; rfl
      refine ⟨⟨a', b' + 1, by rw [c1]; omega, by rw [c2]; exact hb, ?_⟩, by rw [c1, c2, List.length_append, List.length_singleton]; omega, by rw [k2, hll, hz1]; omega, by rw [k2]; omega, fun y hy => ?_⟩
      · rw [c1, c2]
        have : u1 + z * ((cnt 1 l + 1 : Nat) : Int) = u1 + z * cnt 1 l + z := by push_cast; rw [Int.mul_add, Int.mul_one]; omega
        rw [this]; exact k4
      · rcases List.mem_append.1 hy with hy | hy
        · exact ih.id y hy
        · simp at hy; rw [hy]; exact .inl k3
    · have c1 : cnt 1 (l ++ [(⟨f.id, x⟩ : Snt)]) = cnt 1 l := by rw [cnt_snoc, if_neg (by show ¬ f.id = 1; rw [k3]; decide)]; rfl
      have c2 : cnt 2 (l ++ [(⟨f.id, x⟩ : Snt)]) = cnt 2 l + 1 := by rw [cnt_snoc, if_pos k3]
      refine ⟨⟨a' + 1, b', by rw [c1]; exact ha, by rw [c2]; omega, ?_⟩, by rw [c1, c2, List.length_append, List.length_singleton]; omega, by rw [k2, hll, hz1]; omega, by rw [k2]; omega, fun y hy => ?_⟩
      · rw [c1, c2]
        have : u2 + z * ((cnt 2 l + 1 : Nat) : Int) = u2 + z * cnt 2 l + z := by push_cast; rw [Int.mul_add, Int.mul_one]; omega
        rw [this]; exact k4
      · rcases List.mem_append.1 hy with hy | hy
        · exact ih.id y hy
        · simp at hy; rw [hy]; exact .inr k3
/-- a Run: what it sends, what is left; no credit for one more -/
theorem Sh.ran {z p q u1 u2 : Int} {e e' : Eo} {l : List Snt} (hr : Ran e l e') (h : Sh z p q e 5 5 u1 u2) (hp : 40 ≤ p) (hq : 40 ≤ q) (z1 : 1 ≤ z) (z2 : z ≤ 40) (c0 : 0 ≤ e.credit) (hc : e.credit < 4 * z) : St z p q e l e' u1 u2 ∧ e'.credit < z ∧ l.length ≤ 3 := by
  obtain ⟨e1, hs, rfl, hend⟩ := hr
  have hst := Sh.steps hs h hp hq z1 z2 c0 hc
  have hfew := hst.few z1 hc
  obtain ⟨a, b, ha, hb, hsh⟩ := hst.sh
  have hlen := hst.len
  obtain ⟨a', rfl⟩ : ∃ a', a = a' + 1 := ⟨a - 1, by omega⟩
  obtain ⟨b', rfl⟩ : ∃ b', b = b' + 1 := ⟨b - 1, by omega⟩
  have hn := hsh.next
  have hlow : e1.credit < z := by
    rcases hend with hend | ⟨f, x, h2, h3, h4, h5, h6⟩
    · rw [hn] at hend; cases hend
    · obtain ⟨k1, _⟩ := hsh.step hp hq z1 z2 (.slice none 0 0) h3 h4 h5
      omega
  have hA : afterN e1 = ⟨e1.frames, e1.bytes, e1.age, e1.most, e1.guard, e1.credit, e1.row, e1.L, drr.chooseS (H2 z) e1.s⟩ := by unfold afterN; rw [hn]
  rw [hA]
  exact ⟨⟨⟨_, _, ha, hb, ⟨hsh.mo, hsh.L, (hsh.d.choose hp hq z1 z2).1⟩⟩, hlen, hst.c, hst.c0, hst.id⟩, hlow, hfew⟩
theorem putK_zero {q : que.Q} {x : que.It} (h : que.full q x q.L = false) : que.putK q x = 0 := by
  unfold que.putK
  cases hL : q.L with
  | nil => rfl
  | cons y l =>
    rw [hL] at h
    unfold que.sh
    rw [List.length_cons]
    unfold que.shed
    simp [h]
/-- one item more -/
theorem sh_put {L : List que.It} {z : Int} {a : Nat} {br : Bool} (h : Al z L a) (ha : a < 5) (z1 : 1 ≤ z) (z2 : z ≤ 40) (x : que.It) (hx : x.size = z) (hk : x.key = true) : que.putOk ⟨5, 1000, L, br⟩ x = true ∧ que.putQ ⟨5, 1000, L, br⟩ x = ⟨5, 1000, L ++ [x], false⟩ := by
  have hs : que.sumL L = z * a := by
    obtain ⟨rfl, h2⟩ := h
    clear ha
    induction L with
    | nil => simp [que.sumL]
    | cons y l ih =>
      have := ih (fun w hw => h2 w (by simp [hw]))
      have hy := h2 y (by simp)
      show y.size + que.sumL l = _
      rw [this, hy, List.length_cons]
      push_cast
      rw [Int.mul_add, Int.mul_one]
      omega
  have ha4 : z * (a : Int) ≤ z * 4 := Int.mul_le_mul_of_nonneg_left (by omega) (by omega)
  have hf : que.full ⟨5, 1000, L, br⟩ x L = false := by
    unfold que.full
    rw [hs, hx, h.1]
    simp
    omega
  have h0 := putK_zero (q := ⟨5, 1000, L, br⟩) hf
  have hb : que.bad ⟨5, 1000, L, br⟩ x = false := by
    unfold que.bad
    rw [hx, hk]
    simp
    omega
  unfold que.putOk que.putQ
  rw [hb, hk, h0]
  simp
theorem Sh.put1 {z p q u1 u2 : Int} {e : Eo} {a b : Nat} (h : Sh z p q e a b u1 u2) {f : Ef} (hf : f ∈ e.L) (z1 : 1 ≤ z) (z2 : z ≤ 40) (x : que.It) (hx : x.size = z) (hk : x.key = true) (pv : Value) :
    (f.id = 1 → a < 5 → que.putOk f.q x = true ∧ Sh z p q ⟨e.frames, e.bytes, e.age, e.most, e.guard, e.credit, e.row, setQ e.L f.id pv (que.putQ f.q x), e.s⟩ (a + 1) b u1 u2) ∧
    (f.id = 2 → b < 5 → que.putOk f.q x = true ∧ Sh z p q ⟨e.frames, e.bytes, e.age, e.most, e.guard, e.credit, e.row, setQ e.L f.id pv (que.putQ f.q x), e.s⟩ a (b + 1) u1 u2) := by
  obtain ⟨fb1, qb1, pv1, L1, br1, fb2, qb2, pv2, L2, br2, hL, h1, h2⟩ := h.L
  have hmo := h.mo
  have hd := h.d
  rw [hL] at hf
  simp only [List.mem_cons, List.mem_nil_iff, or_false] at hf
  rcases hf with rfl | rfl
  · refine ⟨fun _ ha => ?_, fun e => absurd e (show ¬ (1 : Int) = 2 by decide)⟩
    obtain ⟨k1, k2⟩ := sh_put (br := br1) h1 ha z1 z2 x hx hk
    refine ⟨k1, ?_⟩
    rw [k2, hL]
    exact ⟨hmo, ⟨fb1, qb1, pv, L1 ++ [x], false, fb2, qb2, pv2, L2, br2, rfl, h1.push x hx, h2⟩, hd⟩
  · refine ⟨fun e => absurd e (show ¬ (2 : Int) = 1 by decide), fun _ hb => ?_⟩
    obtain ⟨k1, k2⟩ := sh_put (br := br2) h2 hb z1 z2 x hx hk
    refine ⟨k1, ?_⟩
    rw [k2, hL]
    exact ⟨hmo, ⟨fb1, qb1, pv1, L1, br1, fb2, qb2, pv, L2 ++ [x], false, rfl, h1, h2.push x hx⟩, hd⟩
end Go.Proofs.YtcppibjllaablaaGreat.egr
