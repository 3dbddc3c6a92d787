/-
  'Does' of layer 9's laws: Flush.
-/
import Derived.Test.YtfgfejcnkjeghaaReoDoes2
namespace Go.Proofs.Ytfgfejcnkjeghaa.reo
open Go.RowKit mem
set_option linter.unusedVariables false

/-- in the loop of Skips of a Flush -/
structure FL (M : Int) (wm : World) (ps p : Nat) (now : Int) (B0 : B) (O0 : List Th) (wr : World) (b : B) (v vo : Value) (o : List Th) : Prop where
  box : Blk wr ps (stL p b v now).toArray TS
  rs : RS wr v b.L
  out : Owns TE RT wr vo o
  vlt : ∀ g, v.ownBlock = some g → g < wm.heap.size
  vge : ∀ g, vo.ownBlock = some g → wm.heap.size ≤ g
  t : Turns (· = ps) wm wr
  ok : b.ok M
  eB : lpB any_ b = B0
  eO : o ++ lpO any_ b = O0
  len : o.length + b.L.length ≤ 2000
def xlenAt (w : World) (ps : Nat) : Nat := match w.cell? ⟨ps, 5, none⟩ with | some (.slice _ n _) => n | _ => 0
section
variable {M : Int} {wm : World} {ps p : Nat} {now : Int} {B0 : B} {O0 : List Th} {wr w2 w4 : World} {b : B} {v v2 vo vo2 vm : Value} {o : List Th}
theorem FL.at_ (h : FL M wm ps p now B0 O0 wr b v vo o) : xlenAt wr ps = b.L.length := by
  obtain ⟨ao, n, k, hv, hn, _⟩ := h.rs.form
  unfold xlenAt
  rw [(eight h.box).1.2.2.2.2.2.1, hv, ← hn]
theorem FL.stop (h : FL M wm ps p now B0 O0 wr b v vo o) (hb : any_ b = false) : b = B0 ∧ o = O0 := by
  obtain ⟨e1, e2⟩ := lp_stop hb
  have h1 := h.eB
  have h2 := h.eO
  rw [e1] at h1
  rw [e2, List.append_nil] at h2
  exact ⟨h1, h2⟩
theorem FL.step {ob : Obj} (h : FL M wm ps p now B0 O0 wr b v vo o) (hb : any_ b = true) (hs : RP wr w2 v v2 (skip b) vm (skipO b))
    (ho : Owns TE RT w4 vo2 (o ++ skipO b)) (hg : (puts (w2.alloc ob) ps 1 (rL (skip b) v2)).grownBy w4 vo.ownBlock) (ha : vo2.ownBlock = vo.ownBlock ∨ vo2.ownBlock = some (puts (w2.alloc ob) ps 1 (rL (skip b) v2)).heap.size) :
    FL M wm ps p now B0 O0 w4 (skip b) v2 vo2 (o ++ skipO b) := by
  have n1 : New wr (w2.alloc ob) := hs.out.n.trans ((Turns.refl (fun _ => False) w2).alloc ob |>.mono (fun _ _ h => h.elim))
  have bx := n1.blk h.box (fun h => h)
  have t1 : Turns (· = ps) (w2.alloc ob) (puts (w2.alloc ob) ps 1 (rL (skip b) v2)) := puts_turns (S := (· = ps)) (.inl rfl) _ 1 _ (Turns.refl _ _)
  have b1 : Blk (puts (w2.alloc ob) ps 1 (rL (skip b) v2)) ps (stL p (skip b) v2 now).toArray TS := puts_over _ 1 _ _ bx
  have oj := h.out.turns n1 (fun _ _ h => h)
  have o1 := oj.turns t1 (fun g hg e => own_ne oj bx (by decide) (by rw [hg, e]))
  have hv2 : ∀ g, v2.ownBlock = some g → g < wm.heap.size := fun g hg => h.vlt g (by rw [← hs.own]; exact hg)
  have rj := hs.rs.later ((Turns.refl (fun _ => False) w2).alloc ob)
  have s1 := rj.turns t1 (fun g hg e => rj.off bx (by decide) (by rw [hg, e]))
  have t2 : Turns (fun k => some k = vo.ownBlock) (puts (w2.alloc ob) ps 1 (rL (skip b) v2)) w4 := Turns.of_grown hg
  have tt := (h.t.trans (n1.mono (fun _ _ h => h.elim))).trans (t1.mono (fun _ _ h => .inl h))
  obtain ⟨e1, e2⟩ := lp_step any_few hb
  refine ⟨t2.blk b1 (fun e => own_ne o1 b1 (by decide) e.symm), s1.turns t2 (fun g hg e => by have := hv2 g hg; have := h.vge g e.symm; omega), ho, hv2, fun g hg => ?_, tt.trans (t2.mono (fun k _ hk => .inr (h.vge k hk.symm))), skip_ok h.ok, by rw [← e1]; exact h.eB, by rw [List.append_assoc, ← e2]; exact h.eO, by have := h.len; have := skip_split b; rw [List.length_append]; omega⟩
  rcases ha with e | e
  · exact h.vge g (by rw [← e]; exact hg)
  · rw [e] at hg; injection hg with hg; have := tt.size; omega
end

set_option maxRecDepth 100000 in
set_option maxHeartbeats 4000000 in
theorem does3 (w0 w : World) (p : Nat) (vb v : Value) (b : B) (now M by_ : Int) (s : ByteArray) (h : Own w0 w p vb b) (hr : RS w v b.L) (hf : Fine b M) (hM : M + 100 ≤ 1099511627776) :
    Calls Try.prog 10 #[.agg (stL p b v now).toArray, .agg #[.int .i64 3, .int .i64 by_, .string s]] w fun e w' => ∃ v' u, e = .returned (.tuple #[.agg (stL p (lpB any_ b) v' now).toArray, u, .bool true]) ∧ Dn w0 w w' p vb (lpB any_ b) v' u (lpO any_ b) := by
  have HO := Lib.hid h
  have HR := Lib.hid hr
  have HF := Lib.hid hf
  obtain ⟨ax, nx, cx, hv, hnx, q1, q2⟩ := hr.form
  clear h hr hf hnx q1 q2
  subst hv
  have M5 := mask.mask5 by_
  have hsb : Blk (((w.alloc (.cells #[.pointer (some ⟨p, 0, none⟩), .int .i64 b.most, .int .i64 b.wait, .bool b.begun, .int .i64 b.next, .slice ax nx cx, .int .i64 b.lost, .int .i64 now] TS)).alloc (.cells #[.int .i64 3, .int .i64 by_, .string s] AT)).alloc (.cells zsL.toArray TS)) w.heap.size #[.pointer (some ⟨p, 0, none⟩), .int .i64 b.most, .int .i64 b.wait, .bool b.begun, .int .i64 b.next, .slice ax nx cx, .int .i64 b.lost, .int .i64 now] TS := ((Blk.new _ _ _).alloc _).alloc _
  have hab : Blk (((w.alloc (.cells #[.pointer (some ⟨p, 0, none⟩), .int .i64 b.most, .int .i64 b.wait, .bool b.begun, .int .i64 b.next, .slice ax nx cx, .int .i64 b.lost, .int .i64 now] TS)).alloc (.cells #[.int .i64 3, .int .i64 by_, .string s] AT)).alloc (.cells zsL.toArray TS)) (w.heap.size + 1) #[.int .i64 3, .int .i64 by_, .string s] AT := (Blk.new' _ _ _ _ (by simp)).alloc _
  have hrb : Blk (((w.alloc (.cells #[.pointer (some ⟨p, 0, none⟩), .int .i64 b.most, .int .i64 b.wait, .bool b.begun, .int .i64 b.next, .slice ax nx cx, .int .i64 b.lost, .int .i64 now] TS)).alloc (.cells #[.int .i64 3, .int .i64 by_, .string s] AT)).alloc (.cells zsL.toArray TS)) (w.heap.size + 1 + 1) zsL.toArray TS := Blk.new' _ _ _ _ (by simp)
  have hn1 : New w (((w.alloc (.cells #[.pointer (some ⟨p, 0, none⟩), .int .i64 b.most, .int .i64 b.wait, .bool b.begun, .int .i64 b.next, .slice ax nx cx, .int .i64 b.lost, .int .i64 now] TS)).alloc (.cells #[.int .i64 3, .int .i64 by_, .string s] AT)).alloc (.cells zsL.toArray TS)) := (((Turns.refl _ _).alloc _).alloc _).alloc _
  have HSB := Lib.hid hsb
  have HAB := Lib.hid hab
  have HRB := Lib.hid hrb
  have HN1 := Lib.hid hn1
  clear hsb hab hrb hn1
  unfold stL
  go_enter Try.func10, Try.ntmps10
  go_upto_region 1 with fail
  refine (show Code.wp _ _ _ _ (((w.alloc (.cells #[.pointer (some ⟨p, 0, none⟩), .int .i64 b.most, .int .i64 b.wait, .bool b.begun, .int .i64 b.next, .slice ax nx cx, .int .i64 b.lost, .int .i64 now] TS)).alloc (.cells #[.int .i64 3, .int .i64 by_, .string s] AT)).alloc (.cells zsL.toArray TS)) from ?_)
  generalize ((w.alloc (.cells #[.pointer (some ⟨p, 0, none⟩), .int .i64 b.most, .int .i64 b.wait, .bool b.begun, .int .i64 b.next, .slice ax nx cx, .int .i64 b.lost, .int .i64 now] TS)).alloc (.cells #[.int .i64 3, .int .i64 by_, .string s] AT)).alloc (.cells zsL.toArray TS) = w1 at *
  have HPP : Hid (w.heap.size ≤ w.heap.size ∧ w.heap.size ≤ w.heap.size + 1 ∧ w.heap.size ≤ w.heap.size + 1 + 1 ∧ w.heap.size ≠ w.heap.size + 1 ∧ w.heap.size ≠ w.heap.size + 1 + 1 ∧ w.heap.size + 1 ≠ w.heap.size + 1 + 1) := Lib.hid (by omega)
  generalize w.heap.size + 1 + 1 = pr at *
  generalize w.heap.size + 1 = pa at *
  generalize hps : w.heap.size = ps at *
  have HPS := Lib.hid hps
  clear hps
  obtain ⟨⟨b0, b1, b2, b3, b4, b5, b6, b7⟩, z0, z1, z2, z3, z4, z5, z6, z7⟩ := eight HSB.out
  have a0 : w1.cell? ⟨pa, 0, none⟩ = some (.int .i64 3) := HAB.out.cell 0
  have a1 : w1.cell? ⟨pa, 1, none⟩ = some (.int .i64 by_) := HAB.out.cell 1
  generalize (Value.agg #[.pointer (some ⟨p, 0, none⟩), .int .i64 b.most, .int .i64 b.wait, .bool b.begun, .int .i64 b.next, .slice ax nx cx, .int .i64 b.lost, .int .i64 now]) = arg0 at *
  generalize (Value.agg #[.int .i64 3, .int .i64 by_, .string s]) = arg1 at *
  have HO1 := Lib.hid (HO.out.later HN1.out)
  have HRS1 := Lib.hid (HR.out.later HN1.out)
  have HFL := Lib.hid (flush_ p vb b M w1 HO1.out.bs HF.out.ok (by omega))
  go_wp2_with fail
  refine HFL.out.mono ?_
  rintro e w3 ⟨vb3, vo3, rfl, t3⟩
  have T3 := Lib.hid t3
  have hb3 := Blk.two HSB.out t3 HO1.out.bs (by decide) (by decide)
  have hr3 := Blk.two HRB.out t3 HO1.out.bs (by decide) (by decide)
  have HRS3 := Lib.hid (RS.two (wx := w1) HRS1.out t3 HO1.out.bs)
  have HO3 := Lib.hid (HO1.out.lft t3)
  obtain ⟨ap, cp, hvp, _⟩ := t3.out.form
  clear b0 b1 b2 b3 b4 b5 b6 b7 z0 z1 z2 z3 z4 z5 z6 z7 a0 a1 HFL t3
  have HB3 := Lib.hid hb3
  have HR3 := Lib.hid hr3
  clear hb3 hr3
  subst hvp
  generalize hlo : (lpO any_ b).length = lo at *
  have HLO := Lib.hid hlo
  clear hlo
  have H0 : Hid (FL M w3 ps p now (lpB any_ b) (lpO any_ b) (w3.alloc (.cells #[] RT)) b (.slice ax nx cx) (.slice (some ⟨w3.heap.size, 0, none⟩) 0 0) []) := Lib.hid ⟨HB3.out.alloc _, HRS3.out.later ((Turns.refl _ _).alloc _), made0R (Blk.new _ _ _), HRS3.out.lt, fun g hg => by
    have e : w3.heap.size = g := by simpa [Value.ownBlock] using hg
    omega, (Turns.refl _ _).alloc _, HF.out.ok, rfl, rfl, by have := HF.out.len; simp; omega⟩
  go_upto_region 20 with fail
  refine (show Code.wp _ _ _ _ (w3.alloc (.cells #[] RT)) from ?_)
  generalize w3.alloc (.cells #[] RT) = w3' at *
  have HBE : Hid (∃ bd, bd = w3.heap.size) := Lib.hid ⟨_, rfl⟩
  obtain ⟨bd, hbd⟩ := HBE.out
  rw [← hbd] at H0
  rw [← hbd]
  clear hbd HBE
  go_loopw [18] (fun vo wr => ∃ (b9 : B) (v9 : Value) (o : List Th), FL M w3 ps p now (lpB any_ b) (lpO any_ b) wr b9 v9 vo o) (fun _ wr => xlenAt wr ps)
  case atStart => exact ⟨b, _, [], H0.out⟩
  case round =>
    obtain ⟨b9, v9, o, hj⟩ := hrel
    have HJ := Lib.hid hj
    have HLA := Lib.hid hj.at_
    have HRJ := Lib.hid hj.rs
    obtain ⟨⟨b0, b1, b2, b3, b4, b5, b6, b7⟩, z0, z1, z2, z3, z4, z5, z6, z7⟩ := eight hj.box
    have hlp := hj.box.lt
    have hrs := hj.rs
    clear H0
    cases hL : b9.L with
    | nil =>
      rw [hL] at hrs
      obtain ⟨a4, c4, hv9⟩ := hrs.nil_form
      have HST := Lib.hid (hj.stop (by unfold any_; rw [hL]))
      have dlt0 : decide ((0 : Int) < (0 : Int)) = false := rfl
      have dlt1 : decide (0 < 0) = false := rfl
      clear hj hrs hL
      subst hv9
      go_upto_region 24 with fail
      have hb6 : Blk wr ps [.pointer (some ⟨p, 0, none⟩), .int .i64 b9.most, .int .i64 b9.wait, .bool b9.begun, .int .i64 b9.next, .slice a4 0 c4, .int .i64 b9.lost, .int .i64 now].toArray TS := HJ.out.box
      have hr6 := HJ.out.t.blk HR3.out (fun e => HPP.out.2.2.2.2.1 e.symm)
      have HW0 : Hid (w0.heap.size ≤ ps) := Lib.hid (by have := HO.out.n.size; have := HPS.out; omega)
      have HO6 : Hid (Own w0 wr p vb3 b9) := Lib.hid (by rw [HST.out.1]; exact HO3.out.turnps HB3.out HJ.out.t HW0.out)
      have HS6 := HRJ
      have HU6 := Lib.hid HJ.out.out
      have HQ6 : Hid (Owns TE PT wr (.slice ap lo cp) o) := Lib.hid (by rw [HST.out.2]; exact T3.out.out.turns HJ.out.t (fun g hg e => own_ne T3.out.out HB3.out (by decide) (by rw [hg, e])))
      have HT6 : Hid (Turns (Foot p vb) w wr) := Lib.hid (((HN1.out.mono (fun _ _ h => h.elim)).trans (T3.out.t.mono (fun _ _ h => .inl h))).trans (HJ.out.t.mono (fun i _ hi => .inr (by rw [hi, ← HPS.out]; exact Nat.le_refl _))))
      have hlo : o.length ≤ 1000000 := by have := HJ.out.len; omega
      have HB6 := Lib.hid hb6
      have HR6 := Lib.hid hr6
      clear hb6 hr6
      clear b0 b1 b2 b3 b4 b5 b6 b7 z0 z1 z2 z3 z4 z5 z6 z7 hlp
      have HSA := Lib.hid (fun (W : World) (n : New wr W) => same (.slice ap lo cp) u18 o W (Sub.turns (HQ6.out.sub 0 (fun _ _ => Nat.zero_le _)) n (fun _ _ h => h)) (Sub.turns (HU6.out.sub 0 (fun _ _ => Nat.zero_le _)) n (fun _ _ h => h)) hlo)
      obtain ⟨⟨b0, b1, b2, b3, b4, b5, b6, b7⟩, _⟩ := eight HB6.out
      have hpsl := HB6.out.lt
      have hpsr := HPP.out.2.2.2.2.1
      have HH : HeldE wr wr pr ps (.pointer (some ⟨p, 0, none⟩)) (.int .i64 b9.most) (.int .i64 b9.wait) (.bool b9.begun) (.int .i64 b9.next) (.slice a4 0 c4) (.int .i64 b9.lost) (.int .i64 now) := ⟨Turns.refl _ _, hpsl, b0, b1, b2, b3, b4, b5, b6, b7⟩
      have HPRG : Hid (w.heap.size ≤ pr ∧ w0.heap.size ≤ pr) := Lib.hid ⟨by have := HPS.out; have := HPP.out; omega, by have := HO.out.n.size; have := HPS.out; have := HPP.out; omega⟩
      clear HN1
      go_region_held (fun w' => Turns (· = pr) wr w' ∧ ps < w'.heap.size ∧ w'.cell? ⟨ps, 0, none⟩ = some (.pointer (some ⟨p, 0, none⟩)) ∧ w'.cell? ⟨ps, 1, none⟩ = some (.int .i64 b9.most) ∧ w'.cell? ⟨ps, 2, none⟩ = some (.int .i64 b9.wait) ∧ w'.cell? ⟨ps, 3, none⟩ = some (.bool b9.begun) ∧ w'.cell? ⟨ps, 4, none⟩ = some (.int .i64 b9.next) ∧ w'.cell? ⟨ps, 5, none⟩ = some (.slice a4 0 c4) ∧ w'.cell? ⟨ps, 6, none⟩ = some (.int .i64 b9.lost) ∧ w'.cell? ⟨ps, 7, none⟩ = some (.int .i64 now))
        (first
          | (with_reducible assumption)
          | ((with_reducible refine heldE_drew ?_); with_reducible assumption)
          | ((with_reducible refine heldE_new (by with_reducible assumption) ?_); with_reducible assumption)
          | ((with_reducible refine heldE_store hpsr _ _ _ _ _ _ _ _ ?_); with_reducible assumption))
        ((go_at_call 21; (with_reducible refine Calls.mono (HSA.out _ ?_) ?_); (focus (repeat (first | exact Turns.refl _ _ | with_reducible apply Turns.drew))); rintro e w9 ⟨rfl, n9⟩; have hr9 : Blk w9 pr zsL.toArray TS := n9.blk HR6.out (fun h => h); obtain ⟨⟨r0', r1', r2', r3', r4', r5', r6', r7'⟩, y0', y1', y2', y3', y4', y5', y6', y7'⟩ := eight hr9))
      all_goals
        go_wp2_with fail
        refine (show bodyPost _ _ _ _ _ (puts w9 pr 0 [.pointer (some ⟨p, 0, none⟩), .int .i64 b9.most, .int .i64 b9.wait, .bool b9.begun, .int .i64 b9.next, .slice a4 0 c4, .int .i64 b9.lost, .int .i64 now]) from ?_)
        have hff := Dn.store (zs := [.pointer (some ⟨p, 0, none⟩), .int .i64 b9.most, .int .i64 b9.wait, .bool b9.begun, .int .i64 b9.next, .slice a4 0 c4, .int .i64 b9.lost, .int .i64 now]) HO6.out HS6.out HT6.out HU6.out HR6.out HPRG.out.1 HPRG.out.2 (by first | exact n9 | exact Turns.of_drew n9 | exact Turns.of_drew (Turns.of_drew n9)) rfl
        generalize puts w9 pr 0 [.pointer (some ⟨p, 0, none⟩), .int .i64 b9.most, .int .i64 b9.wait, .bool b9.begun, .int .i64 b9.next, .slice a4 0 c4, .int .i64 b9.lost, .int .i64 now] = wz at *
        obtain ⟨⟨g0, g1, g2, g3, g4, g5, g6, g7⟩, _⟩ := eight hff.1
        refine bodyPost_ret (v := .tuple #[.agg #[.pointer (some ⟨p, 0, none⟩), .int .i64 b9.most, .int .i64 b9.wait, .bool b9.begun, .int .i64 b9.next, .slice a4 0 c4, .int .i64 b9.lost, .int .i64 now], u18, .bool true]) (by simp [results, Try.results10, go_sem, g0, g1, g2, g3, g4, g5, g6, g7]) rfl ?_
        exact ⟨_, _, (by rw [← HST.out.1]), (by rw [← HST.out.1, ← HST.out.2]; exact hff.2)⟩
    | cons x r =>
      obtain ⟨a9, n9, c9, hv9, hn9, q1, q2⟩ := hrs.form
      have hn0 : 0 < n9 := by rw [hn9, hL]; simp
      have HGO : Hid (any_ b9 = true) := Lib.hid (by unfold any_; rw [hL])
      have HNE : Hid (b9.L ≠ []) := Lib.hid (by rw [hL]; simp)
      have HSL := Lib.hid (skip_len b9 HNE.out)
      clear hj hrs hL hn9 q1 q2
      subst hv9
      have d1 : decide ((0 : Int) < (n9 : Int)) = true := decide_eq_true (by omega)
      have d0 : decide (0 < n9) = true := decide_eq_true hn0
      have HSK : Hid (Calls Try.prog 24 #[.agg #[.int .i64 b9.most, .int .i64 b9.wait, .bool b9.begun, .int .i64 b9.next, .slice a9 n9 c9, .int .i64 b9.lost]] wr fun e w' => ∃ v' vo, e = .returned (.tuple #[.agg #[.int .i64 (skip b9).most, .int .i64 (skip b9).wait, .bool (skip b9).begun, .int .i64 (skip b9).next, v', .int .i64 (skip b9).lost], vo]) ∧ RP wr w' (.slice a9 n9 c9) v' (skip b9) vo (skipO b9)) := Lib.hid (rskip (.slice a9 n9 c9) b9 M wr HRJ.out HJ.out.ok (by omega) HNE.out)
      go_wp2_with fail
      refine HSK.out.mono ?_
      rintro e w2 ⟨v2, vm, rfl, rp⟩
      obtain ⟨a2, n2, c2, hv2, q1, q2, q3⟩ := rp.rs.form
      clear q1 q2 q3 HSK
      subst hv2
      have RPH := Lib.hid rp
      have hb2 := (rp.out.n.blk HJ.out.box (fun h => h)).alloc (.cells #[.int .i64 (skip b9).most, .int .i64 (skip b9).wait, .bool (skip b9).begun, .int .i64 (skip b9).next, .slice a2 n2 c2, .int .i64 (skip b9).lost] XT)
      have hd2 : Blk (w2.alloc (.cells #[.int .i64 (skip b9).most, .int .i64 (skip b9).wait, .bool (skip b9).begun, .int .i64 (skip b9).next, .slice a2 n2 c2, .int .i64 (skip b9).lost] XT)) w2.heap.size #[.int .i64 (skip b9).most, .int .i64 (skip b9).wait, .bool (skip b9).begun, .int .i64 (skip b9).next, .slice a2 n2 c2, .int .i64 (skip b9).lost] XT := Blk.new _ _ _
      have hpne : ps ≠ w2.heap.size := by have := (rp.out.n.blk HJ.out.box (fun h => h)).lt; omega
      clear rp b0 b1 b2 b3 b4 b5 b6 b7 z0 z1 z2 z3 z4 z5 z6 z7 hlp
      go_upto_region 22 with fail
      refine (show Code.wp _ _ _ _ (w2.alloc (.cells #[.int .i64 (skip b9).most, .int .i64 (skip b9).wait, .bool (skip b9).begun, .int .i64 (skip b9).next, .slice a2 n2 c2, .int .i64 (skip b9).lost] XT)) from ?_)
      have HW3 : Hid (∃ w5, w5 = w2.alloc (.cells #[.int .i64 (skip b9).most, .int .i64 (skip b9).wait, .bool (skip b9).begun, .int .i64 (skip b9).next, .slice a2 n2 c2, .int .i64 (skip b9).lost] XT)) := Lib.hid ⟨_, rfl⟩
      obtain ⟨w5, hw5⟩ := HW3.out
      rw [← hw5] at hb2 hd2 ⊢
      have HWE := Lib.hid hw5
      clear HW3 hw5
      generalize w2.heap.size = pd at *
      obtain ⟨⟨b0, b1, b2, b3, b4, b5, b6, b7⟩, z0, z1, z2, z3, z4, z5, z6, z7⟩ := eight hb2
      obtain ⟨d0, d1, d2, d3, d4, d5, q0, q1, q2, q3, q4, q5⟩ := six hd2
      have hl9 := hb2.lt
      have hld := hd2.lt
      clear hb2 hd2 q0 q1 q2 q3 q4 q5
      have HO3' : Hid (Owns TE RT (puts w5 ps 1 [.int .i64 (skip b9).most, .int .i64 (skip b9).wait, .bool (skip b9).begun, .int .i64 (skip b9).next, .slice a2 n2 c2, .int .i64 (skip b9).lost]) u18 o ∧ Sub TE 0 (puts w5 ps 1 [.int .i64 (skip b9).most, .int .i64 (skip b9).wait, .bool (skip b9).begun, .int .i64 (skip b9).next, .slice a2 n2 c2, .int .i64 (skip b9).lost]) vm (skipO b9)) := Lib.hid (by
        have nn : New wr w5 := by rw [HWE.out]; exact RPH.out.out.n.trans ((Turns.refl (fun _ => False) w2).alloc _ |>.mono (fun _ _ h => h.elim))
        have bx := nn.blk HJ.out.box (fun h => h)
        have oj := HJ.out.out.turns nn (fun _ _ h => h)
        have t1 : Turns (· = ps) w5 (puts w5 ps 1 [.int .i64 (skip b9).most, .int .i64 (skip b9).wait, .bool (skip b9).begun, .int .i64 (skip b9).next, .slice a2 n2 c2, .int .i64 (skip b9).lost]) := puts_turns (S := (· = ps)) (.inl rfl) _ 1 _ (Turns.refl _ _)
        have v1 : Owns TE RT w5 vm (skipO b9) := by rw [HWE.out]; exact RPH.out.out.own.turns (S := fun _ => False) ((Turns.refl _ _).alloc _) (fun _ _ h => h)
        exact ⟨oj.turns t1 (fun g hg e => own_ne oj bx (by decide) (by rw [hg, e])), (v1.turns t1 (fun g hg e => own_ne v1 bx (by decide) (by rw [hg, e]))).sub 0 (fun _ _ => Nat.zero_le _)⟩)
      have HLE : Hid (o.length + (skipO b9).length ≤ 1048576) := Lib.hid (by have := HJ.out.len; have := skip_split b9; omega)
      go_upto_region 23 with fail
      refine (show Code.wp _ _ _ _ (puts w5 ps 1 [.int .i64 (skip b9).most, .int .i64 (skip b9).wait, .bool (skip b9).begun, .int .i64 (skip b9).next, .slice a2 n2 c2, .int .i64 (skip b9).lost]) from ?_)
      have HW4 : Hid (∃ w4, w4 = puts w5 ps 1 [.int .i64 (skip b9).most, .int .i64 (skip b9).wait, .bool (skip b9).begun, .int .i64 (skip b9).next, .slice a2 n2 c2, .int .i64 (skip b9).lost]) := Lib.hid ⟨_, rfl⟩
      obtain ⟨w4, hw4⟩ := HW4.out
      rw [← hw4] at HO3' ⊢
      have HWF := Lib.hid hw4
      clear HW4 hw4 b0 b1 b2 b3 b4 b5 b6 b7 z0 z1 z2 z3 z4 z5 z6 z7 d0 d1 d2 d3 d4 d5 hl9 hld
      go_wp2_with (at_builtin; refine wpList_append_sub (E := TE) Try.underlying24 infoR rfl (by decide) (by decide) rfl _ _ rfl _ o (skipO b9) rfl HO3'.out.1 _ rfl 0 HO3'.out.2 HLE.out ?_)
      intro vo6 w6' hown6 hgrow6 hat6
      have H9 := Lib.hid (HJ.out.step (ob := .cells #[.int .i64 (skip b9).most, .int .i64 (skip b9).wait, .bool (skip b9).begun, .int .i64 (skip b9).next, .slice a2 n2 c2, .int .i64 (skip b9).lost] XT) HGO.out RPH.out hown6 (by show (puts (w2.alloc (.cells #[.int .i64 (skip b9).most, .int .i64 (skip b9).wait, .bool (skip b9).begun, .int .i64 (skip b9).next, .slice a2 n2 c2, .int .i64 (skip b9).lost] XT)) ps 1 [.int .i64 (skip b9).most, .int .i64 (skip b9).wait, .bool (skip b9).begun, .int .i64 (skip b9).next, .slice a2 n2 c2, .int .i64 (skip b9).lost]).grownBy _ _; rw [← HWE.out, ← HWF.out]; exact hgrow6) (by show _ ∨ _ = some (puts (w2.alloc (.cells #[.int .i64 (skip b9).most, .int .i64 (skip b9).wait, .bool (skip b9).begun, .int .i64 (skip b9).next, .slice a2 n2 c2, .int .i64 (skip b9).lost] XT)) ps 1 [.int .i64 (skip b9).most, .int .i64 (skip b9).wait, .bool (skip b9).begun, .int .i64 (skip b9).next, .slice a2 n2 c2, .int .i64 (skip b9).lost]).heap.size; rw [← HWE.out, ← HWF.out]; exact hat6))
      clear hown6 hgrow6 hat6
      go_wp2_with fail
      go_roundw
      case rel => exact ⟨skip b9, _, _, H9.out⟩
      case measure => rw [H9.out.at_, HLA.out]; exact HSL.out
end Go.Proofs.Ytfgfejcnkjeghaa.reo
