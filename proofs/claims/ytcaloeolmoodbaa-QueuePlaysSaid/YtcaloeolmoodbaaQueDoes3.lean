/-
  'Does' of layer 18's laws: Expire.
-/
import Derived.Test.YtcaloeolmoodbaaQueDdef
import Derived.Test.YtcaloeolmoodbaaQueRexp
namespace Go.Proofs.Ytcaloeolmoodbaa.que
open Go.RowKit mem
set_option linter.unusedVariables false

set_option maxRecDepth 100000 in
set_option maxHeartbeats 2000000 in
theorem does3 (p : Nat) (pv xv : Value) (q : Q) (now n age sz : Int) (ky : Bool) (now' : Int) (hnow : now' = now + sz % 16) (w : World) (h : Ds w p pv q xv) (n0 : 0 ≤ now) (n1 : now ≤ 1048576) (ht : ∀ x ∈ q.L, 0 ≤ x.tick ∧ x.tick ≤ 2199023255552) :
    Calls Try.prog 16 #[.agg (stL p q xv now n age).toArray, .agg #[.int .i64 3, .int .i64 sz, .bool ky]] w fun e w' => ∃ pv' xv', e = .returned (.tuple #[.agg (stL p (expQ q now' age) xv' now' n age).toArray, .int .i64 0, .bool (decide (0 < ((expD q now' age).length : Int))), .bool true]) ∧ Dn w w' p pv xv (expQ q now' age) pv' xv' := by
  obtain ⟨ax, cx, hxv, _, _⟩ := h.sub.form
  have HD := Lib.hid h
  have HTK := Lib.hid ht
  clear h ht
  subst hxv
  have hbx := bx0 w (stL p q (.slice ax q.L.length cx) now n age) [.int .i64 3, .int .i64 sz, .bool ky]
  have HBX := Lib.hid hbx
  have M4 := mask.mask4 sz
  have hz0 : 0 ≤ sz % 16 ∧ sz % 16 ≤ 15 := by omega
  have e1 : now + sz % 16 = now' := hnow.symm
  have hn0' : 0 ≤ now' ∧ now' ≤ 1048600 := by omega
  obtain ⟨np0, np1⟩ := hn0'
  have hw1 : IntKind.i64.wrap now' = now' := IntWalk.i64_in _ (by omega)
  have hw2 : IntKind.i64.wrap (now + sz % 16) = now' := by rw [e1]; exact hw1
  clear hbx hnow
  generalize sz % 16 = sz16 at *
  go_enter Try.func16, Try.ntmps16
  go_upto_region 1 with fail
  refine (show Code.wp _ _ _ _ (((w.alloc (.cells (stL p q (.slice ax q.L.length cx) now n age).toArray TS)).alloc (.cells ([.int .i64 3, .int .i64 sz, .bool ky] : List Value).toArray AT)).alloc (.cells zrs.toArray TS)) from ?_)
  generalize ((w.alloc (.cells (stL p q (.slice ax q.L.length cx) now n age).toArray TS)).alloc (.cells ([.int .i64 3, .int .i64 sz, .bool ky] : List Value).toArray AT)).alloc (.cells zrs.toArray TS) = w1 at *
  obtain ⟨hb1, hn1⟩ := HBX.out
  obtain ⟨pb, hpb⟩ : ∃ pb, pb = w.heap.size := ⟨_, rfl⟩
  have HPB : Hid (w.heap.size ≤ pb ∧ w.heap.size ≤ pb + 1 ∧ w.heap.size ≤ pb + 1 + 1 ∧ pb ≠ pb + 1 ∧ pb ≠ pb + 1 + 1 ∧ pb + 1 ≠ pb + 1 + 1) := Lib.hid (by omega)
  rw [← hpb] at hb1
  rw [← hpb]
  clear hpb HBX
  generalize pb + 1 + 1 = pr at *
  generalize pb + 1 = pa at *
  have HB1 := Lib.hid hb1
  have HN1 := Lib.hid hn1
  clear hn1
  obtain ⟨⟨b0, b1, b2, b3, b4, b5, b6, b7⟩, z0, z1, z2, z3, z4, z5, z6, z7⟩ := eight hb1.b
  have a0 := hb1.a.cell 0
  have a1 := hb1.a.cell 1
  have a2 := hb1.a.cell 2
  clear hb1
  have t2 : Turns (· = pb) w1 (w1.setCell ⟨pb, 5, none⟩ (.int .i64 now')) := (Turns.refl (· = pb) _).setCell (.inl rfl) _
  have HB2 : Hid (Bx w (w1.setCell ⟨pb, 5, none⟩ (.int .i64 now')) pb pa pr (stL p q (.slice ax q.L.length cx) now' n age) [.int .i64 3, .int .i64 sz, .bool ky]) := Lib.hid ⟨HB1.out.b.set 5 _, t2.blk HB1.out.a HPB.out.2.2.2.1.symm, t2.blk HB1.out.r HPB.out.2.2.2.2.1.symm⟩
  have HN2 : Hid (New w (w1.setCell ⟨pb, 5, none⟩ (.int .i64 now'))) := Lib.hid (HN1.out.trans (t2.mono (fun i _ hi => .inr (by rw [hi]; exact HPB.out.1))))
  clear HB1 HN1 t2
  go_upto_region 18 with fail
  refine (show Code.wp _ _ _ _ (w1.setCell ⟨pb, 5, none⟩ (.int .i64 now')) from ?_)
  clear b0 b1 b2 b3 b4 b5 b6 b7 z0 z1 z2 z3 z4 z5 z6 z7 a0 a1 a2
  generalize w1.setCell ⟨pb, 5, none⟩ (.int .i64 now') = w2 at *
  obtain ⟨⟨b0, b1, b2, b3, b4, b5, b6, b7⟩, _⟩ := eight HB2.out.b
  have hd3 := HD.out.later HN2.out
  have HD3 := Lib.hid hd3
  clear hd3
  go_wp2_with fail
  refine (expire p pv q now' age w2 HD3.out.qs np0 (by omega) HTK.out).mono ?_
  rintro e w4 ⟨vl, rfl, hp4⟩
  have hpl := HD.out.qs.lt
  have hvl := HD.out.qs.vlt
  have hft : ∀ i, w.heap.size ≤ i → ¬ Foot p pv i := fun i hi hf => by
    rcases hf with hf | hf
    · omega
    · have := hvl i hf; omega
  have hb4 : Bx w w4 pb pa pr (stL p q (.slice ax q.L.length cx) now' n age) [.int .i64 3, .int .i64 sz, .bool ky] := HB2.out.turns hp4.turns (hft _ HPB.out.1) (hft _ HPB.out.2.1) (hft _ HPB.out.2.2.1)
  have hs4 : Sub IE 0 w4 (.slice ax q.L.length cx) q.L := Sub.turns' HD3.out.sub hp4.turns (fun g hg hf => by
    have := HD.out.ap g hg
    rcases hf with hf | hf
    · exact this.1 hf
    · exact this.2 hf)
  have HB4 := Lib.hid hb4
  have HS4 := Lib.hid hs4
  have HF4 := Lib.hid hp4.fr
  have HP4 := Lib.hid hp4.lft
  clear b0 b1 b2 b3 b4 b5 b6 b7
  obtain ⟨⟨b0, b1, b2, b3, b4, b5, b6, b7⟩, _⟩ := eight hb4.b
  clear hb4 hs4 hp4 hft hvl hpl
  go_wp2_with fail
  refine (rexpire (.slice ax q.L.length cx) q now' age w4 HS4.out HD.out.qs.ok np0 (by omega) HTK.out).mono ?_
  rintro e w5 ⟨xv', u, rfl, hr⟩
  dsimp only [rcs]
  obtain ⟨ax', cx', hxv', _, _⟩ := Sub.form hr.sub
  obtain ⟨au, cu, hu, _, _⟩ := Sub.form hr.gone
  have hdl : (expD q now' age).length ≤ 1024 := by
    have := HD.out.qs.small
    unfold expD
    rw [List.length_take]; omega
  generalize hq' : expQ q now' age = q' at *
  have HQE := Lib.hid hq'
  generalize hD' : expD q now' age = D at *
  have HDE := Lib.hid hD'
  have HB5 := Lib.hid (HB4.out.new hr.n)
  have HR5 := Lib.hid hr
  clear b0 b1 b2 b3 b4 b5 b6 b7 hr hq' hD'
  obtain ⟨al, cl, hvl2, _⟩ := HF4.out.own.form
  subst hxv' hu hvl2
  have hy6 : Blk (w5.alloc (.cells #[.int .i64 q'.frames, .int .i64 q'.most, .slice ax' q'.L.length cx', .bool q'.broken] RQ)) w5.heap.size #[.int .i64 q'.frames, .int .i64 q'.most, .slice ax' q'.L.length cx', .bool q'.broken] RQ := Blk.new _ _ _
  have n6 : New w5 (w5.alloc (.cells #[.int .i64 q'.frames, .int .i64 q'.most, .slice ax' q'.L.length cx', .bool q'.broken] RQ)) := (Turns.refl _ _).alloc _
  have HB6 := Lib.hid (HB5.out.new n6)
  have HN6 := Lib.hid n6
  have HY6 := Lib.hid hy6
  clear hy6 n6
  go_upto_region 20 with fail
  refine (show Code.wp _ _ _ _ (w5.alloc (.cells #[.int .i64 q'.frames, .int .i64 q'.most, .slice ax' q'.L.length cx', .bool q'.broken] RQ)) from ?_)
  have hyp : w5.heap.size ≠ pb := by have := HB5.out.b.lt; omega
  generalize w5.alloc (.cells #[.int .i64 q'.frames, .int .i64 q'.most, .slice ax' q'.L.length cx', .bool q'.broken] RQ) = w6 at *
  generalize w5.heap.size = py at *
  obtain ⟨_, z0, z1, z2, z3, z4, z5, z6, z7⟩ := eight HB6.out.b
  obtain ⟨⟨b0, b1, b2, b3, b4, b5, b6, b7⟩, _⟩ := eight HB6.out.b
  obtain ⟨⟨y0, y1, y2, y3⟩, _⟩ := four HY6.out
  have t8 := puts_turns (S := (· = pb)) (p := pb) (.inl rfl) [.int .i64 q'.frames, .int .i64 q'.most, .slice ax' q'.L.length cx', .bool q'.broken] 1 w6 (Turns.refl _ _)
  have hb8 : Blk (puts w6 pb 1 [.int .i64 q'.frames, .int .i64 q'.most, .slice ax' q'.L.length cx', .bool q'.broken]) pb (stL p q' (.slice ax' q'.L.length cx') now' n age).toArray TS := puts_over [.int .i64 q'.frames, .int .i64 q'.most, .slice ax' q'.L.length cx', .bool q'.broken] 1 _ _ HB6.out.b
  have HB8 : Hid (Bx w (puts w6 pb 1 [.int .i64 q'.frames, .int .i64 q'.most, .slice ax' q'.L.length cx', .bool q'.broken]) pb pa pr (stL p q' (.slice ax' q'.L.length cx') now' n age) [.int .i64 3, .int .i64 sz, .bool ky]) := Lib.hid ⟨hb8, t8.blk HB6.out.a HPB.out.2.2.2.1.symm, t8.blk HB6.out.r HPB.out.2.2.2.2.1.symm⟩
  have HT8 := Lib.hid t8
  clear hb8 t8
  go_upto_region 21 with fail
  refine (show Code.wp _ _ _ _ (puts w6 pb 1 [.int .i64 q'.frames, .int .i64 q'.most, .slice ax' q'.L.length cx', .bool q'.broken]) from ?_)
  clear b0 b1 b2 b3 b4 b5 b6 b7 y0 y1 y2 y3 z0 z1 z2 z3 z4 z5 z6 z7
  generalize puts w6 pb 1 [.int .i64 q'.frames, .int .i64 q'.most, .slice ax' q'.L.length cx', .bool q'.broken] = w8 at *
  have hpbp : ∀ g, w.heap.size ≤ g → g ≠ p := fun g hg e => by have := HD.out.qs.lt; omega
  have N46 : Hid (New w4 w6) := Lib.hid (HR5.out.n.trans (HN6.out.mono (fun _ _ h => h.elim)))
  have HFIN : Hid (∀ w9 wz, New w8 w9 → Turns (· = pr) w9 wz → ∃ pv', Dn w wz p pv (.slice ax q.L.length cx) q' pv' (.slice ax' q'.L.length cx')) := Lib.hid (fun w9 wz n9 tz => by
    obtain ⟨⟨pv', hq4, hloc⟩, ht4⟩ := HP4.out
    have hsz4 := HN2.out.size
    have t46 := N46.out
    have hpl := HD.out.qs.lt
    have hn48 : Turns (· = pb) w4 w8 := (t46.mono (fun _ _ h => h.elim)).trans (HT8.out.mono (fun _ _ h => .inl h))
    have hn49 : Turns (· = pb) w4 w9 := hn48.trans (n9.mono (fun _ _ h => h.elim))
    have hn4z : Turns (fun k => k = pb ∨ k = pr) w4 wz := (hn49.mono (fun _ _ h => .inl h)).trans (tz.mono (fun _ _ h => .inl (.inr h)))
    have hpv' : ∀ g, pv'.ownBlock = some g → g ≠ pb ∧ g ≠ pr ∧ (pv.ownBlock = some g ∨ w2.heap.size ≤ g) := fun g hg => by
      rcases hloc with e | ⟨g', e, hg'⟩
      · have := HD.out.qs.vlt g (e ▸ hg)
        exact ⟨by have := HPB.out.1; omega, by have := HPB.out.2.2.1; omega, .inl (e ▸ hg)⟩
      · rw [e] at hg
        injection hg with hg
        have h1 := HB2.out.b.lt
        have h2 := HB2.out.r.lt
        exact ⟨by omega, by omega, .inr (by omega)⟩
    have hqz := hq4.turns hn4z (fun e => by
      rcases e with e | e
      · exact hpbp pb HPB.out.1 e.symm
      · exact hpbp pr HPB.out.2.2.1 e.symm) (fun g hg e => by
      have := hpv' g hg
      rcases e with e | e
      · exact this.1 e
      · exact this.2.1 e)
    have hsrc : ∀ g, (Value.slice ax' q'.L.length cx').ownBlock = some g → (Value.slice ax q.L.length cx).ownBlock = some g ∨ w4.heap.size ≤ g := HR5.out.src
    have hs4 := ht4.size
    have hne : ∀ g, (Value.slice ax' q'.L.length cx').ownBlock = some g → g ≠ pb ∧ g ≠ pr := fun g hg => by
      rcases hsrc g hg with e | e
      · have := (Sub.lt HD.out.sub g e).2
        exact ⟨by have := HPB.out.1; omega, by have := HPB.out.2.2.1; omega⟩
      · have h1 := HB4.out.b.lt
        have h2 := HB4.out.r.lt
        exact ⟨by omega, by omega⟩
    have h5z : Turns (fun k => k = pb ∨ k = pr) w5 wz := ((HN6.out.mono (fun _ _ h => h.elim)).trans ((HT8.out.mono (fun _ _ h => .inl (.inl h))))).trans (((n9.mono (fun _ _ h => h.elim)).trans (tz.mono (fun _ _ h => .inl (.inl (.inr h))))))
    have hsz := Sub.turns' HR5.out.sub h5z (fun g hg e => by
      have := hne g hg
      rcases e with e | e
      · exact this.1 e
      · exact this.2 e)
    refine ⟨pv', ⟨hqz, hsz, fun g hg => ?_⟩, ?_, fun g hg => ?_, ?_⟩
    · rcases hsrc g hg with e | e
      · have ha := HD.out.ap g e
        refine ⟨ha.1, fun e2 => ?_⟩
        rcases (hpv' g e2).2.2 with e3 | e3
        · exact ha.2 e3
        · have := (Sub.lt HD.out.sub g e).2; omega
      · refine ⟨fun e2 => by omega, fun e2 => ?_⟩
        have := hq4.vlt g e2; omega
    · rcases hloc with e | ⟨g', e, hg'⟩
      · exact .inl e
      · exact .inr ⟨g', e, by omega⟩
    · rcases hsrc g hg with e | e
      · exact .inl e
      · exact .inr (by omega)
    · exact (HN2.out.mono (fun _ _ h => h.elim)).trans ((ht4.mono (fun _ _ h => .inl h)).trans (hn4z.mono (fun k _ hk => .inl (.inr (by rcases hk with e | e <;> rw [e]; exact HPB.out.1; exact HPB.out.2.2.1))))))
  have hsame : Hid (∀ W, New w8 W → _) := Lib.hid (fun W n => same (.slice al D.length cl) (.slice au D.length cu) D W
    (by
      have h4 : Sub IE 0 w4 (.slice al D.length cl) D := HF4.out.own.sub 0 (fun _ _ => Nat.zero_le _)
      have h8 := Sub.turns' (Sub.new h4 N46.out) HT8.out (fun g hg e => by
        have h1 := HF4.out.vb g hg
        have h2 := HB2.out.b.lt
        omega)
      exact Sub.new h8 n)
    (by
      have h8 := Sub.turns' (Sub.new HR5.out.gone HN6.out) HT8.out (fun g hg e => by
        have h1 := HR5.out.gsrc g hg
        have h2 := HB4.out.b.lt
        omega)
      exact Sub.new h8 n) (by omega))
  have HB8' := HB8.out
  obtain ⟨⟨b0, b1, b2, b3, b4, b5, b6, b7⟩, _⟩ := eight HB8'.b
  obtain ⟨⟨r0, r1, r2, r3, r4, r5, r6, r7⟩, y0, y1, y2, y3, y4, y5, y6, y7⟩ := eight HB8'.r
  have hFd : Hid (∃ fD : Bool, fD = decide (0 < (D.length : Int))) := Lib.hid ⟨_, rfl⟩
  obtain ⟨fD, hfD⟩ := hFd.out
  have hfd2 : decide (0 < (D.length : Int)) = fD := hfD.symm
  have hfd3 : decide (0 < D.length) = fD := by rw [← hfd2]; apply decide_eq_decide.2; omega
  have HFD := Lib.hid hfd2
  clear hfD hFd HB8'
  have hrb := HPB.out.2.2.2.2.1
  have hpl8 := HB8.out.b.lt
  clear HTK HD HD3 HB2 HP4 HB4 HS4 HF4 N46 HR5 HB5 HN6 HB6 HY6 HT8 HN2
  have HH : HeldD w8 w8 pr pb (.pointer (some ⟨p, 0, none⟩)) (.int .i64 q'.frames) (.int .i64 q'.most) (.slice ax' q'.L.length cx') (.bool q'.broken) (.int .i64 now') (.int .i64 n) (.int .i64 age) := ⟨Turns.refl _ _, hpl8, b0, b1, b2, b3, b4, b5, b6, b7⟩
  clear b0 b1 b2 b3 b4 b5 b6 b7
  obtain ⟨_, _, b0, b1, b2, b3, b4, b5, b6, b7⟩ := id HH
  first
    | go_region_held (fun w' => Turns (· = pr) w8 w' ∧ pb < w'.heap.size ∧ w'.cell? ⟨pb, 0, none⟩ = some (.pointer (some ⟨p, 0, none⟩)) ∧ w'.cell? ⟨pb, 1, none⟩ = some (.int .i64 q'.frames) ∧ w'.cell? ⟨pb, 2, none⟩ = some (.int .i64 q'.most) ∧ w'.cell? ⟨pb, 3, none⟩ = some (.slice ax' q'.L.length cx') ∧ w'.cell? ⟨pb, 4, none⟩ = some (.bool q'.broken) ∧ w'.cell? ⟨pb, 5, none⟩ = some (.int .i64 now') ∧ w'.cell? ⟨pb, 6, none⟩ = some (.int .i64 n) ∧ w'.cell? ⟨pb, 7, none⟩ = some (.int .i64 age))
        (first
          | (with_reducible assumption)
          | ((with_reducible refine heldD_drew ?_); with_reducible assumption)
          | ((with_reducible refine heldD_new (by with_reducible assumption) hrb ?_); with_reducible assumption)
          | ((with_reducible refine heldD_store hrb _ _ _ _ _ _ _ _ ?_); with_reducible assumption))
        ((go_at_call 46; (with_reducible refine Calls.mono (hsame.out _ ?_) ?_); (focus (repeat (first | exact Turns.refl _ _ | with_reducible apply Turns.drew))); rintro e w9 ⟨rfl, n9⟩; have hr9 : Blk w9 pr zrs.toArray TS := n9.blk HB8.out.r (fun h => h); obtain ⟨⟨r0', r1', r2', r3', r4', r5', r6', r7'⟩, y0', y1', y2', y3', y4', y5', y6', y7'⟩ := eight hr9))
    | skip
  all_goals
    go_wp2_with fail
    refine (show bodyPost _ _ _ _ _ (puts w9 pr 0 (stL p q' (.slice ax' q'.L.length cx') now' n age)) from ?_)
    have hz9 := puts_blk zrs (stL p q' (.slice ax' q'.L.length cx') now' n age) hr9 rfl
    obtain ⟨pv', hdn⟩ := HFIN.out w9 (puts w9 pr 0 (stL p q' (.slice ax' q'.L.length cx') now' n age)) (by first | exact n9 | exact Turns.of_drew n9 | exact Turns.of_drew (Turns.of_drew n9)) (puts_turns (S := (· = pr)) (.inl rfl) _ 0 _ (Turns.refl _ _))
    generalize puts w9 pr 0 (stL p q' (.slice ax' q'.L.length cx') now' n age) = wz at *
    obtain ⟨⟨g0, g1, g2, g3, g4, g5, g6, g7⟩, _⟩ := eight hz9
    refine bodyPost_ret (v := .tuple #[.agg (stL p q' (.slice ax' q'.L.length cx') now' n age).toArray, .int .i64 0, .bool fD, .bool true]) (by simp [results, Try.results16, go_sem, g0, g1, g2, g3, g4, g5, g6, g7]) rfl ?_
    exact ⟨pv', .slice ax' q'.L.length cx', by rw [HQE.out, HDE.out, HFD.out], by rw [HQE.out]; exact hdn⟩
end Go.Proofs.Ytcaloeolmoodbaa.que
