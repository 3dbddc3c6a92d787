/-
  The reference of layer 18: Expire.
-/
import Derived.Test.YtcppibjllaablaaZKac
set_option linter.unusedVariables false
set_option linter.unusedSimpArgs false
namespace Go.Proofs.Ytcppibjllaablaa.que
open Go.RowKit mem
set_option linter.unusedVariables false

/-- in the reference's loop: k items are gone, out holds them -/
structure RLoopE (w wr : World) (v : Value) (q : Q) (pb pr : Nat) (vk vo : Value) (k : Nat) : Prop where
  box : Blk wr pb (rcs (qk q k) vk) RQ
  sub : Sub IE 0 wr vk (q.L.drop k)
  src : ∀ g, vk.ownBlock = some g → v.ownBlock = some g
  out : Owns IE OT wr vo (q.L.take k)
  vb : ∀ g, vo.ownBlock = some g → w.heap.size ≤ g ∧ g ≠ pb ∧ g ≠ pr
  rbox : Blk wr pr #[.int .i64 0, .int .i64 0, .slice none 0 0, .bool false] RQ
  n : New w wr

theorem RLoopE.later {w wr w2 : World} {v : Value} {q : Q} {pb pr : Nat} {vk vo : Value} {k : Nat} (h : RLoopE w wr v q pb pr vk vo k) (n : New wr w2) : RLoopE w w2 v q pb pr vk vo k :=
  ⟨n.blk h.box (fun h => h), Sub.new h.sub n, h.src, h.out.turns n (fun _ _ h => h), h.vb, n.blk h.rbox (fun h => h), h.n.trans (n.mono (fun _ _ h => h.elim))⟩
theorem RLoopE.step {w w5 w6 w9 : World} {v : Value} {q : Q} {pb pr k d : Nat} {vk vo v' u v9 : Value} {o : Obj} (h : RLoopE w w5 v q pb pr vk vo k) (hd : DropPost w5 w6 vk (q.L.drop k) v' u) (hde : d = dropN (q.L.drop k)) (hvl : ∀ g, v.ownBlock = some g → g < w.heap.size) (hpb : w.heap.size ≤ pb) (hpr : pr ≠ pb)
    (ho : Owns IE OT w9 v9 (q.L.take k ++ (q.L.drop k).take d)) (hg : (puts (w6.alloc o) pb 0 (rcs (qk q (k + d)) v').toList).grownBy w9 vo.ownBlock) (ha : v9.ownBlock = vo.ownBlock ∨ v9.ownBlock = some (puts (w6.alloc o) pb 0 (rcs (qk q (k + d)) v').toList).heap.size) :
    RLoopE w w9 v q pb pr v' v9 (k + d) := by
  subst hde
  have n7 : New w5 (w6.alloc o) := hd.n.alloc o
  have b7 := n7.blk h.box (fun h => h)
  have t8 : Turns (· = pb) (w6.alloc o) (puts (w6.alloc o) pb 0 (rcs (qk q (k + dropN (q.L.drop k))) v').toList) := puts_turns (S := (· = pb)) (.inl rfl) _ 0 _ (Turns.refl _ _)
  have b8 := puts_blk (rcs (qk q k) vk).toList (rcs (qk q (k + dropN (q.L.drop k))) v').toList b7 rfl
  have r8 := t8.blk (n7.blk h.rbox (fun h => h)) hpr
  have t9 := Turns.of_grown hg
  have hvk : ∀ g, v'.ownBlock = some g → g < w.heap.size := fun g hg => hvl g (h.src g (hd.lb ▸ hg))
  have n8 : New w (puts (w6.alloc o) pb 0 (rcs (qk q (k + dropN (q.L.drop k))) v').toList) := (h.n.trans (n7.mono (fun _ _ h => h.elim))).trans (t8.mono (fun i _ hi => .inr (by rw [hi]; exact hpb)))
  refine ⟨t9.blk b8 (fun e => (h.vb pb e.symm).2.1 rfl), ?_, fun g hg => h.src g (hd.lb ▸ hg), by rw [take_more] at ho; exact ho, fun g hg => ?_, t9.blk r8 (fun e => (h.vb pr e.symm).2.2 rfl), n8.trans (t9.mono (fun i _ hi => .inr (h.vb i hi.symm).1))⟩
  · have s6 : Sub IE 0 w6 v' ((q.L.drop k).drop (dropN (q.L.drop k))) := .inr hd.left
    rw [List.drop_drop] at s6
    have s7 := Sub.turns s6 ((Turns.refl (fun _ => False) _).alloc o) (fun _ _ h => h)
    have s8 := Sub.turns' s7 t8 (fun g hg e => by have := hvk g hg; omega)
    exact Sub.turns' s8 t9 (fun g hg e => by have := hvk g hg; have := (h.vb g e.symm).1; omega)
  · rcases ha with e | e
    · exact h.vb g (e ▸ hg)
    · rw [e] at hg
      injection hg with hg
      have := n8.size
      have := b8.lt
      have := r8.lt
      exact ⟨by omega, by omega, by omega⟩


set_option maxHeartbeats 2000000 in
set_option maxRecDepth 10000 in
theorem rexpire (v : Value) (q : Q) (now age : Int) (w : World) (h : Sub IE 0 w v q.L) (ok : q.ok) (n0 : 0 ≤ now) (n1 : now ≤ 2199023255552) (ht : ∀ x ∈ q.L, 0 ≤ x.tick ∧ x.tick ≤ 2199023255552) :
    Calls Try.prog 43 #[.agg (rcs q v), .int .i64 now, .int .i64 age] w fun e w' => ∃ v' u, e = .returned (.tuple #[.agg (rcs (expQ q now age) v'), u]) ∧ RPost w w' v (expQ q now age) v' u (expD q now age) := by
  obtain ⟨ao, c, hv, hc, hcm⟩ := h.form
  have HSV := Lib.hid h
  have hsm : q.L.length ≤ 1024 := by have := ok.len; have := ok.f2; omega
  have hlm : q.L.length ≤ maxLen := by unfold maxLen; omega
  have HT := Lib.hid ht
  have H00 : Hid (late now age [] = false) := Lib.hid rfl
  clear h ok ht
  dsimp only [rcs] at *
  subst hv
  have hn3 : New w (((w.alloc (.cells #[.int .i64 q.frames, .int .i64 q.most, .slice ao q.L.length c, .bool q.broken] RQ)).alloc (.cells #[.int .i64 0, .int .i64 0, .slice none 0 0, .bool false] RQ)).alloc (.cells #[] OT)) := (((Turns.refl _ _).alloc _).alloc _).alloc _
  have hb3 : Blk (((w.alloc (.cells #[.int .i64 q.frames, .int .i64 q.most, .slice ao q.L.length c, .bool q.broken] RQ)).alloc (.cells #[.int .i64 0, .int .i64 0, .slice none 0 0, .bool false] RQ)).alloc (.cells #[] OT)) w.heap.size #[.int .i64 q.frames, .int .i64 q.most, .slice ao q.L.length c, .bool q.broken] RQ := ((Blk.new _ _ _).alloc _).alloc _
  have hr3 : Blk (((w.alloc (.cells #[.int .i64 q.frames, .int .i64 q.most, .slice ao q.L.length c, .bool q.broken] RQ)).alloc (.cells #[.int .i64 0, .int .i64 0, .slice none 0 0, .bool false] RQ)).alloc (.cells #[] OT)) (w.heap.size + 1) #[.int .i64 0, .int .i64 0, .slice none 0 0, .bool false] RQ := (Blk.new' _ _ _ (by simp)).alloc _
  have ho3 : Owns IE OT (((w.alloc (.cells #[.int .i64 q.frames, .int .i64 q.most, .slice ao q.L.length c, .bool q.broken] RQ)).alloc (.cells #[.int .i64 0, .int .i64 0, .slice none 0 0, .bool false] RQ)).alloc (.cells #[] OT)) (.slice (some ⟨w.heap.size + 1 + 1, 0, none⟩) 0 0) [] := Owns.made0 (Blk.new' _ _ _ (by simp))
  have HR4 : Hid (RLoopE w (((w.alloc (.cells #[.int .i64 q.frames, .int .i64 q.most, .slice ao q.L.length c, .bool q.broken] RQ)).alloc (.cells #[.int .i64 0, .int .i64 0, .slice none 0 0, .bool false] RQ)).alloc (.cells #[] OT)) (.slice ao q.L.length c) q w.heap.size (w.heap.size + 1) (.slice ao q.L.length c) (.slice (some ⟨w.heap.size + 1 + 1, 0, none⟩) 0 0) 0) := Lib.hid (by
    refine ⟨by rw [qk_zero]; exact hb3, Sub.new HSV.out hn3, fun g hg => hg, ho3, fun g hg => ?_, hr3, hn3⟩
    have e : w.heap.size + 1 + 1 = g := by simpa [Value.ownBlock] using hg
    exact ⟨by omega, by omega, by omega⟩)
  have HPB : Hid (w.heap.size ≤ w.heap.size ∧ w.heap.size ≤ w.heap.size + 1 ∧ w.heap.size ≠ w.heap.size + 1) := Lib.hid (by omega)
  have HVL : Hid (∀ g, (Value.slice ao q.L.length c).ownBlock = some g → g < w.heap.size) := Lib.hid (fun g hg => (Sub.lt HSV.out g hg).2)
  clear hn3 hb3 hr3 ho3
  go_enter Try.func43, Try.ntmps43
  go_upto_region 2 with fail
  refine (show Code.wp _ _ _ _ (((w.alloc (.cells #[.int .i64 q.frames, .int .i64 q.most, .slice ao q.L.length c, .bool q.broken] RQ)).alloc (.cells #[.int .i64 0, .int .i64 0, .slice none 0 0, .bool false] RQ)).alloc (.cells #[] OT)) from ?_)
  generalize (((w.alloc (.cells #[.int .i64 q.frames, .int .i64 q.most, .slice ao q.L.length c, .bool q.broken] RQ)).alloc (.cells #[.int .i64 0, .int .i64 0, .slice none 0 0, .bool false] RQ)).alloc (.cells #[] OT)) = w4 at *
  obtain ⟨pb, hpb⟩ : ∃ pb, pb = w.heap.size := ⟨_, rfl⟩
  have HPB2 : Hid (w.heap.size ≤ pb ∧ w.heap.size ≤ pb + 1 ∧ pb ≠ pb + 1) := Lib.hid (by omega)
  rw [← hpb] at HR4
  rw [← hpb]
  clear HPB hpb
  generalize pb + 1 + 1 = po at *
  generalize pb + 1 = pr at *
  go_wp2_with fail
  go_loopw [8] (fun vo wr => ∃ (k : Nat) (vk : Value), k ≤ q.L.length ∧ k + sh (late now age) (q.L.drop k) = expK q now age ∧ (∃ ao c, vo = .slice ao k c) ∧ RLoopE w wr (.slice ao q.L.length c) q pb pr vk vo k) (fun v _ => q.L.length - slen v)
  case atStart => exact ⟨0, _, Nat.zero_le _, by rw [List.drop_zero, Nat.zero_add]; rfl, ⟨_, _, rfl⟩, HR4.out⟩
  case round =>
    obtain ⟨k, vk, hk, hsh, ⟨ao7, c7, rfl⟩, hr⟩ := hrel
    obtain ⟨a1, c1, hvk, hc1, hcm1⟩ := Sub.form hr.sub
    rw [List.length_drop] at hvk hc1
    subst hvk
    have HSH := Lib.hid hsh
    have HR5 := Lib.hid hr
    obtain ⟨⟨b0, b1, b2, b3⟩, z0, z1, z2, z3⟩ := four hr.box
    have hq1 : (qk q k).frames = q.frames := rfl
    have hq2 : (qk q k).most = q.most := rfl
    rw [hq1] at b0
    rw [hq2] at b1
    clear hr hsh hq1 hq2
    by_cases hkl : k < q.L.length
    · obtain ⟨y, hy⟩ : ∃ y, q.L[k]? = some y := ⟨_, List.getElem?_eq_getElem hkl⟩
      have hy0 : (q.L.drop k)[0]? = some y := by rw [List.getElem?_drop]; exact hy
      obtain ⟨r, hr⟩ : ∃ r, q.L.drop k = y :: r := by
        obtain ⟨hlt', e⟩ := List.getElem?_eq_some_iff.1 hy
        exact ⟨_, by rw [List.drop_eq_getElem_cons hlt', e]⟩
      obtain ⟨t0, t1⟩ := HT.out y (List.mem_of_getElem? hy)
      obtain ⟨g, o, c', hv, hg, _, _, d2, _⟩ := Sub.at' HR5.out.sub hy0
      rw [List.length_drop] at hv
      injection hv with hv1 _ hv3
      subst hv1 hv3
      have hd2 : wr.cell? ⟨g, o + 2, none⟩ = some (.int .i64 y.tick) := by simpa using d2
      have hlate : Hid (late now age (q.L.drop k) = decide (age ≤ now - y.tick)) := Lib.hid (by rw [hr]; rfl)
      have hne : q.L.drop k ≠ [] := by rw [hr]; simp
      generalize y.tick = ty at *
      have hw : IntKind.i64.wrap (now - ty) = now - ty := IntWalk.i64_in _ (by omega)
      have hd : decide ((0 : Int) < ((q.L.length - k : Nat) : Int)) = true := decide_eq_true (by omega)
      have HNE := Lib.hid hne
      clear d2 hy hy0 hr hne
      by_cases hl : age ≤ now - ty
      · have hl2 : decide (age ≤ now - ty) = true := decide_eq_true hl
        have HL : Hid (late now age (q.L.drop k) = true) := Lib.hid (by rw [hlate.out]; exact hl2)
        have HGO := Lib.hid (sh_go (late now age) H00.out (q.L.drop k) HL.out)
        clear hlate
        have HDR := Lib.hid (rdrop q.frames q.most (.slice (some ⟨g, o, none⟩) (q.L.length - k) c1) (q.L.drop k) (qk q k).broken wr HR5.out.sub (by rw [List.length_drop]; omega) HNE.out)
        rw [dropB q k hkl] at HDR
        have hdl := dropN_le (q.L.drop k) HNE.out
        have hdn := dropN_pos (q.L.drop k)
        rw [List.length_drop] at hdl
        obtain ⟨d, hd9⟩ : ∃ d, d = dropN (q.L.drop k) := ⟨_, rfl⟩
        rw [← hd9] at hdl hdn HDR
        have HD := Lib.hid hd9
        clear hd9
        go_wp2_with fail
        refine HDR.out.mono ?_
        rintro e w6 ⟨v', u, rfl, hdp⟩
        obtain ⟨a6, c6, hv6, _⟩ := Sub.form (.inr hdp.left)
        rw [List.length_drop, List.length_drop, ← HD.out] at hv6
        subst hv6
        have HDP := Lib.hid hdp
        clear hdp b0 b1 b2 b3 z0 z1 z2 z3 hd2
        go_upto_region 4 with fail
        refine (show Code.wp _ _ _ _ (w6.alloc (.cells #[.int .i64 q.frames, .int .i64 q.most, .slice a6 (q.L.length - k - d) c6, .bool (qk q (k + d)).broken] RQ)) from ?_)
        have hb7 := ((HDP.out.n.alloc (.cells #[.int .i64 q.frames, .int .i64 q.most, .slice a6 (q.L.length - k - d) c6, .bool (qk q (k + d)).broken] RQ)).blk HR5.out.box (fun h => h))
        have hm7 : Blk (w6.alloc (.cells #[.int .i64 q.frames, .int .i64 q.most, .slice a6 (q.L.length - k - d) c6, .bool (qk q (k + d)).broken] RQ)) w6.heap.size #[.int .i64 q.frames, .int .i64 q.most, .slice a6 (q.L.length - k - d) c6, .bool (qk q (k + d)).broken] RQ := Blk.new _ _ _
        have hp8 : w6.heap.size ≠ pb := by have := (HDP.out.n.blk HR5.out.box (fun h => h)).lt; omega
        obtain ⟨⟨m0, m1', m2', m3⟩, _⟩ := four hm7
        obtain ⟨⟨b0, b1, b2, b3⟩, z0, z1, z2, z3⟩ := four hb7
        have HR8 : Hid (∀ v9 w9, Owns IE OT w9 v9 (q.L.take k ++ (q.L.drop k).take d) → (puts (w6.alloc (.cells #[.int .i64 q.frames, .int .i64 q.most, .slice a6 (q.L.length - k - d) c6, .bool (qk q (k + d)).broken] RQ)) pb 0 [.int .i64 q.frames, .int .i64 q.most, .slice a6 (q.L.length - k - d) c6, .bool (qk q (k + d)).broken]).grownBy w9 (Value.slice ao7 k c7).ownBlock → (v9.ownBlock = (Value.slice ao7 k c7).ownBlock ∨ v9.ownBlock = some (puts (w6.alloc (.cells #[.int .i64 q.frames, .int .i64 q.most, .slice a6 (q.L.length - k - d) c6, .bool (qk q (k + d)).broken] RQ)) pb 0 [.int .i64 q.frames, .int .i64 q.most, .slice a6 (q.L.length - k - d) c6, .bool (qk q (k + d)).broken]).heap.size) → RLoopE w w9 (.slice ao q.L.length c) q pb pr (.slice a6 (q.L.length - k - d) c6) v9 (k + d)) := Lib.hid (fun v9 w9 ho hg ha =>
          HR5.out.step (o := .cells #[.int .i64 q.frames, .int .i64 q.most, .slice a6 (q.L.length - k - d) c6, .bool (qk q (k + d)).broken] RQ) HDP.out HD.out HVL.out HPB2.out.1 HPB2.out.2.2.symm ho hg ha)
        have t8 : Turns (· = pb) (w6.alloc (.cells #[.int .i64 q.frames, .int .i64 q.most, .slice a6 (q.L.length - k - d) c6, .bool (qk q (k + d)).broken] RQ)) (puts (w6.alloc (.cells #[.int .i64 q.frames, .int .i64 q.most, .slice a6 (q.L.length - k - d) c6, .bool (qk q (k + d)).broken] RQ)) pb 0 [.int .i64 q.frames, .int .i64 q.most, .slice a6 (q.L.length - k - d) c6, .bool (qk q (k + d)).broken]) := puts_turns (S := (· = pb)) (.inl rfl) _ 0 _ (Turns.refl _ _)
        have HO8 := Lib.hid ((HR5.out.out.turns (HDP.out.n.alloc (.cells #[.int .i64 q.frames, .int .i64 q.most, .slice a6 (q.L.length - k - d) c6, .bool (qk q (k + d)).broken] RQ)) (fun _ _ h => h)).turns t8 (fun g hg e => (HR5.out.vb g hg).2.1 e))
        have HU8 : Hid (Sub IE 0 _ u ((q.L.drop k).take d)) := Lib.hid (Sub.turns' (Sub.turns' (.inr (by rw [HD.out]; exact HDP.out.gone)) ((Turns.refl (fun _ => False) _).alloc (.cells #[.int .i64 q.frames, .int .i64 q.most, .slice a6 (q.L.length - k - d) c6, .bool (qk q (k + d)).broken] RQ)) (fun _ _ h => h)) t8 (fun g hg e => by
          have h1 := HVL.out g (HR5.out.src g (HDP.out.gb ▸ hg))
          have h2 := HPB2.out.1
          omega))
        have hll : Hid ((q.L.take k).length + ((q.L.drop k).take d).length ≤ 1048576) := Lib.hid (by simp only [List.length_take, List.length_drop]; omega)
        have HGO2 := HGO.out.2
        rw [List.drop_drop, ← HD.out] at HGO2
        have HS2 : Hid (k + d + sh (late now age) (q.L.drop (k + d)) = expK q now age) := Lib.hid (by have := HSH.out; omega)
        clear hm7 hb7 t8 HGO2 HGO HDR HDP HR5
        generalize w6.alloc (.cells #[.int .i64 q.frames, .int .i64 q.most, .slice a6 (q.L.length - k - d) c6, .bool (qk q (k + d)).broken] RQ) = w7 at *
        generalize w6.heap.size = p8 at *
        go_upto_region 5 with fail
        refine (show Code.wp _ _ _ _ (puts w7 pb 0 [.int .i64 q.frames, .int .i64 q.most, .slice a6 (q.L.length - k - d) c6, .bool (qk q (k + d)).broken]) from ?_)
        clear b0 b1 b2 b3 z0 z1 z2 z3 m0 m1' m2' m3
        generalize puts w7 pb 0 [.int .i64 q.frames, .int .i64 q.most, .slice a6 (q.L.length - k - d) c6, .bool (qk q (k + d)).broken] = w8 at *
        go_wp2_with (at_builtin; refine wpList_append_sub (E := IE) Try.underlying24 infoO rfl (by decide) (by decide) rfl _ _ rfl _ (q.L.take k) _ rfl HO8.out _ rfl 0 HU8.out hll.out ?_; intro v9 w9 hown9 hgrow9 hat9)
        have hr9 := HR8.out v9 w9 hown9 hgrow9 hat9
        obtain ⟨a9, c9, hv9, _⟩ := hown9.form
        rw [take_more, show (q.L.take (k + d)).length = k + d by rw [List.length_take]; omega] at hv9
        have HE := Lib.hid hr9
        clear hr9 hown9 hgrow9 hat9 HR8
        subst hv9
        go_roundw
        case rel => exact ⟨k + d, _, by omega, HS2.out, ⟨_, _, rfl⟩, HE.out⟩
        case measure => show q.L.length - (k + d) < q.L.length - k; omega
      · have hl2 : decide (age ≤ now - ty) = false := decide_eq_false hl
        have HL : Hid (late now age (q.L.drop k) = false) := Lib.hid (by rw [hlate.out]; exact hl2)
        have HK : Hid (expK q now age = k) := Lib.hid (by have := HSH.out; rw [sh_end _ _ HL.out] at this; omega)
        clear hlate
        have HE : Hid (Blk (puts wr pr 0 [.int .i64 q.frames, .int .i64 q.most, .slice (some ⟨g, o, none⟩) (q.L.length - k) c1, .bool (qk q k).broken]) pr #[.int .i64 q.frames, .int .i64 q.most, .slice (some ⟨g, o, none⟩) (q.L.length - k) c1, .bool (qk q k).broken] RQ ∧ RPost w (puts wr pr 0 [.int .i64 q.frames, .int .i64 q.most, .slice (some ⟨g, o, none⟩) (q.L.length - k) c1, .bool (qk q k).broken]) (.slice ao q.L.length c) (expQ q now age) (.slice (some ⟨g, o, none⟩) (q.L.length - k) c1) (.slice ao7 k c7) (expD q now age)) := Lib.hid (by
          have e1 : expQ q now age = qk q k := by unfold expQ qk; rw [HK.out]
          have e2 : expD q now age = q.L.take k := by unfold expD; rw [HK.out]
          have t2 := puts_turns (S := (· = pr)) (p := pr) (.inl rfl) [.int .i64 q.frames, .int .i64 q.most, .slice (some ⟨g, o, none⟩) (q.L.length - k) c1, .bool (qk q k).broken] 0 _ (Turns.refl _ wr)
          have n2 : New w _ := HR5.out.n.trans (t2.mono (fun i _ hi => .inr (by rw [hi]; exact HPB2.out.2.1)))
          rw [e1, e2]
          refine ⟨puts_blk _ _ HR5.out.rbox rfl, Sub.turns' HR5.out.sub t2 (fun g hg e => ?_), fun g hg => .inl (HR5.out.src g hg), (HR5.out.out.turns t2 (fun g hg e => (HR5.out.vb g hg).2.2 e)).sub 0 (fun _ _ => Nat.zero_le _), (fun g hg => (HR5.out.vb g hg).1), n2, fun g hg => .inl (HR5.out.src g hg)⟩
          have h1 := HVL.out g (HR5.out.src g hg)
          have h2 := HPB2.out.2.1
          omega)
        have e1 : Hid ((expQ q now age).frames = q.frames ∧ (expQ q now age).most = q.most ∧ (expQ q now age).broken = (qk q k).broken) := Lib.hid (by
          unfold expQ
          rw [HK.out]
          exact ⟨rfl, rfl, rfl⟩)
        obtain ⟨⟨r0, r1, r2, r3⟩, y0, y1, y2, y3⟩ := four HR5.out.rbox
        have hne := HPB2.out.2.2
        have hne' := hne.symm
        generalize (qk q k).broken = qb at *
        clear HR5
        go_wp2_with fail
        refine (show bodyPost _ _ _ _ _ (puts wr pr 0 [.int .i64 q.frames, .int .i64 q.most, .slice (some ⟨g, o, none⟩) (q.L.length - k) c1, .bool qb]) from ?_)
        generalize puts wr pr 0 [.int .i64 q.frames, .int .i64 q.most, .slice (some ⟨g, o, none⟩) (q.L.length - k) c1, .bool qb] = w9 at *
        obtain ⟨⟨g0, g1, g2, g3⟩, _⟩ := four HE.out.1
        refine bodyPost_ret (v := .tuple #[.agg #[.int .i64 q.frames, .int .i64 q.most, .slice (some ⟨g, o, none⟩) (q.L.length - k) c1, .bool qb], .slice ao7 k c7]) (by simp [results, Try.results43, go_sem, g0, g1, g2, g3]) rfl ?_
        exact ⟨_, _, by rw [e1.out.1, e1.out.2.1, e1.out.2.2], HE.out.2⟩
    · obtain rfl : k = q.L.length := by omega
      have HK : Hid (expK q now age = q.L.length) := Lib.hid (by have := HSH.out; rw [List.drop_length, sh_end _ _ H00.out] at this; omega)
      have hz : q.L.length - q.L.length = 0 := Nat.sub_self _
      rw [hz] at b2 HR5
      have HE : Hid (Blk (puts wr pr 0 [.int .i64 q.frames, .int .i64 q.most, .slice a1 0 c1, .bool (qk q q.L.length).broken]) pr #[.int .i64 q.frames, .int .i64 q.most, .slice a1 0 c1, .bool (qk q q.L.length).broken] RQ ∧ RPost w (puts wr pr 0 [.int .i64 q.frames, .int .i64 q.most, .slice a1 0 c1, .bool (qk q q.L.length).broken]) (.slice ao q.L.length c) (expQ q now age) (.slice a1 0 c1) (.slice ao7 q.L.length c7) (expD q now age)) := Lib.hid (by
        have e1 : expQ q now age = qk q q.L.length := by unfold expQ qk; rw [HK.out]
        have e2 : expD q now age = q.L.take q.L.length := by unfold expD; rw [HK.out]
        have t2 := puts_turns (S := (· = pr)) (p := pr) (.inl rfl) [.int .i64 q.frames, .int .i64 q.most, .slice a1 0 c1, .bool (qk q q.L.length).broken] 0 _ (Turns.refl _ wr)
        have n2 : New w _ := HR5.out.n.trans (t2.mono (fun i _ hi => .inr (by rw [hi]; exact HPB2.out.2.1)))
        rw [e1, e2]
        refine ⟨puts_blk _ _ HR5.out.rbox rfl, Sub.turns' HR5.out.sub t2 (fun g hg e => ?_), fun g hg => .inl (HR5.out.src g hg), (HR5.out.out.turns t2 (fun g hg e => (HR5.out.vb g hg).2.2 e)).sub 0 (fun _ _ => Nat.zero_le _), (fun g hg => (HR5.out.vb g hg).1), n2, fun g hg => .inl (HR5.out.src g hg)⟩
        have h1 := HVL.out g (HR5.out.src g hg)
        have h2 := HPB2.out.2.1
        omega)
      have e1 : Hid ((expQ q now age).frames = q.frames ∧ (expQ q now age).most = q.most ∧ (expQ q now age).broken = (qk q q.L.length).broken) := Lib.hid (by
        unfold expQ
        rw [HK.out]
        exact ⟨rfl, rfl, rfl⟩)
      obtain ⟨⟨r0, r1, r2, r3⟩, y0, y1, y2, y3⟩ := four HR5.out.rbox
      have hne := HPB2.out.2.2
      have hne' := hne.symm
      generalize (qk q q.L.length).broken = qb at *
      clear HR5
      go_wp2_with fail
      refine (show bodyPost _ _ _ _ _ (puts wr pr 0 [.int .i64 q.frames, .int .i64 q.most, .slice a1 0 c1, .bool qb]) from ?_)
      generalize puts wr pr 0 [.int .i64 q.frames, .int .i64 q.most, .slice a1 0 c1, .bool qb] = w9 at *
      obtain ⟨⟨g0, g1, g2, g3⟩, _⟩ := four HE.out.1
      refine bodyPost_ret (v := .tuple #[.agg #[.int .i64 q.frames, .int .i64 q.most, .slice a1 0 c1, .bool qb], .slice ao7 q.L.length c7]) (by simp [results, Try.results43, go_sem, g0, g1, g2, g3]) rfl ?_
      exact ⟨_, _, by rw [e1.out.1, e1.out.2.1, e1.out.2.2], HE.out.2⟩
end Go.Proofs.Ytcppibjllaablaa.que
