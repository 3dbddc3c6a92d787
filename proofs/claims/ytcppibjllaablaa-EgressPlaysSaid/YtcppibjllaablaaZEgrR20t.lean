/-
  The reference of layer 20: Tick.
-/
import Derived.Test.YtcppibjllaablaaZEgrR20e
import Derived.Test.YtcppibjllaablaaZKae
set_option linter.unusedVariables false
set_option linter.unusedSimpArgs false
namespace Go.Proofs.Ytcppibjllaablaa.egr
open Go.RowKit mem
open Go.Proofs.Ytcppibjllaablaa.drr (plc plc_at plc_no plc_cases before_succ before_all made0G)
set_option linter.unusedVariables false

/-- in the loop: k flows are looked at -/
structure Rk (now : Int) (w wr : World) (pb pr : Nat) (ar : Option Addr) (nr cr : Nat) (L0 : List Rf) (r : Eo) (k : Nat) (ak : Option Addr) (nk ck : Nat) (Lk : List Rf) (rk : Eo) (o : List Snt) (u : Value) : Prop where
  bx : Bx w wr pb pr rk (.slice ak nk ck) (.slice ar nr cr)
  ro : RO wr (.slice ak nk ck) (.slice ar nr cr) Lk rk
  asc : RAsc Lk
  len : Lk.length = L0.length
  same : ∀ j, k ≤ j → Lk[j]? = L0[j]?
  st : TSteps now r ((L0.map (·.id)).take k) o rk
  age : rk.age = r.age
  gr : Gr SE RSeT w wr u o
  ol : o.length ≤ 1024 * k
theorem Bx.self {w wx : World} {pb pr : Nat} {r r' : Eo} {vL vS vL' vS' : Value} (h : Bx w wx pb pr r vL vS) : Turns (· = pb) wx (puts wx pb 0 (rO r' vL' vS').toList) ∧ Bx w (puts wx pb 0 (rO r' vL' vS').toList) pb pr r' vL' vS' := by
  have t : Turns (· = pb) wx (puts wx pb 0 (rO r' vL' vS').toList) := puts_turns (S := (· = pb)) (.inl rfl) _ 0 _ (Turns.refl _ _)
  exact ⟨t, puts_blk _ _ h.bx rfl, t.blk h.rb (fun e => h.lo.2.2 e.symm), h.n.trans (t.mono (fun k _ hk => .inr (by rw [hk]; exact h.lo.1))), h.lo⟩
theorem RO.turn {w w' : World} {pb : Nat} {cs : Array Value} {vL vS : Value} {L : List Rf} {r : Eo} (h : RO w vL vS L r) (hb : Blk w pb cs RT20) (t : Turns (· = pb) w w') : RO w' vL vS L r :=
  ⟨h.l.turns t (fun y hy e => h.l.off hb (by decide) (by rw [hy, e])), fun f hf => (h.q f hf).turns t (fun y hy e => (h.q f hf).off hb (by decide) (by rw [hy, e])), h.s.turns t (fun y hy e => h.s.off hb (by decide) (by rw [hy, e])), h.e, fun f hf => Nat.lt_of_lt_of_le (h.b f hf) t.size⟩
theorem Bx.ro {w wx : World} {pb pr : Nat} {r : Eo} {vL vS : Value} {L : List Rf} (h : Bx w wx pb pr r vL vS) (k : RO wx vL vS L r) : RO (puts wx pr 0 (rO r vL vS).toList) vL vS L r :=
  ⟨h.ts r vL vS k.l (by decide), fun f hf => h.ts r vL vS (k.q f hf) (by decide), h.ts r vL vS k.s (by decide), k.e, fun f hf => Nat.lt_of_lt_of_le (k.b f hf) (h.turn r vL vS).size⟩
theorem expD_len (q : que.Q) (now age : Int) : (que.expD q now age).length ≤ q.L.length := by unfold que.expD; rw [List.length_take]; omega
theorem owns_blk {α : Type} {E : Enc α} {T : TypeId} {w : World} {v : Value} {l : List α} (h : Owns E T w v l) : ∀ g, v.ownBlock = some g → ∃ cs, Blk w g cs T := fun g hg => by
  rcases h.2 with ⟨rfl, _⟩ | ⟨g', cap, cur, rfl, _, hb, _⟩
  · simp [Value.ownBlock] at hg
  · have : g' = g := by simpa [Value.ownBlock] using hg
    subst this
    exact ⟨_, hb⟩
/-- the row of the answers has grown -/
theorem RO.grow {w w' : World} {v vL vS : Value} {L : List Rf} {r : Eo} {l : List Snt} (h : RO w vL vS L r) (ho : Owns SE RSeT w v l) (t : Turns (fun i => some i = v.ownBlock) w w') : RO w' vL vS L r := by
  refine ⟨h.l.turns t (fun y hy e => ?_), fun f hf => (h.q f hf).turns t (fun y hy e => ?_), h.s.turns t (fun y hy e => ?_), h.e, fun f hf => Nat.lt_of_lt_of_le (h.b f hf) t.size⟩
  · obtain ⟨cs, hb⟩ := owns_blk ho y e.symm
    exact h.l.off hb (by decide) hy
  · obtain ⟨cs, hb⟩ := owns_blk ho y e.symm
    exact (h.q f hf).off hb (by decide) hy
  · obtain ⟨cs, hb⟩ := owns_blk ho y e.symm
    exact h.s.off hb (by decide) hy
theorem Bx.grow {w wx w2 : World} {pb pr : Nat} {r : Eo} {v vL vS : Value} {l : List Snt} (h : Bx w wx pb pr r vL vS) (ho : Owns SE RSeT wx v l) (hb : ∀ g, v.ownBlock = some g → w.heap.size ≤ g) (t : Turns (fun i => some i = v.ownBlock) wx w2) : Bx w w2 pb pr r vL vS :=
  ⟨t.blk h.bx (fun e => own_ne ho h.bx (by decide) e.symm), t.blk h.rb (fun e => own_ne ho h.rb (by decide) e.symm), h.n.trans (t.mono (fun k _ hk => .inr (hb k hk.symm))), h.lo⟩

set_option maxRecDepth 100000 in
set_option maxHeartbeats 8000000 in
theorem rtick (al : Option Addr) (nl cl : Nat) (ar : Option Addr) (nr cr : Nat) (L : List Rf) (r : Eo) (now : Int) (w : World) (h : RO w (.slice al nl cl) (.slice ar nr cr) L r) (hl : L.length ≤ 1000) (ha : RAsc L) (ok : ∀ f ∈ L, f.q.ok ∧ ∀ x ∈ f.q.L, 0 ≤ x.tick ∧ x.tick ≤ 2199023255552) (n0 : 0 ≤ now) (n1 : now ≤ 2199023255552) :
    Calls Try.prog 57 #[.agg (rO r (.slice al nl cl) (.slice ar nr cr)), .int .i64 now] w fun e w' => ∃ a4 n4 c4 L' r' o u, e = .returned (.tuple #[.agg (rO r' (.slice a4 n4 c4) (.slice ar nr cr)), u]) ∧ TSteps now r (L.map (·.id)) o r' ∧ RO w' (.slice a4 n4 c4) (.slice ar nr cr) L' r' ∧ RAsc L' ∧ Gr SE RSeT w w' u o := by
  have HO := Lib.hid h
  have HOK := Lib.hid ok
  have HNW := Lib.hid (And.intro n0 n1)
  have HB := Lib.hid (Bx.start w r (.slice al nl cl) (.slice ar nr cr))
  have HLN : Hid (L.length ≤ 1000) := Lib.hid hl
  have hnl : nl = L.length := by
    obtain ⟨_, n2, c2, hv, hn, _⟩ := h.l.form
    injection hv with e1 e2 e3
    omega
  have HN := Lib.hid hnl
  have hn2 : nl ≤ 1000 := by omega
  have HAS := Lib.hid ha
  clear h hl ha ok n0 n1 hnl
  go_enter Try.func57, Try.ntmps57
  go_upto_region 1 with fail
  refine (show Code.wp _ _ _ _ ((w.alloc (.cells (rO r (.slice al nl cl) (.slice ar nr cr)) RT20)).alloc (.cells z12.toArray RT20)) from ?_)
  generalize (w.alloc (.cells (rO r (.slice al nl cl) (.slice ar nr cr)) RT20)).alloc (.cells z12.toArray RT20) = w2 at *
  obtain ⟨pb, hpb⟩ : ∃ pb, pb = w.heap.size := ⟨_, rfl⟩
  rw [← hpb] at HB
  rw [← hpb]
  clear hpb
  generalize pb + 1 = pr at *
  have b5 : w2.cell? ⟨pb, 5, none⟩ = some (.slice al nl cl) := HB.out.bx.cell 5
  have hpl := HB.out.bx.lt
  have HK0 : Hid (Rk now w (w2.alloc (.cells #[] RSeT)) pb pr ar nr cr L r 0 al nl cl L r [] (.slice (some ⟨w2.heap.size, 0, none⟩) 0 0)) := Lib.hid ⟨HB.out.later ((Turns.refl _ _).alloc _), HO.out.later (HB.out.n.alloc _), HAS.out, rfl, fun j _ => rfl, TSteps.nil r, rfl, ⟨made0G SE (Blk.new _ _ _), fun g hg => by
    have : w2.heap.size = g := by simpa [Value.ownBlock] using hg
    have := HB.out.n.size
    omega, HB.out.n.alloc _⟩, Nat.le_refl _⟩
  go_wp2_with fail
  go_loopw [6, 15] (fun o i wr => ∃ (k : Nat) (au : Option Addr) (nu cu : Nat) (ak : Option Addr) (nk ck : Nat) (Lk : List Rf) (rk : Eo) (ok : List Snt), k ≤ nl ∧ i = .int .i64 k ∧ o = .slice au nu cu ∧ Rk now w wr pb pr ar nr cr L r k ak nk ck Lk rk ok (.slice au nu cu)) (fun _ i _ => nl - (intOf i).toNat)
  case atStart => exact ⟨0, _, _, _, _, _, _, _, _, _, Nat.zero_le _, rfl, rfl, HK0.out⟩
  case round =>
    obtain ⟨k, au, nu, cu, ak, nk, ck, Lk, rk, ok, hk, rfl, rfl, hrk⟩ := hrel
    have HK := Lib.hid hrk
    clear hrk HK0 b5 hpl
    by_cases hlt : k < nl
    · obtain ⟨f, hx⟩ : ∃ f, L[k]? = some f := ⟨_, List.getElem?_eq_getElem (by have := HN.out; omega)⟩
      have HX := Lib.hid hx
      have HXK : Hid (Lk[k]? = some f) := Lib.hid (by rw [HK.out.same k (Nat.le_refl _)]; exact hx)
      obtain ⟨g, o, hg, hgl, z0, z1, z2, z3, z4, z5⟩ := rf_at (HO.out.later HK.out.bx.n).l hx
      subst hg
      have HFK := Lib.hid (HOK.out f (List.mem_of_getElem? hx))
      have d1 : decide ((k : Int) < (nl : Int)) = true := decide_eq_true (by omega)
      have j1 : (k : Int) < (nl : Int) := by omega
      have hw : IntKind.i64.wrap ((k : Int) + 1) = (k : Int) + 1 := IntWalk.i64_in _ (by omega)
      have HBX : Hid (Blk (wr.alloc (.cells #[.int .i64 f.id, .bool f.video, .int .i64 f.q.frames, .int .i64 f.q.most, .slice f.ao f.q.L.length f.c, .bool f.q.broken] FT)) wr.heap.size #[.int .i64 f.id, .bool f.video, .int .i64 f.q.frames, .int .i64 f.q.most, .slice f.ao f.q.L.length f.c, .bool f.q.broken] FT) := Lib.hid (Blk.new _ _ _)
      have HN4 : Hid (New wr (wr.alloc (.cells #[.int .i64 f.id, .bool f.video, .int .i64 f.q.frames, .int .i64 f.q.most, .slice f.ao f.q.L.length f.c, .bool f.q.broken] FT))) := Lib.hid ((Turns.refl _ _).alloc _)
      have HPX : Hid (pb ≠ wr.heap.size) := Lib.hid (Nat.ne_of_lt HK.out.bx.bx.lt)
      clear hx
      go_upto_region 5 with fail
      refine (show Code.wp _ _ _ _ (wr.alloc (.cells #[.int .i64 f.id, .bool f.video, .int .i64 f.q.frames, .int .i64 f.q.most, .slice f.ao f.q.L.length f.c, .bool f.q.broken] FT)) from ?_)
      clear z0 z1 z2 z3 z4 z5 hgl
      generalize wr.alloc (.cells #[.int .i64 f.id, .bool f.video, .int .i64 f.q.frames, .int .i64 f.q.most, .slice f.ao f.q.L.length f.c, .bool f.q.broken] FT) = w4 at *
      generalize wr.heap.size = px at *
      have HB4 := Lib.hid (HK.out.bx.later HN4.out)
      have b2 : w4.cell? ⟨pb, 2, none⟩ = some (.int .i64 rk.age) := HB4.out.bx.cell 2
      have x2 : w4.cell? ⟨px, 2, none⟩ = some (.int .i64 f.q.frames) := HBX.out.cell 2
      have x3 : w4.cell? ⟨px, 3, none⟩ = some (.int .i64 f.q.most) := HBX.out.cell 3
      have x4 : w4.cell? ⟨px, 4, none⟩ = some (.slice f.ao f.q.L.length f.c) := HBX.out.cell 4
      have x5 : w4.cell? ⟨px, 5, none⟩ = some (.bool f.q.broken) := HBX.out.cell 5
      have HQ4 := Lib.hid ((HO.out.later HB4.out.n).q f (List.mem_of_getElem? HX.out))
      have HEX := Lib.hid (que.rexpire (.slice f.ao f.q.L.length f.c) f.q now rk.age w4 HQ4.out.sub HFK.out.1 HNW.out.1 HNW.out.2 HFK.out.2)
      dsimp only [que.rcs] at HEX
      have HDL : Hid ((que.expD f.q now rk.age).length ≤ 1024) := Lib.hid (by
        have h1 := expD_len f.q now rk.age
        have h2 := HFK.out.1.len
        have h3 := HFK.out.1.f2
        omega)
      obtain ⟨q5, hq5⟩ : ∃ q5, q5 = que.expQ f.q now rk.age := ⟨_, rfl⟩
      obtain ⟨D, hD⟩ : ∃ D, D = que.expD f.q now rk.age := ⟨_, rfl⟩
      rw [← hq5, ← hD] at HEX
      rw [← hD] at HDL
      have HQE : Hid (q5 = que.expQ f.q now rk.age ∧ D = que.expD f.q now rk.age) := Lib.hid ⟨hq5, hD⟩
      clear hq5 hD
      go_wp2_with fail
      refine HEX.out.mono ?_
      rintro e w5 ⟨v', u', rfl, hp⟩
      obtain ⟨av, cv, hv, _⟩ := Sub.form hp.sub
      obtain ⟨au', cu', hu', _⟩ := Sub.form hp.gone
      obtain ⟨mv, hmv⟩ : ∃ mv, mv = q5.L.length := ⟨_, rfl⟩
      obtain ⟨mu, hmu⟩ : ∃ mu, mu = D.length := ⟨_, rfl⟩
      rw [← hmv] at hv
      rw [← hmu] at hu'
      have HMV := Lib.hid hmv
      clear hmv hmu
      subst hv hu'
      have HP := Lib.hid hp
      have HTQ : Hid (TS que.IE que.OT w5 (.slice av mv cv) q5.L) := Lib.hid ⟨hp.sub, fun g hg => by
        rcases hp.ty g hg with e | e
        · exact (HQ4.out.later hp.n).ty g e
        · exact e⟩
      have HN5 := Lib.hid hp.n
      have HB5 := Lib.hid (HB4.out.later hp.n)
      have HX5 := Lib.hid (hp.n.blk HBX.out (fun h => h))
      clear hp HEX b2 x2 x3 x4 x5
      go_upto_region 6 with fail
      have HBQ : Hid (Blk (w5.alloc (.cells #[.int .i64 q5.frames, .int .i64 q5.most, .slice av mv cv, .bool q5.broken] que.RQ)) w5.heap.size #[.int .i64 q5.frames, .int .i64 q5.most, .slice av mv cv, .bool q5.broken] que.RQ) := Lib.hid (Blk.new _ _ _)
      have HN6 : Hid (New w5 (w5.alloc (.cells #[.int .i64 q5.frames, .int .i64 q5.most, .slice av mv cv, .bool q5.broken] que.RQ))) := Lib.hid ((Turns.refl _ _).alloc _)
      refine (show Code.wp _ _ _ _ (w5.alloc (.cells #[.int .i64 q5.frames, .int .i64 q5.most, .slice av mv cv, .bool q5.broken] que.RQ)) from ?_)
      generalize w5.alloc (.cells #[.int .i64 q5.frames, .int .i64 q5.most, .slice av mv cv, .bool q5.broken] que.RQ) = w6 at *
      generalize w5.heap.size = pq at *
      have HB6 := Lib.hid (HB5.out.later HN6.out)
      have HX6 := Lib.hid (HN6.out.blk HX5.out (fun h => h))
      have HTQ6 := Lib.hid (HTQ.out.later HN6.out)
      have HR6 := Lib.hid (HK.out.ro.later ((HN4.out.trans (HN5.out.mono (fun _ _ h => h.elim))).trans (HN6.out.mono (fun _ _ h => h.elim))))
      have HS6 := Lib.hid (rset (.slice ak nk ck) ar nr cr Lk rk k f q5 av mv cv w6 HR6.out.l (by rw [HK.out.len]; have := HLN.out; omega) HXK.out HMV.out)
      obtain ⟨⟨q0, q1, q2, q3⟩, _⟩ := que.four HBQ.out
      obtain ⟨⟨b0, b1, b2, b3, b4, b5, b6, b7, b8, b9, b10, b11⟩, y0, y1, y2, y3, y4, y5, y6, y7, y8, y9, y10, y11⟩ := twelve HB6.out.bx
      go_wp2_with fail
      refine HS6.out.mono ?_
      rintro e w7 ⟨a4, n4, c4, rfl, hts, n7⟩
      have HN7 := Lib.hid n7
      have HT7 := Lib.hid hts
      have HB7 := Lib.hid (HB6.out.later n7)
      have HX7 := Lib.hid (n7.blk HX6.out (fun h => h))
      have HTQ7 := Lib.hid (HTQ6.out.later n7)
      clear q0 q1 q2 q3 b0 b1 b2 b3 b4 b5 b6 b7 b8 b9 b10 b11 y0 y1 y2 y3 y4 y5 y6 y7 y8 y9 y10 y11 HS6 n7 hts
      obtain ⟨⟨b0, b1, b2, b3, b4, b5, b6, b7, b8, b9, b10, b11⟩, y0, y1, y2, y3, y4, y5, y6, y7, y8, y9, y10, y11⟩ := twelve HB7.out.bx
      go_upto_region 7 with fail
      clear b0 b1 b2 b3 b4 b5 b6 b7 b8 b9 b10 b11 y0 y1 y2 y3 y4 y5 y6 y7 y8 y9 y10 y11
      have HR7 := Lib.hid (HR6.out.set HN7.out HK.out.asc HXK.out HT7.out (by rw [← HMV.out]; exact HTQ7.out))
      have HSF := Lib.hid (HB7.out.self (r' := expE rk (toE f) now (.slice none 0 0)) (vL' := .slice a4 n4 c4) (vS' := .slice ar nr cr))
      have HR8 := Lib.hid (HR7.out.turn HB7.out.bx HSF.out.1)
      have HX8 := Lib.hid (HSF.out.1.blk HX7.out (fun e => HPX.out e.symm))
      have HO7 := Lib.hid (((HK.out.gr.own.turns HN4.out (fun _ _ h => h)).turns HN5.out (fun _ _ h => h)).turns HN6.out (fun _ _ h => h) |>.turns HN7.out (fun _ _ h => h))
      have HO8 := Lib.hid (HO7.out.turns HSF.out.1 (fun g hg e => own_ne HO7.out HB7.out.bx (by decide) (by rw [hg, e])))
      have HU8 := Lib.hid (Sub.turns' (que.Sub.new (que.Sub.new HP.out.gone HN6.out) HN7.out) HSF.out.1 (fun g hg e => by have := HP.out.gsrc g hg; have := HB4.out.bx.lt; omega))
      refine (show Code.wp _ _ _ _ (puts w7 pb 0 (rO (expE rk (toE f) now (.slice none 0 0)) (.slice a4 n4 c4) (.slice ar nr cr)).toList) from ?_)
      generalize puts w7 pb 0 (rO (expE rk (toE f) now (.slice none 0 0)) (.slice a4 n4 c4) (.slice ar nr cr)).toList = w8 at *
      have x0 : w8.cell? ⟨px, 0, none⟩ = some (.int .i64 f.id) := HX8.out.cell 0
      have HA8 := Lib.hid (rall f.id (.slice au' mu cu') D w8 HU8.out (by have := HDL.out; omega))
      have HLE : Hid (ok.length + (nam f.id D).length ≤ 1048576) := Lib.hid (by
        have h1 := HK.out.ol
        have h2 := HDL.out
        have h3 := HN.out
        have h4 := HLN.out
        unfold nam
        rw [List.length_map]
        omega)
      go_wp2_with fail
      refine HA8.out.mono ?_
      rintro e w9 ⟨u9, rfl, hu⟩
      have HG := Lib.hid hu
      obtain ⟨a9, c9, hu9, _⟩ := hu.own.form
      obtain ⟨n9, hn9⟩ : ∃ n9, n9 = (nam f.id D).length := ⟨_, rfl⟩
      rw [← hn9] at hu9
      subst hu9
      have HO9 := Lib.hid (HO8.out.turns hu.n (fun _ _ h => h))
      have HS9 := Lib.hid ((TS.of_owns hu.own).sub)
      have HB9 := Lib.hid (HSF.out.2.later hu.n)
      have HR9 := Lib.hid (HR8.out.later hu.n)
      have HVB := Lib.hid HK.out.gr.vb
      clear hu hn9 HA8 x0
      go_wp2_with (at_builtin; refine wpList_append_sub (E := SE) Try.underlying73 infoRs rfl (by decide) (by decide) rfl _ _ rfl _ ok (nam f.id D) rfl HO9.out _ rfl 0 HS9.out HLE.out ?_)
      intro v10 w10 hown hgrow hat
      have HK10 : Hid (Rk now w w10 pb pr ar nr cr L r (k + 1) a4 n4 c4 (Lk.set k (f.with q5 av cv)) (expE rk (toE f) now (.slice none 0 0)) (ok ++ nam f.id D) v10) := Lib.hid (by
        have t := Turns.of_grown hgrow
        have hB := HB9.out.grow HO9.out HVB.out t
        have hR := HR9.out.grow HO9.out t
        have hQ := HQE.out
        refine ⟨hB, ?_, HK.out.asc.set HXK.out q5 av cv, by rw [List.length_set]; exact HK.out.len, fun j hj => ?_, ?_, HK.out.age, ⟨hown, fun g hg => ?_, hB.n⟩, ?_⟩
        · unfold expE
          have e : que.expQ (toE f).q now rk.age = q5 := hQ.1.symm
          rw [e]
          exact hR
        · rw [List.getElem?_set_ne (by omega)]
          exact HK.out.same j (by omega)
        · rw [drr.take_succ' (show (L.map (·.id))[k]? = some f.id by rw [List.getElem?_map, HX.out]; rfl), hQ.2]
          exact TSteps.snoc (f := toE f) (.slice none 0 0) HK.out.st (by rw [HK.out.ro.e]; exact List.mem_map_of_mem (List.mem_of_getElem? HXK.out))
        · rcases hat with e | e
          · exact HVB.out g (e ▸ hg)
          · rw [e] at hg; injection hg with hg; have := HB9.out.n.size; omega
        · have h1 := HK.out.ol
          have h2 := HDL.out
          unfold nam
          rw [List.length_append, List.length_map]
          omega)
      obtain ⟨a10, c10, hv10, _⟩ := hown.form
      generalize (ok ++ nam f.id D).length = n10 at hv10
      subst hv10
      clear hown hgrow hat HK
      go_wp2_with fail
      go_roundw
      case rel => exact ⟨k + 1, a10, n10, c10, a4, n4, c4, _, _, _, by omega, by push_cast; go_num, rfl, HK10.out⟩
      case measure => simp [intOf, hw]; omega
    · have d1 : decide ((k : Int) < (nl : Int)) = false := decide_eq_false (by omega)
      have d2 : decide (k < nl) = false := decide_eq_false hlt
      have HKE : Hid (k = L.length) := Lib.hid (by have := HN.out; omega)
      obtain ⟨⟨b0, b1, b2, b3, b4, b5, b6, b7, b8, b9, b10, b11⟩, _⟩ := twelve HK.out.bx.bx
      obtain ⟨⟨r0, r1, r2, r3, r4, r5, r6, r7, r8, r9, r10, r11⟩, y0, y1, y2, y3, y4, y5, y6, y7, y8, y9, y10, y11⟩ := twelve HK.out.bx.rb
      have HFI := Lib.hid (HK.out.bx.fin rk (.slice ak nk ck) (.slice ar nr cr))
      have HFR := Lib.hid (HK.out.bx.ro HK.out.ro)
      have HFU := Lib.hid (HK.out.bx.ow rk (.slice ak nk ck) (.slice ar nr cr) HK.out.gr.own (by decide))
      go_wp2_with fail
      refine (show bodyPost _ _ _ _ _ (puts wr pr 0 (rO rk (.slice ak nk ck) (.slice ar nr cr)).toList) from ?_)
      clear r0 r1 r2 r3 r4 r5 r6 r7 r8 r9 r10 r11 y0 y1 y2 y3 y4 y5 y6 y7 y8 y9 y10 y11 b0 b1 b2 b3 b4 b5 b6 b7 b8 b9 b10 b11
      generalize puts wr pr 0 (rO rk (.slice ak nk ck) (.slice ar nr cr)).toList = w12 at *
      obtain ⟨⟨e0, e1, e2, e3, e4, e5, e6, e7, e8, e9, e10, e11⟩, _⟩ := twelve HFI.out.1
      refine bodyPost_ret (v := .tuple #[.agg (rO rk (.slice ak nk ck) (.slice ar nr cr)), .slice au nu cu]) (by simp [results, Try.results57, go_sem, e0, e1, e2, e3, e4, e5, e6, e7, e8, e9, e10, e11]) rfl ?_
      exact ⟨ak, nk, ck, Lk, rk, ok, _, rfl, by
        have := HK.out.st
        rw [HKE.out, show L.length = (L.map (·.id)).length by rw [List.length_map], List.take_length] at this
        exact this, HFR.out, HK.out.asc, ⟨HFU.out, HK.out.gr.vb, HFI.out.2⟩⟩
end Go.Proofs.Ytcppibjllaablaa.egr
