/-
  egress.Out: Run.
-/
import Derived.Test.YtcaloeolmoodbaaEgrRunP
import Derived.Test.YtcaloeolmoodbaaQueExpire
namespace Go.Proofs.Ytcaloeolmoodbaa.egr
open Go.RowKit mem Go.Maps
open Go.Proofs.Ytcaloeolmoodbaa.itr
set_option linter.unusedVariables false

/-! ### a row of yet another type grows -/
theorem own_own {α β : Type} {E : Enc α} {F : Enc β} {w : World} {v u : Value} {l : List α} {m : List β} {T U : TypeId} (h : Owns E T w v l) (k : Owns F U w u m) (hT : T ≠ U) : ∀ g, u.ownBlock = some g → some g ≠ v.ownBlock := by
  rcases k.2 with ⟨rfl, _⟩ | ⟨g, cap, cur, rfl, _, hb, _⟩
  · intro g hg; simp [Value.ownBlock] at hg
  · intro g' hg e
    have : g = g' := by simpa [Value.ownBlock] using hg
    subst this
    exact own_ne h (show Blk w g cur U from hb) hT e.symm
theorem Es.row {w w' : World} {A : Ad} {k : Nat} {e : Eo} (h : Es w A k e) {α : Type} {E : Enc α} {T : TypeId} {v : Value} {l : List α} (ho : Owns E T w v l) (a1 : T ≠ OB) (a2 : T ≠ 114) (a3 : T ≠ 37) (a4 : T ≠ 117) (a5 : T ≠ 121) (a6 : T ≠ GB) (t : Turns (fun i => some i = v.ownBlock) w w') : Es w' A k e := by
  obtain ⟨c, D, hc, hmp, hr⟩ := h.map
  obtain ⟨c2, D2, hc2, hss⟩ := h.sch
  have off : ∀ {r : Nat} {cs : Array Value} {U : TypeId}, Blk w r cs U → T ≠ U → ¬ some r = v.ownBlock := fun hb hT e2 => own_ne ho hb hT e2.symm
  refine ⟨t.blk h.blk (off h.blk a1), ⟨c, D, hc, ownsMap_turns hmp t (fun hk => ownsMap_ne_row hmp ho _ hk.symm rfl), hr⟩, fun f hf => t.blk (h.fb f hf) (off (h.fb f hf) a6), fun f hf => (h.qs f hf).turns t (off (h.qs f hf).blk a2) (own_own ho (h.qs f hf).own a3), ⟨c2, D2, hc2, hss.turns t (off hss.blk a4) (fun hk => ownsMap_ne_row hss.map ho _ hk.symm rfl) (fun f hf => off (hss.fb f hf) a5)⟩, h.ap, h.mm, h.rg, h.cf, h.fq, h.sm, h.vs⟩
theorem Sf.grow {b : Nat} {A : Ad} {w w1 w2 : World} (h : Sf b A w w1) (hb : b ≤ w.heap.size) (t : Turns (fun i => w.heap.size ≤ i) w1 w2) : Sf b A w w2 :=
  ⟨h.t.trans (t.mono (fun i _ hi => .inl (Nat.le_trans hb hi))), fun r cs T hk a1 a2 a3 a4 a5 => by
    have hl := hk.lt
    have hz := h.t.size
    rw [t.block r (by omega) (by omega), h.c r cs T hk a1 a2 a3 a4 a5]⟩
/-- in the loop -/
structure Rx (b : Nat) (w wr : World) (A : Ad) (k : Nat) (e : Eo) (R : Int) (u v : Value) (l : List Snt) (e1 : Eo) : Prop where
  st : Steps e l e1
  es : Es wr A k e1
  lo : Lo b A e1
  sf : Sf b A w wr
  ids : idS e1.L = idS e.L
  ui : Owns IntE 3 wr u (idS e.L)
  ow : Owns SE SeT wr v l
  vb : ∀ g, v.ownBlock = some g → w.heap.size ≤ g
  tot : l.length + Tot e1.L = Tot e.L
  r0 : 0 ≤ e1.row
  r1 : e1.row + Tot e1.L ≤ R
theorem Rx.go {b : Nat} {w wr w6 w9 : World} {A : Ad} {k : Nat} {e : Eo} {R : Int} {u v v9 : Value} {l : List Snt} {e1 : Eo} (h : Rx b w wr A k e R u v l e1) (hb : b ≤ w.heap.size) (hn : (nextS e1).2.1 = true) {f : Ef} (hf : f ∈ e1.L) (hid : f.id = (nextS e1).1) {x : que.It} (hx : f.q.L[0]? = some x) (hcr : x.size ≤ e1.credit) {pv : Value}
    (hes : Es w6 A k (goneE e1 f x pv)) (lo : Lo b A (goneE e1 f x pv)) (sf : Sf b A wr w6) {o : Obj}
    (ho : Owns SE SeT w9 v9 (l ++ [⟨f.id, x⟩])) (hg : (w6.alloc o).grownBy w9 v.ownBlock) (ha : v9.ownBlock = v.ownBlock ∨ v9.ownBlock = some (w6.alloc o).heap.size) : Rx b w w9 A k e R u v9 (l ++ [⟨f.id, x⟩]) (goneE e1 f x pv) := by
  have hov := sf.row h.ow (by decide) (by decide) (by decide) (by decide) (by decide)
  have hoi := sf.row h.ui (by decide) (by decide) (by decide) (by decide) (by decide)
  have ht := Gr.turned hg
  have hsw := h.sf.trans sf
  have hlen : (f.q.L.drop 1).length = f.q.L.length - 1 := List.length_drop
  have h0 : 0 < f.q.L.length := (List.getElem?_eq_some_iff.1 hx).1
  have htot : Tot (goneE e1 f x pv).L + 1 = Tot e1.L := by
    have := tot_set h.es.ap hf pv ⟨f.q.frames, f.q.most, f.q.L.drop 1, f.q.broken⟩
    rw [gone_L]
    simp only at this
    omega
  have hrow := gone_row e1 f x pv h.r0
  have h1 := h.r1
  refine ⟨Steps.snoc pv h.st hn hf hid hx hcr, hes.row hov (by decide) (by decide) (by decide) (by decide) (by decide) (by decide) ht, lo, hsw.grow hb (ht.mono (fun i _ hi => h.vb i hi.symm)), by rw [gone_L, setQ_idS]; exact h.ids, hoi.turns ht (fun g hg e2 => own_own hov hoi (by decide) g hg e2), ho, fun g hg2 => ?_, ?_, hrow.1, by omega⟩
  · rcases ha with e2 | e2
    · exact h.vb g (by rw [← e2]; exact hg2)
    · rw [e2] at hg2
      injection hg2 with hg2
      have := hsw.t.size
      simp at hg2; omega
  · have := h.tot
    rw [List.length_append, List.length_singleton]; omega
set_option maxRecDepth 100000 in
set_option maxHeartbeats 4000000 in
theorem run (b : Nat) (A : Ad) (k : Nat) (e : Eo) (w : World) (h : Es w A k e) (lo : Lo b A e) (hb : b ≤ w.heap.size) (hk : k ≤ 1048576) (hL : e.L.length ≤ 1048576) (hT : Tot e.L ≤ 1048575) (r0 : 0 ≤ e.row) (r1 : e.row ≤ 4611686018427387904) :
    Calls Try.prog 59 #[.pointer (some ⟨A.o, 0, none⟩)] w fun x w' => ∃ v l e', x = .returned v ∧ Ran e l e' ∧ Es w' A k e' ∧ Lo b A e' ∧ Sf b A w w' ∧ Owns SE SeT w' v l ∧ (∀ g, v.ownBlock = some g → w.heap.size ≤ g) ∧ e'.row ≤ e.row + Tot e.L ∧ 0 ≤ e'.row := by
  have HI := Lib.hid (ids A k e w h hk)
  have HH := Lib.hid (And.intro h lo)
  have HRR : Hid (0 ≤ e.row ∧ e.row ≤ 4611686018427387904 ∧ (idS e.L).length ≤ 1048576 ∧ b ≤ w.heap.size) := Lib.hid ⟨r0, r1, by rw [(idS_perm e.L).length_eq, List.length_map]; exact hL, hb⟩
  clear h lo r0 r1 hk hL hb
  go_enter Try.func59, Try.ntmps59
  go_wp2_with fail
  refine HI.out.mono ?_
  rintro x w1 ⟨u, rfl, hu⟩
  have HX0 : Hid (Rx b w w1 A k e (e.row + Tot e.L) u (.slice none 0 0) [] e) := Lib.hid ⟨Steps.nil e, HH.out.1.later hu.n, HH.out.2, Sf.new hu.n, rfl, hu.own, Owns.nil _ _, (fun g hg => by simp [Value.ownBlock] at hg), by simp, HRR.out.1, Int.le_refl _⟩
  clear hu HI
  go_wp2_with fail
  go_loopw [3] (fun v wr => ∃ l e1, Rx b w wr A k e (e.row + Tot e.L) u v l e1) (fun v _ => Tot e.L - que.slen v)
  case atStart => exact ⟨[], e, HX0.out⟩
  case round =>
    obtain ⟨l, e1, hrx⟩ := hrel
    have HX := Lib.hid hrx
    obtain ⟨ao, c, hv, _, _, _⟩ := hrx.ow.form
    subst hv
    have HN := Lib.hid (next A k e1 u wr hrx.es (by rw [hrx.ids]; exact hrx.ui) (by rw [hrx.ids]; exact HRR.out.2.2.1))
    clear hrx HX0
    go_wp2_with fail
    refine HN.out.mono ?_
    rintro x w2 ⟨rfl, hes2, ht2⟩
    have HS2 := Lib.hid (Sf.drr HX.out.es HX.out.lo ht2)
    have HE2 : Hid (Es w2 A k (afterN e1)) := Lib.hid hes2
    have HNF := Lib.hid (fun hn => HX.out.es.next_flow hn)
    clear hes2 ht2 HN
    cases hn : (nextS e1).2.1 with
    | false =>
      have HR : Hid (Ran e l (afterN e1)) := Lib.hid ⟨e1, HX.out.st, rfl, .inl hn⟩
      clear hn
      go_wp2
      go_ret
      have hx := HX.out
      exact ⟨_, l, _, rfl, HR.out, HE2.out, hx.lo.sim (next_sim e1), hx.sf.trans HS2.out, HS2.out.row hx.ow (by decide) (by decide) (by decide) (by decide) (by decide), hx.vb, (by have := hx.r1; show e1.row ≤ _; omega), hx.r0⟩
    | true =>
      obtain ⟨f, hf, hid, x, hx⟩ := HNF.out hn
      rw [← hid]
      have hx2 := HX.out
      have HF := Lib.hid (And.intro hf (And.intro hid (And.intro hx hn)))
      have hes2 := HE2.out
      have c5 := hes2.blk.cell 5
      have hr := hes2.look1 hf
      obtain ⟨⟨f0, f1⟩, _⟩ := drr.two (hes2.fb f hf)
      have HFI := Lib.hid (que.first_cons f.qb f.pv f.q x w2 (hes2.qs f hf) hx)
      have HLT : Hid (f.qb < w2.heap.size ∧ ∀ g, f.pv.ownBlock = some g → g < w2.heap.size) := Lib.hid ⟨(hes2.qs f hf).lt, (hes2.qs f hf).vlt⟩
      have HX3 : Hid (0 ≤ x.size ∧ x.size ≤ e1.most) := Lib.hid ⟨(hes2.qs f hf).ok.pos x (List.mem_of_getElem? hx), (hes2.fq f hf).sz x (List.mem_of_getElem? hx)⟩
      clear hes2 hf hid hx hx2 hn HNF
      obtain ⟨xn, xs, xt, xk⟩ := x
      dsimp only [que.It.v] at HFI HX3
      go_wp2_with fail
      refine HFI.out.mono ?_
      rintro y w3' ⟨rfl, n3⟩
      have n4 : New w2 (w3'.alloc (.cells #[.int .i64 xn, .int .i64 xs, .int .i64 xt, .bool xk] que.PT)) := n3.trans ((Turns.refl _ w3').alloc _)
      have HB3 : Hid (Blk (w3'.alloc (.cells #[.int .i64 xn, .int .i64 xs, .int .i64 xt, .bool xk] que.PT)) w3'.heap.size #[.int .i64 xn, .int .i64 xs, .int .i64 xt, .bool xk] que.PT ∧ w2.heap.size ≤ w3'.heap.size) := Lib.hid ⟨Blk.new _ _ _, n3.size⟩
      have HE3 := Lib.hid (HE2.out.later n4)
      have HN3 := Lib.hid n4
      clear n3 n4 hr c5 f0 f1 HFI
      go_upto_region 8 with fail
      refine (show Code.wp _ _ _ _ (w3'.alloc (.cells #[.int .i64 xn, .int .i64 xs, .int .i64 xt, .bool xk] que.PT)) from ?_)
      generalize w3'.alloc (.cells #[.int .i64 xn, .int .i64 xs, .int .i64 xt, .bool xk] que.PT) = w3 at *
      generalize w3'.heap.size = px at *
      obtain ⟨⟨x0, x1, x2, x3⟩, _⟩ := que.four HB3.out.1
      have c7 := HE3.out.blk.cell 7
      dsimp only [afterN] at c7
      by_cases hcr : e1.credit < xs
      · have d1 : decide (e1.credit < xs) = true := decide_eq_true hcr
        have HR : Hid (Ran e l (afterN e1)) := Lib.hid ⟨e1, HX.out.st, rfl, .inr ⟨f, _, HF.out.2.2.2, HF.out.1, HF.out.2.1, HF.out.2.2.1, hcr⟩⟩
        clear hcr
        go_quiet (fail)
        go_wp2
        go_ret
        have hx := HX.out
        have n5 : New w2 (w3.drewN nq) := HN3.out.drewN _
        exact ⟨_, l, _, rfl, HR.out, HE2.out.later n5, hx.lo.sim (next_sim e1), (hx.sf.trans HS2.out).trans (Sf.new n5), (HS2.out.trans (Sf.new n5)).row hx.ow (by decide) (by decide) (by decide) (by decide) (by decide), hx.vb, (by have := hx.r1; show e1.row ≤ _; omega), hx.r0⟩
      · have d1 : decide (e1.credit < xs) = false := decide_eq_false hcr
        have HCR : Hid (xs ≤ e1.credit) := Lib.hid (by omega)
        clear hcr
        go_quiet (fail)
        clear x0 x1 x2 x3 c7 d1
        have HE4 := Lib.hid (HE3.out.later ((Turns.refl _ w3).drewN nq))
        have HB4 : Hid (Blk (w3.drewN nq) px #[.int .i64 xn, .int .i64 xs, .int .i64 xt, .bool xk] que.PT ∧ w2.heap.size ≤ px) := Lib.hid HB3.out
        have HN4 : Hid (New w2 (w3.drewN nq)) := Lib.hid (HN3.out.drewN _)
        clear HE3 HB3 HN3
        generalize w3.drewN nq = w4 at *
        have c5 := HE4.out.blk.cell 5
        obtain ⟨⟨f0, f1⟩, _⟩ := drr.two (HE4.out.fb f HF.out.1)
        have HPOP := Lib.hid (que.pop_cons f.qb f.pv f.q ⟨xn, xs, xt, xk⟩ w4 (HE4.out.qs f HF.out.1) HF.out.2.2.1)
        go_wp2_with fail
        refine HPOP.out.mono ?_
        rintro y w5 ⟨rfl, hl⟩
        have hoff : ∀ {r : Nat}, r = px → ¬ que.Foot f.qb f.pv r := fun {r} hr hk => by
          have h1 := HLT.out.1
          have h3 := HB4.out.2
          rcases hk with hk | hk
          · omega
          · have := HLT.out.2 r hk; omega
        have HB5 : Hid (Blk w5 px #[.int .i64 xn, .int .i64 xs, .int .i64 xt, .bool xk] que.PT) := Lib.hid (hl.turns.blk HB4.out.1 (hoff rfl))
        have hx1 := HX.out
        have hlo1 : Lo b A (afterN e1) := hx1.lo.sim (next_sim e1)
        have hz4 : b ≤ w4.heap.size := Nat.le_trans HRR.out.2.2.2 (Nat.le_trans hx1.sf.t.size (Nat.le_trans HS2.out.t.size HN4.out.size))
        obtain ⟨pv', hloc, hes5⟩ := HE4.out.queue HF.out.1 (q' := ⟨f.q.frames, f.q.most, f.q.L.drop 1, f.q.broken⟩) hl rfl rfl (fun z hz => (HE4.out.fq f HF.out.1).sz z (List.mem_of_mem_drop hz))
        have hlo5 := hlo1.setQ HF.out.1 hz4 (q' := ⟨f.q.frames, f.q.most, f.q.L.drop 1, f.q.broken⟩) hloc (c := e1.credit) (r := e1.row)
        have HS5 := Lib.hid ((HS2.out.trans (Sf.new HN4.out)).trans (Sf.que HE4.out hlo1 HF.out.1 hl.turns))
        have hfm : (⟨f.id, f.fb, f.video, f.qb, pv', ⟨f.q.frames, f.q.most, f.q.L.drop 1, f.q.broken⟩⟩ : Ef) ∈ setQ e1.L f.id pv' ⟨f.q.frames, f.q.most, f.q.L.drop 1, f.q.broken⟩ := List.mem_map.2 ⟨f, HF.out.1, if_pos rfl⟩
        have hfb5 := hes5.fb _ hfm
        dsimp only [fcells] at hfb5
        have HES5 := Lib.hid hes5
        have HLO5 := Lib.hid hlo5
        have hr1 := hx1.r1
        have hr0 := hx1.r0
        have hrr := HRR.out.2.1
        have HCT := Lib.hid (fun W (n : New w5 W) => count A k _ xs f.video W (hes5.later n) HX3.out.1 HCR.out hr0 (by show e1.row < _; omega))
        have HGE : Hid (goneE e1 f ⟨xn, xs, xt, xk⟩ pv' = countE ⟨(afterN e1).frames, (afterN e1).bytes, (afterN e1).age, (afterN e1).most, (afterN e1).guard, (afterN e1).credit, (afterN e1).row, setQ (afterN e1).L f.id pv' ⟨f.q.frames, f.q.most, f.q.L.drop 1, f.q.broken⟩, (afterN e1).s⟩ xs f.video) := Lib.hid rfl
        clear hl HPOP hoff hx1 hlo1 hz4 hloc hes5 hlo5 hfm c5 f0 f1 hr1 hr0 hrr HE4 HB4 HN4
        obtain ⟨⟨f0, f1⟩, _⟩ := drr.two hfb5
        obtain ⟨⟨x0, x1, x2, x3⟩, _⟩ := que.four HB5.out
        clear hfb5
        have c5 := HES5.out.blk.cell 5
        go_upto_region 11 with fail
        go_region_with (go_at_call 76; (with_reducible refine Calls.mono (HCT.out _ ?_) ?_); (focus (exact (Turns.refl _ _).drew)); rintro y w6 ⟨rfl, hes6, ht6⟩; have HES6 := Lib.hid hes6; have HT6 := Lib.hid (Turns.of_drew ht6); clear hes6 ht6)
        all_goals
          clear x0 x1 x2 x3 f0 f1 c5
          have HB6 := Lib.hid (HT6.out.blk HB5.out (fun hk => by
            rcases hk with hk | hk
            · exact blk_ne HB5.out HES5.out.blk (by decide) hk
            · exact drr_off HES5.out HB5.out (by decide) (by decide) hk))
          have HS6 := Lib.hid (HS5.out.trans (Sf.outdrr HES5.out HLO5.out HT6.out))
          have HOW6 := Lib.hid (HS6.out.row HX.out.ow (by decide) (by decide) (by decide) (by decide) (by decide))
          have hlt := HX.out.tot
          have hle : l.length + 1 ≤ 1048576 := by omega
          obtain ⟨⟨x0, x1, x2, x3⟩, _⟩ := que.four HB6.out
          go_wp2_with (at_builtin; refine wpList_append_one (E := SE) Try.underlying93 infoSe rfl (by decide) (by decide) rfl _ _ rfl _ l ⟨f.id, ⟨xn, xs, xt, xk⟩⟩ rfl (HOW6.out.turns (S := fun _ => False) ((Turns.refl _ _).alloc _) (fun _ _ h => h)) w6.heap.size rfl (heap_alloc_new w6 _) hle ?_; intro v9 w9 hown9 hgrow9 hat9; have HW9 := Lib.hid (And.intro hown9 (And.intro hgrow9 hat9)); clear hown9 hgrow9 hat9)
          go_roundw
          case rel => exact ⟨_, _, HX.out.go (pv := pv') HRR.out.2.2.2 HF.out.2.2.2 HF.out.1 HF.out.2.1 HF.out.2.2.1 HCR.out (by rw [HGE.out]; exact HES6.out) (by rw [HGE.out]; exact HLO5.out.count _ _) HS6.out HW9.out.1 HW9.out.2.1 HW9.out.2.2⟩
          case measure =>
            obtain ⟨a9, c9, e9, _⟩ := HW9.out.1.form
            have hgt : 0 < Tot e1.L := by
              have h0 : 0 < f.q.L.length := (List.getElem?_eq_some_iff.1 HF.out.2.2.1).1
              have h1 := tot_set HX.out.es.ap HF.out.1 f.pv ⟨f.q.frames, f.q.most, [], f.q.broken⟩
              simp only [List.length_nil] at h1
              omega
            rw [e9]
            show Tot e.L - (l ++ [_]).length < Tot e.L - l.length
            rw [List.length_append, List.length_singleton]
            omega
end Go.Proofs.Ytcaloeolmoodbaa.egr
