/-
  egress.Out: next.
-/
import Derived.Test.YtcppibjllaablaaZKad
set_option linter.unusedVariables false
set_option linter.unusedSimpArgs false
namespace Go.Proofs.Ytcppibjllaablaa.egr
open Go.RowKit mem Go.Maps
open Go.Proofs.Ytcppibjllaablaa.itr
set_option linter.unusedVariables false

abbrev scs (y : Snt) : Array Value := #[.int .i64 y.id, .int .i64 y.x.n, .int .i64 y.x.size, .int .i64 y.x.tick, .bool y.x.key]
/-- in the loop: the heads' row, the block of the oldest sound -/
structure Lx (w wr : World) (ps : Nat) (v : Value) (s : Nx) : Prop where
  gr : Gr drr.HE drr.HT w wr v s.H
  bl : Blk wr ps (scs (sdef s.b)) SeT
  off : ∀ g, v.ownBlock = some g → g ≠ ps
theorem Lx.later {w wr w2 : World} {ps : Nat} {v : Value} {s : Nx} (h : Lx w wr ps v s) (n : New wr w2) : Lx w w2 ps v s := ⟨h.gr.later n, n.blk h.bl (fun h => h), h.off⟩
theorem Lx.push {w wr w2 : World} {ps : Nat} {v v' : Value} {s : Nx} {x : Int × Int} {o : Obj} (h : Lx w wr ps v s) (ho : Owns drr.HE drr.HT w2 v' (s.H ++ [x])) (hg : (wr.alloc o).grownBy w2 v.ownBlock) (ha : v'.ownBlock = v.ownBlock ∨ v'.ownBlock = some (wr.alloc o).heap.size) : Lx w w2 ps v' ⟨s.H ++ [x], s.b⟩ := by
  have hl := h.bl.lt
  refine ⟨h.gr.push ho hg ha, (Gr.turned hg).blk h.bl (fun e => h.off ps e.symm rfl), fun g hg2 e => ?_⟩
  rcases ha with e2 | e2
  · exact h.off g (by rw [← e2]; exact hg2) e
  · rw [e2] at hg2
    injection hg2 with hg2
    simp at hg2; omega
theorem Lx.store {w wr : World} {ps : Nat} {v : Value} {s : Nx} (h : Lx w wr ps v s) (y : Snt) (hp : w.heap.size = ps) : Lx w (puts wr ps 0 [.int .i64 y.id, .int .i64 y.x.n, .int .i64 y.x.size, .int .i64 y.x.tick, .bool y.x.key]) ps v ⟨s.H, some y⟩ := by
  have t : Turns (· = ps) wr (puts wr ps 0 [.int .i64 y.id, .int .i64 y.x.n, .int .i64 y.x.size, .int .i64 y.x.tick, .bool y.x.key]) := puts_turns (S := (· = ps)) (.inl rfl) _ _ _ (Turns.refl _ _)
  exact ⟨⟨h.gr.own.turns t (fun g hg e => h.off g hg e), h.gr.vb, h.gr.n.trans (t.mono (fun i _ hi => .inr (by rw [hi, ← hp]; exact Nat.le_refl _)))⟩, puts_blk (scs (sdef s.b)).toList _ h.bl rfl, h.off⟩
set_option maxRecDepth 100000 in
set_option maxHeartbeats 4000000 in
theorem next (A : Ad) (k : Nat) (e : Eo) (v : Value) (w : World) (h : Es w A k e) (hv : Owns IntE 3 w v (idS e.L)) (hlen : (idS e.L).length ≤ 1048576) :
    Calls Try.prog 69 #[.pointer (some ⟨A.o, 0, none⟩), v] w fun x w' => x = .returned (.tuple #[.int .i64 (nextS e).1, .bool (nextS e).2.1]) ∧ Es w' A k ⟨e.frames, e.bytes, e.age, e.most, e.guard, e.credit, e.row, e.L, (nextS e).2.2⟩ ∧ Turns (drr.Foot A.sp A.smb e.s) w w' := by
  obtain ⟨ao, c, rfl, hlc, hrd, _⟩ := hv.form
  have HR := Lib.hid hrd
  have HH := Lib.hid h
  have HMEM : Hid (∀ x ∈ idS e.L, ∃ f ∈ e.L, f.id = x ∧ fnd e.L x = some f) := Lib.hid (fun x hx => by
    obtain ⟨f, hf, rfl⟩ := (idS_mem _ _).1 hx
    exact ⟨f, hf, rfl, HH.out.ap.fnd hf⟩)
  have hlm : (idS e.L).length ≤ maxLen := by unfold maxLen; omega
  have hb0 : Blk (w.alloc (.cells (scs (sdef none)) SeT)) w.heap.size (scs (sdef none)) SeT := Blk.new _ _ _
  have n0 : New w (w.alloc (.cells (scs (sdef none)) SeT)) := (Turns.refl _ _).alloc _
  have HPS : Hid (∃ ps, w.heap.size = ps) := Lib.hid ⟨_, rfl⟩
  obtain ⟨ps, hps⟩ := HPS.out
  have HPL := Lib.hid hps
  rw [hps] at hb0
  have HL0 : Hid (Lx w (w.alloc (.cells (scs (sdef none)) SeT)) ps (.slice none 0 0) (nx e.L ((idS e.L).take 0))) := Lib.hid ⟨Gr.nil _ _ _ _ n0, hb0, (fun g hg => by simp [Value.ownBlock] at hg)⟩
  clear h hrd hv hb0 n0 HPS
  go_enter Try.func69, Try.ntmps69
  go_upto_region 4 with fail
  clear hps
  refine (show Code.wp _ _ _ _ (w.alloc (.cells (scs (sdef none)) SeT)) from ?_)
  generalize w.alloc (.cells (scs (sdef none)) SeT) = w0 at *
  generalize hl : idS e.L = l at *
  have HLL := Lib.hid hl
  clear hl
  go_wp2_with fail
  go_loopw [6, 8, 16] (fun v s i wr => ∃ j : Nat, j ≤ l.length ∧ i = .int .i64 j ∧ s = .bool ((nx e.L (l.take j)).b.isSome) ∧ Lx w wr ps v (nx e.L (l.take j))) (fun _ _ i _ => l.length - (intOf i).toNat)
  case atStart => exact ⟨0, Nat.zero_le _, rfl, rfl, HL0.out⟩
  case round =>
    obtain ⟨j, hj, rfl, rfl, hlx⟩ := hrel
    have HX := Lib.hid hlx
    clear hlx HL0
    by_cases hlt : j < l.length
    · obtain ⟨id, hid⟩ : ∃ x, l[j]? = some x := ⟨_, List.getElem?_eq_getElem hlt⟩
      obtain ⟨g, rfl, hb, hc⟩ := HR.out.resolve_left (fun e => by rw [e] at hlt; exact absurd hlt (Nat.not_lt_zero _))
      have d0 : wr.cell? ⟨g, j * 1 + 0, none⟩ = _ := (HX.out.gr.n.cell (a := ⟨g, j * 1 + 0, none⟩) hb (fun h => h)).trans (hc j id hid 0 _ rfl)
      rw [Nat.mul_one, Nat.add_zero] at d0
      have HTK := Lib.hid (nx_take (L := e.L) hid)
      have hlen2 := nx_len e.L (l.take j)
      rw [List.length_take, Nat.min_eq_left hj] at hlen2
      obtain ⟨f, hf, rfl, hfnd⟩ := HMEM.out id (List.mem_of_getElem? hid)
      have HF := Lib.hid (And.intro hf hfnd)
      have hes := HH.out.later HX.out.gr.n
      have HES := Lib.hid hes
      have c5 := hes.blk.cell 5
      have hr := hes.look1 hf
      obtain ⟨⟨f0, f1⟩, _⟩ := drr.two (hes.fb f hf)
      clear hc hid hb hf hfnd hes
      generalize nx e.L (l.take j) = s at *
      generalize hb8 : s.b.isSome = bs at *
      have HB8 := Lib.hid hb8
      clear hb8
      cases hq : f.q.L with
      | nil =>
        have HFI := Lib.hid (que.first_nil f.qb f.pv f.q wr (HES.out.qs f HF.out.1) hq)
        have HST : Hid (stepN e.L s f.id = s) := Lib.hid (by unfold stepN; rw [HF.out.2]; dsimp only; rw [hq])
        go_wp2_with fail
        refine HFI.out.mono ?_
        rintro x w1 ⟨rfl, n1⟩
        have HX1 := Lib.hid (HX.out.later (n1.trans ((Turns.refl _ w1).alloc (.cells #[.int .i64 0, .int .i64 0, .int .i64 0, .bool false] que.PT))))
        clear n1 hr c5 d0 f0 f1 HFI
        go_wp2_with fail
        go_roundw
        case rel => exact ⟨j + 1, by omega, by go_num, by rw [HTK.out, HST.out, HB8.out], by rw [HTK.out, HST.out]; exact HX1.out⟩
        case measure => simp [intOf]; omega
      | cons x t =>
        have HFI := Lib.hid (que.first_cons f.qb f.pv f.q x wr (HES.out.qs f HF.out.1) (by rw [hq]; rfl))
        have HST : Hid (stepN e.L s f.id = if f.video = true then ⟨s.H ++ [(f.id, x.size)], s.b⟩ else match s.b with | none => ⟨s.H, some ⟨f.id, x⟩⟩ | some y => if x.tick < y.x.tick then ⟨s.H, some ⟨f.id, x⟩⟩ else s) := Lib.hid (by
          unfold stepN
          rw [HF.out.2]
          dsimp only
          rw [hq] <;> rfl)
        clear hq
        obtain ⟨xn, xs, xt, xk⟩ := x
        dsimp only [que.It.v] at HFI HST
        go_wp2_with fail
        refine HFI.out.mono ?_
        rintro x w1 ⟨rfl, n1⟩
        have n2 : New wr (w1.alloc (.cells #[.int .i64 xn, .int .i64 xs, .int .i64 xt, .bool xk] que.PT)) := n1.trans ((Turns.refl _ w1).alloc _)
        have HX2 := Lib.hid (HX.out.later n2)
        have HB2 : Hid (Blk (w1.alloc (.cells #[.int .i64 xn, .int .i64 xs, .int .i64 xt, .bool xk] que.PT)) w1.heap.size #[.int .i64 xn, .int .i64 xs, .int .i64 xt, .bool xk] que.PT) := Lib.hid (Blk.new _ _ _)
        have HE2 := Lib.hid (HES.out.later n2)
        clear n1 n2 hr c5 d0 f0 f1 HFI HES
        go_upto_region 9 with fail
        refine (show Code.wp _ _ _ _ (w1.alloc (.cells #[.int .i64 xn, .int .i64 xs, .int .i64 xt, .bool xk] que.PT)) from ?_)
        generalize w1.alloc (.cells #[.int .i64 xn, .int .i64 xs, .int .i64 xt, .bool xk] que.PT) = w2 at *
        generalize w1.heap.size = px at *
        obtain ⟨⟨x0, x1, x2, x3⟩, _⟩ := que.four HB2.out
        obtain ⟨⟨y0, y1, y2, y3, y4⟩, g0, g1, g2, g3, g4⟩ := fives HX2.out.bl
        obtain ⟨⟨f0, f1⟩, _⟩ := drr.two (HE2.out.fb f HF.out.1)
        clear HE2 HB2
        cases hvv : f.video with
        | true =>
          rw [hvv] at f1
          rw [if_pos hvv] at HST
          clear hvv y0 y1 y2 y3 y4 g0 g1 g2 g3 g4
          go_wp2_with (at_builtin; refine wpList_append_one (E := drr.HE) Try.underlying50 drr.infoH rfl (by decide) (by decide) rfl _ _ rfl _ s.H (f.id, xs) rfl (HX2.out.gr.own.turns (S := fun _ => False) ((Turns.refl _ _).alloc _) (fun _ _ h => h)) w2.heap.size rfl (heap_alloc_new w2 _) (by omega) ?_; intro v4 w4 hown4 hgrow4 hat4; have HX4 := Lib.hid (HX2.out.push hown4 hgrow4 hat4); clear hown4 hgrow4 hat4)
          go_roundw
          case rel => exact ⟨j + 1, by omega, by go_num, by rw [HTK.out, HST.out, ← HB8.out], by rw [HTK.out, HST.out]; exact HX4.out⟩
          case measure => simp [intOf]; omega
        | false =>
          rw [hvv] at f1
          rw [if_neg (by rw [hvv]; decide)] at HST
          clear hvv
          cases hsb : s.b with
          | none =>
            obtain rfl : bs = false := by rw [← HB8.out, hsb]; rfl
            rw [hsb] at HST
            dsimp only at HST
            clear hsb
            go_upto_region 14 with fail
            refine (show Code.wp _ _ _ _ (puts w2 ps 0 [.int .i64 f.id, .int .i64 xn, .int .i64 xs, .int .i64 xt, .bool xk]) from ?_)
            have HX3 := Lib.hid (HX2.out.store ⟨f.id, ⟨xn, xs, xt, xk⟩⟩ HPL.out)
            clear HX2 x0 x1 x2 x3 y0 y1 y2 y3 y4 g0 g1 g2 g3 g4
            dsimp only at HX3
            generalize puts w2 ps 0 [.int .i64 f.id, .int .i64 xn, .int .i64 xs, .int .i64 xt, .bool xk] = w3 at *
            go_wp2_with fail
            go_roundw
            case rel => exact ⟨j + 1, by omega, by go_num, by rw [HTK.out, HST.out]; rfl, by rw [HTK.out, HST.out]; exact HX3.out⟩
            case measure => simp [intOf]; omega
          | some y =>
            obtain rfl : bs = true := by rw [← HB8.out, hsb]; rfl
            rw [hsb] at HST y3
            dsimp only [sdef] at HST y3
            by_cases hlt2 : xt < y.x.tick
            · have d1 : decide (xt < y.x.tick) = true := decide_eq_true hlt2
              rw [if_pos hlt2] at HST
              clear hsb hlt2
              go_upto_region 14 with fail
              refine (show Code.wp _ _ _ _ (puts w2 ps 0 [.int .i64 f.id, .int .i64 xn, .int .i64 xs, .int .i64 xt, .bool xk]) from ?_)
              have HX3 := Lib.hid (HX2.out.store ⟨f.id, ⟨xn, xs, xt, xk⟩⟩ HPL.out)
              clear HX2 x0 x1 x2 x3 y0 y1 y2 y3 y4 g0 g1 g2 g3 g4
              dsimp only at HX3
              generalize puts w2 ps 0 [.int .i64 f.id, .int .i64 xn, .int .i64 xs, .int .i64 xt, .bool xk] = w3 at *
              go_wp2_with fail
              go_roundw
              case rel => exact ⟨j + 1, by omega, by go_num, by rw [HTK.out, HST.out]; rfl, by rw [HTK.out, HST.out]; exact HX3.out⟩
              case measure => simp [intOf]; omega
            · have d1 : decide (xt < y.x.tick) = false := decide_eq_false hlt2
              rw [if_neg hlt2] at HST
              clear hsb hlt2
              go_wp2_with fail
              go_roundw
              case rel => exact ⟨j + 1, by omega, by go_num, by rw [HTK.out, HST.out, HB8.out], by rw [HTK.out, HST.out]; exact HX2.out⟩
              case measure => simp [intOf]; omega
    · obtain rfl : j = l.length := by omega
      rw [List.take_length] at HX ⊢
      obtain ⟨ao2, c2, hv2, hlc2, _, _⟩ := HX.out.gr.own.form
      have hes := HH.out.later HX.out.gr.n
      have HES := Lib.hid hes
      obtain ⟨⟨b0, b1, b2, b3, b4, b5, b6, b7, b8⟩, _⟩ := nine hes.blk
      have z0 := HX.out.bl.cell 0
      have hlenH := nx_len e.L l
      have HNS : Hid (nextS e = if (nx e.L l).b.isSome = true ∧ (e.row < e.guard ∨ (nx e.L l).H = []) then ((sdef (nx e.L l).b).id, true, e.s) else if (nx e.L l).H = [] then (0, false, drr.chooseS [] e.s) else ((drr.chooseS (nx e.L l).H e.s).turn, true, drr.chooseS (nx e.L l).H e.s)) := Lib.hid (by unfold nextS; rw [HLL.out])
      have HOKH : Hid (drr.Ok e.s (nx e.L l).H) := Lib.hid (by rw [← HLL.out]; exact HH.out.ok_heads)
      have HRGH : Hid (∀ x ∈ drr.ids (nx e.L l).H, -9223372036854775808 ≤ x ∧ x ≤ 9223372036854775807) := Lib.hid (by rw [← HLL.out]; exact HH.out.rg_heads)
      have hhr : drr.HRow wr u6 (nx e.L l).H := drr.hrow_owns HX.out.gr.own
      subst hv2
      have HHR := Lib.hid hhr
      have HN := Lib.hid HX.out.gr.n
      clear hes hhr HX hlt hj HMEM HR
      generalize nx e.L l = s at *
      obtain ⟨c3, D3, hc3, hss⟩ := HES.out.sch
      have HSS := Lib.hid (And.intro hc3 hss)
      clear hss hc3
      generalize hb8 : s.b.isSome = bs at *
      have HB8 := Lib.hid hb8
      clear hb8
      cases bs with
      | false =>
        have HIF : Hid (¬ (false = true ∧ (e.row < e.guard ∨ s.H = []))) := Lib.hid (fun h => by cases h.1)
        by_cases hH : s.H = []
        · have HRS : Hid (nextS e = (0, false, drr.chooseS [] e.s)) := Lib.hid (by rw [HNS.out, if_neg HIF.out, if_pos hH])
          have HCH := Lib.hid (fun n => drr.choose_nil A.sp A.smb c3 D3 e.s (.slice ao2 s.H.length c2) (wr.drewN n) (HSS.out.2.drewN n) (by have hq := HHR.out.later ((Turns.refl _ wr).drewN n); rw [hH] at hq ⊢; exact hq))
          clear hH
          go_upto_region 15 with fail
          go_quiet (fail)
          go_wp2_with fail
          refine (HCH.out _).mono ?_
          rintro x w5 ⟨rfl, hl⟩
          have HL5 := Lib.hid hl
          clear hl HCH
          go_wp2
          go_ret2
          rw [HRS.out]
          exact ⟨rfl, HES.out.call HSS.out.1 HSS.out.2 HL5.out.1 (Turns.of_drewN HL5.out.2) (drr.Sim.choose _ _), (HN.out.mono (fun _ _ h => h.elim)).trans ((Turns.of_drewN HL5.out.2).mono (fun i _ hi => .inl hi))⟩
        · have HRS : Hid (nextS e = ((drr.chooseS s.H e.s).turn, true, drr.chooseS s.H e.s)) := Lib.hid (by rw [HNS.out, if_neg HIF.out, if_neg hH])
          have HCH := Lib.hid (fun n => drr.choose_cons A.sp A.smb c3 D3 e.s s.H (.slice ao2 s.H.length c2) (wr.drewN n) (HSS.out.2.drewN n) (HHR.out.later ((Turns.refl _ wr).drewN n)) HOKH.out hH (by omega) HRGH.out)
          clear hH
          go_upto_region 15 with fail
          go_quiet (fail)
          go_wp2_with fail
          refine (HCH.out _).mono ?_
          rintro x w5 ⟨rfl, hl⟩
          have HL5 := Lib.hid hl
          clear hl HCH
          go_wp2
          go_ret2
          rw [HRS.out]
          exact ⟨rfl, HES.out.call HSS.out.1 HSS.out.2 HL5.out.1 (Turns.of_drewN HL5.out.2) (drr.Sim.choose _ _), (HN.out.mono (fun _ _ h => h.elim)).trans ((Turns.of_drewN HL5.out.2).mono (fun i _ hi => .inl hi))⟩
      | true =>
        by_cases hg : e.row < e.guard
        · have d1 : decide (e.row < e.guard) = true := decide_eq_true hg
          have HRS : Hid (nextS e = ((sdef s.b).id, true, e.s)) := Lib.hid (by rw [HNS.out, if_pos ⟨rfl, .inl hg⟩])
          clear hg
          go_upto_region 15 with fail
          go_quiet (fail)
          go_wp2
          go_ret2
          rw [HRS.out]
          exact ⟨rfl, HES.out.later ((Turns.refl _ _).drewN _), (HN.out.drewN _).mono (fun _ _ h => h.elim)⟩
        · have d1 : decide (e.row < e.guard) = false := decide_eq_false hg
          by_cases hH : s.H = []
          · have d2 : ((s.H.length : Int) == 0) = true := by rw [hH]; rfl
            have HRS : Hid (nextS e = ((sdef s.b).id, true, e.s)) := Lib.hid (by rw [HNS.out, if_pos ⟨rfl, .inr hH⟩])
            clear hg hH
            go_upto_region 15 with fail
            go_quiet (fail)
            go_wp2
            go_ret2
            rw [HRS.out]
            exact ⟨rfl, HES.out.later ((Turns.refl _ _).drewN _), (HN.out.drewN _).mono (fun _ _ h => h.elim)⟩
          · have d2 : ((s.H.length : Int) == 0) = false := by
              have : 0 < s.H.length := List.length_pos_iff.2 hH
              simp; omega
            have HIF : Hid (¬ (true = true ∧ (e.row < e.guard ∨ s.H = []))) := Lib.hid (fun h => h.2.elim hg hH)
            clear hg
            have HRS : Hid (nextS e = ((drr.chooseS s.H e.s).turn, true, drr.chooseS s.H e.s)) := Lib.hid (by rw [HNS.out, if_neg HIF.out, if_neg hH])
            have HCH := Lib.hid (fun n => drr.choose_cons A.sp A.smb c3 D3 e.s s.H (.slice ao2 s.H.length c2) (wr.drewN n) (HSS.out.2.drewN n) (HHR.out.later ((Turns.refl _ wr).drewN n)) HOKH.out hH (by omega) HRGH.out)
            clear hH
            go_upto_region 15 with fail
            go_quiet (fail)
            go_wp2_with fail
            refine (HCH.out _).mono ?_
            rintro x w5 ⟨rfl, hl⟩
            have HL5 := Lib.hid hl
            clear hl HCH
            go_wp2
            go_ret2
            rw [HRS.out]
            exact ⟨rfl, HES.out.call HSS.out.1 HSS.out.2 HL5.out.1 (Turns.of_drewN HL5.out.2) (drr.Sim.choose _ _), (HN.out.mono (fun _ _ h => h.elim)).trans ((Turns.of_drewN HL5.out.2).mono (fun i _ hi => .inl hi))⟩
end Go.Proofs.Ytcppibjllaablaa.egr
