/-
  The reference of layer 20: whose turn it is (next).
-/
import Derived.Test.YtcppibjllaablaaZEgrR20r
import Derived.Test.YtcppibjllaablaaZEgrR20t
import Derived.Test.YtcppibjllaablaaZEgrR19d
import Derived.Test.YtcppibjllaablaaZKae
import Derived.BigQuiet
set_option linter.unusedVariables false
set_option linter.unusedSimpArgs false
namespace Go.Proofs.Ytcppibjllaablaa.egr
open Go.RowKit mem
open Go.Proofs.Ytcppibjllaablaa.drr (plc plc_at plc_no plc_cases before_succ before_all RHE RHT infoRH)
set_option linter.unusedVariables false

/-- where the oldest sound stands -/
def SndAt (L : List Rf) (b : Option Snt) (sd : Int) : Prop := match b with
  | none => sd = -1
  | some y => ∃ (j : Nat) (g : Rf), L[j]? = some g ∧ g.id = y.id ∧ g.q.L[0]? = some y.x ∧ sd = (j : Int)
def nxR (L : List Rf) (k : Nat) : Nx := nx (L.map toE) ((L.map (·.id)).take k)
theorem fnd20 {L : List Rf} (ha : RAsc L) {k : Nat} {f : Rf} (hf : L[k]? = some f) : fnd (L.map toE) f.id = some (toE f) := by
  unfold fnd
  rw [List.find?_map]
  have : L.find? ((fun g : Ef => g.id == f.id) ∘ toE) = some f := by
    rw [List.find?_eq_some_iff_getElem]
    obtain ⟨h1, h2⟩ := List.getElem?_eq_some_iff.1 hf
    refine ⟨by simp [toE], k, h1, h2, fun j hj => ?_⟩
    have := ha.lt (List.getElem?_eq_getElem (by omega : j < L.length)) hf hj
    simp [toE]
    omega
  rw [this]
  rfl
theorem nxR_step {L : List Rf} (ha : RAsc L) {k : Nat} {f : Rf} (hf : L[k]? = some f) : nxR L (k + 1) = match f.q.L with
    | [] => nxR L k
    | x :: _ => if f.video = true then ⟨(nxR L k).H ++ [(f.id, x.size)], (nxR L k).b⟩ else
      match (nxR L k).b with
      | none => ⟨(nxR L k).H, some ⟨f.id, x⟩⟩
      | some y => if x.tick < y.x.tick then ⟨(nxR L k).H, some ⟨f.id, x⟩⟩ else nxR L k := by
  unfold nxR
  rw [nx_take (show (L.map (·.id))[k]? = some f.id by rw [List.getElem?_map, hf]; rfl)]
  unfold stepN
  rw [fnd20 ha hf]
  rfl
theorem nxR_len (L : List Rf) (k : Nat) : (nxR L k).H.length ≤ L.length := by
  have := nx_len (L.map toE) ((L.map (·.id)).take k)
  rw [List.length_take, List.length_map] at this
  unfold nxR
  omega
/-- in the loop -/
structure Rn (w wr : World) (pb pr : Nat) (vL vS : Value) (L : List Rf) (r : Eo) (k : Nat) (u : Value) (sd : Int) : Prop where
  bx : Bx w wr pb pr r vL vS
  hd : Gr RHE RHT w wr u (nxR L k).H
  so : SndAt L (nxR L k).b sd
theorem Rn.later {w wr w2 : World} {pb pr : Nat} {vL vS : Value} {L : List Rf} {r : Eo} {k : Nat} {u : Value} {sd : Int} (h : Rn w wr pb pr vL vS L r k u sd) (n : New wr w2) : Rn w w2 pb pr vL vS L r k u sd :=
  ⟨h.bx.later n, h.hd.later n, h.so⟩
theorem two2 {W : World} {B : Nat} {x : Int × Int} {a b : Value} (hx : RHE.cs x = [a, b]) (h : Blk W B #[a, b] RHT) : Sub RHE 0 W (.slice (some ⟨B, 0, none⟩) 1 1) [x] := by
  refine .inr ⟨B, 0, 1, rfl, Nat.le_refl _, by decide, Nat.zero_le _, h.lt, fun j u hu => ?_⟩
  rw [RHE.all_one, hx] at hu
  rw [Nat.zero_add, h.cell j]
  exact (by simp : (#[a, b])[j]? = [a, b][j]?).trans hu

theorem Rn.push {w w4 W w6 : World} {pb pr : Nat} {vL vS : Value} {L : List Rf} {r : Eo} {k : Nat} {u v6 : Value} {sd : Int} {p : Int × Int} (h : Rn w w4 pb pr vL vS L r k u sd) (N : New w4 W) (hown : Owns RHE RHT w6 v6 ((nxR L k).H ++ [p])) (hgrow : W.grownBy w6 u.ownBlock) (hat : v6.ownBlock = u.ownBlock ∨ v6.ownBlock = some W.heap.size) (hs : nxR L (k + 1) = ⟨(nxR L k).H ++ [p], (nxR L k).b⟩) : Rn w w6 pb pr vL vS L r (k + 1) v6 sd := by
  have hW := h.later N
  have t := Turns.of_grown hgrow
  refine ⟨⟨t.blk hW.bx.bx (fun e => own_ne hW.hd.own hW.bx.bx (by decide) e.symm), t.blk hW.bx.rb (fun e => own_ne hW.hd.own hW.bx.rb (by decide) e.symm), hW.bx.n.trans (t.mono (fun k _ hk => .inr (hW.hd.vb k hk.symm))), hW.bx.lo⟩, ?_, by rw [hs]; exact h.so⟩
  rw [hs]
  exact gr_grow hW.hd hown hgrow hat
/-- the end of a call: the result is told -/
theorem fin9 {w wc W2 : World} {pb pr : Nat} {r : Eo} {vL vS : Value} {L : List Rf} (h : Bx w wc pb pr r vL vS) (k : RO wc vL vS L r) (n : New wc W2) :
    Blk (puts W2 pr 0 (rO r vL vS).toList) pr (rO r vL vS) RT20 ∧ RO (puts W2 pr 0 (rO r vL vS).toList) vL vS L r ∧ New w (puts W2 pr 0 (rO r vL vS).toList) :=
  ⟨((h.later n).fin r vL vS).1, (h.later n).ro (k.later n), ((h.later n).fin r vL vS).2⟩
theorem nx_all {L : List Rf} {r : Eo} (e : r.L = L.map toE) : nx r.L (L.map (·.id)) = nxR L L.length := by
  unfold nxR
  rw [e, show L.length = (L.map (·.id)).length by rw [List.length_map], List.take_length]
/-- a sound's turn -/
def early (L : List Rf) (r : Eo) : Bool := (nxR L L.length).b.isSome && (decide (r.row < r.guard) || (nxR L L.length).H.isEmpty)
theorem nextI_early {L : List Rf} {r : Eo} (e : r.L = L.map toE) (h : early L r = true) : nextI (L.map (·.id)) r = ((sdef (nxR L L.length).b).id, true, r.s) := by
  unfold nextI
  rw [nx_all e, if_pos]
  simpa [early] using h
theorem nextI_late {L : List Rf} {r : Eo} (e : r.L = L.map toE) (h : early L r = false) : nextI (L.map (·.id)) r = (if (nxR L L.length).H = [] then 0 else (drr.chooseS (nxR L L.length).H r.s).turn, !(nxR L L.length).H.isEmpty, drr.chooseS (nxR L L.length).H r.s) := by
  unfold nextI
  rw [nx_all e, if_neg]
  · by_cases hH : (nxR L L.length).H = []
    · rw [if_pos hH, hH]; rfl
    · rw [if_neg hH, if_neg hH]
      cases hq : (nxR L L.length).H with
      | nil => exact absurd hq hH
      | cons a l => rfl
  · intro hc
    have : early L r = true := by simpa [early] using hc
    rw [this] at h; cases h
theorem snd_at {L : List Rf} (ha : RAsc L) {b : Option Snt} {sd : Int} (h : SndAt L b sd) (hb : b.isSome = true) : sd = plc L (fun g => g.id == (sdef b).id) := by
  cases b with
  | none => cases hb
  | some y =>
    obtain ⟨j, g, hj, hi, _, rfl⟩ := h
    exact (find_is20 ha hj hi).symm
set_option maxRecDepth 100000 in
set_option maxHeartbeats 8000000 in
theorem rnext (al : Option Addr) (nl cl : Nat) (ar : Option Addr) (nr cr : Nat) (L : List Rf) (r : Eo) (w : World) (h : RO w (.slice al nl cl) (.slice ar nr cr) L r) (hl : L.length ≤ 1000) (ha : RAsc L) (hs : r.s.L.length ≤ 100000) (hsa : drr.SAsc r.s.L) (hap : drr.Ap r.s.L) (hsk : r.s.ok) (hok : drr.Ok r.s (nxR L L.length).H) :
    Calls Try.prog 74 #[.agg (rO r (.slice al nl cl) (.slice ar nr cr))] w fun e w' => ∃ a5 n5 c5 d, e = .returned (.tuple #[.agg (rO (afterI (L.map (·.id)) r) (.slice al nl cl) (.slice a5 n5 c5)), .int .i64 d]) ∧ RO w' (.slice al nl cl) (.slice a5 n5 c5) L (afterI (L.map (·.id)) r) ∧ New w w' ∧ d = plc L (fun g => g.id == (nextI (L.map (·.id)) r).1 && (nextI (L.map (·.id)) r).2.1) := by
  have HO := Lib.hid h
  have HAS := Lib.hid ha
  have HB := Lib.hid (Bx.start w r (.slice al nl cl) (.slice ar nr cr))
  have HLN : Hid (L.length ≤ 1000) := Lib.hid hl
  have hnl : nl = L.length := by
    obtain ⟨_, n2, c2, hv, hn, _⟩ := h.l.form
    injection hv with e1 e2 e3
    omega
  have HN := Lib.hid hnl
  have hn2 : nl ≤ 1000 := by omega
  have HCH := Lib.hid (fun W (N : New w W) vh (hh : TS RHE RHT W vh (nxR L L.length).H) => drr.rchoose (.slice ar nr cr) r.s (nxR L L.length).H vh W (HO.out.later N).s (by omega) hh (by have := nxR_len L L.length; omega) hsk hok hsa hap)
  clear h hl ha hs hsa hap hsk hok hnl
  go_enter Try.func74, Try.ntmps74
  go_upto_region 1 with fail
  refine (show Code.wp _ _ _ _ ((w.alloc (.cells (rO r (.slice al nl cl) (.slice ar nr cr)) RT20)).alloc (.cells z12.toArray RT20)) from ?_)
  generalize (w.alloc (.cells (rO r (.slice al nl cl) (.slice ar nr cr)) RT20)).alloc (.cells z12.toArray RT20) = w2 at *
  obtain ⟨pb, hpb⟩ : ∃ pb, pb = w.heap.size := ⟨_, rfl⟩
  rw [← hpb] at HB
  rw [← hpb]
  clear hpb
  generalize pb + 1 = pr at *
  have b5 : w2.cell? ⟨pb, 5, none⟩ = some (.slice al nl cl) := HB.out.bx.cell 5
  have hpl := HB.out.bx.lt
  have HK0 : Hid (Rn w (w2.alloc (.cells #[] RHT)) pb pr (.slice al nl cl) (.slice ar nr cr) L r 0 (.slice (some ⟨w2.heap.size, 0, none⟩) 0 0) (-1)) := Lib.hid ⟨HB.out.later ((Turns.refl _ _).alloc _), ⟨drr.made0G RHE (Blk.new _ _ _), fun g hg => by
    have : w2.heap.size = g := by simpa [Value.ownBlock] using hg
    have := HB.out.n.size
    omega, HB.out.n.alloc _⟩, rfl⟩
  go_wp2_with fail
  go_loopw [4, 5, 15] (fun s o i wr => ∃ (k : Nat) (sd : Int) (au : Option Addr) (nu cu : Nat), k ≤ nl ∧ s = .int .i64 sd ∧ i = .int .i64 k ∧ o = .slice au nu cu ∧ Rn w wr pb pr (.slice al nl cl) (.slice ar nr cr) L r k (.slice au nu cu) sd) (fun _ _ i _ => nl - (intOf i).toNat)
  case atStart => exact ⟨0, _, _, _, _, Nat.zero_le _, rfl, rfl, rfl, HK0.out⟩
  case round =>
    obtain ⟨k, sd, au, nu, cu, hk, rfl, rfl, rfl, hrk⟩ := hrel
    have HK := Lib.hid hrk
    clear hrk HK0 b5 hpl
    by_cases hlt : k < nl
    · obtain ⟨f, hx⟩ : ∃ f, L[k]? = some f := ⟨_, List.getElem?_eq_getElem (by have := HN.out; omega)⟩
      have HX := Lib.hid hx
      obtain ⟨g, o, hg, hgl, z0, z1, z2, z3, z4, z5⟩ := rf_at (HO.out.later HK.out.bx.n).l hx
      subst hg
      have HST := Lib.hid (nxR_step HAS.out hx)
      obtain ⟨fid, fv, fq, fao, fc⟩ := f
      dsimp only at z0 z1 z2 z3 z4 z5
      have HFQ := Lib.hid (HO.out.q _ (List.mem_of_getElem? hx))
      dsimp only at HST HFQ
      obtain ⟨m, hm⟩ : ∃ m, m = fq.L.length := ⟨_, rfl⟩
      rw [← hm] at z4
      have HM := Lib.hid hm
      have hm2 : m ≤ 9223372036854775807 := by
        obtain ⟨_, n2, c2, hv, h1, h2, h3⟩ := HFQ.out.form
        injection hv with e1 e2 e3
        unfold maxLen at h3
        omega
      have d1 : decide ((k : Int) < (nl : Int)) = true := decide_eq_true (by omega)
      have j1 : (k : Int) < (nl : Int) := by omega
      have hw : IntKind.i64.wrap ((k : Int) + 1) = (k : Int) + 1 := IntWalk.i64_in _ (by omega)
      have HBX : Hid (Blk (wr.alloc (.cells #[.int .i64 fid, .bool fv, .int .i64 fq.frames, .int .i64 fq.most, .slice fao m fc, .bool fq.broken] FT)) wr.heap.size #[.int .i64 fid, .bool fv, .int .i64 fq.frames, .int .i64 fq.most, .slice fao m fc, .bool fq.broken] FT) := Lib.hid (Blk.new _ _ _)
      have HK4 := Lib.hid (HK.out.later ((Turns.refl _ _).alloc (.cells #[.int .i64 fid, .bool fv, .int .i64 fq.frames, .int .i64 fq.most, .slice fao m fc, .bool fq.broken] FT)))
      clear hx hm
      go_upto_region 6 with fail
      refine (show Code.wp _ _ _ _ (wr.alloc (.cells #[.int .i64 fid, .bool fv, .int .i64 fq.frames, .int .i64 fq.most, .slice fao m fc, .bool fq.broken] FT)) from ?_)
      clear z0 z1 z2 z3 z4 z5 hgl HK
      generalize wr.alloc (.cells #[.int .i64 fid, .bool fv, .int .i64 fq.frames, .int .i64 fq.most, .slice fao m fc, .bool fq.broken] FT) = w4 at *
      generalize wr.heap.size = px at *
      have x0 : w4.cell? ⟨px, 0, none⟩ = some (.int .i64 fid) := HBX.out.cell 0
      have x1 : w4.cell? ⟨px, 1, none⟩ = some (.bool fv) := HBX.out.cell 1
      have x4 : w4.cell? ⟨px, 4, none⟩ = some (.slice fao m fc) := HBX.out.cell 4
      have hxl := HBX.out.lt
      by_cases hm0 : m = 0
      · subst hm0
        have HK5 : Hid (Rn w w4 pb pr (.slice (some ⟨g, o, none⟩) nl cl) (.slice ar nr cr) L r (k + 1) (.slice au nu cu) sd) := Lib.hid (by
          have e : fq.L = [] := List.length_eq_zero_iff.1 HM.out.symm
          have hs := HST.out
          rw [e] at hs
          exact ⟨HK4.out.bx, by rw [hs]; exact HK4.out.hd, by rw [hs]; exact HK4.out.so⟩)
        clear HK4
        go_wp2_with fail
        go_roundw
        case rel => exact ⟨k + 1, sd, au, nu, cu, by omega, rfl, by push_cast; go_num, rfl, HK5.out⟩
        case measure => simp [intOf, hw]; omega
      · have m0 : 0 < m := by omega
        have m1 : (0 : Int) < (m : Int) := by omega
        have m2 : ((m : Int) == 0) = false := by simp; omega
        have m3 : decide ((m : Int) = 0) = false := decide_eq_false (by omega)
        obtain ⟨x, hx0⟩ : ∃ x, fq.L[0]? = some x := ⟨_, List.getElem?_eq_getElem (by have := HM.out; omega)⟩
        have HX0 := Lib.hid hx0
        obtain ⟨gq, oq, hgq, hgql, q0, q1, q2, q3⟩ : ∃ gq oq, fao = some ⟨gq, oq, none⟩ ∧ gq < w4.heap.size ∧ w4.cell? ⟨gq, oq, none⟩ = some (.int .i64 x.n) ∧ w4.cell? ⟨gq, oq + 1, none⟩ = some (.int .i64 x.size) ∧ w4.cell? ⟨gq, oq + 2, none⟩ = some (.int .i64 x.tick) ∧ w4.cell? ⟨gq, oq + 3, none⟩ = some (.bool x.key) := by
          obtain ⟨gq, oq, e, _, hg, h1⟩ := (HFQ.out.later HK4.out.bx.n).at_ hx0
          refine ⟨gq, oq, e, hg, ?_⟩
          have a0 := h1 0 _ rfl
          have a1 := h1 1 _ rfl
          have a2 := h1 2 _ rfl
          have a3 := h1 3 _ rfl
          rw [Nat.zero_mul, Nat.add_zero] at a0 a1 a2 a3
          exact ⟨a0, a1, a2, a3⟩
        subst hgq
        have HTL : Hid (∃ l, fq.L = x :: l) := Lib.hid (by
          cases hq : fq.L with
          | nil => rw [hq] at hx0; simp at hx0
          | cons y l =>
            rw [hq] at hx0
            have : y = x := by simpa using hx0
            subst this
            exact ⟨l, rfl⟩)
        clear hx0 q0 q3
        cases fv with
        | true =>
          have HS2 : Hid (nxR L (k + 1) = ⟨(nxR L k).H ++ [(fid, x.size)], (nxR L k).b⟩) := Lib.hid (by
            obtain ⟨l, hl⟩ := HTL.out
            have := HST.out
            rw [hl] at this
            exact this)
          have HLE : Hid ((nxR L k).H.length + [((fid, x.size) : Int × Int)].length ≤ 1048576) := Lib.hid (by
            have := nxR_len L k
            have := HLN.out
            simp
            omega)
          clear q2
          go_upto_region 8 with fail
          go_region_law
            (refine step_append_sub (E := RHE) Try.underlying169 infoRH rfl (by decide) (by decide) (by rfl) _ _ (by rfl) (.slice au nu cu) (.slice (some ⟨_, 0, none⟩) 1 1) (nxR L k).H [(fid, x.size)] (by rfl) (by rfl) (HK4.out.hd.own.turns (S := fun _ => False) (by repeat (first | exact Turns.refl _ _ | with_reducible apply Turns.alloc | with_reducible apply Turns.drew)) (fun _ _ h => h)) 0 (two2 rfl (by repeat (first | with_reducible assumption | with_reducible exact Blk.new _ _ _ | with_reducible apply Blk.alloc | with_reducible apply Blk.drew))) HLE.out ?_; intro v6 w6 hown hgrow hat; have HK5 := Lib.hid (HK4.out.push (by repeat (first | exact Turns.refl _ _ | with_reducible apply Turns.alloc | with_reducible apply Turns.drew)) hown hgrow (by first | exact hat | (rw [World.size_alloc]; exact hat) | simpa using hat) HS2.out); obtain ⟨a6, c6, hv6, _⟩ := hown.form; generalize ((nxR L k).H ++ [(fid, x.size)]).length = n6 at hv6; subst hv6; clear hown hgrow hat)
          all_goals
            go_wp2_with fail
            go_roundw
            case rel => exact ⟨k + 1, sd, a6, n6, c6, by omega, rfl, by push_cast; go_num, rfl, HK5.out⟩
            case measure => simp [intOf, hw]; omega
        | false =>
          have hso := HK4.out.so
          cases hb : (nxR L k).b with
          | none =>
            rw [hb] at hso
            have hso' : sd = -1 := hso
            subst hso'
            have HS2 : Hid (nxR L (k + 1) = ⟨(nxR L k).H, some ⟨fid, x⟩⟩) := Lib.hid (by
              obtain ⟨l, hl⟩ := HTL.out
              have := HST.out
              rw [hl, hb] at this
              exact this)
            have HK5 : Hid (∀ W, New w4 W → Rn w W pb pr (.slice (some ⟨g, o, none⟩) nl cl) (.slice ar nr cr) L r (k + 1) (.slice au nu cu) (k : Int)) := Lib.hid (fun W N => by
              have h4 := HK4.out.later N
              exact ⟨h4.bx, by rw [HS2.out]; exact h4.hd, by rw [HS2.out]; exact ⟨k, _, HX.out, rfl, HX0.out, rfl⟩⟩)
            clear q1 q2 hb hso HK4
            go_upto_region 9 with fail
            go_quiet (fail)
            have HK6 := Lib.hid (HK5.out _ ((Turns.refl _ _).drewN nq))
            clear HK5
            go_wp2_with fail
            go_roundw
            case rel => exact ⟨k + 1, k, au, nu, cu, by omega, rfl, by push_cast; go_num, rfl, HK6.out⟩
            case measure => simp [intOf, hw]; omega
          | some y =>
            rw [hb] at hso
            obtain ⟨j, gf, hgj, hgi, hg0, hsd⟩ := hso
            subst hsd
            have HGJ := Lib.hid hgj
            have HGI := Lib.hid hgi
            have HG0 := Lib.hid hg0
            have hjl := (List.getElem?_eq_some_iff.1 hgj).1
            have i0 : (0 : Int) ≤ (j : Int) := by omega
            have i1 : (j : Int) < (nl : Int) := by have := HN.out; omega
            have i2 : decide ((j : Int) < 0) = false := decide_eq_false (by omega)
            obtain ⟨g', o', hg', hgl', _, _, _, _, y4, _⟩ := rf_at (HO.out.later HK4.out.bx.n).l hgj
            injection hg' with hg'
            injection hg' with hg1 hg2 _
            subst hg1 hg2
            have HGQ := Lib.hid (HO.out.q _ (List.mem_of_getElem? hgj))
            obtain ⟨mg, hmg⟩ : ∃ mg, mg = gf.q.L.length := ⟨_, rfl⟩
            rw [← hmg] at y4
            have i3 : (0 : Int) < (mg : Int) := by
              have := (List.getElem?_eq_some_iff.1 hg0).1
              omega
            obtain ⟨gao, hgao⟩ : ∃ gao, gao = gf.ao := ⟨_, rfl⟩
            rw [← hgao] at y4
            obtain ⟨gg, og, hgq, hggl, p2⟩ : ∃ gg og, gao = some ⟨gg, og, none⟩ ∧ gg < w4.heap.size ∧ w4.cell? ⟨gg, og + 2, none⟩ = some (.int .i64 y.x.tick) := by
              obtain ⟨gg, og, e, _, hg, h1⟩ := (HGQ.out.later HK4.out.bx.n).at_ hg0
              refine ⟨gg, og, hgao.trans e, hg, ?_⟩
              have a2 := h1 2 _ rfl
              rw [Nat.zero_mul, Nat.add_zero] at a2
              exact a2
            subst hgq
            have b5 : w4.cell? ⟨pb, 5, none⟩ = some (.slice (some ⟨g, o, none⟩) nl cl) := HK4.out.bx.bx.cell 5
            have hbl := HK4.out.bx.bx.lt
            clear hgj hgi hg0 hjl hmg hgao q1
            by_cases ht : x.tick < y.x.tick
            · have t1 : decide (x.tick < y.x.tick) = true := decide_eq_true ht
              have HS2 : Hid (nxR L (k + 1) = ⟨(nxR L k).H, some ⟨fid, x⟩⟩) := Lib.hid (by
                obtain ⟨l, hl⟩ := HTL.out
                have := HST.out
                rw [hl, hb] at this
                simp only [Bool.false_eq_true, if_false, ht, if_true] at this
                exact this)
              have HK5 : Hid (∀ W, New w4 W → Rn w W pb pr (.slice (some ⟨g, o, none⟩) nl cl) (.slice ar nr cr) L r (k + 1) (.slice au nu cu) (k : Int)) := Lib.hid (fun W N => by
                have h4 := HK4.out.later N
                exact ⟨h4.bx, by rw [HS2.out]; exact h4.hd, by rw [HS2.out]; exact ⟨k, _, HX.out, rfl, HX0.out, rfl⟩⟩)
              clear hb HK4
              go_upto_region 9 with fail
              go_quiet (fail)
              have HK6 := Lib.hid (HK5.out _ ((Turns.refl _ _).drewN nq))
              clear HK5
              go_wp2_with fail
              go_roundw
              case rel => exact ⟨k + 1, k, au, nu, cu, by omega, rfl, by push_cast; go_num, rfl, HK6.out⟩
              case measure => simp [intOf, hw]; omega
            · have t1 : decide (x.tick < y.x.tick) = false := decide_eq_false ht
              have HS2 : Hid (nxR L (k + 1) = nxR L k) := Lib.hid (by
                obtain ⟨l, hl⟩ := HTL.out
                have := HST.out
                rw [hl, hb] at this
                simp only [Bool.false_eq_true, if_false, ht] at this
                exact this)
              have HK5 : Hid (∀ W, New w4 W → Rn w W pb pr (.slice (some ⟨g, o, none⟩) nl cl) (.slice ar nr cr) L r (k + 1) (.slice au nu cu) (j : Int)) := Lib.hid (fun W N => by
                have h4 := HK4.out.later N
                exact ⟨h4.bx, by rw [HS2.out]; exact h4.hd, by rw [HS2.out]; exact h4.so⟩)
              clear hb HK4
              go_upto_region 9 with fail
              go_quiet (fail)
              have HK6 := Lib.hid (HK5.out _ ((Turns.refl _ _).drewN nq))
              clear HK5
              go_wp2_with fail
              go_roundw
              case rel => exact ⟨k + 1, j, au, nu, cu, by omega, rfl, by push_cast; go_num, rfl, HK6.out⟩
              case measure => simp [intOf, hw]; omega
    · have d1 : decide ((k : Int) < (nl : Int)) = false := decide_eq_false (by omega)
      have d2 : decide (k < nl) = false := decide_eq_false hlt
      have hkl : k = L.length := by have := HN.out; omega
      rw [hkl] at HK
      have HKL := Lib.hid hkl
      clear hkl
      have HNU : Hid (nu = (nxR L L.length).H.length) := Lib.hid (by
        obtain ⟨_, _, hv, _⟩ := HK.out.hd.own.form
        injection hv)
      obtain ⟨bb, hbb⟩ : ∃ bb, bb = early L r := ⟨_, rfl⟩
      have HBB := Lib.hid hbb
      obtain ⟨⟨b0, b1, b2, b3, b4, b5, b6, b7, b8, b9, b10, b11⟩, _⟩ := twelve HK.out.bx.bx
      go_upto_region 12 with fail
      go_cut [75] (fun v wx => v = .bool bb ∧ wx = wr)
      case first =>
        cases hb : (nxR L L.length).b with
        | none =>
          have hso := HK.out.so
          rw [hb] at hso
          have hso' : sd = -1 := hso
          subst hso'
          have he : bb = false := by rw [hbb]; unfold early; rw [hb]; rfl
          subst he
          clear hbb hso hb
          go_wp2_with fail
          go_meet
          case rel => exact ⟨rfl, rfl⟩
        | some y =>
          have hso := HK.out.so
          rw [hb] at hso
          obtain ⟨j, gf, _, _, _, hsd⟩ := hso
          subst hsd
          have i0 : (0 : Int) ≤ (j : Int) := by omega
          have i2 : decide ((0 : Int) ≤ (j : Int)) = true := decide_eq_true i0
          have i3 : decide ((j : Int) ≥ 0) = true := decide_eq_true i0
          by_cases hr : r.row < r.guard
          · have t1 : decide (r.row < r.guard) = true := decide_eq_true hr
            have he : bb = true := by rw [hbb]; unfold early; rw [hb, t1]; rfl
            subst he
            clear hbb hb
            go_wp2_with fail
            go_meet
            case rel => exact ⟨rfl, rfl⟩
          · have t1 : decide (r.row < r.guard) = false := decide_eq_false hr
            have he : bb = decide (nu = 0) := by
              rw [hbb]; unfold early; rw [hb, t1, HNU.out]
              cases (nxR L L.length).H with
              | nil => rfl
              | cons a l => simp
            clear hbb hb
            by_cases h0 : nu = 0
            · subst h0
              have he2 : bb = true := by rw [he]; rfl
              subst he2
              clear he
              go_wp2_with fail
              go_meet
              case rel => exact ⟨rfl, rfl⟩
            · have he2 : bb = false := by rw [he]; exact decide_eq_false h0
              have m2 : ((nu : Int) == 0) = false := by simp; omega
              have m3 : decide ((nu : Int) = 0) = false := decide_eq_false (by omega)
              have m4 : decide (nu = 0) = false := decide_eq_false h0
              subst he2
              clear he
              go_wp2_with fail
              go_meet
              case rel => exact ⟨rfl, rfl⟩
      case rest =>
        obtain ⟨rfl, rfl⟩ := hcut
        clear hbb
        cases bb with
        | true =>
          obtain ⟨⟨r0, r1, r2, r3, r4, r5, r6, r7, r8, r9, r10, r11⟩, y0, y1, y2, y3, y4, y5, y6, y7, y8, y9, y10, y11⟩ := twelve HK.out.bx.rb
          have HFI := Lib.hid (fin9 HK.out.bx (HO.out.later HK.out.bx.n) (Turns.refl _ _))
          have HNE := Lib.hid (nextI_early HO.out.e HBB.out.symm)
          have HSD := Lib.hid (snd_at HAS.out HK.out.so (by
            have := HBB.out.symm
            unfold early at this
            exact (Bool.and_eq_true _ _ ▸ this).1))
          go_wp2_with fail
          refine (show bodyPost _ _ _ _ _ (puts wc pr 0 (rO r (.slice al nl cl) (.slice ar nr cr)).toList) from ?_)
          clear b0 b1 b2 b3 b4 b5 b6 b7 b8 b9 b10 b11 r0 r1 r2 r3 r4 r5 r6 r7 r8 r9 r10 r11 y0 y1 y2 y3 y4 y5 y6 y7 y8 y9 y10 y11
          generalize puts wc pr 0 (rO r (.slice al nl cl) (.slice ar nr cr)).toList = w12 at *
          obtain ⟨⟨e0, e1, e2, e3, e4, e5, e6, e7, e8, e9, e10, e11⟩, _⟩ := twelve HFI.out.1
          refine bodyPost_ret (v := .tuple #[.agg (rO r (.slice al nl cl) (.slice ar nr cr)), .int .i64 sd]) (by simp [results, Try.results74, go_sem, e0, e1, e2, e3, e4, e5, e6, e7, e8, e9, e10, e11]) rfl ?_
          have ea : afterI (L.map (·.id)) r = r := by unfold afterI; rw [HNE.out]
          rw [ea, HNE.out]
          exact ⟨ar, nr, cr, sd, rfl, HFI.out.2.1, HFI.out.2.2, by rw [HSD.out]; simp⟩
        | false =>
          have HCW := Lib.hid (HCH.out wc HK.out.bx.n (.slice au nu cu) (TS.of_owns HK.out.hd.own))
          have HNE := Lib.hid (nextI_late HO.out.e HBB.out.symm)
          obtain ⟨s', hs'⟩ : ∃ s', s' = drr.chooseS (nxR L L.length).H r.s := ⟨_, rfl⟩
          obtain ⟨id, hid⟩ : ∃ id, id = if (nxR L L.length).H = [] then 0 else (drr.chooseS (nxR L L.length).H r.s).turn := ⟨_, rfl⟩
          obtain ⟨bo, hbo⟩ : ∃ bo, bo = !(nxR L L.length).H.isEmpty := ⟨_, rfl⟩
          have HSM : Hid (∀ g ∈ s'.L, g.b < w.heap.size) := Lib.hid (fun g hg => by
            obtain ⟨_, F, e⟩ := drr.Sim.choose (nxR L L.length).H r.s
            rw [hs', e] at hg
            obtain ⟨g0, hg0, e2⟩ := List.mem_map.1 hg
            rw [← e2]
            exact HO.out.b g0 hg0)
          rw [← hid, ← hbo, ← hs'] at HNE
          rw [← hid, ← hbo, ← hs'] at HCW
          dsimp only [drr.rS] at HCW
          clear hs' hid hbo HCH
          go_wp2_with fail
          refine HCW.out.mono ?_
          rintro e w5 ⟨a5, n5, c5, rfl, hts, nn5⟩
          have HT5 := Lib.hid hts
          have HB5 := Lib.hid (HK.out.bx.later nn5)
          clear hts nn5 b0 b1 b2 b3 b4 b5 b6 b7 b8 b9 b10 b11 HCW HK
          go_upto_region 15 with fail
          have N6 : New w5 (w5.alloc (.cells #[.int .i64 s'.most, .slice a5 n5 c5, .int .i64 s'.turn, .bool s'.g] drr.GST)) := (Turns.refl _ _).alloc _
          have HG6 : Hid (Blk (w5.alloc (.cells #[.int .i64 s'.most, .slice a5 n5 c5, .int .i64 s'.turn, .bool s'.g] drr.GST)) w5.heap.size #[.int .i64 s'.most, .slice a5 n5 c5, .int .i64 s'.turn, .bool s'.g] drr.GST) := Lib.hid (Blk.new _ _ _)
          have HT6 := Lib.hid (HT5.out.later N6)
          have HB6 := Lib.hid (HB5.out.later N6)
          clear N6
          refine (show Code.wp _ _ _ _ (w5.alloc (.cells #[.int .i64 s'.most, .slice a5 n5 c5, .int .i64 s'.turn, .bool s'.g] drr.GST)) from ?_)
          generalize w5.alloc (.cells #[.int .i64 s'.most, .slice a5 n5 c5, .int .i64 s'.turn, .bool s'.g] drr.GST) = w5' at *
          generalize w5.heap.size = pq at *
          clear HB5 HT5
          obtain ⟨⟨q0, q1, q2, q3⟩, _⟩ := drr.fours HG6.out
          obtain ⟨⟨b0, b1, b2, b3, b4, b5, b6, b7, b8, b9, b10, b11⟩, y0, y1, y2, y3, y4, y5, y6, y7, y8, y9, y10, y11⟩ := twelve HB6.out.bx
          obtain ⟨r6, hr6⟩ : ∃ r6 : Eo, r6 = ⟨r.frames, r.bytes, r.age, r.most, r.guard, r.credit, r.row, r.L, s'⟩ := ⟨_, rfl⟩
          have T7 : Turns (· = pb) w5' ((((w5'.setCell ⟨pb, 6, none⟩ (.int .i64 s'.most)).setCell ⟨pb, 7, none⟩ (.slice a5 n5 c5)).setCell ⟨pb, 8, none⟩ (.int .i64 s'.turn)).setCell ⟨pb, 9, none⟩ (.bool s'.g)) := ((((Turns.refl (· = pb) w5').setCell (p := ⟨pb, 6, none⟩) (.inl rfl) _).setCell (p := ⟨pb, 7, none⟩) (.inl rfl) _).setCell (p := ⟨pb, 8, none⟩) (.inl rfl) _).setCell (p := ⟨pb, 9, none⟩) (.inl rfl) _
          have HB7 : Hid (Bx w ((((w5'.setCell ⟨pb, 6, none⟩ (.int .i64 s'.most)).setCell ⟨pb, 7, none⟩ (.slice a5 n5 c5)).setCell ⟨pb, 8, none⟩ (.int .i64 s'.turn)).setCell ⟨pb, 9, none⟩ (.bool s'.g)) pb pr r6 (.slice al nl cl) (.slice a5 n5 c5)) := Lib.hid ⟨by rw [hr6]; exact (((HB6.out.bx.set 6 _).set 7 _).set 8 _).set 9 _, T7.blk HB6.out.rb (fun e => HB6.out.lo.2.2 e.symm), HB6.out.n.trans (T7.mono (fun k _ hk => .inr (by rw [hk]; exact HB6.out.lo.1))), HB6.out.lo⟩
          have HR7 : Hid (RO ((((w5'.setCell ⟨pb, 6, none⟩ (.int .i64 s'.most)).setCell ⟨pb, 7, none⟩ (.slice a5 n5 c5)).setCell ⟨pb, 8, none⟩ (.int .i64 s'.turn)).setCell ⟨pb, 9, none⟩ (.bool s'.g)) (.slice al nl cl) (.slice a5 n5 c5) L r6) := Lib.hid (by
            have h6 := HO.out.later HB7.out.n
            rw [hr6]
            exact ⟨h6.l, h6.q, HT6.out.turns T7 (fun y hy e => HT6.out.off HB6.out.bx (by decide) (by rw [hy, e])), h6.e, fun g hg => Nat.lt_of_lt_of_le (HSM.out g hg) HB7.out.n.size⟩)
          clear T7
          go_upto_region 16 with fail
          refine (show Code.wp _ _ _ _ ((((w5'.setCell ⟨pb, 6, none⟩ (.int .i64 s'.most)).setCell ⟨pb, 7, none⟩ (.slice a5 n5 c5)).setCell ⟨pb, 8, none⟩ (.int .i64 s'.turn)).setCell ⟨pb, 9, none⟩ (.bool s'.g)) from ?_)
          clear q0 q1 q2 q3 b0 b1 b2 b3 b4 b5 b6 b7 b8 b9 b10 b11 y0 y1 y2 y3 y4 y5 y6 y7 y8 y9 y10 y11 HB6 HT6 HG6
          generalize (((w5'.setCell ⟨pb, 6, none⟩ (.int .i64 s'.most)).setCell ⟨pb, 7, none⟩ (.slice a5 n5 c5)).setCell ⟨pb, 8, none⟩ (.int .i64 s'.turn)).setCell ⟨pb, 9, none⟩ (.bool s'.g) = w6 at *
          have HEA : Hid (afterI (L.map (·.id)) r = r6) := Lib.hid (by unfold afterI; rw [HNE.out]; exact hr6.symm)
          clear hr6
          obtain ⟨⟨b0, b1, b2, b3, b4, b5, b6, b7, b8, b9, b10, b11⟩, _⟩ := twelve HB7.out.bx
          obtain ⟨⟨r0, r1, r2, r3, r4, r5, r6', r7, r8, r9, r10, r11⟩, y0, y1, y2, y3, y4, y5, y6, y7, y8, y9, y10, y11⟩ := twelve HB7.out.rb
          have hbl := HB7.out.bx.lt
          have hrl := HB7.out.rb.lt
          cases bo with
          | false =>
            have HFI := Lib.hid (fin9 HB7.out HR7.out (Turns.refl _ _))
            go_wp2_with fail
            refine (show bodyPost _ _ _ _ _ (puts w6 pr 0 (rO r6 (.slice al nl cl) (.slice a5 n5 c5)).toList) from ?_)
            clear b0 b1 b2 b3 b4 b5 b6 b7 b8 b9 b10 b11 r0 r1 r2 r3 r4 r5 r6' r7 r8 r9 r10 r11 y0 y1 y2 y3 y4 y5 y6 y7 y8 y9 y10 y11
            generalize puts w6 pr 0 (rO r6 (.slice al nl cl) (.slice a5 n5 c5)).toList = w12 at *
            obtain ⟨⟨e0, e1, e2, e3, e4, e5, e6, e7, e8, e9, e10, e11⟩, _⟩ := twelve HFI.out.1
            refine bodyPost_ret (v := .tuple #[.agg (rO r6 (.slice al nl cl) (.slice a5 n5 c5)), .int .i64 (-1)]) (by simp [results, Try.results74, go_sem, e0, e1, e2, e3, e4, e5, e6, e7, e8, e9, e10, e11]) rfl ?_
            rw [HEA.out, HNE.out]
            exact ⟨a5, n5, c5, -1, rfl, HFI.out.2.1, HFI.out.2.2, (plc_no (fun j g hg => by simp)).symm⟩
          | true =>
            obtain ⟨d, hd⟩ : ∃ d, d = plc L (fun g => g.id == id) := ⟨_, rfl⟩
            have HFD : Hid (∀ W, New w6 W → Calls Try.prog 71 #[.agg (rO r6 (.slice al nl cl) (.slice a5 n5 c5)), .int .i64 id] W fun e w' => e = .returned (.int .i64 d) ∧ New w6 w') := Lib.hid (fun W N => by
              refine (rfind20 (.slice al nl cl) (.slice a5 n5 c5) L r6 id W (HR7.out.later N).l (by have := HLN.out; omega)).mono ?_
              rintro e w' ⟨rfl, n2⟩
              exact ⟨by rw [hd], N.trans (n2.mono (fun _ _ h => h.elim))⟩)
            have HD := Lib.hid hd
            clear hd
            go_upto_region 18 with fail
            go_cut [3] (fun v3 wx => v3 = .int .i64 d ∧ Blk wx pr (rO r6 (.slice al nl cl) (.slice a5 n5 c5)) RT20 ∧ RO wx (.slice al nl cl) (.slice a5 n5 c5) L r6 ∧ New w wx)
            case first =>
              go_region_law
                (go_simp; go_at_call 71; (with_reducible refine Calls.mono (HFD.out _ ?_) ?_); (focus (first | exact Turns.refl _ _ | exact (Turns.refl _ _).drew | exact (Turns.refl _ _).drew.drew | exact (Turns.refl _ _).drew.drew.drew)); rintro en w9 ⟨rfl, hu⟩; have HU := Lib.hid hu; clear hu; obtain ⟨⟨c0, c1, c2, c3, c4, c5, c6, c7, c8, c9, c10, c11⟩, _⟩ := twelve (HB7.out.later HU.out).bx; obtain ⟨⟨s0, s1, s2, s3, s4, s5, s6, s7, s8, s9, s10, s11⟩, t0, t1, t2, t3, t4, t5, t6, t7, t8, t9, t10, t11⟩ := twelve (HB7.out.later HU.out).rb; have hbl9 := (HB7.out.later HU.out).bx.lt; have hrl9 := (HB7.out.later HU.out).rb.lt)
              all_goals
                go_wp2_with fail
                go_meet
                case rel =>
                  first
                    | exact ⟨rfl, fin9 HB7.out HR7.out HU.out⟩
                    | exact ⟨rfl, fin9 HB7.out HR7.out HU.out.drew⟩
                    | exact ⟨rfl, fin9 HB7.out HR7.out HU.out.drew.drew⟩
            case rest =>
              obtain ⟨rfl, hb, hro, hn⟩ := hcut
              have HZ := Lib.hid hro
              have HZN := Lib.hid hn
              obtain ⟨⟨e0, e1, e2, e3, e4, e5, e6, e7, e8, e9, e10, e11⟩, _⟩ := twelve hb
              clear hro hn b0 b1 b2 b3 b4 b5 b6 b7 b8 b9 b10 b11
              go_wp2_with fail
              refine bodyPost_ret (v := .tuple #[.agg (rO r6 (.slice al nl cl) (.slice a5 n5 c5)), .int .i64 d]) (by simp [results, Try.results74, go_sem, e0, e1, e2, e3, e4, e5, e6, e7, e8, e9, e10, e11]) rfl ?_
              rw [HEA.out, HNE.out]
              exact ⟨a5, n5, c5, d, rfl, HZ.out, HZN.out, by rw [HD.out]; simp⟩
end Go.Proofs.Ytcppibjllaablaa.egr
