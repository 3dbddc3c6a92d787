/-
  The reference of layer 20: Add.
-/
import Derived.Test.YtcppibjllaablaaZKag
import Derived.Test.YtcppibjllaablaaZEgrR19g
import Derived.Test.YtcppibjllaablaaZEgrR20t
set_option linter.unusedVariables false
set_option linter.unusedSimpArgs false
namespace Go.Proofs.Ytcppibjllaablaa.egr
open Go.RowKit mem
open Go.Proofs.Ytcppibjllaablaa.drr (plc plc_at plc_no plc_cases before_succ before_all)
set_option linter.unusedVariables false

theorem one6 {W : World} {B : Nat} {x : Rf} {a b c d e f : Value} (hx : FE.cs x = [a, b, c, d, e, f]) (h : Blk W B #[a, b, c, d, e, f] FT) : Sub FE 0 W (.slice (some ⟨B, 0, none⟩) 1 1) [x] := by
  refine .inr ⟨B, 0, 1, rfl, Nat.le_refl _, by decide, Nat.zero_le _, h.lt, fun j u hu => ?_⟩
  rw [FE.all_one, hx] at hu
  rw [Nat.zero_add, h.cell j]
  exact (by simp : (#[a, b, c, d, e, f])[j]? = [a, b, c, d, e, f][j]?).trans hu
theorem sixes {w : World} {p : Nat} {a b c d e f : Value} {T : TypeId} (k : Blk w p #[a, b, c, d, e, f] T) :
    w.cell? ⟨p, 0, none⟩ = some a ∧ w.cell? ⟨p, 1, none⟩ = some b ∧ w.cell? ⟨p, 2, none⟩ = some c ∧ w.cell? ⟨p, 3, none⟩ = some d ∧ w.cell? ⟨p, 4, none⟩ = some e ∧ w.cell? ⟨p, 5, none⟩ = some f :=
  ⟨k.cell 0, k.cell 1, k.cell 2, k.cell 3, k.cell 4, k.cell 5⟩
/-- the scheduler behind an Add -/
def radS (s : drr.Sc) (id : Int) (video : Bool) (sh : Int) (bx : Nat) : drr.Sc := if video = true then ⟨s.most, drr.insF ⟨id, bx, sh, 0⟩ s.L, s.turn, s.g⟩ else s
def radX (r : Eo) (id : Int) (video : Bool) : Rf := ⟨id, video, ⟨r.frames, r.bytes, [], true⟩, none, 0⟩

set_option maxRecDepth 100000 in
set_option maxHeartbeats 8000000 in
theorem rad_ok (al : Option Addr) (nl cl : Nat) (ar : Option Addr) (nr cr : Nat) (L : List Rf) (r : Eo) (id : Int) (video : Bool) (sh : Int) (bx : Nat) (w : World) (h : RO w (.slice al nl cl) (.slice ar nr cr) L r) (hl : L.length ≤ 100000) (hs : r.s.L.length ≤ 100000) (hno : ∀ f ∈ L, f.id ≠ id) (hsn : video = true → ∀ f ∈ r.s.L, f.id ≠ id) (h0 : video = true → r.s.most ≤ sh ∧ sh ≤ 16777216) :
    Calls Try.prog 76 #[.agg (rO r (.slice al nl cl) (.slice ar nr cr)), .int .i64 id, .bool video, .int .i64 sh] w fun e w' => ∃ a4 n4 c4 a5 n5 c5, e = .returned (.tuple #[.agg (rO ⟨r.frames, r.bytes, r.age, r.most, r.guard, r.credit, r.row, r.L, radS r.s id video sh bx⟩ (.slice a4 n4 c4) (.slice a5 n5 c5)), .int .i64 0]) ∧ TS FE FT w' (.slice a4 n4 c4) (insR (radX r id video) L) ∧ TS drr.GE drr.GT w' (.slice a5 n5 c5) (radS r.s id video sh bx).L ∧ New w w' := by
  have HO := Lib.hid h
  have HB := Lib.hid (Bx.start w r (.slice al nl cl) (.slice ar nr cr))
  have HFN := Lib.hid (find_not20 hno)
  have HFD := Lib.hid (fun W (N : New w W) => rfind20 (.slice al nl cl) (.slice ar nr cr) L r id W (HO.out.later N).l (by omega))
  rw [HFN.out] at HFD
  have HLN : Hid (L.length ≤ 100000) := Lib.hid hl
  have hnl : nl = L.length := by
    obtain ⟨_, n2, c2, hv, hn, _⟩ := h.l.form
    injection hv with e1 e2 e3
    omega
  have HN := Lib.hid hnl
  have hn2 : nl ≤ 100000 := by omega
  have HAD := Lib.hid (fun (hv : video = true) W (N : New w W) => drr.radd_ok (.slice ar nr cr) r.s id sh bx W (HO.out.later N).s hs (h0 hv).1 (h0 hv).2 (hsn hv))
  clear h hl hs hno hsn h0 hnl
  go_enter Try.func76, Try.ntmps76
  go_upto_region 1 with fail
  refine (show Code.wp _ _ _ _ ((w.alloc (.cells (rO r (.slice al nl cl) (.slice ar nr cr)) RT20)).alloc (.cells z12.toArray RT20)) from ?_)
  generalize (w.alloc (.cells (rO r (.slice al nl cl) (.slice ar nr cr)) RT20)).alloc (.cells z12.toArray RT20) = w2 at *
  generalize w.heap.size + 1 = pr at *
  generalize w.heap.size = pb at *
  obtain ⟨⟨b0, b1, b2, b3, b4, b5, b6, b7, b8, b9, b10, b11⟩, _⟩ := twelve HB.out.bx
  have HF2 := Lib.hid (HFD.out w2 HB.out.n)
  clear HFD
  go_wp2_with fail
  refine HF2.out.mono ?_
  rintro e w3 ⟨rfl, n3⟩
  have HB3 := Lib.hid (HB.out.later n3)
  clear n3 b0 b1 b2 b3 b4 b5 b6 b7 b8 b9 b10 b11 HF2 HB
  obtain ⟨s', hs'⟩ : ∃ s', s' = radS r.s id video sh bx := ⟨_, rfl⟩
  have HSE := Lib.hid hs'
  clear hs'
  obtain ⟨r6, hr6⟩ : ∃ r6 : Eo, r6 = ⟨r.frames, r.bytes, r.age, r.most, r.guard, r.credit, r.row, r.L, s'⟩ := ⟨_, rfl⟩
  have HR6 := Lib.hid hr6
  clear hr6
  obtain ⟨⟨b0, b1, b2, b3, b4, b5, b6, b7, b8, b9, b10, b11⟩, y0, y1, y2, y3, y4, y5, y6, y7, y8, y9, y10, y11⟩ := twelve HB3.out.bx
  go_upto_region 3 with fail
  go_upto_if 22 with fail
  go_cut [] (fun wx => ∃ a5 n5 c5, Bx w wx pb pr r6 (.slice al nl cl) (.slice a5 n5 c5) ∧ TS drr.GE drr.GT wx (.slice a5 n5 c5) s'.L)
  case first =>
    cases video with
    | false =>
      have HE : Hid (Bx w w3 pb pr r6 (.slice al nl cl) (.slice ar nr cr) ∧ TS drr.GE drr.GT w3 (.slice ar nr cr) s'.L) := Lib.hid (by
        rw [HR6.out, HSE.out]
        exact ⟨⟨HB3.out.bx, HB3.out.rb, HB3.out.n, HB3.out.lo⟩, (HO.out.later HB3.out.n).s⟩)
      go_wp2_with fail
      go_meet
      case rel => exact ⟨ar, nr, cr, HE.out⟩
    | true =>
      have HA3 := Lib.hid (HAD.out rfl w3 HB3.out.n)
      dsimp only [drr.rS] at HA3
      clear HAD
      go_wp2_with fail
      refine HA3.out.mono ?_
      rintro e w5 ⟨a5, n5, c5, rfl, hts, nn5⟩
      have HT5 := Lib.hid hts
      have HB5 := Lib.hid (HB3.out.later nn5)
      clear hts nn5 b0 b1 b2 b3 b4 b5 b6 b7 b8 b9 b10 b11 y0 y1 y2 y3 y4 y5 y6 y7 y8 y9 y10 y11 HA3
      go_upto_region 5 with fail
      have N6 : New w5 (w5.alloc (.cells #[.int .i64 r.s.most, .slice a5 n5 c5, .int .i64 r.s.turn, .bool r.s.g] drr.GST)) := (Turns.refl _ _).alloc _
      have HG6 : Hid (Blk (w5.alloc (.cells #[.int .i64 r.s.most, .slice a5 n5 c5, .int .i64 r.s.turn, .bool r.s.g] drr.GST)) w5.heap.size #[.int .i64 r.s.most, .slice a5 n5 c5, .int .i64 r.s.turn, .bool r.s.g] drr.GST) := Lib.hid (Blk.new _ _ _)
      have HT6 := Lib.hid (HT5.out.later N6)
      have HB6 := Lib.hid (HB5.out.later N6)
      clear N6
      refine (show Code.wp _ _ _ _ (w5.alloc (.cells #[.int .i64 r.s.most, .slice a5 n5 c5, .int .i64 r.s.turn, .bool r.s.g] drr.GST)) from ?_)
      generalize w5.alloc (.cells #[.int .i64 r.s.most, .slice a5 n5 c5, .int .i64 r.s.turn, .bool r.s.g] drr.GST) = w5' at *
      generalize w5.heap.size = pq at *
      clear HB5 HT5
      obtain ⟨⟨q0, q1, q2, q3⟩, _⟩ := drr.fours HG6.out
      obtain ⟨⟨b0, b1, b2, b3, b4, b5, b6, b7, b8, b9, b10, b11⟩, y0, y1, y2, y3, y4, y5, y6, y7, y8, y9, y10, y11⟩ := twelve HB6.out.bx
      have T7 : Turns (· = pb) w5' ((((w5'.setCell ⟨pb, 6, none⟩ (.int .i64 r.s.most)).setCell ⟨pb, 7, none⟩ (.slice a5 n5 c5)).setCell ⟨pb, 8, none⟩ (.int .i64 r.s.turn)).setCell ⟨pb, 9, none⟩ (.bool r.s.g)) := ((((Turns.refl (· = pb) w5').setCell (p := ⟨pb, 6, none⟩) (.inl rfl) _).setCell (p := ⟨pb, 7, none⟩) (.inl rfl) _).setCell (p := ⟨pb, 8, none⟩) (.inl rfl) _).setCell (p := ⟨pb, 9, none⟩) (.inl rfl) _
      have HE : Hid (Bx w ((((w5'.setCell ⟨pb, 6, none⟩ (.int .i64 r.s.most)).setCell ⟨pb, 7, none⟩ (.slice a5 n5 c5)).setCell ⟨pb, 8, none⟩ (.int .i64 r.s.turn)).setCell ⟨pb, 9, none⟩ (.bool r.s.g)) pb pr r6 (.slice al nl cl) (.slice a5 n5 c5) ∧ TS drr.GE drr.GT ((((w5'.setCell ⟨pb, 6, none⟩ (.int .i64 r.s.most)).setCell ⟨pb, 7, none⟩ (.slice a5 n5 c5)).setCell ⟨pb, 8, none⟩ (.int .i64 r.s.turn)).setCell ⟨pb, 9, none⟩ (.bool r.s.g)) (.slice a5 n5 c5) s'.L) := Lib.hid (by
        rw [HR6.out, HSE.out]
        exact ⟨⟨(((HB6.out.bx.set 6 _).set 7 _).set 8 _).set 9 _, T7.blk HB6.out.rb (fun e => HB6.out.lo.2.2 e.symm), HB6.out.n.trans (T7.mono (fun k _ hk => .inr (by rw [hk]; exact HB6.out.lo.1))), HB6.out.lo⟩, HT6.out.turns T7 (fun y hy e => HT6.out.off HB6.out.bx (by decide) (by rw [hy, e]))⟩)
      clear T7
      go_wp2_with fail
      go_meet
      case rel => exact ⟨a5, n5, c5, HE.out⟩
  case rest =>
    obtain ⟨a5, n5, c5, hb, ht⟩ := hcut
    have HB4 := Lib.hid hb
    have HT4 := Lib.hid ht
    clear hb ht HB3 HAD b0 b1 b2 b3 b4 b5 b6 b7 b8 b9 b10 b11 y0 y1 y2 y3 y4 y5 y6 y7 y8 y9 y10 y11
    have b0 : wc.cell? ⟨pb, 0, none⟩ = some (.int .i64 r.frames) := by have := HB4.out.bx.cell 0; rw [HR6.out] at this; exact this
    have b1 : wc.cell? ⟨pb, 1, none⟩ = some (.int .i64 r.bytes) := by have := HB4.out.bx.cell 1; rw [HR6.out] at this; exact this
    have hpl := HB4.out.bx.lt
    have HX5 : Hid (Blk (wc.alloc (.cells #[.int .i64 id, .bool video, .int .i64 r.frames, .int .i64 r.bytes, .slice none 0 0, .bool true] FT)) wc.heap.size #[.int .i64 id, .bool video, .int .i64 r.frames, .int .i64 r.bytes, .slice none 0 0, .bool true] FT) := Lib.hid (Blk.new _ _ _)
    have HB5 := Lib.hid (HB4.out.later ((Turns.refl _ wc).alloc (.cells #[.int .i64 id, .bool video, .int .i64 r.frames, .int .i64 r.bytes, .slice none 0 0, .bool true] FT)))
    have HT5 := Lib.hid (HT4.out.later ((Turns.refl _ wc).alloc (.cells #[.int .i64 id, .bool video, .int .i64 r.frames, .int .i64 r.bytes, .slice none 0 0, .bool true] FT)))
    go_upto_region 9 with fail
    refine (show Code.wp _ _ _ _ (wc.alloc (.cells #[.int .i64 id, .bool video, .int .i64 r.frames, .int .i64 r.bytes, .slice none 0 0, .bool true] FT)) from ?_)
    clear b0 b1 hpl HB4 HT4
    generalize wc.alloc (.cells #[.int .i64 id, .bool video, .int .i64 r.frames, .int .i64 r.bytes, .slice none 0 0, .bool true] FT) = w5 at *
    generalize wc.heap.size = pX at *
    obtain ⟨X, hX⟩ : ∃ X, X = radX r id video := ⟨_, rfl⟩
    have HXE := Lib.hid hX
    have HXS : Hid (FE.cs X = [.int .i64 id, .bool video, .int .i64 r.frames, .int .i64 r.bytes, .slice none 0 0, .bool true]) := Lib.hid (by rw [hX]; rfl)
    clear hX
    have b5 : w5.cell? ⟨pb, 5, none⟩ = some (.slice al nl cl) := HB5.out.bx.cell 5
    have hpl := HB5.out.bx.lt
    have HGK : Hid (Gr FE FT w5 (w5.alloc (.cells #[] FT)) (.slice (some ⟨w5.heap.size, 0, none⟩) 0 0) (outR X (L.take 0))) := Lib.hid ⟨drr.made0G FE (Blk.new _ _ _), fun g hg => by
      have : w5.heap.size = g := by simpa [Value.ownBlock] using hg
      omega, (Turns.refl _ _).alloc _⟩
    go_wp2_with fail
    go_loopw [13, 14, 49] (fun o d i wr => ∃ (k : Nat) (a3 : Option Addr) (n3 c3 : Nat) (dk : Bool), k ≤ nl ∧ i = .int .i64 k ∧ d = .bool dk ∧ dk = donR X (L.take k) ∧ o = .slice a3 n3 c3 ∧ Gr FE FT w5 wr (.slice a3 n3 c3) (outR X (L.take k))) (fun _ _ i _ => nl - (intOf i).toNat)
    case atStart => exact ⟨0, _, _, _, _, Nat.zero_le _, rfl, rfl, rfl, rfl, HGK.out⟩
    case round =>
      obtain ⟨k, a3, n3, c3, dk, hk, rfl, rfl, hdk, rfl, hg⟩ := hrel
      have HG := Lib.hid hg
      have HDK := Lib.hid hdk
      clear hg hdk HGK b5 hpl
      by_cases hlt : k < nl
      · obtain ⟨f, hx⟩ : ∃ f, L[k]? = some f := ⟨_, List.getElem?_eq_getElem (by have := HN.out; omega)⟩
        have HX := Lib.hid hx
        obtain ⟨g0, o0, hg0, hgl, z0, z1, z2, z3, z4, z5⟩ := rf_at ((HO.out.later HB5.out.n).later HG.out.n).l hx
        subst hg0
        have d1 : decide ((k : Int) < (nl : Int)) = true := decide_eq_true (by omega)
        have j1 : (k : Int) < (nl : Int) := by omega
        have hw : IntKind.i64.wrap ((k : Int) + 1) = (k : Int) + 1 := IntWalk.i64_in _ (by omega)
        have HTK : Hid (L.take (k + 1) = L.take k ++ [f]) := Lib.hid (by rw [List.take_add_one, hx]; rfl)
        have HLE : Hid ((outR X (L.take k)).length + 1 ≤ 1048576 ∧ (preR X (L.take k) f).length + 1 ≤ 1048576) := Lib.hid (by
          have h1 := outR_len X (L.take k)
          have h2 : (L.take k).length ≤ k := by rw [List.length_take]; omega
          refine ⟨by omega, ?_⟩
          unfold preR
          split
          · rw [List.length_append, List.length_singleton]; omega
          · omega)
        have HG4 := Lib.hid (HG.out.later ((Turns.refl _ wr).alloc (.cells #[.int .i64 f.id, .bool f.video, .int .i64 f.q.frames, .int .i64 f.q.most, .slice f.ao f.q.L.length f.c, .bool f.q.broken] FT)))
        have HBX : Hid (Blk (wr.alloc (.cells #[.int .i64 f.id, .bool f.video, .int .i64 f.q.frames, .int .i64 f.q.most, .slice f.ao f.q.L.length f.c, .bool f.q.broken] FT)) wr.heap.size #[.int .i64 f.id, .bool f.video, .int .i64 f.q.frames, .int .i64 f.q.most, .slice f.ao f.q.L.length f.c, .bool f.q.broken] FT) := Lib.hid (Blk.new _ _ _)
        have HVL : Hid (∀ g, (Value.slice a3 n3 c3).ownBlock = some g → g ≠ wr.heap.size) := Lib.hid (fun g hg => Nat.ne_of_lt (HG.out.own.lt g hg))
        clear hx
        go_upto_region 14 with fail
        refine (show Code.wp _ _ _ _ (wr.alloc (.cells #[.int .i64 f.id, .bool f.video, .int .i64 f.q.frames, .int .i64 f.q.most, .slice f.ao f.q.L.length f.c, .bool f.q.broken] FT)) from ?_)
        clear z0 z1 z2 z3 z4 z5 hgl
        generalize wr.alloc (.cells #[.int .i64 f.id, .bool f.video, .int .i64 f.q.frames, .int .i64 f.q.most, .slice f.ao f.q.L.length f.c, .bool f.q.broken] FT) = w4 at *
        generalize wr.heap.size = px at *
        obtain ⟨y0, y1, y2, y3, y4, y5⟩ := sixes HBX.out
        obtain ⟨bt, hbt⟩ : ∃ bt, bt = (!dk && decide (id < f.id)) := ⟨_, rfl⟩
        have HBT := Lib.hid hbt
        clear hbt
        go_cut [60] (fun v wx => v = .bool bt ∧ wx = w4)
        case first =>
          cases dk with
          | true =>
            have HB2 : Hid (bt = false) := Lib.hid (by rw [HBT.out]; rfl)
            go_wp2_with fail
            go_meet
            case rel => exact ⟨by rw [HB2.out], rfl⟩
          | false =>
            have HB2 : Hid (bt = decide (id < f.id)) := Lib.hid (by rw [HBT.out]; rfl)
            go_wp2_with fail
            go_meet
            case rel => exact ⟨by rw [HB2.out], rfl⟩
        case rest =>
          obtain ⟨rfl, rfl⟩ := hcut
          go_upto_if 60 with fail
          go_cut [13, 14] (fun v8 v9 wx => ∃ a4 n4 c4, v8 = .slice a4 n4 c4 ∧ v9 = .bool (dk || decide (id < f.id)) ∧ Gr FE FT w5 wx (.slice a4 n4 c4) (preR X (L.take k) f) ∧ Blk wx px #[.int .i64 f.id, .bool f.video, .int .i64 f.q.frames, .int .i64 f.q.most, .slice f.ao f.q.L.length f.c, .bool f.q.broken] FT ∧ ∀ g, (Value.slice a4 n4 c4).ownBlock = some g → g ≠ px)
          case first =>
            cases bt with
            | true =>
              have HT2 : Hid (dk = false ∧ id < f.id) := Lib.hid (by
                have h := HBT.out
                cases dk with
                | true => cases h
                | false => exact ⟨rfl, of_decide_eq_true h.symm⟩)
              have HPE : Hid (preR X (L.take k) f = outR X (L.take k) ++ [X] ∧ (dk || decide (id < f.id)) = true) := Lib.hid (by
                have h1 := HT2.out
                have h2 : donR X (L.take k) = false := by rw [← HDK.out]; exact h1.1
                refine ⟨?_, by rw [h1.1, decide_eq_true h1.2]; rfl⟩
                unfold preR outR
                rw [if_pos ⟨h2, by rw [HXE.out]; exact h1.2⟩, h2]
                rfl)
              obtain ⟨x0, x1, x2, x3, x4, x5⟩ := sixes (HG4.out.n.blk HX5.out (fun h => h))
              have HGW := HG4.out.own.turns (S := fun _ => False) ((Turns.refl _ _).alloc (.cells #[.int .i64 id, .bool video, .int .i64 r.frames, .int .i64 r.bytes, .slice none 0 0, .bool true] FT)) (fun _ _ h => h)
              go_wp2_with (at_builtin; refine wpList_append_sub (E := FE) Try.underlying60 infoF rfl (by decide) (by decide) rfl _ _ rfl _ (outR X (L.take k)) [X] rfl HGW _ rfl 0 (one6 HXS.out (Blk.new _ _ _)) HLE.out.1 ?_)
              intro v6 w6 hown hgrow hat
              have HG6 := Lib.hid (Gr.push HG4.out hown hgrow (by rw [World.size_alloc]; exact hat))
              obtain ⟨a6, c6, hv6, _⟩ := HG6.out.own.form
              have HB6 : Hid (Blk w6 px #[.int .i64 f.id, .bool f.video, .int .i64 f.q.frames, .int .i64 f.q.most, .slice f.ao f.q.L.length f.c, .bool f.q.broken] FT) := Lib.hid ((Gr.turned hgrow).blk HBX.out (fun e => HVL.out px e.symm rfl))
              have HV6 : Hid (∀ g, v6.ownBlock = some g → g ≠ px) := Lib.hid (fun g hg => by
                rcases hat with e | e
                · exact HVL.out g (e ▸ hg)
                · rw [e] at hg
                  injection hg with hg
                  have := HBX.out.lt
                  omega)
              generalize (outR X (L.take k) ++ [X]).length = n6 at hv6
              subst hv6
              clear hown hgrow hat HGW x0 x1 x2 x3 x4 x5
              go_wp2_with fail
              go_meet
              case rel => exact ⟨a6, n6, c6, rfl, by rw [HPE.out.2], by rw [HPE.out.1]; exact HG6.out, HB6.out, HV6.out⟩
            | false =>
              have HPE : Hid (preR X (L.take k) f = outR X (L.take k) ∧ (dk || decide (id < f.id)) = dk) := Lib.hid (by
                have h := HBT.out
                unfold preR
                cases dk with
                | true => exact ⟨if_neg (fun h2 => by have := HDK.out; rw [h2.1] at this; cases this), rfl⟩
                | false =>
                  have h3 : decide (id < f.id) = false := h.symm
                  exact ⟨if_neg (fun h2 => by have := h2.2; rw [HXE.out] at this; exact of_decide_eq_false h3 this), by rw [h3]; rfl⟩)
              go_wp2_with fail
              go_meet
              case rel => exact ⟨a3, n3, c3, rfl, by rw [HPE.out.2], by rw [HPE.out.1]; exact HG4.out, HBX.out, HVL.out⟩
          case rest =>
            obtain ⟨a4, n4, c4, rfl, rfl, hg5, hb5, hv5⟩ := hcut
            have HG5 := Lib.hid hg5
            have HD5 : Hid ((dk || decide (id < f.id)) = donR X (L.take (k + 1))) := Lib.hid (by rw [HTK.out, donR_snoc, ← HDK.out, HXE.out]; rfl)
            have HO5 : Hid (preR X (L.take k) f ++ [f] = outR X (L.take (k + 1))) := Lib.hid (by rw [HTK.out]; exact (outR_snoc X _ f).symm)
            generalize (dk || decide (id < f.id)) = dk2 at *
            have HFS : Hid (FE.cs f = [.int .i64 f.id, .bool f.video, .int .i64 f.q.frames, .int .i64 f.q.most, .slice f.ao f.q.L.length f.c, .bool f.q.broken]) := Lib.hid rfl
            obtain ⟨y0, y1, y2, y3, y4, y5⟩ := sixes hb5
            have HGW := hg5.own.turns (S := fun _ => False) ((Turns.refl _ _).alloc (.cells #[.int .i64 f.id, .bool f.video, .int .i64 f.q.frames, .int .i64 f.q.most, .slice f.ao f.q.L.length f.c, .bool f.q.broken] FT)) (fun _ _ h => h)
            clear hg5 hb5 hv5
            go_wp2_with (at_builtin; refine wpList_append_sub (E := FE) Try.underlying60 infoF rfl (by decide) (by decide) rfl _ _ rfl _ (preR X (L.take k) f) [f] rfl HGW _ rfl 0 (one6 HFS.out (Blk.new _ _ _)) HLE.out.2 ?_)
            intro v6 w6 hown hgrow hat
            have hg6 := Gr.push HG5.out hown hgrow (by rw [World.size_alloc]; exact hat)
            rw [HO5.out] at hg6
            have HG6 := Lib.hid hg6
            obtain ⟨a6, c6, hv6, _⟩ := hg6.own.form
            generalize (outR X (L.take (k + 1))).length = n6 at hv6
            subst hv6
            clear hown hgrow hat HGW y0 y1 y2 y3 y4 y5 hg6
            go_wp2_with fail
            go_roundw
            case rel => exact ⟨k + 1, a6, n6, c6, dk2, by omega, by push_cast; go_num, rfl, HD5.out, rfl, HG6.out⟩
            case measure => simp [intOf, hw]; omega
      · have d1 : decide ((k : Int) < (nl : Int)) = false := decide_eq_false (by omega)
        have d2 : decide (k < nl) = false := decide_eq_false hlt
        have HTK : Hid (L.take k = L) := Lib.hid (List.take_of_length_le (by have := HN.out; omega))
        rw [HTK.out] at HG HDK
        clear hlt hk
        have HLE : Hid ((outR X L).length + 1 ≤ 1048576) := Lib.hid (by have := outR_len X L; have := HN.out; omega)
        obtain ⟨x0, x1, x2, x3, x4, x5⟩ := sixes (HG.out.n.blk HX5.out (fun h => h))
        go_upto_if 71 with fail
        go_cut [13] (fun v8 wx => ∃ a4 n4 c4, v8 = .slice a4 n4 c4 ∧ Gr FE FT w5 wx (.slice a4 n4 c4) (insR X L))
        case first =>
          cases dk with
          | true =>
            have HIE := Lib.hid (insR_of HDK.out.symm)
            go_wp2_with fail
            go_meet
            case rel => exact ⟨a3, n3, c3, rfl, by rw [← HIE.out]; exact HG.out⟩
          | false =>
            have HIE := Lib.hid (outR_no HDK.out.symm)
            have HGW := HG.out.own.turns (S := fun _ => False) ((Turns.refl _ _).alloc (.cells #[.int .i64 id, .bool video, .int .i64 r.frames, .int .i64 r.bytes, .slice none 0 0, .bool true] FT)) (fun _ _ h => h)
            go_wp2_with (at_builtin; refine wpList_append_sub (E := FE) Try.underlying60 infoF rfl (by decide) (by decide) rfl _ _ rfl _ (outR X L) [X] rfl HGW _ rfl 0 (one6 HXS.out (Blk.new _ _ _)) HLE.out ?_)
            intro v6 w6 hown hgrow hat
            have hg6 := Gr.push HG.out hown hgrow (by rw [World.size_alloc]; exact hat)
            rw [HIE.out] at hg6
            have HG6 := Lib.hid hg6
            obtain ⟨a6, c6, hv6, _⟩ := hg6.own.form
            generalize (insR X L).length = n6 at hv6
            subst hv6
            clear hown hgrow hat HGW hg6
            go_wp2_with fail
            go_meet
            case rel => exact ⟨a6, n6, c6, rfl, HG6.out⟩
        case rest =>
          obtain ⟨a4, n4, c4, rfl, hg7⟩ := hcut
          have HM := Lib.hid (mc_of HB5.out hg7)
          have HT7 := Lib.hid (HT5.out.later hg7.n)
          have HB7 := Lib.hid (HB5.out.later hg7.n)
          clear hg7 HG HDK x0 x1 x2 x3 x4 x5
          have y5 := HB7.out.bx.free 5
          have b5 : wc.cell? ⟨pb, 5, none⟩ = some (.slice al nl cl) := HB7.out.bx.cell 5
          have hpl := HB7.out.bx.lt
          have HTE : Hid (TS drr.GE drr.GT (wc.setCell ⟨pb, 5, none⟩ (.slice a4 n4 c4)) (.slice a5 n5 c5) s'.L) := Lib.hid (HT7.out.turns ((Turns.refl (· = pb) _).setCell (.inl rfl) _) (fun y hy e => HT7.out.off HB7.out.bx (by decide) (by rw [hy, e])))
          go_upto_region 22 with fail
          refine (show Code.wp _ _ _ _ (wc.setCell ⟨pb, 5, none⟩ (.slice a4 n4 c4)) from ?_)
          clear y5 b5 hpl HB7 HT7
          generalize wc.setCell ⟨pb, 5, none⟩ (.slice a4 n4 c4) = w6 at *
          obtain ⟨⟨b0, b1, b2, b3, b4, b5, b6, b7, b8, b9, b10, b11⟩, _⟩ := twelve HM.out.b.bx
          obtain ⟨⟨r0, r1, r2, r3, r4, r5, r6', r7, r8, r9, r10, r11⟩, y0, y1, y2, y3, y4, y5, y6, y7, y8, y9, y10, y11⟩ := twelve HM.out.b.rb
          have HFI := Lib.hid (HM.out.b.fin r6 (.slice a4 n4 c4) (.slice a5 n5 c5))
          have HFL := Lib.hid (HM.out.b.ts r6 (.slice a4 n4 c4) (.slice a5 n5 c5) HM.out.l (by decide))
          have HFS := Lib.hid (HM.out.b.ts r6 (.slice a4 n4 c4) (.slice a5 n5 c5) HTE.out (by decide))
          go_wp2_with fail
          refine (show bodyPost _ _ _ _ _ (puts w6 pr 0 (rO r6 (.slice a4 n4 c4) (.slice a5 n5 c5)).toList) from ?_)
          clear b0 b1 b2 b3 b4 b5 b6 b7 b8 b9 b10 b11 r0 r1 r2 r3 r4 r5 r6' r7 r8 r9 r10 r11 y0 y1 y2 y3 y4 y5 y6 y7 y8 y9 y10 y11
          generalize puts w6 pr 0 (rO r6 (.slice a4 n4 c4) (.slice a5 n5 c5)).toList = w12 at *
          obtain ⟨⟨e0, e1, e2, e3, e4, e5, e6, e7, e8, e9, e10, e11⟩, _⟩ := twelve HFI.out.1
          refine bodyPost_ret (v := .tuple #[.agg (rO r6 (.slice a4 n4 c4) (.slice a5 n5 c5)), .int .i64 0]) (by simp [results, Try.results76, go_sem, e0, e1, e2, e3, e4, e5, e6, e7, e8, e9, e10, e11]) rfl ?_
          rw [← HXE.out, ← HSE.out, ← HR6.out]
          exact ⟨a4, n4, c4, a5, n5, c5, rfl, HFL.out, HFS.out, HFI.out.2⟩
end Go.Proofs.Ytcppibjllaablaa.egr
