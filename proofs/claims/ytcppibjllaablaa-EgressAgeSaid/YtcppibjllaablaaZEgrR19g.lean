/-
  The reference of layer 19: Add, where it may be.
-/
import Derived.Test.YtcppibjllaablaaZKae
set_option linter.unusedVariables false
set_option linter.unusedSimpArgs false
namespace Go.Proofs.Ytcppibjllaablaa.drr
open Go.RowKit mem
set_option linter.unusedVariables false

theorem threes {w : World} {p : Nat} {a b c : Value} {T : TypeId} (k : Blk w p #[a, b, c] T) : w.cell? ⟨p, 0, none⟩ = some a ∧ w.cell? ⟨p, 1, none⟩ = some b ∧ w.cell? ⟨p, 2, none⟩ = some c := ⟨k.cell 0, k.cell 1, k.cell 2⟩
theorem insF_of {x : Fl} {l : List Fl} (h : donF x l = true) : outF x l = insF x l := if_pos h
theorem outF_no {x : Fl} {l : List Fl} (h : donF x l = false) : outF x l ++ [x] = insF x l := by rw [insF_no h]; unfold outF; rw [h]; rfl
theorem one3 {W : World} {B : Nat} {x : Fl} {a b c : Value} (hx : GE.cs x = [a, b, c]) (h : Blk W B #[a, b, c] GT) : Sub GE 0 W (.slice (some ⟨B, 0, none⟩) 1 1) [x] := by
  refine .inr ⟨B, 0, 1, rfl, Nat.le_refl _, by decide, Nat.zero_le _, h.lt, fun j u hu => ?_⟩
  rw [GE.all_one, hx] at hu
  rw [Nat.zero_add, h.cell j]
  exact (by simp : (#[a, b, c])[j]? = [a, b, c][j]?).trans hu
set_option maxRecDepth 100000 in
set_option maxHeartbeats 8000000 in
theorem radd_ok (v : Value) (s : Sc) (id sh : Int) (bx : Nat) (w : World) (h : TS GE GT w v s.L) (hl : s.L.length ≤ 100000) (h0 : s.most ≤ sh) (h1 : sh ≤ 16777216) (hno : ∀ f ∈ s.L, f.id ≠ id) :
    Calls Try.prog 91 #[.agg (rS s v), .int .i64 id, .int .i64 sh] w fun e w' => ∃ ao n c, e = .returned (.tuple #[.agg (rS ⟨s.most, insF ⟨id, bx, sh, 0⟩ s.L, s.turn, s.g⟩ (.slice ao n c)), .int .i64 0]) ∧ TS GE GT w' (.slice ao n c) (insF ⟨id, bx, sh, 0⟩ s.L) ∧ New9 w w' := by
  obtain ⟨ao, n, c, hv, hn, _, _⟩ := h.form
  subst hv
  have HS := Lib.hid h
  have HN := Lib.hid hn
  have HLN : Hid (s.L.length ≤ 1048576) := Lib.hid (by omega)
  have hn2 : n ≤ 100000 := by omega
  have HFN := Lib.hid (find_not hno)
  clear h hn hl hno
  have HB : Hid (Blk ((w.alloc (.cells #[.int .i64 s.most, .slice ao n c, .int .i64 s.turn, .bool s.g] GST)).alloc (.cells #[.int .i64 0, .slice none 0 0, .int .i64 0, .bool false] GST)) w.heap.size #[.int .i64 s.most, .slice ao n c, .int .i64 s.turn, .bool s.g] GST) := Lib.hid ((Blk.new _ _ _).alloc _)
  have HR : Hid (Blk ((w.alloc (.cells #[.int .i64 s.most, .slice ao n c, .int .i64 s.turn, .bool s.g] GST)).alloc (.cells #[.int .i64 0, .slice none 0 0, .int .i64 0, .bool false] GST)) (w.heap.size + 1) #[.int .i64 0, .slice none 0 0, .int .i64 0, .bool false] GST) := Lib.hid (by
    rw [show w.heap.size + 1 = (w.alloc (.cells #[.int .i64 s.most, .slice ao n c, .int .i64 s.turn, .bool s.g] GST)).heap.size by simp]
    exact Blk.new _ _ _)
  have H0 : Hid (New9 w ((w.alloc (.cells #[.int .i64 s.most, .slice ao n c, .int .i64 s.turn, .bool s.g] GST)).alloc (.cells #[.int .i64 0, .slice none 0 0, .int .i64 0, .bool false] GST))) := Lib.hid (((Turns.refl _ _).alloc _).alloc _)
  have HPP : Hid (w.heap.size ≠ w.heap.size + 1 ∧ w.heap.size ≤ w.heap.size ∧ w.heap.size ≤ w.heap.size + 1) := Lib.hid (by omega)
  have d1 : decide (sh < s.most) = false := decide_eq_false (by omega)
  have d2 : decide (16777216 < sh) = false := decide_eq_false (by omega)
  clear h0 h1
  go_enter Try.func91, Try.ntmps91
  go_upto_region 1 with fail
  refine (show Code.wp _ _ _ _ ((w.alloc (.cells #[.int .i64 s.most, .slice ao n c, .int .i64 s.turn, .bool s.g] GST)).alloc (.cells #[.int .i64 0, .slice none 0 0, .int .i64 0, .bool false] GST)) from ?_)
  generalize (w.alloc (.cells #[.int .i64 s.most, .slice ao n c, .int .i64 s.turn, .bool s.g] GST)).alloc (.cells #[.int .i64 0, .slice none 0 0, .int .i64 0, .bool false] GST) = w2 at *
  obtain ⟨pb, hpb⟩ : ∃ pb, pb = w.heap.size := ⟨_, rfl⟩
  rw [← hpb] at HB HR
  rw [show (w.heap.size ≠ w.heap.size + 1 ∧ w.heap.size ≤ w.heap.size ∧ w.heap.size ≤ w.heap.size + 1) = (pb ≠ pb + 1 ∧ w.heap.size ≤ pb ∧ w.heap.size ≤ pb + 1) by rw [hpb]] at HPP
  rw [← hpb]
  clear hpb
  generalize pb + 1 = pr at *
  obtain ⟨⟨b0, b1, b2, b3⟩, _⟩ := fours HB.out
  have HFD := Lib.hid (rfind (.slice ao n c) s id w2 (HS.out.later H0.out) HLN.out)
  rw [HFN.out] at HFD
  go_wp2_with fail
  refine HFD.out.mono ?_
  rintro e w3 ⟨rfl, n3⟩
  have HN3 := Lib.hid n3
  have HB3 := Lib.hid (n3.blk HB.out (fun h => h))
  have HR3 := Lib.hid (n3.blk HR.out (fun h => h))
  clear n3 b0 b1 b2 b3 HFD HB HR d1 d2
  obtain ⟨b1, _⟩ : w3.cell? ⟨pb, 1, none⟩ = some (.slice ao n c) ∧ True := ⟨HB3.out.cell 1, trivial⟩
  have hpl := HB3.out.lt
  have HGK : Hid (Gr GE GT w3 (w3.alloc (.cells #[] GT)) (.slice (some ⟨w3.heap.size, 0, none⟩) 0 0) (outF ⟨id, bx, sh, 0⟩ (s.L.take 0))) := Lib.hid ⟨made0G GE (Blk.new _ _ _), fun g hg => by
    have : w3.heap.size = g := by simpa [Value.ownBlock] using hg
    omega, (Turns.refl _ _).alloc _⟩
  obtain ⟨X, hX⟩ : ∃ X : Fl, X = ⟨id, bx, sh, 0⟩ := ⟨_, rfl⟩
  rw [← hX] at HGK
  have HXE := Lib.hid hX
  clear hX
  go_wp2_with fail
  go_loopw [8, 9, 30] (fun o d i wr => ∃ (k : Nat) (a3 : Option Addr) (n3 c3 : Nat) (dk : Bool), k ≤ n ∧ i = .int .i64 k ∧ d = .bool dk ∧ dk = donF X (s.L.take k) ∧ o = .slice a3 n3 c3 ∧ Gr GE GT w3 wr (.slice a3 n3 c3) (outF X (s.L.take k))) (fun _ _ i _ => n - (intOf i).toNat)
  case atStart => exact ⟨0, _, _, _, _, Nat.zero_le _, rfl, rfl, rfl, rfl, HGK.out⟩
  case round =>
    obtain ⟨k, a3, n3, c3, dk, hk, rfl, rfl, hdk, rfl, hg⟩ := hrel
    have HG := Lib.hid hg
    have HDK := Lib.hid hdk
    clear hg hdk HGK b1 hpl
    by_cases hlt : k < n
    · obtain ⟨f, hx⟩ : ∃ f, s.L[k]? = some f := ⟨_, List.getElem?_eq_getElem (by have := HN.out; omega)⟩
      have HX := Lib.hid hx
      obtain ⟨g0, o0, hg0, hgl, z0, z1, z2⟩ := flow_at (((HS.out.later H0.out).later HN3.out).later HG.out.n) hx
      subst hg0
      have d1 : decide ((k : Int) < (n : Int)) = true := decide_eq_true (by omega)
      have j1 : (k : Int) < (n : Int) := by omega
      have hw : IntKind.i64.wrap ((k : Int) + 1) = (k : Int) + 1 := IntWalk.i64_in _ (by omega)
      have HTK : Hid (s.L.take (k + 1) = s.L.take k ++ [f]) := Lib.hid (by rw [List.take_add_one, hx]; rfl)
      have HLE : Hid ((outF X (s.L.take k)).length + 1 ≤ 1048576 ∧ (preF X (s.L.take k) f).length + 1 ≤ 1048576) := Lib.hid (by
        have h1 := outF_len X (s.L.take k)
        have h2 : (s.L.take k).length ≤ k := by rw [List.length_take]; omega
        refine ⟨by omega, ?_⟩
        unfold preF
        split
        · rw [List.length_append, List.length_singleton]; omega
        · omega)
      have HG4 := Lib.hid (HG.out.later ((Turns.refl _ wr).alloc (.cells #[.int .i64 f.id, .int .i64 f.share, .int .i64 f.left] GT)))
      have HBX : Hid (Blk (wr.alloc (.cells #[.int .i64 f.id, .int .i64 f.share, .int .i64 f.left] GT)) wr.heap.size #[.int .i64 f.id, .int .i64 f.share, .int .i64 f.left] GT) := Lib.hid (Blk.new _ _ _)
      have HVL : Hid (∀ g, (Value.slice a3 n3 c3).ownBlock = some g → g ≠ wr.heap.size) := Lib.hid (fun g hg => Nat.ne_of_lt (HG.out.own.lt g hg))
      clear hx
      go_upto_region 10 with fail
      refine (show Code.wp _ _ _ _ (wr.alloc (.cells #[.int .i64 f.id, .int .i64 f.share, .int .i64 f.left] GT)) from ?_)
      clear z0 z1 z2 hgl
      generalize wr.alloc (.cells #[.int .i64 f.id, .int .i64 f.share, .int .i64 f.left] GT) = w4 at *
      generalize wr.heap.size = px at *
      obtain ⟨y0, y1, y2⟩ := threes HBX.out
      obtain ⟨bt, hbt⟩ : ∃ bt, bt = (!dk && decide (id < f.id)) := ⟨_, rfl⟩
      have HBT := Lib.hid hbt
      clear hbt
      go_cut [41] (fun v wx => v = .bool bt ∧ wx = w4)
      case first =>
        cases dk with
        | true =>
          have HB2 : Hid (bt = false) := Lib.hid (by rw [HBT.out]; rfl)
          go_wp2_with fail
          go_meet
          case rel => exact ⟨by rw [HB2.out], rfl⟩
        | false =>
          have HB2 : Hid (bt = decide (id < f.id)) := Lib.hid (by rw [HBT.out]; rfl)
          go_wp2_with fail
          go_meet
          case rel => exact ⟨by rw [HB2.out], rfl⟩
      case rest =>
        obtain ⟨rfl, rfl⟩ := hcut
        go_upto_if 41 with fail
        go_cut [8, 9] (fun v8 v9 wx => ∃ a4 n4 c4, v8 = .slice a4 n4 c4 ∧ v9 = .bool (dk || decide (id < f.id)) ∧ Gr GE GT w3 wx (.slice a4 n4 c4) (preF X (s.L.take k) f) ∧ Blk wx px #[.int .i64 f.id, .int .i64 f.share, .int .i64 f.left] GT ∧ ∀ g, (Value.slice a4 n4 c4).ownBlock = some g → g ≠ px)
        case first =>
          cases bt with
          | true =>
            have HT2 : Hid (dk = false ∧ id < f.id) := Lib.hid (by
              have h := HBT.out
              cases dk with
              | true => cases h
              | false => exact ⟨rfl, of_decide_eq_true h.symm⟩)
            have HPE : Hid (preF X (s.L.take k) f = outF X (s.L.take k) ++ [X] ∧ (dk || decide (id < f.id)) = true) := Lib.hid (by
              have h1 := HT2.out
              have h2 : donF X (s.L.take k) = false := by rw [← HDK.out]; exact h1.1
              refine ⟨?_, by rw [h1.1, decide_eq_true h1.2]; rfl⟩
              unfold preF outF
              rw [if_pos ⟨h2, by rw [HXE.out]; exact h1.2⟩, h2]
              rfl)
            have HXC : Hid (X.id = id ∧ X.share = sh ∧ X.left = 0) := Lib.hid (by rw [HXE.out]; exact ⟨rfl, rfl, rfl⟩)
            have HGW := HG4.out.own.turns (S := fun _ => False) ((Turns.refl _ _).alloc (.cells #[.int .i64 id, .int .i64 sh, .int .i64 0] GT)) (fun _ _ h => h)
            have HXS : Hid (GE.cs X = [.int .i64 id, .int .i64 sh, .int .i64 0]) := Lib.hid (by rw [HXE.out]; rfl)
            go_wp2_with (at_builtin; refine wpList_append_sub (E := GE) Try.underlying61 infoG rfl (by decide) (by decide) rfl _ _ rfl _ (outF X (s.L.take k)) [X] rfl HGW _ rfl 0 (one3 HXS.out (Blk.new _ _ _)) HLE.out.1 ?_)
            intro v6 w6 hown hgrow hat
            have HG6 := Lib.hid (Gr.push HG4.out hown hgrow (by rw [World.size_alloc]; exact hat))
            obtain ⟨a6, c6, hv6, _⟩ := HG6.out.own.form
            have HB6 : Hid (Blk w6 px #[.int .i64 f.id, .int .i64 f.share, .int .i64 f.left] GT) := Lib.hid ((Gr.turned hgrow).blk HBX.out (fun e => HVL.out px e.symm rfl))
            have HV6 : Hid (∀ g, v6.ownBlock = some g → g ≠ px) := Lib.hid (fun g hg => by
              rcases hat with e | e
              · exact HVL.out g (e ▸ hg)
              · rw [e] at hg
                injection hg with hg
                have := HBX.out.lt
                omega)
            generalize (outF X (s.L.take k) ++ [X]).length = n6 at hv6
            subst hv6
            clear hown hgrow hat HGW
            go_wp2_with fail
            go_meet
            case rel => exact ⟨a6, n6, c6, rfl, by rw [HPE.out.2], by rw [HPE.out.1]; exact HG6.out, HB6.out, HV6.out⟩
          | false =>
            have HPE : Hid (preF X (s.L.take k) f = outF X (s.L.take k) ∧ (dk || decide (id < f.id)) = dk) := Lib.hid (by
              have h := HBT.out
              unfold preF
              cases dk with
              | true => exact ⟨if_neg (fun h2 => by have := HDK.out; rw [h2.1] at this; cases this), rfl⟩
              | false =>
                have h3 : decide (id < f.id) = false := h.symm
                exact ⟨if_neg (fun h2 => by have := h2.2; rw [HXE.out] at this; exact of_decide_eq_false h3 this), by rw [h3]; rfl⟩)
            go_wp2_with fail
            go_meet
            case rel => exact ⟨a3, n3, c3, rfl, by rw [HPE.out.2], by rw [HPE.out.1]; exact HG4.out, HBX.out, HVL.out⟩
        case rest =>
          obtain ⟨a4, n4, c4, rfl, rfl, hg5, hb5, hv5⟩ := hcut
          have HG5 := Lib.hid hg5
          have HB5 := Lib.hid hb5
          have HD5 : Hid ((dk || decide (id < f.id)) = donF X (s.L.take (k + 1))) := Lib.hid (by rw [HTK.out, donF_snoc, ← HDK.out, HXE.out])
          have HO5 : Hid (preF X (s.L.take k) f ++ [f] = outF X (s.L.take (k + 1))) := Lib.hid (by rw [HTK.out]; exact (outF_snoc X _ f).symm)
          generalize (dk || decide (id < f.id)) = dk2 at *
          have HXS : Hid (GE.cs f = [.int .i64 f.id, .int .i64 f.share, .int .i64 f.left]) := Lib.hid rfl
          obtain ⟨y0, y1, y2⟩ := threes hb5
          have HGW := hg5.own.turns (S := fun _ => False) ((Turns.refl _ _).alloc (.cells #[.int .i64 f.id, .int .i64 f.share, .int .i64 f.left] GT)) (fun _ _ h => h)
          clear hg5 hb5 hv5
          go_wp2_with (at_builtin; refine wpList_append_sub (E := GE) Try.underlying61 infoG rfl (by decide) (by decide) rfl _ _ rfl _ (preF X (s.L.take k) f) [f] rfl HGW _ rfl 0 (one3 HXS.out (Blk.new _ _ _)) HLE.out.2 ?_)
          intro v6 w6 hown hgrow hat
          have hg6 := Gr.push HG5.out hown hgrow (by rw [World.size_alloc]; exact hat)
          rw [HO5.out] at hg6
          have HG6 := Lib.hid hg6
          obtain ⟨a6, c6, hv6, _⟩ := hg6.own.form
          generalize (outF X (s.L.take (k + 1))).length = n6 at hv6
          subst hv6
          clear hown hgrow hat HGW y0 y1 y2 hg6
          go_wp2_with fail
          go_roundw
          case rel => exact ⟨k + 1, a6, n6, c6, dk2, by omega, by push_cast; go_num, rfl, HD5.out, rfl, HG6.out⟩
          case measure => simp [intOf, hw]; omega
    · have d1 : decide ((k : Int) < (n : Int)) = false := decide_eq_false (by omega)
      have d2 : decide (k < n) = false := decide_eq_false hlt
      have HTK : Hid (s.L.take k = s.L) := Lib.hid (List.take_of_length_le (by have := HN.out; omega))
      rw [HTK.out] at HG HDK
      clear hlt hk
      have HLE : Hid ((outF X s.L).length + 1 ≤ 1048576) := Lib.hid (by have := outF_len X s.L; have := HN.out; omega)
      go_upto_if 54 with fail
      go_cut [8] (fun v8 wx => ∃ a4 n4 c4, v8 = .slice a4 n4 c4 ∧ Gr GE GT w3 wx (.slice a4 n4 c4) (insF X s.L))
      case first =>
        cases dk with
        | true =>
          have HIE := Lib.hid (insF_of HDK.out.symm)
          go_wp2_with fail
          go_meet
          case rel => exact ⟨a3, n3, c3, rfl, by rw [← HIE.out]; exact HG.out⟩
        | false =>
          have HIE := Lib.hid (outF_no HDK.out.symm)
          have HXS : Hid (GE.cs X = [.int .i64 id, .int .i64 sh, .int .i64 0]) := Lib.hid (by rw [HXE.out]; rfl)
          have HGW := HG.out.own.turns (S := fun _ => False) ((Turns.refl _ _).alloc (.cells #[.int .i64 id, .int .i64 sh, .int .i64 0] GT)) (fun _ _ h => h)
          go_wp2_with (at_builtin; refine wpList_append_sub (E := GE) Try.underlying61 infoG rfl (by decide) (by decide) rfl _ _ rfl _ (outF X s.L) [X] rfl HGW _ rfl 0 (one3 HXS.out (Blk.new _ _ _)) HLE.out ?_)
          intro v6 w6 hown hgrow hat
          have hg6 := Gr.push HG.out hown hgrow (by rw [World.size_alloc]; exact hat)
          rw [HIE.out] at hg6
          have HG6 := Lib.hid hg6
          obtain ⟨a6, c6, hv6, _⟩ := hg6.own.form
          generalize (insF X s.L).length = n6 at hv6
          subst hv6
          clear hown hgrow hat HGW hg6
          go_wp2_with fail
          go_meet
          case rel => exact ⟨a6, n6, c6, rfl, HG6.out⟩
      case rest =>
        obtain ⟨a4, n4, c4, rfl, hg7⟩ := hcut
        rw [HXE.out] at hg7
        have HG7 := Lib.hid hg7
        have HB7 := Lib.hid (hg7.n.blk HB3.out (fun h => h))
        have HR7 := Lib.hid (hg7.n.blk HR3.out (fun h => h))
        clear hg7 HG HDK
        obtain ⟨⟨b0, b1, b2, b3⟩, f0, f1, f2, f3⟩ := fours HB7.out
        have HM6 : Hid (Mb w (wc.setCell ⟨pb, 1, none⟩ (.slice a4 n4 c4)) pb pr (.slice a4 n4 c4) (insF ⟨id, bx, sh, 0⟩ s.L) s.most s.turn s.g) := Lib.hid (by
          have T6 : Turns (· = pb) wc (wc.setCell ⟨pb, 1, none⟩ (.slice a4 n4 c4)) := (Turns.refl (· = pb) _).setCell (.inl rfl) _
          have hb6 : Blk (wc.setCell ⟨pb, 1, none⟩ (.slice a4 n4 c4)) pb #[.int .i64 s.most, .slice a4 n4 c4, .int .i64 s.turn, .bool s.g] GST := HB7.out.set 1 _
          have hg := HG7.out
          have n30 : New9 w w3 := H0.out.trans (HN3.out.mono (fun _ _ h => h.elim))
          exact ⟨hb6, T6.blk HR7.out (fun e => HPP.out.1 e.symm), ⟨hg.own.turns T6 (fun y hy e => (TS.of_owns hg.own).off HB7.out (by decide) (by rw [hy, e])), fun y hy => Nat.le_trans n30.size (hg.vb y hy), (n30.trans (hg.n.mono (fun _ _ h => h.elim))).trans (T6.mono (fun k _ hk => .inr (by rw [hk]; exact HPP.out.2.1)))⟩, HPP.out.2.1, HPP.out.2.2, HPP.out.1⟩)
        go_upto_region 18 with fail
        refine (show Code.wp _ _ _ _ (wc.setCell ⟨pb, 1, none⟩ (.slice a4 n4 c4)) from ?_)
        clear b0 b1 b2 b3 f0 f1 f2 f3
        generalize wc.setCell ⟨pb, 1, none⟩ (.slice a4 n4 c4) = w6 at *
        obtain ⟨⟨b0, b1, b2, b3⟩, _⟩ := fours HM6.out.bx
        obtain ⟨⟨r0, r1, r2, r3⟩, y0, y1, y2, y3⟩ := fours HM6.out.rb
        have hne := HM6.out.lo.2.2
        have hne' := hne.symm
        have HFI := Lib.hid (HM6.out.ret)
        go_wp2_with fail
        refine (show bodyPost _ _ _ _ _ (puts w6 pr 0 [.int .i64 s.most, .slice a4 n4 c4, .int .i64 s.turn, .bool s.g]) from ?_)
        clear b0 b1 b2 b3 r0 r1 r2 r3 y0 y1 y2 y3
        generalize puts w6 pr 0 [.int .i64 s.most, .slice a4 n4 c4, .int .i64 s.turn, .bool s.g] = w12 at *
        obtain ⟨⟨e0, e1, e2, e3⟩, _⟩ := fours HFI.out.1
        refine bodyPost_ret (v := .tuple #[.agg #[.int .i64 s.most, .slice a4 n4 c4, .int .i64 s.turn, .bool s.g], .int .i64 0]) (by simp [results, Try.results91, go_sem, e0, e1, e2, e3]) rfl ?_
        exact ⟨a4, n4, c4, rfl, HFI.out.2.1, HFI.out.2.2⟩
end Go.Proofs.Ytcppibjllaablaa.drr
