/-
  rtp: the reference's Head.
-/
import Derived.Test.YtijpgkkhjjpjoaaRpRefText
import Derived.IntWalk
namespace Go.Proofs.Ytijpgkkhjjpjoaa.rp
open Go.RowKit mem rd wr oref sq
set_option linter.unusedVariables false

abbrev QR : TypeId := 49
/-- what the reference's Text wants -/
structure T (p : P) : Prop where
  typ : 0 ≤ p.typ ∧ p.typ ≤ 127
  seq : 0 ≤ p.seq ∧ p.seq ≤ 65535
  time : 0 ≤ p.time ∧ p.time ≤ 4294967295
  ssrc : 0 ≤ p.ssrc ∧ p.ssrc ≤ 4294967295
  cs : ∀ x ∈ p.cs, 0 ≤ x ∧ x ≤ 4294967295
  csn : p.cs.length ≤ 15
  prof : 0 ≤ p.prof ∧ p.prof ≤ 65535
  pad : 0 ≤ p.pad ∧ p.pad ≤ 255
  data : p.data.size ≤ 1500
  pay : p.pay.size ≤ 1500

/-- eleven cells of a block, in a world in which nothing old has turned -/
def Held (w w' : World) (b : Nat) (a0 a1 a2 a3 a4 a5 a6 a7 a8 a9 a10 : Value) : Prop :=
  New w w' ∧ b < w'.heap.size ∧ w'.cell? ⟨b, 0, none⟩ = some a0 ∧ w'.cell? ⟨b, 1, none⟩ = some a1 ∧ w'.cell? ⟨b, 2, none⟩ = some a2 ∧ w'.cell? ⟨b, 3, none⟩ = some a3 ∧ w'.cell? ⟨b, 4, none⟩ = some a4 ∧ w'.cell? ⟨b, 5, none⟩ = some a5 ∧ w'.cell? ⟨b, 6, none⟩ = some a6 ∧ w'.cell? ⟨b, 7, none⟩ = some a7 ∧ w'.cell? ⟨b, 8, none⟩ = some a8 ∧ w'.cell? ⟨b, 9, none⟩ = some a9 ∧ w'.cell? ⟨b, 10, none⟩ = some a10
theorem held_of {w w' : World} {b : Nat} {a0 a1 a2 a3 a4 a5 a6 a7 a8 a9 a10 : Value} {t : TypeId} (hn : New w w') (h : Blk w' b #[a0, a1, a2, a3, a4, a5, a6, a7, a8, a9, a10] t) : Held w w' b a0 a1 a2 a3 a4 a5 a6 a7 a8 a9 a10 :=
  ⟨hn, h.lt, h.cell 0, h.cell 1, h.cell 2, h.cell 3, h.cell 4, h.cell 5, h.cell 6, h.cell 7, h.cell 8, h.cell 9, h.cell 10⟩
theorem held_nw {w w' : World} {b : Nat} {a0 a1 a2 a3 a4 a5 a6 a7 a8 a9 a10 : Value} (h : Held w w' b a0 a1 a2 a3 a4 a5 a6 a7 a8 a9 a10) : New w w' := h.1
theorem held_drew {w w' : World} {b : Nat} {a0 a1 a2 a3 a4 a5 a6 a7 a8 a9 a10 : Value} (h : Held w w' b a0 a1 a2 a3 a4 a5 a6 a7 a8 a9 a10) : Held w w'.drew b a0 a1 a2 a3 a4 a5 a6 a7 a8 a9 a10 := by
  obtain ⟨hn, hl, h0, h1, h2, h3, h4, h5, h6, h7, h8, h9, h10⟩ := h
  exact ⟨hn.drew, hl, h0, h1, h2, h3, h4, h5, h6, h7, h8, h9, h10⟩
theorem held_new {w w1 w2 : World} {b : Nat} {a0 a1 a2 a3 a4 a5 a6 a7 a8 a9 a10 : Value} (k : New w1 w2) (h : Held w w1 b a0 a1 a2 a3 a4 a5 a6 a7 a8 a9 a10) : Held w w2 b a0 a1 a2 a3 a4 a5 a6 a7 a8 a9 a10 := by
  obtain ⟨hn, hl, h0, h1, h2, h3, h4, h5, h6, h7, h8, h9, h10⟩ := h
  have c := fun i => k.cell (a := ⟨b, i, none⟩) hl (fun h => h)
  exact ⟨hn.trans (k.mono (fun _ _ h => h.elim)), Nat.lt_of_lt_of_le hl k.size, (c 0).trans h0, (c 1).trans h1, (c 2).trans h2, (c 3).trans h3, (c 4).trans h4, (c 5).trans h5, (c 6).trans h6, (c 7).trans h7, (c 8).trans h8, (c 9).trans h9, (c 10).trans h10⟩

theorem flat_take (f : Int → List UInt8) (cs : List Int) (k : Nat) (hk : k < cs.length) : (cs.take (k + 1)).flatMap f = (cs.take k).flatMap f ++ f (cs.getD k 0) := by
  rw [List.take_succ_eq_append_getElem hk, List.flatMap_append, List.flatMap_cons, List.flatMap_nil, List.append_nil]
  simp [List.getD, List.getElem?_eq_getElem hk]
theorem flat_take_len (cs : List Int) (k : Nat) (hk : k ≤ 15) : ((cs.take k).flatMap (be 4)).length ≤ 60 := by
  have : ∀ l : List Int, (l.flatMap (be 4)).length = 4 * l.length := by
    intro l; induction l with
    | nil => rfl
    | cons x l ih => rw [List.flatMap_cons, List.length_append, ih, be_length, List.length_cons]; omega
  rw [this, List.length_take]; omega

set_option maxRecDepth 100000 in
set_option maxHeartbeats 8000000 in
theorem rhead (p : P) (ht : T p) (a : Option Addr) (c : Nat) (w : World) (hr : Row w a p.cs) :
    Calls Try.prog 48 #[.agg (pc p (.slice a p.cs.length c))] w fun e w' => e = .returned (.string ⟨(tx1 p ++ txE p).toArray⟩) ∧ New w w' := by
  have hty := ht.typ
  have hseq := ht.seq
  have htime := ht.time
  have hssrc := ht.ssrc
  have hprof := ht.prof
  have hcsn := ht.csn
  have hda := ht.data
  have HCS := Lib.hid ht.cs
  have HT1 : Hid (tx1 p = be 1 (h1 p) ++ be 1 (h2 p) ++ be 2 p.seq ++ be 4 p.time ++ be 4 p.ssrc ++ p.cs.flatMap (be 4)) := Lib.hid rfl
  have HTE : Hid (txE p = if p.ext then be 2 p.prof ++ be 2 ((p.data.size / 4 : Nat) : Int) ++ p.data.data.toList else []) := Lib.hid rfl
  have HH1 : Hid (h1 p = 128 + (p.cs.length : Int) + bitI p.ext 16 + bitI (decide (0 < p.pad)) 32) := Lib.hid rfl
  have HH2 : Hid (h2 p = p.typ + bitI p.mrk 128) := Lib.hid rfl
  have HROW := Lib.hid hr
  clear hr ht
  generalize tx1 p = T1 at *
  generalize txE p = TE at *
  generalize h1 p = g1 at *
  generalize h2 p = g2 at *
  obtain ⟨mrk, typ, seq, time, ssrc, cs, ext, prof, data, pay, pad⟩ := p
  obtain ⟨D, rfl⟩ : ∃ l : List UInt8, data = ⟨l.toArray⟩ := ⟨_, (eta_mk data).symm⟩
  simp only [pc, size_mk] at *
  obtain ⟨n, hn⟩ : ∃ n, n = cs.length := ⟨_, rfl⟩
  rw [← hn] at HH1 hcsn ⊢
  have HNL := Lib.hid hn
  clear hn
  have B1 := Lib.hid (fun w => rbit (decide (0 < pad)) 32 w)
  have B2 := Lib.hid (fun w => rbit ext 16 w)
  have B3 := Lib.hid (fun w => rbit mrk 128 w)
  have b1 := bitI_bd (decide (0 < pad)) 32 (by omega)
  have b2 := bitI_bd ext 16 (by omega)
  have b3 := bitI_bd mrk 128 (by omega)
  generalize bitI (decide (0 < pad)) 32 = x1 at *
  generalize bitI ext 16 = x2 at *
  generalize bitI mrk 128 = x3 at *
  obtain ⟨b11, b12⟩ := b1
  obtain ⟨b21, b22⟩ := b2
  obtain ⟨b31, b32⟩ := b3
  have hA1 : g1 = 128 + x1 + x2 + (n : Int) := by rw [HH1.out]; omega
  have hA2 : g2 = x3 + typ := by rw [HH2.out]; omega
  have R1 := Lib.hid (fun w => rnum1 (128 + x1 + x2 + (n : Int)) (by omega) (by omega) w)
  have R2 := Lib.hid (fun w => rnum1 (x3 + typ) (by omega) (by omega) w)
  have R3 := Lib.hid (fun w => rnum2 seq (by omega) (by omega) w)
  have R4 := Lib.hid (fun w => rnum4 time (by omega) (by omega) w)
  have R5 := Lib.hid (fun w => rnum4 ssrc (by omega) (by omega) w)
  have R6 := Lib.hid (fun w => rnum2 prof (by omega) (by omega) w)
  have l1 := be_length 1 (128 + x1 + x2 + (n : Int))
  have l2 := be_length 1 (x3 + typ)
  have l3 := be_length 2 seq
  have l4 := be_length 4 time
  have l5 := be_length 4 ssrc
  have l6 := be_length 2 prof
  rw [hA1, hA2] at HT1
  clear hA1 hA2 HH1 HH2
  generalize be 1 (128 + x1 + x2 + (n : Int)) = L1 at *
  generalize be 1 (x3 + typ) = L2 at *
  generalize be 2 seq = L3 at *
  generalize be 4 time = L4 at *
  generalize be 4 ssrc = L5 at *
  generalize be 2 prof = L6 at *
  have m1 : L1.length ≤ 8 := by omega
  have m2 : L2.length ≤ 8 := by omega
  have m3 : L3.length ≤ 8 := by omega
  have m4 : L4.length ≤ 8 := by omega
  have m5 : L5.length ≤ 8 := by omega
  have m6 : L6.length ≤ 8 := by omega
  clear l1 l2 l3 l4 l5 l6
  have HE := Lib.hid (held_of (((Turns.refl (fun _ => False) w).alloc (.cells #[.bool mrk, .int .u8 typ, .int .u16 seq, .int .u32 time, .int .u32 ssrc, .slice a n c, .bool ext, .int .u16 prof, .string ⟨D.toArray⟩, .string pay, .int .i64 pad] QR))) (Blk.new w #[.bool mrk, .int .u8 typ, .int .u16 seq, .int .u32 time, .int .u32 ssrc, .slice a n c, .bool ext, .int .u16 prof, .string ⟨D.toArray⟩, .string pay, .int .i64 pad] QR))
  go_enter Try.func48, Try.ntmps48
  go_upto_region 1 with fail
  generalize w.alloc (.cells #[.bool mrk, .int .u8 typ, .int .u16 seq, .int .u32 time, .int .u32 ssrc, .slice a n c, .bool ext, .int .u16 prof, .string ⟨D.toArray⟩, .string pay, .int .i64 pad] QR) = w1 at *
  obtain ⟨pd, hpd⟩ : ∃ x, x = w.heap.size := ⟨_, rfl⟩
  rw [← hpd] at HE ⊢
  have hplt : w.heap.size ≤ pd := by omega
  clear hpd
  go_cut [3] (fun v wx => v = .string ⟨(L1 ++ L2).toArray⟩ ∧ Held w wx pd (.bool mrk) (.int .u8 typ) (.int .u16 seq) (.int .u32 time) (.int .u32 ssrc) (.slice a n c) (.bool ext) (.int .u16 prof) (.string ⟨D.toArray⟩) (.string pay) (.int .i64 pad))
  case first =>
    have hh := HE.out
    have z1 : (9223372036854775807 < L1.length + L2.length) = False := by simp; omega
    have s1 : IntKind.i64.wrap (128 + x1) = 128 + x1 := IntWalk.i64_in _ (by omega)
    have s2 : IntKind.i64.wrap (128 + x1 + x2) = 128 + x1 + x2 := IntWalk.i64_in _ (by omega)
    have s3 : IntKind.i64.wrap (128 + x1 + x2 + (n : Int)) = 128 + x1 + x2 + (n : Int) := IntWalk.i64_in _ (by omega)
    have s4 : IntKind.u64.wrap (128 + x1 + x2 + (n : Int)) = 128 + x1 + x2 + (n : Int) := by rw [IntKind.wrap_u64]; omega
    have s6 : IntKind.i64.wrap (x3 + typ) = x3 + typ := IntWalk.i64_in _ (by omega)
    have s7 : IntKind.u64.wrap (x3 + typ) = x3 + typ := by rw [IntKind.wrap_u64]; omega
    have s5 : IntKind.i64.wrap typ = typ := IntWalk.i64_in _ (by omega)
    clear HT1 HTE HCS HROW HNL HE R3 R4 R5 R6
    go_region_held3 (fun w' => New w w' ∧ pd < w'.heap.size ∧ w'.cell? ⟨pd, 0, none⟩ = some (.bool mrk) ∧ w'.cell? ⟨pd, 1, none⟩ = some (.int .u8 typ) ∧ w'.cell? ⟨pd, 2, none⟩ = some (.int .u16 seq) ∧ w'.cell? ⟨pd, 3, none⟩ = some (.int .u32 time) ∧ w'.cell? ⟨pd, 4, none⟩ = some (.int .u32 ssrc) ∧ w'.cell? ⟨pd, 5, none⟩ = some (.slice a n c) ∧ w'.cell? ⟨pd, 6, none⟩ = some (.bool ext) ∧ w'.cell? ⟨pd, 7, none⟩ = some (.int .u16 prof) ∧ w'.cell? ⟨pd, 8, none⟩ = some (.string ⟨D.toArray⟩) ∧ w'.cell? ⟨pd, 9, none⟩ = some (.string pay) ∧ w'.cell? ⟨pd, 10, none⟩ = some (.int .i64 pad)) (first | assumption | (refine held_drew ?_; assumption) | (refine held_new (by assumption) (by assumption)))
      (first
        | (go_at_call 58; (first | (with_reducible refine Calls.mono (B1.out _) ?_) | (with_reducible refine Calls.mono (B2.out _) ?_) | (with_reducible refine Calls.mono (B3.out _) ?_)); rintro en wq ⟨rfl, rfl⟩)
        | (go_at_call 49; (first | (with_reducible refine Calls.mono (R1.out _) ?_) | (with_reducible refine Calls.mono (R2.out _) ?_)); rintro en wq ⟨rfl, hnq⟩))
    all_goals
      go_wp2_with fail
      go_meet
      case rel => exact ⟨congrArg Value.string (cat_mk L1 L2), by assumption⟩
  case rest =>
    obtain ⟨rfl, hh2⟩ := hcut
    obtain ⟨Y1, hY1⟩ : ∃ Y : List UInt8, Y = L1 ++ L2 := ⟨_, rfl⟩
    have y1 : Y1.length ≤ 16 := by rw [hY1, List.length_append]; omega
    rw [← hY1] at HT1 ⊢
    clear hY1 HE
    go_upto_region 2 with fail
    go_cut [3] (fun v wx => v = .string ⟨(Y1 ++ (L3 ++ L4 ++ L5)).toArray⟩ ∧ Held w wx pd (.bool mrk) (.int .u8 typ) (.int .u16 seq) (.int .u32 time) (.int .u32 ssrc) (.slice a n c) (.bool ext) (.int .u16 prof) (.string ⟨D.toArray⟩) (.string pay) (.int .i64 pad))
    case first =>
      have hh := hh2
      have z1 : (9223372036854775807 < L3.length + L4.length) = False := by simp; omega
      have z2 : (9223372036854775807 < L3.length + L4.length + L5.length) = False := by simp; omega
      have z3 : (9223372036854775807 < Y1.length + (L3.length + L4.length + L5.length)) = False := by simp; omega
      have s1 : IntKind.u64.wrap seq = seq := by rw [IntKind.wrap_u64]; omega
      have s2 : IntKind.u64.wrap time = time := by rw [IntKind.wrap_u64]; omega
      have s3 : IntKind.u64.wrap ssrc = ssrc := by rw [IntKind.wrap_u64]; omega
      clear HT1 HTE HCS HROW HNL R1 R2 R6 B1 B2 B3
      go_region_held3 (fun w' => New w w' ∧ pd < w'.heap.size ∧ w'.cell? ⟨pd, 0, none⟩ = some (.bool mrk) ∧ w'.cell? ⟨pd, 1, none⟩ = some (.int .u8 typ) ∧ w'.cell? ⟨pd, 2, none⟩ = some (.int .u16 seq) ∧ w'.cell? ⟨pd, 3, none⟩ = some (.int .u32 time) ∧ w'.cell? ⟨pd, 4, none⟩ = some (.int .u32 ssrc) ∧ w'.cell? ⟨pd, 5, none⟩ = some (.slice a n c) ∧ w'.cell? ⟨pd, 6, none⟩ = some (.bool ext) ∧ w'.cell? ⟨pd, 7, none⟩ = some (.int .u16 prof) ∧ w'.cell? ⟨pd, 8, none⟩ = some (.string ⟨D.toArray⟩) ∧ w'.cell? ⟨pd, 9, none⟩ = some (.string pay) ∧ w'.cell? ⟨pd, 10, none⟩ = some (.int .i64 pad)) (first | assumption | (refine held_drew ?_; assumption) | (refine held_new (by assumption) (by assumption)))
        (first
          | (go_at_call 49; (first | (with_reducible refine Calls.mono (R3.out _) ?_) | (with_reducible refine Calls.mono (R4.out _) ?_) | (with_reducible refine Calls.mono (R5.out _) ?_)); rintro en wq ⟨rfl, hnq⟩))
      all_goals
        go_wp2_with fail
        go_meet
        case rel => exact ⟨congrArg Value.string (by simp only [cat_mk]), by assumption⟩
    case rest =>
      obtain ⟨rfl, hh3⟩ := hcut
      obtain ⟨Y, hY⟩ : ∃ Y : List UInt8, Y = Y1 ++ (L3 ++ L4 ++ L5) := ⟨_, rfl⟩
      have y2 : Y.length ≤ 40 := by rw [hY]; simp only [List.length_append]; omega
      rw [← hY]
      have HT2 : Hid (T1 = Y ++ cs.flatMap (be 4)) := Lib.hid (by rw [HT1.out, hY]; simp only [List.append_assoc])
      clear hY HT1 R1 R2 R3 R4 R5 B1 B2 B3 hh2 m1 m2 m3 m4 m5 y1
      have HH3 := Lib.hid hh3
      obtain ⟨hn3, hl3, c0, c1, c2, c3, c4, c5, c6, c7, c8, c9, c10⟩ := hh3
      go_wp2_with fail
      go_loopw [3, 50] (fun v i wr => ∃ k : Nat, k ≤ n ∧ i = .int .i64 k ∧ v = .string ⟨(Y ++ (cs.take k).flatMap (be 4)).toArray⟩ ∧ Held w wr pd (.bool mrk) (.int .u8 typ) (.int .u16 seq) (.int .u32 time) (.int .u32 ssrc) (.slice a n c) (.bool ext) (.int .u16 prof) (.string ⟨D.toArray⟩) (.string pay) (.int .i64 pad)) (fun _ i _ => n - (intOf i).toNat)
      case atStart => exact ⟨0, Nat.zero_le _, rfl, by simp, HH3.out⟩
      case round =>
        obtain ⟨k, hk, rfl, rfl, hh⟩ := hrel
        clear HH3 hn3 hl3 c0 c1 c2 c3 c4 c5 c6 c7 c8 c9 c10
        have hfl := flat_take_len cs k (by omega)
        by_cases hlt : k < n
        · have hkl : k < cs.length := by rw [← HNL.out]; exact hlt
          obtain ⟨B, off, rfl, hB, hcell⟩ := HROW.out.resolve_left (by omega)
          have hck : wr.cell? ⟨B, off + k, none⟩ = some (.int .u32 (cs.getD k 0)) := (hh.1.cell (a := ⟨B, off + k, none⟩) hB (fun h => h)).trans (hcell k hkl)
          have hz : 0 ≤ cs.getD k 0 ∧ cs.getD k 0 ≤ 4294967295 := HCS.out _ (by simp [List.getD, List.getElem?_eq_getElem hkl])
          obtain ⟨hz0, hz1⟩ := hz
          have HF := Lib.hid (flat_take (be 4) cs k hkl)
          have R := Lib.hid (fun w => rnum4 (cs.getD k 0) hz0 (by omega) w)
          have ll := be_length 4 (cs.getD k 0)
          obtain ⟨G, hG⟩ : ∃ G, G = Y ++ (cs.take k).flatMap (be 4) := ⟨_, rfl⟩
          have g1 : G.length ≤ 100 := by rw [hG, List.length_append]; omega
          rw [← hG]
          have HG := Lib.hid hG
          clear hG hcell
          generalize be 4 (cs.getD k 0) = Lz at *
          generalize cs.getD k 0 = z at *
          have ml : Lz.length ≤ 8 := by omega
          have zz : (9223372036854775807 < G.length + Lz.length) = False := by simp; omega
          clear ll HTE HCS HT2 HROW hkl hfl
          have HH := Lib.hid hh
          have s2 : IntKind.u64.wrap z = z := by rw [IntKind.wrap_u64]; omega
          obtain ⟨hn4, hl4, c0, c1, c2, c3, c4, c5, c6, c7, c8, c9, c10⟩ := hh
          go_wp2_with (go_at_call 49; (with_reducible refine Calls.mono (R.out _) ?_); rintro e w' ⟨rfl, hnq⟩)
          clear s2
          go_roundw
          case rel => exact ⟨k + 1, by omega, by go_num, by rw [HF.out, ← List.append_assoc, ← HG.out]; exact congrArg Value.string (cat_mk G Lz), held_new hnq HH.out⟩
          case measure => simp [intOf]; omega
        · obtain rfl : k = n := by omega
          have hT : Y ++ (cs.take k).flatMap (be 4) = T1 := by rw [HT2.out, HNL.out, List.take_length]
          rw [hT]
          have t1 : T1.length ≤ 100 := by rw [← hT, List.length_append]; omega
          clear hT HT2 HCS HROW HNL hfl hlt
          have HH := Lib.hid hh
          obtain ⟨hn4, hl4, c0, c1, c2, c3, c4, c5, c6, c7, c8, c9, c10⟩ := hh
          cases ext
          · rw [if_neg (by simp)] at HTE
            go_wp2_with fail
            go_ret
            exact ⟨by rw [HTE.out, List.append_nil]; rfl, HH.out.1⟩
          · rw [if_pos rfl] at HTE
            obtain ⟨j, hj⟩ : ∃ j : Nat, j = D.length / 4 := ⟨_, rfl⟩
            have hk1 : (D.length : Int) / 4 = (j : Int) := by omega
            have hk2 : (D.length : Int).tdiv 4 = (j : Int) := by rw [Int.tdiv_eq_ediv_of_nonneg (by omega)]; omega
            have hk4 : IntKind.i64.wrap (j : Int) = (j : Int) := IntWalk.i64_in _ (by omega)
            have hk5 : IntKind.u64.wrap (j : Int) = (j : Int) := by rw [IntKind.wrap_u64]; omega
            have s1 : IntKind.u64.wrap prof = prof := by rw [IntKind.wrap_u64]; omega
            rw [← hj] at HTE
            have R7 := Lib.hid (fun w => rnum2 (j : Int) (by omega) (by omega) w)
            have l7 := be_length 2 (j : Int)
            generalize be 2 (j : Int) = L7 at *
            have m7 : L7.length ≤ 8 := by omega
            clear l7 hj
            have z1 : (9223372036854775807 < L6.length + L7.length) = False := by simp; omega
            have z2 : (9223372036854775807 < L6.length + L7.length + D.length) = False := by simp; omega
            have z3 : (9223372036854775807 < T1.length + (L6.length + L7.length + D.length)) = False := by simp; omega
            have hh := HH.out
            go_wp2_with fail
            go_region_held3 (fun w' => New w w' ∧ pd < w'.heap.size ∧ w'.cell? ⟨pd, 0, none⟩ = some (.bool mrk) ∧ w'.cell? ⟨pd, 1, none⟩ = some (.int .u8 typ) ∧ w'.cell? ⟨pd, 2, none⟩ = some (.int .u16 seq) ∧ w'.cell? ⟨pd, 3, none⟩ = some (.int .u32 time) ∧ w'.cell? ⟨pd, 4, none⟩ = some (.int .u32 ssrc) ∧ w'.cell? ⟨pd, 5, none⟩ = some (.slice a k c) ∧ w'.cell? ⟨pd, 6, none⟩ = some (.bool true) ∧ w'.cell? ⟨pd, 7, none⟩ = some (.int .u16 prof) ∧ w'.cell? ⟨pd, 8, none⟩ = some (.string ⟨D.toArray⟩) ∧ w'.cell? ⟨pd, 9, none⟩ = some (.string pay) ∧ w'.cell? ⟨pd, 10, none⟩ = some (.int .i64 pad)) (first | assumption | (refine held_drew ?_; assumption) | (refine held_new (by assumption) (by assumption)))
              (first
                | (go_at_call 49; (first | (with_reducible refine Calls.mono (R6.out _) ?_) | (with_reducible refine Calls.mono (R7.out _) ?_)); rintro en wq ⟨rfl, hnq⟩))
            all_goals
              rename_i hHl
              have hnew : New w _ := hHl.1
              go_wp2_with fail
              go_ret
              exact ⟨congrArg (fun x => Ending.returned (Value.string x)) (by rw [HTE.out, cat_mk, cat_mk, cat_mk]), hnew⟩
end Go.Proofs.Ytijpgkkhjjpjoaa.rp
