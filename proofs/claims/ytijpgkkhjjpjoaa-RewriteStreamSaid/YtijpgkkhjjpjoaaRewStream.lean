/-
  RewriteStream: STREAM: numbers that rise by one, times that never fall.
-/
import Derived.Test.YtijpgkkhjjpjoaaRewStreamM
import Derived.Test.YtijpgkkhjjpjoaaRowsG2
import Derived.Deep.QuietTactic
import Derived.BigQuiet
namespace Go.Proofs.Ytijpgkkhjjpjoaa.rew
open Go.RowKit mem
open Go.Proofs.Ytijpgkkhjjpjoaa.args (Wact StrsAt)
set_option linter.unusedVariables false

abbrev HeldN (w' : World) (p1 o1 p2 o2 : Nat) (x1 x2 : Value) : Prop :=
  p1 < w'.heap.size ∧ p2 < w'.heap.size ∧ w'.cell? ⟨p1, o1, none⟩ = some x1 ∧ w'.cell? ⟨p2, o2, none⟩ = some x2
section
variable {w1 w2 : World} {p1 o1 p2 o2 : Nat} {x1 x2 : Value}
theorem heldN_drew (h : HeldN w1 p1 o1 p2 o2 x1 x2) : HeldN w1.drew p1 o1 p2 o2 x1 x2 := h
theorem heldN_turns {S : Nat → Prop} (k : Turns S w1 w2) (h1 : ¬ S p1) (h2 : ¬ S p2) (h : HeldN w1 p1 o1 p2 o2 x1 x2) : HeldN w2 p1 o1 p2 o2 x1 x2 := by
  obtain ⟨hl, hb, a1, a2⟩ := h
  exact ⟨Nat.lt_of_lt_of_le hl k.size, Nat.lt_of_lt_of_le hb k.size, (k.cell (a := ⟨p1, o1, none⟩) hl h1).trans a1, (k.cell (a := ⟨p2, o2, none⟩) hb h2).trans a2⟩
end

/-- what the first loop holds -/
structure Sp (w wr : World) (k p : Nat) (T sq : Int) (v : Value) (ks : List K) (o : O) : Prop where
  t0 : 4294900000 - 65535 * (k : Int) ≤ T
  t1 : T ≤ 4294900000 + 65535 * (k : Int)
  d : Sd (4294900000 - 65535 * (k : Int)) (4294900000 + 65535 * (k : Int)) sq ks o
  len : ks.length ≤ 4 * k
  b : Bd o k (4 * k)
  s : Ot wr p o
  own : Owns KE KT wr v ks
  ne : ∀ g, v.ownBlock = some g → w.heap.size ≤ g ∧ g ≠ p
  n : New w wr

set_option maxHeartbeats 2000000 in
set_option maxRecDepth 100000 in
theorem stream_law (sq : Int) (a : Option Addr) (n c : Nat) (z : Nat → Wact) (w : World) (sq0 : 0 ≤ sq) (sq1 : sq ≤ 65535) (hz : args.wactRow w a n c z) :
    Calls Try.prog 4 #[.int .u16 sq, .slice a n c] w fun e w' => e = .returned (.bool true) ∧ Below w.heap.size w w' := by
  obtain ⟨hn, hwf, hcell⟩ := hz
  unfold maxLen at hn
  have HW := Lib.hid hwf
  have HC := Lib.hid hcell
  clear hwf hcell
  have HN := Lib.hid (fun w => new true 7 96 sq w (by decide))
  go_enter Try.func4, Try.ntmps4
  go_wp2_with fail
  refine (awake w).mono ?_
  rintro e w1 ⟨rfl, h1⟩
  have N1 := Lib.hid h1
  clear h1
  go_wp2_with fail
  refine (HN.out _).mono ?_
  rintro e w2 ⟨rfl, h2, n2⟩
  have hle : w.heap.size ≤ w1.heap.size := N1.out.size
  have HK0 : Hid (Sp w w2 0 w1.heap.size 4294900000 sq (.slice none 0 0) [] (fresh true 7 96 sq)) := Lib.hid
    ⟨by omega, by omega, ⟨⟨fun i x h => by simp at h, fun i x y h => by simp at h⟩, rfl, rfl, rfl, by show sq = (sq + 0) % 65536; omega, Int.le_refl 0, fun _ => rfl, fun h => absurd rfl h⟩, Nat.zero_le _, fresh_bd _ _ _ _ sq0 sq1, h2, Owns.nil _ _, (fun g h => by cases h), N1.out.trans (n2.mono (fun _ _ h => h.elim))⟩
  clear n2 HN h2
  generalize w1.heap.size = p at *
  clear N1
  go_wp2_with fail
  go_loopw [6, 7, 8] (fun al tm i wr => ∃ k : Nat, ∃ T : Int, ∃ ks : List K, ∃ o : O, k ≤ n ∧ k ≤ 80 ∧ tm = .int .i64 T ∧ i = .int .i64 k ∧ Sp w wr k p T sq al ks o) (fun _ _ i _ => n - (intOf i).toNat)
  case atStart => exact ⟨0, _, _, _, Nat.zero_le _, by omega, rfl, rfl, HK0.out⟩
  case round =>
    obtain ⟨k, T, ks, o, hk, hk80, rfl, rfl, hsp⟩ := hrel
    clear HK0
    by_cases hgo : k < n ∧ k < 80
    · obtain ⟨hlt, hlt2⟩ := hgo
      obtain ⟨b, off, rfl, hb, hcell⟩ := HC.out.resolve_left (by omega)
      obtain ⟨c0, c1, c2, c3⟩ := hcell k hlt
      obtain ⟨_, _, hstr⟩ := HW.out k hlt
      have hnw := hsp.n
      have r0 := (hnw.cell hb (fun h => h)).trans c0
      have r1 := (hnw.cell (a := ⟨b, off + k * 4 + 1, none⟩) hb (fun h => h)).trans c1
      have r2 := (hnw.cell (a := ⟨b, off + k * 4 + 2, none⟩) hb (fun h => h)).trans c2
      have r3 := (hnw.cell (a := ⟨b, off + k * 4 + 3, none⟩) hb (fun h => h)).trans c3
      have hstr2 : ∀ w', New w w' → StrsAt w' (z k).ta (z k).tn (z k).tz := fun w' hw' => by
        obtain ⟨s1, s2, s3⟩ := hstr
        refine ⟨s1, s2, ?_⟩
        rcases s3 with s3 | ⟨b', off', e, hb', hc'⟩
        · exact .inl s3
        · exact .inr ⟨b', off', e, Nat.lt_of_lt_of_le hb' hw'.size, fun i hi => (hw'.cell (a := ⟨b', off' + i, none⟩) hb' (fun h => h)).trans (hc' i hi)⟩
      have hT0 := hsp.t0
      have hT1 := hsp.t1
      have hbd := later_bd T (z k) (by omega)
      have HLT := Lib.hid (fun w => later T (z k) w (by omega) (by omega))
      have hlo : T - 65535 ≤ laterV T (z k) := by unfold laterV; split <;> omega
      have HMD := Lib.hid (fun w' hw' => made (z k) (laterV T (z k)) w' (hstr2 w' hw'))
      have hbp : b ≠ p := by omega
      have hbl : b < wr.heap.size := Nat.lt_of_lt_of_le hb hnw.size
      have HS := Lib.hid hsp
      clear hcell HC HW c0 c1 c2 c3 hstr hstr2 hsp hnw
      generalize z k = y at *
      generalize laterV T y = T' at *
      have kn : (k : Int) < (n : Int) := by omega
      have k0 : (0 : Int) ≤ (k : Int) := by omega
      have hd : decide ((k : Int) < 80) = true := by simp; omega
      go_wp2_with fail
      refine (HLT.out _).mono ?_
      rintro e w3 ⟨rfl, n3⟩
      have q0 := (n3.cell (a := ⟨b, off + k * 4, none⟩) hbl (fun h => h)).trans r0
      have q1 := (n3.cell (a := ⟨b, off + k * 4 + 1, none⟩) hbl (fun h => h)).trans r1
      have q2 := (n3.cell (a := ⟨b, off + k * 4 + 2, none⟩) hbl (fun h => h)).trans r2
      have q3 := (n3.cell (a := ⟨b, off + k * 4 + 3, none⟩) hbl (fun h => h)).trans r3
      have hbl3 : b < w3.heap.size := Nat.lt_of_lt_of_le hbl n3.size
      clear r0 r1 r2 r3 HLT
      go_wp2_with fail
      refine (HMD.out _ (HS.out.n.trans (n3.mono (fun _ _ h => h.elim)))).mono ?_
      rintro e w4 ⟨v1, v2, rfl, o1, o2, b1, b2, n4⟩
      have r0 := (n4.cell (a := ⟨b, off + k * 4, none⟩) hbl3 (fun h => h)).trans q0
      have hmt := made_t y T' (min y.tn 4)
      have hmem := made_mem y T' (min y.tn 4)
      have hlen := madeL_len y T' (min y.tn 4)
      obtain ⟨ao1, cc1, rfl, _, rd1, ob1⟩ := o1.form
      have hN4 : (madeL y T' (min y.tn 4)).length ≤ 4 := by rw [hlen]; omega
      have hbl4 : b < w4.heap.size := Nat.lt_of_lt_of_le hbl3 n4.size
      clear hlen o1 o2 b2 HMD q0 q1 q2 q3
      generalize madeL y T' (min y.tn 4) = L at *
      obtain ⟨N, hN⟩ : ∃ N, L.length = N := ⟨_, rfl⟩
      rw [hN] at hN4
      have n14 : New wr w4 := n3.trans (n4.mono (fun _ _ h => h.elim))
      have n15 : New wr (w4.alloc (.cells #[.slice ao1 N cc1] FT)) := n14.alloc _
      have O5 := HS.out.s.turns n15 (fun h => h)
      have own5 := HS.out.own.turns n15 (fun _ _ h => h)
      have rd5 := rd1.turns ((Turns.refl (fun _ => False) w4).alloc (.cells #[.slice ao1 N cc1] FT)) (fun _ _ h => h)
      have bf5 : Blk (w4.alloc (.cells #[.slice ao1 N cc1] FT)) w4.heap.size #[.slice ao1 N cc1] FT := Blk.new _ _ _
      have r5 : (w4.alloc (.cells #[.slice ao1 N cc1] FT)).cell? ⟨b, off + k * 4, none⟩ = some (.int .i64 y.src) := (World.cell?_alloc_lt _ _ _ hbl4).trans r0
      have hpw := HS.out.s.lt
      have hpf : w4.heap.size ≠ p := by have := n14.size; omega
      have hg1 : ∀ g, ao1 = some ⟨g, 0, none⟩ → g ≠ p := fun g hg => by have := b1 g (ob1 g hg); have := n3.size; omega
      have hvf : ¬ some w4.heap.size = u6.ownBlock := fun e => by have := HS.out.own.lt _ e.symm; have := n14.size; omega
      have hvb : ¬ some b = u6.ownBlock := fun e => by have := (HS.out.ne b e.symm).1; omega
      have hvp : ¬ some p = u6.ownBlock := fun e => (HS.out.ne p e.symm).2 rfl
      have N5 := Lib.hid n15
      have HN3 := Lib.hid hN
      clear rd1 ob1 b1 n3 n4 n14 n15 r0
      rw [hN]
      go_upto_region 11 with fail
      generalize w4.alloc (.cells #[.slice ao1 N cc1] FT) = w5 at *
      generalize w4.heap.size = pf at *
      have f0 : w5.cell? ⟨pf, 0, none⟩ = some (.slice ao1 N cc1) := bf5.cell 0
      have HFR := Lib.hid (fun w h r => frame p o y.src ao1 cc1 L k (4 * k) w h HS.out.b (by omega) (by omega) (by omega) hmem r hg1)
      rw [hN] at HFR
      have HD := Lib.hid (And.intro O5 (And.intro rd5 own5))
      have HB6 := Lib.hid ((HS.out.b.frame y.src L hmem).mono (Nat.le_refl (k + 1)) (show 4 * k + L.length ≤ 4 * (k + 1) by omega))
      have HSD := Lib.hid (sd_frame (lo' := 4294900000 - 65535 * ((k + 1 : Nat) : Int)) (hi' := 4294900000 + 65535 * ((k + 1 : Nat) : Int)) HS.out.d sq0 y.src L T' hmt (by omega) (by omega) (by omega) (by omega) (by omega) (by omega) HS.out.b.q0 HS.out.b.q1)
      have HL6 : Hid ((ks ++ frameK o y.src L).length ≤ 4 * (k + 1) ∧ ks.length + (frameK o y.src L).length ≤ 1048576) := Lib.hid (by rw [List.length_append, frameK_len]; have := HS.out.len; omega)
      have hbf := bf5.lt
      have hbl5 : b < w5.heap.size := World.block_lt_of_cell? _ _ r5
      have hh : HeldN w5 b (off + k * 4) pf 0 (.int .i64 y.src) (.slice ao1 N cc1) := ⟨hbl5, hbf, r5, f0⟩
      have HNE := Lib.hid HS.out.ne
      have HNW := Lib.hid HS.out.n
      clear O5 rd5 own5 bf5 hmem hmt hg1 HS
      generalize frameO o y.src L = o' at *
      generalize frameK o y.src L = KK at *
      go_region_held3 (fun w' => b < w'.heap.size ∧ pf < w'.heap.size ∧ w'.cell? ⟨b, off + k * 4, none⟩ = some (.int .i64 y.src) ∧ w'.cell? ⟨pf, 0, none⟩ = some (.slice ao1 N cc1))
        (first
          | (with_reducible assumption)
          | ((with_reducible refine heldN_drew ?_); with_reducible assumption)
          | ((with_reducible apply heldN_turns (Turns.of_grown hgrow) hvb hvf); with_reducible assumption)
          | ((with_reducible apply heldN_turns haq.2 hbp hpf); with_reducible assumption))
        (first
          | (go_at_call 11; (with_reducible refine Calls.mono (HFR.out _ ?_ ?_) ?_); (focus ((repeat (with_reducible apply Ot.drew)); exact HD.out.1)); (focus (exact HD.out.2.1)); rintro en wq ⟨vv, rfl, hoq, hbq, haq⟩)
          | (refine step_append_owns (E := KE) Try.underlying40 infoK rfl (by decide) (by decide) (by rfl) _ _ (by rfl) u6 vv ks KK (by rfl) (by rfl) (HD.out.2.2.turns (Turns.of_drew haq.2) (fun g hg e => hvp (by rw [hg, e]))) hoq HL6.out.2 ?_; intro v' w8 hown hgrow hat))
      have hSP : Sp w w8 (k + 1) p T' sq v' (ks ++ KK) o' := by
        have n6 : New w wq := new_at (HNW.out.trans (N5.out.mono (fun _ _ h => h.elim))) ⟨haq.1, Turns.of_drew haq.2⟩ hle
        have h8 := Turns.of_grown hgrow
        refine ⟨by omega, by omega, HSD.out, HL6.out.1, HB6.out, haq.1.turns h8 hvp, hown, fun g hg => ?_, n6.trans (h8.mono (fun j _ hj => .inr (HNE.out j hj.symm).1))⟩
        rcases hat with e | e
        · exact HNE.out g (e ▸ hg)
        · rw [e] at hg; injection hg with hg; subst hg
          exact ⟨n6.size, by have := HD.out.1.lt; have := haq.2.size; have : w5.drew.heap.size = w5.heap.size := rfl; omega⟩
      have HSP := Lib.hid hSP
      clear hSP hown hgrow hat hoq hbq haq hh HFR HD HB6 HSD HL6 HNE HNW N5
      go_wp2
      go_roundw
      case rel => exact ⟨k + 1, T', _, _, by omega, by omega, rfl, by go_num, HSP.out⟩
      case measure => simp [intOf]; omega
    · have hg := hsp.d.g
      have hlen := hsp.len
      obtain ⟨ao, cc, hv, hcap, rd, hob⟩ := hsp.own.form
      clear hcap hob
      have HNW := Lib.hid hsp.n
      have HG := Lib.hid hg
      have HRD := Lib.hid rd
      clear HC HW hg rd
      obtain ⟨m, hm⟩ : ∃ m, ks.length = m := ⟨_, rfl⟩
      rw [hm] at hv hlen
      have HM := Lib.hid hm
      subst hv
      clear hsp hm
      have hcase : (k : Int) < n ∧ ¬ (k : Int) < 80 ∨ ¬ (k : Int) < n := by omega
      go_upto_region 7 with fail
      rcases hcase with ⟨hca, hcb⟩ | hca
      all_goals
        go_wp2_with fail
        go_loopw [54] (fun idx w' => ∃ j : Nat, j ≤ m ∧ idx = .int .i64 j ∧ New wr w') (fun idx _ => m - (intOf idx).toNat)
        case atStart => exact ⟨0, Nat.zero_le _, rfl, Turns.refl _ _⟩
        case round =>
          obtain ⟨j, hj, rfl, hn2⟩ := hrel
          by_cases hjm : j < m
          · have hju : j < ks.length := by rw [HM.out]; exact hjm
            obtain ⟨x, hx⟩ : ∃ x, ks[j]? = some x := ⟨ks[j], List.getElem?_eq_getElem hju⟩
            rcases HRD.out.turns hn2 (fun _ _ h => h) with hxx | ⟨g, rfl, hgl, hc⟩
            · rw [hxx] at hju; simp at hju
            have hcc := hc j x hx
            have hgd := HG.out.each j x hx
            have e0 : wr.cell? ⟨g, j * 11, none⟩ = some (.bool x.mr) := hcc 0 _ rfl
            have e1 : wr.cell? ⟨g, j * 11 + 1, none⟩ = some (.int .u8 x.kind) := hcc 1 _ rfl
            have e2 : wr.cell? ⟨g, j * 11 + 2, none⟩ = some (.int .u16 x.seq) := hcc 2 _ rfl
            have e3 : wr.cell? ⟨g, j * 11 + 3, none⟩ = some (.int .u32 x.time) := hcc 3 _ rfl
            have e4 : wr.cell? ⟨g, j * 11 + 4, none⟩ = some (.int .u32 x.ssrc) := hcc 4 _ rfl
            have e5 : wr.cell? ⟨g, j * 11 + 5, none⟩ = some (.slice none 0 0) := hcc 5 _ rfl
            have e6 : wr.cell? ⟨g, j * 11 + 6, none⟩ = some (.bool false) := hcc 6 _ rfl
            have e7 : wr.cell? ⟨g, j * 11 + 7, none⟩ = some (.int .u16 0) := hcc 7 _ rfl
            have e8 : wr.cell? ⟨g, j * 11 + 8, none⟩ = some (.string ⟨#[]⟩) := hcc 8 _ rfl
            have e9 : wr.cell? ⟨g, j * 11 + 9, none⟩ = some (.string x.x) := hcc 9 _ rfl
            have e10 : wr.cell? ⟨g, j * 11 + 10, none⟩ = some (.int .i64 0) := hcc 10 _ rfl
            obtain ⟨g1, g2, g3, g4, g5⟩ := hgd
            rw [g1] at e4
            rw [g2] at e1
            rw [g3] at e2
            have jn : (j : Int) < (m : Int) := by omega
            have j0 : (0 : Int) ≤ (j : Int) := by omega
            have j1 : (j : Int) < 65536 := by omega
            have s1 : IntKind.u16.wrap (j : Int) = j := by rw [w16]; omega
            have s2 : IntKind.u16.wrap (sq + (j : Int)) = (sq + j) % 65536 := w16 _
            have s3 : (j : Int) % 65536 = j := by omega
            have HPREV : Hid (∀ j', j = j' + 1 → ∃ x', wr.cell? ⟨g, j' * 11 + 3, none⟩ = some (.int .u32 x') ∧ 0 ≤ ser.sd M32 x.time x') := Lib.hid (fun j' hjj => by
              have hj' : j' < ks.length := by omega
              have hx' : ks[j']? = some ks[j'] := List.getElem?_eq_getElem hj'
              exact ⟨_, hc j' _ hx' 3 _ rfl, HG.out.next j' _ x hx' (by rw [← hjj]; exact hx)⟩)
            obtain ⟨qs, hqs⟩ : ∃ qs, (sq + (j : Int)) % 65536 = qs := ⟨_, rfl⟩
            rw [hqs] at e2 s2
            clear hc hcc hx hju g1 g2 g3 hqs
            generalize x.time = t at *
            generalize x.mr = mr at *
            generalize x.x = y2 at *
            go_upto_region 15 with fail
            have bk : Blk (wr.alloc (.cells #[.bool mr, .int .u8 96, .int .u16 qs, .int .u32 t, .int .u32 7, .slice none 0 0, .bool false, .int .u16 0, .string ⟨#[]⟩, .string y2, .int .i64 0] KT)) wr.heap.size #[.bool mr, .int .u8 96, .int .u16 qs, .int .u32 t, .int .u32 7, .slice none 0 0, .bool false, .int .u16 0, .string ⟨#[]⟩, .string y2, .int .i64 0] KT := Blk.new _ _ _
            have n6 : New wr (wr.alloc (.cells #[.bool mr, .int .u8 96, .int .u16 qs, .int .u32 t, .int .u32 7, .slice none 0 0, .bool false, .int .u16 0, .string ⟨#[]⟩, .string y2, .int .i64 0] KT)) := (Turns.refl _ _).alloc _
            clear e0 e1 e2 e3 e4 e5 e6 e7 e8 e9 e10
            have HN6 := Lib.hid (hn2.trans (n6.mono (fun _ _ h => h.elim)))
            have HPR2 : Hid (∀ j', j = j' + 1 → ∃ x', (wr.alloc (.cells #[.bool mr, .int .u8 96, .int .u16 qs, .int .u32 t, .int .u32 7, .slice none 0 0, .bool false, .int .u16 0, .string ⟨#[]⟩, .string y2, .int .i64 0] KT)).cell? ⟨g, j' * 11 + 3, none⟩ = some (.int .u32 x') ∧ 0 ≤ ser.sd M32 t x') := Lib.hid (fun j' hjj => by
              obtain ⟨x', h1, h2⟩ := HPREV.out j' hjj
              exact ⟨x', (n6.cell (a := ⟨g, j' * 11 + 3, none⟩) hgl (fun h => h)).trans h1, h2⟩)
            clear HPREV hn2 n6
            generalize wr.alloc (.cells #[.bool mr, .int .u8 96, .int .u16 qs, .int .u32 t, .int .u32 7, .slice none 0 0, .bool false, .int .u16 0, .string ⟨#[]⟩, .string y2, .int .i64 0] KT) = w6 at *
            generalize wr.heap.size = pk at *
            have k1 : w6.cell? ⟨pk, 1, none⟩ = some (.int .u8 96) := bk.cell 1
            have k2 : w6.cell? ⟨pk, 2, none⟩ = some (.int .u16 qs) := bk.cell 2
            have k3 : w6.cell? ⟨pk, 3, none⟩ = some (.int .u32 t) := bk.cell 3
            have k4 : w6.cell? ⟨pk, 4, none⟩ = some (.int .u32 7) := bk.cell 4
            have hpk := bk.lt
            clear bk
            go_upto_region 17 with fail
            cases j with
            | zero =>
              have hd0 : decide ((0 : Int) < ((0 : Nat) : Int)) = false := by decide
              have hd1 : ¬ (0 : Int) < ((0 : Nat) : Int) := by decide
              clear HPR2
              go_quiet (fail)
              go_wp2
              go_roundw
              case rel => exact ⟨0 + 1, by omega, by go_num, HN6.out.drewN _⟩
              case measure => simp [intOf]; omega
            | succ j =>
              obtain ⟨tp, hp3, hsd⟩ := HPR2.out j rfl
              clear HPR2
              have hnl : (decide (ser.sd M32 t tp < 0)) = false := decide_eq_false (by omega)
              have hd0 : decide ((0 : Int) < (((j + 1 : Nat)) : Int)) = true := decide_eq_true (by omega)
              have HDi := Lib.hid (fun nq => (ser.dist32 t tp (w6.drewN nq)).mono (fun _ _ h => And.intro h.1 h.2.symm))
              have hw1 : IntKind.i64.wrap (((j + 1 : Nat) : Int) - 1) = (j : Int) := by rw [IntWalk.i64_in _ (by omega)]; omega
              have hw2 : (((j + 1 : Nat) : Int) - 1) = (j : Int) := by omega
              have jm1 : (j : Int) < (m : Int) := by omega
              have jm0 : (0 : Int) ≤ (j : Int) := by omega
              generalize ser.sd M32 t tp = dd at *
              have hnl2 : ¬ dd < 0 := by omega
              go_quiet ((go_at_call 19; exact Calls.quiet_of_same (HDi.out _)))
              go_wp2
              go_roundw
              case rel => exact ⟨j + 1 + 1, by omega, by go_num, HN6.out.drewN _⟩
              case measure => simp [intOf]; omega
          · have hjm' : j = m := by omega
            subst hjm'
            have HE : Hid (Below w.heap.size w wr) := Lib.hid ((HNW.out.trans (hn2.mono (fun _ _ h => h.elim))).below (Nat.le_refl _) (fun _ _ h => h.elim))
            clear hn2
            go_wp2
            go_ret
            exact ⟨rfl, HE.out⟩
end Go.Proofs.Ytijpgkkhjjpjoaa.rew
