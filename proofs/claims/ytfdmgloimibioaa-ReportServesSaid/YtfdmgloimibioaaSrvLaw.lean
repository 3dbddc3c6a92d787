/-
  ReportServes: what is asked for again.
-/
import Derived.Test.YtfdmgloimibioaaSrvCalls
import Derived.Test.YtfdmgloimibioaaSrvRef
import Derived.Test.YtfdmgloimibioaaRepPli
import Derived.Test.YtfdmgloimibioaaSeqsRow
import Derived.Test.YtfdmgloimibioaaStrsRow
import Derived.Deep.CutBlock
namespace Go.Proofs.Ytfdmgloimibioaa.rng
open Go.RowKit mem Go.Maps cutl
open Go.Proofs.Ytfdmgloimibioaa.args (IntRow StrsAt Sq16 seqsRow)
set_option linter.unusedVariables false

theorem Pl.mono {w w1 : World} {p bm : Nat} {pv v : Value} {k k' : Nat} {r : R} {Z : Nat} {m gp : Int} (h : Pl w w1 p bm pv v k r Z m gp) (hk : k ≤ k') : Pl w w1 p bm pv v k' r Z m gp :=
  ⟨⟨h.own.rg.more hk, h.own.n, h.own.p0, h.own.m0, h.own.v0⟩, h.rows, h.apart, h.sz, h.ms, h.gs, by have := h.sent; omega⟩
theorem sizes_take (l : List ByteArray) (k : Nat) (s : ByteArray) (h : l[k]? = some s) : sizes (l.take (k + 1)) = sizes (l.take k) + s.size := by
  rw [List.take_add_one, h, sizes_append]; simp [sizes]
theorem sizes_take_le (l : List ByteArray) (k : Nat) : sizes (l.take k) ≤ sizes l := by
  have h := sizes_append (l.take k) (l.drop k)
  rw [List.take_append_drop] at h
  have := sizes_nonneg (l.drop k)
  omega

set_option maxHeartbeats 8000000 in
set_option maxRecDepth 100000 in
theorem serves_law (a0 a1 : Int) (A2 : Option Addr) (n2 c2 : Nat) (z2 : Nat → ByteArray) (A3 : Option Addr) (n3 c3 : Nat) (z3 : Nat → Sq16) (by4 : Int) (w : World) (h0 : -9223372036854775808 ≤ a0) (h0' : a0 ≤ 9223372036854775807) (h1 : -9223372036854775808 ≤ a1) (h1' : a1 ≤ 9223372036854775807)
    (hz2 : StrsAt w A2 n2 z2) (hz3 : seqsRow w A3 n3 c3 z3) (h4 : -9223372036854775808 ≤ by4) (h4' : by4 ≤ 9223372036854775807) :
    Calls Try.prog 9 #[.int .i64 a0, .int .i64 a1, .slice A2 n2 c2, .slice A3 n3 c3, .int .i64 by4] w fun e w' => e = .returned (.bool true) ∧ Below w.heap.size w w' := by
  have M0 := mask.mask4 a0
  have M1 := mask.mask2 a1
  obtain ⟨y, hy⟩ : ∃ z : Nat, a0 % 16 = z := ⟨(a0 % 16).toNat, by omega⟩
  have hyb : y < 16 := by omega
  obtain ⟨m, hm⟩ : ∃ m : Int, a1 % 4 = m := ⟨_, rfl⟩
  have m0 : 0 ≤ m := by omega
  have m1 : m < 4 := by omega
  rw [hy] at M0
  rw [hm] at M1
  clear hy hm
  obtain ⟨Z, hZ⟩ : ∃ Z : Nat, Z = y + 1 := ⟨_, rfl⟩
  have hs1 : IntKind.i64.wrap (1 + (y : Int)) = (Z : Int) := by rw [IntWalk.i64_in _ (by omega)]; omega
  have hZ0 : 0 < Z := by omega
  have hZ1 : Z ≤ 16 := by omega
  clear hZ
  obtain ⟨hn2, hwf2, hcell2⟩ := hz2
  obtain ⟨hn3, hok3, hcell3⟩ := hz3
  unfold maxLen at hn2 hn3
  have HW2 := Lib.hid hwf2
  have HC2 := Lib.hid hcell2
  have HK3 := Lib.hid hok3
  have HC3 := Lib.hid hcell3
  clear hwf2 hcell2 hok3 hcell3
  have HN := Lib.hid (fun w => new Z m 3 w (by omega) (by omega) (by omega) (by omega) (by decide) (by decide))
  go_enter Try.func9, Try.ntmps9
  go_wp2_with fail
  refine (rep.awake w).mono ?_
  rintro e w0 ⟨rfl, n0⟩
  have N0 := Lib.hid n0
  clear n0
  go_wp2_with fail
  refine (HN.out _).mono ?_
  rintro e w1 ⟨rfl, hr, n1⟩
  have H1 : Hid (Own w w1 (w0.heap.size + 1) w0.heap.size (.slice none 0 0) 0 (fresh Z m 3)) := Lib.hid ⟨hr, N0.out.trans (n1.mono (fun _ _ h => h.elim)), by have := N0.out.size; omega, N0.out.size, fun g hg => by simp [Value.ownBlock] at hg⟩
  clear hr n1 HN N0
  generalize w0.heap.size + 1 = p at *
  generalize w0.heap.size = bm at *
  clear hs1 M0 M1
  have HP0 : Hid (Pl w (w1.alloc (.cells #[] OT)) p bm (.slice none 0 0) (.slice (some ⟨w1.heap.size, 0, none⟩) 0 0) 0 (fresh Z m 3) Z m 3) := Lib.hid
    ⟨H1.out.later ((Turns.refl _ _).alloc _), (Lies.made w1 OT).mono H1.out.n.size, (fun g hg hf => by
      have hg' : w1.heap.size = g := by simpa [Value.ownBlock] using hg
      rcases hf with rfl | rfl | hf
      · have := H1.out.rg.lt; omega
      · have := H1.out.rg.mlt; omega
      · simp [Value.ownBlock] at hf), rfl, rfl, rfl, Int.le_refl 0⟩
  go_upto_region 8 with fail
  refine (show Code.wp _ _ _ _ (w1.alloc (.cells #[] OT)) from ?_)
  generalize hv0 : Value.slice (some ⟨w1.heap.size, 0, none⟩) 0 0 = v0 at *
  clear hv0
  generalize w1.alloc (.cells #[] OT) = w2 at *
  clear H1
  go_upto_block 0 with fail
  go_cut [13] (fun v wx => ∃ pv : Value, ∃ r : R, Pl w wx p bm pv v (20 + 2 * 0) r Z m 3)
  case first =>
   go_wp2_with fail
   go_loopw [13, 14] (fun v i wr => ∃ k : Nat, ∃ pv : Value, ∃ r : R, k ≤ n2 ∧ k ≤ 20 ∧ i = .int .i64 k ∧ Pl w wr p bm pv v k r Z m 3) (fun _ i _ => 20 - (intOf i).toNat)
   case atStart => exact ⟨0, _, _, Nat.zero_le _, by omega, rfl, HP0.out⟩
   case round =>
     obtain ⟨k, pv, r, hk, hk20, rfl, hpl⟩ := hrel
     have HP := Lib.hid hpl
     clear hpl HP0
     by_cases hgo : k < n2 ∧ k < 20
     · as_aux_lemma =>
         obtain ⟨hlt, hlt2⟩ := hgo
         obtain ⟨b2, o2, rfl, hb2, hc2⟩ := HC2.out.resolve_left (by omega)
         have d2 := (HP.out.own.n.cell (a := ⟨b2, o2 + k, none⟩) hb2 (fun h => h)).trans (hc2 k hlt)
         have HCU := Lib.hid (fun w => cut (z2 k) 30 (by omega) w)
         have HPU := Lib.hid (fun (t : ByteArray) w' (h : Rg w' p bm pv k r) => put p bm pv k r (k : Int) t w' h (by omega) (by omega) (by omega))
         have HSZ : Hid (r.size = Z ∧ r.L.length ≤ Z) := Lib.hid ⟨HP.out.sz, HP.out.len⟩
         clear hb2 hc2
         generalize cutS (z2 k) 30 = t at *
         go_wp2_with fail
         refine (HCU.out _).mono ?_
         rintro e wc ⟨rfl, rfl⟩
         go_wp2_with fail
         refine (HPU.out t _ HP.out.own.rg).mono ?_
         rintro e w5 ⟨rfl, h5⟩
         obtain ⟨pv', ho⟩ := HP.out.own.put h5
         obtain ⟨_, _, ht5, _⟩ := h5
         have hrow5 := HP.out.rows.turns' ht5 HP.out.apart
         have HR5 := Lib.hid (fun v' w' (h : LR w.heap.size w' v' r.L) (hB : w.heap.size ≤ w'.heap.size) => rput w.heap.size v' r.L Z (k : Int) t w' h HSZ.out.2 hZ0 (by omega) hB)
         have HO5 := Lib.hid ho
         have HRW5 := Lib.hid hrow5
         have HSZ5 : Hid (w.heap.size ≤ w5.heap.size) := Lib.hid ho.n.size
         clear ht5 hrow5 ho
         go_wp2_with fail
         refine (HR5.out _ _ HRW5.out HSZ5.out).mono ?_
         rintro e w6 ⟨v6, rfl, hr6, hn6⟩
         have hr6' : LR w5.heap.size w6 v6 (putR r k t).L := by
           rw [← putL_is r k t (by rw [HSZ.out.1]; exact HSZ.out.2) (by rw [HSZ.out.1]; exact hZ0), HSZ.out.1]; exact hr6
         have HPL := Lib.hid (HP.out.put HO5.out hr6' hn6 HSZ5.out)
         clear hr6 hr6' hn6
         go_wp2_with fail
         go_roundw
         case rel => exact ⟨k + 1, pv', _, by omega, by omega, by go_num, HPL.out⟩
         case measure => simp [intOf]; omega
     · have HQ0 : Hid (Pl w wr p bm pv u13 (20 + 2 * 0) r Z m 3) := Lib.hid (HP.out.mono (by omega))
       have hjn : k < n2 ∨ ¬ k < n2 := Nat.lt_or_ge _ _ |>.imp id (fun h => by omega)
       rcases hjn with hlt | hlt
       · have hlt2 : ¬ k < 20 := fun h => hgo ⟨hlt, h⟩
         clear hgo hk20 HP
         go_wp2_with fail
         go_meet
         case rel => exact ⟨pv, r, HQ0.out⟩
       · clear hgo hk20 HP
         go_wp2_with fail
         go_meet
         case rel => exact ⟨pv, r, HQ0.out⟩
  case rest =>
    obtain ⟨pv, r, hpl⟩ := hcut
    have HP1 := Lib.hid hpl
    clear hpl HP0
    go_wp2_with fail
    go_loopw [13, 16] (fun v i wr => ∃ k : Nat, ∃ pv : Value, ∃ r : R, k ≤ n3 ∧ k ≤ 8 ∧ i = .int .i64 k ∧ Pl w wr p bm pv v (20 + 2 * k) r Z m 3) (fun _ i _ => 8 - (intOf i).toNat)
    case atStart => exact ⟨0, _, _, Nat.zero_le _, by omega, rfl, HP1.out⟩
    case round =>
      obtain ⟨k, pv, r, hk, hk8, rfl, hpl⟩ := hrel
      have HP := Lib.hid hpl
      clear hpl HP1
      by_cases hgo : k < n3 ∧ k < 8
      · obtain ⟨hlt, hlt2⟩ := hgo
        obtain ⟨b3, o3, rfl, hb3, hc3⟩ := HC3.out.resolve_left (by omega)
        have d3 := (HP.out.own.n.cell (a := ⟨b3, o3 + k, none⟩) hb3 (fun h => h)).trans (hc3 k hlt)
        obtain ⟨hrow, hcap1, hcap2⟩ := HK3.out k hlt
        have HROW := Lib.hid hrow
        clear hb3 hc3 hrow
        generalize z3 k = zz at *
        obtain ⟨ta, tn, tc, tz⟩ := zz
        dsimp only at *
        obtain ⟨N, hN⟩ : ∃ N : Nat, N = min tn 12 := ⟨_, rfl⟩
        have HNN : Hid (N ≤ tn ∧ N ≤ 12 ∧ N = min tn 12) := Lib.hid (by omega)
        have hN12 : N ≤ 12 := by omega
        clear hN
        unfold maxLen at hcap2
        go_upto_if 81 with fail
        go_cut [17] (fun v wx => v = .slice ta N tc ∧ wr = wx)
        case first =>
          by_cases h9 : 12 < tn
          · have e9 : Hid (N = 12) := Lib.hid (by have := HNN.out; omega)
            go_wp2_with fail
            go_meet
            case rel => exact ⟨by rw [e9.out], rfl⟩
          · have e9 : Hid (N = tn) := Lib.hid (by have := HNN.out; omega)
            go_wp2_with fail
            go_meet
            case rel => exact ⟨by rw [e9.out], rfl⟩
        case rest =>
          obtain ⟨rfl, rfl⟩ := hcut
          clear d3
          have hrow2 : IntRow .u16 wr ta N tc tz := by
            obtain ⟨r1, r2, r3⟩ := HROW.out
            have hnw := HP.out.own.n
            refine ⟨by unfold maxLen; omega, fun i hi => r2 i (by have := HNN.out; omega), ?_⟩
            rcases r3 with h0 | ⟨bt, ot, hta, hbt, hct⟩
            · left; have := HNN.out; omega
            · exact .inr ⟨bt, ot, hta, Nat.lt_of_lt_of_le hbt hnw.size, fun i hi => (hnw.cell (a := ⟨bt, ot + i, none⟩) hbt (fun h => h)).trans (hct i (by have := HNN.out; omega))⟩
          have hcf : ∀ b off, N ≠ 0 → ta = some ⟨b, off, none⟩ → ¬ Foot p bm pv b := by
            intro b off hj0 hta hfo
            obtain ⟨r1, r2, r3⟩ := HROW.out
            rcases r3 with h0 | ⟨bt, ot, hta2, hbt, hct⟩
            · have := HNN.out; omega
            · rw [hta] at hta2
              injection hta2 with e
              injection e with e _
              have := HP.out.own.foot hfo; omega
          have hsent := HP.out.sent
          have hsent0 := HP.out.own.rg.ok.s0
          have HSV := Lib.hid (serve p bm pv (20 + 2 * k) r (2 * (k : Int)) by4 ta N tc tz wr HP.out.own.rg (by omega) (by omega) h4 h4' hrow2 hcf (by omega) (by omega))
          have HRV := Lib.hid (fun w' (hr : LR w.heap.size w' u13 r.L) (hB : w.heap.size ≤ w'.heap.size) (hzz : IntRow .u16 w' ta N tc tz) => rserve w.heap.size u13 r (2 * (k : Int)) by4 ta N tc tz w' hr HP.out.own.rg.ok hB (by have := HP.out.len; omega) (by rw [HP.out.ms]; omega) (by rw [HP.out.gs]; decide) (by omega) (by omega) h4 h4' hzz (by omega) (by omega))
          rw [HP.out.ms, HP.out.gs] at HRV
          have hsok := serveSt_ok HP.out.own.rg.ok (2 * (k : Int)) by4 (by omega) (by omega) tz N (by omega)
          have HSOK := Lib.hid hsok
          have hfew := hsok.few
          have HRZ := Lib.hid hrow2
          clear hsok hrow2 hcf
          generalize hsg : serveSt r (2 * (k : Int)) by4 tz N = sv at *
          clear hsg
          obtain ⟨r', L, lf, stp⟩ := sv
          dsimp only at *
          go_wp2_with fail
          refine HSV.out.mono ?_
          rintro e w5 ⟨v5, rfl, hsl5⟩
          have HS5 := Lib.hid hsl5
          clear hsl5 HSV
          have hfoot : Hid (∀ i, Foot p bm pv i → w.heap.size ≤ i) := Lib.hid (fun i hi => HP.out.own.foot hi)
          have hz5 : IntRow .u16 w5 ta N tc tz := by
            obtain ⟨r1, r2, r3⟩ := HRZ.out
            refine ⟨r1, r2, ?_⟩
            obtain ⟨q1, q2, q3⟩ := HROW.out
            rcases q3 with h0 | ⟨bt, ot, hta, hbt, hct⟩
            · left; have := HNN.out; omega
            · rcases r3 with h0 | ⟨bt', ot', hta', hbt', hct'⟩
              · exact .inl h0
              · rw [hta] at hta'
                injection hta' with e
                injection e with e e'
                subst e e'
                exact .inr ⟨bt, ot, hta, Nat.lt_of_lt_of_le hbt' HS5.out.left.2.size, fun i hi => (HS5.out.left.2.cell (a := ⟨bt, ot + i, none⟩) hbt' (fun hf => by have := hfoot.out bt hf; omega)).trans (hct' i hi)⟩
          have HR5 := Lib.hid (HP.out.rows.turns' HS5.out.left.2 HP.out.apart)
          have HB5 : Hid (w.heap.size ≤ w5.heap.size) := Lib.hid (HP.out.own.left HS5.out.left).n.size
          have HZ5 := Lib.hid hz5
          clear hz5
          go_wp2_with fail
          refine (HRV.out _ HR5.out HB5.out HZ5.out).mono ?_
          rintro e w6 ⟨v6, vo, rfl, hrs⟩
          have hpl6 : Pl w w6 p bm pv v6 (20 + 2 * (k + 1)) r' Z m 3 := by
            have hsn : r'.sent ≤ r.sent + N := HSOK.out.sent
            exact (HP.out.mono (k' := 20 + 2 * k + 1) (Nat.le_succ _)).again ⟨HS5.out.left.1.more (Nat.le_succ _), HS5.out.left.2⟩ hrs.rows hrs.new hrs.fr HSOK.out.keep (by omega)
          have hgot : Owns SE StT w6 v5 L := HS5.out.own.turns hrs.new (fun _ _ h => h)
          have hwant : Owns SE StT w6 vo L := hrs.own
          obtain ⟨ao6, c6, hv6, hc6, hrd6, _⟩ := hgot.form
          obtain ⟨aow, cw, hvw, hcw, hrdw, _⟩ := hwant.form
          have HFIN := Lib.hid hpl6
          have HR6 := Lib.hid hrd6
          have HRW6 := Lib.hid hrdw
          have hsum : sizes L + lf = by4 := HSOK.out.sum
          have hpos : L = [] ∨ 0 ≤ lf := HSOK.out.pos
          have hL12 : L.length ≤ 12 := by omega
          have hmx : (L = [] ∨ sizes L ≤ by4) ∧ sizes L ≤ 9223372036854775807 := by
            have hnn := sizes_nonneg L
            rcases hpos with e | e
            · exact ⟨.inl e, by rw [e]; decide⟩
            · exact ⟨.inr (by omega), by omega⟩
          obtain ⟨hmx1, hmx2⟩ := hmx
          have HMX := Lib.hid hmx1
          clear hpl6 hgot hwant hrd6 hrdw hrs HS5 HR5 HZ5 HRZ HROW HRV hsum hpos HSOK hfew hmx1 hfoot
          subst hv6 hvw
          have hlm : L.length ≤ maxLen := by unfold maxLen; omega
          go_wp2_with fail
          go_loopw [21, 22, 109] (fun sm _ i wx => ∃ jj : Nat, ∃ nq : Nat, jj ≤ L.length ∧ i = .int .i64 jj ∧ sm = .int .i64 (sizes (L.take jj)) ∧ wx = w6.drewN nq) (fun _ _ i _ => L.length - (intOf i).toNat)
          case atStart => exact ⟨0, 0, Nat.zero_le _, rfl, rfl, rfl⟩
          case round =>
            obtain ⟨jj, nq, hjj, rfl, rfl, rfl⟩ := hrel
            by_cases hlt5 : jj < L.length
            · as_aux_lemma =>
                obtain ⟨tx, htx⟩ : ∃ tx, L[jj]? = some tx := ⟨_, List.getElem?_eq_getElem hlt5⟩
                have hne : L ≠ [] := fun e => by rw [e] at hlt5; exact absurd hlt5 (Nat.not_lt_zero _)
                obtain ⟨g6, rfl, _, hc6'⟩ := HR6.out.resolve_left hne
                obtain ⟨gw, rfl, _, hcw'⟩ := HRW6.out.resolve_left hne
                have e6 : w6.cell? ⟨g6, jj, none⟩ = some (.string tx) := by have := hc6' jj tx htx 0 _ rfl; rwa [show SE.n = 1 from rfl, Nat.mul_one, Nat.add_zero] at this
                have ew : w6.cell? ⟨gw, jj, none⟩ = some (.string tx) := by have := hcw' jj tx htx 0 _ rfl; rwa [show SE.n = 1 from rfl, Nat.mul_one, Nat.add_zero] at this
                have hss : (tx.toList == tx.toList) = true := by simp
                have q0 : (0 : Int) ≤ (jj : Int) := by omega
                have q1 : (jj : Int) < (L.length : Int) := by omega
                have hst := sizes_take L jj tx htx
                have hsl := sizes_take_le L (jj + 1)
                have hs0 := sizes_nonneg (L.take jj)
                have HST := Lib.hid hst
                have hs5 : IntKind.i64.wrap (sizes (L.take jj) + (tx.size : Int)) = sizes (L.take jj) + (tx.size : Int) := IntWalk.i64_in _ (by omega)
                clear htx hne hc6' hcw' hst hsl
                generalize sizes (L.take jj) = sj at *
                go_wp2_with fail
                go_quiet (fail)
                go_wp2_with fail
                go_roundw
                case rel => exact ⟨jj + 1, _, by omega, by go_num, by rw [HST.out], rfl⟩
                case measure => simp [intOf]; omega
            · obtain rfl : jj = L.length := by omega
              have HFQ : Hid (Pl w (w6.drewN nq) p bm pv v6 (20 + 2 * (k + 1)) r' Z m 3) := Lib.hid (HFIN.out.later ((Turns.refl _ _).drewN nq))
              have htk : Hid (L.take L.length = L) := Lib.hid List.take_length
              rw [htk.out]
              have hs0 := sizes_nonneg L
              have hfine : (by4 < 0 ∧ sizes L = 0) ∨ (0 ≤ by4 ∧ sizes L ≤ by4) := by
                rcases HMX.out with e | e
                · by_cases hb : by4 < 0
                  · exact .inl ⟨hb, by rw [e]; rfl⟩
                  · exact .inr ⟨by omega, by rw [e]; simp [sizes]; omega⟩
                · exact .inr ⟨by omega, e⟩
              clear HMX hjj hlt5
              generalize sizes L = sl at *
              rcases hfine with ⟨hb, rfl⟩ | ⟨hb, hle⟩
              · go_wp2_with fail
                go_roundw
                case rel => exact ⟨k + 1, pv, r', by omega, by omega, by go_num, HFQ.out⟩
                case measure => simp [intOf]; omega
              · have hb' : ¬ by4 < 0 := by omega
                have hle' : ¬ by4 < sl := by omega
                go_wp2_with fail
                go_roundw
                case rel => exact ⟨k + 1, pv, r', by omega, by omega, by go_num, HFQ.out⟩
                case measure => simp [intOf]; omega
      · have HF := Lib.hid (HP.out.own.n.below (Nat.le_refl _) (fun _ _ h => h.elim))
        clear HP
        by_cases hlt : k < n3
        · have hlt2 : ¬ k < 8 := fun h => hgo ⟨hlt, h⟩
          clear hgo hk8
          go_wp2
          go_ret
          exact ⟨rfl, HF.out⟩
        · clear hgo hk8
          go_wp2
          go_ret
          exact ⟨rfl, HF.out⟩
end Go.Proofs.Ytfdmgloimibioaa.rng
