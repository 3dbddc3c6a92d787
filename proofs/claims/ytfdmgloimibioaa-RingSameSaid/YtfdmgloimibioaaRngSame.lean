/-
  RingSame: the bytes that were put.
-/
import Derived.Test.YtfdmgloimibioaaRngRun
import Derived.Test.YtfdmgloimibioaaStrsRow
import Derived.Test.YtfdmgloimibioaaMask
import Derived.Test.YtfdmgloimibioaaCut
import Derived.Deep.DeepCutAuto
namespace Go.Proofs.Ytfdmgloimibioaa.rng
open Go.RowKit mem Go.Maps cutl
open Go.Proofs.Ytfdmgloimibioaa.args (StrsAt IntRow)
set_option linter.unusedVariables false

theorem zeroS (w : World) : (zeroValue 9).run Try.prog w = .ok (.string ⟨#[]⟩) w := by kernel_rfl

/-- a ring of the call's own, and a map of texts -/
structure Sm (w wr : World) (p bm bl : Nat) (pv : Value) (k : Nat) (r : R) (l : List P) : Prop where
  own : Own w wr p bm pv k r
  map : ∃ D, wr.ownsMap Try.prog 29 (plainElem Try.prog 9) bl k D ∧ Ms D l
  b0 : w.heap.size ≤ bl
  ne : bl ≠ bm
section
variable {w w1 w2 : World} {p bm bl : Nat} {pv : Value} {k : Nat} {r : R} {l : List P}
theorem Sm.bp (h : Sm w w1 p bm bl pv k r l) : bl ≠ p := by obtain ⟨D, hD, _⟩ := h.map; exact ownsMap_ne hD h.own.rg.blk
theorem Sm.bv (h : Sm w w1 p bm bl pv k r l) : ∀ g, pv.ownBlock = some g → bl ≠ g := by
  obtain ⟨D, hD, _⟩ := h.map
  obtain ⟨l', hl, _⟩ := h.own.rg.own
  exact ownsMap_ne_row hD hl
theorem Sm.foot (h : Sm w w1 p bm bl pv k r l) : ¬ Foot p bm pv bl := by
  rintro (e | e | e)
  · exact h.bp e
  · exact h.ne e
  · exact h.bv bl e rfl
theorem Sm.put {r' : R} (h : Sm w w1 p bm bl pv k r l) (h2 : Putted w1 w2 p bm pv (k + 1) r') : ∃ pv', Sm w w2 p bm bl pv' (k + 1) r' l := by
  obtain ⟨D, hD, hM⟩ := h.map
  obtain ⟨pv', ho⟩ := h.own.put h2
  obtain ⟨_, _, ht, _⟩ := h2
  exact ⟨pv', ho, ⟨D, (ownsMap_turns hD ht h.foot).mono (Nat.le_succ _), hM⟩, h.b0, h.ne⟩
theorem Sm.left {r' : R} (h : Sm w w1 p bm bl pv k r l) (h2 : Left w1 w2 p bm pv k r') : Sm w w2 p bm bl pv k r' l := by
  obtain ⟨D, hD, hM⟩ := h.map
  exact ⟨h.own.left h2, ⟨D, ownsMap_turns hD h2.2 h.foot, hM⟩, h.b0, h.ne⟩
theorem Sm.stored {D : DataW Unit} {l' : List P} (h : Sm w w1 p bm bl pv k r l) (h2 : w2.ownsMap Try.prog 29 (plainElem Try.prog 9) bl k D) (hM : Ms D l') (hg : w1.grownBy w2 (some bl)) : Sm w w2 p bm bl pv k r l' := by
  have ht : Turns (· = bl) w1 w2 := (Turns.of_grown hg).mono (fun _ _ h => by injection h)
  refine ⟨⟨h.own.rg.turns ht (fun e => h.bp e.symm) (fun e => h.ne e.symm) (fun g hg e => h.bv g hg e.symm), h.own.n.trans (ht.mono (fun i _ hi => .inr (by rw [hi]; exact h.b0))), h.own.p0, h.own.m0, h.own.v0⟩, ⟨D, h2, hM⟩, h.b0, h.ne⟩
end

def fS (z1 : Nat → Int) (z2 : Nat → ByteArray) (k : Nat) : P := ⟨z1 k, cutS (z2 k) 10, 0, 0⟩

set_option maxHeartbeats 4000000 in
set_option maxRecDepth 100000 in
theorem same_law (a0 : Int) (A1 : Option Addr) (n1 c1 : Nat) (z1 : Nat → Int) (A2 : Option Addr) (n2 c2 : Nat) (z2 : Nat → ByteArray) (A3 : Option Addr) (n3 c3 : Nat) (z3 : Nat → Int) (w : World)
    (h0 : -9223372036854775808 ≤ a0) (h0' : a0 ≤ 9223372036854775807) (hz1 : IntRow .u16 w A1 n1 c1 z1) (hz2 : StrsAt w A2 n2 z2) (hz3 : IntRow .u16 w A3 n3 c3 z3) :
    Calls Try.prog 4 #[.int .i64 a0, .slice A1 n1 c1, .slice A2 n2 c2, .slice A3 n3 c3] w fun e w' => e = .returned (.bool true) ∧ Below w.heap.size w w' := by
  have M0 := mask.mask5 a0
  obtain ⟨z, hz⟩ : ∃ z : Nat, a0 % 32 = z := ⟨(a0 % 32).toNat, by omega⟩
  have hzb : z < 32 := by omega
  rw [hz] at M0
  clear hz
  obtain ⟨Z, hZ⟩ : ∃ Z : Nat, Z = z + 1 := ⟨_, rfl⟩
  have hs1 : IntKind.i64.wrap (1 + (z : Int)) = (Z : Int) := by rw [IntWalk.i64_in _ (by omega)]; omega
  have hZ0 : 0 < Z := by omega
  have hZ1 : Z ≤ 32 := by omega
  clear hZ
  obtain ⟨hn1, hwf1, hcell1⟩ := hz1
  obtain ⟨hn2, hwf2, hcell2⟩ := hz2
  obtain ⟨hn3, hwf3, hcell3⟩ := hz3
  unfold maxLen at hn1 hn2 hn3
  have HW1 := Lib.hid (And.intro hwf1 hcell1)
  have HW2 := Lib.hid (And.intro hwf2 hcell2)
  have HW3 := Lib.hid (And.intro hwf3 hcell3)
  clear hwf1 hcell1 hwf2 hcell2 hwf3 hcell3
  have HN := Lib.hid (fun w => new Z 2 0 w (by omega) (by omega) (by omega) (by omega) (by omega) (by omega))
  have HA := Lib.hid (fun w => awake w)
  obtain ⟨N, hN⟩ : ∃ N : Nat, N = min (min n1 n2) 60 := ⟨_, rfl⟩
  have HNN : Hid (N ≤ n1 ∧ N ≤ n2 ∧ N ≤ 60 ∧ N = min (min n1 n2) 60) := Lib.hid (by omega)
  go_enter Try.func4, Try.ntmps4
  clear hN
  go_wp2_with fail
  refine (HN.out _).mono ?_
  rintro e w1 ⟨rfl, hr, n1'⟩
  have H1 := Lib.hid (Own.made hr n1')
  clear hr n1' HN
  generalize w.heap.size + 1 = p at *
  obtain ⟨bm, hbm⟩ : ∃ bm, bm = w.heap.size := ⟨_, rfl⟩
  rw [← hbm] at H1
  clear hbm
  go_wp2_with fail
  refine (HA.out _).mono ?_
  rintro e w2 ⟨rfl, n2'⟩
  have H2 := Lib.hid (H1.out.later n2')
  clear H1 n2' HA hs1 M0
  go_upto_region 5 with fail
  go_cut [11] (fun v wx => v = .int .i64 N ∧ w2 = wx)
  case first =>
    go_wp2_with fail
    all_goals
      go_meet
      case rel => exact ⟨by have hh := HNN.out.2.2.2; congr 1; (repeat' split at *) <;> omega, rfl⟩
  case rest =>
    obtain ⟨rfl, rfl⟩ := hcut
    have hmm := @run_makeMap Try.prog
    have HS0 : Hid (Sm w (w2.alloc (.map #[] 0)) p bm w2.heap.size (.slice none 0 0) 0 (fresh Z 2 0) []) := Lib.hid ⟨H2.out.later ((Turns.refl _ _).alloc _), ⟨_, World.ownsMap_made _ _ _ _, Ms.empty⟩, H2.out.n.size, by have := H2.out.rg.mlt; omega⟩
    go_upto_region 7 with fail
    refine (show Code.wp _ _ _ _ (w2.alloc (.map #[] 0)) from ?_)
    generalize w2.alloc (.map #[] 0) = w3 at *
    generalize w2.heap.size = bl at *
    clear H2 hmm
    go_wp2_with fail
    go_loopw [13] (fun i wr => ∃ k : Nat, ∃ pv : Value, k ≤ N ∧ i = .int .i64 k ∧ Sm w wr p bm bl pv (2 * k) (rf (fS z1 z2) Z 2 0 k) (Lm (fS z1 z2) (N - Z) k)) (fun i _ => N - (intOf i).toNat)
    case atStart => exact ⟨0, _, Nat.zero_le _, rfl, by rw [rf_zero, Lm_zero]; exact HS0.out⟩
    case round =>
      obtain ⟨k, pv, hk, rfl, hs⟩ := hrel
      have HS := Lib.hid hs
      have HK60 : Hid (k ≤ 60) := Lib.hid (by have := HNN.out; omega)
      clear hs HS0
      by_cases hlt : k < N
      · obtain ⟨hwf1, hcell1⟩ := HW1.out
        obtain ⟨hwf2, hcell2⟩ := HW2.out
        have hk1 : k < n1 := by have := HNN.out; omega
        have hk2 : k < n2 := by have := HNN.out; omega
        obtain ⟨b1, o1, rfl, hb1, hc1⟩ := hcell1.resolve_left (by omega)
        obtain ⟨b2, o2, rfl, hb2, hc2⟩ := hcell2.resolve_left (by omega)
        have d1 := (HS.out.own.n.cell (a := ⟨b1, o1 + k, none⟩) hb1 (fun h => h)).trans (hc1 k hk1)
        have d2 := (HS.out.own.n.cell (a := ⟨b2, o2 + k, none⟩) hb2 (fun h => h)).trans (hc2 k hk2)
        have hq := hwf1 k hk1
        have hq0 : 0 ≤ z1 k := by simp [Lit.wf, IntKind.min, IntKind.max, IntKind.bits, IntKind.signed] at hq; omega
        have hq1 : z1 k ≤ 65535 := by simp [Lit.wf, IntKind.min, IntKind.max, IntKind.bits, IntKind.signed] at hq; omega
        have HC := Lib.hid (fun w => cut (z2 k) 10 (by omega) w)
        have hcs : Hid ((cutS (z2 k) 10).size ≤ maxLen) := Lib.hid (by have := (cutS_size (z2 k) 10).1; unfold maxLen; omega)
        have HP := Lib.hid (fun w' (h : Rg w' p bm pv (2 * k) (rf (fS z1 z2) Z 2 0 k)) => put_is p bm pv (2 * k) (rf (fS z1 z2) Z 2 0 k) (z1 k) (cutS (z2 k) 10) _ (putR_rf (fS z1 z2) Z 2 0 k hZ0 _ _ rfl) w' h hq0 hq1 (by have := HK60.out; omega))
        have HD1 : Hid (∀ w', New w w' → w'.cell? ⟨b1, o1 + k, none⟩ = some (.int .u16 (z1 k))) := Lib.hid (fun w' hn => (hn.cell (a := ⟨b1, o1 + k, none⟩) hb1 (fun h => h)).trans (hc1 k hk1))
        have HSTEP := Lib.hid (Lm_step (fS z1 z2) (N - Z) k)
        have hkey := keyU hq0 hq1
        have hfx : Hid (fS z1 z2 k = ⟨z1 k, cutS (z2 k) 10, 0, 0⟩) := Lib.hid rfl
        generalize cutS (z2 k) 10 = s at *
        generalize z1 k = q at *
        clear hcell1 hcell2 hwf1 hwf2 hc1 hc2 hb1 hb2 hq d1
        have d1 := HD1.out wr HS.out.own.n
        go_wp2_with fail
        refine (HC.out _).mono ?_
        rintro e wc ⟨rfl, rfl⟩
        go_wp2_with fail
        refine (HP.out _ HS.out.own.rg).mono ?_
        rintro e w4 ⟨rfl, h4⟩
        obtain ⟨pv', h4⟩ := HS.out.put h4
        have H4 := Lib.hid h4
        have d1 := HD1.out w4 h4.own.n
        obtain ⟨D, hD, hM⟩ := h4.map
        have HM := Lib.hid hM
        clear h4 hM
        by_cases hin : (N : Int) - (Z : Int) ≤ (k : Int)
        · have HL : Hid (Lm (fS z1 z2) (N - Z) (k + 1) = Lm (fS z1 z2) (N - Z) k ++ [⟨q, s, 0, 0⟩]) := Lib.hid (by rw [HSTEP.out, if_pos (by omega), hfx.out])
          have hkm : 2 * k + 1 < maxLen := by have := HK60.out; unfold maxLen; omega
          obtain ⟨w5, hrun5, hown5, hgrow5⟩ := hD.update law16 Try.underlying49 hkm hkey (plainElem_string Try.underlying9 hcs.out)
          have H5 := Lib.hid ((Sm.mk (H4.out.own.rg.more (Nat.le_succ _) |> fun r => ⟨r, H4.out.own.n, H4.out.own.p0, H4.out.own.m0, H4.out.own.v0⟩) (H4.out.map.imp fun D h => ⟨h.1.mono (Nat.le_succ _), h.2⟩) H4.out.b0 H4.out.ne : Sm w w4 p bm bl pv' (2 * k + 1 + 1) _ _).stored hown5 (HM.out.push hD.isMap ⟨q, s, 0, 0⟩) hgrow5)
          clear hown5 hgrow5 hD
          go_wp2_with fail
          go_roundw
          case rel => exact ⟨k + 1, pv', by omega, by go_num, by rw [HL.out]; exact H5.out⟩
          case measure => simp [intOf]; omega
        · have HL : Hid (Lm (fS z1 z2) (N - Z) (k + 1) = Lm (fS z1 z2) (N - Z) k) := Lib.hid (by rw [HSTEP.out, if_neg (by omega)])
          have H5 : Hid (Sm w w4 p bm bl pv' (2 * k + 1 + 1) (rf (fS z1 z2) Z 2 0 (k + 1)) (Lm (fS z1 z2) (N - Z) k)) := Lib.hid ⟨⟨H4.out.own.rg.more (Nat.le_succ _), H4.out.own.n, H4.out.own.p0, H4.out.own.m0, H4.out.own.v0⟩, H4.out.map.imp fun D h => ⟨h.1.mono (Nat.le_succ _), h.2⟩, H4.out.b0, H4.out.ne⟩
          have hind : decide ((N : Int) - (Z : Int) ≤ (k : Int)) = false := decide_eq_false hin
          have hin3 : (k : Int) < (N : Int) - (Z : Int) := by omega
          have hN60 : N ≤ 60 := HNN.out.2.2.1
          clear hD hin
          go_wp2_with fail
          go_roundw
          case rel => exact ⟨k + 1, pv', by omega, by go_num, by rw [HL.out]; exact H5.out⟩
          case measure => simp [intOf]; omega
      · obtain rfl : k = N := by omega
        have HL : Hid (Lm (fS z1 z2) (k - Z) k = Lf (fS z1 z2) Z k) := Lib.hid (Lm_end _ _ _)
        have HS0 : Hid (Sm w wr p bm bl pv (2 * k) (rf (fS z1 z2) Z 2 0 k) (Lf (fS z1 z2) Z k)) := Lib.hid (by rw [← HL.out]; exact HS.out)
        clear HS hlt hk
        go_wp2_with fail
        go_loopw [15] (fun i wr => ∃ j : Nat, ∃ r : R, j ≤ n3 ∧ j ≤ 40 ∧ i = .int .i64 j ∧ Sm w wr p bm bl pv (2 * k) r (Lf (fS z1 z2) Z k) ∧ r.L.map qt = (Lf (fS z1 z2) Z k).map qt ∧ r.sent ≤ j) (fun i _ => 40 - (intOf i).toNat)
        case atStart => exact ⟨0, _, Nat.zero_le _, by omega, rfl, HS0.out, rfl, Int.le_refl 0⟩
        case round =>
          obtain ⟨j, r, hj3, hj40, rfl, hs, hqt, hsent⟩ := hrel
          have HS := Lib.hid hs
          have HQT := Lib.hid hqt
          clear hs hqt HS0
          by_cases hgo : j < n3 ∧ j < 40
          · obtain ⟨hlt3, hlt40⟩ := hgo
            obtain ⟨hwf3, hcell3⟩ := HW3.out
            obtain ⟨b3, o3, rfl, hb3, hc3⟩ := hcell3.resolve_left (by omega)
            have d3 := (HS.out.own.n.cell (a := ⟨b3, o3 + j, none⟩) hb3 (fun h => h)).trans (hc3 j hlt3)
            have HD3 : Hid (∀ w', New w w' → w'.cell? ⟨b3, o3 + j, none⟩ = some (.int .u16 (z3 j))) := Lib.hid (fun w' hn => (hn.cell (a := ⟨b3, o3 + j, none⟩) hb3 (fun h => h)).trans (hc3 j hlt3))
            have hq := hwf3 j hlt3
            have hq0 : 0 ≤ z3 j := by simp [Lit.wf, IntKind.min, IntKind.max, IntKind.bits, IntKind.signed] at hq; omega
            have hq1 : z3 j ≤ 65535 := by simp [Lit.wf, IntKind.min, IntKind.max, IntKind.bits, IntKind.signed] at hq; omega
            clear hwf3 hcell3 hc3 hb3 hq
            generalize z3 j = q at *
            have hkey := keyU hq0 hq1
            have hs0 := HS.out.own.rg.ok.s0
            have HAG := Lib.hid (again p bm pv (2 * k) r q j wr HS.out.own.rg hq0 hq1 (by omega) (by omega) (by omega))
            have hse := againR_sent r q j
            have HR : Hid ((againR r q j).L.map qt = (Lf (fS z1 z2) Z k).map qt ∧ (againR r q j).sent ≤ ((j + 1 : Nat) : Int)) := Lib.hid ⟨by rw [againR_qt]; exact HQT.out, by rcases hse with e | e <;> rw [e] <;> omega⟩
            have hcs := again_cases r q j
            have hlx := lastIdx_congr _ _ HQT.out q
            clear hse hs0
            generalize againR r q j = r' at *
            generalize againE r q j = ee at *
            generalize againS r q j = ss at *
            go_wp2_with fail
            refine HAG.out.mono ?_
            rintro e w4 ⟨rfl, h4⟩
            have h5 := HS.out.left h4
            have H5 := Lib.hid h5
            have d3 := HD3.out w4 h5.own.n
            obtain ⟨D, hD, hM⟩ := h5.map
            clear h4 h5
            obtain ⟨hm1, hm2⟩ := hM q hq0 hq1
            rcases hcs with ⟨hc1, rfl, rfl⟩ | ⟨i, x, hc1, hc2, hc3⟩
            · have hh := hm1 (by rw [← hlx]; exact hc1)
              have ha := atKey_of_not_has hh (.lit (.string []))
              clear hm1 hm2 hc1 hlx hM
              go_wp2_with (at_lookup; refine wpList_look_ok_str rfl _ _ 49 rfl 29 9 law16 Try.underlying49 Try.underlying9 (zeroS _) bl (2 * k) D rfl hD _ _ rfl hkey ⟨#[]⟩ ha false hh ?_)
              go_roundw
              case rel => exact ⟨j + 1, r', by omega, by omega, by go_num, H5.out, HR.out.1, HR.out.2⟩
              case measure => simp [intOf]; omega
            · rw [hlx] at hc1
              have hx2 : ∃ y, (Lf (fS z1 z2) Z k)[i]? = some y ∧ y.t = x.t := by
                have hlt := lastIdx_lt hc1
                refine ⟨_, List.getElem?_eq_getElem hlt, ?_⟩
                have h1 := congrArg (fun l => l[i]?) HQT.out
                simp only [List.getElem?_map, hc2, List.getElem?_eq_getElem hlt, Option.map_some, Option.some.injEq] at h1
                exact (congrArg Prod.snd h1).symm
              obtain ⟨y, hy, hyt⟩ := hx2
              obtain ⟨hh, ha'⟩ := hm2 i y hc1 hy
              have ha := ha' (.lit (.string []))
              rw [hyt] at ha
              have HX3 := Lib.hid hc3
              clear hm1 hm2 hc1 hlx hM ha' hy hyt hc2 hc3
              have hsame : (x.t.toList == x.t.toList) = true := by simp
              generalize x.t = xt at *
              rcases HX3.out with ⟨rfl | rfl, rfl⟩ | ⟨rfl, rfl⟩
              all_goals
                clear HX3
                go_wp2_with (at_lookup; refine wpList_look_ok_str rfl _ _ 49 rfl 29 9 law16 Try.underlying49 Try.underlying9 (zeroS _) bl (2 * k) D rfl hD _ _ rfl hkey _ ha true hh ?_)
                go_roundw
                case rel => exact ⟨j + 1, r', by omega, by omega, by go_num, H5.out, HR.out.1, HR.out.2⟩
                case measure => simp [intOf]; omega
          · have HLN := Lib.hid (len p bm pv (2 * k) r wr HS.out.own.rg)
            have hln : r.L.length = min k Z := by
              have h1 := congrArg List.length HQT.out
              simp only [List.length_map] at h1
              rw [h1, Lf_len]
            rw [hln] at HLN
            have hk60 := HK60.out
            have hjj : j ≤ 40 := hj40
            have hfin := HS.out.own.n.below (Nat.le_refl _) (fun _ _ h => h.elim)
            have HF := Lib.hid hfin
            clear hfin hln HS HQT HW1 HW2 HW3 hsent hj40 hj3
            have hjn : j < n3 ∨ ¬ j < n3 := Nat.lt_or_ge _ _ |>.imp id (fun h => by omega)
            rcases Nat.lt_or_ge Z k with hkz | hkz
            · rw [show min k Z = Z by omega] at HLN
              rcases hjn with hlt | hlt
              · have hlt2 : ¬ j < 40 := fun h => hgo ⟨hlt, h⟩
                clear hgo hjj
                go_wp2_with fail
                refine HLN.out.mono ?_
                rintro e w4 ⟨rfl, rfl⟩
                go_wp2
                go_ret
                exact ⟨rfl, HF.out⟩
              · clear hgo hjj
                go_wp2_with fail
                refine HLN.out.mono ?_
                rintro e w4 ⟨rfl, rfl⟩
                go_wp2
                go_ret
                exact ⟨rfl, HF.out⟩
            · rw [show min k Z = k by omega] at HLN
              have hkz2 : ¬ Z < k := by omega
              rcases hjn with hlt | hlt
              · have hlt2 : ¬ j < 40 := fun h => hgo ⟨hlt, h⟩
                clear hgo hjj
                go_wp2_with fail
                refine HLN.out.mono ?_
                rintro e w4 ⟨rfl, rfl⟩
                go_wp2
                go_ret
                exact ⟨rfl, HF.out⟩
              · clear hgo hjj
                go_wp2_with fail
                refine HLN.out.mono ?_
                rintro e w4 ⟨rfl, rfl⟩
                go_wp2
                go_ret
                exact ⟨rfl, HF.out⟩
end Go.Proofs.Ytfdmgloimibioaa.rng
