/-
  DrrWaits: the law.
-/
import Derived.Test.YtcaloeolmoodbaaDrrFull
import Derived.Test.YtcaloeolmoodbaaArgs
import Derived.Test.YtcaloeolmoodbaaMask
import Derived.OwnWalk
namespace Go.Proofs.Ytcaloeolmoodbaa.drr
open Go.RowKit mem Go.Maps
set_option linter.unusedVariables false

def nz (T : List Nat) : List Int := T.map (fun (k : Nat) => (k : Int))
theorem nz_snoc (T : List Nat) (k : Nat) : nz (T ++ [k]) = nz T ++ [(k : Int)] := by unfold nz; exact List.map_append
theorem nz_len (T : List Nat) : (nz T).length = T.length := List.length_map _
theorem getD_l (a b : List Nat) (i : Nat) (h : i < a.length) : (a ++ b).getD i 0 = a.getD i 0 := by rw [List.getD_eq_getElem?_getD, List.getElem?_append_left h, ← List.getD_eq_getElem?_getD]
theorem getD_r (a b : List Nat) (i : Nat) (h : a.length ≤ i) : (a ++ b).getD i 0 = b.getD (i - a.length) 0 := by rw [List.getD_eq_getElem?_getD, List.getElem?_append_right h, ← List.getD_eq_getElem?_getD]
theorem off_push {w : World} {o : Obj} {vl v v' : Value} (h : ∀ g, vl.ownBlock = some g → v.ownBlock ≠ some g) (hl : ∀ g, vl.ownBlock = some g → g < w.heap.size) (hat : v'.ownBlock = v.ownBlock ∨ v'.ownBlock = some (w.alloc o).heap.size) : ∀ g, vl.ownBlock = some g → v'.ownBlock ≠ some g := by
  intro g hg e
  have e3 : (w.alloc o).heap.size = w.heap.size + 1 := by unfold World.alloc; exact Array.size_push _
  rcases hat with e2 | e2
  · exact h g hg (by rw [← e2]; exact e)
  · rw [e2] at e
    injection e with e
    have := hl g hg
    omega
/-- the turns so far -/
structure Tn (N : Nat) (T : List Nat) (last : Int) (t : Nat) : Prop where
  la : (T = [] ∧ last = -1) ∨ (last = (t : Int) ∧ ∃ pre, T = pre ++ [t])
  st : ∀ i, i + 1 < T.length → T.getD (i + 1) 0 = (T.getD i 0 + 1) % N
  bd : ∀ x ∈ T, x < N
theorem Tn.stay {N : Nat} {T : List Nat} {last : Int} {t t' : Nat} (h : Tn N T last t) (e : (t' : Int) = last) : Tn N T (t' : Int) t' := by
  refine ⟨?_, h.st, h.bd⟩
  rcases h.la with ⟨_, e2⟩ | ⟨e2, pre, e3⟩
  · omega
  · have : t' = t := by omega
    subst this
    exact .inr ⟨rfl, pre, e3⟩
theorem Tn.push {N : Nat} {T : List Nat} {last : Int} {t t' : Nat} (h : Tn N T last t) (e : (t' : Int) ≠ last) (ht : t' = t ∨ t' = (t + 1) % N) (hb : t' < N) : Tn N (T ++ [t']) (t' : Int) t' := by
  refine ⟨.inr ⟨rfl, T, rfl⟩, fun i hi => ?_, fun x hx => by
    rcases List.mem_append.1 hx with hx | hx
    · exact h.bd x hx
    · simp at hx; subst hx; exact hb⟩
  rw [List.length_append, List.length_singleton] at hi
  by_cases hlt : i + 1 < T.length
  · rw [getD_l _ _ _ hlt, getD_l _ _ _ (by omega)]
    exact h.st i hlt
  · have hi1 : i + 1 = T.length := by omega
    rw [hi1, getD_r _ _ _ (Nat.le_refl _), getD_l _ _ _ (by omega)]
    rcases h.la with ⟨e2, _⟩ | ⟨e2, pre, e3⟩
    · rw [e2] at hi1; simp at hi1
    · have hti : T.getD i 0 = t := by
        have : i = pre.length := by rw [e3] at hi1; simp at hi1; omega
        rw [e3, this, getD_r _ _ _ (Nat.le_refl _)]
        simp
      rw [hti]
      have : t' ≠ t := fun e4 => e (by rw [e2, e4])
      simp
      exact ht.resolve_left this
theorem Tn.at' {N : Nat} {T : List Nat} {last : Int} {t i : Nat} (h : Tn N T last t) (hi : i < T.length) : T.getD i 0 < N := by
  refine h.bd _ ?_
  rw [List.getD_eq_getElem?_getD, List.getElem?_eq_getElem hi]
  exact List.getElem_mem hi
theorem row_at {T : TypeId} {w : World} {v : Value} {l : List Int} (h : Owns itr.IntE T w v l) {i : Nat} (hi : i < l.length) : ∃ g c, v = .slice (some ⟨g, 0, none⟩) l.length c ∧ l.length ≤ c ∧ g < w.heap.size ∧ ∀ j, j < l.length → w.cell? ⟨g, j, none⟩ = some (.int .i64 (l.getD j 0)) := by
  obtain ⟨g, c, e, hc, hr, _⟩ := row_of_owns h (fun e => by rw [e] at hi; simp at hi)
  exact ⟨g, c, e, hc, hr.1, hr.2⟩
theorem nz_get (T : List Nat) (j : Nat) : (nz T).getD j 0 = ((T.getD j 0 : Nat) : Int) := by
  unfold nz
  rw [List.getD_eq_getElem?_getD, List.getD_eq_getElem?_getD, List.getElem?_map]
  cases T[j]? <;> rfl

set_option maxRecDepth 100000 in
set_option maxHeartbeats 8000000 in
theorem waits_law (a : Int) (ao : Option Addr) (n c : Nat) (z : Nat → Int) (r : Int) (w : World) (a0 : -9223372036854775808 ≤ a) (a1 : a ≤ 9223372036854775807) (h : args.IntRow .i64 w ao n c z) (r0 : -9223372036854775808 ≤ r) (r1 : r ≤ 9223372036854775807) :
    Calls Try.prog 6 #[.int .i64 a, .slice ao n c, .int .i64 r] w fun e w' => e = .returned (.bool true) ∧ Below w.heap.size w w' := by
  have HA := Lib.hid (fun w => awake w)
  obtain ⟨hn, hok, hrow⟩ := h
  have HROW := Lib.hid hrow
  have M6 := mask.mask6 a
  have hm0 : 0 ≤ a % 64 ∧ a % 64 < 64 := by omega
  obtain ⟨hm1, hm2⟩ := hm0
  have W1 : IntKind.i64.wrap (1 + a % 64) = 1 + a % 64 := IntWalk.i64_in _ (by omega)
  clear hok hrow
  go_enter Try.func6, Try.ntmps6
  go_upto_region 2 with fail
  clear M6 W1
  have HMS : Hid (1 ≤ 1 + a % 64 ∧ 1 + a % 64 ≤ 64) := Lib.hid (by omega)
  clear hm1 hm2 a0 a1
  generalize 1 + a % 64 = m at *
  obtain ⟨m1, m2⟩ := HMS.out
  have HN := Lib.hid (new_ok m w m1 (by omega))
  go_wp2_with fail
  refine HN.out.mono ?_
  rintro e w1 ⟨p, rfl, hs1, hn1, hp1⟩
  obtain ⟨mb, hmb⟩ : ∃ mb, w.heap.size = mb := ⟨_, rfl⟩
  have HR1 : Hid (Rn w w1 p w.heap.size 0 (.map []) (fresh m)) := Lib.hid ⟨hs1, hn1, hp1, Nat.le_refl _, (fun f hf => by cases hf)⟩
  rw [hmb] at HR1
  clear hs1 hn1 hp1 HN hmb
  go_wp2_with fail
  refine (HA.out _).mono ?_
  rintro e w2 ⟨rfl, n2⟩
  have HR2 := Lib.hid (HR1.out.later n2)
  clear n2 HR1
  have hlo : 0 ≤ min (n : Int) 6 := by omega
  obtain ⟨N, hN⟩ : ∃ N : Nat, min (n : Int) 6 = (N : Int) := ⟨_, (Int.toNat_of_nonneg hlo).symm⟩
  have hN6 : N ≤ 6 := by omega
  have hNn : N ≤ n := by omega
  have hlr : 0 ≤ min (max r 0) 200 := by omega
  obtain ⟨R, hR⟩ : ∃ R : Nat, min (max r 0) 200 = (R : Int) := ⟨_, (Int.toNat_of_nonneg hlr).symm⟩
  have hR200 : R ≤ 200 := by omega
  clear hlo hlr
  go_wp2_with fail
  go_loopw [10, 11, 36] (fun vl _ i wr => ∃ (k : Nat) (s : Sc) (D : DataW Unit), k ≤ N ∧ i = .int .i64 k ∧ Rn w wr p mb k D s ∧ Fu k m s 0 ∧ Wr HE HT w wr p mb s vl (hsN k (fun _ => m))) (fun _ _ i _ => N - (intOf i).toNat)
  case atStart => exact ⟨0, _, _, by omega, rfl, HR2.out, ⟨rfl, rfl, rfl⟩, ⟨Owns.nil _ _, (fun g hg => by simp [Value.ownBlock] at hg), (fun g hg => by simp [Value.ownBlock] at hg)⟩⟩
  case round =>
    obtain ⟨k, s, D, hk, rfl, hrn, hfu, hwr⟩ := hrel
    have HRN := Lib.hid hrn
    have HFU := Lib.hid hfu
    have HWR := Lib.hid hwr
    clear hrn hfu hwr HR2
    by_cases hlt : k < N
    · obtain ⟨b, off, rfl, hb, hc⟩ := HROW.out.resolve_left (by omega)
      have e0 := (HRN.out.n.cell (a := ⟨b, off + k, none⟩) hb (fun h => h)).trans (hc k (by omega))
      have M8 := mask.mask8 (z k)
      generalize z k = zk at *
      have hs0 : 0 ≤ zk % 256 ∧ zk % 256 < 256 := by omega
      have W2 : IntKind.i64.wrap (m + zk % 256) = m + zk % 256 := IntWalk.i64_in _ (by omega)
      have d1 : decide ((k : Int) < (N : Int)) = true := decide_eq_true (by omega)
      have i0 : (0 : Int) ≤ (k : Int) := by omega
      have i1 : (k : Int) < (n : Int) := by omega
      have HAD := Lib.hid (add_ok p mb k D s (k : Int) (m + zk % 256) wr HRN.out.ss (by rw [HFU.out.mo]; omega) (by omega) (by omega) (by omega) HFU.out.none (by omega))
      obtain ⟨hs1, hs2⟩ := hs0
      go_wp2_with fail
      refine HAD.out.mono ?_
      rintro e w5 ⟨rfl, hs5, ht5⟩
      have HR5 := Lib.hid (HRN.out.add hs5 ht5)
      have HW5 := Lib.hid (HWR.out.add ht5 (k : Int) (m + zk % 256))
      have HF5 := Lib.hid (HFU.out.add wr.heap.size (m + zk % 256))
      clear hs5 ht5 HAD hs1 hs2 W2 M8 e0
      generalize addS s (k : Int) wr.heap.size (m + zk % 256) = s5 at *
      generalize DataW.put D _ _ = D5 at *
      go_wp2_with (at_builtin; refine wpList_append_one (E := HE) Try.underlying51 infoH rfl (by decide) (by decide) rfl _ _ rfl _ (hsN k (fun _ => m)) ((k : Int), m) rfl (HW5.out.own.turns (S := fun _ => False) ((Turns.refl _ _).alloc _) (fun _ _ h => h)) w5.heap.size rfl (heap_alloc_new w5 _) (by rw [hsN_len]; omega) ?_; intro v6 w6 hown6 hgrow6 hat6; have HW6 := Lib.hid (HW5.out.push HR5.out.n HR5.out.ss hown6 hgrow6 hat6); have HR6 := Lib.hid (HR5.out.push HW5.out hgrow6); clear hown6 hgrow6 hat6)
      go_roundw
      case rel => exact ⟨k + 1, s5, D5, by omega, by go_num, HR6.out.1, HF5.out, by rw [hsN_succ]; exact HW6.out⟩
      case measure => simp [intOf]; omega
    · obtain rfl : k = N := by omega
      have HE0 : Hid (Wr itr.IntE 3 w (wr.alloc (.cells #[] 3)) p mb s (.slice (some ⟨wr.heap.size, 0, none⟩) 0 0) (nz [])) := Lib.hid ⟨World.ownsRow_made wr #[] 0 (Nat.zero_le _) (Nat.zero_le _) rfl, (fun g hg => by
        have : wr.heap.size = g := by simpa [Value.ownBlock] using hg
        rw [← this]; exact HRN.out.n.size), (fun g hg e => by
        have : wr.heap.size = g := by simpa [Value.ownBlock] using hg
        have := HRN.out.ss.foot g e
        omega)⟩
      have HR9 := Lib.hid (HRN.out.later ((Turns.refl _ _).alloc (.cells #[] 3)))
      have HW9 := Lib.hid (HWR.out.later ((Turns.refl _ _).alloc (.cells #[] 3)))
      have HVV : Hid (∀ g, u10.ownBlock = some g → g ≠ wr.heap.size) := Lib.hid (fun g hg e => by have := HWR.out.own.lt g hg; omega)
      have HT0 : Hid (Tn k [] (-1) 0) := Lib.hid ⟨.inl ⟨rfl, rfl⟩, (fun i hi => by simp at hi), (fun x hx => by cases hx)⟩
      clear HRN HWR hlt
      have HI0 : Hid (∃ (j : Nat) (s' : Sc) (t : Nat) (T : List Nat) (last : Int), j = 0 ∧ last = -1 ∧ T = [] ∧ Rn w (wr.alloc (.cells #[] 3)) p mb k D s' ∧ Fu k m s' t ∧ (0 < k → t < k) ∧ Wr HE HT w (wr.alloc (.cells #[] 3)) p mb s' u10 (hsN k (fun _ => m)) ∧ Wr itr.IntE 3 w (wr.alloc (.cells #[] 3)) p mb s' (.slice (some ⟨wr.heap.size, 0, none⟩) 0 0) (nz T) ∧ Tn k T last t ∧ (∀ g, u10.ownBlock = some g → (Value.slice (some ⟨wr.heap.size, 0, none⟩) 0 0).ownBlock ≠ some g)) := Lib.hid ⟨0, s, 0, [], -1, rfl, rfl, rfl, HR9.out, HFU.out, (fun h => h), HW9.out, HE0.out, HT0.out, fun g hg e => HVV.out g hg (by simpa [Value.ownBlock] using e.symm)⟩
      clear HR9 HW9 HE0 HT0 HVV HFU
      clear hN
      generalize k = N at *
      generalize u10 = vl at *
      go_wp2_with fail
      go_loopw [12, 13, 14, 15, 61] (fun ls vt _ _ i wr => ∃ (j : Nat) (s : Sc) (t : Nat) (T : List Nat) (last : Int), j ≤ R ∧ i = .int .i64 j ∧ ls = .int .i64 last ∧ T.length ≤ j ∧ Rn w wr p mb N D s ∧ Fu N m s t ∧ (0 < N → t < N) ∧ Wr HE HT w wr p mb s vl (hsN N (fun _ => m)) ∧ Wr itr.IntE 3 w wr p mb s vt (nz T) ∧ Tn N T last t ∧ (∀ g, vl.ownBlock = some g → vt.ownBlock ≠ some g)) (fun _ _ _ _ i _ => R - (intOf i).toNat)
      case atStart =>
        obtain ⟨j, s', t, T, last, rfl, rfl, rfl, h1, h2, h3, h4, h5, h6, h7⟩ := HI0.out
        exact ⟨0, s', t, [], -1, by omega, rfl, rfl, by simp, h1, h2, h3, h4, h5, h6, h7⟩
      case round =>
        obtain ⟨j, s, t, T, last, hj, rfl, rfl, hTl, hrn, hfu, htn, hwl, hwt, htt, hvv⟩ := hrel
        have HRN := Lib.hid hrn
        have HFU := Lib.hid hfu
        have HWL := Lib.hid hwl
        have HWT := Lib.hid hwt
        have HTT := Lib.hid htt
        have HVV := Lib.hid hvv
        clear hrn hfu hwl hwt htt hvv HI0
        by_cases hjr : j < R
        · have d1 : decide ((j : Int) < (R : Int)) = true := decide_eq_true (by omega)
          rcases Nat.eq_zero_or_pos N with hN0 | hN0
          · subst hN0
            have HCH := Lib.hid (choose_nil p mb 0 D s vl wr HRN.out.ss (hrow_owns HWL.out.own))
            go_wp2_with fail
            refine HCH.out.mono ?_
            rintro e w5 ⟨rfl, hl5⟩
            have HNE : Hid (New w w5) := Lib.hid (HRN.out.call hl5 (Sim.choose [] s)).n
            have HOE : Hid (Owns itr.IntE 3 w5 u13 (nz T)) := Lib.hid (HWT.out.call hl5.2 (Sim.choose [] s)).own
            have hT0 : T.length = 0 := by
              cases T with
              | nil => rfl
              | cons x r => exact absurd (HTT.out.bd x List.mem_cons_self) (Nat.not_lt_zero _)
            have HT0 := Lib.hid hT0
            clear hl5 HCH HRN HWL HWT HFU HVV HTT hT0
            obtain ⟨aT, cT, hvT, _, _⟩ := HOE.out.form
            rw [nz_len] at hvT
            subst hvT
            go_wp2_with fail
            go_loopw [16, 17, 89] (fun _ _ i wr => ∃ q : Nat, q ≤ T.length ∧ i = .int .i64 q ∧ New w wr) (fun _ _ i _ => T.length - (intOf i).toNat)
            case atStart => exact ⟨0, by omega, rfl, HNE.out⟩
            case round =>
              obtain ⟨q, hq, rfl, hnx⟩ := hrel
              have HNX := Lib.hid hnx
              clear hnx HNE HOE
              obtain rfl : q = T.length := by have := HT0.out; omega
              go_wp2
              go_ret
              exact ⟨rfl, HNX.out.below (Nat.le_refl _) (fun _ _ h => h.elim)⟩
          · have htN := htn hN0
            have d6 : decide ((0 : Int) < (N : Int)) = true := decide_eq_true (by omega)
            obtain ⟨t', ht', hct⟩ := choose_turn HFU.out (fun _ => m) htN
            have htb : t' < N := by
              rcases ht' with e | e
              · omega
              · rw [e]; exact Nat.mod_lt _ hN0
            have hcc := choose_cons p mb N D s (hsN N (fun _ => m)) vl wr HRN.out.ss (hrow_owns HWL.out.own) (HFU.out.ok (fun _ _ => ⟨by omega, Int.le_refl _⟩)) (hs_ne hN0) (by rw [hsN_len]; omega) (by rw [hsN_ids]; intro x hx; obtain ⟨i, hi, rfl⟩ := natL_mem.1 hx; omega)
            rw [hct] at hcc
            have HCH := Lib.hid hcc
            have HSI := Lib.hid (Sim.choose (hsN N (fun _ => m)) s)
            have HF5 := Lib.hid (HFU.out.sim HSI.out hct)
            generalize chooseS (hsN N (fun _ => m)) s = s5 at *
            have HTK := Lib.hid (fun w5 (h : Ss w5 p mb N D s5) => take p mb N D s5 m w5 h (by omega))
            have HST := Lib.hid (Sim.take s5 m)
            have HF6 := Lib.hid (HF5.out.sim HST.out (by unfold takeS; split <;> exact HF5.out.tu))
            generalize takeS m s5 = s6 at *
            clear hcc hct
            go_wp2_with fail
            refine HCH.out.mono ?_
            rintro e w5 ⟨rfl, hl5⟩
            have HR5 := Lib.hid (HRN.out.call hl5 HSI.out)
            have HL5 := Lib.hid (HWL.out.call hl5.2 HSI.out)
            have HV5 := Lib.hid (HWT.out.call hl5.2 HSI.out)
            have HT5 := Lib.hid (HTK.out w5 hl5.1)
            clear hl5 HCH HTK HRN HWL HWT
            go_wp2_with fail
            refine HT5.out.mono ?_
            rintro e w7 ⟨rfl, hl7⟩
            have HR7 := Lib.hid (HR5.out.call hl7 HST.out)
            have HL7 := Lib.hid (HL5.out.call hl7.2 HST.out)
            have HV7 := Lib.hid (HV5.out.call hl7.2 HST.out)
            clear hl7 HT5 HR5 HL5 HV5
            by_cases hla : (t' : Int) = last
            · have HTS := Lib.hid (HTT.out.stay hla)
              have d7 : ((t' : Int) != last) = false := by simp [hla]
              clear hla
              go_wp2_with fail
              go_roundw
              case rel => exact ⟨j + 1, s6, t', T, (t' : Int), by omega, by go_num, rfl, by omega, HR7.out, HF6.out, (fun _ => htb), HL7.out, HV7.out, HTS.out, HVV.out⟩
              case measure => simp [intOf]; omega
            · have HTS := Lib.hid (HTT.out.push hla ht' htb)
              have d7 : ((t' : Int) != last) = true := by simp [hla]
              clear hla
              go_wp2_with (at_builtin; refine wpList_append_one (E := itr.IntE) Try.underlying45 infoI rfl (by decide) (by decide) rfl _ _ rfl _ (nz T) (t' : Int) rfl (HV7.out.own.turns (S := fun _ => False) ((Turns.refl _ _).alloc _) (fun _ _ h => h)) w7.heap.size rfl (heap_alloc_new w7 _) (by rw [nz_len]; omega) ?_; intro v8 w8 hown8 hgrow8 hat8; have HV8 := Lib.hid (HV7.out.push HR7.out.n HR7.out.ss hown8 hgrow8 hat8); have HR8 := Lib.hid (HR7.out.push HV7.out hgrow8); have HL8 : Hid (Wr HE HT w w8 p mb s6 vl (hsN N (fun _ => m))) := Lib.hid ⟨HL7.out.own.turns HR8.out.2 (fun g hg e => HVV.out g hg e.symm), HL7.out.vb, HL7.out.off⟩; have HVV8 := Lib.hid (off_push HVV.out HL7.out.own.lt hat8); clear hown8 hgrow8 hat8)
              go_roundw
              case rel => exact ⟨j + 1, s6, t', T ++ [t'], (t' : Int), by omega, by go_num, rfl, by simp; omega, HR8.out.1, HF6.out, (fun _ => htb), HL8.out, by rw [nz_snoc]; exact HV8.out, HTS.out, HVV8.out⟩
              case measure => simp [intOf]; omega
        · obtain rfl : j = R := by omega
          have HNE : Hid (New w wr) := Lib.hid HRN.out.n
          have HOE : Hid (Owns itr.IntE 3 wr u13 (nz T)) := Lib.hid HWT.out.own
          have HTE := HTT
          clear HRN HWL HWT HFU HVV HTT
          obtain ⟨aT, cT, hvT, _, _⟩ := HOE.out.form
          rw [nz_len] at hvT
          subst hvT
          go_wp2_with fail
          go_loopw [16, 17, 89] (fun _ _ i wr => ∃ q : Nat, q ≤ T.length ∧ i = .int .i64 q ∧ New w wr ∧ Owns itr.IntE 3 wr (.slice aT T.length cT) (nz T)) (fun _ _ i _ => T.length - (intOf i).toNat)
          case atStart => exact ⟨0, by omega, rfl, HNE.out, HOE.out⟩
          case round =>
            obtain ⟨q, hq, rfl, hnx, hox⟩ := hrel
            have HNX := Lib.hid hnx
            have HOX := Lib.hid hox
            clear hnx hox HNE HOE
            by_cases hlt : q < T.length
            · have d4 : decide ((q : Int) < (T.length : Int)) = true := decide_eq_true (by omega)
              have i0 : (0 : Int) ≤ (q : Int) := by omega
              have i1 : (q : Int) < (T.length : Int) := by omega
              obtain ⟨g, cc, hv, hcc, hg, hcell⟩ := row_at HOX.out (i := q) (by rw [nz_len]; exact hlt)
              rw [nz_len] at hv
              have hc0 := hcell q (by rw [nz_len]; exact hlt)
              rw [nz_get] at hc0
              obtain rfl : aT = some ⟨g, 0, none⟩ := by injection hv
              cases q with
              | zero =>
                clear hcell
                go_wp2_with fail
                go_roundw
                case rel => exact ⟨1, by omega, by go_num, HNX.out, HOX.out⟩
                case measure => simp [intOf]; omega
              | succ q =>
                have hst := HTE.out.st q hlt
                have hc1 := hcell q (by rw [nz_len]; omega)
                rw [nz_get] at hc1
                have hx0 := HTE.out.at' (i := q) (by omega)
                have hz : ((N : Int) == 0) = false := by simp; omega
                rw [hst] at hc0
                clear hst hcell
                generalize T.getD q 0 = x0 at *
                have hM : ((x0 : Int) + 1) % (N : Int) = (((x0 + 1) % N : Nat) : Int) := by rw [Int.natCast_emod]; rfl
                generalize (x0 + 1) % N = x1 at *
                have W3 : IntKind.i64.wrap ((x0 : Int) + 1) = (x0 : Int) + 1 := IntWalk.i64_in _ (by omega)
                have hq1 : ((q + 1 : Nat) : Int) = (q : Int) + 1 := by omega
                rw [hq1] at i0 i1 d4
                have W4 : IntKind.i64.wrap ((q : Int) + 1 - 1) = (q : Int) := by rw [show (q : Int) + 1 - 1 = q by omega]; exact IntWalk.i64_in _ (by omega)
                have W5 : IntKind.i64.wrap ((q : Int) + 1 + 1) = (q : Int) + 1 + 1 := IntWalk.i64_in _ (by omega)
                have j0 : (0 : Int) ≤ (q : Int) := by omega
                have j1 : (q : Int) < (T.length : Int) := by omega
                have d5 : decide ((0 : Int) < (q : Int) + 1) = true := decide_eq_true (by omega)
                go_wp2_with fail
                go_roundw
                case rel => exact ⟨q + 2, by omega, by go_num, HNX.out, HOX.out⟩
                case measure => simp [intOf]; omega
            · obtain rfl : q = T.length := by omega
              go_wp2
              go_ret
              exact ⟨rfl, HNX.out.below (Nat.le_refl _) (fun _ _ h => h.elim)⟩
end Go.Proofs.Ytcaloeolmoodbaa.drr
