/-
  LedgerLate: the law.
-/
import Derived.Test.YtnpaajmcahlloaaLedEnds
import Derived.Test.YtnpaajmcahlloaaLedLate
import Derived.Test.YtnpaajmcahlloaaMapU
namespace Go.Proofs.Ytnpaajmcahlloaa.led
open Go.RowKit mem Go.Maps
open ints (IE IT ST infoI)
set_option linter.unusedVariables false

theorem law50 : Keyed Try.prog 3 := int_keyed Try.underlying3
theorem zeroI (w : World) : (zeroValue 3).run Try.prog w = .ok (.int .i64 0) w := by kernel_rfl
theorem keyI {n : Int} (n0 : -9223372036854775808 ≤ n) (n1 : n ≤ 9223372036854775807) : keyOf Try.prog 3 (.int .i64 n) = some (.int .i64 n) :=
  keyOf_int_mk Try.underlying3 (by simp [Lit.wf, IntKind.min, IntKind.max, IntKind.bits, IntKind.signed]; omega)
theorem elem1 : plainElem (H := Unit) Try.prog 3 (.int .i64 1) = some (.lit (.int .i64 1), []) := plainElem_int Try.underlying3 (by simp [Lit.wf, IntKind.min, IntKind.max, IntKind.bits, IntKind.signed])

/-- the map counts the ends -/
structure Mv (D : DataW Unit) (L : List Fr) : Prop where
  tidy : Tidy D
  sz : size D = cnt 1 L
  at_ : ∀ (k : Nat) (x : Fr), L[k]? = some x → D.atKey (.int .i64 (k : Int)) (.lit (.int .i64 0)) = .lit (.int .i64 (if x.fate = 0 then 0 else 1))
  has : ∀ (k : Nat) (x : Fr), L[k]? = some x → x.fate = 0 → Maps.has D (.int .i64 (k : Int)) = false
  acc : ∀ (k : Nat) (x : Fr), L[k]? = some x → x.acc = k
theorem Mv.first (N : Nat) : Mv (.map []) (firstL N) := by
  have hf : ∀ (k : Nat) (x : Fr), (firstL N)[k]? = some x → x = ⟨(k : Int), 0, 0⟩ := by
    intro k x hx
    unfold firstL at hx
    rw [List.getElem?_map] at hx
    cases hr : (List.range N)[k]? with
    | none => rw [hr] at hx; cases hx
    | some y =>
      rw [hr] at hx
      have h1 := List.getElem?_eq_some_iff.1 hr
      obtain ⟨h2, h3⟩ := h1
      rw [List.getElem_range] at h3
      subst h3
      injection hx with hx
      exact hx.symm
  refine ⟨tidy_empty, ?_, fun k x hx => ?_, fun k x hx _ => rfl, fun k x hx => by rw [hf k x hx]⟩
  · show 0 = cnt 1 (firstL N)
    unfold cnt
    symm
    rw [List.countP_eq_zero]
    intro x hx
    obtain ⟨k, hk⟩ := List.mem_iff_getElem?.1 hx
    rw [hf k x hk]; exact (by decide : ¬ ((0 : Int) == 1) = true)
  · rw [hf k x hx]; rfl
theorem Mv.put {D : DataW Unit} {L : List Fr} (h : Mv D L) {k : Nat} {x : Fr} (hx : L[k]? = some x) (h0 : x.fate = 0) (now : Int) : Mv (D.put (.int .i64 (k : Int)) (.lit (.int .i64 1))) (L.set k (endX x 1 now)) := by
  have hlit : WideAt.IsKeyLit (.int .i64 (k : Int)) := trivial
  have hk := (List.getElem?_eq_some_iff.1 hx).1
  refine ⟨h.tidy.put hlit _, ?_, fun j y hy => ?_, fun j y hy hp => ?_, fun j y hy => ?_⟩
  · rw [size_put h.tidy, h.has k x hx h0]
    simp only [Bool.false_eq_true, if_false]
    have h1 := cnt_set (endX x 1 now) hx 1
    rw [h0] at h1
    have h2 := h.sz
    have h3 : (endX x 1 now).fate = 1 := rfl
    rw [h3] at h1
    simp at h1
    omega
  · by_cases e : j = k
    · subst e
      rw [List.getElem?_set_self hk] at hy
      injection hy with hy
      rw [← hy, atKey_put_same h.tidy.isMap hlit]
      rfl
    · rw [List.getElem?_set_ne (by omega)] at hy
      rw [atKey_put_other (fun e2 => e (by injection e2 with _ e2; omega))]
      exact h.at_ j y hy
  · by_cases e : j = k
    · subst e
      rw [List.getElem?_set_self hk] at hy
      injection hy with hy
      rw [← hy] at hp
      exact absurd hp (by show ¬ (1 : Int) = 0; decide)
    · rw [List.getElem?_set_ne (by omega)] at hy
      rw [has_put_other (fun e2 => e (by injection e2 with _ e2; omega))]
      exact h.has j y hy hp
  · by_cases e : j = k
    · subst e
      rw [List.getElem?_set_self hk] at hy
      injection hy with hy
      rw [← hy]
      exact h.acc j x hx
    · rw [List.getElem?_set_ne (by omega)] at hy
      exact h.acc j y hy

theorem lateU_prefix (L : List Fr) (now age : Int) {i j : Nat} (h : i ≤ j) : lateU L now age i <+: lateU L now age j := by
  induction j with
  | zero => obtain rfl : i = 0 := by omega
            exact List.prefix_refl _
  | succ j ih =>
    by_cases e : i = j + 1
    · subst e; exact List.prefix_refl _
    · have h1 := ih (by omega)
      conv => rhs; unfold lateU
      split
      · split
        · exact h1.trans (List.prefix_append _ _)
        · exact h1
      · exact h1
theorem lateU_get {L : List Fr} {now age : Int} {i n : Nat} {x : Fr} (hx : L[i]? = some x) (hb : lateB now age x = true) (hn : i < n) : (lateU L now age n)[(lateU L now age i).length]? = some (i : Int) := by
  have h1 := lateU_step hx now age
  rw [hb, if_pos rfl] at h1
  obtain ⟨t, ht⟩ := lateU_prefix L now age (show i + 1 ≤ n by omega)
  rw [← ht, h1]
  simp

/-- the state of LedgerLate -/
structure El (w wr : World) (p mb mn : Nat) (v : Value) (L : List Fr) (i : Nat) (D : DataW Unit) : Prop where
  o : Own w wr p v L i
  m : wr.ownsMap Try.prog 3 (plainElem Try.prog 3) mb mn D
  le : w.heap.size ≤ mb
  mv : Mv D L
theorem El.later {w wr w2 : World} {p mb mn : Nat} {v : Value} {L : List Fr} {i : Nat} {D : DataW Unit} (h : El w wr p mb mn v L i D) (n : New wr w2) : El w w2 p mb mn v L i D := ⟨h.o.later n, ownsMap_turns h.m n (fun h => h), h.le, h.mv⟩
theorem El.map_lft {w wr w2 : World} {p mb mn : Nat} {v v2 : Value} {L L2 : List Fr} {i j : Nat} {D : DataW Unit} (h : El w wr p mb mn v L i D) (k : Lft wr w2 p v v2 L2 j) : w2.ownsMap Try.prog 3 (plainElem Try.prog 3) mb mn D :=
  ownsMap_turns h.m k.t (fun e => by
    rcases e with e | e
    · exact ownsMap_ne h.m h.o.bk.blk e
    · exact ownsMap_ne_row h.m h.o.bk.own mb e.symm rfl)
theorem El.put {w wr w2 : World} {p mb mn : Nat} {v : Value} {L : List Fr} {i : Nat} {D D' : DataW Unit} (ho : Own w wr p v L i) (hm : wr.ownsMap Try.prog 3 (plainElem Try.prog 3) mb mn D) (le : w.heap.size ≤ mb) (mv : Mv D' L)
    (h2 : w2.ownsMap Try.prog 3 (plainElem Try.prog 3) mb (mn + 1) D') (hg : wr.grownBy w2 (some mb)) : El w w2 p mb (mn + 1) v L i D' := by
  have t : Turns (· = mb) wr w2 := (Turns.of_grown hg).mono (fun k _ hk => by injection hk)
  exact ⟨⟨ho.bk.turns t (fun e => ownsMap_ne hm ho.bk.blk e.symm) (fun g hg e => ownsMap_ne_row hm ho.bk.own g hg e.symm), ho.n.trans (t.mono (fun k _ hk => .inr (by rw [hk]; exact le))), ho.p0, ho.vb⟩, h2, le, mv⟩

set_option maxRecDepth 10000 in
set_option maxHeartbeats 2000000 in
theorem latelaw (a b : Int) (ao : Option Addr) (n c : Nat) (z : Nat → Int) (w : World) (a0 : -9223372036854775808 ≤ a) (a1 : a ≤ 9223372036854775807) (b0 : -9223372036854775808 ≤ b) (b1 : b ≤ 9223372036854775807) (h : args.IntRow .i64 w ao n c z) :
    Calls Try.prog 6 #[.int .i64 a, .int .i64 b, .slice ao n c] w fun e w' => e = .returned (.bool true) ∧ Below w.heap.size w w' := by
  have HA := Lib.hid (awake w)
  obtain ⟨hn, _, hrow⟩ := h
  have HROW := Lib.hid hrow
  clear hrow
  unfold maxLen at hn
  have M5 := mask.mask5 a
  have M4 := mask.mask4 b
  obtain ⟨N, hN, hN1⟩ : ∃ N : Nat, a % 32 = (N : Int) ∧ N ≤ 31 := ⟨(a % 32).toNat, by omega, by omega⟩
  obtain ⟨age, hage, hage1⟩ : ∃ age : Nat, b % 16 = (age : Int) ∧ age ≤ 15 := ⟨(b % 16).toNat, by omega, by omega⟩
  rw [hN] at M5
  rw [hage] at M4
  clear hN hage
  go_enter Try.func6, Try.ntmps6
  go_wp2_with fail
  refine HA.out.mono ?_
  rintro e w1 ⟨rfl, n1⟩
  have HO := Lib.hid (zero n1)
  clear n1 HA
  go_upto_region 5 with fail
  refine (show Code.wp _ _ _ _ (w1.alloc (.cells #[.slice none 0 0, .int .i64 0, .int .i64 0, .int .i64 0, .int .i64 0, .int .i64 0] BT)) from ?_)
  generalize (w1.alloc (.cells #[.slice none 0 0, .int .i64 0, .int .i64 0, .int .i64 0, .int .i64 0, .int .i64 0] BT)) = w2 at *
  generalize w1.heap.size = p at *
  clear M4 M5 a0 a1 b0 b1
  go_wp2_with fail
  go_loopw [22] (fun i wr => ∃ (k : Nat) (v : Value), k ≤ N ∧ i = .int .i64 k ∧ Own w wr p v (firstL k) 0) (fun i _ => N - (intOf i).toNat)
  case atStart => exact ⟨0, _, by omega, rfl, HO.out⟩
  case round =>
    obtain ⟨k, v, hk, rfl, ho⟩ := hrel
    have HO2 := Lib.hid ho
    clear ho HO
    by_cases hlt : k < N
    · have d1 : decide ((k : Int) < (N : Int)) = true := decide_eq_true (by omega)
      have hfl := firstL_len k
      have HAC := Lib.hid (accept p v (firstL k) 0 (k : Int) wr HO2.out.bk (by omega) (by omega) (by omega))
      go_wp2_with fail
      refine HAC.out.mono ?_
      rintro e w4 ⟨v4, rfl, l4⟩
      have HO4 := Lib.hid (HO2.out.lft l4)
      clear l4 HAC
      go_wp2_with fail
      go_roundw
      case rel => exact ⟨k + 1, v4, by omega, by go_num, by rw [firstL_succ]; exact HO4.out⟩
      case measure => simp [intOf]; omega
    · obtain rfl : k = N := by omega
      have d1 : decide ((k : Int) < (k : Int)) = false := decide_eq_false (by omega)
      have HE0 : Hid (El w (wr.alloc (.map #[] 0)) p wr.heap.size 0 v (firstL k) 0 (.map [])) := Lib.hid ⟨HO2.out.later ((Turns.refl _ _).alloc _), World.ownsMap_made _ _ _ _, HO2.out.n.size, Mv.first k⟩
      clear hlt HO2
      have hmm := @run_makeMap Try.prog
      go_upto_region 11 with fail
      clear hmm
      refine (show Code.wp _ _ _ _ (wr.alloc (.map #[] 0)) from ?_)
      generalize wr.alloc (.map #[] 0) = wo at *
      generalize wr.heap.size = mb at *
      go_wp2_with fail
      go_loopw [10] (fun i wx => ∃ (i' j mn : Nat) (L : List Fr) (D : DataW Unit), i' ≤ 20 ∧ i' ≤ n ∧ i = .int .i64 i' ∧ mn ≤ i' ∧ L.length = k ∧ El w wx p mb mn v L j D) (fun i _ => 20 - (intOf i).toNat)
      case atStart => exact ⟨0, 0, 0, _, _, by omega, by omega, rfl, by omega, firstL_len k, HE0.out⟩
      case round =>
        obtain ⟨i, j, mn, L, D, hi, hin, rfl, hmn, hlk, he⟩ := hrel
        rename World => wx
        have HE := Lib.hid he
        have HLK := Lib.hid hlk
        clear he HE0 hlk
        by_cases hgo : i < n ∧ i < 20
        · obtain ⟨h1, h2⟩ := hgo
          obtain ⟨b0, off, rfl, hb, hc⟩ := HROW.out.resolve_left (by omega)
          have e0 := (HE.out.o.n.cell (a := ⟨b0, off + i, none⟩) hb (fun h => h)).trans (hc i h1)
          have M5 := mask.mask5 (z i)
          generalize z i = zi at *
          obtain ⟨kk, hkk, hkk1⟩ : ∃ kk : Nat, zi % 32 = (kk : Int) ∧ kk ≤ 31 := ⟨(zi % 32).toNat, by omega, by omega⟩
          rw [hkk] at M5
          have d1 : decide ((i : Int) < (n : Int)) = true := decide_eq_true (by omega)
          have d2 : decide ((i : Int) < 20) = true := decide_eq_true (by omega)
          have j2 : (i : Int) < (n : Int) := by omega
          have HEN := Lib.hid (end_ p v L j (kk : Int) 1 50 wx HE.out.o.bk (by omega) (by omega))
          clear hc hkk
          by_cases hx : ∃ x, L[kk]? = some x ∧ x.fate = 0
          · obtain ⟨x, hx, h0⟩ := hx
            have hee := end_ok (f := 1) 50 hx (by omega) h0
            rw [hee.1, hee.2] at HEN
            have HX := Lib.hid (And.intro hx h0)
            have HMV := Lib.hid (HE.out.mv.put hx h0 50)
            have HAT := HE.out.mv.at_ kk x hx
            rw [if_pos h0] at HAT
            clear hee hx h0
            have HAT := Lib.hid HAT
            have HKEY := Lib.hid (keyI (n := (kk : Int)) (by omega) (by omega))
            have hm20 : mn < maxLen := by unfold maxLen; omega
            have HMN := Lib.hid hm20
            clear hm20
            go_wp2_with fail
            refine HEN.out.mono ?_
            rintro e w5 ⟨rfl, j5, l5⟩
            have HO5 := Lib.hid (HE.out.o.lft l5)
            have HM5 := Lib.hid (HE.out.map_lft l5)
            clear l5 HEN e0
            go_wp2_with (first
              | (at_lookup; refine wpList_look_int rfl _ _ 51 rfl 3 3 .i64 law50 Try.underlying51 Try.underlying3 (zeroI _) mb mn D rfl HM5.out _ _ rfl HKEY.out _ HAT.out ?_)
              | (at_mapUpdate; refine wpList_mapUpdate_own _ rfl _ _ _ 51 rfl 3 3 law50 Try.underlying51 (plainElem Try.prog 3) mb mn D rfl HM5.out HMN.out _ _ _ rfl rfl HKEY.out _ [] elem1 ?_; intro wm hownm hgrowm))
            have HE6 := Lib.hid (El.put HO5.out HM5.out HE.out.le HMV.out hownm hgrowm)
            clear hownm hgrowm
            go_roundw
            case rel => exact ⟨i + 1, j5, mn + 1, _, _, by omega, by omega, by go_num, by omega, by rw [List.length_set]; exact HLK.out, HE6.out⟩
            case measure => simp [intOf]; omega
          · have hee : endL L (kk : Int) 1 50 = L ∧ (endE L (kk : Int) 1 == 0) = false := by
              cases hh : hasB L (kk : Int)
              · have := end_none (f := 1) 50 hh
                exact ⟨this.2, by rw [this.1]; rfl⟩
              · obtain ⟨k2, e2, x, hx2⟩ := hasB_at hh
                obtain rfl : kk = k2 := by omega
                have h0 : x.fate ≠ 0 := fun e => hx ⟨x, hx2, e⟩
                have := end_twice (f := 1) 50 hx2 (by omega) h0
                exact ⟨this.2, by rw [this.1]; rfl⟩
            rw [hee.1] at HEN
            have hz := hee.2
            clear hee hx
            generalize endE L (kk : Int) 1 = er at *
            go_wp2_with fail
            refine HEN.out.mono ?_
            rintro e w5 ⟨rfl, j5, l5⟩
            have HE5 : Hid (El w w5 p mb mn v L j5 D) := Lib.hid ⟨HE.out.o.lft l5, HE.out.map_lft l5, HE.out.le, HE.out.mv⟩
            clear l5 HEN e0
            go_wp2_with fail
            go_roundw
            case rel => exact ⟨i + 1, j5, mn, _, _, by omega, by omega, by go_num, by omega, HLK.out, HE5.out⟩
            case measure => simp [intOf]; omega
        · have hx : ¬ i < n ∨ (i < n ∧ ¬ i < 20) := by omega
          clear hgo
          have HLT := Lib.hid (late p v L j 40 (age : Int) wx HE.out.o.bk (by decide) (by decide))
          rcases hx with h1 | ⟨h1, h2⟩
          · go_wp2_with fail
            refine HLT.out.mono ?_
            rintro e w6 ⟨u, rfl, hg⟩
            have HE6 := Lib.hid (HE.out.later hg.n)
            have HSB := Lib.hid (hg.own.sub 0 (fun _ _ => Nat.zero_le _))
            have hfo := hg.own.form
            obtain ⟨ua, uc, hu, _⟩ := hfo
            have HUL := Lib.hid (lateU_len L 40 (age : Int) L.length)
            obtain ⟨ul, hul⟩ : ∃ ul, ul = (lateU L 40 (age : Int) L.length).length := ⟨_, rfl⟩
            have hulk : ul ≤ k := by rw [hul, ← HLK.out]; exact HUL.out
            rw [← hul] at hu
            have HU := Lib.hid (And.intro hu hul)
            have HSL := Lib.hid (hu ▸ HSB.out)
            subst hu
            clear hg HE HLT HUL hul HSB
            go_wp2_with fail
            go_loopw [12, 54] (fun at_ i wy => ∃ (q : Nat), q ≤ k ∧ i = .int .i64 q ∧ at_ = .int .i64 (lateU L 40 (age : Int) q).length ∧ wy = w6) (fun _ i _ => k - (intOf i).toNat)
            case atStart => exact ⟨0, by omega, rfl, rfl, rfl⟩
            case round =>
              obtain ⟨q, hq, rfl, rfl, rfl⟩ := hrel
              by_cases hlt : q < k
              · obtain ⟨x, hx⟩ : ∃ x, L[q]? = some x := ⟨_, List.getElem?_eq_getElem (by rw [HLK.out]; exact hlt)⟩
                have d1 : decide ((q : Int) < (k : Int)) = true := decide_eq_true (by omega)
                have HAT := HE6.out.mv.at_ q x hx
                have hac := HE6.out.mv.acc q x hx
                have HST := Lib.hid (lateU_step hx 40 (age : Int))
                have hlb : lateB 40 (age : Int) x = (decide (x.fate = 0) && decide ((age : Int) ≤ 40 - (q : Int))) := by unfold lateB; rw [hac]
                have HKEY := Lib.hid (keyI (n := (q : Int)) (by omega) (by omega))
                have W1 : IntKind.i64.wrap (40 - (q : Int)) = 40 - (q : Int) := IntWalk.i64_in _ (by omega)
                have HLU := lateU_len L 40 (age : Int) q
                by_cases h0 : x.fate = 0
                · rw [if_pos h0] at HAT
                  have HAT := Lib.hid HAT
                  by_cases ha : (age : Int) ≤ 40 - (q : Int)
                  · have hb : lateB 40 (age : Int) x = true := by rw [hlb]; simp [h0, ha]
                    have hgt := lateU_get hx hb (n := L.length) (by rw [HLK.out]; exact hlt)
                    rw [hb, if_pos rfl] at HST
                    have hne : lateU L 40 (age : Int) L.length ≠ [] := by intro e; rw [e] at hgt; simp at hgt
                    obtain ⟨g, o, c2, hv, _, _, _, hcell⟩ := ints.Sub.at_ HSL.out hne
                    obtain ⟨hlt2, hge⟩ := List.getElem?_eq_some_iff.1 hgt
                    have hcl := hcell _ hlt2
                    rw [hge] at hcl
                    rw [← HU.out.2] at hv hlt2
                    injection hv with hv1 _ hv3
                    subst hv1 hv3
                    have da : decide (40 - (q : Int) < (age : Int)) = false := decide_eq_false (by omega)
                    clear hx hac hlb h0 ha hb hgt hne hcell hge
                    generalize hql : (lateU L 40 (age : Int) q).length = ql at *
                    have HQL := Lib.hid hql
                    clear hql
                    have db : decide ((ul : Int) ≤ (ql : Int)) = false := decide_eq_false (by omega)
                    have i1 : (ql : Int) < (ul : Int) := by omega
                    go_wp2_with (at_lookup; refine wpList_look_int rfl _ _ 51 rfl 3 3 .i64 law50 Try.underlying51 Try.underlying3 (zeroI _) mb mn D rfl HE6.out.m _ _ rfl HKEY.out _ HAT.out ?_)
                    go_roundw
                    case rel => exact ⟨q + 1, by omega, by go_num, by rw [HST.out, List.length_append, HQL.out]; simp, by trivial⟩
                    case measure => simp [intOf]; omega
                  · have hb : lateB 40 (age : Int) x = false := by rw [hlb]; simp [ha]
                    rw [hb, if_neg (by decide)] at HST
                    have da : decide (40 - (q : Int) < (age : Int)) = true := decide_eq_true (by omega)
                    clear hx hac hlb h0 ha hb
                    go_wp2_with (at_lookup; refine wpList_look_int rfl _ _ 51 rfl 3 3 .i64 law50 Try.underlying51 Try.underlying3 (zeroI _) mb mn D rfl HE6.out.m _ _ rfl HKEY.out _ HAT.out ?_)
                    go_roundw
                    case rel => exact ⟨q + 1, by omega, by go_num, by rw [HST.out], by trivial⟩
                    case measure => simp [intOf]; omega
                · rw [if_neg h0] at HAT
                  have HAT := Lib.hid HAT
                  have hb : lateB 40 (age : Int) x = false := by rw [hlb]; simp [h0]
                  rw [hb, if_neg (by decide)] at HST
                  clear hx hac hlb h0 hb
                  go_wp2_with (at_lookup; refine wpList_look_int rfl _ _ 51 rfl 3 3 .i64 law50 Try.underlying51 Try.underlying3 (zeroI _) mb mn D rfl HE6.out.m _ _ rfl HKEY.out _ HAT.out ?_)
                  go_roundw
                  case rel => exact ⟨q + 1, by omega, by go_num, by rw [HST.out], by trivial⟩
                  case measure => simp [intOf]; omega
              · obtain rfl : q = k := by omega
                have d1 : decide ((q : Int) < (q : Int)) = false := decide_eq_false (by omega)
                have hq2 : (lateU L 40 (age : Int) q).length = ul := by rw [HU.out.2, HLK.out]
                rw [hq2]
                have HC := Lib.hid (count p v L j 1 _ HE6.out.o.bk)
                have hcn : cntF 1 L = size D := by
                  unfold cntF
                  rw [if_pos (by decide), HE6.out.mv.sz]
                rw [hcn] at HC
                clear hcn hlt hq2
                go_wp2_with fail
                refine HC.out.mono ?_
                rintro e w7 ⟨rfl, rfl⟩
                have hml := HE6.out.m.len Try.underlying51 3
                go_wp2_with fail
                go_ret
                exact ⟨rfl, HE6.out.o.below⟩
          · go_wp2_with fail
            refine HLT.out.mono ?_
            rintro e w6 ⟨u, rfl, hg⟩
            have HE6 := Lib.hid (HE.out.later hg.n)
            have HSB := Lib.hid (hg.own.sub 0 (fun _ _ => Nat.zero_le _))
            have hfo := hg.own.form
            obtain ⟨ua, uc, hu, _⟩ := hfo
            have HUL := Lib.hid (lateU_len L 40 (age : Int) L.length)
            obtain ⟨ul, hul⟩ : ∃ ul, ul = (lateU L 40 (age : Int) L.length).length := ⟨_, rfl⟩
            have hulk : ul ≤ k := by rw [hul, ← HLK.out]; exact HUL.out
            rw [← hul] at hu
            have HU := Lib.hid (And.intro hu hul)
            have HSL := Lib.hid (hu ▸ HSB.out)
            subst hu
            clear hg HE HLT HUL hul HSB
            go_wp2_with fail
            go_loopw [12, 54] (fun at_ i wy => ∃ (q : Nat), q ≤ k ∧ i = .int .i64 q ∧ at_ = .int .i64 (lateU L 40 (age : Int) q).length ∧ wy = w6) (fun _ i _ => k - (intOf i).toNat)
            case atStart => exact ⟨0, by omega, rfl, rfl, rfl⟩
            case round =>
              obtain ⟨q, hq, rfl, rfl, rfl⟩ := hrel
              by_cases hlt : q < k
              · obtain ⟨x, hx⟩ : ∃ x, L[q]? = some x := ⟨_, List.getElem?_eq_getElem (by rw [HLK.out]; exact hlt)⟩
                have d1 : decide ((q : Int) < (k : Int)) = true := decide_eq_true (by omega)
                have HAT := HE6.out.mv.at_ q x hx
                have hac := HE6.out.mv.acc q x hx
                have HST := Lib.hid (lateU_step hx 40 (age : Int))
                have hlb : lateB 40 (age : Int) x = (decide (x.fate = 0) && decide ((age : Int) ≤ 40 - (q : Int))) := by unfold lateB; rw [hac]
                have HKEY := Lib.hid (keyI (n := (q : Int)) (by omega) (by omega))
                have W1 : IntKind.i64.wrap (40 - (q : Int)) = 40 - (q : Int) := IntWalk.i64_in _ (by omega)
                have HLU := lateU_len L 40 (age : Int) q
                by_cases h0 : x.fate = 0
                · rw [if_pos h0] at HAT
                  have HAT := Lib.hid HAT
                  by_cases ha : (age : Int) ≤ 40 - (q : Int)
                  · have hb : lateB 40 (age : Int) x = true := by rw [hlb]; simp [h0, ha]
                    have hgt := lateU_get hx hb (n := L.length) (by rw [HLK.out]; exact hlt)
                    rw [hb, if_pos rfl] at HST
                    have hne : lateU L 40 (age : Int) L.length ≠ [] := by intro e; rw [e] at hgt; simp at hgt
                    obtain ⟨g, o, c2, hv, _, _, _, hcell⟩ := ints.Sub.at_ HSL.out hne
                    obtain ⟨hlt2, hge⟩ := List.getElem?_eq_some_iff.1 hgt
                    have hcl := hcell _ hlt2
                    rw [hge] at hcl
                    rw [← HU.out.2] at hv hlt2
                    injection hv with hv1 _ hv3
                    subst hv1 hv3
                    have da : decide (40 - (q : Int) < (age : Int)) = false := decide_eq_false (by omega)
                    clear hx hac hlb h0 ha hb hgt hne hcell hge
                    generalize hql : (lateU L 40 (age : Int) q).length = ql at *
                    have HQL := Lib.hid hql
                    clear hql
                    have db : decide ((ul : Int) ≤ (ql : Int)) = false := decide_eq_false (by omega)
                    have i1 : (ql : Int) < (ul : Int) := by omega
                    go_wp2_with (at_lookup; refine wpList_look_int rfl _ _ 51 rfl 3 3 .i64 law50 Try.underlying51 Try.underlying3 (zeroI _) mb mn D rfl HE6.out.m _ _ rfl HKEY.out _ HAT.out ?_)
                    go_roundw
                    case rel => exact ⟨q + 1, by omega, by go_num, by rw [HST.out, List.length_append, HQL.out]; simp, by trivial⟩
                    case measure => simp [intOf]; omega
                  · have hb : lateB 40 (age : Int) x = false := by rw [hlb]; simp [ha]
                    rw [hb, if_neg (by decide)] at HST
                    have da : decide (40 - (q : Int) < (age : Int)) = true := decide_eq_true (by omega)
                    clear hx hac hlb h0 ha hb
                    go_wp2_with (at_lookup; refine wpList_look_int rfl _ _ 51 rfl 3 3 .i64 law50 Try.underlying51 Try.underlying3 (zeroI _) mb mn D rfl HE6.out.m _ _ rfl HKEY.out _ HAT.out ?_)
                    go_roundw
                    case rel => exact ⟨q + 1, by omega, by go_num, by rw [HST.out], by trivial⟩
                    case measure => simp [intOf]; omega
                · rw [if_neg h0] at HAT
                  have HAT := Lib.hid HAT
                  have hb : lateB 40 (age : Int) x = false := by rw [hlb]; simp [h0]
                  rw [hb, if_neg (by decide)] at HST
                  clear hx hac hlb h0 hb
                  go_wp2_with (at_lookup; refine wpList_look_int rfl _ _ 51 rfl 3 3 .i64 law50 Try.underlying51 Try.underlying3 (zeroI _) mb mn D rfl HE6.out.m _ _ rfl HKEY.out _ HAT.out ?_)
                  go_roundw
                  case rel => exact ⟨q + 1, by omega, by go_num, by rw [HST.out], by trivial⟩
                  case measure => simp [intOf]; omega
              · obtain rfl : q = k := by omega
                have d1 : decide ((q : Int) < (q : Int)) = false := decide_eq_false (by omega)
                have hq2 : (lateU L 40 (age : Int) q).length = ul := by rw [HU.out.2, HLK.out]
                rw [hq2]
                have HC := Lib.hid (count p v L j 1 _ HE6.out.o.bk)
                have hcn : cntF 1 L = size D := by
                  unfold cntF
                  rw [if_pos (by decide), HE6.out.mv.sz]
                rw [hcn] at HC
                clear hcn hlt hq2
                go_wp2_with fail
                refine HC.out.mono ?_
                rintro e w7 ⟨rfl, rfl⟩
                have hml := HE6.out.m.len Try.underlying51 3
                go_wp2_with fail
                go_ret
                exact ⟨rfl, HE6.out.o.below⟩
end Go.Proofs.Ytnpaajmcahlloaa.led
