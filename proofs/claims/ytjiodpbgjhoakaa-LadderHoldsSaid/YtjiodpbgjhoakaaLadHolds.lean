/-
  LadderHolds: the law.
-/
import Derived.Test.YtjiodpbgjhoakaaLadNeeds
namespace Go.Proofs.Ytjiodpbgjhoakaa.lad
open Go.RowKit mem
open ints (IE IT ST infoI)
set_option linter.unusedVariables false

theorem take_skip {P : Program} {md : Region.Mode} {ops : Array Oper} {Q : Exit → Act → World → Prop} {i : Nat} {oi : Oper} {v : Value} {fuel : Nat} {listed : Array Bool} {a : Act} {w : World} (d : Tmp) (hi : ops[i]? = some oi) (hd : oi.dst = some d)
    (hs : Region.noSelect ops = true) (hf : Region.free md ops listed i = true) (hr : (Region.ready md ops listed).contains i = true)
    (hQ : ∀ c a w, Q (.panic c) (a.put (some d) v) w → Q (.panic c) a w) (hy : Yields P ops oi v a)
    (h : wpAny P md ops Q fuel (listed.setIfInBounds i true) (a.put (some d) v) w) : wpAny P md ops Q (fuel + 1) listed a w :=
  wpAny_take hi hs hf hr (by rw [hd]; exact hQ) hy (by rw [hd]; exact h)


/-- since ticks ago there was a step -/
structure Hv (s : Q) (du up : Int) (N : List Int) (si : Int) (k : Nat) : Prop where
  dn : s.down = du
  up_ : s.up = up
  sp : s.spare = 2
  N_ : s.N = N
  b0 : 0 ≤ s.bad
  bb : s.bad ≤ si
  g0 : 0 ≤ s.good
  gg : s.good ≤ si
  al : s.at' < N.length
  il : s.aim < N.length
  m0 : 0 ≤ s.moves
  m1 : s.moves ≤ k
  sk : si ≤ k
theorem Hv.ok {s : Q} {du up : Int} {N : List Int} {si : Int} {k : Nat} (h : Hv s du up N si k) (hr : Rise N) (d0 : 1 ≤ du ∧ du ≤ 8) (u0 : 1 ≤ up ∧ up ≤ 8) (hk : k ≤ 1000) : s.ok := by
  obtain ⟨h1, h2, h3, h4, h5, h6, h7, h8, h9, h10, h11, h12, h13⟩ := h
  subst h4
  exact ⟨hr.1, hr.2.1, hr.bd, h9, h10, by omega, by omega, by omega, by omega, by omega, by omega, h5, by omega, h7, by omega, h11, by omega⟩
theorem Hv.tick {s : Q} {du up : Int} {N : List Int} {si : Int} {k : Nat} (h : Hv s du up N si k) (r : Int) :
    (tickB s r = false ∧ Hv (tickQ s r) du up N (si + 1) (k + 1)) ∨
    (tickB s r = true ∧ Hv (tickQ s r) du up N 0 (k + 1) ∧ (((tickQ s r).at' < s.at' ∧ du ≤ si + 1) ∨ (s.at' < (tickQ s r).at' ∧ up ≤ si + 1))) := by
  obtain ⟨h1, h2, h3, h4, h5, h6, h7, h8, h9, h10, h11, h12, h13⟩ := h
  cases hb : badB s r
  · cases hg : goodB s r
    · left
      refine ⟨by simp [tickB, hb, hg], ?_⟩
      rw [show tickQ s r = { s with bad := 0, good := 0 } by simp [tickQ, hb, hg]]
      exact ⟨h1, h2, h3, h4, Int.le_refl _, (by show (0 : Int) ≤ _; omega), Int.le_refl _, (by show (0 : Int) ≤ _; omega), h9, h10, h11, (by show s.moves ≤ _; omega), (by omega)⟩
    · have hat : s.at' < s.aim := by unfold goodB at hg; simp at hg; exact hg.1
      by_cases hu : s.up ≤ s.good + 1
      · right
        rw [show tickQ s r = stepQ s (s.at' + 1) by simp [tickQ, hb, hg, hu]]
        refine ⟨by simp [tickB, hb, hg, hu], ⟨h1, h2, h3, h4, Int.le_refl _, Int.le_refl _, Int.le_refl _, Int.le_refl _, (by show s.at' + 1 < _; omega), h10, (by show 0 ≤ s.moves + 1; omega), (by show s.moves + 1 ≤ _; omega), (by omega)⟩, .inr ⟨(by show s.at' < s.at' + 1; omega), by omega⟩⟩
      · left
        refine ⟨by simp [tickB, hb, hg]; omega, ?_⟩
        rw [show tickQ s r = { s with bad := 0, good := s.good + 1 } by simp [tickQ, hb, hg, hu]]
        exact ⟨h1, h2, h3, h4, Int.le_refl _, (by show (0 : Int) ≤ _; omega), (by show 0 ≤ s.good + 1; omega), (by show s.good + 1 ≤ _; omega), h9, h10, h11, (by show s.moves ≤ _; omega), (by omega)⟩
  · have hat : 0 < s.at' := by unfold badB at hb; simp at hb; exact hb.1
    by_cases hd : s.down ≤ s.bad + 1
    · right
      rw [show tickQ s r = stepQ s (s.at' - 1) by simp [tickQ, hb, hd]]
      refine ⟨by simp [tickB, hb, hd], ⟨h1, h2, h3, h4, Int.le_refl _, Int.le_refl _, Int.le_refl _, Int.le_refl _, (by show s.at' - 1 < _; omega), h10, (by show 0 ≤ s.moves + 1; omega), (by show s.moves + 1 ≤ _; omega), (by omega)⟩, .inl ⟨(by show s.at' - 1 < s.at'; omega), by omega⟩⟩
    · left
      refine ⟨by simp [tickB, hb]; omega, ?_⟩
      rw [show tickQ s r = { s with bad := s.bad + 1, good := 0 } by simp [tickQ, hb, hd]]
      exact ⟨h1, h2, h3, h4, (by show 0 ≤ s.bad + 1; omega), (by show s.bad + 1 ≤ _; omega), Int.le_refl _, (by show (0 : Int) ≤ _; omega), h9, h10, h11, (by show s.moves ≤ _; omega), (by omega)⟩
/-- at just what the layer needs there is a step upwards alone, if the next one needs no more -/
theorem Hv.same {s : Q} {du up : Int} {N : List Int} {si : Int} {k : Nat} (h : Hv s du up N si k) (ht : tickB s (nd s s.at') = true) : s.at' + 1 < N.length ∧ nd s (s.at' + 1) + 2 * (nd s (s.at' + 1) / 10) ≤ nd s s.at' := by
  have hb : badB s (nd s s.at') = false := by simp [badB]
  unfold tickB at ht
  rw [hb] at ht
  cases hg : goodB s (nd s s.at')
  · rw [hg] at ht; simp at ht
  · unfold goodB at hg
    simp at hg
    have := h.il
    unfold ampleF at hg
    rw [h.sp] at hg
    exact ⟨by omega, hg.2⟩

theorem Hv.more {s : Q} {du up : Int} {N : List Int} {si : Int} {k k' : Nat} (h : Hv s du up N si k) (hk : k ≤ k') : Hv s du up N si k' :=
  { h with m1 := by have := h.m1; omega, sk := by have := h.sk; omega }
/-- what the law's loops hold -/
structure Kp (w wr : World) (p g c' pc gn on : Nat) (N : List Int) (du up : Int) (s : Q) : Prop where
  own : Own w wr p g c' s
  cf : Blk wr pc (cfg du up 2) CT
  row : ∀ k, k < N.length → wr.cell? ⟨gn, on + k, none⟩ = some (.int .i64 (N.getD k 0))
  gl : gn < wr.heap.size
  n1 : pc ≠ p
  n2 : gn ≠ p
section
variable {w wr w2 : World} {p g c' pc gn on : Nat} {N : List Int} {du up : Int} {s t : Q}
theorem Kp.later (h : Kp w wr p g c' pc gn on N du up s) (n : New wr w2) : Kp w w2 p g c' pc gn on N du up s :=
  ⟨h.own.later n, n.blk h.cf (fun h => h), fun k hk => (n.cell (a := ⟨gn, on + k, none⟩) h.gl (fun h => h)).trans (h.row k hk), Nat.lt_of_lt_of_le h.gl n.size, h.n1, h.n2⟩
theorem Kp.at_ (h : Kp w wr p g c' pc gn on N du up s) (k : At wr w2 p g c' t) : Kp w w2 p g c' pc gn on N du up t :=
  ⟨h.own.at_ k, k.2.blk h.cf h.n1, fun i hi => (k.2.cell (a := ⟨gn, on + i, none⟩) h.gl h.n2).trans (h.row i hi), Nat.lt_of_lt_of_le h.gl k.2.size, h.n1, h.n2⟩
end

abbrev HeldN (w' : World) (gn o o2 : Nat) (a b : Value) : Prop := gn < w'.heap.size ∧ w'.cell? ⟨gn, o, none⟩ = some a ∧ w'.cell? ⟨gn, o2, none⟩ = some b
theorem heldN_drew {w' : World} {gn o o2 : Nat} {a b : Value} (h : HeldN w' gn o o2 a b) : HeldN w'.drew gn o o2 a b := h
theorem heldN_at {w1 w2 : World} {p gn o o2 : Nat} {a b : Value} (k : Turns (· = p) w1 w2) (hne : gn ≠ p) (h : HeldN w1 gn o o2 a b) : HeldN w2 gn o o2 a b :=
  ⟨Nat.lt_of_lt_of_le h.1 k.size, (k.cell (a := ⟨gn, o, none⟩) h.1 hne).trans h.2.1, (k.cell (a := ⟨gn, o2, none⟩) h.1 hne).trans h.2.2⟩

set_option maxRecDepth 10000 in
set_option maxHeartbeats 12000000 in
theorem holds_law (da ua : Int) (a : Option Addr) (n c : Nat) (z : Nat → Int) (ra : Option Addr) (rn rc : Nat) (rz : Nat → Int) (w : World) (d0 : -9223372036854775808 ≤ da) (d1 : da ≤ 9223372036854775807) (u0 : -9223372036854775808 ≤ ua) (u1 : ua ≤ 9223372036854775807) (hl : args.IntRow .i64 w a n c z) (hr : args.IntRow .i64 w ra rn rc rz) :
    Calls Try.prog 13 #[.int .i64 da, .int .i64 ua, .slice a n c, .slice ra rn rc] w fun e w' => e = .returned (.bool true) ∧ Below w.heap.size w w' := by
  have md := mask.mask3 da
  have mu := mask.mask3 ua
  have xd : 0 ≤ da % 8 ∧ da % 8 ≤ 7 := by omega
  have xu : 0 ≤ ua % 8 ∧ ua % 8 ≤ 7 := by omega
  generalize da % 8 = dx at *
  generalize ua % 8 = ux at *
  obtain ⟨xd0, xd1⟩ := xd
  obtain ⟨xu0, xu1⟩ := xu
  have HA := Lib.hid (fun w => awake w)
  have HNE := Lib.hid (fun W (N : New w W) => needs a n c z w W hl N)
  obtain ⟨hrn, hrw, hrc⟩ := hr
  unfold maxLen at hrn
  have HRC := Lib.hid hrc
  clear hl hrw hrc
  go_enter Try.func13, Try.ntmps13
  go_wp2_with fail
  refine (HA.out _).mono ?_
  rintro e w1 ⟨rfl, n1⟩
  have HN1 := Lib.hid n1
  clear n1
  go_wp2_with fail
  refine (HNE.out _ (HN1.out.alloc _)).mono ?_
  rintro e w3 ⟨ao, cc, N, rfl, hvw, hri, hbd, n3⟩
  have HC3 : Hid (Blk w3 w1.heap.size (cfg (1 + dx) (1 + ux) 2) CT ∧ w1.heap.size < w3.heap.size) := Lib.hid (by
    have h1 := n3.blk (Blk.new w1 (cfg (1 + dx) (1 + ux) 2) CT) (fun h => h)
    exact ⟨h1, h1.lt⟩)
  have HN3 : Hid (New w w3) := Lib.hid ((HN1.out.alloc _).trans (n3.mono (fun _ _ h => h.elim)))
  have HRI := Lib.hid hri
  have HBD := Lib.hid hbd
  obtain ⟨gn, on, rfl, hgn, hcn⟩ := hvw.resolve_left (by intro e; have := hri.1; simp [e] at this)
  have HVN := Lib.hid (And.intro hgn (fun k hk => Vw.get hcn k hk))
  have HNW := Lib.hid (new_ok (1 + dx) (1 + ux) 2 2 (some ⟨gn, on, none⟩) cc N w3 (.inr ⟨gn, on, rfl, hgn, hcn⟩) ⟨by omega, by omega, by omega, by omega, by omega, by omega⟩ hri)
  have HLN : Hid (1 ≤ N.length ∧ N.length ≤ 3) := Lib.hid ⟨hri.1, hri.2.1⟩
  clear hvw hri hbd n3 hgn hcn HNE HN1
  generalize w1.heap.size = pc at *
  obtain ⟨c0, c1, c2⟩ := three HC3.out.1
  go_wp2_with fail
  refine HNW.out.mono ?_
  rintro e w4 ⟨p, g, c', rfl, ho⟩
  have HK4 : Hid (Kp w w4 p g c' pc gn on N (1 + dx) (1 + ux) (fresh (1 + dx) (1 + ux) 2 N 2)) := Lib.hid ⟨Own.of_new HN3.out ho, ho.n.blk HC3.out.1 (fun h => h), fun k hk => (ho.n.cell (a := ⟨gn, on + k, none⟩) HVN.out.1 (fun h => h)).trans (HVN.out.2 k hk), Nat.lt_of_lt_of_le HVN.out.1 ho.n.size, by have := ho.p0; have := HC3.out.2; omega, by have := ho.p0; have := HVN.out.1; omega⟩
  have HH4 : Hid (Hv (fresh (1 + dx) (1 + ux) 2 N 2) (1 + dx) (1 + ux) N 0 0) := Lib.hid ⟨rfl, rfl, rfl, rfl, Int.le_refl _, Int.le_refl _, Int.le_refl _, Int.le_refl _, limF_lt HLN.out.1 2, limF_lt HLN.out.1 2, Int.le_refl _, Int.le_refl _, Int.le_refl _⟩
  clear ho HNW HC3 HVN c0 c1 c2
  generalize fresh (1 + dx) (1 + ux) 2 N 2 = s4 at *
  go_wp2_with fail
  go_loopw [13, 14] (fun si i wr => ∃ (k : Nat) (sn : Int) (s : Q), k ≤ rn ∧ k ≤ 200 ∧ si = .int .i64 sn ∧ i = .int .i64 k ∧ Kp w wr p g c' pc gn on N (1 + dx) (1 + ux) s ∧ Hv s (1 + dx) (1 + ux) N sn k ∧ 0 ≤ sn) (fun _ i _ => rn - (intOf i).toNat)
  case atStart => exact ⟨0, 0, s4, by omega, by omega, rfl, rfl, HK4.out, HH4.out, by omega⟩
  case round =>
    obtain ⟨k, sn, s, hk, hk2, rfl, rfl, hkp, hhv, hs0⟩ := hrel
    clear HK4 HH4
    have HK := Lib.hid hkp
    have HH := Lib.hid hhv
    have hsk := hhv.sk
    clear hkp hhv
    by_cases hgo : k < rn ∧ k < 200
    · obtain ⟨hlt, hlt2⟩ := hgo
      obtain ⟨b, off, rfl, hb, hc⟩ := HRC.out.resolve_left (by omega)
      have hz := fun W (n : New w W) => (n.cell (a := ⟨b, off + k, none⟩) hb (fun h => h)).trans (hc k hlt)
      have HZ := Lib.hid hz
      have x0 := hz wr HK.out.own.n
      clear hz hc hb
      have HAT := Lib.hid (lad.at_ p g c' s wr HK.out.own.ls)
      have HT := Lib.hid (tick p g c' s (rz k) wr HK.out.own.ls (HH.out.ok HRI.out ⟨by omega, by omega⟩ ⟨by omega, by omega⟩ (by omega)))
      have HF := Lib.hid (HH.out.tick (rz k))
      have d1 : decide ((k : Int) < (rn : Int)) = true := decide_eq_true (by omega)
      have d2 : decide ((k : Int) < 200) = true := decide_eq_true (by omega)
      generalize rz k = r at *
      go_wp2_with fail
      refine HAT.out.mono ?_
      rintro e w5 ⟨rfl, rfl⟩
      clear HAT
      rcases HF.out with ⟨ht, hv⟩ | ⟨ht, hv, hmv⟩
      · have HVV := Lib.hid hv
        rw [ht] at HT
        clear ht hv HF
        go_wp2_with fail
        refine HT.out.mono ?_
        rintro e w6 ⟨rfl, a6⟩
        have H6 := Lib.hid (HK.out.at_ a6)
        clear HT a6 x0
        generalize tickQ s r = q at *
        go_wp2_with fail
        go_roundw
        case rel => exact ⟨k + 1, _, _, by omega, by omega, rfl, by go_num, H6.out, HVV.out, by omega⟩
        case measure => simp [intOf]; omega
      · have HVV := Lib.hid hv
        rw [ht] at HT
        clear ht hv HF
        go_wp2_with fail
        refine HT.out.mono ?_
        rintro e w6 ⟨rfl, a6⟩
        have H6 := Lib.hid (HK.out.at_ a6)
        clear HT a6 x0
        generalize tickQ s r = q at *
        have HAT := Lib.hid (lad.at_ p g c' q w6 H6.out.own.ls)
        obtain ⟨y0, y1, y2⟩ := three H6.out.cf
        have hwas : s.at' < N.length := HH.out.al
        have hnow : q.at' < N.length := HVV.out.al
        have hl3 := HLN.out.2
        generalize s.at' = was at *
        generalize q.at' = now at *
        rcases hmv with ⟨h1, h2⟩ | ⟨h1, h2⟩
        · have e1 : decide ((now : Int) < (was : Int)) = true := decide_eq_true (by omega)
          have e2 : decide (sn + 1 < 1 + dx) = false := decide_eq_false (by omega)
          have e3 : decide ((was : Int) < (now : Int)) = false := decide_eq_false (by omega)
          have e4 : decide (now < was) = true := decide_eq_true h1
          have e5 : decide (was < now) = false := decide_eq_false (by omega)
          clear h2
          go_wp2_with fail
          refine HAT.out.mono ?_
          rintro e w7 ⟨rfl, rfl⟩
          go_wp2_with fail
          refine HAT.out.mono ?_
          rintro e w8 ⟨rfl, rfl⟩
          go_wp2_with fail
          go_roundw
          case rel => exact ⟨k + 1, _, _, by omega, by omega, rfl, by go_num, H6.out, HVV.out, by omega⟩
          case measure => simp [intOf]; omega
        · have e1 : decide ((now : Int) < (was : Int)) = false := decide_eq_false (by omega)
          have e2 : decide (sn + 1 < 1 + ux) = false := decide_eq_false (by omega)
          have e3 : decide ((was : Int) < (now : Int)) = true := decide_eq_true (by omega)
          have e4 : decide (now < was) = false := decide_eq_false (by omega)
          have e5 : decide (was < now) = true := decide_eq_true h1
          clear h2
          go_wp2_with fail
          refine HAT.out.mono ?_
          rintro e w7 ⟨rfl, rfl⟩
          go_wp2_with fail
          refine HAT.out.mono ?_
          rintro e w8 ⟨rfl, rfl⟩
          go_wp2_with fail
          go_roundw
          case rel => exact ⟨k + 1, _, _, by omega, by omega, rfl, by go_num, H6.out, HVV.out, by omega⟩
          case measure => simp [intOf]; omega
    · have HKK : Hid (∃ si, Kp w wr p g c' pc gn on N (1 + dx) (1 + ux) s ∧ Hv s (1 + dx) (1 + ux) N si 200) := Lib.hid ⟨sn, HK.out, HH.out.more (by omega)⟩
      clear HK HH
      go_upto_region 18 with fail
      all_goals
        go_wp2_with fail
        go_loopw [79] (fun i wq => ∃ (j : Nat) (s : Q) (si : Int), j ≤ 50 ∧ i = .int .i64 j ∧ Kp w wq p g c' pc gn on N (1 + dx) (1 + ux) s ∧ Hv s (1 + dx) (1 + ux) N si (200 + j)) (fun i _ => 50 - (intOf i).toNat)
        case atStart =>
          obtain ⟨si, h1, h2⟩ := HKK.out
          exact ⟨0, s, si, by omega, rfl, h1, h2⟩
        case round =>
          clear HKK
          obtain ⟨j, s, si, hj, rfl, hkp, hhv⟩ := hrel
          have HK := Lib.hid hkp
          have HH := Lib.hid hhv
          clear hkp hhv
          by_cases hj50 : j < 50
          · have dj : decide ((j : Int) < 50) = true := decide_eq_true (by omega)
            have hatl : s.at' < N.length := HH.out.al
            have hNN : ∀ i, N.getD i 0 = nd s i := fun i => by unfold nd; rw [HH.out.N_]
            have x0 := HK.out.row s.at' hatl
            rw [hNN] at x0
            have hbd0 := (HH.out.ok HRI.out ⟨by omega, by omega⟩ ⟨by omega, by omega⟩ (by omega)).nd s.at'
            have HAT := Lib.hid (lad.at_ p g c' s _ HK.out.own.ls)
            have HT := Lib.hid (fun W (N : New _ W) => tick p g c' s (nd s s.at') W (HK.out.own.ls.later N) (HH.out.ok HRI.out ⟨by omega, by omega⟩ ⟨by omega, by omega⟩ (by omega)))
            have HF := Lib.hid (HH.out.tick (nd s s.at'))
            have hl3 := HLN.out.2
            have hal1 : (s.at' : Int) < (N.length : Int) := by omega
            go_wp2_with fail
            refine HAT.out.mono ?_
            rintro e w5 ⟨rfl, rfl⟩
            clear HAT
            have HVV : Hid (∃ si', Hv (tickQ s (nd s s.at')) (1 + dx) (1 + ux) N si' (200 + (j + 1))) := Lib.hid (by
              rcases HF.out with ⟨_, h⟩ | ⟨_, h, _⟩
              · exact ⟨_, h⟩
              · exact ⟨_, h⟩)
            cases ht : tickB s (nd s s.at')
            · rw [ht] at HT
              clear ht HF HH hNN
              generalize tickQ s (nd s s.at') = q at *
              generalize nd s s.at' = r at *
              generalize s.at' = at0 at *
              go_upto_region 21 with fail
              refine wp_region_any (by kernel_rfl) ?_
              try (change wpAny _ _ _ _ _ _ _ (World.drew _))
              refine wpAny_take (i := 0) (v := .pointer (some ⟨p, 0, none⟩)) rfl (by kernel_rfl) (by kernel_rfl) (by kernel_rfl) (fun _ _ _ h => h) (Or.inl ⟨by rfl, fun w => by go_simp⟩) ?_
              refine wpAny_take (i := 1) (v := .slice (some ⟨gn, on, none⟩) N.length cc) rfl (by kernel_rfl) (by kernel_rfl) (by kernel_rfl) (fun _ _ _ h => h) (Or.inl ⟨by rfl, fun w => by go_simp⟩) ?_
              refine wpAny_take (i := 2) (v := .int .i64 at0) rfl (by kernel_rfl) (by kernel_rfl) (by kernel_rfl) (fun _ _ _ h => h) (Or.inl ⟨by rfl, fun w => by go_simp⟩) ?_
              refine wpAny_take (i := 3) (v := .pointer (some ⟨gn, on + at0, none⟩)) rfl (by kernel_rfl) (by kernel_rfl) (by kernel_rfl) (fun _ _ _ h => h) (Or.inl ⟨by rfl, fun w => by go_simp⟩) ?_
              refine wpAny_ready (rs := [4]) (by kernel_rfl) (by simp) ?_
              refine AllReady.cons rfl (fun K hK => ?_) AllReady.nil
              go_simp
              refine hK _ _ ?_
              clear hK K
              refine wpAny_ready (rs := [5]) (by kernel_rfl) (by simp) ?_
              refine AllReady.cons rfl (fun K hK => ?_) AllReady.nil
              go_simp
              go_wp2_with (go_at_call 34; (with_reducible refine Calls.mono (HT.out _ ?_) ?_); (focus (exact (Turns.refl _ _).drew)); rintro e w6 ⟨rfl, a6⟩)
              refine take_skip (i := 6) (v := .bool false) 89 rfl (by kernel_rfl) (by kernel_rfl) (by kernel_rfl) (by kernel_rfl) (fun _ _ _ h => h) (Or.inl ⟨by rfl, fun w => by go_simp⟩) ?_
              refine take_skip (i := 7) (v := undef) 90 rfl (by kernel_rfl) (by kernel_rfl) (by kernel_rfl) (by kernel_rfl) (fun _ _ _ h => h) (Or.inr ⟨by kernel_rfl, rfl⟩) ?_
              refine take_skip (i := 8) (v := undef) 91 rfl (by kernel_rfl) (by kernel_rfl) (by kernel_rfl) (by kernel_rfl) (fun _ _ _ h => h) (Or.inr ⟨by kernel_rfl, rfl⟩) ?_
              refine take_skip (i := 9) (v := undef) 92 rfl (by kernel_rfl) (by kernel_rfl) (by kernel_rfl) (by kernel_rfl) (fun _ _ _ h => h) (Or.inr ⟨by kernel_rfl, rfl⟩) ?_
              refine take_skip (i := 10) (v := undef) 93 rfl (by kernel_rfl) (by kernel_rfl) (by kernel_rfl) (by kernel_rfl) (fun _ _ _ h => h) (Or.inr ⟨by kernel_rfl, rfl⟩) ?_
              refine take_skip (i := 11) (v := undef) 94 rfl (by kernel_rfl) (by kernel_rfl) (by kernel_rfl) (by kernel_rfl) (fun _ _ _ h => h) (Or.inr ⟨by kernel_rfl, rfl⟩) ?_
              refine take_skip (i := 12) (v := undef) 95 rfl (by kernel_rfl) (by kernel_rfl) (by kernel_rfl) (by kernel_rfl) (fun _ _ _ h => h) (Or.inr ⟨by kernel_rfl, rfl⟩) ?_
              refine take_skip (i := 13) (v := undef) 96 rfl (by kernel_rfl) (by kernel_rfl) (by kernel_rfl) (by kernel_rfl) (fun _ _ _ h => h) (Or.inr ⟨by kernel_rfl, rfl⟩) ?_
              refine take_skip (i := 14) (v := undef) 97 rfl (by kernel_rfl) (by kernel_rfl) (by kernel_rfl) (by kernel_rfl) (fun _ _ _ h => h) (Or.inr ⟨by kernel_rfl, rfl⟩) ?_
              refine take_skip (i := 15) (v := undef) 98 rfl (by kernel_rfl) (by kernel_rfl) (by kernel_rfl) (by kernel_rfl) (fun _ _ _ h => h) (Or.inr ⟨by kernel_rfl, rfl⟩) ?_
              refine take_skip (i := 16) (v := undef) 99 rfl (by kernel_rfl) (by kernel_rfl) (by kernel_rfl) (by kernel_rfl) (fun _ _ _ h => h) (Or.inr ⟨by kernel_rfl, rfl⟩) ?_
              refine take_skip (i := 17) (v := undef) 100 rfl (by kernel_rfl) (by kernel_rfl) (by kernel_rfl) (by kernel_rfl) (fun _ _ _ h => h) (Or.inr ⟨by kernel_rfl, rfl⟩) ?_
              refine take_skip (i := 18) (v := undef) 101 rfl (by kernel_rfl) (by kernel_rfl) (by kernel_rfl) (by kernel_rfl) (fun _ _ _ h => h) (Or.inr ⟨by kernel_rfl, rfl⟩) ?_
              refine take_skip (i := 19) (v := undef) 102 rfl (by kernel_rfl) (by kernel_rfl) (by kernel_rfl) (by kernel_rfl) (fun _ _ _ h => h) (Or.inr ⟨by kernel_rfl, rfl⟩) ?_
              refine take_skip (i := 20) (v := undef) 103 rfl (by kernel_rfl) (by kernel_rfl) (by kernel_rfl) (by kernel_rfl) (fun _ _ _ h => h) (Or.inr ⟨by kernel_rfl, rfl⟩) ?_
              refine take_skip (i := 21) (v := undef) 104 rfl (by kernel_rfl) (by kernel_rfl) (by kernel_rfl) (by kernel_rfl) (fun _ _ _ h => h) (Or.inr ⟨by kernel_rfl, rfl⟩) ?_
              refine take_skip (i := 22) (v := undef) 105 rfl (by kernel_rfl) (by kernel_rfl) (by kernel_rfl) (by kernel_rfl) (fun _ _ _ h => h) (Or.inr ⟨by kernel_rfl, rfl⟩) ?_
              refine take_skip (i := 23) (v := undef) 106 rfl (by kernel_rfl) (by kernel_rfl) (by kernel_rfl) (by kernel_rfl) (fun _ _ _ h => h) (Or.inr ⟨by kernel_rfl, rfl⟩) ?_
              refine take_skip (i := 24) (v := undef) 107 rfl (by kernel_rfl) (by kernel_rfl) (by kernel_rfl) (by kernel_rfl) (fun _ _ _ h => h) (Or.inr ⟨by kernel_rfl, rfl⟩) ?_
              refine take_skip (i := 25) (v := undef) 108 rfl (by kernel_rfl) (by kernel_rfl) (by kernel_rfl) (by kernel_rfl) (fun _ _ _ h => h) (Or.inr ⟨by kernel_rfl, rfl⟩) ?_
              refine take_skip (i := 26) (v := undef) 109 rfl (by kernel_rfl) (by kernel_rfl) (by kernel_rfl) (by kernel_rfl) (fun _ _ _ h => h) (Or.inr ⟨by kernel_rfl, rfl⟩) ?_
              refine take_skip (i := 27) (v := undef) 110 rfl (by kernel_rfl) (by kernel_rfl) (by kernel_rfl) (by kernel_rfl) (fun _ _ _ h => h) (Or.inr ⟨by kernel_rfl, rfl⟩) ?_
              refine take_skip (i := 28) (v := undef) 111 rfl (by kernel_rfl) (by kernel_rfl) (by kernel_rfl) (by kernel_rfl) (fun _ _ _ h => h) (Or.inr ⟨by kernel_rfl, rfl⟩) ?_
              refine take_skip (i := 29) (v := undef) 112 rfl (by kernel_rfl) (by kernel_rfl) (by kernel_rfl) (by kernel_rfl) (fun _ _ _ h => h) (Or.inr ⟨by kernel_rfl, rfl⟩) ?_
              refine take_skip (i := 30) (v := undef) 113 rfl (by kernel_rfl) (by kernel_rfl) (by kernel_rfl) (by kernel_rfl) (fun _ _ _ h => h) (Or.inr ⟨by kernel_rfl, rfl⟩) ?_
              refine take_skip (i := 31) (v := undef) 114 rfl (by kernel_rfl) (by kernel_rfl) (by kernel_rfl) (by kernel_rfl) (fun _ _ _ h => h) (Or.inr ⟨by kernel_rfl, rfl⟩) ?_
              refine take_skip (i := 32) (v := .bool false) 115 rfl (by kernel_rfl) (by kernel_rfl) (by kernel_rfl) (by kernel_rfl) (fun _ _ _ h => h) (Or.inl ⟨by rfl, fun w => by go_simp⟩) ?_
              refine wpAny_done (by kernel_rfl) ?_ _
              all_goals
                simp only [Act.put, List.setIfInBounds_toArray, List.set_cons_succ, List.set_cons_zero]
                have H6 := Lib.hid (HK.out.at_ (At.of_drew a6))
                clear a6
                go_wp2_with fail
                go_roundw
                case rel =>
                  obtain ⟨si', h⟩ := HVV.out
                  exact ⟨j + 1, _, si', by omega, by go_num, H6.out, h⟩
                case measure => simp [intOf]; omega
            · have hsm := HH.out.same ht
              rw [ht] at HT
              have HX0 : Hid (HeldN w5 gn (on + s.at') (on + (s.at' + 1)) (.int .i64 (nd s s.at')) (.int .i64 (nd s (s.at' + 1)))) := Lib.hid (by
                have h2 := HK.out.row (s.at' + 1) hsm.1
                rw [hNN] at h2
                exact ⟨HK.out.gl, x0, h2⟩)
              have HX1 : Hid (∀ W, Kp w W p g c' pc gn on N (1 + dx) (1 + ux) (tickQ s (nd s s.at')) → W.cell? ⟨gn, on + s.at', none⟩ = some (.int .i64 (nd s s.at')) ∧ W.cell? ⟨gn, on + (s.at' + 1), none⟩ = some (.int .i64 (nd s (s.at' + 1)))) := Lib.hid (fun W h => by
                have h1 := h.row s.at' hatl
                have h2 := h.row (s.at' + 1) hsm.1
                rw [hNN] at h1 h2
                exact ⟨h1, h2⟩)
              have hbd1 := (HH.out.ok HRI.out ⟨by omega, by omega⟩ ⟨by omega, by omega⟩ (by omega)).nd (s.at' + 1)
              clear ht HF HH hNN
              generalize tickQ s (nd s s.at') = q at *
              generalize nd s (s.at' + 1) = y at *
              generalize nd s s.at' = r at *
              generalize s.at' = at0 at *
              obtain ⟨hl1, hle⟩ := hsm
              have hl2 : (at0 : Int) + 1 < (N.length : Int) := by omega
              obtain ⟨y0, y1⟩ := hbd1
              have dv : decide ((N.length : Int) ≤ (at0 : Int) + 1) = false := decide_eq_false (by omega)
              have s1 : IntKind.i64.wrap ((at0 : Int) + 1) = (at0 : Int) + 1 := IntWalk.i64_in _ (by omega)
              obtain ⟨t, ht⟩ : ∃ t, y / 10 = t := ⟨_, rfl⟩
              have s2 : y.tdiv 10 = t := by rw [Int.tdiv_eq_ediv_of_nonneg y0]; exact ht
              have s3 : IntKind.i64.wrap t = t := IntWalk.i64_in _ (by omega)
              have s4 : IntKind.i64.wrap (t * 2) = t * 2 := IntWalk.i64_in _ (by omega)
              have s5 : IntKind.i64.wrap (y + t * 2) = y + t * 2 := IntWalk.i64_in _ (by omega)
              have de : decide (r < y + t * 2) = false := decide_eq_false (by omega)
              clear hle
              go_upto_region 21 with fail
              have HNE2 := HK.out.n2
              have HH0 : Hid (HeldN w5 gn (on + at0) (on + (at0 + 1)) (.int .i64 r) (.int .i64 y)) := Lib.hid (by have h := HX0.out; exact h)
              go_region_held (fun w' => gn < w'.heap.size ∧ w'.cell? ⟨gn, on + at0, none⟩ = some (.int .i64 r) ∧ w'.cell? ⟨gn, on + (at0 + 1), none⟩ = some (.int .i64 y))
                (first
                  | (with_reducible assumption)
                  | ((with_reducible refine heldN_drew ?_); with_reducible assumption)
                  | (with_reducible exact heldN_drew HH0.out)
                  | ((with_reducible refine heldN_at a6.2 HNE2 ?_); with_reducible assumption)
                  | ((with_reducible refine heldN_at a6.2 HNE2 (heldN_drew ?_)); with_reducible assumption)
                  | (with_reducible exact heldN_at a6.2 HNE2 (heldN_drew HH0.out)))
                (first | (go_at_call 34; (with_reducible refine Calls.mono (HT.out _ ?_) ?_); (focus (exact (Turns.refl _ _).drew)); rintro e w6 ⟨rfl, a6⟩))
              all_goals
                have H6 := Lib.hid (HK.out.at_ (At.of_drew a6))
                clear a6
                go_wp2_with fail
                go_roundw
                case rel =>
                  obtain ⟨si', h⟩ := HVV.out
                  exact ⟨j + 1, _, si', by omega, by go_num, H6.out, h⟩
                case measure => simp [intOf]; omega
          · obtain rfl : j = 50 := by omega
            have HB := Lib.hid HK.out.own
            go_wp2
            go_ret
            exact ⟨rfl, HB.out.below⟩
end Go.Proofs.Ytjiodpbgjhoakaa.lad
