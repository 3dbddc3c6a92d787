/-
  drr.Sched: Choose.
-/
import Derived.Test.YtcppibjllaablaaZKac
import Derived.Deep.RegionHeld3
set_option linter.unusedVariables false
set_option linter.unusedSimpArgs false
namespace Go.Proofs.Ytcppibjllaablaa.drr
open Go.RowKit mem Go.Maps
set_option linter.unusedVariables false

/-- the same flows, with other balances -/
def Sim (s s' : Sc) : Prop := s'.most = s.most ∧ ∃ F, s'.L = upd s.L F
theorem Sim.refl (s : Sc) : Sim s s := ⟨rfl, fun f => f.left, (upd_same _ _ (fun _ _ => rfl)).symm⟩
theorem Sim.fl {s s' : Sc} (h : Sim s s') {id : Int} (hf : ∃ f ∈ s.L, f.id = id) : ∃ f ∈ s'.L, f.id = id := by
  obtain ⟨_, F, e⟩ := h
  obtain ⟨f, hf, hid⟩ := hf
  rw [e]
  exact ⟨_, upd_mem' hf, hid⟩
theorem Sim.foot {s s' : Sc} (h : Sim s s') {p mb k : Nat} (hk : Foot p mb s' k) : Foot p mb s k := by
  obtain ⟨_, F, e⟩ := h
  rcases hk with hk | hk | ⟨f, hf, hk⟩
  · exact .inl hk
  · exact .inr (.inl hk)
  · rw [e] at hf
    obtain ⟨f', hf', rfl⟩ := upd_mem hf
    exact .inr (.inr ⟨f', hf', hk⟩)
theorem Sim.grant {s s' : Sc} (h : Sim s s') : Sim s (grantS s') := by
  unfold grantS
  split
  · exact h
  · obtain ⟨m, F, e⟩ := h
    refine ⟨m, ?_⟩
    show ∃ G, upd s'.L _ = upd s.L G
    rw [e, upd_upd]
    exact ⟨_, rfl⟩
theorem Sim.pass {s s' : Sc} (h : Sim s s') (l : Hs) : Sim s (passS l s') := h
theorem Sim.beg (s : Sc) (l : Hs) : Sim s (begS l s) := ⟨rfl, _, rfl⟩
theorem grant_any (p mb c : Nat) (D : DataW Unit) (s : Sc) (w : World) (h : Ss w p mb c D s) (ht : ∃ f ∈ s.L, f.id = s.turn) :
    Calls Try.prog 50 #[.pointer (some ⟨p, 0, none⟩)] w fun e w' => e = .returned (.int .i64 (leftOf (grantS s) s.turn)) ∧ Lf w w' p mb c D s (grantS s) := by
  cases hg : s.g
  · obtain ⟨f, hf, e⟩ := ht
    exact grant_no p mb c D s f w h hg hf e
  · exact grant_yes p mb c D s w h hg
theorem size_pos {D : DataW Unit} {k : Lit} (h : has D k = true) : Maps.size D ≠ 0 := by
  intro e
  cases D with
  | map es =>
    rw [size_eq] at e
    have : es = [] := List.length_eq_zero_iff.1 e
    subst this
    cases h
  | _ => cases h
theorem lens {w : World} {mz n : Nat} {D : DataW Unit} (h : w.ownsMap Try.prog 3 (plainElem Try.prog 3) mz n D) (ty : TypeId) : (Builtin.len_ #[80] ty #[.map (some mz)]).run Try.prog w = .ok (.int .i64 (Maps.size D)) w := h.len Try.underlying80 ty

set_option maxRecDepth 100000 in
set_option maxHeartbeats 2000000 in
theorem choose_nil (p mb c : Nat) (D : DataW Unit) (s : Sc) (v : Value) (w : World) (h : Ss w p mb c D s) (hr : HRow w v []) :
    Calls Try.prog 21 #[.pointer (some ⟨p, 0, none⟩), v] w fun e w' => e = .returned (.tuple #[.int .i64 0, .bool false]) ∧ Lf w w' p mb c D s (chooseS [] s) := by
  have HSZ := Lib.hid (sizes p mb c D s [] v w h hr ⟨List.Pairwise.nil, (fun _ h => by cases h), (fun _ h => by cases h)⟩ (Nat.zero_le _))
  have HH := Lib.hid h
  have hvf : ∃ ao cp, v = .slice ao 0 cp := by obtain ⟨ao, cp, e, _⟩ := hr; exact ⟨ao, cp, e⟩
  obtain ⟨ao, cp, rfl⟩ := hvf
  clear h hr
  go_enter Try.func21, Try.ntmps21
  go_wp2_with fail
  refine HSZ.out.mono ?_
  rintro e w1 ⟨mz, DZ, rfl, hmz, hge, hn1, hM⟩
  have HS1 := Lib.hid (HH.out.later hn1)
  have HFG := Lib.hid (forget p mb c mz 0 D DZ s [] w1 HS1.out hmz hM (fun f hf e => by have := HH.out.flt f hf; omega))
  have HN1 := Lib.hid hn1
  clear hmz hge hn1 hM HSZ
  go_wp2_with fail
  refine HFG.out.mono ?_
  rintro e w2 ⟨rfl, ⟨hs2, ht2⟩, hz2⟩
  have hlen := fun ty => lens hz2 ty
  have h0 : Maps.size DZ = 0 := Nat.le_zero.1 hz2.size_le
  rw [h0] at hlen
  obtain ⟨_, k0, k1, k2, k3⟩ := four hs2.blk
  obtain ⟨⟨c0, c1, c2, c3⟩, _⟩ := four hs2.blk
  have hok : Sc.ok ⟨s.most, upd s.L (forgetF []), s.turn, false⟩ := ⟨hs2.ok.m0, hs2.ok.m1, (fun f hf => by
    obtain ⟨h1, h2, h3, h4, h5⟩ := hs2.ok.f f hf
    refine ⟨h1, h2, h3, h4, fun _ => ?_⟩
    obtain ⟨f', hf', rfl⟩ := upd_mem hf
    have := hs2.ok.m0
    show forgetF [] f' < s.most
    unfold forgetF ids
    simp
    exact this), (fun e => by cases e)⟩
  have HZ : Hid (Lf w (w2.setCell ⟨p, 3, none⟩ (.bool false)) p mb c D s (chooseS [] s)) := Lib.hid (by
    have t : Turns (· = p) w2 (w2.setCell ⟨p, 3, none⟩ (.bool false)) := Turns.setCell (S := (· = p)) (Turns.refl _ w2) (p := ⟨p, 3, none⟩) (.inl rfl) _
    refine ⟨hs2.turn s.turn false (hs2.blk.set 3 _) t hs2.tr hok, ((HN1.out.mono (fun _ _ h => h.elim)).trans (ht2.mono (fun i _ hi => .inl hi))).trans (t.mono (fun i _ hi => .inl (.inl hi)))⟩)
  clear hs2 ht2 hz2 hok HFG
  go_wp2
  go_ret2
  exact ⟨rfl, HZ.out⟩

/-- what the loop keeps -/
structure Cw (w wr : World) (p mb c mz n g : Nat) (D DZ : DataW Unit) (s s' fin : Sc) (l : Hs) : Prop where
  ss : Ss wr p mb c D s'
  zm : wr.ownsMap Try.prog 3 (plainElem Try.prog 3) mz n DZ
  row : Row wr g (ids l)
  t : Turns (Foot p mb s) w wr
  sim : Sim s s'
  tn : s'.turn ∈ ids l
  run : runS l s' = fin
  z0 : w.heap.size ≤ mz
  g0 : w.heap.size ≤ g
theorem Cw.off {w wr : World} {p mb c mz n g : Nat} {D DZ : DataW Unit} {s s' fin : Sc} {l : Hs} (h : Cw w wr p mb c mz n g D DZ s s' fin l) (hs : Ss w p mb c D s) : ¬ Foot p mb s' mz ∧ ¬ Foot p mb s' g :=
  ⟨fun e => by have := hs.foot _ (h.sim.foot e); have := h.z0; omega, fun e => by have := hs.foot _ (h.sim.foot e); have := h.g0; omega⟩
theorem Cw.fl {w wr : World} {p mb c mz n g : Nat} {D DZ : DataW Unit} {s s' fin : Sc} {l : Hs} (h : Cw w wr p mb c mz n g D DZ s s' fin l) (ok : Ok s l) : ∃ f ∈ s'.L, f.id = s'.turn := by
  obtain ⟨x, hx, e⟩ := List.mem_map.1 h.tn
  obtain ⟨f, hf⟩ := h.sim.fl (ok.fl x hx)
  exact ⟨f, hf.1, by rw [hf.2, e]⟩
theorem run_pass {s : Sc} {l : Hs} (h : (passS l s).ok) (ap : Ap s.L) (ht : ∃ f ∈ s.L, f.id = (passS l s).turn) (hz : sizeOf' l (passS l s).turn ≤ s.most) : runS l (passS l s) = grantS (passS l s) := by
  have h1 := grant_enough (s := passS l s) h ap ht rfl hz
  unfold runS lowS
  rw [decide_eq_false (by omega)]
  simp
theorem Ap.grant {s : Sc} (h : Ap s.L) : Ap (grantS s).L := by
  unfold grantS
  split
  · exact h
  · exact h.upd _
theorem low_facts {s : Sc} {l : Hs} (h : s.ok) (ap : Ap s.L) (ht : ∃ f ∈ s.L, f.id = s.turn) (hid : ids l ≠ []) (hfl : ∀ x ∈ ids l, ∃ f ∈ s.L, f.id = x) (hsz : ∀ x ∈ ids l, sizeOf' l x ≤ s.most) (htn : s.turn ∈ ids l) (hlow : lowS l s = true) :
    s.g = true ∧ (passS l (grantS s)).ok ∧ runS l (passS l (grantS s)) = runS l s ∧ (passS l (grantS s)).turn ∈ ids l := by
  have hl : leftOf (grantS s) s.turn < sizeOf' l s.turn := of_decide_eq_true hlow
  have hm := hsz _ htn
  have hg : s.g = true := by
    cases hg : s.g
    · have := grant_enough h ap ht hg hm
      omega
    · rfl
  have hpt : (passS l (grantS s)).turn ∈ ids l := nextId_mem hid _
  have hok : (passS l (grantS s)).ok := by
    refine (h.grant ht).pass l (fun f hf e => ?_)
    have h1 : leftOf (grantS s) s.turn = f.left := by
      unfold leftOf
      rw [← (grant_turn s).1, ← e, (ap.grant).fnd hf]
    rw [(grant_turn s).2.1]
    omega
  refine ⟨hg, hok, ?_, hpt⟩
  rw [run_pass hok ap.grant (grant_fl (hfl _ hpt)) (by rw [(grant_turn s).2.1]; exact hsz _ hpt)]
  unfold runS
  rw [hlow, if_pos rfl]
theorem size_most {s : Sc} {l : Hs} (ok : Ok s l) {id : Int} (h : id ∈ ids l) : sizeOf' l id ≤ s.most := (ok.sz _ (sizeOf_mem h)).2

set_option maxRecDepth 100000 in
set_option maxHeartbeats 4000000 in
theorem choose_cons (p mb c : Nat) (D : DataW Unit) (s : Sc) (l : Hs) (v : Value) (w : World) (h : Ss w p mb c D s) (hr : HRow w v l) (ok : Ok s l) (hl : l ≠ []) (hlen : l.length ≤ 1048576) (hrg : ∀ x ∈ ids l, -9223372036854775808 ≤ x ∧ x ≤ 9223372036854775807) :
    Calls Try.prog 21 #[.pointer (some ⟨p, 0, none⟩), v] w fun e w' => e = .returned (.tuple #[.int .i64 (chooseS l s).turn, .bool true]) ∧ Lf w w' p mb c D s (chooseS l s) := by
  have hfin : chooseS l s = runS l (firS l s) := by cases l with | nil => exact absurd rfl hl | cons _ _ => rfl
  rw [hfin]
  clear hfin
  obtain ⟨fin, hfin⟩ : ∃ fin, runS l (firS l s) = fin := ⟨_, rfl⟩
  rw [hfin]
  have HFN := Lib.hid hfin
  clear hfin
  have hid : ids l ≠ [] := by unfold ids; simpa using hl
  have hidl : (ids l).length = l.length := by unfold ids; exact List.length_map _
  have HSZ := Lib.hid (sizes p mb c D s l v w h hr ok hlen)
  have HH := Lib.hid h
  have HOK := Lib.hid ok
  have hvf : ∃ ao cp, v = .slice ao l.length cp := by obtain ⟨ao, cp, e, _⟩ := hr; exact ⟨ao, cp, e⟩
  obtain ⟨ao, cp, rfl⟩ := hvf
  have HFI := Lib.hid (h.ok.fir hl ok)
  clear h hr ok
  go_enter Try.func21, Try.ntmps21
  go_wp2_with fail
  refine HSZ.out.mono ?_
  rintro e w1 ⟨mz, DZ, rfl, hmz, hge, hn1, hM⟩
  have HS1 := Lib.hid (HH.out.later hn1)
  have HFG := Lib.hid (forget p mb c mz l.length D DZ s l w1 HS1.out hmz hM (fun f hf e => by have := HH.out.flt f hf; omega))
  have HN1 := Lib.hid hn1
  have HMZ := Lib.hid hM
  have HGE := Lib.hid hge
  clear hmz hge hn1 hM HSZ
  go_wp2_with fail
  refine HFG.out.mono ?_
  rintro e w2 ⟨rfl, ⟨hs2, ht2⟩, hz2⟩
  have hlen2 := fun ty => lens hz2 ty
  have hpos : Maps.size DZ ≠ 0 := by
    obtain ⟨x, r, e⟩ := List.exists_cons_of_ne_nil hid
    exact size_pos (k := .int .i64 x) (by rw [HMZ.out.has x]; exact decide_eq_true (by rw [e]; exact List.mem_cons_self))
  have hz0 : ((Maps.size DZ : Int) == 0) = false := by simp; omega
  have hsz : Maps.size DZ ≤ 1048576 := Nat.le_trans hz2.size_le hlen
  have HS2 := Lib.hid hs2
  have HT2 : Hid (Turns (Foot p mb s) w w2) := Lib.hid ((HN1.out.mono (fun _ _ h => h.elim)).trans (ht2.mono (fun i _ hi => .inl hi)))
  have HZ2 := Lib.hid hz2
  have HKY := Lib.hid (itr.keys_ (some mz) w2)
  have HSO := Lib.hid (itr.sorted_ mz l.length DZ (plainElem Try.prog 3) (ids l) w2 hz2 hsz HOK.out.asc (fun x => by rw [HMZ.out.has x]; simp))
  clear hs2 ht2 hz2 HFG HS1 HN1 hsz hpos
  go_wp2_with fail
  refine HKY.out.mono ?_
  rintro e w3 ⟨rfl, rfl⟩
  go_wp2_with fail
  refine HSO.out.mono ?_
  rintro e w4 ⟨vr, rfl, hown, hvg, hn4⟩
  obtain ⟨g, cap, rfl, hcap, hrow, hvo⟩ := row_of_owns hown hid
  have HG0 : Hid (w2.heap.size ≤ g) := Lib.hid (hvg g hvo)
  have HROW := Lib.hid hrow
  have HS4 := Lib.hid (HS2.out.later hn4)
  have HZ4 := Lib.hid (ownsMap_turns HZ2.out hn4 (fun h => h))
  have HT4 : Hid (Turns (Foot p mb s) w w4) := Lib.hid (HT2.out.trans (hn4.mono (fun _ _ h => h.elim)))
  have HGG : Hid (w.heap.size ≤ g) := Lib.hid (Nat.le_trans HT2.out.size HG0.out)
  clear hown hvg hn4 hrow hvo HKY HSO HS2 HZ2 HT2 hlen2 hz0
  have hlk := look_sz (id := s.turn) HZ4.out HMZ.out HS4.out.tr.1 HS4.out.tr.2
  obtain ⟨⟨c0, c1, c2, c3⟩, k0, k1, k2, k3⟩ := four HS4.out.blk
  have hps := pass p mb c D (begS l s) (ids l) g cap w4 HS4.out HROW.out hid (by omega) hcap HOK.out.asc hrg
  have HPS := Lib.hid hps
  have HIL := Lib.hid hidl
  have HID := Lib.hid hid
  clear hps hidl
  have HTL : Hid (∀ x ∈ ids l, ∃ f ∈ s.L, f.id = x) := Lib.hid (fun x hx => by
    obtain ⟨y, hy, e⟩ := List.mem_map.1 hx
    obtain ⟨f, hf, e2⟩ := HOK.out.fl y hy
    exact ⟨f, hf, by rw [e2, e]⟩)
  dsimp only [begS] at c0 c1 c2 c3
  have hgl := HROW.out.1
  have hzl := HZ4.out.lt
  by_cases hin : s.turn ∈ ids l
  · rw [decide_eq_true hin] at hlk
    have hfe : firS l s = begS l s := by unfold firS; rw [if_pos hin]
    have HC : Hid (Cw w w4 p mb c mz l.length g D DZ s (firS l s) fin l) := Lib.hid (by
      rw [hfe] at HFN ⊢
      exact ⟨HS4.out, HZ4.out, HROW.out, HT4.out, Sim.beg s l, hin, HFN.out, HGE.out, HGG.out⟩)
    clear hin hfe HPS HS4 HZ4 HROW HT4 hgl hzl
    go_upto_region 8 with fail
    clear hlk c0 c1 c2 c3 k0 k1 k2 k3
    go_wp2_with fail
    go_loopw [] (fun wr => ∃ s', Cw w wr p mb c mz l.length g D DZ s s' fin l) (fun wr => match wr.cell? ⟨p, 3, none⟩ with | some (.bool true) => 1 | _ => 0)
    case atStart => exact ⟨_, HC.out⟩
    case round =>
      obtain ⟨s', hcw⟩ := hrel
      have HCW := Lib.hid hcw
      obtain ⟨⟨c0, c1, c2, c3⟩, k0, k1, k2, k3⟩ := four hcw.ss.blk
      have hft := hcw.fl HOK.out
      have HFT := Lib.hid hft
      have HGR := Lib.hid (fun W (N : New wr W) => grant_any p mb c D s' W (HCW.out.ss.later N) hft)
      have HOF := Lib.hid (hcw.off HH.out)
      have htr := hcw.ss.tr
      have HLZ : Hid (∀ W (S : Nat → Prop), Turns S wr W → ¬ S mz → (Instr.lookup 80 (.map (some mz)) (.int .i64 s'.turn) false).run Try.prog W = .ok (.int .i64 (sizeOf' l s'.turn)) W) := Lib.hid (fun W S t hn => look_at_sz (ownsMap_turns HCW.out.zm t hn) HMZ.out htr.1 htr.2)
      have hq := HLZ.out wr.drew (fun _ => False) ((Turns.refl _ _).drew) (fun h => h)
      clear hcw hft HC
      have HSI := Lib.hid (fun x (hx : x ∈ ids l) => HCW.out.sim.fl (HTL.out x hx))
      have HSM : Hid (∀ x ∈ ids l, sizeOf' l x ≤ s'.most) := Lib.hid (fun x hx => by rw [HCW.out.sim.1]; exact size_most HOK.out hx)
      cases hlow : lowS l s'
      · have d1 : decide (leftOf (grantS s') s'.turn < sizeOf' l s'.turn) = false := hlow
        obtain rfl : fin = grantS s' := by
          rw [← HCW.out.run]
          unfold runS
          rw [hlow]
          rfl
        clear hlow
        go_upto_region 10 with fail
        go_region_with (go_at_call 50; (with_reducible refine Calls.mono (HGR.out _ ?_) ?_); (focus (exact (Turns.refl _ _).drew)); rintro e wq ⟨rfl, hsq, htq⟩; obtain ⟨⟨m0, m1, m2, m3⟩, _⟩ := four hsq.blk; rw [(grant_turn s').1] at m2; have hq2 := HLZ.out wq _ (Turns.of_drew htq) HOF.out.1; have HSQ := Lib.hid hsq; have HTQ := Lib.hid (Turns.of_drew htq); clear hsq htq)
        all_goals
          go_wp2
          go_ret2
          exact ⟨by rw [(grant_turn s').1]; rfl, HSQ.out, HCW.out.t.trans (HTQ.out.mono (fun i _ hi => .inl (HCW.out.sim.foot hi)))⟩
      · have d1 : decide (leftOf (grantS s') s'.turn < sizeOf' l s'.turn) = true := hlow
        have HLF := Lib.hid (low_facts HCW.out.ss.ok HCW.out.ss.ap HFT.out HID.out HSI.out HSM.out HCW.out.tn hlow)
        have HPG := Lib.hid (fun wq (hs : Ss wq p mb c D (grantS s')) (hr : Row wq g (ids l)) => pass p mb c D (grantS s') (ids l) g cap wq hs hr HID.out (by rw [HIL.out]; exact hlen) hcap HOK.out.asc hrg HLF.out.2.1)
        have hw3 : wr.cell? ⟨p, 3, none⟩ = some (.bool true) := by rw [c3, HLF.out.1]
        have HW3 := Lib.hid hw3
        clear hlow hw3
        go_upto_region 10 with fail
        go_region_with (go_at_call 50; (with_reducible refine Calls.mono (HGR.out _ ?_) ?_); (focus (exact (Turns.refl _ _).drew)); rintro e wq ⟨rfl, hsq, htq⟩; obtain ⟨⟨m0, m1, m2, m3⟩, _⟩ := four hsq.blk; rw [(grant_turn s').1] at m2; have hq2 := HLZ.out wq _ (Turns.of_drew htq) HOF.out.1; have HSQ := Lib.hid hsq; have HTQ := Lib.hid (Turns.of_drew htq); clear hsq htq)
        all_goals
          have HPQ := Lib.hid (HPG.out wq HSQ.out (HCW.out.row.turns HTQ.out HOF.out.2))
          clear hq hq2 m0 m1 m2 m3 c0 c1 c2 c3 k0 k1 k2 k3 d1
          go_wp2_with fail
          refine HPQ.out.mono ?_
          rintro e w6 ⟨rfl, hs6, ht6⟩
          have HS6 : Hid (Ss w6 p mb c D (passS l (grantS s'))) := Lib.hid hs6
          have HT6 := Lib.hid ht6
          clear hs6 ht6
          go_wp2_with fail
          go_roundw
          case rel =>
            have hp := HH.out.lt
            have hz := HCW.out.z0
            have hg := HCW.out.g0
            exact ⟨passS l (grantS s'), HS6.out, ownsMap_turns (ownsMap_turns HCW.out.zm HTQ.out HOF.out.1) HT6.out (fun e => by omega), (HCW.out.row.turns HTQ.out HOF.out.2).turns HT6.out (fun e => by omega), (HCW.out.t.trans (HTQ.out.mono (fun i _ hi => .inl (HCW.out.sim.foot hi)))).trans (HT6.out.mono (fun i _ hi => .inl (.inl hi))), HCW.out.sim.grant.pass l, HLF.out.2.2.2, HLF.out.2.2.1.trans HCW.out.run, hz, hg⟩
          case measure =>
            have h6 := HS6.out.blk.cell 3
            have h6' : w6.cell? ⟨p, 3, none⟩ = some (.bool false) := h6
            rw [h6', HW3.out]
            decide
  · rw [decide_eq_false hin] at hlk
    have hfe : firS l s = passS l (begS l s) := by unfold firS; rw [if_neg hin]
    have hok : (passS l (begS l s)).ok := by rw [← hfe]; exact HFI.out.1
    have HP2 := Lib.hid (HPS.out hok)
    clear HPS hok
    go_wp2_with fail
    refine HP2.out.mono ?_
    rintro e w5 ⟨rfl, hs5, ht5⟩
    have HC : Hid (Cw w w5 p mb c mz l.length g D DZ s (firS l s) fin l) := Lib.hid (by
      rw [hfe] at HFN ⊢
      have hp := HH.out.lt
      refine ⟨hs5, ownsMap_turns HZ4.out ht5 (fun e => ?_), HROW.out.turns ht5 (fun e => ?_), HT4.out.trans (ht5.mono (fun i _ hi => .inl (.inl hi))), (Sim.beg s l).pass l, nextId_mem hid _, HFN.out, HGE.out, HGG.out⟩
      · have := HGE.out; omega
      · have := HGG.out; omega)
    clear hin hfe HP2 HS4 HZ4 HROW HT4 hgl hzl hs5 ht5 hlk c0 c1 c2 c3 k0 k1 k2 k3
    go_wp2_with fail
    go_loopw [] (fun wr => ∃ s', Cw w wr p mb c mz l.length g D DZ s s' fin l) (fun wr => match wr.cell? ⟨p, 3, none⟩ with | some (.bool true) => 1 | _ => 0)
    case atStart => exact ⟨_, HC.out⟩
    case round =>
      obtain ⟨s', hcw⟩ := hrel
      have HCW := Lib.hid hcw
      obtain ⟨⟨c0, c1, c2, c3⟩, k0, k1, k2, k3⟩ := four hcw.ss.blk
      have hft := hcw.fl HOK.out
      have HFT := Lib.hid hft
      have HGR := Lib.hid (fun W (N : New wr W) => grant_any p mb c D s' W (HCW.out.ss.later N) hft)
      have HOF := Lib.hid (hcw.off HH.out)
      have htr := hcw.ss.tr
      have HLZ : Hid (∀ W (S : Nat → Prop), Turns S wr W → ¬ S mz → (Instr.lookup 80 (.map (some mz)) (.int .i64 s'.turn) false).run Try.prog W = .ok (.int .i64 (sizeOf' l s'.turn)) W) := Lib.hid (fun W S t hn => look_at_sz (ownsMap_turns HCW.out.zm t hn) HMZ.out htr.1 htr.2)
      have hq := HLZ.out wr.drew (fun _ => False) ((Turns.refl _ _).drew) (fun h => h)
      clear hcw hft HC
      have HSI := Lib.hid (fun x (hx : x ∈ ids l) => HCW.out.sim.fl (HTL.out x hx))
      have HSM : Hid (∀ x ∈ ids l, sizeOf' l x ≤ s'.most) := Lib.hid (fun x hx => by rw [HCW.out.sim.1]; exact size_most HOK.out hx)
      cases hlow : lowS l s'
      · have d1 : decide (leftOf (grantS s') s'.turn < sizeOf' l s'.turn) = false := hlow
        obtain rfl : fin = grantS s' := by
          rw [← HCW.out.run]
          unfold runS
          rw [hlow]
          rfl
        clear hlow
        go_upto_region 10 with fail
        go_region_with (go_at_call 50; (with_reducible refine Calls.mono (HGR.out _ ?_) ?_); (focus (exact (Turns.refl _ _).drew)); rintro e wq ⟨rfl, hsq, htq⟩; obtain ⟨⟨m0, m1, m2, m3⟩, _⟩ := four hsq.blk; rw [(grant_turn s').1] at m2; have hq2 := HLZ.out wq _ (Turns.of_drew htq) HOF.out.1; have HSQ := Lib.hid hsq; have HTQ := Lib.hid (Turns.of_drew htq); clear hsq htq)
        all_goals
          go_wp2
          go_ret2
          exact ⟨by rw [(grant_turn s').1]; rfl, HSQ.out, HCW.out.t.trans (HTQ.out.mono (fun i _ hi => .inl (HCW.out.sim.foot hi)))⟩
      · have d1 : decide (leftOf (grantS s') s'.turn < sizeOf' l s'.turn) = true := hlow
        have HLF := Lib.hid (low_facts HCW.out.ss.ok HCW.out.ss.ap HFT.out HID.out HSI.out HSM.out HCW.out.tn hlow)
        have HPG := Lib.hid (fun wq (hs : Ss wq p mb c D (grantS s')) (hr : Row wq g (ids l)) => pass p mb c D (grantS s') (ids l) g cap wq hs hr HID.out (by rw [HIL.out]; exact hlen) hcap HOK.out.asc hrg HLF.out.2.1)
        have hw3 : wr.cell? ⟨p, 3, none⟩ = some (.bool true) := by rw [c3, HLF.out.1]
        have HW3 := Lib.hid hw3
        clear hlow hw3
        go_upto_region 10 with fail
        go_region_with (go_at_call 50; (with_reducible refine Calls.mono (HGR.out _ ?_) ?_); (focus (exact (Turns.refl _ _).drew)); rintro e wq ⟨rfl, hsq, htq⟩; obtain ⟨⟨m0, m1, m2, m3⟩, _⟩ := four hsq.blk; rw [(grant_turn s').1] at m2; have hq2 := HLZ.out wq _ (Turns.of_drew htq) HOF.out.1; have HSQ := Lib.hid hsq; have HTQ := Lib.hid (Turns.of_drew htq); clear hsq htq)
        all_goals
          have HPQ := Lib.hid (HPG.out wq HSQ.out (HCW.out.row.turns HTQ.out HOF.out.2))
          clear hq hq2 m0 m1 m2 m3 c0 c1 c2 c3 k0 k1 k2 k3 d1
          go_wp2_with fail
          refine HPQ.out.mono ?_
          rintro e w6 ⟨rfl, hs6, ht6⟩
          have HS6 : Hid (Ss w6 p mb c D (passS l (grantS s'))) := Lib.hid hs6
          have HT6 := Lib.hid ht6
          clear hs6 ht6
          go_wp2_with fail
          go_roundw
          case rel =>
            have hp := HH.out.lt
            have hz := HCW.out.z0
            have hg := HCW.out.g0
            exact ⟨passS l (grantS s'), HS6.out, ownsMap_turns (ownsMap_turns HCW.out.zm HTQ.out HOF.out.1) HT6.out (fun e => by omega), (HCW.out.row.turns HTQ.out HOF.out.2).turns HT6.out (fun e => by omega), (HCW.out.t.trans (HTQ.out.mono (fun i _ hi => .inl (HCW.out.sim.foot hi)))).trans (HT6.out.mono (fun i _ hi => .inl (.inl hi))), HCW.out.sim.grant.pass l, HLF.out.2.2.2, HLF.out.2.2.1.trans HCW.out.run, hz, hg⟩
          case measure =>
            have h6 := HS6.out.blk.cell 3
            have h6' : w6.cell? ⟨p, 3, none⟩ = some (.bool false) := h6
            rw [h6', HW3.out]
            decide
end Go.Proofs.Ytcppibjllaablaa.drr
