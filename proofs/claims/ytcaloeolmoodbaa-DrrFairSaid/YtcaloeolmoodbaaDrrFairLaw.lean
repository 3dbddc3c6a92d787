/-
  DrrFair: the law.
-/
import Derived.Test.YtcaloeolmoodbaaDrrNear
import Derived.Deep.RegionHeld3
import Derived.Deep.QuietTactic
namespace Go.Proofs.Ytcaloeolmoodbaa.drr
open Go.RowKit mem Go.Maps
set_option linter.unusedVariables false

theorem sh_add {L : List Fl} {q : Nat → Int} {k : Nat} (h : ∀ f ∈ L, ∀ i : Nat, f.id = (i : Int) → f.share = q i) (b : Nat) : ∀ f ∈ L ++ [⟨(k : Int), b, q k, 0⟩], ∀ i : Nat, f.id = (i : Int) → f.share = q i := fun f hf i e => by
  rcases List.mem_append.1 hf with hf | hf
  · exact h f hf i e
  · simp at hf; subst hf
    have : k = i := Int.ofNat.inj e
    rw [this]
theorem left_add {L : List Fl} {k : Int} (h : ∀ f ∈ L, f.left = 0) (b : Nat) (x : Int) : ∀ f ∈ L ++ [⟨k, b, x, 0⟩], f.left = 0 := fun f hf => by
  rcases List.mem_append.1 hf with hf | hf
  · exact h f hf
  · simp at hf; subst hf; rfl
theorem Fa.start {n : Nat} {m : Int} {q : Nat → Int} {s : Sc} (hn : 0 < n) (h : Fu n m s 0) (hg : s.g = false) (hs : ∀ f ∈ s.L, ∀ i : Nat, f.id = (i : Int) → f.share = q i) (hl : ∀ f ∈ s.L, f.left = 0) : Fa n m q s 0 0 (fun _ => 0) :=
  ⟨h, hn, hs, fun i hi => by
    have e : Tk' s.g 0 0 i = 0 := by unfold Tk'; rw [hg]; rfl
    rw [e, Int.zero_mul]
    have : leftOf s (i : Int) = 0 := by
      unfold leftOf
      cases hx : fnd s.L (i : Int) with
      | none => rfl
      | some f => exact hl f (fnd_some hx).1
    rw [this]; rfl, fun _ => ⟨rfl, rfl⟩⟩
/-- what the great loop keeps -/
structure Lw (w wr : World) (p mb n gs gf : Nat) (D : DataW Unit) (m : Int) (q : Nat → Int) (s : Sc) (t c : Nat) (SL FL : List Int) (vq : Value) (i : Nat) : Prop where
  rn : Rn w wr p mb n D s
  fa : Fa n m q s t c (fun k => SL.getD k 0)
  wq : Wr itr.IntE 3 w wr p mb s vq (qL n q)
  bs : Blk wr gs (nums SL) 3
  bf : Blk wr gf (nums FL) 3
  sl : SL.length = n
  fl : FL.length = n
  off : ¬ Foot p mb s gs ∧ ¬ Foot p mb s gf ∧ gs ≠ gf ∧ vq.ownBlock ≠ some gs ∧ vq.ownBlock ≠ some gf
  g0 : w.heap.size ≤ gs ∧ w.heap.size ≤ gf
  bd : Bd n m q (fun k => FL.getD k 0)
  sz : ∀ k, k < n → 0 ≤ SL.getD k 0 ∧ SL.getD k 0 ≤ 64 * i
  fz : ∀ k, k < n → 0 ≤ FL.getD k 0 ∧ FL.getD k 0 ≤ 9600
section
variable {w wr w2 : World} {p mb n gs gf : Nat} {D : DataW Unit} {m : Int} {q : Nat → Int} {s s' : Sc} {t c t' c' : Nat} {SL FL : List Int} {vq : Value} {i : Nat}
theorem Lw.later (h : Lw w wr p mb n gs gf D m q s t c SL FL vq i) (k : New wr w2) : Lw w w2 p mb n gs gf D m q s t c SL FL vq i :=
  ⟨h.rn.later k, h.fa, h.wq.later k, k.blk h.bs (fun h => h), k.blk h.bf (fun h => h), h.sl, h.fl, h.off, h.g0, h.bd, h.sz, h.fz⟩
theorem Lw.call (h : Lw w wr p mb n gs gf D m q s t c SL FL vq i) (hl : Lf wr w2 p mb n D s s') (sim : Sim s s') (fa : Fa n m q s' t' c' (fun k => SL.getD k 0)) : Lw w w2 p mb n gs gf D m q s' t' c' SL FL vq i :=
  ⟨h.rn.call hl sim, fa, h.wq.call hl.2 sim, hl.2.blk h.bs h.off.1, hl.2.blk h.bf h.off.2.1, h.sl, h.fl, ⟨fun e => h.off.1 (sim.foot e), fun e => h.off.2.1 (sim.foot e), h.off.2.2⟩, h.g0, h.bd, h.sz, h.fz⟩
end

theorem Lw.take {w w5 w7 : World} {p mb n gs gf : Nat} {D : DataW Unit} {m : Int} {q : Nat → Int} {s : Sc} {t c : Nat} {SL FL : List Int} {vq : Value} {i : Nat} {xs zt : Int} (h : Lw w w5 p mb n gs gf D m q s t c SL FL vq i) (hg : s.g = true) (hz0 : 1 ≤ zt) (hz1 : zt ≤ 64) (hz : zt ≤ leftOf s (t : Int)) (hx : SL.getD t 0 = xs) (hl : Lf w5 w7 p mb n D s (takeS zt s)) :
    Lw w (w7.setCell ⟨gs, t, none⟩ (.int .i64 (xs + zt))).drew p mb n gs gf D m q (takeS zt s) t c (SL.set t (xs + zt)) FL vq (i + 1) := by
  have t2 : Turns (· = gs) w7 (w7.setCell ⟨gs, t, none⟩ (.int .i64 (xs + zt))).drew := (Turns.setCell (S := (· = gs)) (Turns.refl _ w7) (p := ⟨gs, t, none⟩) (.inl rfl) _).drew
  have hrn := h.rn.call hl (Sim.take s zt)
  have hsim := Sim.take s zt
  have htn : t < SL.length := by rw [h.sl]; exact h.fa.tn
  have hof : ∀ k, Foot p mb (takeS zt s) k → k ≠ gs := fun k hk e => h.off.1 (hsim.foot (by rw [← e]; exact hk))
  have hfu : (fun k => (SL.set t (xs + zt)).getD k 0) = fun k => if k = t then SL.getD k 0 + zt else SL.getD k 0 := funext (fun k => by
    rw [getD_set _ _ _ _ htn]
    by_cases e : k = t
    · subst e; rw [if_pos rfl, if_pos rfl, hx]
    · rw [if_neg e, if_neg e])
  have hwq := h.wq.call hl.2 hsim
  refine ⟨⟨hrn.ss.turns t2 (fun e => hof p (.inl rfl) e) (fun e => hof mb (.inr (.inl rfl)) e) (fun f hf e => hof f.b (.inr (.inr ⟨f, hf, rfl⟩)) e), hrn.n.trans (t2.mono (fun k _ hk => .inr (by rw [hk]; exact h.g0.1))), hrn.p0, hrn.m0, hrn.f0⟩, ?_, ⟨hwq.own.turns t2 (fun g hg e => h.off.2.2.2.1 (by rw [hg, e])), hwq.vb, hwq.off⟩, ?_, t2.blk (hl.2.blk h.bf h.off.2.1) (fun e => h.off.2.2.1 e.symm), by rw [List.length_set]; exact h.sl, h.fl, ⟨fun e => h.off.1 (hsim.foot e), fun e => h.off.2.1 (hsim.foot e), h.off.2.2⟩, h.g0, h.bd, fun k hk => ?_, h.fz⟩
  · rw [hfu]
    exact h.fa.take h.rn.ss.ap hg (by omega) hz
  · have hb := (hl.2.blk h.bs h.off.1).set t (.int .i64 (xs + zt))
    rw [nums_set] at hb
    exact hb
  · rw [getD_set _ _ _ _ htn]
    have h1 := h.sz k hk
    have h2 := h.sz t h.fa.tn
    rw [hx] at h2
    split
    · push_cast; omega
    · push_cast; omega
theorem add_at (g j : Nat) : (⟨g, 0, none⟩ : Addr).add j = ⟨g, j, none⟩ := by unfold Addr.add; split <;> simp_all
theorem copy_src {w : World} {g : Nat} {L : List Int} {T : TypeId} (h : Blk w g (nums L) T) : ∀ (j : Nat) (v : Value), (L.map (Value.int .i64))[j]? = some v → w.cell? ((⟨g, 0, none⟩ : Addr).add j) = some v := fun j v hj => by
  rw [add_at]
  exact (h.cell j).trans (show (nums L)[j]? = some v by simpa [nums] using hj)
theorem copy_len {L : List Int} {n : Nat} (h : L.length = n) : (L.map (Value.int .i64)).length = Nat.min n n := by rw [List.length_map, h]; exact (Nat.min_self n).symm
theorem copy_fit {L F : List Int} {n : Nat} (h : L.length = n) (k : F.length = n) : 0 + (L.map (Value.int .i64)).length ≤ (nums F).size := by simp [nums, h, k]
theorem copy_row {L F : List Int} {n : Nat} (h : L.length = n) (k : F.length = n) : ((nums F).toList.take 0 ++ (L.map (Value.int .i64) ++ (nums F).toList.drop (0 + (L.map (Value.int .i64)).length))).toArray = nums L := by
  apply Array.ext'
  simp [nums, h, k]
theorem copy_one (L : List Int) : ∀ v ∈ L.map (Value.int .i64), v.oneCell' = true := fun v hv => by obtain ⟨x, _, e⟩ := List.mem_map.1 hv; rw [← e]; rfl
theorem infoS : (Try.prog.info? 3).map (fun i => i.size) = some 1 := by kernel_rfl
theorem setRow_turns (w : World) (g : Nat) (cs : Array Value) : Turns (· = g) w (w.setRow g cs) :=
  ⟨rfl, rfl, rfl, by simp [World.setRow], fun k _ hk => setRow_other w g k cs hk⟩
theorem Lw.copy {w w1 w2 : World} {p mb n gs gf : Nat} {D : DataW Unit} {m : Int} {q : Nat → Int} {s : Sc} {t c : Nat} {SL FL : List Int} {vq : Value} {i : Nat} (h : Lw w w1 p mb n gs gf D m q s t c SL FL vq i) (hi : i ≤ 150) (hq : ∀ i, i < n → 1 ≤ q i) (t2 : Turns (· = gf) w1 w2) (hb : Blk w2 gf (nums SL) 3) :
    Lw w w2 p mb n gs gf D m q s t c SL SL vq i := by
  have hof : ∀ k, Foot p mb s k → k ≠ gf := fun k hk e => h.off.2.1 (by rw [← e]; exact hk)
  exact ⟨⟨h.rn.ss.turns t2 (fun e => hof p (.inl rfl) e) (fun e => hof mb (.inr (.inl rfl)) e) (fun f hf e => hof f.b (.inr (.inr ⟨f, hf, rfl⟩)) e), h.rn.n.trans (t2.mono (fun k _ hk => .inr (by rw [hk]; exact h.g0.2))), h.rn.p0, h.rn.m0, h.rn.f0⟩, h.fa, ⟨h.wq.own.turns t2 (fun g hg e => h.off.2.2.2.2 (by rw [hg, e])), h.wq.vb, h.wq.off⟩, t2.blk h.bs h.off.2.2.1, hb, h.sl, h.sl, h.off, h.g0, h.fa.bd h.rn.ss.ok h.rn.ss.ap hq, h.sz, fun k hk => by have := h.sz k hk; omega⟩

theorem Lw.q {w wr : World} {p mb n gs gf gq cq : Nat} {D : DataW Unit} {m : Int} {q : Nat → Int} {s : Sc} {t c : Nat} {SL FL : List Int} {i : Nat} (h : Lw w wr p mb n gs gf D m q s t c SL FL (.slice (some ⟨gq, 0, none⟩) n cq) i) {j : Nat} (hj : j < n) : wr.cell? ⟨gq, j, none⟩ = some (.int .i64 (q j)) := by
  obtain ⟨g, cc, e, _, _, hc⟩ := row_at h.wq.own (i := j) (by rw [qL_len]; exact hj)
  injection e with e _ _
  injection e with e
  injection e with e _ _
  subst e
  rw [hc j (by rw [qL_len]; exact hj), qL_get _ _ _ hj]
theorem Lw.s {w wr : World} {p mb n gs gf : Nat} {D : DataW Unit} {m : Int} {q : Nat → Int} {s : Sc} {t c : Nat} {SL FL : List Int} {vq : Value} {i : Nat} (h : Lw w wr p mb n gs gf D m q s t c SL FL vq i) {j : Nat} (hj : j < n) : wr.cell? ⟨gs, j, none⟩ = some (.int .i64 (SL.getD j 0)) ∧ wr.cell? ⟨gf, j, none⟩ = some (.int .i64 (FL.getD j 0)) :=
  ⟨(h.bs.cell j).trans (nums_at SL j (by rw [h.sl]; exact hj)), (h.bf.cell j).trans (nums_at FL j (by rw [h.fl]; exact hj))⟩

set_option maxRecDepth 100000 in
set_option maxHeartbeats 8000000 in
theorem fair_law (a : Int) (ao : Option Addr) (n c : Nat) (z : Nat → Int) (bo : Option Addr) (n2 c2 : Nat) (y : Nat → Int) (w : World) (a0 : -9223372036854775808 ≤ a) (a1 : a ≤ 9223372036854775807) (h : args.IntRow .i64 w ao n c z) (h2 : args.IntRow .i64 w bo n2 c2 y) :
    Calls Try.prog 5 #[.int .i64 a, .slice ao n c, .slice bo n2 c2] w fun e w' => e = .returned (.bool true) ∧ Below w.heap.size w w' := by
  have HA := Lib.hid (fun w => awake w)
  obtain ⟨hn, _, hrow⟩ := h
  obtain ⟨hn2, hok2, hrow2⟩ := h2
  have HROW := Lib.hid hrow
  have HROW2 := Lib.hid hrow2
  have HOK2 := Lib.hid hok2
  have M6 := mask.mask6 a
  have hm0 : 0 ≤ a % 64 ∧ a % 64 < 64 := by omega
  obtain ⟨hm1, hm2⟩ := hm0
  have W1 : IntKind.i64.wrap (1 + a % 64) = 1 + a % 64 := IntWalk.i64_in _ (by omega)
  clear hok2 hrow hrow2
  go_enter Try.func5, Try.ntmps5
  go_upto_region 2 with fail
  clear M6 W1
  have HMS : Hid (1 ≤ 1 + a % 64 ∧ 1 + a % 64 ≤ 64) := Lib.hid (by omega)
  clear hm1 hm2 a0 a1
  generalize 1 + a % 64 = m at *
  obtain ⟨m1, m2⟩ := HMS.out
  have HN := Lib.hid (new_ok m w m1 (by omega))
  go_wp2_with fail
  refine HN.out.mono ?_
  rintro e w1 ⟨p, rfl, hs1, hn1, hp1⟩
  obtain ⟨mb, hmb⟩ : ∃ mb, w.heap.size = mb := ⟨_, rfl⟩
  have HR1 : Hid (Rn w w1 p w.heap.size 0 (.map []) (fresh m)) := Lib.hid ⟨hs1, hn1, hp1, Nat.le_refl _, (fun f hf => by cases hf)⟩
  rw [hmb] at HR1
  clear hs1 hn1 hp1 HN hmb
  go_wp2_with fail
  refine (HA.out _).mono ?_
  rintro e w2 ⟨rfl, n2'⟩
  have HR2 := Lib.hid (HR1.out.later n2')
  clear n2' HR1
  have hlo : 0 ≤ min (n : Int) 5 := by omega
  obtain ⟨N, hN⟩ : ∃ N : Nat, min (n : Int) 5 = (N : Int) := ⟨_, (Int.toNat_of_nonneg hlo).symm⟩
  have hN5 : N ≤ 5 := by omega
  have hNn : N ≤ n := by omega
  obtain ⟨q, hqd⟩ : ∃ q : Nat → Int, ∀ i, q i = m + z i % 256 := ⟨fun i => m + z i % 256, fun _ => rfl⟩
  have HQ : Hid (∀ i, m ≤ q i ∧ q i ≤ 319 ∧ q i = m + z i % 256) := Lib.hid (fun i => by rw [hqd i]; omega)
  clear hlo hqd
  have HW2 : Hid (Wr itr.IntE 3 w (w2.alloc (.cells #[] 3)) p mb (fresh m) (.slice (some ⟨w2.heap.size, 0, none⟩) 0 0) (qL 0 q)) := Lib.hid ⟨World.ownsRow_made w2 #[] 0 (Nat.zero_le _) (Nat.zero_le _) rfl, (fun g hg => by
        have : w2.heap.size = g := by simpa [Value.ownBlock] using hg
        rw [← this]; exact HR2.out.n.size), (fun g hg e => by
        have : w2.heap.size = g := by simpa [Value.ownBlock] using hg
        have := HR2.out.ss.foot g e
        omega)⟩
  have HR3 := Lib.hid (HR2.out.later ((Turns.refl _ _).alloc (.cells #[] 3)))
  clear HR2
  go_wp2_with fail
  go_loopw [10, 11, 40] (fun vq _ i wr => ∃ (k : Nat) (s : Sc) (D : DataW Unit), k ≤ N ∧ i = .int .i64 k ∧ Rn w wr p mb k D s ∧ Fu k m s 0 ∧ s.g = false ∧ (∀ f ∈ s.L, ∀ i : Nat, f.id = (i : Int) → f.share = q i) ∧ (∀ f ∈ s.L, f.left = 0) ∧ Wr itr.IntE 3 w wr p mb s vq (qL k q)) (fun _ _ i _ => N - (intOf i).toNat)
  case atStart => exact ⟨0, _, _, by omega, rfl, HR3.out, ⟨rfl, rfl, rfl⟩, rfl, (fun f hf => by cases hf), (fun f hf => by cases hf), HW2.out⟩
  case round =>
    obtain ⟨k, s, D, hk, rfl, hrn, hfu, hgf, hsh, hlf, hwr⟩ := hrel
    have HRN := Lib.hid hrn
    have HFU := Lib.hid hfu
    have HWR := Lib.hid hwr
    have HSH := Lib.hid (And.intro hgf (And.intro hsh hlf))
    clear hrn hfu hwr HR3 HW2 hgf hsh hlf
    by_cases hlt : k < N
    · obtain ⟨b, off, rfl, hb, hc⟩ := HROW.out.resolve_left (by omega)
      have e0 := (HRN.out.n.cell (a := ⟨b, off + k, none⟩) hb (fun h => h)).trans (hc k (by omega))
      have M8 := mask.mask8 (z k)
      obtain ⟨hq0, hq1, hq2⟩ := HQ.out k
      have W2 : IntKind.i64.wrap (m + z k % 256) = m + z k % 256 := IntWalk.i64_in _ (by omega)
      rw [← hq2] at W2
      have W2' : IntKind.i64.wrap (m + z k % 256) = q k := by rw [← hq2]; exact W2
      have d1 : decide ((k : Int) < (N : Int)) = true := decide_eq_true (by omega)
      have i0 : (0 : Int) ≤ (k : Int) := by omega
      have i1 : (k : Int) < (n : Int) := by omega
      have HZK : Hid (m + z k % 256 = q k) := Lib.hid hq2.symm
      clear hq2 W2
      go_upto_region 11 with (at_builtin; refine wpList_append_one (E := itr.IntE) Try.underlying45 infoI rfl (by decide) (by decide) rfl _ _ rfl _ (qL k q) (q k) rfl (HWR.out.own.turns (S := fun _ => False) ((Turns.refl _ _).alloc _) (fun _ _ h => h)) wr.heap.size rfl (heap_alloc_new wr _) (by rw [qL_len]; omega) ?_; intro v6 w6 hown6 hgrow6 hat6; have HW6 := Lib.hid (HWR.out.push HRN.out.n HRN.out.ss hown6 hgrow6 hat6); have HR6 := Lib.hid (HRN.out.push HWR.out hgrow6); clear hown6 hgrow6 hat6)
      rw [← qL_succ] at HW6
      obtain ⟨g6, cp6, hv6, hcp6, hg6, hcell6⟩ := row_at HW6.out.own (i := k) (by rw [qL_len]; omega)
      have hcq := hcell6 k (by rw [qL_len]; omega)
      rw [qL_get _ _ _ (Nat.lt_succ_self k)] at hcq
      rw [qL_len] at hv6
      subst hv6
      have HAD := Lib.hid (add_ok p mb k D s (k : Int) (q k) w6 HR6.out.1.ss (by rw [HFU.out.mo]; exact hq0) (by omega) (by omega) (by omega) HFU.out.none (by omega))
      have j1 : (k : Int) < ((k + 1 : Nat) : Int) := by omega
      clear hcell6 e0 M8 W2'
      go_wp2_with fail
      refine HAD.out.mono ?_
      rintro e w7 ⟨rfl, hs7, ht7⟩
      have HR7 := Lib.hid (HR6.out.1.add hs7 ht7)
      have HW7 := Lib.hid (HW6.out.add ht7 (k : Int) (q k))
      have HF7 := Lib.hid (HFU.out.add w6.heap.size (q k))
      have HS7 : Hid ((addS s (k : Int) w6.heap.size (q k)).g = false ∧ (∀ f ∈ (addS s (k : Int) w6.heap.size (q k)).L, ∀ i : Nat, f.id = (i : Int) → f.share = q i) ∧ (∀ f ∈ (addS s (k : Int) w6.heap.size (q k)).L, f.left = 0)) := Lib.hid ⟨HSH.out.1, sh_add HSH.out.2.1 _, left_add HSH.out.2.2 _ _⟩
      clear hs7 ht7 HAD hcq
      generalize addS s (k : Int) w6.heap.size (q k) = s7 at *
      generalize DataW.put D _ _ = D7 at *
      go_wp2_with fail
      go_roundw
      case rel => exact ⟨k + 1, s7, D7, by omega, by go_num, HR7.out, HF7.out, HS7.out.1, HS7.out.2.1, HS7.out.2.2, HW7.out⟩
      case measure => simp [intOf]; omega
    · obtain rfl : k = N := by omega
      clear hlt hN
      generalize k = N at *
      generalize u10 = vq at *
      rcases Nat.eq_zero_or_pos N with hN0 | hN0
      · have z1 : ((N : Int) == 0) = true := by rw [hN0]; rfl
        have HNW : Hid (New w wr) := Lib.hid HRN.out.n
        clear HRN HWR HFU HSH hN0
        go_wp2
        go_ret
        exact ⟨rfl, HNW.out.below (Nat.le_refl _) (fun _ _ h => h.elim)⟩
      · have z1 : ((N : Int) == 0) = false := by simp; omega
        rcases Nat.eq_zero_or_pos n2 with hn0 | hn0
        · have z2 : ((n2 : Int) == 0) = true := by rw [hn0]; rfl
          have HNW : Hid (New w wr) := Lib.hid HRN.out.n
          clear HRN HWR HFU HSH hN0 hn0
          go_wp2
          go_ret
          exact ⟨rfl, HNW.out.below (Nat.le_refl _) (fun _ _ h => h.elim)⟩
        · have z2 : ((n2 : Int) == 0) = false := by simp; omega
          obtain ⟨bb, off, rfl, hb, hc2⟩ := HROW2.out.resolve_left (by omega)
          obtain ⟨gq, cq, hvq, hcq, _, _⟩ := row_at HWR.out.own (i := 0) (by rw [qL_len]; omega)
          rw [qL_len] at hvq
          subst hvq
          clear hcq
          have HC2 := Lib.hid hc2
          have hmk := make_int N (by omega)
          have HQ1 : Hid (∀ i, i < N → 1 ≤ q i) := Lib.hid (fun i _ => by have := HQ.out i; omega)
          have HL0 : Hid (Lw w ((wr.alloc (.cells (nums (List.replicate N 0)) 3)).alloc (.cells (nums (List.replicate N 0)) 3)) p mb N wr.heap.size (wr.alloc (.cells (nums (List.replicate N 0)) 3)).heap.size D m q s 0 0 (List.replicate N 0) (List.replicate N 0) (.slice (some ⟨gq, 0, none⟩) N cq) 0) := Lib.hid (by
            have k1 : New wr ((wr.alloc (.cells (nums (List.replicate N 0)) 3)).alloc (.cells (nums (List.replicate N 0)) 3)) := ((Turns.refl _ _).alloc _).alloc _
            have e1 : (wr.alloc (.cells (nums (List.replicate N 0)) 3)).heap.size = wr.heap.size + 1 := by unfold World.alloc; exact Array.size_push _
            have hz : ∀ k : Nat, (List.replicate N (0 : Int)).getD k 0 = 0 := fun k => by
              rw [List.getD_eq_getElem?_getD, List.getElem?_replicate]; split <;> rfl
            have hzf : (fun k : Nat => (List.replicate N (0 : Int)).getD k 0) = fun _ => 0 := funext hz
            have hns := HRN.out.n.size
            refine ⟨HRN.out.later k1, by rw [hzf]; exact Fa.start hN0 HFU.out HSH.out.1 HSH.out.2.1 HSH.out.2.2, HWR.out.later k1, (Blk.new _ _ _).alloc _, Blk.new _ _ _, List.length_replicate, List.length_replicate, ⟨fun e => ?_, fun e => ?_, by omega, fun e => ?_, fun e => ?_⟩, ⟨by omega, by omega⟩, by rw [hzf]; exact Bd.zero (by omega) HQ1.out, fun k _ => by rw [hz k]; omega, fun k _ => by rw [hz k]; omega⟩
            · have := HRN.out.ss.foot _ e; omega
            · have := HRN.out.ss.foot _ e; omega
            · have := HWR.out.own.lt _ e; omega
            · have := HWR.out.own.lt _ e; omega)
          have HSZ : Hid ((wr.alloc (.cells (nums (List.replicate N 0)) 3)).heap.size = wr.heap.size + 1) := Lib.hid (by unfold World.alloc; exact Array.size_push _)
          rw [HSZ.out] at HL0
          clear HRN HWR HFU HSH hc2
          clear HSZ
          go_wp2_with fail
          generalize wr.heap.size + 1 = gf at *
          generalize wr.heap.size = gs at *
          go_loopw [14] (fun i wx => ∃ (i' : Nat) (s : Sc) (t c : Nat) (SL FL : List Int), i' ≤ 150 ∧ i = .int .i64 i' ∧ Lw w wx p mb N gs gf D m q s t c SL FL (.slice (some ⟨gq, 0, none⟩) N cq) i') (fun i _ => 150 - (intOf i).toNat)
          case atStart => exact ⟨0, s, 0, 0, _, _, by omega, rfl, HL0.out⟩
          case round =>
            obtain ⟨i, s, t, c, SL, FL, hi, rfl, hlw⟩ := hrel
            rename World => wx
            have HLW := Lib.hid hlw
            clear hlw HL0
            by_cases hlt : i < 150
            · have d1 : decide ((i : Int) < 150) = true := decide_eq_true (by omega)
              obtain ⟨zi, hzi⟩ : ∃ zi : Nat → Int, ∀ k, zi k = (y ((i + 3 * k) % n2) % 65536) % m + 1 := ⟨fun k => (y ((i + 3 * k) % n2) % 65536) % m + 1, fun _ => rfl⟩
              have HZI : Hid (∀ k, 1 ≤ zi k ∧ zi k ≤ m) := Lib.hid (fun k => by
                rw [hzi k]
                have h1 := Int.emod_nonneg (y ((i + 3 * k) % n2) % 65536) (show m ≠ 0 by omega)
                have h2 := Int.emod_lt_of_pos (y ((i + 3 * k) % n2) % 65536) (show 0 < m by omega)
                omega)
              have HZD := Lib.hid hzi
              clear hzi
              go_wp2_with fail
              go_loopw [15, 16, 78] (fun vl _ kk wy => ∃ k : Nat, k ≤ N ∧ kk = .int .i64 k ∧ Gr HE HT wx wy vl (hsN k zi)) (fun _ _ kk _ => N - (intOf kk).toNat)
              case atStart => exact ⟨0, by omega, rfl, Gr.nil HE HT wx wx (Turns.refl _ _)⟩
              case round =>
                obtain ⟨k, hk, rfl, hgr⟩ := hrel
                have HGR := Lib.hid hgr
                clear hgr
                by_cases hkn : k < N
                · have d2 : decide ((k : Int) < (N : Int)) = true := decide_eq_true (by omega)
                  obtain ⟨M, hMd⟩ : ∃ M : Nat, (i + 3 * k) % n2 = M := ⟨_, rfl⟩
                  have hMl : M < n2 := by rw [← hMd]; exact Nat.mod_lt _ hn0
                  have hM : ((i : Int) + 3 * (k : Int)) % (n2 : Int) = (M : Int) := by rw [← hMd]; push_cast; rfl
                  have ey := ((HLW.out.rn.n.trans (HGR.out.n.mono (fun _ _ h => h.elim))).cell (a := ⟨bb, off + M, none⟩) hb (fun h => h)).trans (HC2.out M hMl)
                  have hzk := HZD.out k
                  rw [hMd] at hzk
                  have M16 := mask.and_mask (y M) 65535 16 (by omega) rfl
                  have W1 : IntKind.i64.wrap (3 * (k : Int)) = 3 * (k : Int) := IntWalk.i64_in _ (by omega)
                  have W2 : IntKind.i64.wrap ((i : Int) + 3 * (k : Int)) = (i : Int) + 3 * (k : Int) := IntWalk.i64_in _ (by omega)
                  have m0 : (0 : Int) ≤ (M : Int) := by omega
                  have m1' : (M : Int) < (n2 : Int) := by omega
                  have hmz : (m == 0) = false := by simp; omega
                  have hyp : 0 ≤ y M % 65536 ∧ y M % 65536 < 65536 := by omega
                  obtain ⟨hy0, hy1⟩ := hyp
                  have hzb := HZI.out k
                  have W3 : IntKind.i64.wrap (y M % 65536 % m + 1) = zi k := by rw [← hzk]; exact IntWalk.i64_in _ (by omega)
                  clear hzk hzb hMd
                  obtain ⟨zk, hzk2⟩ : ∃ zk, zi k = zk := ⟨_, rfl⟩
                  rw [hzk2] at W3
                  have HZK := Lib.hid hzk2
                  clear hzk2
                  go_wp2_with (at_builtin; refine wpList_append_one (E := HE) Try.underlying51 infoH rfl (by decide) (by decide) rfl _ _ rfl _ (hsN k zi) ((k : Int), zk) rfl (HGR.out.own.turns (S := fun _ => False) ((Turns.refl _ _).alloc _) (fun _ _ h => h)) wr.heap.size rfl (heap_alloc_new wr _) (by rw [hsN_len]; omega) ?_; intro v6 w6 hown6 hgrow6 hat6; have HG6 := Lib.hid (HGR.out.push hown6 hgrow6 hat6); clear hown6 hgrow6 hat6)
                  go_roundw
                  case rel => exact ⟨k + 1, by omega, by go_num, by rw [hsN_succ, HZK.out]; exact HG6.out⟩
                  case measure => simp [intOf]; omega
                · have hke : k = N := by omega
                  have d9 : decide ((k : Int) < (N : Int)) = false := decide_eq_false (by omega)
                  rw [hke] at HGR
                  clear hk hke
                  rename World => wl
                  have HLA := Lib.hid (HLW.out.later HGR.out.n)
                  obtain ⟨al, cl, hvl, hcl, hrd, hvo⟩ := HGR.out.own.form
                  rw [hsN_len] at hvl
                  subst hvl
                  rcases hrd with e | ⟨gl, rfl, hgl, hcell⟩
                  · exact absurd e (hs_ne hN0)
                  have HVC : Hid (∀ j : Nat, j < N → wl.cell? ⟨gl, j * 2 + 1, none⟩ = some (.int .i64 (zi j))) := Lib.hid (fun j hj => hcell j _ (hsN_get hj) 1 _ rfl)
                  have HGB : Hid (gl < wl.heap.size ∧ ¬ Foot p mb s gl) := Lib.hid ⟨hgl, fun e => by have := HLW.out.rn.ss.foot _ e; have := HGR.out.vb gl (hvo gl rfl); omega⟩
                  obtain ⟨t', c', ht', htu, hg', hzl, hfa⟩ := HLW.out.fa.choose HLW.out.rn.ss.ok HLW.out.rn.ss.ap (z := zi) (fun i _ => HZI.out i)
                  have hcc := choose_cons p mb N D s (hsN N zi) _ wl HLA.out.rn.ss (hrow_owns HGR.out.own) (HLW.out.fa.fu.ok (fun i _ => by have := HZI.out i; omega)) (hs_ne hN0) (by rw [hsN_len]; omega) (by rw [hsN_ids]; intro x hx; obtain ⟨i, hi, rfl⟩ := natL_mem.1 hx; omega)
                  rw [htu] at hcc
                  have HCH := Lib.hid hcc
                  have HSI := Lib.hid (Sim.choose (hsN N zi) s)
                  have HFA := Lib.hid (And.intro hg' (And.intro hzl hfa))
                  generalize chooseS (hsN N zi) s = s5 at *
                  clear hcc htu hg' hzl hfa hcell hgl hvo hcl
                  have i0 : (0 : Int) ≤ (t' : Int) := by omega
                  have i1 : (t' : Int) < (N : Int) := by omega
                  have d3 : decide ((t' : Int) < 0) = false := decide_eq_false (by omega)
                  have d4 : decide ((N : Int) ≤ (t' : Int)) = false := decide_eq_false (by omega)
                  go_wp2_with fail
                  refine HCH.out.mono ?_
                  rintro e w5 ⟨rfl, hl5⟩
                  have HL5 := Lib.hid (HLA.out.call hl5 HSI.out HFA.out.2.2)
                  have hv5 : w5.cell? ⟨gl, t' * 2 + 1, none⟩ = some (.int .i64 (zi t')) := (hl5.2.cell (a := ⟨gl, t' * 2 + 1, none⟩) HGB.out.1 HGB.out.2).trans (HVC.out t' ht')
                  have HG5 : Hid (gl < w5.heap.size ∧ ¬ Foot p mb s5 gl) := Lib.hid ⟨Nat.lt_of_lt_of_le HGB.out.1 hl5.2.size, fun e => HGB.out.2 (HSI.out.foot e)⟩
                  obtain ⟨hz1, hz2⟩ := HZI.out t'
                  have HTK := Lib.hid (take p mb N D s5 (zi t') w5 hl5.1 (by omega))
                  have hzl := HFA.out.2.1
                  have HZL := Lib.hid hzl
                  have HX := Lib.hid (HL5.out.sz t' ht')
                  clear hl5 HCH hzl HVC
                  generalize zi t' = zt at *
                  go_wp2_with fail
                  refine HTK.out.mono ?_
                  rintro e w7 ⟨rfl, hl7⟩
                  have hv7 := (hl7.2.cell (a := ⟨gl, t' * 2 + 1, none⟩) HG5.out.1 HG5.out.2).trans hv5
                  have hb7 := hl7.2.blk HL5.out.bs HL5.out.off.1
                  have hc7 := (hb7.cell t').trans (nums_at SL t' (by rw [HL5.out.sl]; exact ht'))
                  have hf7 := hb7.free t'
                  have HB7 := Lib.hid hb7
                  have HL7 := Lib.hid hl7
                  obtain ⟨hx0, hx1⟩ := HX.out
                  obtain ⟨xs, hxs⟩ : ∃ xs, SL.getD t' 0 = xs := ⟨_, rfl⟩
                  rw [hxs] at hc7 hx0 hx1
                  have HXS := Lib.hid hxs
                  have W5 : IntKind.i64.wrap (xs + zt) = xs + zt := IntWalk.i64_in _ (by omega)
                  clear hv5 hl7 hb7 hxs HTK
                  go_upto_region 31 with fail
                  go_region
                  have HL9 := Lib.hid (HL5.out.take HFA.out.1 hz1 (by omega) HZL.out HXS.out HL7.out)
                  clear hv7 hc7 hf7 HL7 HL5 HB7 HG5 HGB W5 i0 i1 d3 d4 hx0 hx1 HX HXS HZL HFA HSI HLA HGR HLW hz1 hz2
                  generalize takeS zt s5 = s6 at *
                  generalize SL.set t' (xs + zt) = SL' at *
                  go_upto_if 137 with fail
                  refine (show Code.wp _ _ _ _ (w7.setCell ⟨gs, t', none⟩ (.int .i64 (xs + zt))).drew from ?_)
                  generalize (w7.setCell ⟨gs, t', none⟩ (.int .i64 (xs + zt))).drew = w9 at *
                  go_cut [] (fun wz => ∃ FL' : List Int, Lw w wz p mb N gs gf D m q s6 t' c' SL' FL' (.slice (some ⟨gq, 0, none⟩) N cq) (i + 1))
                  case first =>
                    by_cases h40 : i = 40
                    · have e40 : ((i : Int) == 40) = true := by simp; omega
                      clear h40
                      go_wp2_with (refine wpList_copy_own rfl _ _ 45 45 rfl 3 Try.underlying45 infoS gf 0 N N ⟨gs, 0, none⟩ N N rfl rfl (nums FL) 3 HL9.out.bf (SL'.map (Value.int .i64)) (copy_len HL9.out.sl) (copy_src HL9.out.bs) (copy_fit HL9.out.sl HL9.out.fl) (copy_one SL') ?_; rw [copy_row HL9.out.sl HL9.out.fl])
                      go_meet
                      case rel => exact ⟨SL', HL9.out.copy (by omega) HQ1.out (setRow_turns _ _ _) (setRow_heap _ _ _ _ _ _ HL9.out.bf)⟩
                    · have e40 : ((i : Int) == 40) = false := by simp; omega
                      clear h40
                      go_wp2_with fail
                      go_meet
                      case rel => exact ⟨FL, HL9.out⟩
                  case rest =>
                    obtain ⟨FL', hlz⟩ := hcut
                    have HLZ := Lib.hid hlz
                    clear hlz HL9
                    go_wp2_with fail
                    go_loopw [19, 142] (fun _ kk wz => ∃ ka : Nat, ka ≤ N ∧ kk = .int .i64 ka ∧ New wc wz) (fun _ kk _ => N - (intOf kk).toNat)
                    case atStart => exact ⟨0, by omega, rfl, Turns.refl _ _⟩
                    case round =>
                      obtain ⟨ka, hka, rfl, hna⟩ := hrel
                      rename World => wA
                      have HNA := Lib.hid hna
                      clear hna
                      by_cases hla : ka < N
                      · have d5 : decide ((ka : Int) < (N : Int)) = true := decide_eq_true (by omega)
                        go_wp2_with fail
                        go_loopw [20, 146] (fun _ kk wz => ∃ kb : Nat, kb ≤ N ∧ kk = .int .i64 kb ∧ New wc wz) (fun _ kk _ => N - (intOf kk).toNat)
                        case atStart => exact ⟨0, by omega, rfl, HNA.out⟩
                        case round =>
                          obtain ⟨kb, hkb, rfl, hnb⟩ := hrel
                          have HNB := Lib.hid hnb
                          clear hnb
                          by_cases hlb : kb < N
                          · have d6 : decide ((kb : Int) < (N : Int)) = true := decide_eq_true (by omega)
                            have HLB := Lib.hid (HLZ.out.later HNB.out)
                            obtain ⟨sa, fa⟩ := HLB.out.s hla
                            obtain ⟨sb, fb⟩ := HLB.out.s hlb
                            have qa := HLB.out.q hla
                            have qb := HLB.out.q hlb
                            have j0 : (0 : Int) ≤ (ka : Int) := by omega
                            have j1 : (ka : Int) < (N : Int) := by omega
                            have j2 : (0 : Int) ≤ (kb : Int) := by omega
                            have j3 : (kb : Int) < (N : Int) := by omega
                            have hsa := HLB.out.sz ka hla
                            have hsb := HLB.out.sz kb hlb
                            have hfa := HLB.out.fz ka hla
                            have hfb := HLB.out.fz kb hlb
                            have hqa := HQ.out ka
                            have hqb := HQ.out kb
                            have hbd := HLB.out.fa.bd HLB.out.rn.ss.ok HLB.out.rn.ss.ap HQ1.out
                            have hP1 := hbd.near (by omega) HQ1.out hla hlb
                            have hP2 := hbd.near2 HLB.out.bd (by omega) HQ1.out hla hlb
                            have HN1 := Lib.hid (fun W => near_ok _ _ _ _ m W (by omega) (by omega) (by omega) (by omega) (by omega) (by omega) (by omega) (by omega) (by omega) (by omega) hP1)
                            have HN2 := Lib.hid (fun W => near_ok _ _ _ _ m W (by omega) (by omega) (by omega) (by omega) (by omega) (by omega) (by omega) (by omega) (by omega) (by omega) hP2)
                            have W6 : IntKind.i64.wrap (SL'.getD ka 0 - FL'.getD ka 0) = SL'.getD ka 0 - FL'.getD ka 0 := IntWalk.i64_in _ (by omega)
                            have W7 : IntKind.i64.wrap (SL'.getD kb 0 - FL'.getD kb 0) = SL'.getD kb 0 - FL'.getD kb 0 := IntWalk.i64_in _ (by omega)
                            clear hP1 hP2 hbd hsa hsb hfa hfb hqa hqb HLB
                            generalize SL'.getD ka 0 = xa at *
                            generalize SL'.getD kb 0 = xb at *
                            generalize FL'.getD ka 0 = ya at *
                            generalize FL'.getD kb 0 = yb at *
                            generalize q ka = pa at *
                            generalize q kb = pb at *
                            by_cases h40 : 40 ≤ i
                            · have d7 : decide ((40 : Int) ≤ (i : Int)) = true := decide_eq_true (by omega)
                              clear h40
                              go_upto_region 40 with fail
                              go_quiet (first
                                | (go_at_call 27; with_reducible exact Calls.quiet_of_same (HN1.out _))
                                | (go_at_call 27; with_reducible exact Calls.quiet_of_same (HN2.out _)))
                              have HNQ : Hid (New wc (wr.drewN nq)) := Lib.hid (HNB.out.drewN nq)
                              clear HN1 HN2 HNB sa sb fa fb qa qb
                              go_wp2_with fail
                              go_roundw
                              case rel => exact ⟨kb + 1, by omega, by go_num, HNQ.out⟩
                              case measure => simp [intOf]; omega
                            · have d7 : decide ((40 : Int) ≤ (i : Int)) = false := decide_eq_false (by omega)
                              clear h40
                              go_upto_region 40 with fail
                              go_quiet (first
                                | (go_at_call 27; with_reducible exact Calls.quiet_of_same (HN1.out _))
                                | (go_at_call 27; with_reducible exact Calls.quiet_of_same (HN2.out _)))
                              have HNQ : Hid (New wc (wr.drewN nq)) := Lib.hid (HNB.out.drewN nq)
                              clear HN1 HN2 HNB sa sb fa fb qa qb
                              go_wp2_with fail
                              go_roundw
                              case rel => exact ⟨kb + 1, by omega, by go_num, HNQ.out⟩
                              case measure => simp [intOf]; omega
                          · have d9 : decide ((kb : Int) < (N : Int)) = false := decide_eq_false (by omega)
                            clear hkb
                            go_wp2_with fail
                            go_roundw
                            case rel => exact ⟨ka + 1, by omega, by go_num, HNB.out⟩
                            case measure => simp [intOf]; omega
                      · have d9 : decide ((ka : Int) < (N : Int)) = false := decide_eq_false (by omega)
                        clear hka
                        have HLE := Lib.hid (HLZ.out.later HNA.out)
                        clear HLZ HNA
                        go_wp2_with fail
                        go_roundw
                        case rel => exact ⟨i + 1, s6, t', c', SL', FL', by omega, by go_num, HLE.out⟩
                        case measure => simp [intOf]; omega
            · obtain rfl : i = 150 := by omega
              have HNW : Hid (New w wx) := Lib.hid HLW.out.rn.n
              clear HLW
              go_wp2
              go_ret
              exact ⟨rfl, HNW.out.below (Nat.le_refl _) (fun _ _ h => h.elim)⟩
end Go.Proofs.Ytcaloeolmoodbaa.drr
