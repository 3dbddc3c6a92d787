/-
  RatePlays: the law.
-/
import Derived.Test.YtjiodpbgjhoakabRatInv
import Derived.Test.YtjiodpbgjhoakabRactRow
import Derived.Deep.CutBlock
namespace Go.Proofs.Ytjiodpbgjhoakab.rat
open Go.RowKit mem
set_option linter.unusedVariables false

/-- the meter and the list of all that went -/
structure Pl (w wr : World) (p : Nat) (v : Value) (s : M) (lv : Value) (l : List (Int × Int)) : Prop where
  own : Own w wr p v s
  ls : Owns SE RT wr lv l
  lb : ∀ g, lv.ownBlock = some g → w.heap.size ≤ g
  ln : ∀ g, lv.ownBlock = some g → g ≠ p ∧ v.ownBlock ≠ some g
theorem Pl.later {w w1 w2 : World} {p : Nat} {v : Value} {s : M} {lv : Value} {l : List (Int × Int)} (h : Pl w w1 p v s lv l) (n : New w1 w2) : Pl w w2 p v s lv l :=
  ⟨h.own.later n, h.ls.turns n (fun _ _ h => h), h.lb, h.ln⟩
theorem Pl.lft {w w1 w2 : World} {p : Nat} {v v' : Value} {s t : M} {lv : Value} {l : List (Int × Int)} (h : Pl w w1 p v s lv l) (k : Lft w1 w2 p v v' t) : Pl w w2 p v' t lv l :=
  ⟨h.own.lft k, h.ls.turns k.t (fun g hg hf => by
    rcases hf with hf | hf
    · exact (h.ln g hg).1 hf
    · exact (h.ln g hg).2 hf), h.lb, fun g hg => ⟨(h.ln g hg).1, fun e => by
    rcases k.vb g e with e | e
    · exact (h.ln g hg).2 e
    · have := h.ls.lt g hg; omega⟩⟩
theorem Pl.cap {w w1 w2 : World} {p : Nat} {v : Value} {s t : M} {lv : Value} {l : List (Int × Int)} (h : Pl w w1 p v s lv l) (k : Ms w2 p v t) (n : Turns (· = p) w1 w2) : Pl w w2 p v t lv l :=
  ⟨h.own.cap k n, h.ls.turns n (fun g hg e => (h.ln g hg).1 e), h.lb, h.ln⟩
theorem Pl.grow {w w1 w2 : World} {p : Nat} {v : Value} {s : M} {lv lv' : Value} {l l' : List (Int × Int)} (h : Pl w w1 p v s lv l) (ho : Owns SE RT w2 lv' l') (hg : w1.grownBy w2 lv.ownBlock) (ha : lv'.ownBlock = lv.ownBlock ∨ lv'.ownBlock = some w1.heap.size) : Pl w w2 p v s lv' l' := by
  have ht : Turns (fun i => lv.ownBlock = some i) w1 w2 := (Turns.of_grown hg).mono (fun k _ hk => hk.symm)
  have hvlt := h.own.ms.tl.lt
  have hplt := h.own.ms.blk.lt
  refine ⟨⟨⟨ht.blk h.own.ms.blk (fun e => (h.ln p e).1 rfl), h.own.ms.tl.turns ht (fun g hv e => (h.ln g e).2 hv), h.own.ms.ne⟩, h.own.n.trans (ht.mono (fun i _ hi => .inr (h.lb i hi))), h.own.p0, h.own.v0⟩, ho, fun g hg' => ?_, fun g hg' => ?_⟩
  · rcases ha with e | e
    · exact h.lb g (by rw [← e]; exact hg')
    · rw [e] at hg'
      have : w1.heap.size = g := by simpa using hg'
      have := h.own.n.size
      omega
  · rcases ha with e | e
    · exact h.ln g (by rw [← e]; exact hg')
    · rw [e] at hg'
      have e2 : w1.heap.size = g := by simpa using hg'
      exact ⟨by omega, fun e3 => by have := hvlt g e3; omega⟩

abbrev HeldX (w w' : World) (b : Nat) (c : Value) : Prop := New w w' ∧ b < w'.heap.size ∧ w'.cell? ⟨b, 4, none⟩ = some c
theorem heldX_drew {w w' : World} {b : Nat} {c : Value} (h : HeldX w w' b c) : HeldX w w'.drew b c := by
  obtain ⟨hn, h⟩ := h
  exact ⟨hn.drew, h⟩
theorem heldX_nw {w w' : World} {b : Nat} {c : Value} (h : HeldX w w' b c) : New w w' := h.1
theorem heldX_new {w w1 w2 : World} {b : Nat} {c : Value} (k : New w1 w2) (h : HeldX w w1 b c) : HeldX w w2 b c := by
  obtain ⟨hn, hl, h0⟩ := h
  exact ⟨hn.trans (k.mono (fun _ _ h => h.elim)), Nat.lt_of_lt_of_le hl k.size, (k.cell (a := ⟨b, 4, none⟩) hl (fun h => h)).trans h0⟩

set_option maxRecDepth 10000 in
set_option maxHeartbeats 4000000 in
theorem plays_law (a : Int) (ao : Option Addr) (n c : Nat) (z : Nat → Int × Int × Int × Int × Bool) (w : World) (ha : -9223372036854775808 ≤ a) (ha' : a ≤ 9223372036854775807) (h : args.ractRow w ao n c z) :
    Calls Try.prog 3 #[.int .i64 a, .slice ao n c] w fun e w' => e = .returned (.bool true) ∧ Below w.heap.size w w' := by
  have m1 := mask.mask6 a
  obtain ⟨x, hx, hx1⟩ : ∃ x : Nat, a % 64 = (x : Int) ∧ x ≤ 63 := ⟨(a % 64).toNat, by omega, by omega⟩
  rw [hx] at m1
  have HN := Lib.hid (fun w => new_ok (1 + (x : Int)) w (by omega))
  have HA := Lib.hid (fun w => awake w)
  obtain ⟨hn, hok, hrow⟩ := h
  unfold maxLen at hn
  have HOK := Lib.hid hok
  have HROW := Lib.hid hrow
  clear hx hok hrow
  go_enter Try.func3, Try.ntmps3
  go_wp2_with fail
  refine (HN.out _).mono ?_
  rintro e w1 ⟨p, rfl, o1⟩
  have HO1 := Lib.hid o1
  clear HN o1
  go_wp2_with fail
  refine (HA.out _).mono ?_
  rintro e w2 ⟨rfl, n2⟩
  have HP2 : Hid (Pl w (w2.alloc (.cells #[] RT)) p (.slice none 0 0) (fresh (1 + (x : Int))) (.slice (some ⟨w2.heap.size, 0, none⟩) 0 0) []) := Lib.hid (by
    have ho2 := HO1.out.later n2
    refine ⟨ho2.later ((Turns.refl _ _).alloc _), made0 (Blk.new _ _ _), fun g hg => ?_, fun g hg => ?_⟩
    · have e : w2.heap.size = g := by simpa [Value.ownBlock] using hg
      have := ho2.n.size
      omega
    · have e : w2.heap.size = g := by simpa [Value.ownBlock] using hg
      have := ho2.ms.blk.lt
      exact ⟨by omega, fun e => by simp [Value.ownBlock] at e⟩)
  have HI2 := Lib.hid (Inv.start (1 + (x : Int)))
  clear HO1 n2 HA
  go_wp2_with fail
  generalize (w2.alloc (.cells #[] RT)) = w3 at *
  generalize (Value.slice (some ⟨w2.heap.size, 0, none⟩) 0 0) = lv0 at *
  go_loopw [7, 8, 9, 10, 11] (fun lv nw tot mo i wr => ∃ (k : Nat) (now most : Int) (s : M) (l : List (Int × Int)) (v : Value), k ≤ n ∧ k ≤ 200 ∧ nw = .int .i64 now ∧ tot = .int .i64 s.total ∧ mo = .int .i64 most ∧ i = .int .i64 k ∧ Pl w wr p v s lv l ∧ Inv s l (1 + (x : Int)) now most k ∧ 0 ≤ now ∧ now ≤ 15 * k) (fun _ _ _ _ i _ => n - (intOf i).toNat)
  case atStart => exact ⟨0, 0, 0, _, _, _, by omega, by omega, rfl, rfl, rfl, rfl, HP2.out, HI2.out, by omega, by omega⟩
  case round =>
    obtain ⟨k, now, most, s, l, v, hk, hk2, rfl, rfl, rfl, rfl, h3, hi3, hl0, hn1⟩ := hrel
    clear HP2 HI2
    have H3 := Lib.hid h3
    have HI := Lib.hid hi3
    clear h3 hi3
    have hend : k < n → k < 200 → True := fun _ _ => trivial
    by_cases hlt : k < n ∧ k < 200
    · obtain ⟨hlt, hlt2⟩ := hlt
      obtain ⟨b0, off, rfl, hb0, hc⟩ := HROW.out.resolve_left (by omega)
      have hzc := hc k hlt
      have e0 := (H3.out.own.n.cell (a := ⟨b0, off + k * 5, none⟩) hb0 (fun h => h)).trans hzc.1
      have e1 := (H3.out.own.n.cell (a := ⟨b0, off + k * 5 + 1, none⟩) hb0 (fun h => h)).trans hzc.2.1
      have e2 := (H3.out.own.n.cell (a := ⟨b0, off + k * 5 + 2, none⟩) hb0 (fun h => h)).trans hzc.2.2.1
      have e3 := (H3.out.own.n.cell (a := ⟨b0, off + k * 5 + 3, none⟩) hb0 (fun h => h)).trans hzc.2.2.2.1
      have e4 := (H3.out.own.n.cell (a := ⟨b0, off + k * 5 + 4, none⟩) hb0 (fun h => h)).trans hzc.2.2.2.2
      have hzo := HOK.out k hlt
      obtain ⟨bb0, bb1⟩ := bounds_i64 hzo.2.2.1
      obtain ⟨bu0, bu1⟩ := bounds_u64 hzo.2.2.2.1
      have mz := mask.mask4 (z k).2.1
      have y0 : 0 ≤ (z k).2.1 % 16 := by omega
      have y1 : (z k).2.1 % 16 ≤ 15 := by omega
      clear hc hzc HOK HROW hb0 hzo hend
      generalize (z k).2.1 % 16 = d at *
      generalize (z k).2.1 = zn at *
      generalize (z k).2.2.1 = zb at *
      generalize (z k).2.2.2.1 = zu at *
      generalize (z k).2.2.2.2 = zw at *
      generalize (z k).1 = zk at *
      obtain ⟨nw, hnw⟩ : ∃ nw, now + d = nw := ⟨_, rfl⟩
      have hw1 : IntKind.i64.wrap (now + d) = nw := by rw [hnw]; exact IntWalk.i64_in _ (by omega)
      have hnw0 : now ≤ nw ∧ nw ≤ now + 15 := by omega
      obtain ⟨nw0, nw1⟩ := hnw0
      have HI4 : Hid (Inv s l (1 + (x : Int)) nw most k) := Lib.hid (HI.out.on nw0 (Nat.le_refl _))
      have HNB : Hid (Blk (wr.alloc (.cells #[.int .i64 zk, .int .i64 zn, .int .i64 zb, .int .u64 zu, .bool zw] 31)) wr.heap.size #[.int .i64 zk, .int .i64 zn, .int .i64 zb, .int .u64 zu, .bool zw] 31) := Lib.hid (Blk.new _ _ _)
      have H4 : Hid (Pl w (wr.alloc (.cells #[.int .i64 zk, .int .i64 zn, .int .i64 zb, .int .u64 zu, .bool zw] 31)) p v s u7 l) := Lib.hid (H3.out.later ((Turns.refl _ _).alloc _))
      have HPB : Hid (p < wr.heap.size ∧ (∀ g, v.ownBlock = some g → g < wr.heap.size) ∧ (∀ g, u7.ownBlock = some g → g < wr.heap.size)) := Lib.hid ⟨H3.out.own.ms.blk.lt, H3.out.own.ms.tl.lt, H3.out.ls.lt⟩
      clear hnw HI
      have HTAIL : Hid (∀ (w6 : World) (s6 : M) (l6 : List (Int × Int)) (v6 lv6 : Value) (most6 : Int), Pl w w6 p v6 s6 lv6 l6 → Inv s6 l6 (1 + (x : Int)) nw most6 (k + 1) →
          (∀ W, New w6 W → Calls Try.prog 11 #[.pointer (some ⟨p, 0, none⟩), .int .i64 nw] W fun e w' => e = .returned (.int .i64 (rateQ s6 nw)) ∧ New W w') ∧
          (∀ W, New w6 W → Calls Try.prog 12 #[lv6, .int .i64 (1 + (x : Int)), .int .i64 nw] W fun e w' => e = .returned (.int .i64 (rateQ s6 nw)) ∧ New W w') ∧
          (∀ W, New w6 W → Calls Try.prog 13 #[.pointer (some ⟨p, 0, none⟩), .int .i64 nw, .bool zw] W fun e w' => e = .returned (.int .i64 (guessF s6 zw (rateQ s6 nw))) ∧ New W w') ∧
          (∀ W, New w6 W → Calls Try.prog 14 #[lv6, .int .i64 (1 + (x : Int)), .int .i64 nw, .int .i64 most6, .bool zw] W fun e w' => e = .returned (.int .i64 (guessF s6 zw (rateQ s6 nw))) ∧ New W w') ∧
          (∀ W, New w6 W → Calls Try.prog 15 #[.pointer (some ⟨p, 0, none⟩)] W fun e w' => e = .returned (.int .i64 s6.total) ∧ w' = W)) := Lib.hid (fun w6 s6 l6 v6 lv6 most6 hp hi => by
        have hok := hi.ok (by omega) (by omega) (by omega)
        have hol := hi.okl (by omega)
        have c0 := hi.c0
        have c1 := hi.c1
        refine ⟨fun W N => rateq p v6 s6 nw W (hp.later N).own.ms hok (by omega) (by omega), fun W N => ?_, fun W N => guessq p v6 s6 nw zw W (hp.later N).own.ms hok (by omega) (by omega), fun W N => ?_, fun W N => total p v6 s6 W (hp.later N).own.ms⟩
        · rw [hi.rate]
          exact rrate lv6 l6 _ nw nw W (hp.later N).ls hol (by omega) (by omega) (by omega) (by omega) (by omega)
        · rw [hi.guess zw]
          exact rguess lv6 l6 _ nw most6 nw zw W (hp.later N).ls hol (by omega) (by omega) (by omega) (by omega) (by omega) c0 c1)
      have hkind : zk = 1 ∨ zk = 2 ∨ (zk ≠ 1 ∧ zk ≠ 2) := by omega
      rcases hkind with rfl | rfl | ⟨hz1, hz2⟩
      · clear bu0 bu1
        obtain ⟨cb, hcb⟩ : ∃ cb, clampB zb = cb := ⟨_, rfl⟩
        obtain ⟨mx, hmx, hmx2⟩ : ∃ mx, (if zb < 0 then 0 else zb) = mx ∧ max zb 0 = mx := ⟨_, rfl, by split <;> omega⟩
        have hmn : (if 1073741824 < mx then 1073741824 else mx) = cb := by rw [← hcb]; unfold clampB; rw [hmx2]; split <;> omega
        have hcb0 : 0 ≤ cb ∧ cb ≤ 1073741824 := by rw [← hcb]; unfold clampB; omega
        obtain ⟨cb0, cb1⟩ := hcb0
        have HI6 := Lib.hid (HI4.out.add (by omega) zb)
        rw [hcb] at HI6
        have HT : Hid ((addQ s nw zb).total = s.total + cb ∧ 0 ≤ s.total ∧ s.total ≤ 214748364800) := Lib.hid ⟨by rw [← hcb]; rfl, HI4.out.t0, by have := HI4.out.t1; omega⟩
        have HADD := Lib.hid (fun W (N : Pl w W p v s u7 l) => addq p v s nw zb W N.own.ms (HI4.out.ok (by omega) (by omega) (by omega)) (by omega) (by omega) bb0 bb1)
        have HLEN : Hid (l.length + 1 ≤ 1048576) := Lib.hid (by have := HI4.out.ll; omega)
        clear hmx2 hcb HI4
        generalize addQ s nw zb = s6 at *
        go_wp2_with fail
        refine (HADD.out _ H4.out).mono ?_
        rintro e w5 ⟨rfl, v5, l5⟩
        have H5 := Lib.hid (H4.out.lft l5)
        have hpb := l5.t.blk HNB.out (by have := HPB.out.1; have := HPB.out.2.1; intro hf; rcases hf with hf | hf; · omega
                                         · have := HPB.out.2.1 _ hf; omega)
        have HB5 := Lib.hid hpb
        have b2 : w5.cell? ⟨wr.heap.size, 2, none⟩ = some (.int .i64 zb) := hpb.cell 2
        clear HADD H4 HNB l5 hpb e0 e1 e2 e3 e4
        have HLS : Hid (Owns SE RT (w5.alloc (.cells #[.int .i64 nw, .int .i64 cb] RT)) u7 l) := Lib.hid (H5.out.later ((Turns.refl _ _).alloc _)).ls
        have HP6 : Hid (Pl w (w5.alloc (.cells #[.int .i64 nw, .int .i64 cb] RT)) p v5 s6 u7 l) := Lib.hid (H5.out.later ((Turns.refl _ _).alloc _))
        have HBB : Hid ((w5.alloc (.cells #[.int .i64 nw, .int .i64 cb] RT)).heap[w5.heap.size]? = some (.cells (SE.cs (nw, cb)).toArray RT (0, 0))) := Lib.hid (Blk.new w5 #[.int .i64 nw, .int .i64 cb] RT)
        have HB6 : Hid (Blk (w5.alloc (.cells #[.int .i64 nw, .int .i64 cb] RT)) wr.heap.size _ _) := Lib.hid (HB5.out.alloc _)
        obtain ⟨ht, ht0, ht1⟩ := HT.out
        have hw2 : IntKind.i64.wrap (s.total + cb) = s6.total := by rw [ht]; exact IntWalk.i64_in _ (by omega)
        clear HT ht
        generalize s.total = st at *
        go_wp2_with (at_builtin; refine wpList_append_one (E := SE) Try.underlying28 infoR rfl (by decide) (by decide) rfl _ _ rfl u7 l (nw, cb) rfl HLS.out _ rfl HBB.out HLEN.out ?_)
        intro lv6 w6 hown hgrow hat
        have H6 : Hid (Pl w w6 p v5 s6 lv6 (l ++ [(nw, cb)])) := Lib.hid (HP6.out.grow hown hgrow (by simpa using hat))
        have hb6 := ((Turns.of_grown hgrow)).blk HB6.out (fun hf => by have := HPB.out.2.2 _ hf.symm; omega)
        have b4 : w6.cell? ⟨wr.heap.size, 4, none⟩ = some (.bool zw) := hb6.cell 4
        have hbl := hb6.lt
        obtain ⟨t1, t2, t3, t4, t5⟩ := HTAIL.out _ _ _ _ _ _ H6.out HI6.out
        have T1 := Lib.hid t1
        have T2 := Lib.hid t2
        have T3 := Lib.hid t3
        have T4 := Lib.hid t4
        have T5 := Lib.hid t5
        have HH : Hid (HeldX w6 w6 wr.heap.size (.bool zw)) := Lib.hid ⟨Turns.refl _ _, hbl, b4⟩
        clear HTAIL HP6 HLS HBB HB6 HB5 HPB b2 hown hgrow hat hb6 t1 t2 t3 t4 t5 HLEN H5 hmx hmn
        generalize wr.heap.size = pb at *
        generalize hrr : rateQ s6 nw = R at *
        have HRR := Lib.hid hrr
        clear hrr
        generalize guessF s6 zw R = G at *
        go_upto_region 21 with fail
        go_region_held (fun w' => New w6 w' ∧ pb < w'.heap.size ∧ w'.cell? ⟨pb, 4, none⟩ = some (.bool zw))
          (first
            | (with_reducible assumption)
            | ((with_reducible refine heldX_drew ?_); with_reducible assumption)
            | (with_reducible exact heldX_drew HH.out)
            | (with_reducible exact HH.out)
            | ((with_reducible refine heldX_new hnq ?_); with_reducible assumption)
            | ((with_reducible refine heldX_new hnq (heldX_drew ?_)); with_reducible assumption))
          (first
            | (go_at_call 11; (with_reducible refine Calls.mono (T1.out _ ?_) ?_); (focus (first | (with_reducible apply heldX_nw; assumption) | (with_reducible apply heldX_nw; with_reducible apply heldX_drew; assumption))); rintro en wq ⟨rfl, hnq⟩)
            | (go_at_call 12; (with_reducible refine Calls.mono (T2.out _ ?_) ?_); (focus (first | (with_reducible apply heldX_nw; assumption) | (with_reducible apply heldX_nw; with_reducible apply heldX_drew; assumption))); rintro en wq ⟨rfl, hnq⟩)
            | (go_at_call 13; (with_reducible refine Calls.mono (T3.out _ ?_) ?_); (focus (first | (with_reducible apply heldX_nw; assumption) | (with_reducible apply heldX_nw; with_reducible apply heldX_drew; assumption))); rintro en wq ⟨rfl, hnq⟩)
            | (go_at_call 14; (with_reducible refine Calls.mono (T4.out _ ?_) ?_); (focus (first | (with_reducible apply heldX_nw; assumption) | (with_reducible apply heldX_nw; with_reducible apply heldX_drew; assumption))); rintro en wq ⟨rfl, hnq⟩)
            | (go_at_call 15; (with_reducible refine Calls.mono (T5.out _ ?_) ?_); (focus (first | (with_reducible apply heldX_nw; assumption) | (with_reducible apply heldX_nw; with_reducible apply heldX_drew; assumption))); rintro en wq ⟨rfl, rfl⟩))
        rename_i hHl
        go_wp2
        go_roundw
        case rel => exact ⟨k + 1, nw, _, s6, _, _, by omega, by omega, rfl, rfl, rfl, by go_num, H6.out.later hHl.1, HI6.out, by omega, by omega⟩
        case measure => simp [intOf]; omega
      · clear bb0 bb1
        obtain ⟨cc, hcc⟩ : ∃ cc, min (zu / 8) 1099511627776 = cc := ⟨_, rfl⟩
        have hmn : (if 1099511627776 < zu / 8 then 1099511627776 else zu / 8) = cc := by rw [← hcc]; split <;> omega
        have hcc0 : 0 ≤ cc ∧ cc ≤ 1099511627776 := by omega
        obtain ⟨cc0, cc1⟩ := hcc0
        have hwc : IntKind.i64.wrap cc = cc := IntWalk.i64_in _ (by omega)
        have HI6 := Lib.hid ((HI4.out.capped cc cc0 cc1).on (Int.le_refl _) (Nat.le_succ k))
        have HCP := Lib.hid (fun W (N : Pl w W p v s u7 l) => cap p v s zu W N.own.ms bu0 bu1)
        have HST : Hid ({ s with cap := cc : M }.total = s.total) := Lib.hid rfl
        rw [hcc] at HCP
        clear hcc HI4
        obtain ⟨s6, hs6⟩ : ∃ s6 : M, { s with cap := cc : M } = s6 := ⟨_, rfl⟩
        have HS6 := Lib.hid hs6
        rw [hs6] at HCP HI6 HST
        clear hs6
        go_wp2_with fail
        refine (HCP.out _ H4.out).mono ?_
        rintro e w6 ⟨rfl, m6, n6⟩
        have H6 := Lib.hid (H4.out.cap m6 n6)
        have hpb := n6.blk HNB.out (by have := HPB.out.1; omega)
        have b3 : w6.cell? ⟨wr.heap.size, 3, none⟩ = some (.int .u64 zu) := hpb.cell 3
        have b4 : w6.cell? ⟨wr.heap.size, 4, none⟩ = some (.bool zw) := hpb.cell 4
        have hbl := hpb.lt
        obtain ⟨t1, t2, t3, t4, t5⟩ := HTAIL.out _ _ _ _ _ _ H6.out HI6.out
        rw [HST.out] at t5
        have T1 := Lib.hid t1
        have T2 := Lib.hid t2
        have T3 := Lib.hid t3
        have T4 := Lib.hid t4
        have T5 := Lib.hid t5
        have HH : Hid (HeldX w6 w6 wr.heap.size (.bool zw)) := Lib.hid ⟨Turns.refl _ _, hbl, b4⟩
        have HTT : Hid (s.total = s6.total) := Lib.hid HST.out.symm
        clear HTAIL HCP H4 HNB HPB m6 n6 hpb t1 t2 t3 t4 t5 e0 e1 e2 e3 e4 HS6 HST
        generalize wr.heap.size = pb at *
        generalize hrr : rateQ s6 nw = R at *
        have HRR := Lib.hid hrr
        clear hrr
        generalize guessF s6 zw R = G at *
        go_upto_region 21 with fail
        go_region_held (fun w' => New w6 w' ∧ pb < w'.heap.size ∧ w'.cell? ⟨pb, 4, none⟩ = some (.bool zw))
          (first
            | (with_reducible assumption)
            | ((with_reducible refine heldX_drew ?_); with_reducible assumption)
            | (with_reducible exact heldX_drew HH.out)
            | (with_reducible exact HH.out)
            | ((with_reducible refine heldX_new hnq ?_); with_reducible assumption)
            | ((with_reducible refine heldX_new hnq (heldX_drew ?_)); with_reducible assumption))
          (first
            | (go_at_call 11; (with_reducible refine Calls.mono (T1.out _ ?_) ?_); (focus (first | (with_reducible apply heldX_nw; assumption) | (with_reducible apply heldX_nw; with_reducible apply heldX_drew; assumption))); rintro en wq ⟨rfl, hnq⟩)
            | (go_at_call 12; (with_reducible refine Calls.mono (T2.out _ ?_) ?_); (focus (first | (with_reducible apply heldX_nw; assumption) | (with_reducible apply heldX_nw; with_reducible apply heldX_drew; assumption))); rintro en wq ⟨rfl, hnq⟩)
            | (go_at_call 13; (with_reducible refine Calls.mono (T3.out _ ?_) ?_); (focus (first | (with_reducible apply heldX_nw; assumption) | (with_reducible apply heldX_nw; with_reducible apply heldX_drew; assumption))); rintro en wq ⟨rfl, hnq⟩)
            | (go_at_call 14; (with_reducible refine Calls.mono (T4.out _ ?_) ?_); (focus (first | (with_reducible apply heldX_nw; assumption) | (with_reducible apply heldX_nw; with_reducible apply heldX_drew; assumption))); rintro en wq ⟨rfl, hnq⟩)
            | (go_at_call 15; (with_reducible refine Calls.mono (T5.out _ ?_) ?_); (focus (first | (with_reducible apply heldX_nw; assumption) | (with_reducible apply heldX_nw; with_reducible apply heldX_drew; assumption))); rintro en wq ⟨rfl, rfl⟩))
        rename_i hHl
        go_wp2
        go_roundw
        case rel => exact ⟨k + 1, nw, _, s6, _, _, by omega, by omega, rfl, by rw [HTT.out], rfl, by go_num, H6.out.later hHl.1, HI6.out, by omega, by omega⟩
        case measure => simp [intOf]; omega
      · have q1 : (zk == 1) = false := by simp [hz1]
        have q2 : (zk == 2) = false := by simp [hz2]
        have HI6 := Lib.hid (HI4.out.on (Int.le_refl _) (Nat.le_succ k))
        obtain ⟨t1, t2, t3, t4, t5⟩ := HTAIL.out _ _ _ _ _ _ H4.out HI6.out
        have T1 := Lib.hid t1
        have T2 := Lib.hid t2
        have T3 := Lib.hid t3
        have T4 := Lib.hid t4
        have T5 := Lib.hid t5
        have HH : Hid (HeldX (wr.alloc (.cells #[.int .i64 zk, .int .i64 zn, .int .i64 zb, .int .u64 zu, .bool zw] 31)) (wr.alloc (.cells #[.int .i64 zk, .int .i64 zn, .int .i64 zb, .int .u64 zu, .bool zw] 31)) wr.heap.size (.bool zw)) := Lib.hid ⟨Turns.refl _ _, HNB.out.lt, HNB.out.cell 4⟩
        have H6 := H4
        clear HTAIL HI4 t1 t2 t3 t4 t5 hz1 hz2
        go_upto_region 21 with fail
        have b4 : (wr.alloc (.cells #[.int .i64 zk, .int .i64 zn, .int .i64 zb, .int .u64 zu, .bool zw] 31)).cell? ⟨wr.heap.size, 4, none⟩ = some (.bool zw) := HNB.out.cell 4
        clear e0 e1 e2 e3 e4 HNB HPB H4
        generalize (wr.alloc (.cells #[.int .i64 zk, .int .i64 zn, .int .i64 zb, .int .u64 zu, .bool zw] 31)) = w6 at *
        generalize wr.heap.size = pb at *
        generalize hrr : rateQ s nw = R at *
        have HRR := Lib.hid hrr
        clear hrr
        generalize guessF s zw R = G at *
        go_region_held (fun w' => New w6 w' ∧ pb < w'.heap.size ∧ w'.cell? ⟨pb, 4, none⟩ = some (.bool zw))
          (first
            | (with_reducible assumption)
            | ((with_reducible refine heldX_drew ?_); with_reducible assumption)
            | (with_reducible exact heldX_drew HH.out)
            | (with_reducible exact HH.out)
            | ((with_reducible refine heldX_new hnq ?_); with_reducible assumption)
            | ((with_reducible refine heldX_new hnq (heldX_drew ?_)); with_reducible assumption))
          (first
            | (go_at_call 11; (with_reducible refine Calls.mono (T1.out _ ?_) ?_); (focus (first | (with_reducible apply heldX_nw; assumption) | (with_reducible apply heldX_nw; with_reducible apply heldX_drew; assumption))); rintro en wq ⟨rfl, hnq⟩)
            | (go_at_call 12; (with_reducible refine Calls.mono (T2.out _ ?_) ?_); (focus (first | (with_reducible apply heldX_nw; assumption) | (with_reducible apply heldX_nw; with_reducible apply heldX_drew; assumption))); rintro en wq ⟨rfl, hnq⟩)
            | (go_at_call 13; (with_reducible refine Calls.mono (T3.out _ ?_) ?_); (focus (first | (with_reducible apply heldX_nw; assumption) | (with_reducible apply heldX_nw; with_reducible apply heldX_drew; assumption))); rintro en wq ⟨rfl, hnq⟩)
            | (go_at_call 14; (with_reducible refine Calls.mono (T4.out _ ?_) ?_); (focus (first | (with_reducible apply heldX_nw; assumption) | (with_reducible apply heldX_nw; with_reducible apply heldX_drew; assumption))); rintro en wq ⟨rfl, hnq⟩)
            | (go_at_call 15; (with_reducible refine Calls.mono (T5.out _ ?_) ?_); (focus (first | (with_reducible apply heldX_nw; assumption) | (with_reducible apply heldX_nw; with_reducible apply heldX_drew; assumption))); rintro en wq ⟨rfl, rfl⟩))
        rename_i hHl
        go_wp2
        go_roundw
        case rel => exact ⟨k + 1, nw, _, s, _, _, by omega, by omega, rfl, rfl, rfl, by go_num, H6.out.later hHl.1, HI6.out, by omega, by omega⟩
        case measure => simp [intOf]; omega
    · have HE := Lib.hid HI.out.end
      have hok := HI.out.ok (by omega) (by omega) (by omega)
      have HR := Lib.hid (rateq p v s (now + (1 + (x : Int))) wr H3.out.own.ms hok (by omega) (by omega))
      have HG := Lib.hid (fun W (N : New wr W) => guessq p v s (now + (1 + (x : Int))) true W (H3.out.own.later N).ms hok (by omega) (by omega))
      rw [HE.out.1] at HR
      rw [HE.out.2] at HG
      have hc : ¬ k < n ∨ (k < n ∧ ¬ k < 200) := by omega
      clear hok hend hlt HROW HOK HE HI
      rcases hc with hc | ⟨hc, hc2⟩
      all_goals
        go_wp2_with fail
        refine HR.out.mono ?_
        rintro e w4 ⟨rfl, n4⟩
        have HN4 := Lib.hid n4
        clear n4
        go_wp2_with fail
        refine (HG.out _ HN4.out).mono ?_
        rintro e w5 ⟨rfl, n5⟩
        have HF := Lib.hid ((H3.out.own.later HN4.out).later n5).below
        clear n5
        go_wp2
        go_ret
        exact ⟨rfl, HF.out⟩
end Go.Proofs.Ytjiodpbgjhoakab.rat
